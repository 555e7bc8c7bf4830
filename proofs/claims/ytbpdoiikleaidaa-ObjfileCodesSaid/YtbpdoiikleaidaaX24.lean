/- The program's reading: a Rel. (written by mk_kg.py) -/
import Derived.Test.YtbpdoiikleaidaaX23
set_option linter.unusedVariables false
set_option linter.unusedSimpArgs false
namespace Go.Proofs.Ytbpdoiikleaidaa
open Go Go.RowKit Oj Pk Of

section
variable {w0 w w' : World} {p : Nat} {r r2 : Rd} {t : TypeId} {zs : List Value}
set_option maxHeartbeats 4000000 in
set_option maxRecDepth 100000 in
theorem grel_any (w : World) (h : RpAt w p r) (hS : r.S.length ≤ 4194304) : Calls Try.prog 66 #[rdg p] w (GPost w p (.agg (rlCells (rdR r).1).toArray) (rdR r).2) := by
  have HD0 := Lib.hid (Gr.new h 49 [.int .u32 0, .int .u8 0, .string ⟨#[]⟩, .int .u32 0]).drew
  have hq0 : r.S.length ≤ 4194304 := hS
  obtain ⟨q0, hr0⟩ : ∃ q, q = r := ⟨_, rfl⟩
  rw [← hr0] at hq0 HD0
  obtain ⟨y0, hy0⟩ : ∃ y, y = (num q0 4).1 := ⟨_, rfl⟩
  obtain ⟨q1, hr1⟩ : ∃ q, q = (num q0 4).2 := ⟨_, rfl⟩
  have HC0 : Hid (∀ W, RpAt W p q0 → Calls Try.prog 63 #[rdg p, .int .i64 4] W (GPost W p (.int .u32 (y0 : Nat)) q1)) := Lib.hid (fun W hW => by rw [hy0, hr1]; exact gnum_any 4 W hW (by omega))
  have hq1 : q1.S.length ≤ 4194304 := by rw [hr1]; exact Nat.le_trans (num_len 4) hq0
  obtain ⟨y1, hy1⟩ : ∃ y, y = (num q1 1).1 := ⟨_, rfl⟩
  obtain ⟨q2, hr2⟩ : ∃ q, q = (num q1 1).2 := ⟨_, rfl⟩
  have HC1 : Hid (∀ W, RpAt W p q1 → Calls Try.prog 64 #[rdg p] W (GPost W p (.int .u8 (y1 : Nat)) q2)) := Lib.hid (fun W hW => by rw [hy1, hr2]; exact gsmall_any W hW (by omega))
  have hq2 : q2.S.length ≤ 4194304 := by rw [hr2]; exact Nat.le_trans (num_len 1) hq1
  obtain ⟨y2, hy2⟩ : ∃ y, y = tx (text q2).1 := ⟨_, rfl⟩
  obtain ⟨q3, hr3⟩ : ∃ q, q = (text q2).2 := ⟨_, rfl⟩
  have HC2 : Hid (∀ W, RpAt W p q2 → Calls Try.prog 44 #[rdg p] W (GPost W p (.string y2) q3)) := Lib.hid (fun W hW => by rw [hy2, hr3]; exact gtext_any W hW (by omega))
  have hq3 : q3.S.length ≤ 4194304 := by rw [hr3]; exact Nat.le_trans text_len hq2
  obtain ⟨y3, hy3⟩ : ∃ y, y = (num q3 4).1 := ⟨_, rfl⟩
  obtain ⟨q4, hr4⟩ : ∃ q, q = (num q3 4).2 := ⟨_, rfl⟩
  have HC3 : Hid (∀ W, RpAt W p q3 → Calls Try.prog 63 #[rdg p, .int .i64 4] W (GPost W p (.int .u32 (y3 : Nat)) q4)) := Lib.hid (fun W hW => by rw [hy3, hr4]; exact gnum_any 4 W hW (by omega))
  have hq4 : q4.S.length ≤ 4194304 := by rw [hr4]; exact Nat.le_trans (num_len 4) hq3
  have HV : Hid (rdR r = (⟨(y0 : Int), (y1 : Int), by' y2, (y3 : Int)⟩, q4)) := Lib.hid (by rw [hr4]; rw [hy3, hr3, hy2, hr2, hy1, hr1, hy0, hr0]; (try simp only [by_tx]); rfl)
  have HX : Hid (rlCells (rdR r).1 = [.int .u32 (y0 : Int), .int .u8 (y1 : Int), .string y2, .int .u32 (y3 : Int)] ∧ (rdR r).2 = q4) := Lib.hid (by rw [HV.out]; exact ⟨by first | rfl | simp only [rlCells, tx_by], rfl⟩)
  rw [HX.out.1, HX.out.2]
  have hS0 := Gr.bx HD0.out
  have hS1 := hS0.cell 0
  simp only [List.getElem?_cons_zero] at hS1
  have HCell := Lib.hid (fun (W : World) (q : Rd) (d : Gr w W p q 49 [.int .u32 0, .int .u8 0, .string ⟨#[]⟩, .int .u32 0]) => d.bx.cell 0)
  simp only [List.getElem?_cons_zero] at HCell
  unfold GPost at HC0 HC1 HC2 HC3
  unfold rdg at HC0 HC1 HC2 HC3 ⊢
  clear HV HX hS h hS0 hr0 hy0 hr1 hq0 hy1 hr2 hq1 hy2 hr3 hq2 hy3 hr4 hq3 hq4
  go_enter Try.func66, Try.ntmps66
  go_upto_region 1 with (fail)
  go_region_held3 (fun w' => w'.cell? ⟨w.heap.size, 0, none⟩ = some (.pointer (some ⟨p, 0, none⟩)))
    (first | exact hS1 | exact hS2 | exact hS3 | exact hS4 | exact hS5 | (repeat rw [World.cell?_setCell_far _ _ _ _ (Nat.succ_ne_self w.heap.size)]) <;> exact hS5)
    ((first
      | (go_at_call 63; refine (HC0.out _ HD0.out.rd).mono ?_; rintro e w1 ⟨rfl, hr, hg⟩; have HD1 := Lib.hid (HD0.out.read hr hg); have hS2 := HCell.out _ _ HD1.out; clear hr hg HC0 HD0)
      | (go_at_call 64; refine (HC1.out _ HD1.out.rd).mono ?_; rintro e w2 ⟨rfl, hr, hg⟩; have HD2 := Lib.hid (HD1.out.read hr hg); have hS3 := HCell.out _ _ HD2.out; clear hr hg HC1 HD1)
      | (go_at_call 44; refine (HC2.out _ HD2.out.rd).mono ?_; rintro e w3 ⟨rfl, hr, hg⟩; have HD3 := Lib.hid (HD2.out.read hr hg); have hS4 := HCell.out _ _ HD3.out; clear hr hg HC2 HD2)
      | (go_at_call 63; refine (HC3.out _ HD3.out.rd).mono ?_; rintro e w4 ⟨rfl, hr, hg⟩; have HD4 := Lib.hid (HD3.out.read hr hg); have hS5 := HCell.out _ _ HD4.out; clear hr hg HC3 HD3; have x0 : w4.cell? ⟨w.heap.size + 1, 0, none⟩ = some (.int .u32 0) := HD4.out.res.cell 0; have f0 : w4.frozen? ⟨w.heap.size + 1, 0, none⟩ = false := HD4.out.res.frozen 0; have x1 : w4.cell? ⟨w.heap.size + 1, 1, none⟩ = some (.int .u8 0) := HD4.out.res.cell 1; have f1 : w4.frozen? ⟨w.heap.size + 1, 1, none⟩ = false := HD4.out.res.frozen 1; have x2 : w4.cell? ⟨w.heap.size + 1, 2, none⟩ = some (.string ⟨#[]⟩) := HD4.out.res.cell 2; have f2 : w4.frozen? ⟨w.heap.size + 1, 2, none⟩ = false := HD4.out.res.frozen 2; have x3 : w4.cell? ⟨w.heap.size + 1, 3, none⟩ = some (.int .u32 0) := HD4.out.res.cell 3; have f3 : w4.frozen? ⟨w.heap.size + 1, 3, none⟩ = false := HD4.out.res.frozen 3; have z2 : w.heap.size + 1 < w4.heap.size := HD4.out.res.lt)))
  have HY := ((((HD4.out.res.set_ 0 (.int .u32 (y0 : Int))).set_ 1 (.int .u8 (y1 : Int))).set_ 2 (.string y2)).set_ 3 (.int .u32 (y3 : Int)))
  have HG := (gb_new (gb_new (gb_new (gb_new HD4.out.gr (grown_set _ (w.heap.size + 1) 0 (.int .u32 (y0 : Int))) (fun k hk => by cases hk; omega)) (grown_set _ (w.heap.size + 1) 1 (.int .u8 (y1 : Int))) (fun k hk => by cases hk; omega)) (grown_set _ (w.heap.size + 1) 2 (.string y2)) (fun k hk => by cases hk; omega)) (grown_set _ (w.heap.size + 1) 3 (.int .u32 (y3 : Int))) (fun k hk => by cases hk; omega))
  have HR : RpAt _ p q4 := (Blk.far (Blk.far (Blk.far (Blk.far HD4.out.rd (p := ⟨w.heap.size + 1, 0, none⟩) (by have := HD4.out.lp; simp only; omega) (.int .u32 (y0 : Int))) (p := ⟨w.heap.size + 1, 1, none⟩) (by have := HD4.out.lp; simp only; omega) (.int .u8 (y1 : Int))) (p := ⟨w.heap.size + 1, 2, none⟩) (by have := HD4.out.lp; simp only; omega) (.string y2)) (p := ⟨w.heap.size + 1, 3, none⟩) (by have := HD4.out.lp; simp only; omega) (.int .u32 (y3 : Int)))
  go_wp2_with fail
  refine bodyPost_ret (v := .agg #[.int .u32 (y0 : Int), .int .u8 (y1 : Int), .string y2, .int .u32 (y3 : Int)]) (results_cell_row Try.results66 _ _ (w.heap.size + 1) 49 _ (0, 0) _ rfl HY Try.underlying49 rfl (by kernel_rfl)) rfl ⟨rfl, HR, HG⟩
end
end Go.Proofs.Ytbpdoiikleaidaa
