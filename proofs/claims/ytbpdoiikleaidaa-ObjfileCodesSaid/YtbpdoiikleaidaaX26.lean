/- The program's reading: a Note. (written by mk_kg.py) -/
import Derived.Test.YtbpdoiikleaidaaX23
set_option linter.unusedVariables false
set_option linter.unusedSimpArgs false
namespace Go.Proofs.Ytbpdoiikleaidaa
open Go Go.RowKit Oj Pk Of

section
variable {w0 w w' : World} {p : Nat} {r r2 : Rd} {t : TypeId} {zs : List Value}
set_option maxHeartbeats 4000000 in
set_option maxRecDepth 100000 in
theorem gnote_any (w : World) (h : RpAt w p r) (hS : r.S.length ≤ 4194304) : Calls Try.prog 68 #[rdg p] w (GPost w p (.agg (ntCells (rdN r).1).toArray) (rdN r).2) := by
  have HD0 := Lib.hid (Gr.new h 65 [.int .u8 0, .int .u32 0, .int .u32 0]).drew
  have hq0 : r.S.length ≤ 4194304 := hS
  obtain ⟨q0, hr0⟩ : ∃ q, q = r := ⟨_, rfl⟩
  rw [← hr0] at hq0 HD0
  obtain ⟨y0, hy0⟩ : ∃ y, y = (num q0 1).1 := ⟨_, rfl⟩
  obtain ⟨q1, hr1⟩ : ∃ q, q = (num q0 1).2 := ⟨_, rfl⟩
  have HC0 : Hid (∀ W, RpAt W p q0 → Calls Try.prog 64 #[rdg p] W (GPost W p (.int .u8 (y0 : Nat)) q1)) := Lib.hid (fun W hW => by rw [hy0, hr1]; exact gsmall_any W hW (by omega))
  have hq1 : q1.S.length ≤ 4194304 := by rw [hr1]; exact Nat.le_trans (num_len 1) hq0
  obtain ⟨y1, hy1⟩ : ∃ y, y = (num q1 4).1 := ⟨_, rfl⟩
  obtain ⟨q2, hr2⟩ : ∃ q, q = (num q1 4).2 := ⟨_, rfl⟩
  have HC1 : Hid (∀ W, RpAt W p q1 → Calls Try.prog 63 #[rdg p, .int .i64 4] W (GPost W p (.int .u32 (y1 : Nat)) q2)) := Lib.hid (fun W hW => by rw [hy1, hr2]; exact gnum_any 4 W hW (by omega))
  have hq2 : q2.S.length ≤ 4194304 := by rw [hr2]; exact Nat.le_trans (num_len 4) hq1
  obtain ⟨y2, hy2⟩ : ∃ y, y = (num q2 4).1 := ⟨_, rfl⟩
  obtain ⟨q3, hr3⟩ : ∃ q, q = (num q2 4).2 := ⟨_, rfl⟩
  have HC2 : Hid (∀ W, RpAt W p q2 → Calls Try.prog 63 #[rdg p, .int .i64 4] W (GPost W p (.int .u32 (y2 : Nat)) q3)) := Lib.hid (fun W hW => by rw [hy2, hr3]; exact gnum_any 4 W hW (by omega))
  have hq3 : q3.S.length ≤ 4194304 := by rw [hr3]; exact Nat.le_trans (num_len 4) hq2
  have HV : Hid (rdN r = (⟨(y0 : Int), (y1 : Int), (y2 : Int)⟩, q3)) := Lib.hid (by rw [hr3]; rw [hy2, hr2, hy1, hr1, hy0, hr0]; (try simp only [by_tx]); rfl)
  have HX : Hid (ntCells (rdN r).1 = [.int .u8 (y0 : Int), .int .u32 (y1 : Int), .int .u32 (y2 : Int)] ∧ (rdN r).2 = q3) := Lib.hid (by rw [HV.out]; exact ⟨by first | rfl | simp only [ntCells, tx_by], rfl⟩)
  rw [HX.out.1, HX.out.2]
  have hS0 := Gr.bx HD0.out
  have hS1 := hS0.cell 0
  simp only [List.getElem?_cons_zero] at hS1
  have HCell := Lib.hid (fun (W : World) (q : Rd) (d : Gr w W p q 65 [.int .u8 0, .int .u32 0, .int .u32 0]) => d.bx.cell 0)
  simp only [List.getElem?_cons_zero] at HCell
  unfold GPost at HC0 HC1 HC2
  unfold rdg at HC0 HC1 HC2 ⊢
  clear HV HX hS h hS0 hr0 hy0 hr1 hq0 hy1 hr2 hq1 hy2 hr3 hq2 hq3
  go_enter Try.func68, Try.ntmps68
  go_upto_region 1 with (fail)
  go_region_held3 (fun w' => w'.cell? ⟨w.heap.size, 0, none⟩ = some (.pointer (some ⟨p, 0, none⟩)))
    (first | exact hS1 | exact hS2 | exact hS3 | exact hS4 | (repeat rw [World.cell?_setCell_far _ _ _ _ (Nat.succ_ne_self w.heap.size)]) <;> exact hS4)
    ((first
      | (go_at_call 64; refine (HC0.out _ HD0.out.rd).mono ?_; rintro e w1 ⟨rfl, hr, hg⟩; have HD1 := Lib.hid (HD0.out.read hr hg); have hS2 := HCell.out _ _ HD1.out; clear hr hg HC0 HD0)
      | (go_at_call 63; refine (HC1.out _ HD1.out.rd).mono ?_; rintro e w2 ⟨rfl, hr, hg⟩; have HD2 := Lib.hid (HD1.out.read hr hg); have hS3 := HCell.out _ _ HD2.out; clear hr hg HC1 HD1)
      | (go_at_call 63; refine (HC2.out _ HD2.out.rd).mono ?_; rintro e w3 ⟨rfl, hr, hg⟩; have HD3 := Lib.hid (HD2.out.read hr hg); have hS4 := HCell.out _ _ HD3.out; clear hr hg HC2 HD2; have x0 : w3.cell? ⟨w.heap.size + 1, 0, none⟩ = some (.int .u8 0) := HD3.out.res.cell 0; have f0 : w3.frozen? ⟨w.heap.size + 1, 0, none⟩ = false := HD3.out.res.frozen 0; have x1 : w3.cell? ⟨w.heap.size + 1, 1, none⟩ = some (.int .u32 0) := HD3.out.res.cell 1; have f1 : w3.frozen? ⟨w.heap.size + 1, 1, none⟩ = false := HD3.out.res.frozen 1; have x2 : w3.cell? ⟨w.heap.size + 1, 2, none⟩ = some (.int .u32 0) := HD3.out.res.cell 2; have f2 : w3.frozen? ⟨w.heap.size + 1, 2, none⟩ = false := HD3.out.res.frozen 2; have z2 : w.heap.size + 1 < w3.heap.size := HD3.out.res.lt)))
  have HY := (((HD3.out.res.set_ 0 (.int .u8 (y0 : Int))).set_ 1 (.int .u32 (y1 : Int))).set_ 2 (.int .u32 (y2 : Int)))
  have HG := (gb_new (gb_new (gb_new HD3.out.gr (grown_set _ (w.heap.size + 1) 0 (.int .u8 (y0 : Int))) (fun k hk => by cases hk; omega)) (grown_set _ (w.heap.size + 1) 1 (.int .u32 (y1 : Int))) (fun k hk => by cases hk; omega)) (grown_set _ (w.heap.size + 1) 2 (.int .u32 (y2 : Int))) (fun k hk => by cases hk; omega))
  have HR : RpAt _ p q3 := (Blk.far (Blk.far (Blk.far HD3.out.rd (p := ⟨w.heap.size + 1, 0, none⟩) (by have := HD3.out.lp; simp only; omega) (.int .u8 (y0 : Int))) (p := ⟨w.heap.size + 1, 1, none⟩) (by have := HD3.out.lp; simp only; omega) (.int .u32 (y1 : Int))) (p := ⟨w.heap.size + 1, 2, none⟩) (by have := HD3.out.lp; simp only; omega) (.int .u32 (y2 : Int)))
  go_wp2_with fail
  refine bodyPost_ret (v := .agg #[.int .u8 (y0 : Int), .int .u32 (y1 : Int), .int .u32 (y2 : Int)]) (results_cell_row Try.results68 _ _ (w.heap.size + 1) 65 _ (0, 0) _ rfl HY Try.underlying65 rfl (by kernel_rfl)) rfl ⟨rfl, HR, HG⟩
end
end Go.Proofs.Ytbpdoiikleaidaa
