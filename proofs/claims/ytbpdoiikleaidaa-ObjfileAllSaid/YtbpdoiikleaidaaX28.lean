/- The program's reading: a symbol. (written by mk_kn.py) -/
import Derived.Test.YtbpdoiikleaidaaX25
import Derived.Test.YtbpdoiikleaidaaX27
import Derived.Deep.RegionHeld3
import Derived.Deep.Onto
set_option linter.unusedVariables false
set_option linter.unusedSimpArgs false
namespace Go.Proofs.Ytbpdoiikleaidaa
open Go Go.RowKit Oj Pk Of

section
variable {w0 w w' : World} {p : Nat} {r r2 : Rd}
/-- What the call that reads a symbol leaves. -/
def GSymPost (w : World) (p : Nat) (X : Sy) (q : Rd) (e : Ending) (w' : World) : Prop := ∃ ar cr an cn, e = .returned (.agg #[.string (tx X.name), .int .u8 X.bind, .int .u8 X.kind, .int .u32 X.size, .string (tx X.bytes), .slice ar X.rels.length cr, .slice an X.notes.length cn]) ∧ OwnR w' w.heap.size (.slice ar X.rels.length cr) X.rels ∧ OwnN w' w.heap.size (.slice an X.notes.length cn) X.notes ∧ RpAt w' p q ∧ w.grownBy w' (some p)
set_option maxHeartbeats 16000000 in
set_option maxRecDepth 100000 in
theorem gsym_any (w : World) (h : RpAt w p r) (hS : r.S.length ≤ 4194304) : Calls Try.prog 46 #[rdg p] w (GSymPost w p (rdS r).1 (rdS r).2) := by
  have HD0 := Lib.hid (Gr.new h 47 [.string ⟨#[]⟩, .int .u8 0, .int .u8 0, .int .u32 0, .string ⟨#[]⟩, .slice none 0 0, .slice none 0 0]).drew
  have hq0 : r.S.length ≤ 4194304 := hS
  obtain ⟨q0, hr0⟩ : ∃ q, q = r := ⟨_, rfl⟩
  rw [← hr0] at hq0 HD0
  obtain ⟨y0, hy0⟩ : ∃ y, y = tx (text q0).1 := ⟨_, rfl⟩
  obtain ⟨q1, hr1⟩ : ∃ q, q = (text q0).2 := ⟨_, rfl⟩
  have HC0 : Hid (∀ W, RpAt W p q0 → Calls Try.prog 44 #[rdg p] W (GPost W p (.string y0) q1)) := Lib.hid (fun W hW => by rw [hy0, hr1]; exact gtext_any W hW (by omega))
  have hq1 : q1.S.length ≤ 4194304 := by rw [hr1]; exact Nat.le_trans text_len hq0
  obtain ⟨y1, hy1⟩ : ∃ y, y = (num q1 1).1 := ⟨_, rfl⟩
  obtain ⟨q2, hr2⟩ : ∃ q, q = (num q1 1).2 := ⟨_, rfl⟩
  have HC1 : Hid (∀ W, RpAt W p q1 → Calls Try.prog 64 #[rdg p] W (GPost W p (.int .u8 (y1 : Nat)) q2)) := Lib.hid (fun W hW => by rw [hy1, hr2]; exact gsmall_any W hW (by omega))
  have hq2 : q2.S.length ≤ 4194304 := by rw [hr2]; exact Nat.le_trans (num_len 1) hq1
  obtain ⟨y2, hy2⟩ : ∃ y, y = (num q2 1).1 := ⟨_, rfl⟩
  obtain ⟨q3, hr3⟩ : ∃ q, q = (num q2 1).2 := ⟨_, rfl⟩
  have HC2 : Hid (∀ W, RpAt W p q2 → Calls Try.prog 64 #[rdg p] W (GPost W p (.int .u8 (y2 : Nat)) q3)) := Lib.hid (fun W hW => by rw [hy2, hr3]; exact gsmall_any W hW (by omega))
  have hq3 : q3.S.length ≤ 4194304 := by rw [hr3]; exact Nat.le_trans (num_len 1) hq2
  obtain ⟨y3, hy3⟩ : ∃ y, y = (num q3 4).1 := ⟨_, rfl⟩
  obtain ⟨q4, hr4⟩ : ∃ q, q = (num q3 4).2 := ⟨_, rfl⟩
  have HC3 : Hid (∀ W, RpAt W p q3 → Calls Try.prog 63 #[rdg p, .int .i64 4] W (GPost W p (.int .u32 (y3 : Nat)) q4)) := Lib.hid (fun W hW => by rw [hy3, hr4]; exact gnum_any 4 W hW (by omega))
  have hq4 : q4.S.length ≤ 4194304 := by rw [hr4]; exact Nat.le_trans (num_len 4) hq3
  obtain ⟨y4, hy4⟩ : ∃ y, y = tx (text q4).1 := ⟨_, rfl⟩
  obtain ⟨q5, hr5⟩ : ∃ q, q = (text q4).2 := ⟨_, rfl⟩
  have HC4 : Hid (∀ W, RpAt W p q4 → Calls Try.prog 44 #[rdg p] W (GPost W p (.string y4) q5)) := Lib.hid (fun W hW => by rw [hy4, hr5]; exact gtext_any W hW (by omega))
  have hq5 : q5.S.length ≤ 4194304 := by rw [hr5]; exact Nat.le_trans text_len hq4
  obtain ⟨RS, hRS⟩ : ∃ t, t = (many rdR (num q5 2).1 (num q5 2).2).1 := ⟨_, rfl⟩
  obtain ⟨q6, hr6⟩ : ∃ t, t = (many rdR (num q5 2).1 (num q5 2).2).2 := ⟨_, rfl⟩
  have hq6 : q6.S.length ≤ 4194304 := by rw [hr6]; exact Nat.le_trans (many_len rdR_len _ _) (Nat.le_trans (num_len 2) hq5)
  have HC5 : Hid (∀ W, RpAt W p q5 → Calls Try.prog 65 #[rdg p, .int .i64 2, .func (.func 66) #[rdg p] #[]] W (listRPost W p RS q6)) := Lib.hid (fun W hW => by rw [hRS, hr6]; exact listR_any W hW hq5)
  obtain ⟨NS, hNS⟩ : ∃ t, t = (many rdN (num q6 1).1 (num q6 1).2).1 := ⟨_, rfl⟩
  obtain ⟨q7, hr7⟩ : ∃ t, t = (many rdN (num q6 1).1 (num q6 1).2).2 := ⟨_, rfl⟩
  have HC6 : Hid (∀ W, RpAt W p q6 → Calls Try.prog 67 #[rdg p, .int .i64 1, .func (.func 68) #[rdg p] #[]] W (listNPost W p NS q7)) := Lib.hid (fun W hW => by rw [hNS, hr7]; exact listN_any W hW hq6)
  have HV : Hid (rdS r = (⟨by' y0, (y1 : Int), (y2 : Int), (y3 : Int), by' y4, RS, NS⟩, q7)) := Lib.hid (by
    rw [hNS, hr7, hRS, hr6, hy4, hr5, hy3, hr4, hy2, hr3, hy1, hr2, hy0, hr1, hr0]
    simp only [by_tx]
    rfl)
  obtain ⟨nR, hnR⟩ : ∃ n, n = RS.length := ⟨_, rfl⟩
  obtain ⟨nN, hnN⟩ : ∃ n, n = NS.length := ⟨_, rfl⟩
  have HPost : Hid (∀ ar cr an cn W, OwnR W w.heap.size (.slice ar nR cr) RS → OwnN W w.heap.size (.slice an nN cn) NS → RpAt W p q7 → w.grownBy W (some p) → GSymPost w p (rdS r).1 (rdS r).2 (.returned (.agg #[.string y0, .int .u8 (y1 : Int), .int .u8 (y2 : Int), .int .u32 (y3 : Int), .string y4, .slice ar nR cr, .slice an nN cn])) W) := Lib.hid (by
    intro ar cr an cn W h1 h2 h3 h4
    rw [HV.out]
    unfold GSymPost
    simp only [tx_by, ← hnR, ← hnN]
    exact ⟨ar, cr, an, cn, rfl, h1, h2, h3, h4⟩)
  obtain ⟨PO, hPO⟩ : ∃ P, P = GSymPost w p (rdS r).1 (rdS r).2 := ⟨_, rfl⟩
  rw [← hPO] at HPost ⊢
  have hS0 := (Gr.bx HD0.out).cell 0
  simp only [List.getElem?_cons_zero] at hS0
  have HCell := Lib.hid (fun (W : World) (q : Rd) (d : Gr w W p q 47 [.string ⟨#[]⟩, .int .u8 0, .int .u8 0, .int .u32 0, .string ⟨#[]⟩, .slice none 0 0, .slice none 0 0]) => d.bx.cell 0)
  simp only [List.getElem?_cons_zero] at HCell
  unfold GPost at HC0 HC1 HC2 HC3 HC4
  unfold listRPost at HC5
  unfold listNPost at HC6
  rw [← hnR] at HC5
  rw [← hnN] at HC6
  unfold rdg at HC0 HC1 HC2 HC3 HC4 HC5 HC6 ⊢
  clear HV hPO hnR hnN hS h hr0 hRS hr6 hq6 hNS hr7 hy0 hr1 hq0 hy1 hr2 hq1 hy2 hr3 hq2 hy3 hr4 hq3 hy4 hr5 hq4 hq5
  go_enter Try.func46, Try.ntmps46
  go_upto_region 1 with (fail)
  refine wp_region_held_drew (S := fun w' => w'.cell? ⟨w.heap.size, 0, none⟩ = some (.pointer (some ⟨p, 0, none⟩))) (by kernel_rfl) hS0 (fun hSw => ?_)
  refine wpAnyH_take (i := 0) (v := .agg #[.pointer (some ⟨p, 0, none⟩)]) rfl (by kernel_rfl) (by kernel_rfl) (by kernel_rfl) (fun _ _ _ h => h) (Or.inl ⟨by rfl, fun w hSw => by (try dsimp only at hSw); go_simp⟩) (by assumption) ?_
  try simp only [Act.put, List.setIfInBounds_toArray, List.set_cons_zero, List.set_cons_succ, List.getElem_toArray, List.getElem_cons_succ, List.getElem_cons_zero]
  refine wpAnyH_take (i := 2) (v := .agg #[.pointer (some ⟨p, 0, none⟩)]) rfl (by kernel_rfl) (by kernel_rfl) (by kernel_rfl) (fun _ _ _ h => h) (Or.inl ⟨by rfl, fun w hSw => by (try dsimp only at hSw); go_simp⟩) (by assumption) ?_
  try simp only [Act.put, List.setIfInBounds_toArray, List.set_cons_zero, List.set_cons_succ, List.getElem_toArray, List.getElem_cons_succ, List.getElem_cons_zero]
  refine wpAnyH_take (i := 4) (v := .agg #[.pointer (some ⟨p, 0, none⟩)]) rfl (by kernel_rfl) (by kernel_rfl) (by kernel_rfl) (fun _ _ _ h => h) (Or.inl ⟨by rfl, fun w hSw => by (try dsimp only at hSw); go_simp⟩) (by assumption) ?_
  try simp only [Act.put, List.setIfInBounds_toArray, List.set_cons_zero, List.set_cons_succ, List.getElem_toArray, List.getElem_cons_succ, List.getElem_cons_zero]
  refine wpAnyH_take (i := 6) (v := .agg #[.pointer (some ⟨p, 0, none⟩)]) rfl (by kernel_rfl) (by kernel_rfl) (by kernel_rfl) (fun _ _ _ h => h) (Or.inl ⟨by rfl, fun w hSw => by (try dsimp only at hSw); go_simp⟩) (by assumption) ?_
  try simp only [Act.put, List.setIfInBounds_toArray, List.set_cons_zero, List.set_cons_succ, List.getElem_toArray, List.getElem_cons_succ, List.getElem_cons_zero]
  refine wpAnyH_take (i := 8) (v := .agg #[.pointer (some ⟨p, 0, none⟩)]) rfl (by kernel_rfl) (by kernel_rfl) (by kernel_rfl) (fun _ _ _ h => h) (Or.inl ⟨by rfl, fun w hSw => by (try dsimp only at hSw); go_simp⟩) (by assumption) ?_
  try simp only [Act.put, List.setIfInBounds_toArray, List.set_cons_zero, List.set_cons_succ, List.getElem_toArray, List.getElem_cons_succ, List.getElem_cons_zero]
  refine wpAnyH_take (i := 10) (v := .agg #[.pointer (some ⟨p, 0, none⟩)]) rfl (by kernel_rfl) (by kernel_rfl) (by kernel_rfl) (fun _ _ _ h => h) (Or.inl ⟨by rfl, fun w hSw => by (try dsimp only at hSw); go_simp⟩) (by assumption) ?_
  try simp only [Act.put, List.setIfInBounds_toArray, List.set_cons_zero, List.set_cons_succ, List.getElem_toArray, List.getElem_cons_succ, List.getElem_cons_zero]
  refine wpAnyH_take (i := 11) (v := .agg #[.pointer (some ⟨p, 0, none⟩)]) rfl (by kernel_rfl) (by kernel_rfl) (by kernel_rfl) (fun _ _ _ h => h) (Or.inl ⟨by rfl, fun w hSw => by (try dsimp only at hSw); go_simp⟩) (by assumption) ?_
  try simp only [Act.put, List.setIfInBounds_toArray, List.set_cons_zero, List.set_cons_succ, List.getElem_toArray, List.getElem_cons_succ, List.getElem_cons_zero]
  refine wpAnyH_take (i := 12) (v := .func (.func 66) #[.agg #[.pointer (some ⟨p, 0, none⟩)]] #[]) rfl (by kernel_rfl) (by kernel_rfl) (by kernel_rfl) (fun _ _ _ h => h) (Or.inl ⟨by rfl, fun w hSw => by (try dsimp only at hSw); go_simp⟩) (by assumption) ?_
  try simp only [Act.put, List.setIfInBounds_toArray, List.set_cons_zero, List.set_cons_succ, List.getElem_toArray, List.getElem_cons_succ, List.getElem_cons_zero]
  refine wpAnyH_take (i := 14) (v := .agg #[.pointer (some ⟨p, 0, none⟩)]) rfl (by kernel_rfl) (by kernel_rfl) (by kernel_rfl) (fun _ _ _ h => h) (Or.inl ⟨by rfl, fun w hSw => by (try dsimp only at hSw); go_simp⟩) (by assumption) ?_
  try simp only [Act.put, List.setIfInBounds_toArray, List.set_cons_zero, List.set_cons_succ, List.getElem_toArray, List.getElem_cons_succ, List.getElem_cons_zero]
  refine wpAnyH_take (i := 15) (v := .agg #[.pointer (some ⟨p, 0, none⟩)]) rfl (by kernel_rfl) (by kernel_rfl) (by kernel_rfl) (fun _ _ _ h => h) (Or.inl ⟨by rfl, fun w hSw => by (try dsimp only at hSw); go_simp⟩) (by assumption) ?_
  try simp only [Act.put, List.setIfInBounds_toArray, List.set_cons_zero, List.set_cons_succ, List.getElem_toArray, List.getElem_cons_succ, List.getElem_cons_zero]
  refine wpAnyH_take (i := 16) (v := .func (.func 68) #[.agg #[.pointer (some ⟨p, 0, none⟩)]] #[]) rfl (by kernel_rfl) (by kernel_rfl) (by kernel_rfl) (fun _ _ _ h => h) (Or.inl ⟨by rfl, fun w hSw => by (try dsimp only at hSw); go_simp⟩) (by assumption) ?_
  try simp only [Act.put, List.setIfInBounds_toArray, List.set_cons_zero, List.set_cons_succ, List.getElem_toArray, List.getElem_cons_succ, List.getElem_cons_zero]
  refine wpAnyH_ready (rs := [1]) (by kernel_rfl) (by simp) ?_
  refine AllReadyH.cons (o := _) rfl (fun K hK => ?_) AllReadyH.nil
  go_simp
  refine (HC0.out _ HD0.out.rd).mono ?_; rintro e w1 ⟨rfl, hr, hg⟩
  have HD1 := Lib.hid (HD0.out.read hr hg)
  have hS1 := HCell.out _ _ HD1.out
  clear hr hg HC0 HD0
  go_wp2_with fail
  refine hK.out _ _ hS1 (fun hSw => ?_)
  clear hK K hS0
  try simp only [Act.put, List.setIfInBounds_toArray, List.set_cons_zero, List.set_cons_succ, List.getElem_toArray, List.getElem_cons_succ, List.getElem_cons_zero]
  refine wpAnyH_ready (rs := [3]) (by kernel_rfl) (by simp) ?_
  refine AllReadyH.cons (o := _) rfl (fun K hK => ?_) AllReadyH.nil
  go_simp
  refine (HC1.out _ HD1.out.rd).mono ?_; rintro e w2 ⟨rfl, hr, hg⟩
  have HD2 := Lib.hid (HD1.out.read hr hg)
  have hS2 := HCell.out _ _ HD2.out
  clear hr hg HC1 HD1
  go_wp2_with fail
  refine hK.out _ _ hS2 (fun hSw => ?_)
  clear hK K hS1
  try simp only [Act.put, List.setIfInBounds_toArray, List.set_cons_zero, List.set_cons_succ, List.getElem_toArray, List.getElem_cons_succ, List.getElem_cons_zero]
  refine wpAnyH_ready (rs := [5]) (by kernel_rfl) (by simp) ?_
  refine AllReadyH.cons (o := _) rfl (fun K hK => ?_) AllReadyH.nil
  go_simp
  refine (HC2.out _ HD2.out.rd).mono ?_; rintro e w3 ⟨rfl, hr, hg⟩
  have HD3 := Lib.hid (HD2.out.read hr hg)
  have hS3 := HCell.out _ _ HD3.out
  clear hr hg HC2 HD2
  go_wp2_with fail
  refine hK.out _ _ hS3 (fun hSw => ?_)
  clear hK K hS2
  try simp only [Act.put, List.setIfInBounds_toArray, List.set_cons_zero, List.set_cons_succ, List.getElem_toArray, List.getElem_cons_succ, List.getElem_cons_zero]
  refine wpAnyH_ready (rs := [7]) (by kernel_rfl) (by simp) ?_
  refine AllReadyH.cons (o := _) rfl (fun K hK => ?_) AllReadyH.nil
  go_simp
  refine (HC3.out _ HD3.out.rd).mono ?_; rintro e w4 ⟨rfl, hr, hg⟩
  have HD4 := Lib.hid (HD3.out.read hr hg)
  have hS4 := HCell.out _ _ HD4.out
  clear hr hg HC3 HD3
  go_wp2_with fail
  refine hK.out _ _ hS4 (fun hSw => ?_)
  clear hK K hS3
  try simp only [Act.put, List.setIfInBounds_toArray, List.set_cons_zero, List.set_cons_succ, List.getElem_toArray, List.getElem_cons_succ, List.getElem_cons_zero]
  refine wpAnyH_ready (rs := [9]) (by kernel_rfl) (by simp) ?_
  refine AllReadyH.cons (o := _) rfl (fun K hK => ?_) AllReadyH.nil
  go_simp
  refine (HC4.out _ HD4.out.rd).mono ?_; rintro e w5 ⟨rfl, hr, hg⟩
  have HD5 := Lib.hid (HD4.out.read hr hg)
  have hS5 := HCell.out _ _ HD5.out
  clear hr hg HC4 HD4
  go_wp2_with fail
  refine hK.out _ _ hS5 (fun hSw => ?_)
  clear hK K hS4
  try simp only [Act.put, List.setIfInBounds_toArray, List.set_cons_zero, List.set_cons_succ, List.getElem_toArray, List.getElem_cons_succ, List.getElem_cons_zero]
  refine wpAnyH_ready (rs := [13]) (by kernel_rfl) (by simp) ?_
  refine AllReadyH.cons (o := _) rfl (fun K hK => ?_) AllReadyH.nil
  go_simp
  refine (HC5.out _ HD5.out.rd).mono ?_; rintro e w6 ⟨ar, cr, rfl, ho, hr, hg⟩
  have HD6 := Lib.hid (HD5.out.read hr hg)
  have HO6 : Hid (OwnR w6 w.heap.size (.slice ar nR cr) RS) := Lib.hid (World.ownsRow.mono ho HD5.out.gr.size)
  have hS6 := HCell.out _ _ HD6.out
  clear hr hg ho HC5 HD5
  go_wp2_with fail
  refine hK.out _ _ hS6 (fun hSw => ?_)
  clear hK K hS5
  try simp only [Act.put, List.setIfInBounds_toArray, List.set_cons_zero, List.set_cons_succ, List.getElem_toArray, List.getElem_cons_succ, List.getElem_cons_zero]
  refine wpAnyH_ready (rs := [17]) (by kernel_rfl) (by simp) ?_
  refine AllReadyH.cons (o := _) rfl (fun K hK => ?_) AllReadyH.nil
  go_simp
  refine (HC6.out _ HD6.out.rd).mono ?_; rintro e w7 ⟨an, cn, rfl, ho, hr, hg⟩
  have HD7 := Lib.hid (HD6.out.read hr hg)
  have HO7 : Hid (OwnR w7 w.heap.size (.slice ar nR cr) RS) := Lib.hid (World.ownsRow.kept HO6.out hg (.inr (row_block HD6.out.rd HO6.out (by decide))))
  have HN7 : Hid (OwnN w7 w.heap.size (.slice an nN cn) NS) := Lib.hid (World.ownsRow.mono ho HD6.out.gr.size)
  have hS7 := HCell.out _ _ HD7.out
  clear hr hg ho HC6 HD6 HO6
  go_wp2_with fail
  refine hK.out _ _ hS7 (fun hSw => ?_)
  clear hK K hS6
  try simp only [Act.put, List.setIfInBounds_toArray, List.set_cons_zero, List.set_cons_succ, List.getElem_toArray, List.getElem_cons_succ, List.getElem_cons_zero]
  refine wpAnyH_take (i := 18) (v := .agg #[.string y0, .int .u8 (y1 : Int), .int .u8 (y2 : Int), .int .u32 (y3 : Int), .string y4, .slice ar nR cr, .slice an nN cn]) rfl (by kernel_rfl) (by kernel_rfl) (by kernel_rfl) (fun _ _ _ h => h) (Or.inl ⟨by rfl, fun w hSw => by (try dsimp only at hSw); go_simp⟩) (by assumption) ?_
  try simp only [Act.put, List.setIfInBounds_toArray, List.set_cons_zero, List.set_cons_succ, List.getElem_toArray, List.getElem_cons_succ, List.getElem_cons_zero]
  have x0 : w7.cell? ⟨w.heap.size + 1, 0, none⟩ = some (.string ⟨#[]⟩) := HD7.out.res.cell 0
  have f0 : w7.frozen? ⟨w.heap.size + 1, 0, none⟩ = false := HD7.out.res.frozen 0
  have x1 : w7.cell? ⟨w.heap.size + 1, 1, none⟩ = some (.int .u8 0) := HD7.out.res.cell 1
  have f1 : w7.frozen? ⟨w.heap.size + 1, 1, none⟩ = false := HD7.out.res.frozen 1
  have x2 : w7.cell? ⟨w.heap.size + 1, 2, none⟩ = some (.int .u8 0) := HD7.out.res.cell 2
  have f2 : w7.frozen? ⟨w.heap.size + 1, 2, none⟩ = false := HD7.out.res.frozen 2
  have x3 : w7.cell? ⟨w.heap.size + 1, 3, none⟩ = some (.int .u32 0) := HD7.out.res.cell 3
  have f3 : w7.frozen? ⟨w.heap.size + 1, 3, none⟩ = false := HD7.out.res.frozen 3
  have x4 : w7.cell? ⟨w.heap.size + 1, 4, none⟩ = some (.string ⟨#[]⟩) := HD7.out.res.cell 4
  have f4 : w7.frozen? ⟨w.heap.size + 1, 4, none⟩ = false := HD7.out.res.frozen 4
  have x5 : w7.cell? ⟨w.heap.size + 1, 5, none⟩ = some (.slice none 0 0) := HD7.out.res.cell 5
  have f5 : w7.frozen? ⟨w.heap.size + 1, 5, none⟩ = false := HD7.out.res.frozen 5
  have x6 : w7.cell? ⟨w.heap.size + 1, 6, none⟩ = some (.slice none 0 0) := HD7.out.res.cell 6
  have f6 : w7.frozen? ⟨w.heap.size + 1, 6, none⟩ = false := HD7.out.res.frozen 6
  have z2 : w.heap.size + 1 < w7.heap.size := HD7.out.res.lt
  have HY := (((((((HD7.out.res.set_ 0 (.string y0)).set_ 1 (.int .u8 (y1 : Int))).set_ 2 (.int .u8 (y2 : Int))).set_ 3 (.int .u32 (y3 : Int))).set_ 4 (.string y4)).set_ 5 (.slice ar nR cr)).set_ 6 (.slice an nN cn))
  have HG := (gb_new (gb_new (gb_new (gb_new (gb_new (gb_new (gb_new HD7.out.gr (grown_set _ (w.heap.size + 1) 0 (.string y0)) (fun k hk => by cases hk; omega)) (grown_set _ (w.heap.size + 1) 1 (.int .u8 (y1 : Int))) (fun k hk => by cases hk; omega)) (grown_set _ (w.heap.size + 1) 2 (.int .u8 (y2 : Int))) (fun k hk => by cases hk; omega)) (grown_set _ (w.heap.size + 1) 3 (.int .u32 (y3 : Int))) (fun k hk => by cases hk; omega)) (grown_set _ (w.heap.size + 1) 4 (.string y4)) (fun k hk => by cases hk; omega)) (grown_set _ (w.heap.size + 1) 5 (.slice ar nR cr)) (fun k hk => by cases hk; omega)) (grown_set _ (w.heap.size + 1) 6 (.slice an nN cn)) (fun k hk => by cases hk; omega))
  have HR := (Blk.far (Blk.far (Blk.far (Blk.far (Blk.far (Blk.far (Blk.far HD7.out.rd (p := ⟨w.heap.size + 1, 0, none⟩) (by have := HD7.out.lp; simp only; omega) (.string y0)) (p := ⟨w.heap.size + 1, 1, none⟩) (by have := HD7.out.lp; simp only; omega) (.int .u8 (y1 : Int))) (p := ⟨w.heap.size + 1, 2, none⟩) (by have := HD7.out.lp; simp only; omega) (.int .u8 (y2 : Int))) (p := ⟨w.heap.size + 1, 3, none⟩) (by have := HD7.out.lp; simp only; omega) (.int .u32 (y3 : Int))) (p := ⟨w.heap.size + 1, 4, none⟩) (by have := HD7.out.lp; simp only; omega) (.string y4)) (p := ⟨w.heap.size + 1, 5, none⟩) (by have := HD7.out.lp; simp only; omega) (.slice ar nR cr)) (p := ⟨w.heap.size + 1, 6, none⟩) (by have := HD7.out.lp; simp only; omega) (.slice an nN cn))
  have HSe := (Blk.far (Blk.far (Blk.far (Blk.far (Blk.far (Blk.far (Blk.far HD7.out.bx (p := ⟨w.heap.size + 1, 0, none⟩) (by simp only; omega) (.string y0)) (p := ⟨w.heap.size + 1, 1, none⟩) (by simp only; omega) (.int .u8 (y1 : Int))) (p := ⟨w.heap.size + 1, 2, none⟩) (by simp only; omega) (.int .u8 (y2 : Int))) (p := ⟨w.heap.size + 1, 3, none⟩) (by simp only; omega) (.int .u32 (y3 : Int))) (p := ⟨w.heap.size + 1, 4, none⟩) (by simp only; omega) (.string y4)) (p := ⟨w.heap.size + 1, 5, none⟩) (by simp only; omega) (.slice ar nR cr)) (p := ⟨w.heap.size + 1, 6, none⟩) (by simp only; omega) (.slice an nN cn))
  have HGr := (gb_trans (gb_trans (gb_trans (gb_trans (gb_trans (gb_trans (grown_set w7 (w.heap.size + 1) 0 (.string y0)) (grown_set _ (w.heap.size + 1) 1 (.int .u8 (y1 : Int)))) (grown_set _ (w.heap.size + 1) 2 (.int .u8 (y2 : Int)))) (grown_set _ (w.heap.size + 1) 3 (.int .u32 (y3 : Int)))) (grown_set _ (w.heap.size + 1) 4 (.string y4))) (grown_set _ (w.heap.size + 1) 5 (.slice ar nR cr))) (grown_set _ (w.heap.size + 1) 6 (.slice an nN cn)))
  have HO8 := Lib.hid (World.ownsRow.kept HO7.out HGr (.inr (row_block HD7.out.res HO7.out (by decide))))
  have HN8 := Lib.hid (World.ownsRow.kept HN7.out HGr (.inr (row_block HD7.out.res HN7.out (by decide))))
  have HYY := Lib.hid HY
  have HGG := Lib.hid HG
  have HRR := Lib.hid HR
  have HSS := Lib.hid (HSe.cell 0)
  clear HY HG HR HSe HGr HO7 HN7
  refine wpAnyH_ready (rs := [19]) (by kernel_rfl) (by simp) ?_
  refine AllReadyH.cons (o := _) rfl (fun K hK => ?_) AllReadyH.nil
  go_simp
  refine hK.out _ _ HSS.out (fun hSw => ?_)
  clear hK K hS7
  try simp only [Act.put, List.setIfInBounds_toArray, List.set_cons_zero, List.set_cons_succ, List.getElem_toArray, List.getElem_cons_succ, List.getElem_cons_zero]
  refine wpAnyH_done (by kernel_rfl) ?_ _
  clear x0 x1 x2 x3 x4 x5 x6 f0 f1 f2 f3 f4 f5 f6 z2
  go_wp2_with fail
  refine bodyPost_ret (v := .agg #[.string y0, .int .u8 (y1 : Int), .int .u8 (y2 : Int), .int .u32 (y3 : Int), .string y4, .slice ar nR cr, .slice an nN cn]) (results_cell_row Try.results46 _ _ (w.heap.size + 1) 47 _ (0, 0) _ rfl HYY.out Try.underlying47 rfl (by kernel_rfl)) rfl (HPost.out _ _ _ _ _ HO8.out HN8.out HRR.out HGG.out)
end
end Go.Proofs.Ytbpdoiikleaidaa
