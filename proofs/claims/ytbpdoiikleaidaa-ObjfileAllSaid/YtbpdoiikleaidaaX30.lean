/- The program's reading: an object. (written by mk_kp.py) -/
import Derived.Test.YtbpdoiikleaidaaX29
import Derived.Deep.RegionHeld3
import Derived.Deep.Onto
set_option linter.unusedVariables false
set_option linter.unusedSimpArgs false
namespace Go.Proofs.Ytbpdoiikleaidaa
open Go Go.RowKit Oj Pk Of

/-- An object without its magic, read. -/
def rdB (r : Rd) : Ob × Rd := (⟨(text r).1, (many rdS (num (text r).2 2).1 (num (text r).2 2).2).1⟩, (many rdS (num (text r).2 2).1 (num (text r).2 2).2).2)
section
variable {w0 w w' : World} {p : Nat} {r r2 : Rd}
/-- What the call that reads an object leaves. -/
def GObPost (w : World) (p : Nat) (x : Ob) (q : Rd) (e : Ending) (w' : World) : Prop := ∃ a c R N, e = .returned (.agg #[.string (tx x.name), .slice a x.syms.length c]) ∧ Cp8 w' w.heap.size x.syms x.syms.length (.slice a x.syms.length c) R N ∧ RpAt w' p q ∧ w.grownBy w' (some p)
theorem Cp8.mono {w : World} {B B' : Nat} {l : List Sy} {k : Nat} {v : Value} {R N : Nat → Value} (h : Cp8 w B l k v R N) (hB : B' ≤ B) : Cp8 w B' l k v R N :=
  ⟨World.ownsRow.mono h.row hB, fun j hj => World.ownsRow.mono (h.rels j hj) hB, fun j hj => World.ownsRow.mono (h.notes j hj) hB⟩
set_option maxHeartbeats 16000000 in
set_option maxRecDepth 100000 in
theorem gobj_any (w : World) (h : RpAt w p r) (hS : r.S.length ≤ 4194304) : Calls Try.prog 26 #[rdg p] w (GObPost w p (rdB r).1 (rdB r).2) := by
  have HD0 := Lib.hid (Gr.new h 24 [.string ⟨#[]⟩, .slice none 0 0]).drew
  obtain ⟨y0, hy0⟩ : ∃ y, y = tx (text r).1 := ⟨_, rfl⟩
  obtain ⟨q1, hr1⟩ : ∃ q, q = (text r).2 := ⟨_, rfl⟩
  have HC0 : Hid (∀ W, RpAt W p r → Calls Try.prog 44 #[rdg p] W (GPost W p (.string y0) q1)) := Lib.hid (fun W hW => by rw [hy0, hr1]; exact gtext_any W hW (by omega))
  have hq1 : q1.S.length ≤ 4194304 := by rw [hr1]; exact Nat.le_trans text_len hS
  obtain ⟨SS, hSS⟩ : ∃ t, t = (many rdS (num q1 2).1 (num q1 2).2).1 := ⟨_, rfl⟩
  obtain ⟨q2, hr2⟩ : ∃ t, t = (many rdS (num q1 2).1 (num q1 2).2).2 := ⟨_, rfl⟩
  have HC1 : Hid (∀ W, RpAt W p q1 → Calls Try.prog 45 #[rdg p, .int .i64 2, .func (.func 46) #[rdg p] #[]] W (ListSPost W p SS q2)) := Lib.hid (fun W hW => by rw [hSS, hr2]; exact listS_any W hW hq1)
  have HV : Hid (rdB r = (⟨by' y0, SS⟩, q2)) := Lib.hid (by rw [hSS, hr2, hy0, hr1, by_tx]; rfl)
  obtain ⟨nS, hnS⟩ : ∃ n, n = SS.length := ⟨_, rfl⟩
  have HPost : Hid (∀ a c R N W, Cp8 W w.heap.size SS nS (.slice a nS c) R N → RpAt W p q2 → w.grownBy W (some p) → GObPost w p (rdB r).1 (rdB r).2 (.returned (.agg #[.string y0, .slice a nS c])) W) := Lib.hid (by
    intro a c R N W h1 h3 h4
    rw [HV.out]
    unfold GObPost
    simp only [tx_by, ← hnS]
    exact ⟨a, c, R, N, rfl, h1, h3, h4⟩)
  obtain ⟨PO, hPO⟩ : ∃ P, P = GObPost w p (rdB r).1 (rdB r).2 := ⟨_, rfl⟩
  rw [← hPO] at HPost ⊢
  have hS0 := (Gr.bx HD0.out).cell 0
  simp only [List.getElem?_cons_zero] at hS0
  have HCell := Lib.hid (fun (W : World) (q : Rd) (d : Gr w W p q 24 [.string ⟨#[]⟩, .slice none 0 0]) => d.bx.cell 0)
  simp only [List.getElem?_cons_zero] at HCell
  unfold GPost at HC0
  unfold ListSPost at HC1
  rw [← hnS] at HC1
  unfold rdg at HC0 HC1 ⊢
  clear HV hPO hnS hS h hy0 hr1 hq1 hSS hr2
  go_enter Try.func26, Try.ntmps26
  go_upto_region 1 with (fail)
  refine wp_region_held_drew (S := fun w' => w'.cell? ⟨w.heap.size, 0, none⟩ = some (.pointer (some ⟨p, 0, none⟩))) (by kernel_rfl) hS0 (fun hSw => ?_)
  refine wpAnyH_take (i := 0) (v := .agg #[.pointer (some ⟨p, 0, none⟩)]) rfl (by kernel_rfl) (by kernel_rfl) (by kernel_rfl) (fun _ _ _ h => h) (Or.inl ⟨by rfl, fun w hSw => by (try dsimp only at hSw); go_simp⟩) (by assumption) ?_
  try simp only [Act.put, List.setIfInBounds_toArray, List.set_cons_zero, List.set_cons_succ, List.getElem_toArray, List.getElem_cons_succ, List.getElem_cons_zero]
  refine wpAnyH_take (i := 2) (v := .agg #[.pointer (some ⟨p, 0, none⟩)]) rfl (by kernel_rfl) (by kernel_rfl) (by kernel_rfl) (fun _ _ _ h => h) (Or.inl ⟨by rfl, fun w hSw => by (try dsimp only at hSw); go_simp⟩) (by assumption) ?_
  try simp only [Act.put, List.setIfInBounds_toArray, List.set_cons_zero, List.set_cons_succ, List.getElem_toArray, List.getElem_cons_succ, List.getElem_cons_zero]
  refine wpAnyH_take (i := 3) (v := .agg #[.pointer (some ⟨p, 0, none⟩)]) rfl (by kernel_rfl) (by kernel_rfl) (by kernel_rfl) (fun _ _ _ h => h) (Or.inl ⟨by rfl, fun w hSw => by (try dsimp only at hSw); go_simp⟩) (by assumption) ?_
  try simp only [Act.put, List.setIfInBounds_toArray, List.set_cons_zero, List.set_cons_succ, List.getElem_toArray, List.getElem_cons_succ, List.getElem_cons_zero]
  refine wpAnyH_take (i := 4) (v := .func (.func 46) #[.agg #[.pointer (some ⟨p, 0, none⟩)]] #[]) rfl (by kernel_rfl) (by kernel_rfl) (by kernel_rfl) (fun _ _ _ h => h) (Or.inl ⟨by rfl, fun w hSw => by (try dsimp only at hSw); go_simp⟩) (by assumption) ?_
  try simp only [Act.put, List.setIfInBounds_toArray, List.set_cons_zero, List.set_cons_succ, List.getElem_toArray, List.getElem_cons_succ, List.getElem_cons_zero]
  refine wpAnyH_ready (rs := [1]) (by kernel_rfl) (by simp) ?_
  refine AllReadyH.cons (o := _) rfl (fun K hK => ?_) AllReadyH.nil
  go_simp
  refine (HC0.out _ HD0.out.rd).mono ?_; rintro e w1 ⟨rfl, hr, hg⟩
  have HD1 := Lib.hid (HD0.out.read hr hg)
  have hS1 := HCell.out _ _ HD1.out
  clear hr hg HC0 HD0
  go_wp2_with fail
  refine hK.out _ _ hS1 (fun hSw => ?_)
  clear hK K hS0
  try simp only [Act.put, List.setIfInBounds_toArray, List.set_cons_zero, List.set_cons_succ, List.getElem_toArray, List.getElem_cons_succ, List.getElem_cons_zero]
  refine wpAnyH_ready (rs := [5]) (by kernel_rfl) (by simp) ?_
  refine AllReadyH.cons (o := _) rfl (fun K hK => ?_) AllReadyH.nil
  go_simp
  refine (HC1.out _ HD1.out.rd).mono ?_; rintro e w2 ⟨a, c, R, N, rfl, ho, hr, hg⟩
  have HD2 := Lib.hid (HD1.out.read hr hg)
  have C2 := Lib.hid (ho.mono HD1.out.gr.size)
  have hS2 := HCell.out _ _ HD2.out
  clear hr hg ho HC1 HD1
  go_wp2_with fail
  refine hK.out _ _ hS2 (fun hSw => ?_)
  clear hK K hS1
  try simp only [Act.put, List.setIfInBounds_toArray, List.set_cons_zero, List.set_cons_succ, List.getElem_toArray, List.getElem_cons_succ, List.getElem_cons_zero]
  refine wpAnyH_take (i := 6) (v := .agg #[.string y0, .slice a nS c]) rfl (by kernel_rfl) (by kernel_rfl) (by kernel_rfl) (fun _ _ _ h => h) (Or.inl ⟨by rfl, fun w hSw => by (try dsimp only at hSw); go_simp⟩) (by assumption) ?_
  try simp only [Act.put, List.setIfInBounds_toArray, List.set_cons_zero, List.set_cons_succ, List.getElem_toArray, List.getElem_cons_succ, List.getElem_cons_zero]
  have x0 : w2.cell? ⟨w.heap.size + 1, 0, none⟩ = some (.string ⟨#[]⟩) := HD2.out.res.cell 0
  have f0 : w2.frozen? ⟨w.heap.size + 1, 0, none⟩ = false := HD2.out.res.frozen 0
  have x1 : w2.cell? ⟨w.heap.size + 1, 1, none⟩ = some (.slice none 0 0) := HD2.out.res.cell 1
  have f1 : w2.frozen? ⟨w.heap.size + 1, 1, none⟩ = false := HD2.out.res.frozen 1
  have z2 : w.heap.size + 1 < w2.heap.size := HD2.out.res.lt
  have HY := ((HD2.out.res.set_ 0 (.string y0)).set_ 1 (.slice a nS c))
  have HG := (gb_new (gb_new HD2.out.gr (grown_set _ (w.heap.size + 1) 0 (.string y0)) (fun k hk => by cases hk; omega)) (grown_set _ (w.heap.size + 1) 1 (.slice a nS c)) (fun k hk => by cases hk; omega))
  have HR := (Blk.far (Blk.far HD2.out.rd (p := ⟨w.heap.size + 1, 0, none⟩) (by have := HD2.out.lp; simp only; omega) (.string y0)) (p := ⟨w.heap.size + 1, 1, none⟩) (by have := HD2.out.lp; simp only; omega) (.slice a nS c))
  have HSe := (Blk.far (Blk.far HD2.out.bx (p := ⟨w.heap.size + 1, 0, none⟩) (by simp only; omega) (.string y0)) (p := ⟨w.heap.size + 1, 1, none⟩) (by simp only; omega) (.slice a nS c))
  have HC8 := (C2.out.obj HD2.out.res (grown_set w2 (w.heap.size + 1) 0 (.string y0))).obj (HD2.out.res.set_ 0 (.string y0)) (grown_set _ (w.heap.size + 1) 1 (.slice a nS c))
  have HYY := Lib.hid HY
  have HGG := Lib.hid HG
  have HRR := Lib.hid HR
  have HSS := Lib.hid (HSe.cell 0)
  have HCC := Lib.hid HC8
  clear HY HG HR HSe HC8 C2
  refine wpAnyH_ready (rs := [7]) (by kernel_rfl) (by simp) ?_
  refine AllReadyH.cons (o := _) rfl (fun K hK => ?_) AllReadyH.nil
  go_simp
  refine hK.out _ _ HSS.out (fun hSw => ?_)
  clear hK K hS2
  try simp only [Act.put, List.setIfInBounds_toArray, List.set_cons_zero, List.set_cons_succ, List.getElem_toArray, List.getElem_cons_succ, List.getElem_cons_zero]
  refine wpAnyH_done (by kernel_rfl) ?_ _
  clear x0 x1 f0 f1 z2
  go_wp2_with fail
  refine bodyPost_ret (v := .agg #[.string y0, .slice a nS c]) (results_cell_row Try.results26 _ _ (w.heap.size + 1) 24 _ (0, 0) _ rfl HYY.out Try.underlying24 rfl (by kernel_rfl)) rfl (HPost.out _ _ _ _ _ HCC.out HRR.out HGG.out)
end
end Go.Proofs.Ytbpdoiikleaidaa
