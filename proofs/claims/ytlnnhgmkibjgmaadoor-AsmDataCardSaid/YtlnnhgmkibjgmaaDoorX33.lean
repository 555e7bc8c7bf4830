/- AsmData, walked, given what the program's package asm is held to. (written by mk_an.py) -/
import Derived.Test.YtlnnhgmkibjgmaaDoorX31
import Derived.Test.YtlnnhgmkibjgmaaDoorX32
import Derived.Deep.RegionHeld3
set_option linter.unusedVariables false
set_option linter.unusedSimpArgs false
namespace Go.Proofs.YtlnnhgmkibjgmaaDoor
open Go Go.RowKit Oj Al

theorem notes_grown {w w' : World} {g : Nat} {v : Value} {l : List Nt} (h : NotesAt w v l) (hb : Blk w g 29 zS) (hg : w.grownBy w' (some g)) : NotesAt w' v l := by
  obtain ⟨a, c, rfl, h2⟩ := h
  refine ⟨a, c, rfl, fun hn => ?_⟩
  obtain ⟨b, o, rfl, h3, h4⟩ := h2 hn
  have hne : b ≠ g := by
    intro e
    subst e
    obtain ⟨c0, c1, c2⟩ := (h4 0 hn).nt
    rw [hb.cell] at c0 c1 c2
    have e0 : o + 0 * 3 = o := by omega
    rw [e0] at c0 c1 c2
    rcases o with _ | _ | _ | _ | _ | _ | _ | o <;> simp [zS] at c0 c1 c2
  exact ⟨b, o, rfl, Nat.lt_of_lt_of_le h3 hg.size, fun j hj i u hu => hg.cell (h4 j hj i u hu) (fun e => hne (Option.some.inj e))⟩
theorem gtrans {a b c : World} {r : Option Nat} (h1 : a.grownBy b r) (h2 : b.grownBy c r) : a.grownBy c r :=
  ⟨h2.os.trans h1.os, h2.tape.trans h1.tape, h2.output.trans h1.output, Nat.le_trans h1.size h2.size, fun j hj hr => (h2.block j (Nat.lt_of_lt_of_le hj h1.size) hr).trans (h1.block j hj hr)⟩
theorem store7 {w0 W : World} {g : Nat} {t : TypeId} {cs : List Value} {z0 z1 z2 z3 z4 z5 z6 : Value} (a0 a1 a2 a3 a4 a5 a6 : Value) (HB : Below w0.heap.size w0 W) (hg : w0.heap.size < g) (HX : Blk W w0.heap.size t cs) (HG : Blk W g t [z0, z1, z2, z3, z4, z5, z6]) :
    ∀ W', W' = (((((((W.setCell ⟨g, 0, none⟩ a0).setCell ⟨g, 1, none⟩ a1).setCell ⟨g, 2, none⟩ a2).setCell ⟨g, 3, none⟩ a3).setCell ⟨g, 4, none⟩ a4).setCell ⟨g, 5, none⟩ a5).setCell ⟨g, 6, none⟩ a6) →
      Below w0.heap.size w0 W' ∧ Blk W' w0.heap.size t cs ∧ Blk W' g t [a0, a1, a2, a3, a4, a5, a6] ∧ W.grownBy W' (some g) := by
  rintro W' rfl
  have hn : w0.heap.size ≠ g := by omega
  refine ⟨?_, ?_, ?_, ?_⟩
  · exact below_set (below_set (below_set (below_set (below_set (below_set (below_set HB (by omega) _ _) (by omega) _ _) (by omega) _ _) (by omega) _ _) (by omega) _ _) (by omega) _ _) (by omega) _ _
  · exact ((((((HX.far hn _).far hn _).far hn _).far hn _).far hn _).far hn _).far hn _
  · exact ((((((HG.set_ 0 a0).set_ 1 a1).set_ 2 a2).set_ 3 a3).set_ 4 a4).set_ 5 a5).set_ 6 a6
  · exact gtrans (gtrans (gtrans (gtrans (gtrans (gtrans (grown_set _ g 0 a0) (grown_set _ g 1 a1)) (grown_set _ g 2 a2)) (grown_set _ g 3 a3)) (grown_set _ g 4 a4)) (grown_set _ g 5 a5)) (grown_set _ g 6 a6)
set_option maxHeartbeats 32000000 in
set_option maxRecDepth 100000 in
theorem data_any (hP : AsmOK) (s : Sy) (hf : syFits s) (v : Value) (w : World) (hA : SymAt w v s) (hT : I.Tabled w) : Calls Tryd.prog 4 #[v] w fun e w' => e = .returned (.bool true) ∧ Below w.heap.size w w' := by
  obtain ⟨iN, hi, hz, hs, hb⟩ := info_parts infoNote
  have HJ := Lib.hid (And.intro hi (And.intro hz (And.intro hs hb)))
  clear hi hz hs hb
  have HAl := Lib.hid (fun W (hW : Below w.heap.size w W) => aalive_any hP W (hT.below hW))
  obtain ⟨ar, cr, an, cn, rfl, hR, hN⟩ := hA.parts
  obtain ⟨s', hs'⟩ : ∃ t : Sy, t = { s with rels := [] } := ⟨_, rfl⟩
  have hf' : syFits s' := by
    rw [hs']
    obtain ⟨f1, f2, f3, f4, f5, f6, f7, f8, f9⟩ := hf
    exact ⟨f1, f2, f3, f4, f5, by simp, f7, fun j hj => absurd hj (Nat.not_lt_zero j), f9⟩
  have hDf : syFits (datS s') := by unfold datS; split; exact hf'; exact nought_fits
  have HPD : Hid (∀ vn W, Below w.heap.size w W → NotesAt W vn s.notes → Calls Tryd.prog 13 #[.string (tx s.name), .int .u8 s.bind, .int .u8 s.kind, .int .u32 s.size, .string (tx s.bytes), vn] W (MkPost W (datE s') (datS s'))) := Lib.hid (fun vn W hW h => by
    have := hP.data s' vn W hf' (by rw [hs']) (by rw [hs']; exact h) (hT.below hW)
    rw [hs'] at this ⊢
    exact this)
  have HSm := Lib.hid (fun v v2 W (h1 : SymAt W v (datS s')) (h2 : SymAt W v2 (datS s')) => rsamesym_any _ hDf v v2 W h1 h2)
  have HNt : Hid (∀ W, Below w.heap.size w W → NotesAt W (.slice an s.notes.length cn) s.notes) := Lib.hid (fun W hW => SlC.below hN hW (Nat.le_refl _))
  have HMk5 : Hid (∀ W, Below w.heap.size w W → SymAt W (.agg #[.string (tx s.name), .int .u8 s.bind, .int .u8 s.kind, .int .u32 s.size, .string (tx s.bytes), .slice none 0 0, .slice an s.notes.length cn]) s') := Lib.hid (fun W hW => by
    rw [hs']
    exact ⟨_, _, rfl, ⟨none, 0, rfl, fun h => absurd h (Nat.lt_irrefl 0)⟩, SlC.below hN hW (Nat.le_refl _)⟩)
  have HRS := Lib.hid (fun v W (h : SymAt W v s') => rsym_any s' hf' v W h)
  obtain ⟨qs, hqs⟩ : ∃ q, q = symOk s' := ⟨_, rfl⟩
  have hki : s'.kind = s.kind := by rw [hs']
  have HNo : Hid (¬ ((s.kind = 2 ∨ s.kind = 3) ∧ qs = true) → datE s' = 2 ∧ datS s' = Sy.nought) := Lib.hid (fun h => by
    rw [hqs, ← hki] at h
    unfold datE datS
    rw [if_neg h, if_neg h]
    exact ⟨rfl, rfl⟩)
  have HYes : Hid (((s.kind = 2 ∨ s.kind = 3) ∧ qs = true) → datE s' = 0 ∧ datS s' = s') := Lib.hid (fun h => by
    rw [hqs, ← hki] at h
    unfold datE datS
    rw [if_pos h, if_pos h]
    exact ⟨rfl, rfl⟩)
  rw [← hqs] at HRS
  obtain ⟨E, hE⟩ : ∃ E, E = datE s' := ⟨_, rfl⟩
  obtain ⟨DD, hD⟩ : ∃ D, D = datS s' := ⟨_, rfl⟩
  rw [← hE, ← hD] at HPD HNo HYes
  rw [← hD] at HSm
  have hDr : DD.rels = [] := by rw [hD]; unfold datS; split; rw [hs']; rfl
  unfold MkPost at HPD
  obtain ⟨d0, j0⟩ : ∃ u, u = tx DD.name := ⟨_, rfl⟩
  obtain ⟨d1, j1⟩ : ∃ u, u = DD.bind := ⟨_, rfl⟩
  obtain ⟨d2, j2⟩ : ∃ u, u = DD.kind := ⟨_, rfl⟩
  obtain ⟨d3, j3⟩ : ∃ u, u = DD.size := ⟨_, rfl⟩
  obtain ⟨d4, j4⟩ : ∃ u, u = tx DD.bytes := ⟨_, rfl⟩
  obtain ⟨dn, j6⟩ : ∃ u, u = DD.notes.length := ⟨_, rfl⟩
  have HPt : Hid (∀ W v, SymAt W v DD → ∃ ar cr an cn, v = .agg #[.string d0, .int .u8 d1, .int .u8 d2, .int .u32 d3, .string d4, .slice ar 0 cr, .slice an dn cn]) := Lib.hid (fun W v h => by
    obtain ⟨ar, cr, an, cn, he, _, _⟩ := h.parts
    rw [hDr] at he
    rw [j0, j1, j2, j3, j4, j6]
    exact ⟨ar, cr, an, cn, he⟩)
  have HGr : Hid (∀ W W' g v, SymAt W v DD → Blk W g 29 zS → W.grownBy W' (some g) → SymAt W' v DD) := Lib.hid (fun W W' g v h hb hg => by
    obtain ⟨vr, vn, he, h1, h2⟩ := h
    refine ⟨vr, vn, he, ?_, notes_grown h2 hb hg⟩
    obtain ⟨a, c, h3, _⟩ := h1
    rw [hDr] at h3 ⊢
    exact ⟨a, c, h3, fun h => absurd h (Nat.lt_irrefl 0)⟩)
  clear hDr j0 j1 j2 j3 j4 j6
  have hs1 : ((tx s.name).size : Int) ≤ 140737488355328 := by rw [tx_size]; have := hf.1; omega
  have hs2 : ((tx s.bytes).size : Int) ≤ 140737488355328 := by rw [tx_size]; have := hf.2.2.2.2.1; omega
  have hnl : (s.notes.length : Int) ≤ 140737488355328 := by have := hf.2.2.2.2.2.2.1; omega
  obtain ⟨csN, hcsN⟩ : ∃ f : Nat → List Value, f = fun j => ntCells (s.notes.getD j Nt.nought) := ⟨_, rfl⟩
  have HNs : Hid ((∀ j, j < s.notes.length → (csN j).length = 3) ∧ (∀ j, j < s.notes.length → ∀ u ∈ csN j, u.oneCell' = true) ∧ (∀ W, Below w.heap.size w W → SlC W (.slice an s.notes.length cn) s.notes.length 3 csN) ∧ s.notes.length ≤ maxLen ∧ s.notes.length * 12 ≤ 140737488355328) := Lib.hid ⟨fun j _ => by rw [hcsN]; rfl, fun j _ => by rw [hcsN]; exact nt_one _, fun W hW => by rw [hcsN]; exact SlC.below hN hW (Nat.le_refl _), by have := hf.2.2.2.2.2.2.1; unfold maxLen; omega, hf.2.2.2.2.2.2.1⟩
  have HON : Hid (∀ B v W, W.ownsRow B 76 3 v s.notes.length (flat csN s.notes.length) → NotesAt W v s.notes) := Lib.hid (fun B v W h => by
    rw [hcsN] at h
    exact slC_of_row (fun _ _ => rfl) h)
  obtain ⟨n0, k0⟩ : ∃ u, u = tx s.name := ⟨_, rfl⟩
  obtain ⟨bi, k1⟩ : ∃ u, u = s.bind := ⟨_, rfl⟩
  obtain ⟨ki, k2⟩ : ∃ u, u = s.kind := ⟨_, rfl⟩
  obtain ⟨sz, k3⟩ : ∃ u, u = s.size := ⟨_, rfl⟩
  obtain ⟨bs, k4⟩ : ∃ u, u = tx s.bytes := ⟨_, rfl⟩
  obtain ⟨rl, k5⟩ : ∃ u, u = s.rels.length := ⟨_, rfl⟩
  obtain ⟨nl, k6⟩ : ∃ u, u = s.notes.length := ⟨_, rfl⟩
  simp only [← k0, ← k1, ← k2, ← k3, ← k4, ← k5, ← k6] at HPD HNt HMk5 HNo HYes hs1 hs2 hnl HNs HON ⊢
  have HB0 := Lib.hid (below_new1 w (.cells #[.string n0, .int .u8 bi, .int .u8 ki, .int .u32 sz, .string bs, .slice ar rl cr, .slice an nl cn] 29))
  have HX0 := Lib.hid (Blk.new w 29 [.string n0, .int .u8 bi, .int .u8 ki, .int .u32 sz, .string bs, .slice ar rl cr, .slice an nl cn])
  clear hf hf' hDf hA hR hN hT hs' hqs hki hE hD hcsN k0 k1 k2 k3 k4 k5 k6
  go_enter Tryd.func4, Tryd.ntmps4
  go_upto_region 1 with (fail)
  obtain ⟨wb, hwb⟩ : ∃ wb, wb = w.alloc (.cells #[.string n0, .int .u8 bi, .int .u8 ki, .int .u32 sz, .string bs, .slice ar rl cr, .slice an nl cn] 29) := ⟨_, rfl⟩
  rw [← hwb] at HB0 HX0 ⊢
  clear hwb
  have c0 : wb.cell? ⟨w.heap.size, 0, none⟩ = some (.string n0) := HX0.out.cell 0
  have c1 : wb.cell? ⟨w.heap.size, 1, none⟩ = some (.int .u8 bi) := HX0.out.cell 1
  have c2 : wb.cell? ⟨w.heap.size, 2, none⟩ = some (.int .u8 ki) := HX0.out.cell 2
  have c3 : wb.cell? ⟨w.heap.size, 3, none⟩ = some (.int .u32 sz) := HX0.out.cell 3
  have c4 : wb.cell? ⟨w.heap.size, 4, none⟩ = some (.string bs) := HX0.out.cell 4
  have c5 : wb.cell? ⟨w.heap.size, 5, none⟩ = some (.slice ar rl cr) := HX0.out.cell 5
  have c6 : wb.cell? ⟨w.heap.size, 6, none⟩ = some (.slice an nl cn) := HX0.out.cell 6
  by_cases h1 : (16384 : Int) < (bs.size : Int)
  · go_wp2_with fail
    refine (HAl.out _ HB0.out).mono ?_; rintro e w2 ⟨rfl, q2⟩
    have HQ := Lib.hid (below_call HB0.out q2)
    clear q2
    go_wp2_with fail
    go_ret
    exact ⟨rfl, HQ.out⟩
  have h1' : (bs.size : Int) ≤ 16384 := by omega
  by_cases h2 : (100 : Int) < (nl : Int)
  · go_wp2_with fail
    refine (HAl.out _ HB0.out).mono ?_; rintro e w2 ⟨rfl, q2⟩
    have HQ := Lib.hid (below_call HB0.out q2)
    clear q2
    go_wp2_with fail
    go_ret
    exact ⟨rfl, HQ.out⟩
  have h2' : (nl : Int) ≤ 100 := by omega
  by_cases h3 : (1024 : Int) < (n0.size : Int)
  · go_wp2_with fail
    refine (HAl.out _ HB0.out).mono ?_; rintro e w2 ⟨rfl, q2⟩
    have HQ := Lib.hid (below_call HB0.out q2)
    clear q2
    go_wp2_with fail
    go_ret
    exact ⟨rfl, HQ.out⟩
  have h3' : (n0.size : Int) ≤ 1024 := by omega
  clear h1 h2 h3
  go_upto_region 3 with (fail)
  refine wp_region_held_drew (S := fun w' => w'.cell? ⟨w.heap.size, 0, none⟩ = some (.string n0) ∧ w'.cell? ⟨w.heap.size, 1, none⟩ = some (.int .u8 bi) ∧ w'.cell? ⟨w.heap.size, 2, none⟩ = some (.int .u8 ki) ∧ w'.cell? ⟨w.heap.size, 3, none⟩ = some (.int .u32 sz) ∧ w'.cell? ⟨w.heap.size, 4, none⟩ = some (.string bs) ∧ w'.cell? ⟨w.heap.size, 6, none⟩ = some (.slice an nl cn)) (by kernel_rfl) ⟨c0, c1, c2, c3, c4, c6⟩ (fun hSw => ?_)
  refine wpAnyH_take (i := 0) (v := .pointer (some ⟨w.heap.size, 0, none⟩)) rfl (by kernel_rfl) (by kernel_rfl) (by kernel_rfl) (fun _ _ _ h => h) (Or.inl ⟨by rfl, fun w hSw => by (try dsimp only at hSw); go_simp⟩) (by assumption) ?_
  try simp only [Act.put, List.setIfInBounds_toArray, List.set_cons_zero, List.set_cons_succ, List.getElem_toArray, List.getElem_cons_succ, List.getElem_cons_zero]
  refine wpAnyH_take (i := 1) (v := .string n0) rfl (by kernel_rfl) (by kernel_rfl) (by kernel_rfl) (fun _ _ _ h => h) (Or.inl ⟨by rfl, fun w hSw => by (try dsimp only at hSw); go_simp⟩) (by assumption) ?_
  try simp only [Act.put, List.setIfInBounds_toArray, List.set_cons_zero, List.set_cons_succ, List.getElem_toArray, List.getElem_cons_succ, List.getElem_cons_zero]
  refine wpAnyH_take (i := 2) (v := .pointer (some ⟨w.heap.size, 1, none⟩)) rfl (by kernel_rfl) (by kernel_rfl) (by kernel_rfl) (fun _ _ _ h => h) (Or.inl ⟨by rfl, fun w hSw => by (try dsimp only at hSw); go_simp⟩) (by assumption) ?_
  try simp only [Act.put, List.setIfInBounds_toArray, List.set_cons_zero, List.set_cons_succ, List.getElem_toArray, List.getElem_cons_succ, List.getElem_cons_zero]
  refine wpAnyH_take (i := 3) (v := .int .u8 bi) rfl (by kernel_rfl) (by kernel_rfl) (by kernel_rfl) (fun _ _ _ h => h) (Or.inl ⟨by rfl, fun w hSw => by (try dsimp only at hSw); go_simp⟩) (by assumption) ?_
  try simp only [Act.put, List.setIfInBounds_toArray, List.set_cons_zero, List.set_cons_succ, List.getElem_toArray, List.getElem_cons_succ, List.getElem_cons_zero]
  refine wpAnyH_take (i := 4) (v := .pointer (some ⟨w.heap.size, 2, none⟩)) rfl (by kernel_rfl) (by kernel_rfl) (by kernel_rfl) (fun _ _ _ h => h) (Or.inl ⟨by rfl, fun w hSw => by (try dsimp only at hSw); go_simp⟩) (by assumption) ?_
  try simp only [Act.put, List.setIfInBounds_toArray, List.set_cons_zero, List.set_cons_succ, List.getElem_toArray, List.getElem_cons_succ, List.getElem_cons_zero]
  refine wpAnyH_take (i := 5) (v := .int .u8 ki) rfl (by kernel_rfl) (by kernel_rfl) (by kernel_rfl) (fun _ _ _ h => h) (Or.inl ⟨by rfl, fun w hSw => by (try dsimp only at hSw); go_simp⟩) (by assumption) ?_
  try simp only [Act.put, List.setIfInBounds_toArray, List.set_cons_zero, List.set_cons_succ, List.getElem_toArray, List.getElem_cons_succ, List.getElem_cons_zero]
  refine wpAnyH_take (i := 6) (v := .pointer (some ⟨w.heap.size, 3, none⟩)) rfl (by kernel_rfl) (by kernel_rfl) (by kernel_rfl) (fun _ _ _ h => h) (Or.inl ⟨by rfl, fun w hSw => by (try dsimp only at hSw); go_simp⟩) (by assumption) ?_
  try simp only [Act.put, List.setIfInBounds_toArray, List.set_cons_zero, List.set_cons_succ, List.getElem_toArray, List.getElem_cons_succ, List.getElem_cons_zero]
  refine wpAnyH_take (i := 7) (v := .int .u32 sz) rfl (by kernel_rfl) (by kernel_rfl) (by kernel_rfl) (fun _ _ _ h => h) (Or.inl ⟨by rfl, fun w hSw => by (try dsimp only at hSw); go_simp⟩) (by assumption) ?_
  try simp only [Act.put, List.setIfInBounds_toArray, List.set_cons_zero, List.set_cons_succ, List.getElem_toArray, List.getElem_cons_succ, List.getElem_cons_zero]
  refine wpAnyH_take (i := 8) (v := .pointer (some ⟨w.heap.size, 4, none⟩)) rfl (by kernel_rfl) (by kernel_rfl) (by kernel_rfl) (fun _ _ _ h => h) (Or.inl ⟨by rfl, fun w hSw => by (try dsimp only at hSw); go_simp⟩) (by assumption) ?_
  try simp only [Act.put, List.setIfInBounds_toArray, List.set_cons_zero, List.set_cons_succ, List.getElem_toArray, List.getElem_cons_succ, List.getElem_cons_zero]
  refine wpAnyH_take (i := 9) (v := .string bs) rfl (by kernel_rfl) (by kernel_rfl) (by kernel_rfl) (fun _ _ _ h => h) (Or.inl ⟨by rfl, fun w hSw => by (try dsimp only at hSw); go_simp⟩) (by assumption) ?_
  try simp only [Act.put, List.setIfInBounds_toArray, List.set_cons_zero, List.set_cons_succ, List.getElem_toArray, List.getElem_cons_succ, List.getElem_cons_zero]
  refine wpAnyH_take (i := 10) (v := .pointer (some ⟨w.heap.size, 6, none⟩)) rfl (by kernel_rfl) (by kernel_rfl) (by kernel_rfl) (fun _ _ _ h => h) (Or.inl ⟨by rfl, fun w hSw => by (try dsimp only at hSw); go_simp⟩) (by assumption) ?_
  try simp only [Act.put, List.setIfInBounds_toArray, List.set_cons_zero, List.set_cons_succ, List.getElem_toArray, List.getElem_cons_succ, List.getElem_cons_zero]
  refine wpAnyH_take (i := 11) (v := .slice an nl cn) rfl (by kernel_rfl) (by kernel_rfl) (by kernel_rfl) (fun _ _ _ h => h) (Or.inl ⟨by rfl, fun w hSw => by (try dsimp only at hSw); go_simp⟩) (by assumption) ?_
  try simp only [Act.put, List.setIfInBounds_toArray, List.set_cons_zero, List.set_cons_succ, List.getElem_toArray, List.getElem_cons_succ, List.getElem_cons_zero]
  have HS8 : Hid (∀ W, Blk W w.heap.size 29 [.string n0, .int .u8 bi, .int .u8 ki, .int .u32 sz, .string bs, .slice ar rl cr, .slice an nl cn] → W.cell? ⟨w.heap.size, 0, none⟩ = some (.string n0) ∧ W.cell? ⟨w.heap.size, 1, none⟩ = some (.int .u8 bi) ∧ W.cell? ⟨w.heap.size, 2, none⟩ = some (.int .u8 ki) ∧ W.cell? ⟨w.heap.size, 3, none⟩ = some (.int .u32 sz) ∧ W.cell? ⟨w.heap.size, 4, none⟩ = some (.string bs) ∧ W.cell? ⟨w.heap.size, 6, none⟩ = some (.slice an nl cn)) := Lib.hid (fun W h => ⟨h.cell 0, h.cell 1, h.cell 2, h.cell 3, h.cell 4, h.cell 6⟩)
  have HBd : Hid (Below w.heap.size w wb.drew) := Lib.hid HB0.out.drew
  have HXd : Hid (Blk wb.drew w.heap.size 29 [.string n0, .int .u8 bi, .int .u8 ki, .int .u32 sz, .string bs, .slice ar rl cr, .slice an nl cn]) := Lib.hid HX0.out
  clear HB0 HX0 hSw
  obtain ⟨wd, hwd⟩ : ∃ t, t = wb.drew := ⟨_, rfl⟩
  rw [← hwd] at HBd HXd ⊢
  clear hwd
  refine wpAnyH_ready (rs := [12, 17]) (by kernel_rfl) (by simp) ?_
  refine (AllReadyH.cons (o := _) rfl (fun K hK => ?_) (AllReadyH.cons (o := _) rfl (fun K hK => ?_) AllReadyH.nil))
  · refine step_append_all (by rfl) _ _ 22 (by rfl) w.heap.size 76 iN _ 3 12 Tryd.underlying22 HJ.out.1 HJ.out.2.1 HJ.out.2.2.1 HJ.out.2.2.2 rfl (by decide) (by rfl) (.slice an nl cn) nl csN (by rfl) (HNs.out.2.2.1 _ HBd.out) HNs.out.1 HNs.out.2.1 HNs.out.2.2.2.1 HNs.out.2.2.2.2 HBd.out.size ?_
    intro v1 w1 h6 h7
    have HB1 := Lib.hid (below_call HBd.out (grown_none h7))
    have HX1 := Lib.hid (HXd.out.call (grown_none h7))
    have HN1 := Lib.hid (HON.out _ _ _ h6)
    obtain ⟨aq, cq, hv1⟩ := row_slice h6
    subst hv1
    clear h6
    refine hK.out _ _ (HS8.out _ HX1.out) (fun hSw2 => ?_)
    clear hK K
    try simp only [Act.put, List.setIfInBounds_toArray, List.set_cons_zero, List.set_cons_succ, List.getElem_toArray, List.getElem_cons_succ, List.getElem_cons_zero]
    refine wpAnyH_ready (rs := [13, 17]) (by kernel_rfl) (by simp) ?_
    refine (AllReadyH.cons (o := _) rfl (fun K hK => ?_) (AllReadyH.cons (o := _) rfl (fun K hK => ?_) AllReadyH.nil))
    · go_simp
      refine (HPD.out _ _ HB1.out HN1.out).mono ?_; rintro e w2 ⟨v2, rfl, hs2, q2⟩
      have HB2 := Lib.hid (below_call HB1.out q2)
      have HX2 := Lib.hid (HX1.out.call q2)
      obtain ⟨ar4, cr4, an4, cn4, rfl⟩ := HPt.out _ _ hs2
      have HS2 := Lib.hid hs2
      clear hs2
      go_wp2_with fail
      refine hK.out _ _ (HS8.out _ HX2.out) (fun hSw4 => ?_)
      clear hK K
      try simp only [Act.put, List.setIfInBounds_toArray, List.set_cons_zero, List.set_cons_succ, List.getElem_toArray, List.getElem_cons_succ, List.getElem_cons_zero]
      refine wpAnyH_take (i := 14) (v := .tuple #[.agg #[.string d0, .int .u8 d1, .int .u8 d2, .int .u32 d3, .string d4, .slice ar4 0 cr4, .slice an4 dn cn4], .int .i64 E]) rfl (by kernel_rfl) (by kernel_rfl) (by kernel_rfl) (fun _ _ _ h => h) (Or.inl ⟨by rfl, fun w hSw => by (try dsimp only at hSw); go_simp⟩) (by assumption) ?_
      try simp only [Act.put, List.setIfInBounds_toArray, List.set_cons_zero, List.set_cons_succ, List.getElem_toArray, List.getElem_cons_succ, List.getElem_cons_zero]
      refine wpAnyH_take (i := 15) (v := .agg #[.string d0, .int .u8 d1, .int .u8 d2, .int .u32 d3, .string d4, .slice ar4 0 cr4, .slice an4 dn cn4]) rfl (by kernel_rfl) (by kernel_rfl) (by kernel_rfl) (fun _ _ _ h => h) (Or.inl ⟨by rfl, fun w hSw => by (try dsimp only at hSw); go_simp⟩) (by assumption) ?_
      try simp only [Act.put, List.setIfInBounds_toArray, List.set_cons_zero, List.set_cons_succ, List.getElem_toArray, List.getElem_cons_succ, List.getElem_cons_zero]
      refine wpAnyH_take (i := 16) (v := .int .i64 E) rfl (by kernel_rfl) (by kernel_rfl) (by kernel_rfl) (fun _ _ _ h => h) (Or.inl ⟨by rfl, fun w hSw => by (try dsimp only at hSw); go_simp⟩) (by assumption) ?_
      try simp only [Act.put, List.setIfInBounds_toArray, List.set_cons_zero, List.set_cons_succ, List.getElem_toArray, List.getElem_cons_succ, List.getElem_cons_zero]
      refine wpAnyH_ready (rs := [17]) (by kernel_rfl) (by simp) ?_
      refine (AllReadyH.cons (o := _) rfl (fun K hK => ?_) AllReadyH.nil)
      go_simp
      have HB3 := Lib.hid (below_box HB2.out (.cells #[.string ⟨#[]⟩, .int .u8 0, .int .u8 0, .int .u32 0, .string ⟨#[]⟩, .slice none 0 0, .slice none 0 0] 29))
      have HX3 := Lib.hid (HX2.out.alloc (.cells #[.string ⟨#[]⟩, .int .u8 0, .int .u8 0, .int .u32 0, .string ⟨#[]⟩, .slice none 0 0, .slice none 0 0] 29))
      have HG1 := Lib.hid (Blk.new w2 29 zS)
      refine hK.out _ _ (HS8.out _ HX3.out) (fun hSw3 => ?_)
      clear hK K
      try simp only [Act.put, List.setIfInBounds_toArray, List.set_cons_zero, List.set_cons_succ, List.getElem_toArray, List.getElem_cons_succ, List.getElem_cons_zero]
      refine wpAnyH_ready (rs := [18]) (by kernel_rfl) (by simp) ?_
      refine AllReadyH.cons (o := _) rfl (fun K hK => ?_) AllReadyH.nil
      go_simp
      have HBE := Lib.hid (below_box HB2.out (.cells #[.string d0, .int .u8 d1, .int .u8 d2, .int .u32 d3, .string d4, .slice ar4 0 cr4, .slice an4 dn cn4] 29))
      have HXE := Lib.hid (HX2.out.alloc (.cells #[.string d0, .int .u8 d1, .int .u8 d2, .int .u32 d3, .string d4, .slice ar4 0 cr4, .slice an4 dn cn4] 29))
      have HGE := Lib.hid (Blk.new w2 29 [.string d0, .int .u8 d1, .int .u8 d2, .int .u32 d3, .string d4, .slice ar4 0 cr4, .slice an4 dn cn4])
      have HSE : Hid (SymAt (w2.alloc (.cells #[.string d0, .int .u8 d1, .int .u8 d2, .int .u32 d3, .string d4, .slice ar4 0 cr4, .slice an4 dn cn4] 29)) (.agg #[.string d0, .int .u8 d1, .int .u8 d2, .int .u32 d3, .string d4, .slice ar4 0 cr4, .slice an4 dn cn4]) DD) := Lib.hid (HS2.out.below (below_new1 w2 _))
      obtain ⟨w6, hw6⟩ : ∃ t, t = w2.alloc (.cells #[.string d0, .int .u8 d1, .int .u8 d2, .int .u32 d3, .string d4, .slice ar4 0 cr4, .slice an4 dn cn4] 29) := ⟨_, rfl⟩
      have HgW : Hid (w.heap.size < w2.heap.size) := Lib.hid HX2.out.lt
      obtain ⟨g, hg⟩ : ∃ t, t = w2.heap.size := ⟨_, rfl⟩
      rw [← hw6] at HBE HXE HGE HSE ⊢
      rw [← hg] at HGE HgW ⊢
      clear hw6 hg HS2 HB2 HX2 HB3 HX3 HG1
      refine hK.out _ _ (HS8.out _ HXE.out) (fun hSw5 => ?_)
      clear hK K
      try simp only [Act.put, List.setIfInBounds_toArray, List.set_cons_zero, List.set_cons_succ, List.getElem_toArray, List.getElem_cons_succ, List.getElem_cons_zero]
      refine wpAnyH_take (i := 19) (v := .int .i64 E) rfl (by kernel_rfl) (by kernel_rfl) (by kernel_rfl) (fun _ _ _ h => h) (Or.inl ⟨by rfl, fun w hSw => by (try dsimp only at hSw); go_simp⟩) (by assumption) ?_
      try simp only [Act.put, List.setIfInBounds_toArray, List.set_cons_zero, List.set_cons_succ, List.getElem_toArray, List.getElem_cons_succ, List.getElem_cons_zero]
      refine wpAnyH_done (by kernel_rfl) ?_ _
      clear c0 c1 c2 c3 c4 c5 c6
      have c0 : w6.cell? ⟨w.heap.size, 0, none⟩ = some (.string n0) := HXE.out.cell 0
      have c1 : w6.cell? ⟨w.heap.size, 1, none⟩ = some (.int .u8 bi) := HXE.out.cell 1
      have c2 : w6.cell? ⟨w.heap.size, 2, none⟩ = some (.int .u8 ki) := HXE.out.cell 2
      have c3 : w6.cell? ⟨w.heap.size, 3, none⟩ = some (.int .u32 sz) := HXE.out.cell 3
      have c4 : w6.cell? ⟨w.heap.size, 4, none⟩ = some (.string bs) := HXE.out.cell 4
      have c5 : w6.cell? ⟨w.heap.size, 5, none⟩ = some (.slice ar rl cr) := HXE.out.cell 5
      have c6 : w6.cell? ⟨w.heap.size, 6, none⟩ = some (.slice an nl cn) := HXE.out.cell 6
      go_upto_region 6 with (fail)
      clear c0 c1 c2 c3 c4 c5 c6
      have HB7 := Lib.hid (below_box HBE.out (.cells #[.string n0, .int .u8 bi, .int .u8 ki, .int .u32 sz, .string bs, .slice none 0 0, .slice an nl cn] 29))
      have HX7 := Lib.hid (HXE.out.alloc (.cells #[.string n0, .int .u8 bi, .int .u8 ki, .int .u32 sz, .string bs, .slice none 0 0, .slice an nl cn] 29))
      have HG7 := Lib.hid (HGE.out.alloc (.cells #[.string n0, .int .u8 bi, .int .u8 ki, .int .u32 sz, .string bs, .slice none 0 0, .slice an nl cn] 29))
      have HT7 := Lib.hid (Blk.new w6 29 [.string n0, .int .u8 bi, .int .u8 ki, .int .u32 sz, .string bs, .slice none 0 0, .slice an nl cn])
      have HS7 := Lib.hid (HSE.out.below (below_new1 w6 (.cells #[.string n0, .int .u8 bi, .int .u8 ki, .int .u32 sz, .string bs, .slice none 0 0, .slice an nl cn] 29)))
      have HM7 := Lib.hid (HMk5.out _ HB7.out)
      obtain ⟨w7, hw7⟩ : ∃ t, t = w6.alloc (.cells #[.string n0, .int .u8 bi, .int .u8 ki, .int .u32 sz, .string bs, .slice none 0 0, .slice an nl cn] 29) := ⟨_, rfl⟩
      obtain ⟨pp, hpp⟩ : ∃ t, t = w6.heap.size := ⟨_, rfl⟩
      rw [← hw7] at HB7 HX7 HG7 HT7 HS7 HM7 ⊢
      rw [← hpp] at HT7 ⊢
      clear hw7 hpp HBE HXE HGE HSE HPD HNt HMk5 HNs HON HPt HGr hs1 hs2 hnl h1' h2' h3' HgW
      have c2 : w7.cell? ⟨w.heap.size, 2, none⟩ = some (.int .u8 ki) := HX7.out.cell 2
      have m0 : w7.cell? ⟨pp, 0, none⟩ = some (.string n0) := HT7.out.cell 0
      have m1 : w7.cell? ⟨pp, 1, none⟩ = some (.int .u8 bi) := HT7.out.cell 1
      have m2 : w7.cell? ⟨pp, 2, none⟩ = some (.int .u8 ki) := HT7.out.cell 2
      have m3 : w7.cell? ⟨pp, 3, none⟩ = some (.int .u32 sz) := HT7.out.cell 3
      have m4 : w7.cell? ⟨pp, 4, none⟩ = some (.string bs) := HT7.out.cell 4
      have m5 : w7.cell? ⟨pp, 5, none⟩ = some (.slice none 0 0) := HT7.out.cell 5
      have m6 : w7.cell? ⟨pp, 6, none⟩ = some (.slice an nl cn) := HT7.out.cell 6
      by_cases k2 : ki = 2
      · subst k2
        cases qs
        · obtain ⟨rfl, rfl⟩ := HNo.out (by simp)
          go_wp2_with fail
          refine (HRS.out _ _ HM7.out).mono ?_; rintro e w8 ⟨rfl, q⟩
          have HB8 := Lib.hid (below_call HB7.out q)
          have HG8 := Lib.hid (HG7.out.call q)
          have HT8 := Lib.hid (HT7.out.call q)
          have HS8 := Lib.hid (HS7.out.below q)
          have HM8 := Lib.hid (HM7.out.below q)
          clear q c2 m0 m1 m2 m3 m4 m5 m6
          have y0 : w8.cell? ⟨g, 0, none⟩ = some (.string d0) := HG8.out.cell 0
          have y1 : w8.cell? ⟨g, 1, none⟩ = some (.int .u8 d1) := HG8.out.cell 1
          have y2 : w8.cell? ⟨g, 2, none⟩ = some (.int .u8 d2) := HG8.out.cell 2
          have y3 : w8.cell? ⟨g, 3, none⟩ = some (.int .u32 d3) := HG8.out.cell 3
          have y4 : w8.cell? ⟨g, 4, none⟩ = some (.string d4) := HG8.out.cell 4
          have y5 : w8.cell? ⟨g, 5, none⟩ = some (.slice ar4 0 cr4) := HG8.out.cell 5
          have y6 : w8.cell? ⟨g, 6, none⟩ = some (.slice an4 dn cn4) := HG8.out.cell 6
          have m0 : w8.cell? ⟨pp, 0, none⟩ = some (.string n0) := HT8.out.cell 0
          have m1 : w8.cell? ⟨pp, 1, none⟩ = some (.int .u8 bi) := HT8.out.cell 1
          have m2 : w8.cell? ⟨pp, 2, none⟩ = some (.int .u8 2) := HT8.out.cell 2
          have m3 : w8.cell? ⟨pp, 3, none⟩ = some (.int .u32 sz) := HT8.out.cell 3
          have m4 : w8.cell? ⟨pp, 4, none⟩ = some (.string bs) := HT8.out.cell 4
          have m5 : w8.cell? ⟨pp, 5, none⟩ = some (.slice none 0 0) := HT8.out.cell 5
          have m6 : w8.cell? ⟨pp, 6, none⟩ = some (.slice an nl cn) := HT8.out.cell 6
          go_wp2_with fail
          refine (HSm.out _ _ _ HS8.out ⟨_, _, rfl, ⟨none, 0, rfl, fun h => absurd h (Nat.lt_irrefl 0)⟩, ⟨none, 0, rfl, fun h => absurd h (Nat.lt_irrefl 0)⟩⟩).mono ?_; rintro e w9 ⟨rfl, q⟩
          have HB9 := Lib.hid (below_call HB8.out q)
          clear q
          go_wp2_with fail
          refine (HAl.out _ HB9.out).mono ?_; rintro e wa ⟨rfl, q⟩
          have HQ := Lib.hid (below_call HB9.out q)
          clear q
          go_wp2_with fail
          go_ret
          exact ⟨rfl, HQ.out⟩
        · obtain ⟨rfl, rfl⟩ := HYes.out (by simp)
          go_wp2_with fail
          refine (HRS.out _ _ HM7.out).mono ?_; rintro e w8 ⟨rfl, q⟩
          have HB8 := Lib.hid (below_call HB7.out q)
          have HG8 := Lib.hid (HG7.out.call q)
          have HT8 := Lib.hid (HT7.out.call q)
          have HS8 := Lib.hid (HS7.out.below q)
          have HM8 := Lib.hid (HM7.out.below q)
          clear q c2 m0 m1 m2 m3 m4 m5 m6
          have y0 : w8.cell? ⟨g, 0, none⟩ = some (.string d0) := HG8.out.cell 0
          have y1 : w8.cell? ⟨g, 1, none⟩ = some (.int .u8 d1) := HG8.out.cell 1
          have y2 : w8.cell? ⟨g, 2, none⟩ = some (.int .u8 d2) := HG8.out.cell 2
          have y3 : w8.cell? ⟨g, 3, none⟩ = some (.int .u32 d3) := HG8.out.cell 3
          have y4 : w8.cell? ⟨g, 4, none⟩ = some (.string d4) := HG8.out.cell 4
          have y5 : w8.cell? ⟨g, 5, none⟩ = some (.slice ar4 0 cr4) := HG8.out.cell 5
          have y6 : w8.cell? ⟨g, 6, none⟩ = some (.slice an4 dn cn4) := HG8.out.cell 6
          have m0 : w8.cell? ⟨pp, 0, none⟩ = some (.string n0) := HT8.out.cell 0
          have m1 : w8.cell? ⟨pp, 1, none⟩ = some (.int .u8 bi) := HT8.out.cell 1
          have m2 : w8.cell? ⟨pp, 2, none⟩ = some (.int .u8 2) := HT8.out.cell 2
          have m3 : w8.cell? ⟨pp, 3, none⟩ = some (.int .u32 sz) := HT8.out.cell 3
          have m4 : w8.cell? ⟨pp, 4, none⟩ = some (.string bs) := HT8.out.cell 4
          have m5 : w8.cell? ⟨pp, 5, none⟩ = some (.slice none 0 0) := HT8.out.cell 5
          have m6 : w8.cell? ⟨pp, 6, none⟩ = some (.slice an nl cn) := HT8.out.cell 6
          go_wp2_with fail
          refine (HSm.out _ _ _ HS8.out HM8.out).mono ?_; rintro e w9 ⟨rfl, q⟩
          have HB9 := Lib.hid (below_call HB8.out q)
          clear q
          go_wp2_with fail
          refine (HAl.out _ HB9.out).mono ?_; rintro e wa ⟨rfl, q⟩
          have HQ := Lib.hid (below_call HB9.out q)
          clear q
          go_wp2_with fail
          go_ret
          exact ⟨rfl, HQ.out⟩
      · by_cases k3 : ki = 3
        · subst k3
          cases qs
          · obtain ⟨rfl, rfl⟩ := HNo.out (by simp)
            go_wp2_with fail
            refine (HRS.out _ _ HM7.out).mono ?_; rintro e w8 ⟨rfl, q⟩
            have HB8 := Lib.hid (below_call HB7.out q)
            have HG8 := Lib.hid (HG7.out.call q)
            have HT8 := Lib.hid (HT7.out.call q)
            have HS8 := Lib.hid (HS7.out.below q)
            have HM8 := Lib.hid (HM7.out.below q)
            clear q c2 m0 m1 m2 m3 m4 m5 m6
            have y0 : w8.cell? ⟨g, 0, none⟩ = some (.string d0) := HG8.out.cell 0
            have y1 : w8.cell? ⟨g, 1, none⟩ = some (.int .u8 d1) := HG8.out.cell 1
            have y2 : w8.cell? ⟨g, 2, none⟩ = some (.int .u8 d2) := HG8.out.cell 2
            have y3 : w8.cell? ⟨g, 3, none⟩ = some (.int .u32 d3) := HG8.out.cell 3
            have y4 : w8.cell? ⟨g, 4, none⟩ = some (.string d4) := HG8.out.cell 4
            have y5 : w8.cell? ⟨g, 5, none⟩ = some (.slice ar4 0 cr4) := HG8.out.cell 5
            have y6 : w8.cell? ⟨g, 6, none⟩ = some (.slice an4 dn cn4) := HG8.out.cell 6
            have m0 : w8.cell? ⟨pp, 0, none⟩ = some (.string n0) := HT8.out.cell 0
            have m1 : w8.cell? ⟨pp, 1, none⟩ = some (.int .u8 bi) := HT8.out.cell 1
            have m2 : w8.cell? ⟨pp, 2, none⟩ = some (.int .u8 3) := HT8.out.cell 2
            have m3 : w8.cell? ⟨pp, 3, none⟩ = some (.int .u32 sz) := HT8.out.cell 3
            have m4 : w8.cell? ⟨pp, 4, none⟩ = some (.string bs) := HT8.out.cell 4
            have m5 : w8.cell? ⟨pp, 5, none⟩ = some (.slice none 0 0) := HT8.out.cell 5
            have m6 : w8.cell? ⟨pp, 6, none⟩ = some (.slice an nl cn) := HT8.out.cell 6
            go_wp2_with fail
            refine (HSm.out _ _ _ HS8.out ⟨_, _, rfl, ⟨none, 0, rfl, fun h => absurd h (Nat.lt_irrefl 0)⟩, ⟨none, 0, rfl, fun h => absurd h (Nat.lt_irrefl 0)⟩⟩).mono ?_; rintro e w9 ⟨rfl, q⟩
            have HB9 := Lib.hid (below_call HB8.out q)
            clear q
            go_wp2_with fail
            refine (HAl.out _ HB9.out).mono ?_; rintro e wa ⟨rfl, q⟩
            have HQ := Lib.hid (below_call HB9.out q)
            clear q
            go_wp2_with fail
            go_ret
            exact ⟨rfl, HQ.out⟩
          · obtain ⟨rfl, rfl⟩ := HYes.out (by simp)
            go_wp2_with fail
            refine (HRS.out _ _ HM7.out).mono ?_; rintro e w8 ⟨rfl, q⟩
            have HB8 := Lib.hid (below_call HB7.out q)
            have HG8 := Lib.hid (HG7.out.call q)
            have HT8 := Lib.hid (HT7.out.call q)
            have HS8 := Lib.hid (HS7.out.below q)
            have HM8 := Lib.hid (HM7.out.below q)
            clear q c2 m0 m1 m2 m3 m4 m5 m6
            have y0 : w8.cell? ⟨g, 0, none⟩ = some (.string d0) := HG8.out.cell 0
            have y1 : w8.cell? ⟨g, 1, none⟩ = some (.int .u8 d1) := HG8.out.cell 1
            have y2 : w8.cell? ⟨g, 2, none⟩ = some (.int .u8 d2) := HG8.out.cell 2
            have y3 : w8.cell? ⟨g, 3, none⟩ = some (.int .u32 d3) := HG8.out.cell 3
            have y4 : w8.cell? ⟨g, 4, none⟩ = some (.string d4) := HG8.out.cell 4
            have y5 : w8.cell? ⟨g, 5, none⟩ = some (.slice ar4 0 cr4) := HG8.out.cell 5
            have y6 : w8.cell? ⟨g, 6, none⟩ = some (.slice an4 dn cn4) := HG8.out.cell 6
            have m0 : w8.cell? ⟨pp, 0, none⟩ = some (.string n0) := HT8.out.cell 0
            have m1 : w8.cell? ⟨pp, 1, none⟩ = some (.int .u8 bi) := HT8.out.cell 1
            have m2 : w8.cell? ⟨pp, 2, none⟩ = some (.int .u8 3) := HT8.out.cell 2
            have m3 : w8.cell? ⟨pp, 3, none⟩ = some (.int .u32 sz) := HT8.out.cell 3
            have m4 : w8.cell? ⟨pp, 4, none⟩ = some (.string bs) := HT8.out.cell 4
            have m5 : w8.cell? ⟨pp, 5, none⟩ = some (.slice none 0 0) := HT8.out.cell 5
            have m6 : w8.cell? ⟨pp, 6, none⟩ = some (.slice an nl cn) := HT8.out.cell 6
            go_wp2_with fail
            refine (HSm.out _ _ _ HS8.out HM8.out).mono ?_; rintro e w9 ⟨rfl, q⟩
            have HB9 := Lib.hid (below_call HB8.out q)
            clear q
            go_wp2_with fail
            refine (HAl.out _ HB9.out).mono ?_; rintro e wa ⟨rfl, q⟩
            have HQ := Lib.hid (below_call HB9.out q)
            clear q
            go_wp2_with fail
            go_ret
            exact ⟨rfl, HQ.out⟩
        · obtain ⟨rfl, rfl⟩ := HNo.out (by simp [k2, k3])
          have HB8 := HB7
          have HG8 := HG7
          have HT8 := HT7
          have HS8 := HS7
          clear m0 m1 m2 m3 m4 m5 m6
          have dk2 : decide (ki = 2) = false := decide_eq_false k2
          have dk3 : decide (ki = 3) = false := decide_eq_false k3
          have y0 : w7.cell? ⟨g, 0, none⟩ = some (.string d0) := HG7.out.cell 0
          have y1 : w7.cell? ⟨g, 1, none⟩ = some (.int .u8 d1) := HG7.out.cell 1
          have y2 : w7.cell? ⟨g, 2, none⟩ = some (.int .u8 d2) := HG7.out.cell 2
          have y3 : w7.cell? ⟨g, 3, none⟩ = some (.int .u32 d3) := HG7.out.cell 3
          have y4 : w7.cell? ⟨g, 4, none⟩ = some (.string d4) := HG7.out.cell 4
          have y5 : w7.cell? ⟨g, 5, none⟩ = some (.slice ar4 0 cr4) := HG7.out.cell 5
          have y6 : w7.cell? ⟨g, 6, none⟩ = some (.slice an4 dn cn4) := HG7.out.cell 6
          have m0 : w7.cell? ⟨pp, 0, none⟩ = some (.string n0) := HT7.out.cell 0
          have m1 : w7.cell? ⟨pp, 1, none⟩ = some (.int .u8 bi) := HT7.out.cell 1
          have m2 : w7.cell? ⟨pp, 2, none⟩ = some (.int .u8 ki) := HT7.out.cell 2
          have m3 : w7.cell? ⟨pp, 3, none⟩ = some (.int .u32 sz) := HT7.out.cell 3
          have m4 : w7.cell? ⟨pp, 4, none⟩ = some (.string bs) := HT7.out.cell 4
          have m5 : w7.cell? ⟨pp, 5, none⟩ = some (.slice none 0 0) := HT7.out.cell 5
          have m6 : w7.cell? ⟨pp, 6, none⟩ = some (.slice an nl cn) := HT7.out.cell 6
          go_wp2_with fail
          refine (HSm.out _ _ _ HS8.out ⟨_, _, rfl, ⟨none, 0, rfl, fun h => absurd h (Nat.lt_irrefl 0)⟩, ⟨none, 0, rfl, fun h => absurd h (Nat.lt_irrefl 0)⟩⟩).mono ?_; rintro e w9 ⟨rfl, q⟩
          have HB9 := Lib.hid (below_call HB8.out q)
          clear q
          go_wp2_with fail
          refine (HAl.out _ HB9.out).mono ?_; rintro e wa ⟨rfl, q⟩
          have HQ := Lib.hid (below_call HB9.out q)
          clear q
          go_wp2_with fail
          go_ret
          exact ⟨rfl, HQ.out⟩
    · go_simp
      have HgW : Hid (w.heap.size < w1.heap.size) := Lib.hid HX1.out.lt
      have HB2 := Lib.hid (below_box HB1.out (.cells #[.string ⟨#[]⟩, .int .u8 0, .int .u8 0, .int .u32 0, .string ⟨#[]⟩, .slice none 0 0, .slice none 0 0] 29))
      have HX2 := Lib.hid (HX1.out.alloc (.cells #[.string ⟨#[]⟩, .int .u8 0, .int .u8 0, .int .u32 0, .string ⟨#[]⟩, .slice none 0 0, .slice none 0 0] 29))
      have HG1 := Lib.hid (Blk.new w1 29 zS)
      replace HN1 := Lib.hid (NotesAt.below HN1.out (below_new1 w1 (.cells #[.string ⟨#[]⟩, .int .u8 0, .int .u8 0, .int .u32 0, .string ⟨#[]⟩, .slice none 0 0, .slice none 0 0] 29)))
      obtain ⟨w5, hw5⟩ : ∃ t, t = w1.alloc (.cells #[.string ⟨#[]⟩, .int .u8 0, .int .u8 0, .int .u32 0, .string ⟨#[]⟩, .slice none 0 0, .slice none 0 0] 29) := ⟨_, rfl⟩
      obtain ⟨g, hg⟩ : ∃ t, t = w1.heap.size := ⟨_, rfl⟩
      replace HG1 : Hid (Blk w5 g 29 zS) := by rw [hw5, hg]; exact HG1
      rw [← hg] at HgW ⊢
      rw [← hw5] at HB2 HX2 HN1 ⊢
      clear hw5 hg
      refine hK.out _ _ (HS8.out _ HX2.out) (fun hSw3 => ?_)
      clear hK K
      try simp only [Act.put, List.setIfInBounds_toArray, List.set_cons_zero, List.set_cons_succ, List.getElem_toArray, List.getElem_cons_succ, List.getElem_cons_zero]
      refine wpAnyH_ready (rs := [13]) (by kernel_rfl) (by simp) ?_
      refine (AllReadyH.cons (o := _) rfl (fun K hK => ?_) AllReadyH.nil)
      go_simp
      refine (HPD.out _ _ HB2.out HN1.out).mono ?_; rintro e w2 ⟨v2, rfl, hs2, q2⟩
      have HB3 := Lib.hid (below_call HB2.out q2)
      have HX3 := Lib.hid (HX2.out.call q2)
      obtain ⟨ar4, cr4, an4, cn4, rfl⟩ := HPt.out _ _ hs2
      have HS2 := Lib.hid hs2
      have HG2 := Lib.hid (HG1.out.call q2)
      clear hs2
      go_wp2_with fail
      refine hK.out _ _ (HS8.out _ HX3.out) (fun hSw4 => ?_)
      clear hK K
      try simp only [Act.put, List.setIfInBounds_toArray, List.set_cons_zero, List.set_cons_succ, List.getElem_toArray, List.getElem_cons_succ, List.getElem_cons_zero]
      refine wpAnyH_take (i := 14) (v := .tuple #[.agg #[.string d0, .int .u8 d1, .int .u8 d2, .int .u32 d3, .string d4, .slice ar4 0 cr4, .slice an4 dn cn4], .int .i64 E]) rfl (by kernel_rfl) (by kernel_rfl) (by kernel_rfl) (fun _ _ _ h => h) (Or.inl ⟨by rfl, fun w hSw => by (try dsimp only at hSw); go_simp⟩) (by assumption) ?_
      try simp only [Act.put, List.setIfInBounds_toArray, List.set_cons_zero, List.set_cons_succ, List.getElem_toArray, List.getElem_cons_succ, List.getElem_cons_zero]
      refine wpAnyH_take (i := 15) (v := .agg #[.string d0, .int .u8 d1, .int .u8 d2, .int .u32 d3, .string d4, .slice ar4 0 cr4, .slice an4 dn cn4]) rfl (by kernel_rfl) (by kernel_rfl) (by kernel_rfl) (fun _ _ _ h => h) (Or.inl ⟨by rfl, fun w hSw => by (try dsimp only at hSw); go_simp⟩) (by assumption) ?_
      try simp only [Act.put, List.setIfInBounds_toArray, List.set_cons_zero, List.set_cons_succ, List.getElem_toArray, List.getElem_cons_succ, List.getElem_cons_zero]
      refine wpAnyH_take (i := 16) (v := .int .i64 E) rfl (by kernel_rfl) (by kernel_rfl) (by kernel_rfl) (fun _ _ _ h => h) (Or.inl ⟨by rfl, fun w hSw => by (try dsimp only at hSw); go_simp⟩) (by assumption) ?_
      try simp only [Act.put, List.setIfInBounds_toArray, List.set_cons_zero, List.set_cons_succ, List.getElem_toArray, List.getElem_cons_succ, List.getElem_cons_zero]
      refine wpAnyH_ready (rs := [18]) (by kernel_rfl) (by simp) ?_
      refine AllReadyH.cons (o := _) rfl (fun K hK => ?_) AllReadyH.nil
      have HZ := Lib.hid (store7 (.string d0) (.int .u8 d1) (.int .u8 d2) (.int .u32 d3) (.string d4) (.slice ar4 0 cr4) (.slice an4 dn cn4) HB3.out HgW.out HX3.out HG2.out)
      have g0 : w2.cell? ⟨g, 0, none⟩ = some (.string ⟨#[]⟩) := HG2.out.cell 0
      have g1 : w2.cell? ⟨g, 1, none⟩ = some (.int .u8 0) := HG2.out.cell 1
      have g2 : w2.cell? ⟨g, 2, none⟩ = some (.int .u8 0) := HG2.out.cell 2
      have g3 : w2.cell? ⟨g, 3, none⟩ = some (.int .u32 0) := HG2.out.cell 3
      have g4 : w2.cell? ⟨g, 4, none⟩ = some (.string ⟨#[]⟩) := HG2.out.cell 4
      have g5 : w2.cell? ⟨g, 5, none⟩ = some (.slice none 0 0) := HG2.out.cell 5
      have g6 : w2.cell? ⟨g, 6, none⟩ = some (.slice none 0 0) := HG2.out.cell 6
      have f0 : ∀ i, w2.frozen? ⟨g, i, none⟩ = false := HG2.out.frozen
      go_simp
      obtain ⟨w6, hw6⟩ : ∃ t, t = (((((((w2.setCell ⟨g, 0, none⟩ (.string d0)).setCell ⟨g, 1, none⟩ (.int .u8 d1)).setCell ⟨g, 2, none⟩ (.int .u8 d2)).setCell ⟨g, 3, none⟩ (.int .u32 d3)).setCell ⟨g, 4, none⟩ (.string d4)).setCell ⟨g, 5, none⟩ (.slice ar4 0 cr4)).setCell ⟨g, 6, none⟩ (.slice an4 dn cn4)) := ⟨_, rfl⟩
      rw [← hw6]
      obtain ⟨HBE, HXE, HGE, HSE⟩ := HZ.out w6 hw6
      replace HBE := Lib.hid HBE
      replace HXE := Lib.hid HXE
      replace HGE := Lib.hid HGE
      replace HSE : Hid (SymAt w6 (.agg #[.string d0, .int .u8 d1, .int .u8 d2, .int .u32 d3, .string d4, .slice ar4 0 cr4, .slice an4 dn cn4]) DD) := Lib.hid (HGr.out _ _ _ _ HS2.out HG2.out HSE)
      clear hw6 HZ g0 g1 g2 g3 g4 g5 g6 f0 HG1 HG2 HS2
      refine hK.out _ _ (HS8.out _ HXE.out) (fun hSw5 => ?_)
      clear hK K
      try simp only [Act.put, List.setIfInBounds_toArray, List.set_cons_zero, List.set_cons_succ, List.getElem_toArray, List.getElem_cons_succ, List.getElem_cons_zero]
      refine wpAnyH_take (i := 19) (v := .int .i64 E) rfl (by kernel_rfl) (by kernel_rfl) (by kernel_rfl) (fun _ _ _ h => h) (Or.inl ⟨by rfl, fun w hSw => by (try dsimp only at hSw); go_simp⟩) (by assumption) ?_
      try simp only [Act.put, List.setIfInBounds_toArray, List.set_cons_zero, List.set_cons_succ, List.getElem_toArray, List.getElem_cons_succ, List.getElem_cons_zero]
      refine wpAnyH_done (by kernel_rfl) ?_ _
      clear c0 c1 c2 c3 c4 c5 c6
      have c0 : w6.cell? ⟨w.heap.size, 0, none⟩ = some (.string n0) := HXE.out.cell 0
      have c1 : w6.cell? ⟨w.heap.size, 1, none⟩ = some (.int .u8 bi) := HXE.out.cell 1
      have c2 : w6.cell? ⟨w.heap.size, 2, none⟩ = some (.int .u8 ki) := HXE.out.cell 2
      have c3 : w6.cell? ⟨w.heap.size, 3, none⟩ = some (.int .u32 sz) := HXE.out.cell 3
      have c4 : w6.cell? ⟨w.heap.size, 4, none⟩ = some (.string bs) := HXE.out.cell 4
      have c5 : w6.cell? ⟨w.heap.size, 5, none⟩ = some (.slice ar rl cr) := HXE.out.cell 5
      have c6 : w6.cell? ⟨w.heap.size, 6, none⟩ = some (.slice an nl cn) := HXE.out.cell 6
      go_upto_region 6 with (fail)
      clear c0 c1 c2 c3 c4 c5 c6
      have HB7 := Lib.hid (below_box HBE.out (.cells #[.string n0, .int .u8 bi, .int .u8 ki, .int .u32 sz, .string bs, .slice none 0 0, .slice an nl cn] 29))
      have HX7 := Lib.hid (HXE.out.alloc (.cells #[.string n0, .int .u8 bi, .int .u8 ki, .int .u32 sz, .string bs, .slice none 0 0, .slice an nl cn] 29))
      have HG7 := Lib.hid (HGE.out.alloc (.cells #[.string n0, .int .u8 bi, .int .u8 ki, .int .u32 sz, .string bs, .slice none 0 0, .slice an nl cn] 29))
      have HT7 := Lib.hid (Blk.new w6 29 [.string n0, .int .u8 bi, .int .u8 ki, .int .u32 sz, .string bs, .slice none 0 0, .slice an nl cn])
      have HS7 := Lib.hid (HSE.out.below (below_new1 w6 (.cells #[.string n0, .int .u8 bi, .int .u8 ki, .int .u32 sz, .string bs, .slice none 0 0, .slice an nl cn] 29)))
      have HM7 := Lib.hid (HMk5.out _ HB7.out)
      obtain ⟨w7, hw7⟩ : ∃ t, t = w6.alloc (.cells #[.string n0, .int .u8 bi, .int .u8 ki, .int .u32 sz, .string bs, .slice none 0 0, .slice an nl cn] 29) := ⟨_, rfl⟩
      obtain ⟨pp, hpp⟩ : ∃ t, t = w6.heap.size := ⟨_, rfl⟩
      rw [← hw7] at HB7 HX7 HG7 HT7 HS7 HM7 ⊢
      rw [← hpp] at HT7 ⊢
      clear hw7 hpp HBE HXE HGE HSE HPD HNt HMk5 HNs HON HPt HGr hs1 hs2 hnl h1' h2' h3' HgW
      have c2 : w7.cell? ⟨w.heap.size, 2, none⟩ = some (.int .u8 ki) := HX7.out.cell 2
      have m0 : w7.cell? ⟨pp, 0, none⟩ = some (.string n0) := HT7.out.cell 0
      have m1 : w7.cell? ⟨pp, 1, none⟩ = some (.int .u8 bi) := HT7.out.cell 1
      have m2 : w7.cell? ⟨pp, 2, none⟩ = some (.int .u8 ki) := HT7.out.cell 2
      have m3 : w7.cell? ⟨pp, 3, none⟩ = some (.int .u32 sz) := HT7.out.cell 3
      have m4 : w7.cell? ⟨pp, 4, none⟩ = some (.string bs) := HT7.out.cell 4
      have m5 : w7.cell? ⟨pp, 5, none⟩ = some (.slice none 0 0) := HT7.out.cell 5
      have m6 : w7.cell? ⟨pp, 6, none⟩ = some (.slice an nl cn) := HT7.out.cell 6
      by_cases k2 : ki = 2
      · subst k2
        cases qs
        · obtain ⟨rfl, rfl⟩ := HNo.out (by simp)
          go_wp2_with fail
          refine (HRS.out _ _ HM7.out).mono ?_; rintro e w8 ⟨rfl, q⟩
          have HB8 := Lib.hid (below_call HB7.out q)
          have HG8 := Lib.hid (HG7.out.call q)
          have HT8 := Lib.hid (HT7.out.call q)
          have HS8 := Lib.hid (HS7.out.below q)
          have HM8 := Lib.hid (HM7.out.below q)
          clear q c2 m0 m1 m2 m3 m4 m5 m6
          have y0 : w8.cell? ⟨g, 0, none⟩ = some (.string d0) := HG8.out.cell 0
          have y1 : w8.cell? ⟨g, 1, none⟩ = some (.int .u8 d1) := HG8.out.cell 1
          have y2 : w8.cell? ⟨g, 2, none⟩ = some (.int .u8 d2) := HG8.out.cell 2
          have y3 : w8.cell? ⟨g, 3, none⟩ = some (.int .u32 d3) := HG8.out.cell 3
          have y4 : w8.cell? ⟨g, 4, none⟩ = some (.string d4) := HG8.out.cell 4
          have y5 : w8.cell? ⟨g, 5, none⟩ = some (.slice ar4 0 cr4) := HG8.out.cell 5
          have y6 : w8.cell? ⟨g, 6, none⟩ = some (.slice an4 dn cn4) := HG8.out.cell 6
          have m0 : w8.cell? ⟨pp, 0, none⟩ = some (.string n0) := HT8.out.cell 0
          have m1 : w8.cell? ⟨pp, 1, none⟩ = some (.int .u8 bi) := HT8.out.cell 1
          have m2 : w8.cell? ⟨pp, 2, none⟩ = some (.int .u8 2) := HT8.out.cell 2
          have m3 : w8.cell? ⟨pp, 3, none⟩ = some (.int .u32 sz) := HT8.out.cell 3
          have m4 : w8.cell? ⟨pp, 4, none⟩ = some (.string bs) := HT8.out.cell 4
          have m5 : w8.cell? ⟨pp, 5, none⟩ = some (.slice none 0 0) := HT8.out.cell 5
          have m6 : w8.cell? ⟨pp, 6, none⟩ = some (.slice an nl cn) := HT8.out.cell 6
          go_wp2_with fail
          refine (HSm.out _ _ _ HS8.out ⟨_, _, rfl, ⟨none, 0, rfl, fun h => absurd h (Nat.lt_irrefl 0)⟩, ⟨none, 0, rfl, fun h => absurd h (Nat.lt_irrefl 0)⟩⟩).mono ?_; rintro e w9 ⟨rfl, q⟩
          have HB9 := Lib.hid (below_call HB8.out q)
          clear q
          go_wp2_with fail
          refine (HAl.out _ HB9.out).mono ?_; rintro e wa ⟨rfl, q⟩
          have HQ := Lib.hid (below_call HB9.out q)
          clear q
          go_wp2_with fail
          go_ret
          exact ⟨rfl, HQ.out⟩
        · obtain ⟨rfl, rfl⟩ := HYes.out (by simp)
          go_wp2_with fail
          refine (HRS.out _ _ HM7.out).mono ?_; rintro e w8 ⟨rfl, q⟩
          have HB8 := Lib.hid (below_call HB7.out q)
          have HG8 := Lib.hid (HG7.out.call q)
          have HT8 := Lib.hid (HT7.out.call q)
          have HS8 := Lib.hid (HS7.out.below q)
          have HM8 := Lib.hid (HM7.out.below q)
          clear q c2 m0 m1 m2 m3 m4 m5 m6
          have y0 : w8.cell? ⟨g, 0, none⟩ = some (.string d0) := HG8.out.cell 0
          have y1 : w8.cell? ⟨g, 1, none⟩ = some (.int .u8 d1) := HG8.out.cell 1
          have y2 : w8.cell? ⟨g, 2, none⟩ = some (.int .u8 d2) := HG8.out.cell 2
          have y3 : w8.cell? ⟨g, 3, none⟩ = some (.int .u32 d3) := HG8.out.cell 3
          have y4 : w8.cell? ⟨g, 4, none⟩ = some (.string d4) := HG8.out.cell 4
          have y5 : w8.cell? ⟨g, 5, none⟩ = some (.slice ar4 0 cr4) := HG8.out.cell 5
          have y6 : w8.cell? ⟨g, 6, none⟩ = some (.slice an4 dn cn4) := HG8.out.cell 6
          have m0 : w8.cell? ⟨pp, 0, none⟩ = some (.string n0) := HT8.out.cell 0
          have m1 : w8.cell? ⟨pp, 1, none⟩ = some (.int .u8 bi) := HT8.out.cell 1
          have m2 : w8.cell? ⟨pp, 2, none⟩ = some (.int .u8 2) := HT8.out.cell 2
          have m3 : w8.cell? ⟨pp, 3, none⟩ = some (.int .u32 sz) := HT8.out.cell 3
          have m4 : w8.cell? ⟨pp, 4, none⟩ = some (.string bs) := HT8.out.cell 4
          have m5 : w8.cell? ⟨pp, 5, none⟩ = some (.slice none 0 0) := HT8.out.cell 5
          have m6 : w8.cell? ⟨pp, 6, none⟩ = some (.slice an nl cn) := HT8.out.cell 6
          go_wp2_with fail
          refine (HSm.out _ _ _ HS8.out HM8.out).mono ?_; rintro e w9 ⟨rfl, q⟩
          have HB9 := Lib.hid (below_call HB8.out q)
          clear q
          go_wp2_with fail
          refine (HAl.out _ HB9.out).mono ?_; rintro e wa ⟨rfl, q⟩
          have HQ := Lib.hid (below_call HB9.out q)
          clear q
          go_wp2_with fail
          go_ret
          exact ⟨rfl, HQ.out⟩
      · by_cases k3 : ki = 3
        · subst k3
          cases qs
          · obtain ⟨rfl, rfl⟩ := HNo.out (by simp)
            go_wp2_with fail
            refine (HRS.out _ _ HM7.out).mono ?_; rintro e w8 ⟨rfl, q⟩
            have HB8 := Lib.hid (below_call HB7.out q)
            have HG8 := Lib.hid (HG7.out.call q)
            have HT8 := Lib.hid (HT7.out.call q)
            have HS8 := Lib.hid (HS7.out.below q)
            have HM8 := Lib.hid (HM7.out.below q)
            clear q c2 m0 m1 m2 m3 m4 m5 m6
            have y0 : w8.cell? ⟨g, 0, none⟩ = some (.string d0) := HG8.out.cell 0
            have y1 : w8.cell? ⟨g, 1, none⟩ = some (.int .u8 d1) := HG8.out.cell 1
            have y2 : w8.cell? ⟨g, 2, none⟩ = some (.int .u8 d2) := HG8.out.cell 2
            have y3 : w8.cell? ⟨g, 3, none⟩ = some (.int .u32 d3) := HG8.out.cell 3
            have y4 : w8.cell? ⟨g, 4, none⟩ = some (.string d4) := HG8.out.cell 4
            have y5 : w8.cell? ⟨g, 5, none⟩ = some (.slice ar4 0 cr4) := HG8.out.cell 5
            have y6 : w8.cell? ⟨g, 6, none⟩ = some (.slice an4 dn cn4) := HG8.out.cell 6
            have m0 : w8.cell? ⟨pp, 0, none⟩ = some (.string n0) := HT8.out.cell 0
            have m1 : w8.cell? ⟨pp, 1, none⟩ = some (.int .u8 bi) := HT8.out.cell 1
            have m2 : w8.cell? ⟨pp, 2, none⟩ = some (.int .u8 3) := HT8.out.cell 2
            have m3 : w8.cell? ⟨pp, 3, none⟩ = some (.int .u32 sz) := HT8.out.cell 3
            have m4 : w8.cell? ⟨pp, 4, none⟩ = some (.string bs) := HT8.out.cell 4
            have m5 : w8.cell? ⟨pp, 5, none⟩ = some (.slice none 0 0) := HT8.out.cell 5
            have m6 : w8.cell? ⟨pp, 6, none⟩ = some (.slice an nl cn) := HT8.out.cell 6
            go_wp2_with fail
            refine (HSm.out _ _ _ HS8.out ⟨_, _, rfl, ⟨none, 0, rfl, fun h => absurd h (Nat.lt_irrefl 0)⟩, ⟨none, 0, rfl, fun h => absurd h (Nat.lt_irrefl 0)⟩⟩).mono ?_; rintro e w9 ⟨rfl, q⟩
            have HB9 := Lib.hid (below_call HB8.out q)
            clear q
            go_wp2_with fail
            refine (HAl.out _ HB9.out).mono ?_; rintro e wa ⟨rfl, q⟩
            have HQ := Lib.hid (below_call HB9.out q)
            clear q
            go_wp2_with fail
            go_ret
            exact ⟨rfl, HQ.out⟩
          · obtain ⟨rfl, rfl⟩ := HYes.out (by simp)
            go_wp2_with fail
            refine (HRS.out _ _ HM7.out).mono ?_; rintro e w8 ⟨rfl, q⟩
            have HB8 := Lib.hid (below_call HB7.out q)
            have HG8 := Lib.hid (HG7.out.call q)
            have HT8 := Lib.hid (HT7.out.call q)
            have HS8 := Lib.hid (HS7.out.below q)
            have HM8 := Lib.hid (HM7.out.below q)
            clear q c2 m0 m1 m2 m3 m4 m5 m6
            have y0 : w8.cell? ⟨g, 0, none⟩ = some (.string d0) := HG8.out.cell 0
            have y1 : w8.cell? ⟨g, 1, none⟩ = some (.int .u8 d1) := HG8.out.cell 1
            have y2 : w8.cell? ⟨g, 2, none⟩ = some (.int .u8 d2) := HG8.out.cell 2
            have y3 : w8.cell? ⟨g, 3, none⟩ = some (.int .u32 d3) := HG8.out.cell 3
            have y4 : w8.cell? ⟨g, 4, none⟩ = some (.string d4) := HG8.out.cell 4
            have y5 : w8.cell? ⟨g, 5, none⟩ = some (.slice ar4 0 cr4) := HG8.out.cell 5
            have y6 : w8.cell? ⟨g, 6, none⟩ = some (.slice an4 dn cn4) := HG8.out.cell 6
            have m0 : w8.cell? ⟨pp, 0, none⟩ = some (.string n0) := HT8.out.cell 0
            have m1 : w8.cell? ⟨pp, 1, none⟩ = some (.int .u8 bi) := HT8.out.cell 1
            have m2 : w8.cell? ⟨pp, 2, none⟩ = some (.int .u8 3) := HT8.out.cell 2
            have m3 : w8.cell? ⟨pp, 3, none⟩ = some (.int .u32 sz) := HT8.out.cell 3
            have m4 : w8.cell? ⟨pp, 4, none⟩ = some (.string bs) := HT8.out.cell 4
            have m5 : w8.cell? ⟨pp, 5, none⟩ = some (.slice none 0 0) := HT8.out.cell 5
            have m6 : w8.cell? ⟨pp, 6, none⟩ = some (.slice an nl cn) := HT8.out.cell 6
            go_wp2_with fail
            refine (HSm.out _ _ _ HS8.out HM8.out).mono ?_; rintro e w9 ⟨rfl, q⟩
            have HB9 := Lib.hid (below_call HB8.out q)
            clear q
            go_wp2_with fail
            refine (HAl.out _ HB9.out).mono ?_; rintro e wa ⟨rfl, q⟩
            have HQ := Lib.hid (below_call HB9.out q)
            clear q
            go_wp2_with fail
            go_ret
            exact ⟨rfl, HQ.out⟩
        · obtain ⟨rfl, rfl⟩ := HNo.out (by simp [k2, k3])
          have HB8 := HB7
          have HG8 := HG7
          have HT8 := HT7
          have HS8 := HS7
          clear m0 m1 m2 m3 m4 m5 m6
          have dk2 : decide (ki = 2) = false := decide_eq_false k2
          have dk3 : decide (ki = 3) = false := decide_eq_false k3
          have y0 : w7.cell? ⟨g, 0, none⟩ = some (.string d0) := HG7.out.cell 0
          have y1 : w7.cell? ⟨g, 1, none⟩ = some (.int .u8 d1) := HG7.out.cell 1
          have y2 : w7.cell? ⟨g, 2, none⟩ = some (.int .u8 d2) := HG7.out.cell 2
          have y3 : w7.cell? ⟨g, 3, none⟩ = some (.int .u32 d3) := HG7.out.cell 3
          have y4 : w7.cell? ⟨g, 4, none⟩ = some (.string d4) := HG7.out.cell 4
          have y5 : w7.cell? ⟨g, 5, none⟩ = some (.slice ar4 0 cr4) := HG7.out.cell 5
          have y6 : w7.cell? ⟨g, 6, none⟩ = some (.slice an4 dn cn4) := HG7.out.cell 6
          have m0 : w7.cell? ⟨pp, 0, none⟩ = some (.string n0) := HT7.out.cell 0
          have m1 : w7.cell? ⟨pp, 1, none⟩ = some (.int .u8 bi) := HT7.out.cell 1
          have m2 : w7.cell? ⟨pp, 2, none⟩ = some (.int .u8 ki) := HT7.out.cell 2
          have m3 : w7.cell? ⟨pp, 3, none⟩ = some (.int .u32 sz) := HT7.out.cell 3
          have m4 : w7.cell? ⟨pp, 4, none⟩ = some (.string bs) := HT7.out.cell 4
          have m5 : w7.cell? ⟨pp, 5, none⟩ = some (.slice none 0 0) := HT7.out.cell 5
          have m6 : w7.cell? ⟨pp, 6, none⟩ = some (.slice an nl cn) := HT7.out.cell 6
          go_wp2_with fail
          refine (HSm.out _ _ _ HS8.out ⟨_, _, rfl, ⟨none, 0, rfl, fun h => absurd h (Nat.lt_irrefl 0)⟩, ⟨none, 0, rfl, fun h => absurd h (Nat.lt_irrefl 0)⟩⟩).mono ?_; rintro e w9 ⟨rfl, q⟩
          have HB9 := Lib.hid (below_call HB8.out q)
          clear q
          go_wp2_with fail
          refine (HAl.out _ HB9.out).mono ?_; rintro e wa ⟨rfl, q⟩
          have HQ := Lib.hid (below_call HB9.out q)
          clear q
          go_wp2_with fail
          go_ret
          exact ⟨rfl, HQ.out⟩
  · go_simp
    have HgW : Hid (w.heap.size < wd.heap.size) := Lib.hid HXd.out.lt
    have HB1 := Lib.hid (below_box HBd.out (.cells #[.string ⟨#[]⟩, .int .u8 0, .int .u8 0, .int .u32 0, .string ⟨#[]⟩, .slice none 0 0, .slice none 0 0] 29))
    have HX1 := Lib.hid (HXd.out.alloc (.cells #[.string ⟨#[]⟩, .int .u8 0, .int .u8 0, .int .u32 0, .string ⟨#[]⟩, .slice none 0 0, .slice none 0 0] 29))
    have HG1 := Lib.hid (Blk.new wd 29 zS)
    obtain ⟨w5, hw5⟩ : ∃ t, t = wd.alloc (.cells #[.string ⟨#[]⟩, .int .u8 0, .int .u8 0, .int .u32 0, .string ⟨#[]⟩, .slice none 0 0, .slice none 0 0] 29) := ⟨_, rfl⟩
    obtain ⟨g, hg⟩ : ∃ t, t = wd.heap.size := ⟨_, rfl⟩
    replace HG1 : Hid (Blk w5 g 29 zS) := by rw [hw5, hg]; exact HG1
    rw [← hg] at HgW ⊢
    rw [← hw5] at HB1 HX1 ⊢
    clear hw5 hg
    refine hK.out _ _ (HS8.out _ HX1.out) (fun hSw3 => ?_)
    clear hK K
    try simp only [Act.put, List.setIfInBounds_toArray, List.set_cons_zero, List.set_cons_succ, List.getElem_toArray, List.getElem_cons_succ, List.getElem_cons_zero]
    refine wpAnyH_ready (rs := [12]) (by kernel_rfl) (by simp) ?_
    refine (AllReadyH.cons (o := _) rfl (fun K hK => ?_) AllReadyH.nil)
    refine step_append_all (by rfl) _ _ 22 (by rfl) w.heap.size 76 iN _ 3 12 Tryd.underlying22 HJ.out.1 HJ.out.2.1 HJ.out.2.2.1 HJ.out.2.2.2 rfl (by decide) (by rfl) (.slice an nl cn) nl csN (by rfl) (HNs.out.2.2.1 _ HB1.out) HNs.out.1 HNs.out.2.1 HNs.out.2.2.2.1 HNs.out.2.2.2.2 HB1.out.size ?_
    intro v1 w1 h6 h7
    have HB2 := Lib.hid (below_call HB1.out (grown_none h7))
    have HX2 := Lib.hid (HX1.out.call (grown_none h7))
    have HN1 := Lib.hid (HON.out _ _ _ h6)
    have HG2 := Lib.hid (HG1.out.call (grown_none h7))
    obtain ⟨aq, cq, hv1⟩ := row_slice h6
    subst hv1
    clear h6
    refine hK.out _ _ (HS8.out _ HX2.out) (fun hSw2 => ?_)
    clear hK K
    try simp only [Act.put, List.setIfInBounds_toArray, List.set_cons_zero, List.set_cons_succ, List.getElem_toArray, List.getElem_cons_succ, List.getElem_cons_zero]
    refine wpAnyH_ready (rs := [13]) (by kernel_rfl) (by simp) ?_
    refine (AllReadyH.cons (o := _) rfl (fun K hK => ?_) AllReadyH.nil)
    go_simp
    refine (HPD.out _ _ HB2.out HN1.out).mono ?_; rintro e w2 ⟨v2, rfl, hs2, q2⟩
    have HB3 := Lib.hid (below_call HB2.out q2)
    have HX3 := Lib.hid (HX2.out.call q2)
    obtain ⟨ar4, cr4, an4, cn4, rfl⟩ := HPt.out _ _ hs2
    have HS2 := Lib.hid hs2
    have HG3 := Lib.hid (HG2.out.call q2)
    clear hs2
    go_wp2_with fail
    refine hK.out _ _ (HS8.out _ HX3.out) (fun hSw4 => ?_)
    clear hK K
    try simp only [Act.put, List.setIfInBounds_toArray, List.set_cons_zero, List.set_cons_succ, List.getElem_toArray, List.getElem_cons_succ, List.getElem_cons_zero]
    refine wpAnyH_take (i := 14) (v := .tuple #[.agg #[.string d0, .int .u8 d1, .int .u8 d2, .int .u32 d3, .string d4, .slice ar4 0 cr4, .slice an4 dn cn4], .int .i64 E]) rfl (by kernel_rfl) (by kernel_rfl) (by kernel_rfl) (fun _ _ _ h => h) (Or.inl ⟨by rfl, fun w hSw => by (try dsimp only at hSw); go_simp⟩) (by assumption) ?_
    try simp only [Act.put, List.setIfInBounds_toArray, List.set_cons_zero, List.set_cons_succ, List.getElem_toArray, List.getElem_cons_succ, List.getElem_cons_zero]
    refine wpAnyH_take (i := 15) (v := .agg #[.string d0, .int .u8 d1, .int .u8 d2, .int .u32 d3, .string d4, .slice ar4 0 cr4, .slice an4 dn cn4]) rfl (by kernel_rfl) (by kernel_rfl) (by kernel_rfl) (fun _ _ _ h => h) (Or.inl ⟨by rfl, fun w hSw => by (try dsimp only at hSw); go_simp⟩) (by assumption) ?_
    try simp only [Act.put, List.setIfInBounds_toArray, List.set_cons_zero, List.set_cons_succ, List.getElem_toArray, List.getElem_cons_succ, List.getElem_cons_zero]
    refine wpAnyH_take (i := 16) (v := .int .i64 E) rfl (by kernel_rfl) (by kernel_rfl) (by kernel_rfl) (fun _ _ _ h => h) (Or.inl ⟨by rfl, fun w hSw => by (try dsimp only at hSw); go_simp⟩) (by assumption) ?_
    try simp only [Act.put, List.setIfInBounds_toArray, List.set_cons_zero, List.set_cons_succ, List.getElem_toArray, List.getElem_cons_succ, List.getElem_cons_zero]
    refine wpAnyH_ready (rs := [18]) (by kernel_rfl) (by simp) ?_
    refine AllReadyH.cons (o := _) rfl (fun K hK => ?_) AllReadyH.nil
    have HZ := Lib.hid (store7 (.string d0) (.int .u8 d1) (.int .u8 d2) (.int .u32 d3) (.string d4) (.slice ar4 0 cr4) (.slice an4 dn cn4) HB3.out HgW.out HX3.out HG3.out)
    have g0 : w2.cell? ⟨g, 0, none⟩ = some (.string ⟨#[]⟩) := HG3.out.cell 0
    have g1 : w2.cell? ⟨g, 1, none⟩ = some (.int .u8 0) := HG3.out.cell 1
    have g2 : w2.cell? ⟨g, 2, none⟩ = some (.int .u8 0) := HG3.out.cell 2
    have g3 : w2.cell? ⟨g, 3, none⟩ = some (.int .u32 0) := HG3.out.cell 3
    have g4 : w2.cell? ⟨g, 4, none⟩ = some (.string ⟨#[]⟩) := HG3.out.cell 4
    have g5 : w2.cell? ⟨g, 5, none⟩ = some (.slice none 0 0) := HG3.out.cell 5
    have g6 : w2.cell? ⟨g, 6, none⟩ = some (.slice none 0 0) := HG3.out.cell 6
    have f0 : ∀ i, w2.frozen? ⟨g, i, none⟩ = false := HG3.out.frozen
    go_simp
    obtain ⟨w6, hw6⟩ : ∃ t, t = (((((((w2.setCell ⟨g, 0, none⟩ (.string d0)).setCell ⟨g, 1, none⟩ (.int .u8 d1)).setCell ⟨g, 2, none⟩ (.int .u8 d2)).setCell ⟨g, 3, none⟩ (.int .u32 d3)).setCell ⟨g, 4, none⟩ (.string d4)).setCell ⟨g, 5, none⟩ (.slice ar4 0 cr4)).setCell ⟨g, 6, none⟩ (.slice an4 dn cn4)) := ⟨_, rfl⟩
    rw [← hw6]
    obtain ⟨HBE, HXE, HGE, HSE⟩ := HZ.out w6 hw6
    replace HBE := Lib.hid HBE
    replace HXE := Lib.hid HXE
    replace HGE := Lib.hid HGE
    replace HSE : Hid (SymAt w6 (.agg #[.string d0, .int .u8 d1, .int .u8 d2, .int .u32 d3, .string d4, .slice ar4 0 cr4, .slice an4 dn cn4]) DD) := Lib.hid (HGr.out _ _ _ _ HS2.out HG3.out HSE)
    clear hw6 HZ g0 g1 g2 g3 g4 g5 g6 f0 HG1 HG2 HG3 HS2
    refine hK.out _ _ (HS8.out _ HXE.out) (fun hSw5 => ?_)
    clear hK K
    try simp only [Act.put, List.setIfInBounds_toArray, List.set_cons_zero, List.set_cons_succ, List.getElem_toArray, List.getElem_cons_succ, List.getElem_cons_zero]
    refine wpAnyH_take (i := 19) (v := .int .i64 E) rfl (by kernel_rfl) (by kernel_rfl) (by kernel_rfl) (fun _ _ _ h => h) (Or.inl ⟨by rfl, fun w hSw => by (try dsimp only at hSw); go_simp⟩) (by assumption) ?_
    try simp only [Act.put, List.setIfInBounds_toArray, List.set_cons_zero, List.set_cons_succ, List.getElem_toArray, List.getElem_cons_succ, List.getElem_cons_zero]
    refine wpAnyH_done (by kernel_rfl) ?_ _
    clear c0 c1 c2 c3 c4 c5 c6
    have c0 : w6.cell? ⟨w.heap.size, 0, none⟩ = some (.string n0) := HXE.out.cell 0
    have c1 : w6.cell? ⟨w.heap.size, 1, none⟩ = some (.int .u8 bi) := HXE.out.cell 1
    have c2 : w6.cell? ⟨w.heap.size, 2, none⟩ = some (.int .u8 ki) := HXE.out.cell 2
    have c3 : w6.cell? ⟨w.heap.size, 3, none⟩ = some (.int .u32 sz) := HXE.out.cell 3
    have c4 : w6.cell? ⟨w.heap.size, 4, none⟩ = some (.string bs) := HXE.out.cell 4
    have c5 : w6.cell? ⟨w.heap.size, 5, none⟩ = some (.slice ar rl cr) := HXE.out.cell 5
    have c6 : w6.cell? ⟨w.heap.size, 6, none⟩ = some (.slice an nl cn) := HXE.out.cell 6
    go_upto_region 6 with (fail)
    clear c0 c1 c2 c3 c4 c5 c6
    have HB7 := Lib.hid (below_box HBE.out (.cells #[.string n0, .int .u8 bi, .int .u8 ki, .int .u32 sz, .string bs, .slice none 0 0, .slice an nl cn] 29))
    have HX7 := Lib.hid (HXE.out.alloc (.cells #[.string n0, .int .u8 bi, .int .u8 ki, .int .u32 sz, .string bs, .slice none 0 0, .slice an nl cn] 29))
    have HG7 := Lib.hid (HGE.out.alloc (.cells #[.string n0, .int .u8 bi, .int .u8 ki, .int .u32 sz, .string bs, .slice none 0 0, .slice an nl cn] 29))
    have HT7 := Lib.hid (Blk.new w6 29 [.string n0, .int .u8 bi, .int .u8 ki, .int .u32 sz, .string bs, .slice none 0 0, .slice an nl cn])
    have HS7 := Lib.hid (HSE.out.below (below_new1 w6 (.cells #[.string n0, .int .u8 bi, .int .u8 ki, .int .u32 sz, .string bs, .slice none 0 0, .slice an nl cn] 29)))
    have HM7 := Lib.hid (HMk5.out _ HB7.out)
    obtain ⟨w7, hw7⟩ : ∃ t, t = w6.alloc (.cells #[.string n0, .int .u8 bi, .int .u8 ki, .int .u32 sz, .string bs, .slice none 0 0, .slice an nl cn] 29) := ⟨_, rfl⟩
    obtain ⟨pp, hpp⟩ : ∃ t, t = w6.heap.size := ⟨_, rfl⟩
    rw [← hw7] at HB7 HX7 HG7 HT7 HS7 HM7 ⊢
    rw [← hpp] at HT7 ⊢
    clear hw7 hpp HBE HXE HGE HSE HPD HNt HMk5 HNs HON HPt HGr hs1 hs2 hnl h1' h2' h3' HgW
    have c2 : w7.cell? ⟨w.heap.size, 2, none⟩ = some (.int .u8 ki) := HX7.out.cell 2
    have m0 : w7.cell? ⟨pp, 0, none⟩ = some (.string n0) := HT7.out.cell 0
    have m1 : w7.cell? ⟨pp, 1, none⟩ = some (.int .u8 bi) := HT7.out.cell 1
    have m2 : w7.cell? ⟨pp, 2, none⟩ = some (.int .u8 ki) := HT7.out.cell 2
    have m3 : w7.cell? ⟨pp, 3, none⟩ = some (.int .u32 sz) := HT7.out.cell 3
    have m4 : w7.cell? ⟨pp, 4, none⟩ = some (.string bs) := HT7.out.cell 4
    have m5 : w7.cell? ⟨pp, 5, none⟩ = some (.slice none 0 0) := HT7.out.cell 5
    have m6 : w7.cell? ⟨pp, 6, none⟩ = some (.slice an nl cn) := HT7.out.cell 6
    by_cases k2 : ki = 2
    · subst k2
      cases qs
      · obtain ⟨rfl, rfl⟩ := HNo.out (by simp)
        go_wp2_with fail
        refine (HRS.out _ _ HM7.out).mono ?_; rintro e w8 ⟨rfl, q⟩
        have HB8 := Lib.hid (below_call HB7.out q)
        have HG8 := Lib.hid (HG7.out.call q)
        have HT8 := Lib.hid (HT7.out.call q)
        have HS8 := Lib.hid (HS7.out.below q)
        have HM8 := Lib.hid (HM7.out.below q)
        clear q c2 m0 m1 m2 m3 m4 m5 m6
        have y0 : w8.cell? ⟨g, 0, none⟩ = some (.string d0) := HG8.out.cell 0
        have y1 : w8.cell? ⟨g, 1, none⟩ = some (.int .u8 d1) := HG8.out.cell 1
        have y2 : w8.cell? ⟨g, 2, none⟩ = some (.int .u8 d2) := HG8.out.cell 2
        have y3 : w8.cell? ⟨g, 3, none⟩ = some (.int .u32 d3) := HG8.out.cell 3
        have y4 : w8.cell? ⟨g, 4, none⟩ = some (.string d4) := HG8.out.cell 4
        have y5 : w8.cell? ⟨g, 5, none⟩ = some (.slice ar4 0 cr4) := HG8.out.cell 5
        have y6 : w8.cell? ⟨g, 6, none⟩ = some (.slice an4 dn cn4) := HG8.out.cell 6
        have m0 : w8.cell? ⟨pp, 0, none⟩ = some (.string n0) := HT8.out.cell 0
        have m1 : w8.cell? ⟨pp, 1, none⟩ = some (.int .u8 bi) := HT8.out.cell 1
        have m2 : w8.cell? ⟨pp, 2, none⟩ = some (.int .u8 2) := HT8.out.cell 2
        have m3 : w8.cell? ⟨pp, 3, none⟩ = some (.int .u32 sz) := HT8.out.cell 3
        have m4 : w8.cell? ⟨pp, 4, none⟩ = some (.string bs) := HT8.out.cell 4
        have m5 : w8.cell? ⟨pp, 5, none⟩ = some (.slice none 0 0) := HT8.out.cell 5
        have m6 : w8.cell? ⟨pp, 6, none⟩ = some (.slice an nl cn) := HT8.out.cell 6
        go_wp2_with fail
        refine (HSm.out _ _ _ HS8.out ⟨_, _, rfl, ⟨none, 0, rfl, fun h => absurd h (Nat.lt_irrefl 0)⟩, ⟨none, 0, rfl, fun h => absurd h (Nat.lt_irrefl 0)⟩⟩).mono ?_; rintro e w9 ⟨rfl, q⟩
        have HB9 := Lib.hid (below_call HB8.out q)
        clear q
        go_wp2_with fail
        refine (HAl.out _ HB9.out).mono ?_; rintro e wa ⟨rfl, q⟩
        have HQ := Lib.hid (below_call HB9.out q)
        clear q
        go_wp2_with fail
        go_ret
        exact ⟨rfl, HQ.out⟩
      · obtain ⟨rfl, rfl⟩ := HYes.out (by simp)
        go_wp2_with fail
        refine (HRS.out _ _ HM7.out).mono ?_; rintro e w8 ⟨rfl, q⟩
        have HB8 := Lib.hid (below_call HB7.out q)
        have HG8 := Lib.hid (HG7.out.call q)
        have HT8 := Lib.hid (HT7.out.call q)
        have HS8 := Lib.hid (HS7.out.below q)
        have HM8 := Lib.hid (HM7.out.below q)
        clear q c2 m0 m1 m2 m3 m4 m5 m6
        have y0 : w8.cell? ⟨g, 0, none⟩ = some (.string d0) := HG8.out.cell 0
        have y1 : w8.cell? ⟨g, 1, none⟩ = some (.int .u8 d1) := HG8.out.cell 1
        have y2 : w8.cell? ⟨g, 2, none⟩ = some (.int .u8 d2) := HG8.out.cell 2
        have y3 : w8.cell? ⟨g, 3, none⟩ = some (.int .u32 d3) := HG8.out.cell 3
        have y4 : w8.cell? ⟨g, 4, none⟩ = some (.string d4) := HG8.out.cell 4
        have y5 : w8.cell? ⟨g, 5, none⟩ = some (.slice ar4 0 cr4) := HG8.out.cell 5
        have y6 : w8.cell? ⟨g, 6, none⟩ = some (.slice an4 dn cn4) := HG8.out.cell 6
        have m0 : w8.cell? ⟨pp, 0, none⟩ = some (.string n0) := HT8.out.cell 0
        have m1 : w8.cell? ⟨pp, 1, none⟩ = some (.int .u8 bi) := HT8.out.cell 1
        have m2 : w8.cell? ⟨pp, 2, none⟩ = some (.int .u8 2) := HT8.out.cell 2
        have m3 : w8.cell? ⟨pp, 3, none⟩ = some (.int .u32 sz) := HT8.out.cell 3
        have m4 : w8.cell? ⟨pp, 4, none⟩ = some (.string bs) := HT8.out.cell 4
        have m5 : w8.cell? ⟨pp, 5, none⟩ = some (.slice none 0 0) := HT8.out.cell 5
        have m6 : w8.cell? ⟨pp, 6, none⟩ = some (.slice an nl cn) := HT8.out.cell 6
        go_wp2_with fail
        refine (HSm.out _ _ _ HS8.out HM8.out).mono ?_; rintro e w9 ⟨rfl, q⟩
        have HB9 := Lib.hid (below_call HB8.out q)
        clear q
        go_wp2_with fail
        refine (HAl.out _ HB9.out).mono ?_; rintro e wa ⟨rfl, q⟩
        have HQ := Lib.hid (below_call HB9.out q)
        clear q
        go_wp2_with fail
        go_ret
        exact ⟨rfl, HQ.out⟩
    · by_cases k3 : ki = 3
      · subst k3
        cases qs
        · obtain ⟨rfl, rfl⟩ := HNo.out (by simp)
          go_wp2_with fail
          refine (HRS.out _ _ HM7.out).mono ?_; rintro e w8 ⟨rfl, q⟩
          have HB8 := Lib.hid (below_call HB7.out q)
          have HG8 := Lib.hid (HG7.out.call q)
          have HT8 := Lib.hid (HT7.out.call q)
          have HS8 := Lib.hid (HS7.out.below q)
          have HM8 := Lib.hid (HM7.out.below q)
          clear q c2 m0 m1 m2 m3 m4 m5 m6
          have y0 : w8.cell? ⟨g, 0, none⟩ = some (.string d0) := HG8.out.cell 0
          have y1 : w8.cell? ⟨g, 1, none⟩ = some (.int .u8 d1) := HG8.out.cell 1
          have y2 : w8.cell? ⟨g, 2, none⟩ = some (.int .u8 d2) := HG8.out.cell 2
          have y3 : w8.cell? ⟨g, 3, none⟩ = some (.int .u32 d3) := HG8.out.cell 3
          have y4 : w8.cell? ⟨g, 4, none⟩ = some (.string d4) := HG8.out.cell 4
          have y5 : w8.cell? ⟨g, 5, none⟩ = some (.slice ar4 0 cr4) := HG8.out.cell 5
          have y6 : w8.cell? ⟨g, 6, none⟩ = some (.slice an4 dn cn4) := HG8.out.cell 6
          have m0 : w8.cell? ⟨pp, 0, none⟩ = some (.string n0) := HT8.out.cell 0
          have m1 : w8.cell? ⟨pp, 1, none⟩ = some (.int .u8 bi) := HT8.out.cell 1
          have m2 : w8.cell? ⟨pp, 2, none⟩ = some (.int .u8 3) := HT8.out.cell 2
          have m3 : w8.cell? ⟨pp, 3, none⟩ = some (.int .u32 sz) := HT8.out.cell 3
          have m4 : w8.cell? ⟨pp, 4, none⟩ = some (.string bs) := HT8.out.cell 4
          have m5 : w8.cell? ⟨pp, 5, none⟩ = some (.slice none 0 0) := HT8.out.cell 5
          have m6 : w8.cell? ⟨pp, 6, none⟩ = some (.slice an nl cn) := HT8.out.cell 6
          go_wp2_with fail
          refine (HSm.out _ _ _ HS8.out ⟨_, _, rfl, ⟨none, 0, rfl, fun h => absurd h (Nat.lt_irrefl 0)⟩, ⟨none, 0, rfl, fun h => absurd h (Nat.lt_irrefl 0)⟩⟩).mono ?_; rintro e w9 ⟨rfl, q⟩
          have HB9 := Lib.hid (below_call HB8.out q)
          clear q
          go_wp2_with fail
          refine (HAl.out _ HB9.out).mono ?_; rintro e wa ⟨rfl, q⟩
          have HQ := Lib.hid (below_call HB9.out q)
          clear q
          go_wp2_with fail
          go_ret
          exact ⟨rfl, HQ.out⟩
        · obtain ⟨rfl, rfl⟩ := HYes.out (by simp)
          go_wp2_with fail
          refine (HRS.out _ _ HM7.out).mono ?_; rintro e w8 ⟨rfl, q⟩
          have HB8 := Lib.hid (below_call HB7.out q)
          have HG8 := Lib.hid (HG7.out.call q)
          have HT8 := Lib.hid (HT7.out.call q)
          have HS8 := Lib.hid (HS7.out.below q)
          have HM8 := Lib.hid (HM7.out.below q)
          clear q c2 m0 m1 m2 m3 m4 m5 m6
          have y0 : w8.cell? ⟨g, 0, none⟩ = some (.string d0) := HG8.out.cell 0
          have y1 : w8.cell? ⟨g, 1, none⟩ = some (.int .u8 d1) := HG8.out.cell 1
          have y2 : w8.cell? ⟨g, 2, none⟩ = some (.int .u8 d2) := HG8.out.cell 2
          have y3 : w8.cell? ⟨g, 3, none⟩ = some (.int .u32 d3) := HG8.out.cell 3
          have y4 : w8.cell? ⟨g, 4, none⟩ = some (.string d4) := HG8.out.cell 4
          have y5 : w8.cell? ⟨g, 5, none⟩ = some (.slice ar4 0 cr4) := HG8.out.cell 5
          have y6 : w8.cell? ⟨g, 6, none⟩ = some (.slice an4 dn cn4) := HG8.out.cell 6
          have m0 : w8.cell? ⟨pp, 0, none⟩ = some (.string n0) := HT8.out.cell 0
          have m1 : w8.cell? ⟨pp, 1, none⟩ = some (.int .u8 bi) := HT8.out.cell 1
          have m2 : w8.cell? ⟨pp, 2, none⟩ = some (.int .u8 3) := HT8.out.cell 2
          have m3 : w8.cell? ⟨pp, 3, none⟩ = some (.int .u32 sz) := HT8.out.cell 3
          have m4 : w8.cell? ⟨pp, 4, none⟩ = some (.string bs) := HT8.out.cell 4
          have m5 : w8.cell? ⟨pp, 5, none⟩ = some (.slice none 0 0) := HT8.out.cell 5
          have m6 : w8.cell? ⟨pp, 6, none⟩ = some (.slice an nl cn) := HT8.out.cell 6
          go_wp2_with fail
          refine (HSm.out _ _ _ HS8.out HM8.out).mono ?_; rintro e w9 ⟨rfl, q⟩
          have HB9 := Lib.hid (below_call HB8.out q)
          clear q
          go_wp2_with fail
          refine (HAl.out _ HB9.out).mono ?_; rintro e wa ⟨rfl, q⟩
          have HQ := Lib.hid (below_call HB9.out q)
          clear q
          go_wp2_with fail
          go_ret
          exact ⟨rfl, HQ.out⟩
      · obtain ⟨rfl, rfl⟩ := HNo.out (by simp [k2, k3])
        have HB8 := HB7
        have HG8 := HG7
        have HT8 := HT7
        have HS8 := HS7
        clear m0 m1 m2 m3 m4 m5 m6
        have dk2 : decide (ki = 2) = false := decide_eq_false k2
        have dk3 : decide (ki = 3) = false := decide_eq_false k3
        have y0 : w7.cell? ⟨g, 0, none⟩ = some (.string d0) := HG7.out.cell 0
        have y1 : w7.cell? ⟨g, 1, none⟩ = some (.int .u8 d1) := HG7.out.cell 1
        have y2 : w7.cell? ⟨g, 2, none⟩ = some (.int .u8 d2) := HG7.out.cell 2
        have y3 : w7.cell? ⟨g, 3, none⟩ = some (.int .u32 d3) := HG7.out.cell 3
        have y4 : w7.cell? ⟨g, 4, none⟩ = some (.string d4) := HG7.out.cell 4
        have y5 : w7.cell? ⟨g, 5, none⟩ = some (.slice ar4 0 cr4) := HG7.out.cell 5
        have y6 : w7.cell? ⟨g, 6, none⟩ = some (.slice an4 dn cn4) := HG7.out.cell 6
        have m0 : w7.cell? ⟨pp, 0, none⟩ = some (.string n0) := HT7.out.cell 0
        have m1 : w7.cell? ⟨pp, 1, none⟩ = some (.int .u8 bi) := HT7.out.cell 1
        have m2 : w7.cell? ⟨pp, 2, none⟩ = some (.int .u8 ki) := HT7.out.cell 2
        have m3 : w7.cell? ⟨pp, 3, none⟩ = some (.int .u32 sz) := HT7.out.cell 3
        have m4 : w7.cell? ⟨pp, 4, none⟩ = some (.string bs) := HT7.out.cell 4
        have m5 : w7.cell? ⟨pp, 5, none⟩ = some (.slice none 0 0) := HT7.out.cell 5
        have m6 : w7.cell? ⟨pp, 6, none⟩ = some (.slice an nl cn) := HT7.out.cell 6
        go_wp2_with fail
        refine (HSm.out _ _ _ HS8.out ⟨_, _, rfl, ⟨none, 0, rfl, fun h => absurd h (Nat.lt_irrefl 0)⟩, ⟨none, 0, rfl, fun h => absurd h (Nat.lt_irrefl 0)⟩⟩).mono ?_; rintro e w9 ⟨rfl, q⟩
        have HB9 := Lib.hid (below_call HB8.out q)
        clear q
        go_wp2_with fail
        refine (HAl.out _ HB9.out).mono ?_; rintro e wa ⟨rfl, q⟩
        have HQ := Lib.hid (below_call HB9.out q)
        clear q
        go_wp2_with fail
        go_ret
        exact ⟨rfl, HQ.out⟩
end Go.Proofs.YtlnnhgmkibjgmaaDoor
