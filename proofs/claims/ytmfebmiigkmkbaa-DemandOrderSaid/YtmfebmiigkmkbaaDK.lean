/- The gatherer's extent. -/
import Derived.Test.YtmfebmiigkmkbaaDJ
import Derived.StillTailTactics
set_option linter.unusedVariables false
set_option linter.unusedSimpArgs false
namespace Go.Proofs.Ytmfebmiigkmkbaa
open Go Go.RowKit Oj Dm

/-- The blocks of an element raised. -/
theorem fm_set (l : List Xt) (k : Nat) (hk : k < l.length) (b : Int) : (l.flatMap xtCells).set (k * 2 + 1) (.int .u32 b) = (l.set k ⟨(l.getD k Xt.nought).id, b⟩).flatMap xtCells := by
  have e : l = l.take k ++ l.getD k Xt.nought :: l.drop (k + 1) := by
    rw [List.getD_eq_getElem?_getD, List.getElem?_eq_getElem hk]
    simp
  obtain ⟨x, hx⟩ : ∃ x, x = l.getD k Xt.nought := ⟨_, rfl⟩
  rw [← hx] at e ⊢
  obtain ⟨A, hA⟩ : ∃ A, A = l.take k := ⟨_, rfl⟩
  obtain ⟨D, hD⟩ : ∃ D, D = l.drop (k + 1) := ⟨_, rfl⟩
  have hl : A.length = k := by rw [hA, List.length_take]; omega
  rw [← hA, ← hD] at e
  clear hA hD hx
  subst e
  rw [← hl]
  have h1 : (A ++ x :: D).set A.length ⟨x.id, b⟩ = A ++ ⟨x.id, b⟩ :: D := by simp
  rw [h1, List.flatMap_append, List.flatMap_append, List.flatMap_cons, List.flatMap_cons]
  have h2 : (A.flatMap xtCells).length = A.length * 2 := fm_len xt_len A
  rw [List.set_append_right _ _ (by omega), h2, show A.length * 2 + 1 - A.length * 2 = 1 by omega]
  rfl
theorem set_put (l : List Xt) (k : Nat) (hk : k ≤ l.length) (x y : Xt) : (l.take k ++ x :: l.drop k).set k y = l.take k ++ y :: l.drop k := by
  have hl : (l.take k).length = k := by rw [List.length_take]; omega
  obtain ⟨A, hA⟩ : ∃ A, A = l.take k := ⟨_, rfl⟩
  rw [← hA] at hl ⊢
  rw [List.set_append_right _ _ (by omega), hl, Nat.sub_self]
  rfl
theorem set_own (l : List Xt) (k : Nat) (hk : k < l.length) (y : Xt) : l.set k y = l.take k ++ y :: l.drop (k + 1) := by
  rw [List.set_eq_take_append_cons_drop, if_pos hk]
theorem GA.raised {w : World} {B p b c : Nat} {m : Mf} {n : Nat} {vp : Value} {k : Nat} (h : GA w B p m (.slice (some ⟨b, 0, none⟩) n c) vp) (hn : n = m.ext.length) (hk : k < n) (bl : Int) :
    GA (w.setCell ⟨b, k * 2 + 1, none⟩ (.int .u32 bl)) B p { m with ext := m.ext.set k ⟨(m.ext.getD k Xt.nought).id, bl⟩ } (.slice (some ⟨b, 0, none⟩) n c) vp := by
  have hbb : p ≠ b := by
    have := (World.ownsRow.lt h.x b rfl).1
    have := h.lt
    omega
  subst hn
  refine ⟨h.blk.far (p := ⟨b, k * 2 + 1, none⟩) hbb _, ?_, ?_, h.lt⟩
  · unfold OwnX
    rw [← fm_set _ _ hk, List.length_set]
    exact (World.ownsRow.stored h.x (k * 2 + 1) _).1
  · refine World.ownsRow.kept h.t (grown_set w b (k * 2 + 1) _) ?_
    rcases row_apart h.t h.x (by decide) with h1 | h1
    · exact .inl h1
    · exact .inr h1

theorem GA.drew {w : World} {B p : Nat} {m : Mf} {vx vp : Value} (h : GA w B p m vx vp) : GA w.drew B p m vx vp := ⟨h.blk, h.x, h.t, h.lt⟩
theorem Keep.of_drew {B p : Nat} (w : World) : Keep B p w w.drew := ⟨rfl, rfl, rfl, Nat.le_refl _, fun _ _ _ => rfl⟩
set_option maxHeartbeats 16000000 in
set_option maxRecDepth 100000 in
/-- The last statement: an element's blocks are raised. -/
theorem gextent_any (B p : Nat) (m : Mf) (vx vp : Value) (i bl : Int) (hi0 : 0 ≤ i) (hi1 : i < 4294967296) (hb0 : 0 ≤ bl) (hb1 : bl < 4294967296) (w : World) (hG : GA w B p m vx vp) (hB : B ≤ w.heap.size) (hU : Up Xt.id m.ext) (hl : m.ext.length ≤ 1048574)
    (hF : ∀ x ∈ m.ext, 0 ≤ x.bl ∧ x.bl < 4294967296) :
    Calls Try.prog 46 #[.pointer (some ⟨p, 0, none⟩), .int .u32 i, .int .u32 bl] w (GPost w B p { m with ext := insX i bl m.ext }) := by
  obtain ⟨a, c, hvx⟩ := row_sl hG.x
  subst hvx
  obtain ⟨n, hn⟩ : ∃ n, n = m.ext.length := ⟨_, rfl⟩
  have HS := Lib.hid (find_any _ m.ext i w hG.x.at (by omega) hU)
  rw [← hn] at hG HS
  have HG := Lib.hid hG
  have HN := Lib.hid hn
  have HFF := Lib.hid hF
  have hni : n ≤ 1048574 := by omega
  have c1 : w.cell? ⟨p, 1, none⟩ = some (.slice a n c) := hG.blk.cell 1
  have HBB := Lib.hid hB
  clear hG hn hl hU hB hF
  go_enter Try.func46, Try.ntmps46
  go_wp2_with fail
  refine HS.out.mono ?_; rintro e w1 ⟨k, hSp, rfl, q1⟩
  have hkn : k ≤ n := by rw [HN.out]; exact hSp.1
  have HP : Hid (insX i bl m.ext = if k < m.ext.length ∧ (m.ext.getD k Xt.nought).id = i then m.ext.take k ++ ⟨i, max bl (m.ext.getD k Xt.nought).bl⟩ :: m.ext.drop (k + 1) else m.ext.take k ++ ⟨i, bl⟩ :: m.ext.drop k) :=
    Lib.hid (insX_at i bl m.ext k hSp.1 hSp.2.1 (fun h => Int.not_lt.2 (hSp.2.2 h)))
  have HG1 := Lib.hid (HG.out.below q1)
  have HK1 : Hid (Keep B p w w1) := Lib.hid (Keep.of_below q1 HBB.out)
  have HB1 : Hid (B ≤ w1.heap.size) := Lib.hid (Nat.le_trans HBB.out q1.size)
  obtain ⟨b, hb⟩ : ∃ b, b = spotB Xt.id Xt.nought m.ext i k := ⟨_, rfl⟩
  have HBq := Lib.hid hb
  unfold spotV
  rw [← hb]
  clear hb hSp HS q1 c1
  have c1 : w1.cell? ⟨p, 1, none⟩ = some (.slice a n c) := HG1.out.blk.cell 1
  cases b with
  | true =>
    have hq := of_decide_eq_true HBq.out.symm
    have hk2 : k < n := by rw [HN.out]; exact hq.1
    have HE : Hid (insX i bl m.ext = m.ext.set k ⟨(m.ext.getD k Xt.nought).id, max bl (m.ext.getD k Xt.nought).bl⟩) := Lib.hid (by
      rw [HP.out, if_pos hq, set_own _ _ (by rw [← HN.out]; exact hk2), hq.2])
    obtain ⟨b, c', cur, hav⟩ : ∃ b c' cur, (Value.slice a n c = .slice (some ⟨b, 0, none⟩) n c' ∧ w1.heap[b]? = some (.cells cur 50 (0, 0)) ∧ B ≤ b) := by
      rcases HG1.out.x.2 with ⟨h0, h1⟩ | ⟨g, cap, cur, h0, h2, h3, _⟩
      · omega
      · rw [← HN.out] at h0
        exact ⟨g, cap, cur, h0, h3, h2⟩
    obtain ⟨h0, h1, h2⟩ := hav
    injection h0 with h0 e1 h3
    clear e1
    subst h0 h3
    obtain ⟨_, _, hav, hcl⟩ := HG1.out.x.at
    injection hav with hav e1 e2
    clear e1 e2
    obtain ⟨b2, o2, h0, hbl, hcl⟩ := hcl (by rw [← HN.out]; omega)
    rw [← hav] at h0
    injection h0 with h0
    injection h0 with h0 h3
    subst h0 h3
    have cc := (hcl k (by rw [← HN.out]; exact hk2)).xt
    obtain ⟨x0, hx0⟩ : ∃ x0, x0 = (m.ext.getD k Xt.nought).bl := ⟨_, rfl⟩
    have hx1 := HFF.out _ ((mem_at Xt.nought).2 ⟨k, by rw [← HN.out]; exact hk2, rfl⟩)
    rw [← hx0] at cc hx1
    have HX0 := Lib.hid hx0
    obtain ⟨hx1, hx2⟩ := hx1
    have cb := cc.2
    rw [Nat.zero_add] at cb
    have fb : w1.frozen? ⟨b, k * 2 + 1, none⟩ = false := by simp [World.frozen?, h1]
    have hbn : b < w1.heap.size := hbl
    have hdk : decide (k < n) = true := decide_eq_true hk2
    have HF : Hid (∀ M, M = max x0 bl → GA ((w1.setCell ⟨b, k * 2 + 1, none⟩ (.int .u32 M)).drew) B p { m with ext := insX i bl m.ext } (.slice (some ⟨b, 0, none⟩) n c) vp) := Lib.hid (by
      rintro M rfl
      rw [HE.out, ← HX0.out, Int.max_comm bl x0]
      exact (HG1.out.raised HN.out hk2 (max x0 bl)).drew)
    have HK : Hid (∀ M, Keep B p w ((w1.setCell ⟨b, k * 2 + 1, none⟩ (.int .u32 M)).drew)) := Lib.hid fun M => HK1.out.trans ((Keep.of_grown (grown_set w1 b _ _) (fun q hq => by cases hq; exact .inl h2) HB1.out).trans (Keep.of_drew _))
    clear hq HE HP cc hcl hx0 h1 h2 hav
    go_upto_region 3 with (fail)
    go_still_tail 19, (by kernel_rfl)
    go_wp2_with fail
    all_goals go_end0
    all_goals exact ⟨rfl, _, _, HF.out _ (by omega), HK.out _⟩
  | false =>
    have hq := of_decide_eq_false HBq.out.symm
    have HE : Hid (insX i bl m.ext = (m.ext.take k ++ ⟨i, 0⟩ :: m.ext.drop k).set k ⟨i, max 0 bl⟩) := Lib.hid (by
      rw [HP.out, if_neg hq, set_put _ _ (by rw [← HN.out]; exact hkn), Int.max_eq_right hb0])
    obtain ⟨l2, hl2⟩ : ∃ l2, l2 = m.ext.take k ++ ⟨i, 0⟩ :: m.ext.drop k := ⟨_, rfl⟩
    have HL2 : Hid (l2.length = n + 1 ∧ (l2.getD k Xt.nought) = ⟨i, 0⟩) := Lib.hid (by
      have hlt : (m.ext.take k).length = k := by rw [List.length_take, ← HN.out]; omega
      constructor
      · rw [hl2, List.length_append, List.length_cons, hlt, List.length_drop, ← HN.out]; omega
      · rw [hl2, List.getD_eq_getElem?_getD, List.getElem?_append_right (by omega), hlt, Nat.sub_self]; rfl)
    have HGa := Lib.hid (HG1.out.below (below_new1 w1 (.cells #[.int .u32 i, .int .u32 0] 50)))
    have hI := insX_any B (.slice a n c) n k w1.heap.size (m.ext.flatMap xtCells) [.int .u32 i, .int .u32 0] (w1.alloc (.cells #[.int .u32 i, .int .u32 0] 50)) (by have := HGa.out.x; unfold OwnX at this; rw [← HN.out] at this; exact this) hkn (by omega) (Blk.new w1 50 [.int .u32 i, .int .u32 0]) rfl
      (fun he => by have := (World.ownsRow.lt HG1.out.x _ he).2; omega) (xts_one _) (fun u hu => by simp only [List.mem_cons, List.not_mem_nil, or_false] at hu; rcases hu with rfl | rfl <;> rfl) (Nat.le_trans HB1.out (by simp))
    have HI := Lib.hid hI
    have HLL := Lib.hid hl2
    rw [← hl2] at HE
    clear hI hq HP hl2
    go_wp2_with fail
    refine HI.out.mono ?_; rintro e w2 ⟨v', rfl, hO, hgr⟩
    have HO : Hid (OwnX w2 B v' l2) := Lib.hid (by
      unfold OwnX
      rw [HL2.out.1, HLL.out, ← fm_put xt_len m.ext k (by rw [← HN.out]; exact hkn) ⟨i, 0⟩]
      exact hO)
    have HF1 : Hid (GA (w2.setCell ⟨p, 1, none⟩ v') B p { m with ext := l2 } v' vp) := Lib.hid (HGa.out.exts HO.out hgr)
    have HK2 : Hid (Keep B p w (w2.setCell ⟨p, 1, none⟩ v')) := Lib.hid (HK1.out.trans ((Keep.of_below (below_new1 w1 _) HB1.out).trans ((keep_row HGa.out.x hgr (Nat.le_trans HB1.out (by simp))).trans (keep_set (Nat.le_trans HB1.out (Nat.le_trans (by simp) hgr.size)) 1 v'))))
    have hb2 : Blk w2 p 66 [.int .u32 m.pages, .slice a n c, vp, .bool m.con] := HGa.out.blk.grown hgr (fun he => row_ne HGa.out.x HGa.out.lt he.symm)
    have d1 : w2.cell? ⟨p, 1, none⟩ = some (.slice a n c) := hb2.cell 1
    have g1 : w2.frozen? ⟨p, 1, none⟩ = false := hb2.frozen 1
    have p1 : p < w2.heap.size := hb2.lt
    have HB2 : Hid (B ≤ (w2.setCell ⟨p, 1, none⟩ v').heap.size) := Lib.hid (Nat.le_trans HB1.out (Nat.le_trans (Nat.le_trans (by simp) hgr.size) (by simp)))
    obtain ⟨b, c', cur, n2, hn2, hav, h1, h2⟩ : ∃ b c' cur n2, n2 = n + 1 ∧ v' = .slice (some ⟨b, 0, none⟩) n2 c' ∧ w2.heap[b]? = some (.cells cur 50 (0, 0)) ∧ B ≤ b := by
      rcases HO.out.2 with ⟨h0, h1⟩ | ⟨g, cap, cur, h0, h2, h3, _⟩
      · rw [HL2.out.1] at h1; omega
      · rw [HL2.out.1] at h0
        exact ⟨g, cap, cur, n + 1, rfl, h0, h3, h2⟩
    subst hav
    have HN2 := Lib.hid hn2
    have hkn2 : k < n2 := by omega
    clear hn2
    clear hO hgr hb2 HGa HI
    go_upto_region 3 with (fail)
    obtain ⟨w3, hw3⟩ : ∃ w3, w3 = w2.setCell ⟨p, 1, none⟩ (.slice (some ⟨b, 0, none⟩) n2 c') := ⟨_, rfl⟩
    have hbp : b ≠ p := by have := HF1.out.lt; omega
    have h3 : w3.heap[b]? = some (.cells cur 50 (0, 0)) := by rw [hw3]; exact (Below.heap_setCell w2 ⟨p, 1, none⟩ _ b hbp).trans h1
    rw [← hw3] at HF1 HK2 HB2 ⊢
    clear hw3 h1 d1 g1 p1 c1
    have c1 : w3.cell? ⟨p, 1, none⟩ = some (.slice (some ⟨b, 0, none⟩) n2 c') := HF1.out.blk.cell 1
    obtain ⟨_, _, hav, hcl⟩ := HF1.out.x.at
    injection hav with hav e1 e2
    clear e1 e2
    obtain ⟨b2, o2, h0, hbl, hcl⟩ := hcl (by show 0 < l2.length; rw [HL2.out.1]; omega)
    rw [← hav] at h0
    injection h0 with h0
    injection h0 with h0 h4
    subst h0 h4
    have cc := (hcl k (by show k < l2.length; rw [HL2.out.1]; omega)).xt
    simp only at cc
    rw [HL2.out.2] at cc
    have cb := cc.2
    rw [Nat.zero_add] at cb
    simp only at cb
    have fb : w3.frozen? ⟨b, k * 2 + 1, none⟩ = false := by simp [World.frozen?, h3]
    have hbn : b < w3.heap.size := hbl
    have hdk : decide (k < n2) = true := decide_eq_true hkn2
    have HF : Hid (∀ M, M = max 0 bl → GA ((w3.setCell ⟨b, k * 2 + 1, none⟩ (.int .u32 M)).drew) B p { m with ext := insX i bl m.ext } (.slice (some ⟨b, 0, none⟩) n2 c') vp) := Lib.hid (by
      rintro M rfl
      have h9 := (HF1.out.raised (by show n2 = l2.length; rw [HL2.out.1, HN2.out]) hkn2 (max 0 bl)).drew
      simp only at h9
      rw [HL2.out.2] at h9
      rw [HE.out]
      exact h9)
    have HK : Hid (∀ M, Keep B p w ((w3.setCell ⟨b, k * 2 + 1, none⟩ (.int .u32 M)).drew)) := Lib.hid fun M => HK2.out.trans ((Keep.of_grown (grown_set w3 b _ _) (fun q hq => by cases hq; exact .inl h2) HB2.out).trans (Keep.of_drew _))
    clear cc hcl hav h3 h2
    go_still_tail 19, (by kernel_rfl)
    go_wp2_with fail
    all_goals go_end0
    all_goals exact ⟨rfl, _, _, HF.out _ (by omega), HK.out _⟩
end Go.Proofs.Ytmfebmiigkmkbaa
