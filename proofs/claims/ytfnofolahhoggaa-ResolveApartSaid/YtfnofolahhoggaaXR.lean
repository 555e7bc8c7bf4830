/- Objects of a call's own, one of which has got a symbol more. -/
import Derived.Test.YtfnofolahhoggaaXQ
import Derived.Test.YtfnofolahhoggaaVY
set_option linter.unusedVariables false
set_option linter.unusedSimpArgs false
namespace Go.Proofs.Ytfnofolahhoggaa
open Go Go.RowKit Go.Maps Oj Rv

theorem flat_set {cs ds : Nat → List Value} {n r : Nat} {V : Value} (hc : ∀ j, j < n → (cs j).length = 2) (hd : ∀ j, j < n → (ds j).length = 2) (hr : r < n) (h0 : ∀ j, j < n → (ds j)[0]? = (cs j)[0]?) (h1 : ∀ j, j < n → j ≠ r → (ds j)[1]? = (cs j)[1]?) (h2 : (ds r)[1]? = some V) :
    (flat cs n).set (r * 2 + 1) V = flat ds n := by
  have l1 := flat_length n hc
  have l2 := flat_length n hd
  apply List.ext_getElem?
  intro m
  by_cases hm : m < n * 2
  · have hj : m / 2 < n := by omega
    have hi : m % 2 < 2 := by omega
    have he : m = m / 2 * 2 + m % 2 := by omega
    have e1 := flat_get n hc (m / 2) (m % 2) hj hi
    have e2 := flat_get n hd (m / 2) (m % 2) hj hi
    rw [← he] at e1 e2
    rw [List.getElem?_set, e2]
    by_cases hs : r * 2 + 1 = m
    · have hj2 : m / 2 = r := by omega
      have hi2 : m % 2 = 1 := by omega
      rw [if_pos hs, if_pos (by rw [l1]; exact hs ▸ hm), hj2, hi2, h2]
    · rw [if_neg hs, e1]
      have hi2 : m % 2 = 0 ∨ m % 2 = 1 := by omega
      rcases hi2 with hi2 | hi2
      · rw [hi2, h0 _ hj]
      · rw [hi2, h1 _ hj (by omega)]
  · rw [List.getElem?_eq_none (by rw [List.length_set, l1]; omega), List.getElem?_eq_none (by rw [l2]; omega)]
theorem apart_obs {w5 wa : World} {B : Nat} {l : List Ob} {g c : Nat} {S : Nat → Value} {R N : Nat → Nat → Value} (h : CpA w5 B l l.length (.slice (some ⟨g, 0, none⟩) l.length c) S R N) {r : Nat} (hr : r < l.length) (s : Sy) {vr vn V : Value} {o : Obj} {B' : Nat}
    (hrow : wa.ownsRow B' 50 7 V ((symsN l r).length + 1) (flat (fun j => syCells ((symsN l r).getD j Sy.nought) (R r j) (N r j)) (symsN l r).length ++ syCells s vr vn))
    (hg : (w5.alloc o).grownBy wa (S r).ownBlock) (hsr : RelsAt (wa.setCell ⟨g, r * 2 + 1, none⟩ V) vr s.rels) (hsn : NotesAt (wa.setCell ⟨g, r * 2 + 1, none⟩ V) vn s.notes) :
    ObsAt (wa.setCell ⟨g, r * 2 + 1, none⟩ V) (.slice (some ⟨g, 0, none⟩) l.length c) (addS l r s) := by
  have hC := h.below (below_new1 w5 o)
  have hRS := (hC.each r hr).row
  have hrowO := hC.row.kept hg (row_apart hC.row hRS (by decide))
  obtain ⟨hst, hgs⟩ := hrowO.stored (r * 2 + 1) V
  have hgs' : wa.grownBy (wa.setCell ⟨g, r * 2 + 1, none⟩ V) (Value.slice (some ⟨g, 0, none⟩) l.length c).ownBlock := hgs
  have hEach : ∀ j, j < l.length → j ≠ r → Cp8 (wa.setCell ⟨g, r * 2 + 1, none⟩ V) B (symsN l j) (symsN l j).length (S j) (R j) (N j) := fun j hj hjr => by
    have hv : (S j).ownBlock = none ∨ (S j).ownBlock ≠ (S r).ownBlock := by
      rcases Nat.lt_or_ge r j with hlt | hge
      · exact hC.apart j r hj hlt
      · rcases hC.apart r j hr (by omega) with h1 | h1
        · rw [h1]
          cases (S j).ownBlock with
          | none => exact .inl rfl
          | some q => exact .inr (by simp)
        · exact .inr (fun e => h1 e.symm)
    have h8 := hC.each j hj
    have h9 := h8.kept hg hv (fun i hi => row_apart (h8.rels i hi) hRS (by decide)) (fun i hi => row_apart (h8.notes i hi) hRS (by decide))
    exact h9.other hrowO (by decide) (by decide) (by decide) hgs'
  have hNew : SymsAt (wa.setCell ⟨g, r * 2 + 1, none⟩ V) V (symsN l r ++ [s]) := by
    have h8 := hC.each r hr
    have hrow2 := World.ownsRow.kept hrow hgs' (row_apart hrow hrowO (by decide))
    have hl : (symsN l r ++ [s]).length = (symsN l r).length + 1 := by simp
    have hfl : flat (fun j => syCells ((symsN l r ++ [s]).getD j Sy.nought) (if j < (symsN l r).length then R r j else vr) (if j < (symsN l r).length then N r j else vn)) ((symsN l r).length + 1) = flat (fun j => syCells ((symsN l r).getD j Sy.nought) (R r j) (N r j)) (symsN l r).length ++ syCells s vr vn := by
      rw [flat]
      congr 1
      · exact flat_congr _ fun j hj => by rw [if_pos hj, if_pos hj, List.getD_eq_getElem?_getD, List.getD_eq_getElem?_getD, List.getElem?_append_left hj]
      · rw [if_neg (Nat.lt_irrefl _), if_neg (Nat.lt_irrefl _), List.getD_eq_getElem?_getD, List.getElem?_append_right (Nat.le_refl _), Nat.sub_self]
        rfl
    rw [← hfl] at hrow2
    refine ⟨fun j => if j < (symsN l r).length then R r j else vr, fun j => if j < (symsN l r).length then N r j else vn, by rw [hl]; exact slC_of_row (fun j _ => rfl) hrow2, fun j hj => ?_⟩
    rw [hl] at hj
    dsimp only
    by_cases hlt : j < (symsN l r).length
    · rw [if_pos hlt, if_pos hlt]
      have e : (symsN l r ++ [s]).getD j Sy.nought = (symsN l r).getD j Sy.nought := by rw [List.getD_eq_getElem?_getD, List.getD_eq_getElem?_getD, List.getElem?_append_left hlt]
      rw [e]
      have r1 := h8.rels j hlt
      have n1 := h8.notes j hlt
      have r2 := World.ownsRow.kept r1 hg (row_apart r1 hRS (by decide))
      have n2 := World.ownsRow.kept n1 hg (row_apart n1 hRS (by decide))
      exact ⟨slC_of_row (fun _ _ => rfl) (World.ownsRow.kept r2 hgs' (row_apart r2 hrowO (by decide))), slC_of_row (fun _ _ => rfl) (World.ownsRow.kept n2 hgs' (row_apart n2 hrowO (by decide)))⟩
    · have hj2 : j = (symsN l r).length := by omega
      rw [if_neg hlt, if_neg hlt]
      have e : (symsN l r ++ [s]).getD j Sy.nought = s := by rw [hj2, List.getD_eq_getElem?_getD, List.getElem?_append_right (Nat.le_refl _), Nat.sub_self]; rfl
      rw [e]
      exact ⟨hsr, hsn⟩
  have hset := flat_set (cs := fun j => obCells (l.getD j Ob.nought) (S j)) (ds := fun j => obCells ((addS l r s).getD j Ob.nought) (if j = r then V else S j)) (n := l.length) (r := r) (V := V) (fun _ _ => rfl) (fun _ _ => rfl) hr
    (fun j hj => by
      by_cases hjr : j = r
      · subst hjr; rw [add_at s hr]; rfl
      · rw [add_other s hjr]; rfl)
    (fun j hj hjr => by show (obCells ((addS l r s).getD j Ob.nought) (if j = r then V else S j))[1]? = _; rw [if_neg hjr]; rfl)
    (by show (obCells ((addS l r s).getD r Ob.nought) (if r = r then V else S r))[1]? = _; rw [if_pos rfl]; rfl)
  rw [hset] at hst
  refine ⟨fun j => if j = r then V else S j, by rw [add_len]; exact slC_of_row (fun _ _ => rfl) hst, fun j hj => ?_⟩
  rw [add_len] at hj
  dsimp only
  by_cases hjr : j = r
  · subst hjr
    rw [if_pos rfl, add_at s hr]
    exact hNew
  · rw [if_neg hjr, add_other s hjr]
    exact (hEach j hj hjr).syms
end Go.Proofs.Ytfnofolahhoggaa
