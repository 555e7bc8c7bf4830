/- P12.4, for the values themselves: a local symbol more changes no other object's names. -/
import Derived.Test.YtfnofolahhoggaaUM
namespace Go.Proofs.Ytfnofolahhoggaa.Rv
open Go.Proofs.Ytfnofolahhoggaa.Oj

/-- One symbol more in the n-th object. -/
def addS (l : List Ob) (n : Nat) (s : Sy) : List Ob := l.set n ⟨(l.getD n Ob.nought).name, symsN l n ++ [s]⟩
theorem add_len (l : List Ob) (n : Nat) (s : Sy) : (addS l n s).length = l.length := by unfold addS; simp
theorem add_at {l : List Ob} {n : Nat} (s : Sy) (hn : n < l.length) : (addS l n s).getD n Ob.nought = ⟨(l.getD n Ob.nought).name, symsN l n ++ [s]⟩ := by
  unfold addS
  rw [List.getD_eq_getElem?_getD, List.getElem?_set_self hn]
  rfl
theorem add_other {l : List Ob} {n i : Nat} (s : Sy) (h : i ≠ n) : (addS l n s).getD i Ob.nought = l.getD i Ob.nought := by
  unfold addS
  rw [List.getD_eq_getElem?_getD, List.getElem?_set_ne (fun e => h e.symm), ← List.getD_eq_getElem?_getD]
theorem add_symsN {l : List Ob} {n : Nat} (s : Sy) (hn : n < l.length) : symsN (addS l n s) n = symsN l n ++ [s] := by
  unfold symsN
  rw [add_at s hn]
  rfl
theorem add_symsO {l : List Ob} {n i : Nat} (s : Sy) (h : i ≠ n) : symsN (addS l n s) i = symsN l i := by
  unfold symsN
  rw [add_other s h]
theorem add_symP {l : List Ob} {n i j : Nat} (s : Sy) (hn : n < l.length) (hj : j < (symsN l i).length) : symP (addS l n s) (i, j) = symP l (i, j) := by
  unfold symP
  simp only
  by_cases h : i = n
  · subst h
    rw [add_symsN s hn, List.getD_eq_getElem?_getD, List.getD_eq_getElem?_getD, List.getElem?_append_left hj]
  · rw [add_symsO s h]
theorem add_last {l : List Ob} {n : Nat} (s : Sy) (hn : n < l.length) : symP (addS l n s) (n, (symsN l n).length) = s := by
  unfold symP
  simp only
  rw [add_symsN s hn, List.getD_eq_getElem?_getD, List.getElem?_append_right (Nat.le_refl _), Nat.sub_self]
  rfl
theorem find_same {α : Type} {f g : α → Bool} : ∀ {l : List α}, (∀ x ∈ l, f x = g x) → l.find? f = l.find? g
  | [], _ => rfl
  | a :: r, h => by
    rw [List.find?_cons, List.find?_cons, h a (List.mem_cons_self ..), find_same (fun x hx => h x (List.mem_cons_of_mem _ hx))]
theorem fst_append (l : List Ob) (ps qs : List (Nat × Nat)) (nm : List UInt8) (b : Int) : fstB l (ps ++ qs) nm b = (fstB l ps nm b).or (fstB l qs nm b) := by
  unfold fstB
  rw [List.find?_append]
theorem fst_row {l : List Ob} {n : Nat} (s : Sy) (hn : n < l.length) (nm : List UInt8) (b : Int) (i : Nat) {m : Nat} (hm : m ≤ (symsN l i).length) : fstB (addS l n s) (rowP i m) nm b = fstB l (rowP i m) nm b := by
  unfold fstB
  refine find_same fun p hp => ?_
  have h := mem_row hp
  obtain ⟨a, c⟩ := p
  simp only at h
  obtain ⟨rfl, h⟩ := h
  unfold isB
  rw [add_symP s hn (by omega)]
theorem fst_addB {l : List Ob} {n : Nat} {s : Sy} (hn : n < l.length) (nm : List UInt8) {b : Int} (hs : s.bind ≠ b) : ∀ (i : Nat), fstB (addS l n s) (allB (addS l n s) i) nm b = fstB l (allB l i) nm b
  | 0 => rfl
  | i + 1 => by
    rw [allB, allB, fst_append, fst_append, fst_addB hn nm hs i]
    congr 1
    by_cases h : i = n
    · subst h
      rw [add_symsN s hn, List.length_append, List.length_singleton, rowP_next, fst_append, fst_row s hn nm b i (Nat.le_refl _)]
      have h2 : fstB (addS l i s) [(i, (symsN l i).length)] nm b = none := by
        unfold fstB isB
        rw [List.find?_cons, add_last s hn, decide_eq_false hs, Bool.and_false]
        rfl
      rw [h2, Option.or_none]
    · rw [add_symsO s h, fst_row s hn nm b i (Nat.le_refl _)]
theorem win_add {l : List Ob} {n : Nat} {s : Sy} (hn : n < l.length) (hs : s.bind = 0) (nm : List UInt8) : winL (addS l n s) nm = winL l nm := by
  unfold winL winB allP
  rw [add_len, fst_addB hn nm (by omega), fst_addB hn nm (by omega)]
theorem own_add {l : List Ob} {n i : Nat} {s : Sy} (hn : n < l.length) (h : i ≠ n) (nm : List UInt8) : ownL (addS l n s) i nm = ownL l i nm := by
  unfold ownL
  rw [add_symsO s h]
  refine find_same fun k hk => ?_
  unfold isB
  rw [add_symP s hn (List.mem_range.1 hk)]
theorem findL_add {l : List Ob} {n : Nat} {s : Sy} (hn : n < l.length) (hs : s.bind = 0) {fr : Int} (h : fr ≠ (n : Int)) (nm : List UInt8) : findL (addS l n s) fr nm = findL l fr nm := by
  unfold findL
  by_cases h0 : 0 ≤ fr
  · rw [if_pos h0, if_pos h0, own_add hn (by omega), win_add hn hs]
  · rw [if_neg h0, if_neg h0, win_add hn hs]
theorem fnd_add {l : List Ob} {n : Nat} {s : Sy} (hn : n < l.length) (hs : s.bind = 0) {fr : Int} (h : fr ≠ (n : Int)) (nm : List UInt8) (h1 : (checkL l).2 = 0) (h2 : (checkL (addS l n s)).2 = 0) : fndL (addS l n s) fr nm = fndL l fr nm := by
  unfold fndL
  rw [h1, h2, findL_add hn hs h]
  unfold outL
  rw [add_len]
end Go.Proofs.Ytfnofolahhoggaa.Rv
