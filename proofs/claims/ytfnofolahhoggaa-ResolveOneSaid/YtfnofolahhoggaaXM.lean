/- P12.4, for the values themselves: at most one symbol, and which. -/
import Derived.Test.YtfnofolahhoggaaUM
namespace Go.Proofs.Ytfnofolahhoggaa.Rv
open Go.Proofs.Ytfnofolahhoggaa.Oj

def cnt (l : List Ob) (ps : List (Nat × Nat)) (nm : List UInt8) (b : Int) : Nat := (ps.filter (isB l nm b)).length
/-- Is one of these the n-th object's own? -/
def ownB (l : List Ob) (ps : List (Nat × Nat)) (nm : List UInt8) (n : Nat) : Bool := ps.any fun p => isB l nm 0 p && decide (p.1 = n)
theorem cnt_next (l : List Ob) (ps : List (Nat × Nat)) (p : Nat × Nat) (nm : List UInt8) (b : Int) : cnt l (ps ++ [p]) nm b = cnt l ps nm b + (if isB l nm b p = true then 1 else 0) := by
  unfold cnt
  rw [List.filter_append, List.length_append]
  congr 1
  by_cases h : isB l nm b p = true
  · rw [if_pos h, List.filter_cons_of_pos h]; rfl
  · rw [if_neg h, List.filter_cons_of_neg h]; rfl
theorem own_next (l : List Ob) (ps : List (Nat × Nat)) (p : Nat × Nat) (nm : List UInt8) (n : Nat) : ownB l (ps ++ [p]) nm n = (ownB l ps nm n || (isB l nm 0 p && decide (p.1 = n))) := by
  unfold ownB
  rw [List.any_append]
  simp
theorem cnt_zero {l : List Ob} {ps : List (Nat × Nat)} {nm : List UInt8} {b : Int} : cnt l ps nm b = 0 ↔ fstB l ps nm b = none := by
  unfold cnt fstB
  rw [List.length_eq_zero_iff, List.filter_eq_nil_iff, List.find?_eq_none]
theorem cnt_le (l : List Ob) (ps : List (Nat × Nat)) (nm : List UInt8) (b : Int) : cnt l ps nm b ≤ ps.length := List.length_filter_le _ _
theorem strong_pre {l : List Ob} (hd : ∀ p ∈ allP l, dupP l p = false) (nm : List UInt8) {i : Nat} (hi : i < l.length) (h0 : cnt l (allB l i) nm 1 ≤ 1) : ∀ {j : Nat}, j ≤ (symsN l i).length → cnt l (pre l i j) nm 1 ≤ 1
  | 0, _ => by rw [pre_zero]; exact h0
  | j + 1, hj => by
    have h1 := strong_pre hd nm hi h0 (show j ≤ (symsN l i).length by omega)
    rw [pre_next, cnt_next]
    by_cases h : isB l nm 1 (i, j) = true
    · rw [if_pos h]
      have h2 := hd (i, j) (allB_of hi (by omega))
      unfold isB at h
      simp only [Bool.and_eq_true, decide_eq_true_eq] at h
      unfold dupP at h2
      rw [decide_eq_true h.2, Bool.true_and] at h2
      rw [h.1] at h2
      have h3 : fstB l (pre l i j) nm 1 = none := by
        cases hf : fstB l (pre l i j) nm 1 with
        | none => rfl
        | some q => simp only at h2; rw [hf] at h2; cases h2
      rw [cnt_zero.2 h3]
      exact Nat.le_refl _
    · rw [if_neg h]; omega
theorem strong_le {l : List Ob} (hd : ∀ p ∈ allP l, dupP l p = false) (nm : List UInt8) : ∀ {i : Nat}, i ≤ l.length → cnt l (allB l i) nm 1 ≤ 1
  | 0, _ => Nat.zero_le _
  | i + 1, hi => by
    rw [← pre_row]
    exact strong_pre hd nm (by omega) (strong_le hd nm (by omega)) (Nat.le_refl _)
theorem no_dup {l : List Ob} (h : dupL l = none) : ∀ p ∈ allP l, dupP l p = false := by
  unfold dupL at h
  rw [List.find?_eq_none] at h
  intro p hp
  have := h p hp
  simpa using this
theorem own_false {l : List Ob} {n : Nat} {nm : List UInt8} (h : ownL l n nm = none) : ownB l (allP l) nm n = false := by
  unfold ownB
  rw [List.any_eq_false]
  intro p hp
  have h1 := mem_allB hp
  simp only [Bool.and_eq_true, decide_eq_true_eq, not_and]
  intro hb hn
  subst hn
  unfold isB at hb
  simp only [Bool.and_eq_true, decide_eq_true_eq] at hb
  exact own_no h h1.2 hb
theorem own_true {l : List Ob} {n k : Nat} {nm : List UInt8} (hn : n < l.length) (h : ownL l n nm = some k) : ownB l (allP l) nm n = true := by
  have h1 := own_some h
  unfold ownB
  rw [List.any_eq_true]
  refine ⟨(n, k), allB_of hn h1.1, ?_⟩
  unfold isB
  rw [decide_eq_true h1.2.1, decide_eq_true h1.2.2]
  simp
theorem find_nat (l : List Ob) (n : Nat) (nm : List UInt8) : findL l (n : Int) nm = match ownL l n nm with | some k => some (n, k) | none => winL l nm := by
  unfold findL
  rw [if_pos (by omega), Int.toNat_natCast]
  cases ownL l n nm <;> rfl
theorem one_none {l : List Ob} {n : Nat} {nm : List UInt8} (h : findL l (n : Int) nm = none) : cnt l (allP l) nm 1 = 0 ∧ cnt l (allP l) nm 2 = 0 ∧ ownB l (allP l) nm n = false := by
  rw [find_nat] at h
  cases ho : ownL l n nm with
  | some k => rw [ho] at h; cases h
  | none =>
    rw [ho] at h
    simp only at h
    unfold winL winB at h
    cases h1 : fstB l (allP l) nm 1 with
    | some q => rw [h1] at h; cases h
    | none =>
      rw [h1, Option.none_or] at h
      exact ⟨cnt_zero.2 h1, cnt_zero.2 h, own_false ho⟩
theorem one_some {l : List Ob} {n : Nat} {nm : List UInt8} {p : Nat × Nat} (hn : n < l.length) (hd : dupL l = none) (h : findL l (n : Int) nm = some p) :
    p.1 < l.length ∧ p.2 < (symsN l p.1).length ∧ (symP l p).name = nm ∧ (symP l p).bind = (if ownB l (allP l) nm n = true then 0 else if 0 < cnt l (allP l) nm 1 then 1 else 2) ∧ cnt l (allP l) nm 1 ≤ 1 ∧ (ownB l (allP l) nm n = true → p.1 = n) := by
  have h5 := strong_le (no_dup hd) nm (Nat.le_refl l.length)
  have h6 := find_mem (by omega) h
  refine ⟨h6.1, h6.2, ?_⟩
  rw [find_nat] at h
  cases ho : ownL l n nm with
  | some k =>
    rw [ho] at h
    simp only [Option.some.injEq] at h
    subst h
    have h1 := own_some ho
    rw [if_pos (own_true hn ho)]
    exact ⟨h1.2.1, h1.2.2, h5, fun _ => rfl⟩
  | none =>
    rw [ho] at h
    simp only at h
    have h7 := own_false ho
    have h8 := win_some h
    rw [if_neg (by rw [h7]; simp)]
    refine ⟨h8.2.1, ?_, h5, fun hx => by rw [h7] at hx; cases hx⟩
    unfold winL winB at h
    cases h1 : fstB l (allP l) nm 1 with
    | some q =>
      rw [h1] at h
      have h := Option.some.inj h
      subst h
      rw [if_pos (by
        rcases Nat.eq_zero_or_pos (cnt l (allP l) nm 1) with hz | hz
        · rw [cnt_zero.1 hz] at h1; cases h1
        · exact hz)]
      exact (fst_some h1).2.2
    | none =>
      rw [h1, Option.none_or] at h
      rw [if_neg (by rw [cnt_zero.2 h1]; omega)]
      exact (fst_some h).2.2
end Go.Proofs.Ytfnofolahhoggaa.Rv
