/- How many places there may be in an answer. -/
import Derived.Test.YtfnofolahhoggaaUK
set_option linter.unusedVariables false
set_option linter.unusedSimpArgs false
namespace Go.Proofs.Ytfnofolahhoggaa
open Go Go.RowKit Go.Maps Oj Rv

theorem hasL_at {l : List Ob} {x y : Int} (h : hasL l x y = true) : x.toNat < l.length ∧ y.toNat < (symsN l x.toNat).length := by
  unfold hasL at h
  have h := of_decide_eq_true h
  omega
theorem refs_len (l : List Ob) (x y : Int) : (refsL l x y).1.length ≤ 1048576 := by
  unfold refsL
  split
  · exact Nat.zero_le _
  · rename_i h0
    have h1 := check_link_of (l := l) (by omega)
    split
    · rename_i hh
      obtain ⟨hi, hj⟩ := hasL_at hh
      have h2 := link_sym h1.1 hi hj
      unfold symOk at h2
      simp only [Bool.and_eq_true] at h2
      have h3 := h2.1.2
      unfold relsOk at h3
      rw [Bool.and_eq_true] at h3
      have h4 := of_decide_eq_true h3.1
      split
      · exact Nat.zero_le _
      · simp only
        unfold refN
        rw [List.length_map, List.length_range]
        omega
    · exact Nat.zero_le _
theorem wins_len (l : List Ob) : (winsL l).1.length ≤ 1048576 := by
  unfold winsL
  split
  · exact Nat.zero_le _
  · rename_i h0
    have h1 := check_link_of (l := l) (by omega)
    have h2 := len_allB h1.1 (Nat.le_refl _)
    have h3 := link_len h1.1
    have h4 := List.length_filter_le (isWin l) (allP l)
    unfold allP at h4 ⊢
    simp only
    omega
end Go.Proofs.Ytfnofolahhoggaa
