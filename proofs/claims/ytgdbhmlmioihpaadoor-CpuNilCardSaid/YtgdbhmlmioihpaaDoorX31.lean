/- How steps end, and how they go together. -/
import Derived.Test.YtgdbhmlmioihpaaDoorX13
set_option linter.unusedVariables false
namespace Go.Proofs.YtgdbhmlmioihpaaDoor
open Go Go.RowKit

theorem exec_k (x : Xn) (c : Cp) (A : As) : (execO x c A).k = 0 ∨ (execO x c A).k = 1 ∨ ((execO x c A).k = 2 ∧ (execO x c A).c = c ∧ (execO x c A).A = A) := by
  unfold execO
  repeat' split
  all_goals first
    | exact .inl rfl
    | exact .inr (.inl rfl)
    | exact .inr (.inr ⟨rfl, rfl, rfl⟩)
theorem step_k (c : Cp) (A : As) : (stepO c A).k = 0 ∨ (stepO c A).k = 1 ∨ ((stepO c A).k = 2 ∧ (stepO c A).c = c ∧ (stepO c A).A = A) := by
  unfold stepO
  split
  · split
    · exact exec_k _ _ _
    · exact .inr (.inr ⟨rfl, rfl, rfl⟩)
  · exact .inr (.inr ⟨rfl, rfl, rfl⟩)
theorem run_zero (c : Cp) (A : As) : runO 0 c A = (ran c A, 0) := rfl
theorem run_go {c : Cp} {A : As} (n : Nat) (h : (stepO c A).k = 0) : runO (n + 1) c A = ((runO n (stepO c A).c (stepO c A).A).1, (runO n (stepO c A).c (stepO c A).A).2 + 1) := by
  rw [runO, if_pos h]
theorem run_end {c : Cp} {A : As} (n : Nat) (h : (stepO c A).k ≠ 0) : runO (n + 1) c A = (stepO c A, if (stepO c A).k = 2 then 0 else 1) := by
  rw [runO, if_neg h]
theorem run_le (n : Nat) : ∀ c A, (runO n c A).2 ≤ n := by
  induction n with
  | zero => intro c A; exact Nat.le_refl _
  | succ n ih =>
    intro c A
    by_cases h : (stepO c A).k = 0
    · rw [run_go n h]; exact Nat.succ_le_succ (ih _ _)
    · rw [run_end n h]; simp only; split <;> omega
/-- Without a stop all steps were done. -/
theorem run_none (n : Nat) : ∀ c A, (runO n c A).1.k = 0 → (runO n c A).2 = n := by
  induction n with
  | zero => intro c A _; rfl
  | succ n ih =>
    intro c A h0
    by_cases h : (stepO c A).k = 0
    · rw [run_go n h] at h0 ⊢; simp only at h0 ⊢; rw [ih _ _ h0]
    · rw [run_end n h] at h0; exact absurd h0 h
/-- So many steps, and then more. -/
theorem run_add (n m : Nat) : ∀ c A, runO (n + m) c A = if (runO n c A).1.k = 0 then ((runO m (runO n c A).1.c (runO n c A).1.A).1, (runO n c A).2 + (runO m (runO n c A).1.c (runO n c A).1.A).2) else runO n c A := by
  induction n with
  | zero =>
    intro c A
    rw [run_zero, Nat.zero_add]
    simp [ran]
  | succ n ih =>
    intro c A
    rw [show n + 1 + m = (n + m) + 1 by omega]
    by_cases h : (stepO c A).k = 0
    · rw [run_go _ h, run_go n h, ih]
      simp only
      split
      · simp only [Nat.add_right_comm]
      · rfl
    · rw [run_end _ h, run_end n h, if_neg h]
/-- A stop answers one of three kinds, and what is no stop, nothing. -/
theorem exec_stop0 (x : Xn) (c : Cp) (A : As) (h : (execO x c A).k = 0) : (execO x c A).num = 0 ∧ (execO x c A).why = 0 := by
  revert h
  unfold execO
  repeat' split
  all_goals first
    | exact fun _ => ⟨rfl, rfl⟩
    | (intro h; exact absurd h (by simp [flt]))
theorem step_stop0 (c : Cp) (A : As) (h : (stepO c A).k = 0) : (stepO c A).num = 0 ∧ (stepO c A).why = 0 := by
  revert h
  unfold stepO
  split
  · split
    · exact exec_stop0 _ _ _
    · intro h; exact absurd h (by simp [flt])
  · intro h; exact absurd h (by simp [flt])
end Go.Proofs.YtgdbhmlmioihpaaDoor
