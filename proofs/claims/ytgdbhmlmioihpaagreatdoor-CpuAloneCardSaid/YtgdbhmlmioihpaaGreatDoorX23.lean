/- Some texts of one proof, one behind the other; each has its own head below. -/
import Derived.Test.YtgdbhmlmioihpaaGreatDoorX15
import Derived.Test.YtgdbhmlmioihpaaGreatDoorX22
/- How steps end, and how they go together. -/
section
set_option linter.unusedVariables false
namespace Go.Proofs.YtgdbhmlmioihpaaGreatDoor
open Go Go.RowKit

theorem exec_k (x : Xn) (c : Cp) (A : As) : (execO x c A).k = 0 ∨ (execO x c A).k = 1 ∨ ((execO x c A).k = 2 ∧ (execO x c A).c = c ∧ (execO x c A).A = A) := by
  unfold execO
  repeat' split
  all_goals first
    | exact .inl rfl
    | exact .inr (.inl rfl)
    | exact .inr (.inr ⟨rfl, rfl, rfl⟩)
theorem step_k (c : Cp) (A : As) : (stepO c A).k = 0 ∨ (stepO c A).k = 1 ∨ ((stepO c A).k = 2 ∧ (stepO c A).c = c ∧ (stepO c A).A = A) := by
  unfold stepO
  split
  · split
    · exact exec_k _ _ _
    · exact .inr (.inr ⟨rfl, rfl, rfl⟩)
  · exact .inr (.inr ⟨rfl, rfl, rfl⟩)
theorem run_zero (c : Cp) (A : As) : runO 0 c A = (ran c A, 0) := rfl
theorem run_go {c : Cp} {A : As} (n : Nat) (h : (stepO c A).k = 0) : runO (n + 1) c A = ((runO n (stepO c A).c (stepO c A).A).1, (runO n (stepO c A).c (stepO c A).A).2 + 1) := by
  rw [runO, if_pos h]
theorem run_end {c : Cp} {A : As} (n : Nat) (h : (stepO c A).k ≠ 0) : runO (n + 1) c A = (stepO c A, if (stepO c A).k = 2 then 0 else 1) := by
  rw [runO, if_neg h]
theorem run_le (n : Nat) : ∀ c A, (runO n c A).2 ≤ n := by
  induction n with
  | zero => intro c A; exact Nat.le_refl _
  | succ n ih =>
    intro c A
    by_cases h : (stepO c A).k = 0
    · rw [run_go n h]; exact Nat.succ_le_succ (ih _ _)
    · rw [run_end n h]; simp only; split <;> omega
/-- Without a stop all steps were done. -/
theorem run_none (n : Nat) : ∀ c A, (runO n c A).1.k = 0 → (runO n c A).2 = n := by
  induction n with
  | zero => intro c A _; rfl
  | succ n ih =>
    intro c A h0
    by_cases h : (stepO c A).k = 0
    · rw [run_go n h] at h0 ⊢; simp only at h0 ⊢; rw [ih _ _ h0]
    · rw [run_end n h] at h0; exact absurd h0 h
/-- So many steps, and then more. -/
theorem run_add (n m : Nat) : ∀ c A, runO (n + m) c A = if (runO n c A).1.k = 0 then ((runO m (runO n c A).1.c (runO n c A).1.A).1, (runO n c A).2 + (runO m (runO n c A).1.c (runO n c A).1.A).2) else runO n c A := by
  induction n with
  | zero =>
    intro c A
    rw [run_zero, Nat.zero_add]
    simp [ran]
  | succ n ih =>
    intro c A
    rw [show n + 1 + m = (n + m) + 1 by omega]
    by_cases h : (stepO c A).k = 0
    · rw [run_go _ h, run_go n h, ih]
      simp only
      split
      · simp only [Nat.add_right_comm]
      · rfl
    · rw [run_end _ h, run_end n h, if_neg h]
/-- A stop answers one of three kinds, and what is no stop, nothing. -/
theorem exec_stop0 (x : Xn) (c : Cp) (A : As) (h : (execO x c A).k = 0) : (execO x c A).num = 0 ∧ (execO x c A).why = 0 := by
  revert h
  unfold execO
  repeat' split
  all_goals first
    | exact fun _ => ⟨rfl, rfl⟩
    | (intro h; exact absurd h (by simp [flt]))
theorem step_stop0 (c : Cp) (A : As) (h : (stepO c A).k = 0) : (stepO c A).num = 0 ∧ (stepO c A).why = 0 := by
  revert h
  unfold stepO
  split
  · split
    · exact exec_stop0 _ _ _
    · intro h; exact absurd h (by simp [flt])
  · intro h; exact absurd h (by simp [flt])
end Go.Proofs.YtgdbhmlmioihpaaGreatDoor
end

/- The chapter's examples, worked out. -/
section
set_option linter.unusedVariables false
namespace Go.Proofs.YtgdbhmlmioihpaaGreatDoor
open Go Go.RowKit

def ex1 : Sta := ⟨[], 0, [4], 0, [⟨32, 1, 0, 0, 5⟩, ⟨17, 0, 1, 0, 1⟩, ⟨50, 0, 0, 0, 9⟩], 0, ⟨#[]⟩⟩
def ex2 : Sta := ⟨[], 0, [4], 0, [⟨41, 15, 0, 0, 1048576⟩], 0, ⟨#[]⟩⟩
set_option maxRecDepth 100000 in
theorem ex1_run : (runO 9 (madeC ex1) (madeA ex1)).1.k = 1 ∧ (runO 9 (madeC ex1) (madeA ex1)).1.num = 9 ∧ (runO 9 (madeC ex1) (madeA ex1)).1.why = 0 ∧ (runO 9 (madeC ex1) (madeA ex1)).2 = 3 ∧ (runO 9 (madeC ex1) (madeA ex1)).1.c.r 1 = 5 ∧ (runO 9 (madeC ex1) (madeA ex1)).1.c.r 0 = 0 ∧ (runO 9 (madeC ex1) (madeA ex1)).1.c.pc = 24 := by
  decide +kernel
set_option maxRecDepth 100000 in
theorem ex2_run : (runO 9 (madeC ex2) (madeA ex2)).1.k = 2 ∧ (runO 9 (madeC ex2) (madeA ex2)).1.num = 0 ∧ (runO 9 (madeC ex2) (madeA ex2)).1.why = 50 ∧ (runO 9 (madeC ex2) (madeA ex2)).2 = 1 ∧ (runO 9 (madeC ex2) (madeA ex2)).1.c.r 15 = 8 ∧ (runO 9 (madeC ex2) (madeA ex2)).1.c.pc = 1048576 := by
  decide +kernel
end Go.Proofs.YtgdbhmlmioihpaaGreatDoor
end
