/- Notes: the program's and the document's (out of obj/NC, NH). -/
import Derived.Test.YtmfebmiigkmkbaaDA
set_option linter.unusedVariables false
set_option linter.unusedSimpArgs false
namespace Go.Proofs.Ytmfebmiigkmkbaa
open Go Go.RowKit Oj

set_option maxHeartbeats 4000000 in
set_option maxRecDepth 100000 in
theorem isnote_any (x : Nt) (h : ntFits x) (w : World) : Calls Try.prog 35 #[ntV x] w fun e w' => e = .returned (.bool (noteOk x)) ∧ Below w.heap.size w w' := by
  obtain ⟨k, n, m⟩ := x
  obtain ⟨⟨h1, h2⟩, ⟨h3, h4⟩, h5, h6⟩ := h
  simp only at h1 h2 h3 h4 h5 h6
  unfold ntV noteOk
  simp only
  obtain ⟨E, hE⟩ : ∃ E, E = decide ((k = 1 ∧ n ≤ 1024 ∧ m = 0) ∨ (k = 2 ∧ n < 16 ∧ 1 ≤ m ∧ m ≤ 1024) ∨ (k = 3 ∧ 1 ≤ n ∧ n ≤ 65535 ∧ m = 0) ∨ (k = 4 ∧ n = 0 ∧ m = 0)) := ⟨_, rfl⟩
  rw [← hE]
  have HE := Lib.hid hE
  clear hE
  go_enter Try.func35, Try.ntmps35
  go_wp2
  all_goals (go_ret; refine ⟨ret_bool ?_, (Below.refl _ _).alloc (Nat.le_refl _) _⟩; rw [HE.out, Bool.eq_iff_iff]; simp only [decide_eq_true_eq, Bool.false_eq_true, false_iff, true_iff, beq_iff_eq]; simp only [beq_iff_eq, beq_eq_false_iff_ne, ne_eq] at *; omega)
set_option maxHeartbeats 4000000 in
set_option maxRecDepth 100000 in
theorem rnote_any (x : Nt) (h : ntFits x) (w : World) : Calls Try.prog 28 #[ntV x] w fun e w' => e = .returned (.bool (noteOk x)) ∧ Below w.heap.size w w' := by
  obtain ⟨k, n, m⟩ := x
  obtain ⟨⟨h1, h2⟩, ⟨h3, h4⟩, h5, h6⟩ := h
  simp only at h1 h2 h3 h4 h5 h6
  unfold ntV noteOk
  simp only
  obtain ⟨E, hE⟩ : ∃ E, E = decide ((k = 1 ∧ n ≤ 1024 ∧ m = 0) ∨ (k = 2 ∧ n < 16 ∧ 1 ≤ m ∧ m ≤ 1024) ∨ (k = 3 ∧ 1 ≤ n ∧ n ≤ 65535 ∧ m = 0) ∨ (k = 4 ∧ n = 0 ∧ m = 0)) := ⟨_, rfl⟩
  rw [← hE]
  have HE := Lib.hid hE
  clear hE
  go_enter Try.func28, Try.ntmps28
  go_wp2
  all_goals (go_ret; refine ⟨ret_bool ?_, (Below.refl _ _).alloc (Nat.le_refl _) _⟩; rw [HE.out, Bool.eq_iff_iff]; simp only [decide_eq_true_eq, Bool.false_eq_true, false_iff, true_iff, beq_iff_eq]; simp only [beq_iff_eq, beq_eq_false_iff_ne, ne_eq] at *; omega)

set_option maxHeartbeats 1000000 in
theorem unless_any (b : Bool) (w : World) : Calls Try.prog 34 #[.bool b] w fun e w' => e = .returned (.int .i64 (okI b)) ∧ w = w' := by
  cases b
  · go_enter Try.func34, Try.ntmps34
    go_wp2
    go_ret
    exact ⟨rfl, rfl⟩
  · go_enter Try.func34, Try.ntmps34
    go_wp2
    go_ret
    exact ⟨rfl, rfl⟩
set_option maxHeartbeats 2000000 in
set_option maxRecDepth 100000 in
theorem onote_any (x : Nt) (hf : ntFits x) (w : World) : Calls Try.prog 26 #[ntV x] w fun e w' => e = .returned (.int .i64 (okI (noteOk x))) ∧ Below w.heap.size w w' := by
  have HI := Lib.hid (fun W => isnote_any x hf W)
  obtain ⟨k, n, m⟩ := x
  obtain ⟨b, hb⟩ : ∃ b, b = noteOk ⟨k, n, m⟩ := ⟨_, rfl⟩
  rw [← hb] at HI
  rw [← hb]
  unfold ntV at HI ⊢
  simp only at HI ⊢
  clear hb hf
  have HB0 := Lib.hid (below_new1 w (.cells #[.int .u8 k, .int .u32 n, .int .u32 m] 28))
  go_enter Try.func26, Try.ntmps26
  go_wp2_with fail
  refine (HI.out _).mono ?_; rintro e w1 ⟨rfl, q1⟩
  have HB1 := Lib.hid (below_call HB0.out q1)
  clear q1
  go_wp2_with fail
  refine (unless_any _ _).mono ?_; rintro e w2 ⟨rfl, rfl⟩
  go_wp2_with fail
  go_ret
  exact ⟨rfl, HB1.out⟩
end Go.Proofs.Ytmfebmiigkmkbaa
