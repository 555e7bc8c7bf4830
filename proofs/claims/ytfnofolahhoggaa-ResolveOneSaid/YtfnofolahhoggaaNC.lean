/- Notes, widths, bind and kind: the program's and the document's. -/
import Derived.Test.YtfnofolahhoggaaNB
set_option linter.unusedVariables false
set_option linter.unusedSimpArgs false
namespace Go.Proofs.Ytfnofolahhoggaa
open Go Go.RowKit Oj

def ntV (x : Nt) : Value := .agg #[.int .u8 x.kind, .int .u32 x.n, .int .u32 x.m]
set_option maxHeartbeats 4000000 in
set_option maxRecDepth 100000 in
theorem isnote_any (x : Nt) (h : ntFits x) (w : World) : Calls Try.prog 57 #[ntV x] w fun e w' => e = .returned (.bool (noteOk x)) ∧ Below w.heap.size w w' := by
  obtain ⟨k, n, m⟩ := x
  obtain ⟨⟨h1, h2⟩, ⟨h3, h4⟩, h5, h6⟩ := h
  simp only at h1 h2 h3 h4 h5 h6
  unfold ntV noteOk
  simp only
  obtain ⟨E, hE⟩ : ∃ E, E = decide ((k = 1 ∧ n ≤ 1024 ∧ m = 0) ∨ (k = 2 ∧ n < 16 ∧ 1 ≤ m ∧ m ≤ 1024) ∨ (k = 3 ∧ 1 ≤ n ∧ n ≤ 65535 ∧ m = 0) ∨ (k = 4 ∧ n = 0 ∧ m = 0)) := ⟨_, rfl⟩
  rw [← hE]
  have HE := Lib.hid hE
  clear hE
  go_enter Try.func57, Try.ntmps57
  go_wp2
  all_goals (go_ret; refine ⟨ret_bool ?_, (Below.refl _ _).alloc (Nat.le_refl _) _⟩; rw [HE.out, Bool.eq_iff_iff]; simp only [decide_eq_true_eq, Bool.false_eq_true, false_iff, true_iff, beq_iff_eq]; simp only [beq_iff_eq, beq_eq_false_iff_ne, ne_eq] at *; omega)
set_option maxHeartbeats 4000000 in
set_option maxRecDepth 100000 in
theorem rnote_any (x : Nt) (h : ntFits x) (w : World) : Calls Try.prog 44 #[ntV x] w fun e w' => e = .returned (.bool (noteOk x)) ∧ Below w.heap.size w w' := by
  obtain ⟨k, n, m⟩ := x
  obtain ⟨⟨h1, h2⟩, ⟨h3, h4⟩, h5, h6⟩ := h
  simp only at h1 h2 h3 h4 h5 h6
  unfold ntV noteOk
  simp only
  obtain ⟨E, hE⟩ : ∃ E, E = decide ((k = 1 ∧ n ≤ 1024 ∧ m = 0) ∨ (k = 2 ∧ n < 16 ∧ 1 ≤ m ∧ m ≤ 1024) ∨ (k = 3 ∧ 1 ≤ n ∧ n ≤ 65535 ∧ m = 0) ∨ (k = 4 ∧ n = 0 ∧ m = 0)) := ⟨_, rfl⟩
  rw [← hE]
  have HE := Lib.hid hE
  clear hE
  go_enter Try.func44, Try.ntmps44
  go_wp2
  all_goals (go_ret; refine ⟨ret_bool ?_, (Below.refl _ _).alloc (Nat.le_refl _) _⟩; rw [HE.out, Bool.eq_iff_iff]; simp only [decide_eq_true_eq, Bool.false_eq_true, false_iff, true_iff, beq_iff_eq]; simp only [beq_iff_eq, beq_eq_false_iff_ne, ne_eq] at *; omega)

set_option maxHeartbeats 4000000 in
set_option maxRecDepth 100000 in
theorem relsize_any (k : Int) (h0 : 0 ≤ k) (h1 : k < 256) (w : World) : Calls Try.prog 56 #[.int .u8 k] w fun e w' => e = .returned (.int .u64 (width k)) ∧ w = w' := by
  obtain ⟨E, hE⟩ : ∃ E, E = width k := ⟨_, rfl⟩
  rw [← hE]
  have HE := Lib.hid hE
  clear hE
  go_enter Try.func56, Try.ntmps56
  go_wp2
  all_goals (go_ret; exact ⟨by rw [HE.out]; unfold width; simp only [beq_iff_eq, beq_eq_false_iff_ne, ne_eq] at *; simp [*], rfl⟩)
set_option maxHeartbeats 4000000 in
set_option maxRecDepth 100000 in
theorem rwidth_any (k : Int) (h0 : 0 ≤ k) (h1 : k < 256) (w : World) : Calls Try.prog 49 #[.int .u8 k] w fun e w' => e = .returned (.int .i64 (width k)) ∧ w = w' := by
  obtain ⟨E, hE⟩ : ∃ E, E = width k := ⟨_, rfl⟩
  rw [← hE]
  have HE := Lib.hid hE
  clear hE
  go_enter Try.func49, Try.ntmps49
  go_wp2
  all_goals (go_ret; exact ⟨by rw [HE.out]; unfold width; simp only [beq_iff_eq, beq_eq_false_iff_ne, ne_eq] at *; simp [*], rfl⟩)
/-- A symbol by value. -/
def syV (s : Sy) (vr vn : Value) : Value := .agg #[.string (tx s.name), .int .u8 s.bind, .int .u8 s.kind, .int .u32 s.size, .string (tx s.bytes), vr, vn]
set_option maxHeartbeats 4000000 in
set_option maxRecDepth 100000 in
theorem isbound_any (s : Sy) (h : syFits s) (vr vn : Value) (hr : vr.oneCell' = true) (hn : vn.oneCell' = true) (w : World) : Calls Try.prog 51 #[syV s vr vn] w fun e w' => e = .returned (.bool (bindOk s.bind)) ∧ Below w.heap.size w w' := by
  obtain ⟨name, k, kind, size, bytes, rels, notes⟩ := s
  obtain ⟨_, ⟨h1, h2⟩, _⟩ := h
  simp only at h1 h2
  unfold syV
  simp only
  obtain ⟨E, hE⟩ : ∃ E, E = bindOk k := ⟨_, rfl⟩
  rw [← hE]
  have HE := Lib.hid hE
  clear hE
  go_enter Try.func51, Try.ntmps51
  go_wp2
  all_goals (go_ret; refine ⟨ret_bool ?_, (Below.refl _ _).alloc (Nat.le_refl _) _⟩; rw [HE.out]; unfold bindOk; rw [Bool.eq_iff_iff]; simp only [decide_eq_true_eq, Bool.or_eq_true, Bool.false_eq_true, false_iff, true_iff, beq_iff_eq, beq_eq_false_iff_ne, ne_eq] at *; omega)
end Go.Proofs.Ytfnofolahhoggaa
