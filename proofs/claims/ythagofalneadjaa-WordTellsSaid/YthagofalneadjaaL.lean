/- The chapter's examples: the statements' function alive returns true. -/
import Derived.Test.YthagofalneadjaaC
import Derived.Test.YthagofalneadjaaH
namespace Go.Proofs.Ythagofalneadjaa
open Go.RowKit

theorem c1 (w : World) : Calls Try.prog 10 #[.int .u32 258, .int .i64 2] w fun e w' => e = .returned (.tuple #[.string ⟨#[2, 1]⟩, .int .i64 0]) ∧ Below w.heap.size w w' := put_any 258 2 (by decide) (by decide) w
theorem c2 (w : World) : Calls Try.prog 12 #[.int .u32 258, .int .i64 2] w fun e w' => e = .returned (.tuple #[.string ⟨#[1, 2]⟩, .int .i64 0]) ∧ Below w.heap.size w w' := puth_any 258 2 (by decide) (by decide) w
theorem c3 (w : World) : Calls Try.prog 10 #[.int .u32 256, .int .i64 1] w fun e w' => e = .returned (.tuple #[.string ⟨#[]⟩, .int .i64 5]) ∧ Below w.heap.size w w' := put_any 256 1 (by decide) (by decide) w
theorem c4 (w : World) : Calls Try.prog 18 #[.string ⟨#[49]⟩] w fun e w' => e = .returned (.tuple #[.string ⟨#[]⟩, .int .i64 2]) ∧ Below w.heap.size w w' := unhex_any ⟨#[49]⟩ (by decide) w
theorem c5 (w : World) : Calls Try.prog 20 #[.string ⟨#[1, 255]⟩] w fun e w' => e = .returned (.string ⟨#[48, 49, 102, 102]⟩) ∧ Below w.heap.size w w' := hex_call ⟨#[1, 255]⟩ (by decide) w
theorem c6 (w : World) : Calls Try.prog 22 #[.int .u8 4, .int .u32 7, .int .u32 0] w fun e w' => e = .returned (.int .u32 4294967295) ∧ Below w.heap.size w w' := law_op 4 7 0 (by decide) (by decide) (by decide) (by decide) (by decide) (by decide) w
theorem c7 (w : World) : Calls Try.prog 22 #[.int .u8 5, .int .u32 7, .int .u32 0] w fun e w' => e = .returned (.int .u32 7) ∧ Below w.heap.size w w' := law_op 5 7 0 (by decide) (by decide) (by decide) (by decide) (by decide) (by decide) w
theorem k8 : opI 11 2147483648 31 = 4294967295 := by decide +kernel
theorem c8 (w : World) : Calls Try.prog 22 #[.int .u8 11, .int .u32 2147483648, .int .u32 31] w fun e w' => e = .returned (.int .u32 4294967295) ∧ Below w.heap.size w w' := by
  have h := law_op 11 2147483648 31 (by decide) (by decide) (by decide) (by decide) (by decide) (by decide) w
  rw [k8] at h
  exact h
theorem c9 (w : World) : Calls Try.prog 22 #[.int .u8 9, .int .u32 1, .int .u32 33] w fun e w' => e = .returned (.int .u32 2) ∧ Below w.heap.size w w' := law_op 9 1 33 (by decide) (by decide) (by decide) (by decide) (by decide) (by decide) w
theorem c10 (w : World) : Calls Try.prog 7 #[.int .u8 15, .int .u32 1, .int .u32 1] w fun e w' => e = .returned (.tuple #[.int .u32 0, .int .i64 2]) ∧ w = w' := op_no 15 1 1 (by decide) w

set_option maxHeartbeats 2000000 in
set_option maxRecDepth 100000 in
theorem alive_any (w : World) : Calls Try.prog 9 #[] w fun e w' => e = .returned (.bool true) ∧ Below w.heap.size w w' := by
  go_enter Try.func9, Try.ntmps9
  go_wp2_with fail
  refine (c1 _).mono ?_; rintro e w1 ⟨rfl, hb⟩
  go_wp2_with fail
  refine (c2 _).mono ?_; rintro e w2 ⟨rfl, q⟩
  replace hb := hb.trans (q.mono hb.size); clear q
  go_wp2_with fail
  refine (c3 _).mono ?_; rintro e w3 ⟨rfl, q⟩
  replace hb := hb.trans (q.mono hb.size); clear q
  go_wp2_with fail
  refine (c4 _).mono ?_; rintro e w4 ⟨rfl, q⟩
  replace hb := hb.trans (q.mono hb.size); clear q
  go_wp2_with fail
  refine (c10 _).mono ?_; rintro e w5 ⟨rfl, rfl⟩
  go_wp2_with fail
  refine (c6 _).mono ?_; rintro e w6 ⟨rfl, q⟩
  replace hb := hb.trans (q.mono hb.size); clear q
  go_wp2_with fail
  refine (c7 _).mono ?_; rintro e w7 ⟨rfl, q⟩
  replace hb := hb.trans (q.mono hb.size); clear q
  go_wp2_with fail
  refine (c8 _).mono ?_; rintro e w8 ⟨rfl, q⟩
  replace hb := hb.trans (q.mono hb.size); clear q
  go_wp2_with fail
  refine (c9 _).mono ?_; rintro e w9 ⟨rfl, q⟩
  replace hb := hb.trans (q.mono hb.size); clear q
  go_wp2_with fail
  refine (c5 _).mono ?_; rintro e w10 ⟨rfl, q⟩
  replace hb := hb.trans (q.mono hb.size); clear q
  go_wp2
  go_ret
  exact ⟨rfl, hb⟩
end Go.Proofs.Ythagofalneadjaa
