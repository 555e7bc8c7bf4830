/- The chapter's examples: the statements' function alive returns true. -/
import Derived.Test.YtillcbmjpcbpaaaDoorIR
set_option linter.unusedVariables false
namespace Go.Proofs.YtillcbmjpcbpaaaDoor
open Go.RowKit

def T1 : ByteArray := ⟨#[1, 33, 3, 0, 0, 0, 0, 0]⟩
def T2 : ByteArray := ⟨#[32, 15, 0, 0, 2, 1, 0, 0]⟩
theorem k1 : encS 1 1 2 3 0 = ⟨#[1, 33, 3, 0, 0, 0, 0, 0]⟩ ∧ errI 1 1 2 3 0 = 0 := by decide +kernel
theorem k2 : encS 32 15 0 0 258 = ⟨#[32, 15, 0, 0, 2, 1, 0, 0]⟩ ∧ errI 32 15 0 0 258 = 0 := by decide +kernel
theorem k3 : Ix.decOk (bt ⟨#[32, 15, 0, 0, 2, 1, 0, 0]⟩) = true ∧ Ix.byteAt (bt ⟨#[32, 15, 0, 0, 2, 1, 0, 0]⟩) 0 = 32 ∧ Ix.byteAt (bt ⟨#[32, 15, 0, 0, 2, 1, 0, 0]⟩) 1 = 15 ∧ Ix.byteAt (bt ⟨#[32, 15, 0, 0, 2, 1, 0, 0]⟩) 2 = 0 ∧ Ix.dI (bt ⟨#[32, 15, 0, 0, 2, 1, 0, 0]⟩) = 258 := by decide +kernel
theorem k4 : errI 42 1 15 0 0 = 2 ∧ errI 50 0 0 1 0 = 2 ∧ errI 15 0 0 0 0 = 2 := by decide +kernel

theorem c1 (w : World) (hk : Tabled w) : Calls Tryd.prog 7 #[.agg #[.int .u8 1, .int .u8 1, .int .u8 2, .int .u8 3, .int .u32 0]] w fun e w' => e = .returned (.tuple #[.string ⟨#[1, 33, 3, 0, 0, 0, 0, 0]⟩, .int .i64 0]) ∧ Below w.heap.size w w' := by
  have := iencode_any 1 1 2 3 0 (by decide) (by decide) (by decide) (by decide) (by decide) (by decide) (by decide) (by decide) (by decide) (by decide) w hk
  rw [k1.1, k1.2] at this
  exact this
theorem c2 (w : World) (hk : Tabled w) : Calls Tryd.prog 7 #[.agg #[.int .u8 32, .int .u8 15, .int .u8 0, .int .u8 0, .int .u32 258]] w fun e w' => e = .returned (.tuple #[.string ⟨#[32, 15, 0, 0, 2, 1, 0, 0]⟩, .int .i64 0]) ∧ Below w.heap.size w w' := by
  have := iencode_any 32 15 0 0 258 (by decide) (by decide) (by decide) (by decide) (by decide) (by decide) (by decide) (by decide) (by decide) (by decide) w hk
  rw [k2.1, k2.2] at this
  exact this
theorem c3 (w : World) (hk : Tabled w) : Calls Tryd.prog 9 #[.string ⟨#[32, 15, 0, 0, 2, 1, 0, 0]⟩] w fun e w' => e = .returned (.tuple #[.agg #[.int .u8 32, .int .u8 15, .int .u8 0, .int .u8 0, .int .u32 258], .int .i64 0]) ∧ Below w.heap.size w w' := by
  have := idecode_any ⟨#[32, 15, 0, 0, 2, 1, 0, 0]⟩ w hk
  rw [decV_yes _ k3.1, decE_yes _ k3.1, k3.2.1, k3.2.2.1, k3.2.2.2.1, k3.2.2.2.2] at this
  exact this
theorem c4 (w : World) (hk : Tabled w) : Calls Tryd.prog 11 #[.agg #[.int .u8 42, .int .u8 1, .int .u8 15, .int .u8 0, .int .u32 0]] w fun e w' => e = .returned (.int .i64 2) ∧ Below w.heap.size w w' := by
  have := icheck_any 42 1 15 0 0 (by decide) (by decide) (by decide) (by decide) (by decide) (by decide) (by decide) (by decide) w hk
  rw [k4.1] at this
  exact this
theorem c5 (w : World) (hk : Tabled w) : Calls Tryd.prog 11 #[.agg #[.int .u8 50, .int .u8 0, .int .u8 0, .int .u8 1, .int .u32 0]] w fun e w' => e = .returned (.int .i64 2) ∧ Below w.heap.size w w' := by
  have := icheck_any 50 0 0 1 0 (by decide) (by decide) (by decide) (by decide) (by decide) (by decide) (by decide) (by decide) w hk
  rw [k4.2.1] at this
  exact this
theorem c6 (w : World) (hk : Tabled w) : Calls Tryd.prog 11 #[.agg #[.int .u8 15, .int .u8 0, .int .u8 0, .int .u8 0, .int .u32 0]] w fun e w' => e = .returned (.int .i64 2) ∧ Below w.heap.size w w' := by
  have := icheck_any 15 0 0 0 0 (by decide) (by decide) (by decide) (by decide) (by decide) (by decide) (by decide) (by decide) w hk
  rw [k4.2.2] at this
  exact this

set_option maxHeartbeats 2000000 in
set_option maxRecDepth 100000 in
theorem alive_any (w : World) (hk : Tabled w) : Calls Tryd.prog 6 #[] w fun e w' => e = .returned (.bool true) ∧ Below w.heap.size w w' := by
  have HK := Lib.hid hk
  clear hk
  go_enter Tryd.func6, Tryd.ntmps6
  go_wp2_with fail
  refine (c1 _ HK.out).mono ?_; rintro e w1 ⟨rfl, hb⟩
  have HK1 := Lib.hid (HK.out.below hb)
  go_wp2_with fail
  refine (c2 _ HK1.out).mono ?_; rintro e w2 ⟨rfl, q⟩
  have HK2 := Lib.hid (HK1.out.below q)
  replace hb := hb.trans (q.mono hb.size); clear q HK1
  go_wp2_with fail
  refine (c3 _ HK2.out).mono ?_; rintro e w3 ⟨rfl, q⟩
  have HK3 := Lib.hid (HK2.out.below q)
  replace hb := hb.trans (q.mono hb.size); clear q HK2
  have q : Below w3.heap.size w3 (w3.alloc (.cells #[.int .u8 32, .int .u8 15, .int .u8 0, .int .u8 0, .int .u32 258] 24)) := (Below.refl _ _).alloc (Nat.le_refl _) _
  have HK4 := Lib.hid (HK3.out.below q)
  replace hb := hb.trans (q.mono hb.size); clear q HK3
  go_wp2_with fail
  refine (c4 _ HK4.out).mono ?_; rintro e w4 ⟨rfl, q⟩
  have HK5 := Lib.hid (HK4.out.below q)
  replace hb := hb.trans (q.mono hb.size); clear q HK4
  go_wp2_with fail
  refine (c5 _ HK5.out).mono ?_; rintro e w5 ⟨rfl, q⟩
  have HK6 := Lib.hid (HK5.out.below q)
  replace hb := hb.trans (q.mono hb.size); clear q HK5
  go_wp2_with fail
  refine (c6 _ HK6.out).mono ?_; rintro e w6 ⟨rfl, q⟩
  replace hb := hb.trans (q.mono hb.size); clear q HK6
  go_wp2
  go_ret
  exact ⟨rfl, hb⟩
end Go.Proofs.YtillcbmjpcbpaaaDoor
