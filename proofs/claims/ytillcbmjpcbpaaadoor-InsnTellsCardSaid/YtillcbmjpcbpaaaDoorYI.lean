/- InsnTells walked. -/
import Derived.Test.YtillcbmjpcbpaaaDoorIL
set_option linter.unusedVariables false
set_option linter.unusedSimpArgs false
namespace Go.Proofs.YtillcbmjpcbpaaaDoor
open Go.RowKit

theorem kb_step {w wi wj : World} (h : Tabled wi ∧ Below w.heap.size w wi) (q : Below wi.heap.size wi wj) : Tabled wj ∧ Below w.heap.size w wj := ⟨h.1.below q, h.2.trans (q.mono h.2.size)⟩
theorem kb_alloc {w wi : World} (h : Tabled wi ∧ Below w.heap.size w wi) (o : Obj) : Tabled (wi.alloc o) ∧ Below w.heap.size w (wi.alloc o) := kb_step h ((Below.refl _ _).alloc (Nat.le_refl _) _)

set_option maxHeartbeats 4000000 in
set_option maxRecDepth 100000 in
theorem tells_op (op d a b im o2 d2 a2 b2 i2 E G : Int) (r1 r2 r3 r4 : Bool) (s S : ByteArray) (hs : (s.size : Int) ≤ 100) (w : World) (HK : Hid (Tabled w))
    (HE : Hid (∀ w, Tabled w → Calls Tryd.prog 7 #[.agg #[.int .u8 op, .int .u8 d, .int .u8 a, .int .u8 b, .int .u32 im]] w fun e w' => e = .returned (.tuple #[.string S, .int .i64 E]) ∧ Below w.heap.size w w'))
    (HF : Hid (∀ w, Calls Tryd.prog 8 #[.agg #[.int .u8 op, .int .u8 d, .int .u8 a, .int .u8 b, .int .u32 im]] w fun e w' => e = .returned (.tuple #[.string S, .int .i64 E]) ∧ Below w.heap.size w w'))
    (HD : Hid (∀ w, Tabled w → Calls Tryd.prog 9 #[.string s] w fun e w' => e = .returned (.tuple #[.agg #[.int .u8 o2, .int .u8 d2, .int .u8 a2, .int .u8 b2, .int .u32 i2], .int .i64 G]) ∧ Below w.heap.size w w'))
    (HR : Hid (∀ w, Calls Tryd.prog 10 #[.string s] w fun e w' => e = .returned (.tuple #[.agg #[.int .u8 o2, .int .u8 d2, .int .u8 a2, .int .u8 b2, .int .u32 i2], .int .i64 G]) ∧ Below w.heap.size w w'))
    (HC : Hid (∀ w, Tabled w → Calls Tryd.prog 11 #[.agg #[.int .u8 op, .int .u8 d, .int .u8 a, .int .u8 b, .int .u32 im]] w fun e w' => e = .returned (.int .i64 E) ∧ Below w.heap.size w w'))
    (HU : Hid (∀ w, Tabled w → Calls Tryd.prog 12 #[.int .u8 op] w fun e w' => e = .returned (.tuple #[.bool r1, .bool r2, .bool r3, .bool r4, .int .i64 0]) ∧ w = w'))
    (HV : Hid (∀ w, Calls Tryd.prog 13 #[.int .u8 op] w fun e w' => e = .returned (.tuple #[.agg #[.bool r1, .bool r2, .bool r3, .bool r4], .bool true]) ∧ Below w.heap.size w w')) :
    Calls Tryd.prog 3 #[.agg #[.int .u8 op, .int .u8 d, .int .u8 a, .int .u8 b, .int .u32 im], .string s] w fun e w' => e = .returned (.bool true) ∧ Below w.heap.size w w' := by
  have B0 := Lib.hid (Box5.new op d a b im w)
  have K0 := Lib.hid (show Tabled w ∧ Below w.heap.size w w from ⟨HK.out, Below.refl _ _⟩)
  have K1 := Lib.hid (kb_alloc K0.out (.cells #[.int .u8 op, .int .u8 d, .int .u8 a, .int .u8 b, .int .u32 im] 24))
  clear K0 HK
  go_enter Tryd.func3, Tryd.ntmps3
  go_wp2_with fail
  refine (HE.out _ K1.out.1).mono ?_
  rintro e w1 ⟨rfl, q⟩
  have K2 := Lib.hid (kb_step K1.out q)
  have B1 := Lib.hid (Box5.same B0.out q)
  clear q K1 B0
  obtain ⟨x0, x1, x2, x3, x4⟩ := B1.out
  go_wp2_with fail
  refine (HF.out _).mono ?_
  rintro e w2 ⟨rfl, q⟩
  have K3 := Lib.hid (kb_step K2.out q)
  have B2 := Lib.hid (Box5.same B1.out q)
  clear q K2 B1
  clear x0 x1 x2 x3 x4
  go_wp2_with fail
  refine (HD.out _ K3.out.1).mono ?_
  rintro e w3 ⟨rfl, q⟩
  have K4 := Lib.hid (kb_alloc (kb_step K3.out q) (.cells #[.int .u8 o2, .int .u8 d2, .int .u8 a2, .int .u8 b2, .int .u32 i2] 24))
  have B3 := Lib.hid ((Box5.same B2.out q).alloc (.cells #[.int .u8 o2, .int .u8 d2, .int .u8 a2, .int .u8 b2, .int .u32 i2] 24))
  have Y3 := Lib.hid (Box5.new o2 d2 a2 b2 i2 w3)
  clear q K3 B2
  go_wp2_with fail
  refine (HR.out _).mono ?_
  rintro e w4 ⟨rfl, q⟩
  have K5 := Lib.hid (kb_alloc (kb_step K4.out q) (.cells #[.int .u8 o2, .int .u8 d2, .int .u8 a2, .int .u8 b2, .int .u32 i2] 24))
  have B4 := Lib.hid ((Box5.same B3.out q).alloc (.cells #[.int .u8 o2, .int .u8 d2, .int .u8 a2, .int .u8 b2, .int .u32 i2] 24))
  have Y4 := Lib.hid ((Box5.same Y3.out q).alloc (.cells #[.int .u8 o2, .int .u8 d2, .int .u8 a2, .int .u8 b2, .int .u32 i2] 24))
  have Z4 := Lib.hid (Box5.new o2 d2 a2 b2 i2 w4)
  clear q K4 B3 Y3
  obtain ⟨x0, x1, x2, x3, x4⟩ := B4.out
  go_wp2_with fail
  refine (HC.out _ K5.out.1).mono ?_
  rintro e w5 ⟨rfl, q⟩
  have K6 := Lib.hid (kb_step K5.out q)
  have B5 := Lib.hid (Box5.same B4.out q)
  have Y5 := Lib.hid (Box5.same Y4.out q)
  have Z5 := Lib.hid (Box5.same Z4.out q)
  clear q K5 B4 Y4 Z4
  clear x0 x1 x2 x3 x4
  obtain ⟨x0, x1, x2, x3, x4⟩ := B5.out
  obtain ⟨y0, y1, y2, y3, y4⟩ := Y5.out
  obtain ⟨z0, z1, z2, z3, z4⟩ := Z5.out
  go_wp2_with fail
  refine (HU.out _ K6.out.1).mono ?_
  rintro e w6 ⟨rfl, rfl⟩
  go_wp2_with fail
  refine (HV.out _).mono ?_
  rintro e w7 ⟨rfl, q⟩
  have K7 := Lib.hid (kb_alloc (kb_step K6.out q) (.cells #[.bool r1, .bool r2, .bool r3, .bool r4] 35))
  clear q K6
  clear x0 x1 x2 x3 x4
  clear y0 y1 y2 y3 y4
  clear z0 z1 z2 z3 z4
  clear B5 Y5 Z5
  go_wp2_with fail
  refine (alive_any _ K7.out.1).mono ?_
  rintro e w8 ⟨rfl, q⟩
  have K8 := Lib.hid (kb_step K7.out q)
  clear q K7
  go_wp2
  go_ret
  exact ⟨by simp, K8.out.2⟩

set_option maxHeartbeats 4000000 in
set_option maxRecDepth 100000 in
theorem tells_none (op d a b im o2 d2 a2 b2 i2 E G : Int) (r1 r2 r3 r4 : Bool) (s S : ByteArray) (hs : (s.size : Int) ≤ 100) (w : World) (HK : Hid (Tabled w))
    (HE : Hid (∀ w, Tabled w → Calls Tryd.prog 7 #[.agg #[.int .u8 op, .int .u8 d, .int .u8 a, .int .u8 b, .int .u32 im]] w fun e w' => e = .returned (.tuple #[.string S, .int .i64 E]) ∧ Below w.heap.size w w'))
    (HF : Hid (∀ w, Calls Tryd.prog 8 #[.agg #[.int .u8 op, .int .u8 d, .int .u8 a, .int .u8 b, .int .u32 im]] w fun e w' => e = .returned (.tuple #[.string S, .int .i64 E]) ∧ Below w.heap.size w w'))
    (HD : Hid (∀ w, Tabled w → Calls Tryd.prog 9 #[.string s] w fun e w' => e = .returned (.tuple #[.agg #[.int .u8 o2, .int .u8 d2, .int .u8 a2, .int .u8 b2, .int .u32 i2], .int .i64 G]) ∧ Below w.heap.size w w'))
    (HR : Hid (∀ w, Calls Tryd.prog 10 #[.string s] w fun e w' => e = .returned (.tuple #[.agg #[.int .u8 o2, .int .u8 d2, .int .u8 a2, .int .u8 b2, .int .u32 i2], .int .i64 G]) ∧ Below w.heap.size w w'))
    (HC : Hid (∀ w, Tabled w → Calls Tryd.prog 11 #[.agg #[.int .u8 op, .int .u8 d, .int .u8 a, .int .u8 b, .int .u32 im]] w fun e w' => e = .returned (.int .i64 E) ∧ Below w.heap.size w w'))
    (HU : Hid (∀ w, Tabled w → Calls Tryd.prog 12 #[.int .u8 op] w fun e w' => e = .returned (.tuple #[.bool false, .bool false, .bool false, .bool false, .int .i64 2]) ∧ w = w'))
    (HV : Hid (∀ w, Calls Tryd.prog 13 #[.int .u8 op] w fun e w' => e = .returned (.tuple #[.agg #[.bool r1, .bool r2, .bool r3, .bool r4], .bool false]) ∧ Below w.heap.size w w')) :
    Calls Tryd.prog 3 #[.agg #[.int .u8 op, .int .u8 d, .int .u8 a, .int .u8 b, .int .u32 im], .string s] w fun e w' => e = .returned (.bool true) ∧ Below w.heap.size w w' := by
  have B0 := Lib.hid (Box5.new op d a b im w)
  have K0 := Lib.hid (show Tabled w ∧ Below w.heap.size w w from ⟨HK.out, Below.refl _ _⟩)
  have K1 := Lib.hid (kb_alloc K0.out (.cells #[.int .u8 op, .int .u8 d, .int .u8 a, .int .u8 b, .int .u32 im] 24))
  clear K0 HK
  go_enter Tryd.func3, Tryd.ntmps3
  go_wp2_with fail
  refine (HE.out _ K1.out.1).mono ?_
  rintro e w1 ⟨rfl, q⟩
  have K2 := Lib.hid (kb_step K1.out q)
  have B1 := Lib.hid (Box5.same B0.out q)
  clear q K1 B0
  obtain ⟨x0, x1, x2, x3, x4⟩ := B1.out
  go_wp2_with fail
  refine (HF.out _).mono ?_
  rintro e w2 ⟨rfl, q⟩
  have K3 := Lib.hid (kb_step K2.out q)
  have B2 := Lib.hid (Box5.same B1.out q)
  clear q K2 B1
  clear x0 x1 x2 x3 x4
  go_wp2_with fail
  refine (HD.out _ K3.out.1).mono ?_
  rintro e w3 ⟨rfl, q⟩
  have K4 := Lib.hid (kb_alloc (kb_step K3.out q) (.cells #[.int .u8 o2, .int .u8 d2, .int .u8 a2, .int .u8 b2, .int .u32 i2] 24))
  have B3 := Lib.hid ((Box5.same B2.out q).alloc (.cells #[.int .u8 o2, .int .u8 d2, .int .u8 a2, .int .u8 b2, .int .u32 i2] 24))
  have Y3 := Lib.hid (Box5.new o2 d2 a2 b2 i2 w3)
  clear q K3 B2
  go_wp2_with fail
  refine (HR.out _).mono ?_
  rintro e w4 ⟨rfl, q⟩
  have K5 := Lib.hid (kb_alloc (kb_step K4.out q) (.cells #[.int .u8 o2, .int .u8 d2, .int .u8 a2, .int .u8 b2, .int .u32 i2] 24))
  have B4 := Lib.hid ((Box5.same B3.out q).alloc (.cells #[.int .u8 o2, .int .u8 d2, .int .u8 a2, .int .u8 b2, .int .u32 i2] 24))
  have Y4 := Lib.hid ((Box5.same Y3.out q).alloc (.cells #[.int .u8 o2, .int .u8 d2, .int .u8 a2, .int .u8 b2, .int .u32 i2] 24))
  have Z4 := Lib.hid (Box5.new o2 d2 a2 b2 i2 w4)
  clear q K4 B3 Y3
  obtain ⟨x0, x1, x2, x3, x4⟩ := B4.out
  go_wp2_with fail
  refine (HC.out _ K5.out.1).mono ?_
  rintro e w5 ⟨rfl, q⟩
  have K6 := Lib.hid (kb_step K5.out q)
  have B5 := Lib.hid (Box5.same B4.out q)
  have Y5 := Lib.hid (Box5.same Y4.out q)
  have Z5 := Lib.hid (Box5.same Z4.out q)
  clear q K5 B4 Y4 Z4
  clear x0 x1 x2 x3 x4
  obtain ⟨x0, x1, x2, x3, x4⟩ := B5.out
  obtain ⟨y0, y1, y2, y3, y4⟩ := Y5.out
  obtain ⟨z0, z1, z2, z3, z4⟩ := Z5.out
  go_wp2_with fail
  refine (HU.out _ K6.out.1).mono ?_
  rintro e w6 ⟨rfl, rfl⟩
  go_wp2_with fail
  refine (HV.out _).mono ?_
  rintro e w7 ⟨rfl, q⟩
  have K7 := Lib.hid (kb_alloc (kb_step K6.out q) (.cells #[.bool r1, .bool r2, .bool r3, .bool r4] 35))
  clear q K6
  clear x0 x1 x2 x3 x4
  clear y0 y1 y2 y3 y4
  clear z0 z1 z2 z3 z4
  clear B5 Y5 Z5
  go_wp2_with fail
  refine (alive_any _ K7.out.1).mono ?_
  rintro e w8 ⟨rfl, q⟩
  have K8 := Lib.hid (kb_step K7.out q)
  clear q K7
  go_wp2
  go_ret
  exact ⟨by simp, K8.out.2⟩

set_option maxHeartbeats 1000000 in
theorem tells_long (op d a b im : Int) (s : ByteArray) (hs : (100 : Int) < (s.size : Int)) (w : World) (hk : Tabled w) :
    Calls Tryd.prog 3 #[.agg #[.int .u8 op, .int .u8 d, .int .u8 a, .int .u8 b, .int .u32 im], .string s] w fun e w' => e = .returned (.bool true) ∧ Below w.heap.size w w' := by
  have K1 := Lib.hid (kb_alloc (show Tabled w ∧ Below w.heap.size w w from ⟨hk, Below.refl _ _⟩) (.cells #[.int .u8 op, .int .u8 d, .int .u8 a, .int .u8 b, .int .u32 im] 24))
  clear hk
  go_enter Tryd.func3, Tryd.ntmps3
  go_wp2_with fail
  refine (alive_any _ K1.out.1).mono ?_
  rintro e w8 ⟨rfl, q⟩
  have K8 := Lib.hid (kb_step K1.out q)
  clear q K1
  go_wp2
  go_ret
  exact ⟨rfl, K8.out.2⟩
end Go.Proofs.YtillcbmjpcbpaaaDoor
