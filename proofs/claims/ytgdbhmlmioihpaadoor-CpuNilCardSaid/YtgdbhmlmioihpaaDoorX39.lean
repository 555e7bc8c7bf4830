/- What package word's Op does, whatever its operation, and what the statements' own function op makes of it. -/
import Derived.Test.YtgdbhmlmioihpaaDoorX12
import Derived.Test.YtgdbhmlmioihpaaDoorWP
namespace Go.Proofs.YtgdbhmlmioihpaaDoor.O
open Go.RowKit
set_option maxHeartbeats 1000000 in
set_option maxRecDepth 100000 in
theorem op1 (a b : Nat) (ha : a < 4294967296) (hb : b < 4294967296) (w : World) :
    Calls Tryd.prog 46 #[.int .u8 1, .int .u32 a, .int .u32 b] w fun e w' => e = .returned (.tuple #[.int .u32 (opI 1 a b), .int .i64 0]) ∧ Below w.heap.size w w' := by
  have L := fun w => leaf1 a b ha hb w
  have HL := Lib.hid L
  clear L ha hb
  go_enter Tryd.func46, Tryd.ntmps46
  go_wp2_with (first | (go_at_call 64; refine (pick1 _).mono ?_; rintro e w1 ⟨rfl, hb1⟩) | (go_at_call 74; refine (HL.out _).mono ?_; rintro e w2 ⟨rfl, rfl⟩))
  go_ret2
  exact ⟨rfl, hb1⟩
set_option maxHeartbeats 1000000 in
set_option maxRecDepth 100000 in
theorem op2 (a b : Nat) (ha : a < 4294967296) (hb : b < 4294967296) (w : World) :
    Calls Tryd.prog 46 #[.int .u8 2, .int .u32 a, .int .u32 b] w fun e w' => e = .returned (.tuple #[.int .u32 (opI 2 a b), .int .i64 0]) ∧ Below w.heap.size w w' := by
  have L := fun w => leaf2 a b ha hb w
  have HL := Lib.hid L
  clear L ha hb
  go_enter Tryd.func46, Tryd.ntmps46
  go_wp2_with (first | (go_at_call 64; refine (pick2 _).mono ?_; rintro e w1 ⟨rfl, hb1⟩) | (go_at_call 75; refine (HL.out _).mono ?_; rintro e w2 ⟨rfl, rfl⟩))
  go_ret2
  exact ⟨rfl, hb1⟩
set_option maxHeartbeats 1000000 in
set_option maxRecDepth 100000 in
theorem op3 (a b : Nat) (ha : a < 4294967296) (hb : b < 4294967296) (w : World) :
    Calls Tryd.prog 46 #[.int .u8 3, .int .u32 a, .int .u32 b] w fun e w' => e = .returned (.tuple #[.int .u32 (opI 3 a b), .int .i64 0]) ∧ Below w.heap.size w w' := by
  have L := fun w => leaf3 a b ha hb w
  have HL := Lib.hid L
  clear L ha hb
  go_enter Tryd.func46, Tryd.ntmps46
  go_wp2_with (first | (go_at_call 64; refine (pick3 _).mono ?_; rintro e w1 ⟨rfl, hb1⟩) | (go_at_call 76; refine (HL.out _).mono ?_; rintro e w2 ⟨rfl, rfl⟩))
  go_ret2
  exact ⟨rfl, hb1⟩
set_option maxHeartbeats 1000000 in
set_option maxRecDepth 100000 in
theorem op4 (a b : Nat) (ha : a < 4294967296) (hb : b < 4294967296) (w : World) :
    Calls Tryd.prog 46 #[.int .u8 4, .int .u32 a, .int .u32 b] w fun e w' => e = .returned (.tuple #[.int .u32 (opI 4 a b), .int .i64 0]) ∧ Below w.heap.size w w' := by
  have L := fun w => leaf4 a b ha hb w
  have HL := Lib.hid L
  clear L ha hb
  go_enter Tryd.func46, Tryd.ntmps46
  go_wp2_with (first | (go_at_call 64; refine (pick4 _).mono ?_; rintro e w1 ⟨rfl, hb1⟩) | (go_at_call 77; refine (HL.out _).mono ?_; rintro e w2 ⟨rfl, rfl⟩))
  go_ret2
  exact ⟨rfl, hb1⟩
set_option maxHeartbeats 1000000 in
set_option maxRecDepth 100000 in
theorem op5 (a b : Nat) (ha : a < 4294967296) (hb : b < 4294967296) (w : World) :
    Calls Tryd.prog 46 #[.int .u8 5, .int .u32 a, .int .u32 b] w fun e w' => e = .returned (.tuple #[.int .u32 (opI 5 a b), .int .i64 0]) ∧ Below w.heap.size w w' := by
  have L := fun w => leaf5 a b ha hb w
  have HL := Lib.hid L
  clear L ha hb
  go_enter Tryd.func46, Tryd.ntmps46
  go_wp2_with (first | (go_at_call 64; refine (pick5 _).mono ?_; rintro e w1 ⟨rfl, hb1⟩) | (go_at_call 78; refine (HL.out _).mono ?_; rintro e w2 ⟨rfl, rfl⟩))
  go_ret2
  exact ⟨rfl, hb1⟩
set_option maxHeartbeats 1000000 in
set_option maxRecDepth 100000 in
theorem op6 (a b : Nat) (ha : a < 4294967296) (hb : b < 4294967296) (w : World) :
    Calls Tryd.prog 46 #[.int .u8 6, .int .u32 a, .int .u32 b] w fun e w' => e = .returned (.tuple #[.int .u32 (opI 6 a b), .int .i64 0]) ∧ Below w.heap.size w w' := by
  have L := fun w => leaf6 a b ha hb w
  have HL := Lib.hid L
  clear L ha hb
  go_enter Tryd.func46, Tryd.ntmps46
  go_wp2_with (first | (go_at_call 64; refine (pick6 _).mono ?_; rintro e w1 ⟨rfl, hb1⟩) | (go_at_call 79; refine (HL.out _).mono ?_; rintro e w2 ⟨rfl, rfl⟩))
  go_ret2
  exact ⟨rfl, hb1⟩
set_option maxHeartbeats 1000000 in
set_option maxRecDepth 100000 in
theorem op7 (a b : Nat) (ha : a < 4294967296) (hb : b < 4294967296) (w : World) :
    Calls Tryd.prog 46 #[.int .u8 7, .int .u32 a, .int .u32 b] w fun e w' => e = .returned (.tuple #[.int .u32 (opI 7 a b), .int .i64 0]) ∧ Below w.heap.size w w' := by
  have L := fun w => leaf7 a b ha hb w
  have HL := Lib.hid L
  clear L ha hb
  go_enter Tryd.func46, Tryd.ntmps46
  go_wp2_with (first | (go_at_call 64; refine (pick7 _).mono ?_; rintro e w1 ⟨rfl, hb1⟩) | (go_at_call 80; refine (HL.out _).mono ?_; rintro e w2 ⟨rfl, rfl⟩))
  go_ret2
  exact ⟨rfl, hb1⟩
set_option maxHeartbeats 1000000 in
set_option maxRecDepth 100000 in
theorem op8 (a b : Nat) (ha : a < 4294967296) (hb : b < 4294967296) (w : World) :
    Calls Tryd.prog 46 #[.int .u8 8, .int .u32 a, .int .u32 b] w fun e w' => e = .returned (.tuple #[.int .u32 (opI 8 a b), .int .i64 0]) ∧ Below w.heap.size w w' := by
  have L := fun w => leaf8 a b ha hb w
  have HL := Lib.hid L
  clear L ha hb
  go_enter Tryd.func46, Tryd.ntmps46
  go_wp2_with (first | (go_at_call 64; refine (pick8 _).mono ?_; rintro e w1 ⟨rfl, hb1⟩) | (go_at_call 81; refine (HL.out _).mono ?_; rintro e w2 ⟨rfl, rfl⟩))
  go_ret2
  exact ⟨rfl, hb1⟩
set_option maxHeartbeats 1000000 in
set_option maxRecDepth 100000 in
theorem op9 (a b : Nat) (ha : a < 4294967296) (hb : b < 4294967296) (w : World) :
    Calls Tryd.prog 46 #[.int .u8 9, .int .u32 a, .int .u32 b] w fun e w' => e = .returned (.tuple #[.int .u32 (opI 9 a b), .int .i64 0]) ∧ Below w.heap.size w w' := by
  have L := fun w => leaf9 a b ha hb w
  have HL := Lib.hid L
  clear L ha hb
  go_enter Tryd.func46, Tryd.ntmps46
  go_wp2_with (first | (go_at_call 64; refine (pick9 _).mono ?_; rintro e w1 ⟨rfl, hb1⟩) | (go_at_call 82; refine (HL.out _).mono ?_; rintro e w2 ⟨rfl, rfl⟩))
  go_ret2
  exact ⟨rfl, hb1⟩
set_option maxHeartbeats 1000000 in
set_option maxRecDepth 100000 in
theorem op10 (a b : Nat) (ha : a < 4294967296) (hb : b < 4294967296) (w : World) :
    Calls Tryd.prog 46 #[.int .u8 10, .int .u32 a, .int .u32 b] w fun e w' => e = .returned (.tuple #[.int .u32 (opI 10 a b), .int .i64 0]) ∧ Below w.heap.size w w' := by
  have L := fun w => leaf10 a b ha hb w
  have HL := Lib.hid L
  clear L ha hb
  go_enter Tryd.func46, Tryd.ntmps46
  go_wp2_with (first | (go_at_call 64; refine (pick10 _).mono ?_; rintro e w1 ⟨rfl, hb1⟩) | (go_at_call 83; refine (HL.out _).mono ?_; rintro e w2 ⟨rfl, rfl⟩))
  go_ret2
  exact ⟨rfl, hb1⟩
set_option maxHeartbeats 1000000 in
set_option maxRecDepth 100000 in
theorem op11 (a b : Nat) (ha : a < 4294967296) (hb : b < 4294967296) (w : World) :
    Calls Tryd.prog 46 #[.int .u8 11, .int .u32 a, .int .u32 b] w fun e w' => e = .returned (.tuple #[.int .u32 (opI 11 a b), .int .i64 0]) ∧ Below w.heap.size w w' := by
  have L := fun w => leaf11 a b ha hb w
  have HL := Lib.hid L
  clear L ha hb
  go_enter Tryd.func46, Tryd.ntmps46
  go_wp2_with (first | (go_at_call 64; refine (pick11 _).mono ?_; rintro e w1 ⟨rfl, hb1⟩) | (go_at_call 84; refine (HL.out _).mono ?_; rintro e w2 ⟨rfl, rfl⟩))
  go_ret2
  exact ⟨rfl, hb1⟩
set_option maxHeartbeats 1000000 in
set_option maxRecDepth 100000 in
theorem op12 (a b : Nat) (ha : a < 4294967296) (hb : b < 4294967296) (w : World) :
    Calls Tryd.prog 46 #[.int .u8 12, .int .u32 a, .int .u32 b] w fun e w' => e = .returned (.tuple #[.int .u32 (opI 12 a b), .int .i64 0]) ∧ Below w.heap.size w w' := by
  have L := fun w => leaf12 a b ha hb w
  have HL := Lib.hid L
  clear L ha hb
  go_enter Tryd.func46, Tryd.ntmps46
  go_wp2_with (first | (go_at_call 64; refine (pick12 _).mono ?_; rintro e w1 ⟨rfl, hb1⟩) | (go_at_call 85; refine (HL.out _).mono ?_; rintro e w2 ⟨rfl, rfl⟩))
  go_ret2
  exact ⟨rfl, hb1⟩
set_option maxHeartbeats 1000000 in
set_option maxRecDepth 100000 in
theorem op13 (a b : Nat) (ha : a < 4294967296) (hb : b < 4294967296) (w : World) :
    Calls Tryd.prog 46 #[.int .u8 13, .int .u32 a, .int .u32 b] w fun e w' => e = .returned (.tuple #[.int .u32 (opI 13 a b), .int .i64 0]) ∧ Below w.heap.size w w' := by
  have L := fun w => leaf13 a b ha hb w
  have HL := Lib.hid L
  clear L ha hb
  go_enter Tryd.func46, Tryd.ntmps46
  go_wp2_with (first | (go_at_call 64; refine (pick13 _).mono ?_; rintro e w1 ⟨rfl, hb1⟩) | (go_at_call 87; refine (HL.out _).mono ?_; rintro e w2 ⟨rfl, rfl⟩))
  go_ret2
  exact ⟨rfl, hb1⟩
set_option maxHeartbeats 1000000 in
set_option maxRecDepth 100000 in
theorem op14 (a b : Nat) (ha : a < 4294967296) (hb : b < 4294967296) (w : World) :
    Calls Tryd.prog 46 #[.int .u8 14, .int .u32 a, .int .u32 b] w fun e w' => e = .returned (.tuple #[.int .u32 (opI 14 a b), .int .i64 0]) ∧ Below w.heap.size w w' := by
  have L := fun w => leaf14 a b ha hb w
  have HL := Lib.hid L
  clear L ha hb
  go_enter Tryd.func46, Tryd.ntmps46
  go_wp2_with (first | (go_at_call 64; refine (pick14 _).mono ?_; rintro e w1 ⟨rfl, hb1⟩) | (go_at_call 88; refine (HL.out _).mono ?_; rintro e w2 ⟨rfl, rfl⟩))
  go_ret2
  exact ⟨rfl, hb1⟩

theorem op_any (fn x y : Int) (h1 : 1 ≤ fn) (h14 : fn ≤ 14) (hx0 : 0 ≤ x) (hx : x < 4294967296) (hy0 : 0 ≤ y) (hy : y < 4294967296) (w : World) :
    Calls Tryd.prog 46 #[.int .u8 fn, .int .u32 x, .int .u32 y] w fun e w' => e = .returned (.tuple #[.int .u32 (opI fn x y), .int .i64 0]) ∧ Below w.heap.size w w' := by
  obtain ⟨a, rfl⟩ := Int.eq_ofNat_of_zero_le hx0
  obtain ⟨b, rfl⟩ := Int.eq_ofNat_of_zero_le hy0
  have ha : a < 4294967296 := by omega
  have hb : b < 4294967296 := by omega
  have hf : fn = 1 ∨ fn = 2 ∨ fn = 3 ∨ fn = 4 ∨ fn = 5 ∨ fn = 6 ∨ fn = 7 ∨ fn = 8 ∨ fn = 9 ∨ fn = 10 ∨ fn = 11 ∨ fn = 12 ∨ fn = 13 ∨ fn = 14 := by omega
  rcases hf with rfl | rfl | rfl | rfl | rfl | rfl | rfl | rfl | rfl | rfl | rfl | rfl | rfl | rfl
  · exact op1 a b ha hb w
  · exact op2 a b ha hb w
  · exact op3 a b ha hb w
  · exact op4 a b ha hb w
  · exact op5 a b ha hb w
  · exact op6 a b ha hb w
  · exact op7 a b ha hb w
  · exact op8 a b ha hb w
  · exact op9 a b ha hb w
  · exact op10 a b ha hb w
  · exact op11 a b ha hb w
  · exact op12 a b ha hb w
  · exact op13 a b ha hb w
  · exact op14 a b ha hb w

theorem op_no (fn x y : Int) (h : fn < 1 ∨ 14 < fn) (w : World) :
    Calls Tryd.prog 46 #[.int .u8 fn, .int .u32 x, .int .u32 y] w fun e w' => e = .returned (.tuple #[.int .u32 0, .int .i64 2]) ∧ w = w' := by
  by_cases h1 : fn < 1
  · clear h
    go_enter Tryd.func46, Tryd.ntmps46
    go_wp2_with fail
    go_ret2
    exact ⟨rfl, rfl⟩
  · have h2 : 14 < fn := by omega
    clear h
    go_enter Tryd.func46, Tryd.ntmps46
    go_wp2_with fail
    go_ret2
    exact ⟨rfl, rfl⟩

end Go.Proofs.YtgdbhmlmioihpaaDoor.O
