/- PackNil, given what the program's package pack answers for a reader that is nil. -/
import Derived.Test.YtijfdnaolgbpmaaPJ
set_option linter.unusedVariables false
namespace Go.Proofs.Ytijfdnaolgbpmaa
open Go Go.RowKit Pk

/-- What no reader answers. -/
structure NilOK : Prop where
  take : ∀ (n : Int) (w : World), Calls Try.prog 17 #[.pointer none, .int .i64 n] w fun e w' => e = .returned (.tuple #[.string ⟨#[]⟩, .int .i64 1]) ∧ Below w.heap.size w w'
  rnum : ∀ (n : Int) (w : World), Calls Try.prog 19 #[.pointer none, .int .i64 n] w fun e w' => e = .returned (.tuple #[.int .u32 0, .int .i64 1]) ∧ Below w.heap.size w w'
  rtext : ∀ (w : World), Calls Try.prog 21 #[.pointer none] w fun e w' => e = .returned (.tuple #[.string ⟨#[]⟩, .int .i64 1]) ∧ Below w.heap.size w w'
  rtexts : ∀ (w : World), Calls Try.prog 23 #[.pointer none] w fun e w' => ∃ a c, e = .returned (.tuple #[.slice a 0 c, .int .i64 1]) ∧ Below w.heap.size w w'
  left : ∀ (w : World), Calls Try.prog 27 #[.pointer none] w fun e w' => e = .returned (.int .i64 0) ∧ Below w.heap.size w w'
  fin : ∀ (w : World), Calls Try.prog 25 #[.pointer none] w fun e w' => e = .returned (.int .i64 1) ∧ Below w.heap.size w w'
  fault : ∀ (w : World), Calls Try.prog 28 #[.pointer none] w fun e w' => e = .returned (.int .i64 1) ∧ Below w.heap.size w w'
section
variable {Rep : List Value → Rd → Prop}
set_option maxHeartbeats 4000000 in
set_option maxRecDepth 100000 in
theorem nil_any (h : PackOK Rep) (k : NilOK) (n : Int) (w : World) : Calls Try.prog 6 #[.int .i64 n] w fun e w' => e = .returned (.bool true) ∧ Below w.heap.size w w' := by
  have HA := Lib.hid (fun w1 => palive_any h w1)
  have K := Lib.hid k
  clear h k
  have B0 : Hid (Below w.heap.size w w ∧ w.heap.size ≤ w.heap.size) := Lib.hid ⟨Below.refl _ _, Nat.le_refl _⟩
  have NX : Hid (∀ a b : World, Below w.heap.size w a ∧ w.heap.size ≤ a.heap.size → Below a.heap.size a b → Below w.heap.size w b ∧ w.heap.size ≤ b.heap.size) := Lib.hid fun a b p q => ⟨p.1.trans (q.mono p.2), Nat.le_trans p.2 q.size⟩
  go_enter Try.func6, Try.ntmps6
  go_wp2_with fail
  refine (K.out.take _ _).mono ?_; rintro e w1 ⟨rfl, q⟩
  have B1 := Lib.hid (NX.out _ _ B0.out q)
  clear q B0
  go_wp2_with fail
  refine (K.out.rnum _ _).mono ?_; rintro e w2 ⟨rfl, q⟩
  have B2 := Lib.hid (NX.out _ _ B1.out q)
  clear q B1
  go_wp2_with fail
  refine (K.out.rtext _).mono ?_; rintro e w3 ⟨rfl, q⟩
  have B3 := Lib.hid (NX.out _ _ B2.out q)
  clear q B2
  go_wp2_with fail
  refine (K.out.rtexts _).mono ?_; rintro e w4 ⟨a, c, rfl, q⟩
  have B4 := Lib.hid (NX.out _ _ B3.out q)
  clear q B3
  go_wp2_with fail
  refine (K.out.left _).mono ?_; rintro e w5 ⟨rfl, q⟩
  have B5 := Lib.hid (NX.out _ _ B4.out q)
  clear q B4
  go_wp2_with fail
  refine (K.out.fin _).mono ?_; rintro e w6 ⟨rfl, q⟩
  have B6 := Lib.hid (NX.out _ _ B5.out q)
  clear q B5
  go_wp2_with fail
  refine (K.out.fault _).mono ?_; rintro e w7 ⟨rfl, q⟩
  have B7 := Lib.hid (NX.out _ _ B6.out q)
  clear q B6
  go_wp2_with fail
  refine (HA.out _).mono ?_; rintro e w8 ⟨rfl, q⟩
  have B8 := Lib.hid (NX.out _ _ B7.out q)
  clear q B7
  go_wp2
  go_ret
  exact ⟨rfl, B8.out.1⟩
end
end Go.Proofs.Ytijfdnaolgbpmaa
