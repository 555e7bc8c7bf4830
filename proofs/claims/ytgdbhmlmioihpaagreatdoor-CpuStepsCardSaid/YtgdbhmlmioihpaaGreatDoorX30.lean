/- Look. -/
import Derived.Test.YtgdbhmlmioihpaaGreatDoorX04
set_option linter.unusedVariables false
namespace Go.Proofs.YtgdbhmlmioihpaaGreatDoor
open Go.RowKit Go.Maps

set_option maxHeartbeats 1000000 in
set_option maxRecDepth 100000 in
theorem look_any (b e n : Nat) (A : As) (x : Nat) (m : Int) (hx : x < 4294967296) (w : World) (h : SpaceAt w b e n A) :
    Calls Tryz.prog 20 #[.pointer (some ⟨b + 1, 0, none⟩), .int .u32 (x : Int), .int .i64 m] w fun e' w' =>
      e' = .returned (.tuple #[.string (getS A 0 x m), .int .i64 (getE A 0 x m)]) ∧ Below w.heap.size w w' := by
  have hP := get_any b e n 0 (by decide) A x m hx w h
  rw [show mayV 0 = .func (.func 45) #[.int .u8 0] #[] from rfl] at hP
  clear hx h
  go_enter Tryz.func20, Tryz.ntmps20
  go_wp2_with (go_at_call 44; refine hP.mono ?_; rintro e w' ⟨rfl, h2⟩)
  go_ret2
  exact ⟨rfl, h2⟩
end Go.Proofs.YtgdbhmlmioihpaaGreatDoor
