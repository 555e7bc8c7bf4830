/- The table of package word's operations: which function stands at each place. -/
import Derived.Test.YtgdbhmlmioihpaaDoorProg
import Derived.WalkKit
import Derived.WalkSpells
import Derived.WalkLawsBesides
import Derived.Laws.EntriesVeiled
namespace Go.Proofs.YtgdbhmlmioihpaaDoor.O
open Go.RowKit
/-! the table, and its functions -/
set_option maxRecDepth 100000 in
theorem pick1 (w : World) : Calls Tryd.prog 64 #[.int .u8 1] w fun e w' => e = .returned (.func (.func 74) #[] #[]) ∧ Below w.heap.size w w' := by
  go_enter Tryd.func64, Tryd.ntmps64
  go_wp2
  go_ret
  exact ⟨rfl, (Below.refl _ _).alloc (Nat.le_refl _) _⟩
set_option maxRecDepth 100000 in
theorem pick2 (w : World) : Calls Tryd.prog 64 #[.int .u8 2] w fun e w' => e = .returned (.func (.func 75) #[] #[]) ∧ Below w.heap.size w w' := by
  go_enter Tryd.func64, Tryd.ntmps64
  go_wp2
  go_ret
  exact ⟨rfl, (Below.refl _ _).alloc (Nat.le_refl _) _⟩
set_option maxRecDepth 100000 in
theorem pick3 (w : World) : Calls Tryd.prog 64 #[.int .u8 3] w fun e w' => e = .returned (.func (.func 76) #[] #[]) ∧ Below w.heap.size w w' := by
  go_enter Tryd.func64, Tryd.ntmps64
  go_wp2
  go_ret
  exact ⟨rfl, (Below.refl _ _).alloc (Nat.le_refl _) _⟩
set_option maxRecDepth 100000 in
theorem pick4 (w : World) : Calls Tryd.prog 64 #[.int .u8 4] w fun e w' => e = .returned (.func (.func 77) #[] #[]) ∧ Below w.heap.size w w' := by
  go_enter Tryd.func64, Tryd.ntmps64
  go_wp2
  go_ret
  exact ⟨rfl, (Below.refl _ _).alloc (Nat.le_refl _) _⟩
set_option maxRecDepth 100000 in
theorem pick5 (w : World) : Calls Tryd.prog 64 #[.int .u8 5] w fun e w' => e = .returned (.func (.func 78) #[] #[]) ∧ Below w.heap.size w w' := by
  go_enter Tryd.func64, Tryd.ntmps64
  go_wp2
  go_ret
  exact ⟨rfl, (Below.refl _ _).alloc (Nat.le_refl _) _⟩
set_option maxRecDepth 100000 in
theorem pick6 (w : World) : Calls Tryd.prog 64 #[.int .u8 6] w fun e w' => e = .returned (.func (.func 79) #[] #[]) ∧ Below w.heap.size w w' := by
  go_enter Tryd.func64, Tryd.ntmps64
  go_wp2
  go_ret
  exact ⟨rfl, (Below.refl _ _).alloc (Nat.le_refl _) _⟩
set_option maxRecDepth 100000 in
theorem pick7 (w : World) : Calls Tryd.prog 64 #[.int .u8 7] w fun e w' => e = .returned (.func (.func 80) #[] #[]) ∧ Below w.heap.size w w' := by
  go_enter Tryd.func64, Tryd.ntmps64
  go_wp2
  go_ret
  exact ⟨rfl, (Below.refl _ _).alloc (Nat.le_refl _) _⟩
set_option maxRecDepth 100000 in
theorem pick8 (w : World) : Calls Tryd.prog 64 #[.int .u8 8] w fun e w' => e = .returned (.func (.func 81) #[] #[]) ∧ Below w.heap.size w w' := by
  go_enter Tryd.func64, Tryd.ntmps64
  go_wp2
  go_ret
  exact ⟨rfl, (Below.refl _ _).alloc (Nat.le_refl _) _⟩
set_option maxRecDepth 100000 in
theorem pick9 (w : World) : Calls Tryd.prog 64 #[.int .u8 9] w fun e w' => e = .returned (.func (.func 82) #[] #[]) ∧ Below w.heap.size w w' := by
  go_enter Tryd.func64, Tryd.ntmps64
  go_wp2
  go_ret
  exact ⟨rfl, (Below.refl _ _).alloc (Nat.le_refl _) _⟩
set_option maxRecDepth 100000 in
theorem pick10 (w : World) : Calls Tryd.prog 64 #[.int .u8 10] w fun e w' => e = .returned (.func (.func 83) #[] #[]) ∧ Below w.heap.size w w' := by
  go_enter Tryd.func64, Tryd.ntmps64
  go_wp2
  go_ret
  exact ⟨rfl, (Below.refl _ _).alloc (Nat.le_refl _) _⟩
set_option maxRecDepth 100000 in
theorem pick11 (w : World) : Calls Tryd.prog 64 #[.int .u8 11] w fun e w' => e = .returned (.func (.func 84) #[] #[]) ∧ Below w.heap.size w w' := by
  go_enter Tryd.func64, Tryd.ntmps64
  go_wp2
  go_ret
  exact ⟨rfl, (Below.refl _ _).alloc (Nat.le_refl _) _⟩
set_option maxRecDepth 100000 in
theorem pick12 (w : World) : Calls Tryd.prog 64 #[.int .u8 12] w fun e w' => e = .returned (.func (.func 85) #[] #[]) ∧ Below w.heap.size w w' := by
  go_enter Tryd.func64, Tryd.ntmps64
  go_wp2
  go_ret
  exact ⟨rfl, (Below.refl _ _).alloc (Nat.le_refl _) _⟩
set_option maxRecDepth 100000 in
theorem pick13 (w : World) : Calls Tryd.prog 64 #[.int .u8 13] w fun e w' => e = .returned (.func (.func 87) #[] #[]) ∧ Below w.heap.size w w' := by
  go_enter Tryd.func64, Tryd.ntmps64
  go_wp2
  go_ret
  exact ⟨rfl, (Below.refl _ _).alloc (Nat.le_refl _) _⟩
set_option maxRecDepth 100000 in
theorem pick14 (w : World) : Calls Tryd.prog 64 #[.int .u8 14] w fun e w' => e = .returned (.func (.func 88) #[] #[]) ∧ Below w.heap.size w w' := by
  go_enter Tryd.func64, Tryd.ntmps64
  go_wp2
  go_ret
  exact ⟨rfl, (Below.refl _ _).alloc (Nat.le_refl _) _⟩

end Go.Proofs.YtgdbhmlmioihpaaDoor.O
