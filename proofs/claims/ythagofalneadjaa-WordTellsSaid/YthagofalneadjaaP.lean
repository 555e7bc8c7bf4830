/- The table of package word's operations: which function stands at each place. -/
import Derived.Test.YthagofalneadjaaProg
import Derived.WalkKit
import Derived.WalkSpells
import Derived.WalkLawsBesides
import Derived.Laws.EntriesVeiled
namespace Go.Proofs.Ythagofalneadjaa
open Go.RowKit
/-! the table, and its functions -/
set_option maxRecDepth 100000 in
theorem pick1 (w : World) : Calls Try.prog 23 #[.int .u8 1] w fun e w' => e = .returned (.func (.func 36) #[] #[]) ∧ Below w.heap.size w w' := by
  go_enter Try.func23, Try.ntmps23
  go_wp2
  go_ret
  exact ⟨rfl, (Below.refl _ _).alloc (Nat.le_refl _) _⟩
set_option maxRecDepth 100000 in
theorem pick2 (w : World) : Calls Try.prog 23 #[.int .u8 2] w fun e w' => e = .returned (.func (.func 37) #[] #[]) ∧ Below w.heap.size w w' := by
  go_enter Try.func23, Try.ntmps23
  go_wp2
  go_ret
  exact ⟨rfl, (Below.refl _ _).alloc (Nat.le_refl _) _⟩
set_option maxRecDepth 100000 in
theorem pick3 (w : World) : Calls Try.prog 23 #[.int .u8 3] w fun e w' => e = .returned (.func (.func 38) #[] #[]) ∧ Below w.heap.size w w' := by
  go_enter Try.func23, Try.ntmps23
  go_wp2
  go_ret
  exact ⟨rfl, (Below.refl _ _).alloc (Nat.le_refl _) _⟩
set_option maxRecDepth 100000 in
theorem pick4 (w : World) : Calls Try.prog 23 #[.int .u8 4] w fun e w' => e = .returned (.func (.func 39) #[] #[]) ∧ Below w.heap.size w w' := by
  go_enter Try.func23, Try.ntmps23
  go_wp2
  go_ret
  exact ⟨rfl, (Below.refl _ _).alloc (Nat.le_refl _) _⟩
set_option maxRecDepth 100000 in
theorem pick5 (w : World) : Calls Try.prog 23 #[.int .u8 5] w fun e w' => e = .returned (.func (.func 40) #[] #[]) ∧ Below w.heap.size w w' := by
  go_enter Try.func23, Try.ntmps23
  go_wp2
  go_ret
  exact ⟨rfl, (Below.refl _ _).alloc (Nat.le_refl _) _⟩
set_option maxRecDepth 100000 in
theorem pick6 (w : World) : Calls Try.prog 23 #[.int .u8 6] w fun e w' => e = .returned (.func (.func 41) #[] #[]) ∧ Below w.heap.size w w' := by
  go_enter Try.func23, Try.ntmps23
  go_wp2
  go_ret
  exact ⟨rfl, (Below.refl _ _).alloc (Nat.le_refl _) _⟩
set_option maxRecDepth 100000 in
theorem pick7 (w : World) : Calls Try.prog 23 #[.int .u8 7] w fun e w' => e = .returned (.func (.func 42) #[] #[]) ∧ Below w.heap.size w w' := by
  go_enter Try.func23, Try.ntmps23
  go_wp2
  go_ret
  exact ⟨rfl, (Below.refl _ _).alloc (Nat.le_refl _) _⟩
set_option maxRecDepth 100000 in
theorem pick8 (w : World) : Calls Try.prog 23 #[.int .u8 8] w fun e w' => e = .returned (.func (.func 43) #[] #[]) ∧ Below w.heap.size w w' := by
  go_enter Try.func23, Try.ntmps23
  go_wp2
  go_ret
  exact ⟨rfl, (Below.refl _ _).alloc (Nat.le_refl _) _⟩
set_option maxRecDepth 100000 in
theorem pick9 (w : World) : Calls Try.prog 23 #[.int .u8 9] w fun e w' => e = .returned (.func (.func 44) #[] #[]) ∧ Below w.heap.size w w' := by
  go_enter Try.func23, Try.ntmps23
  go_wp2
  go_ret
  exact ⟨rfl, (Below.refl _ _).alloc (Nat.le_refl _) _⟩
set_option maxRecDepth 100000 in
theorem pick10 (w : World) : Calls Try.prog 23 #[.int .u8 10] w fun e w' => e = .returned (.func (.func 45) #[] #[]) ∧ Below w.heap.size w w' := by
  go_enter Try.func23, Try.ntmps23
  go_wp2
  go_ret
  exact ⟨rfl, (Below.refl _ _).alloc (Nat.le_refl _) _⟩
set_option maxRecDepth 100000 in
theorem pick11 (w : World) : Calls Try.prog 23 #[.int .u8 11] w fun e w' => e = .returned (.func (.func 46) #[] #[]) ∧ Below w.heap.size w w' := by
  go_enter Try.func23, Try.ntmps23
  go_wp2
  go_ret
  exact ⟨rfl, (Below.refl _ _).alloc (Nat.le_refl _) _⟩
set_option maxRecDepth 100000 in
theorem pick12 (w : World) : Calls Try.prog 23 #[.int .u8 12] w fun e w' => e = .returned (.func (.func 47) #[] #[]) ∧ Below w.heap.size w w' := by
  go_enter Try.func23, Try.ntmps23
  go_wp2
  go_ret
  exact ⟨rfl, (Below.refl _ _).alloc (Nat.le_refl _) _⟩
set_option maxRecDepth 100000 in
theorem pick13 (w : World) : Calls Try.prog 23 #[.int .u8 13] w fun e w' => e = .returned (.func (.func 49) #[] #[]) ∧ Below w.heap.size w w' := by
  go_enter Try.func23, Try.ntmps23
  go_wp2
  go_ret
  exact ⟨rfl, (Below.refl _ _).alloc (Nat.le_refl _) _⟩
set_option maxRecDepth 100000 in
theorem pick14 (w : World) : Calls Try.prog 23 #[.int .u8 14] w fun e w' => e = .returned (.func (.func 50) #[] #[]) ∧ Below w.heap.size w w' := by
  go_enter Try.func23, Try.ntmps23
  go_wp2
  go_ret
  exact ⟨rfl, (Below.refl _ _).alloc (Nat.le_refl _) _⟩

end Go.Proofs.Ythagofalneadjaa
