/- The pages that there are, as a rising list. -/
import Derived.Test.YtgdbhmlmioihpaaDoorX00
set_option linter.unusedVariables false
namespace Go.Proofs.YtgdbhmlmioihpaaDoor
open Go.RowKit

/-- The addresses of a space's pages, ascending. -/
def pagesOf (A : As) : List Int := ((List.range 4096).filter fun i => (A i).isSome).map fun (i : Nat) => 256 * (i : Int)
theorem mem_pagesOf (A : As) (x : Int) : x ∈ pagesOf A ↔ ∃ i : Nat, i < 4096 ∧ (A i).isSome = true ∧ x = 256 * (i : Int) := by
  unfold pagesOf
  simp only [List.mem_map, List.mem_filter, List.mem_range]
  constructor
  · rintro ⟨i, ⟨h1, h2⟩, rfl⟩; exact ⟨i, h1, h2, rfl⟩
  · rintro ⟨i, h1, h2, rfl⟩; exact ⟨i, ⟨h1, h2⟩, rfl⟩
theorem pagesOf_lt (A : As) : (pagesOf A).Pairwise (· < ·) := by
  unfold pagesOf
  rw [List.pairwise_map]
  refine List.Pairwise.imp ?_ (List.pairwise_lt_range.filter _)
  intro a c h
  omega
end Go.Proofs.YtgdbhmlmioihpaaDoor
