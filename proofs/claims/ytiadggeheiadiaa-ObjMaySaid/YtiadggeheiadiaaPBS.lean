/- Lists of texts in memory. -/
import Derived.Test.YtiadggeheiadiaaBK
import Derived.Deep.QuietTactic
import Derived.BigQuiet
import Derived.Deep.MidRow
set_option linter.unusedVariables false
namespace Go.Proofs.Ytiadggeheiadiaa
open Go Go.RowKit

/-- A slice that reads as the texts L. -/
def SlAt (w : World) (v : Value) (L : List (List UInt8)) : Prop :=
  ∃ a c, v = .slice a L.length c ∧ (L ≠ [] → ∃ b o, a = some ⟨b, o, none⟩ ∧ b < w.heap.size ∧ ∀ j, j < L.length → w.cell? ⟨b, o + j, none⟩ = some (.string (tx (L.getD j []))))
theorem SlAt.below {w w' : World} {v : Value} {L : List (List UInt8)} (h : SlAt w v L) (hb : Below w.heap.size w w') : SlAt w' v L := by
  obtain ⟨a, c, rfl, h2⟩ := h
  refine ⟨a, c, rfl, fun hl => ?_⟩
  obtain ⟨b, o, rfl, h3, h4⟩ := h2 hl
  exact ⟨b, o, rfl, Nat.lt_of_lt_of_le h3 hb.size, fun j hj => (hb.cell (p := ⟨b, o + j, none⟩) h3).trans (h4 j hj)⟩

theorem getD_get {α : Type} (l : List α) (k : Nat) (d : α) (h : k < l.length) : l.getD k d = l[k] := by simp [List.getD, h]
end Go.Proofs.Ytiadggeheiadiaa
