/- One object as a list of one (out of obj/LY). -/
import Derived.Test.YtfnofolahhoggaaRG
set_option linter.unusedVariables false
set_option linter.unusedSimpArgs false
namespace Go.Proofs.Ytfnofolahhoggaa
open Go Go.RowKit Oj

theorem ObsAt.get {w : World} {v : Value} {l : List Ob} (h : ObsAt w v l) : ∃ a c, v = .slice a l.length c ∧ (0 < l.length → ∃ b o, a = some ⟨b, o, none⟩ ∧ b < w.heap.size ∧ ∀ j, j < l.length → ∃ vs, LieC w b (o + j * 2) (obCells (l.getD j Ob.nought) vs) ∧ SymsAt w vs (l.getD j Ob.nought).syms) := by
  obtain ⟨S, ⟨a, c, rfl, h2⟩, h3⟩ := h
  refine ⟨a, c, rfl, fun hn => ?_⟩
  obtain ⟨b, o, h4, h5, h6⟩ := h2 hn
  exact ⟨b, o, h4, h5, fun j hj => ⟨S j, h6 j hj, h3 j hj⟩⟩
theorem ObAt.mk {w : World} {vs : Value} {x : Ob} (h : SymsAt w vs x.syms) : ObAt w (.agg #[.string (tx x.name), vs]) x := ⟨vs, rfl, h⟩
/-- One object as a list of one. -/
theorem obs_one {w : World} {x : Ob} {vs : Value} (h : SymsAt w vs x.syms) : ObsAt (w.alloc (.cells #[.string (tx x.name), vs] 43)) (.slice (some ⟨w.heap.size, 0, none⟩) 1 1) [x] := by
  have hb := below_new1 w (.cells #[.string (tx x.name), vs] 43)
  have hB := Blk.new w 43 [.string (tx x.name), vs]
  refine ⟨fun _ => vs, ⟨_, _, rfl, fun _ => ⟨w.heap.size, 0, rfl, hB.lt, fun j hj i u hu => ?_⟩⟩, fun j hj => ?_⟩
  · obtain rfl : j = 0 := by simp at hj; exact hj
    rw [show (0 + 0 * 2 + i) = i by omega, hB.cell i]
    exact hu
  · obtain rfl : j = 0 := by simp at hj; exact hj
    exact h.below hb
theorem obs_fit {x : Ob} (h : obFits x) : obsFit [x] := ⟨show 1 * 40 ≤ _ by decide, fun j hj => by
  obtain rfl : j = 0 := by simp at hj; exact hj
  exact h⟩
end Go.Proofs.Ytfnofolahhoggaa
