/- A slice of instructions that came in: the list that lies under it. -/
import Derived.Test.YtgdbhmlmioihpaaDoorX21
import Derived.Deep.Slices
set_option linter.unusedVariables false
namespace Go.Proofs.YtgdbhmlmioihpaaDoor.I
open Go Go.ChangeShapes Go.WideShapes Go.RowKit

theorem lie_of_cells {W : World} {ad : Addr} {n : Nat} (X : Nat → Ins) (hn : 0 < n) (hX : ∀ i, i < n → W.cells? 0 (ad.add (i * 5)) 5 = some (X i).cells) :
    ∃ g o, ad = ⟨g, o, none⟩ ∧ g < W.heap.size ∧ Lie W g o ((List.range n).map X) := by
  obtain ⟨g, o, spot⟩ := ad
  have hat : ∀ i, i < n → ∀ j v, (X i).cells[j]? = some v → W.cell? (((⟨g, o, spot⟩ : Addr).add (i * 5)).add j) = some v := by
    intro i hi j v hv
    obtain ⟨_, _, hj⟩ := World.cells?_some (hX i hi)
    have hlt : j < 5 := (List.getElem?_eq_some_iff.1 hv).1
    rw [hj j hlt]
    exact hv
  have h00 := hat 0 hn 0 _ rfl
  have hspot : spot = none := by simpa [Addr.add] using World.cell?_spot h00
  subst hspot
  have hbl : g < W.heap.size := by
    rcases Nat.lt_or_ge g W.heap.size with h | h
    · exact h
    · rw [Addr.add_mid, Addr.add_mid] at h00
      simp [World.cell?, Array.getElem?_eq_none h] at h00
  refine ⟨g, o, rfl, hbl, fun k hk j v hv => ?_⟩
  have hk' : k < n := by simpa using hk
  have hget : ((List.range n).map X).getD k Ins.nought = X k := by simp [List.getD_eq_getElem?_getD, hk']
  rw [hget] at hv
  have := hat k hk' j v hv
  rw [Addr.add_mid, Addr.add_mid] at this
  exact this

theorem open_insns {H : Type} {enc : TypeId × Value → H} {W : World} {spare : Nat → Bool} {held : Bool} {a0 : Option Addr} {n c : Nat} {x : DataW H} {p : List MemPlace} (h : DataW.Trod enc Tryd.prog W 0 spare held 59 (.slice a0 n c) x p) :
    (a0 = none ∧ n = 0 ∧ c = 0) ∨ ∃ (ad : Addr) (l : List Ins), a0 = some ad ∧ l.length = n ∧ (∀ k, k < l.length → (l.getD k Ins.nought).fits) ∧ (l = [] ∨ ∃ g o, ad = ⟨g, o, none⟩ ∧ g < W.heap.size ∧ Lie W g o l) := by
  obtain ⟨fuel, hf⟩ := h
  rcases Go.Deep.open_slice Tryd.underlying59 hf with ⟨hcs, _⟩ | ⟨a, len, cap, m, n', D, Pl, hcs, _, hl, _, hmm, _, hcell⟩
  · simp [Value.cells] at hcs
    exact .inl hcs
  · simp [Value.cells] at hcs
    obtain ⟨rfl, rfl, rfl⟩ := hcs
    rw [cInsn] at hcell
    have hel : ∀ i, ∃ y : Ins, i < n → y.fits ∧ W.cells? 0 (a.add (i * 5)) 5 = some y.cells := by
      intro i
      by_cases hi : i < n
      · obtain ⟨cs', h1, h2⟩ := hcell i (by rw [hmm]; split <;> omega)
        obtain ⟨op, d, a', b, im, rfl, _, hfit⟩ := insn_of_cells h2
        exact ⟨⟨op, d, a', b, im⟩, fun _ => ⟨hfit, h1⟩⟩
      · exact ⟨Ins.nought, fun h => absurd h hi⟩
    obtain ⟨X, hX⟩ := Classical.axiomOfChoice hel
    refine .inr ⟨a, (List.range n).map X, rfl, by simp, fun k hk => ?_, ?_⟩
    · have hk' : k < n := by simpa using hk
      have hget : ((List.range n).map X).getD k Ins.nought = X k := by simp [List.getD_eq_getElem?_getD, hk']
      rw [hget]
      exact (hX k hk').1
    · by_cases hz : n = 0
      · subst hz; exact .inl rfl
      · exact .inr (lie_of_cells X (by omega) fun i hi => (hX i hi).2)
end Go.Proofs.YtgdbhmlmioihpaaDoor.I
