/- Some texts of one proof, one behind the other; each has its own head below. -/
import Derived.Test.YtgdbhmlmioihpaaDoorX01
import Derived.Test.YtgdbhmlmioihpaaDoorX02
import Derived.Test.YtgdbhmlmioihpaaDoorX05
import Derived.Laws.AppendOwn
/- The document's space without pages; worlds behind some draws. -/
section
set_option linter.unusedVariables false
namespace Go.Proofs.YtgdbhmlmioihpaaDoor
open Go.RowKit Go.Maps

/-- The document's space at a block has no pages. -/
abbrev Bare (w : World) (g : Nat) : Prop := Blk w g 79 [.slice none 0 0]
theorem Bare.cell0 {w : World} {g : Nat} (h : Bare w g) : w.cell? ⟨g, 0, none⟩ = some (.slice none 0 0) := by rw [Blk.cell h]; rfl

theorem only_none {a b : World} {row : Option Nat} (h : a.grownBy b none) : a.grownBy b row := ⟨h.os, h.tape, h.output, h.size, fun i hi _ => h.block i hi (by simp)⟩
theorem info_prpage : (Tryd.prog.info? 97).map (fun i => (i.zero, i.size, i.bytes)) = some (some (.pointer none), 1, 8) := by kernel_rfl
theorem info_u8 : (Tryd.prog.info? 5).map (fun i => (i.zero, i.size, i.bytes)) = some (some (.int .u8 0), 1, 1) := by kernel_rfl

theorem drewN_add (w : World) (a b : Nat) : (w.drewN a).drewN b = w.drewN (a + b) := by unfold World.drewN; simp [Nat.add_assoc]
theorem below_drewN (w : World) (n : Nat) : Below w.heap.size w (w.drewN n) := ⟨rfl, rfl, rfl, Nat.le_refl _, fun _ _ => rfl⟩
end Go.Proofs.YtgdbhmlmioihpaaDoor
end

/- What of a space, and of other blocks, stays when the one or the other turns. -/
section
set_option linter.unusedVariables false
namespace Go.Proofs.YtgdbhmlmioihpaaDoor
open Go.RowKit Go.Maps

theorem SpaceAt.isMap {w : World} {b e n : Nat} {A : As} (h : SpaceAt w b e n A) : ∃ es c, w.heap[b]? = some (.map es c) := by
  obtain ⟨pg, h⟩ := h
  obtain ⟨D, ⟨es, clock, hb, F, hs, hD⟩, r⟩ := h.map
  exact ⟨_, _, hb⟩
/-- What is neither the map nor a page stays. -/
theorem Turn.keep {w w' : World} {b e n j : Nat} {A : As} {t : TypeId} {cs : List Value} (h : Turn w w' b e) (hs : SpaceAt w b e n A) (hb : Blk w j t cs) (ht : t ≠ 96) : Blk w' j t cs := by
  refine hb.same (h.block j hb.lt ?_)
  rintro (rfl | ⟨_, _, cs', fr, h3⟩)
  · obtain ⟨es, c, h2⟩ := hs.isMap
    unfold Blk at hb
    rw [h2] at hb
    cases hb
  · unfold Blk at hb
    rw [h3] at hb
    injection hb with hb
    injection hb with _ hb
    exact ht hb.symm
/-- A block of another kind turns. -/
theorem SpaceAt.aside {w w' : World} {b e n r : Nat} {A : As} {t : TypeId} {cs : List Value} (h : SpaceAt w b e n A) (hg : w.grownBy w' (some r)) (hr : Blk w r t cs) (h1 : t ≠ 96) (h2 : t ≠ 43) : SpaceAt w' b e n A := by
  have hm := h.isMap
  obtain ⟨pg, h⟩ := h
  have hne : ∀ g t' cs', Blk w g t' cs' → t' ≠ t → g ≠ r := fun g t' cs' hb hn he => by
    subst he
    unfold Blk at hb hr
    rw [hr] at hb
    injection hb with hb
    injection hb with _ hb
    exact hn hb.symm
  have hbr : b ≠ r := by
    rintro rfl
    obtain ⟨es, c, hm⟩ := hm
    unfold Blk at hr
    rw [hm] at hr
    cases hr
  exact ⟨pg, h.head.grown hg (by intro he; cases he; exact hne _ _ _ h.head (Ne.symm h2) rfl), h.lo, Nat.le_trans h.hi hg.size, h.map.same (hg.block b h.map.lt (by intro he; cases he; exact hbr rfl)), h.none,
    fun i p hp => by
      obtain ⟨q1, q2, q3, f, q4, q5⟩ := h.page i p hp
      exact ⟨q1, q2, q3, f, q4, q5.grown hg (by intro he; cases he; exact hne _ _ _ q5 (Ne.symm h1) rfl)⟩, h.inj⟩

theorem SpaceAt.mono {w : World} {b e n n' : Nat} {A : As} (h : SpaceAt w b e n A) (hn : n ≤ n') : SpaceAt w b e n' A := by
  obtain ⟨pg, h⟩ := h
  exact ⟨pg, h.head, h.lo, h.hi, h.map.mono hn, h.none, h.page, h.inj⟩
end Go.Proofs.YtgdbhmlmioihpaaDoor
end
