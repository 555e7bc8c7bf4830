/- What a step, many steps, and a copy of the program's cpu are held to; what stays when they are done. -/
import Derived.Test.YtgdbhmlmioihpaaDoorX27
import Derived.Test.YtgdbhmlmioihpaaDoorX31
set_option linter.unusedVariables false
namespace Go.Proofs.YtgdbhmlmioihpaaDoor
open Go Go.RowKit Go.Maps

/-- Only the cpu behind p, and the space's own blocks, have turned. -/
structure DT (w w' : World) (b e p : Nat) : Prop where
  os : w'.os = w.os
  tape : w'.tape = w.tape
  output : w'.output = w.output
  size : w.heap.size ≤ w'.heap.size
  block : ∀ j, j < w.heap.size → j ≠ p → ¬ Mine w b e j → w'.heap[j]? = w.heap[j]?

def StepOK : Prop := ∀ (w : World) (p b e n : Nat) (c : Cp) (A : As), c.Ok → I.Tabled w → CAt w p c → SpaceAt w b e n A →
  Calls Tryd.prog 6 #[.pointer (some ⟨p, 0, none⟩), .pointer (some ⟨b + 1, 0, none⟩)] w fun r w' => r = .returned (stopV (stepO c A)) ∧ CAt w' p (stepO c A).c ∧ SpaceAt w' b e n (stepO c A).A ∧ DT w w' b e p
def RunOK : Prop := ∀ (w : World) (p b e n : Nat) (c : Cp) (A : As) (m : Nat), m ≤ 1000000 → c.Ok → I.Tabled w → 0 < b → 0 < p → CAt w p c → SpaceAt w b e n A →
  Calls Tryd.prog 7 #[.pointer (some ⟨p, 0, none⟩), .pointer (some ⟨b + 1, 0, none⟩), .int .i64 (m : Int)] w fun r w' =>
    r = .returned (.tuple #[stopV (runO m c A).1, .int .i64 ((runO m c A).2 : Int)]) ∧ CAt w' p (runO m c A).1.c ∧ SpaceAt w' b e n (runO m c A).1.A ∧ DT w w' b e p
def CopyOK : Prop := ∀ (w : World) (p : Nat) (c : Cp), CAt w p c →
  Calls Tryd.prog 12 #[.pointer (some ⟨p, 0, none⟩)] w fun r w' => (∃ p2, w.heap.size ≤ p2 ∧ r = .returned (.pointer (some ⟨p2, 0, none⟩)) ∧ CAt w' p2 c) ∧ Below w.heap.size w w'

section
variable {w0 w w' w2 : World} {G B p b e n h g : Nat} {c c2 c3 c' : Cp} {A A2 A3 A' : As}
theorem DT.refl (w : World) (b e p : Nat) : DT w w b e p := ⟨rfl, rfl, rfl, Nat.le_refl _, fun _ _ _ _ => rfl⟩
theorem DT.ofBelow (h : Below w.heap.size w w') (b e p : Nat) : DT w w' b e p := ⟨h.os, h.tape, h.output, h.size, fun j hj _ _ => h.block j hj⟩
theorem DT.below (h : DT w w' b e p) (h1 : B ≤ p) (h2 : B ≤ b) (h3 : B ≤ w.heap.size) : Below B w w' :=
  ⟨h.os, h.tape, h.output, h.size, fun j hj => h.block j (by omega) (by omega) (by rintro (rfl | ⟨h4, _⟩) <;> omega)⟩
theorem DT.keep {j : Nat} {t : TypeId} {cs : List Value} (h : DT w w' b e p) (hs : SpaceAt w b e n A) (hc : CAt w p c) (hb : Blk w j t cs) (h1 : t ≠ 96) (h2 : t ≠ 47) : Blk w' j t cs := by
  have hc0 : Blk w p 47 (ccs c) := hc
  refine hb.same (h.block j hb.lt (hb.ne hc0 h2) ?_)
  rintro (rfl | ⟨_, _, cs', fr, h3⟩)
  · obtain ⟨es, k, h4⟩ := hs.isMap
    unfold Blk at hb
    rw [h4] at hb
    cases hb
  · unfold Blk at hb
    rw [h3] at hb
    injection hb with hb
    injection hb with _ hb
    exact h1 hb.symm
/-- A cpu beside it stays. -/
theorem DT.cpu {q : Nat} (h : DT w w' b e p) (hs : SpaceAt w b e n A) (hq : CAt w q c) (hne : q ≠ p) : CAt w' q c := by
  have hq0 : Blk w q 47 (ccs c) := hq
  refine hq0.same (h.block q hq0.lt hne ?_)
  rintro (rfl | ⟨_, _, cs', fr, h3⟩)
  · obtain ⟨es, k, h4⟩ := hs.isMap
    unfold Blk at hq0
    rw [h4] at hq0
    cases hq0
  · unfold Blk at hq0
    rw [h3] at hq0
    injection hq0 with hq0
    injection hq0 with _ hq0
    exact absurd hq0 (by decide)
/-- A space beside it stays. -/
theorem DT.space {b2 e2 n2 : Nat} (h : DT w w' b e p) (hq : SpaceAt w b2 e2 n2 A2) (h1 : e ≤ b2 ∨ e2 ≤ b) (h2 : p < b2 ∨ e2 ≤ p) (h3 : b < e) : SpaceAt w' b2 e2 n2 A2 :=
  hq.same h.size fun j j1 j2 => h.block j (by have := hq.hi; omega) (by omega) (by rintro (rfl | ⟨h4, h5, _⟩) <;> omega)
theorem Fr.dt (f : Fr w0 G p b e n h g c A c' A' w) (ht : DT w w' b e p) (hc : CAt w' p c2) (hs : SpaceAt w' b e n A2) : Fr w0 G p b e n h g c2 A2 c' A' w' := by
  obtain ⟨a, cp, L, hrf⟩ := f.rf
  exact ⟨hc, hs, ht.keep f.sp f.cpu f.k (by decide) (by decide), ⟨a, cp, L, hrf.same fun j t cs h1 h2 => ht.keep f.sp f.cpu h1 (by rcases h2 with rfl | rfl | rfl | rfl <;> decide) (by rcases h2 with rfl | rfl | rfl | rfl <;> decide)⟩, f.gp, f.gb, f.gh,
    f.low.trans (ht.below f.gp f.gb f.gs), Nat.le_trans f.gs ht.size⟩
theorem Fr.tabled (f : Fr w0 G p b e n h g c A c' A' w) (hG : G = w0.heap.size) (ht : I.Tabled w0) : I.Tabled w := ht.below (by rw [← hG]; exact f.low)
theorem Fr.step (hS : StepOK) (f : Fr w0 G p b e n h g c A c' A' w) (hc : c.Ok) (hG : G = w0.heap.size) (ht : I.Tabled w0) :
    Calls Tryd.prog 6 #[.pointer (some ⟨p, 0, none⟩), .pointer (some ⟨b + 1, 0, none⟩)] w fun r w' => r = .returned (stopV (stepO c A)) ∧ Fr w0 G p b e n h g (stepO c A).c (stepO c A).A c' A' w' := by
  refine (hS w p b e n c A hc (f.tabled hG ht) f.cpu f.sp).mono ?_
  rintro r w' ⟨h1, h2, h3, h4⟩
  exact ⟨h1, f.dt h4 h2 h3⟩
theorem Fr.run (hR : RunOK) (f : Fr w0 G p b e n h g c A c' A' w) (hc : c.Ok) (hG : G = w0.heap.size) (ht : I.Tabled w0) (m : Nat) (hm : m ≤ 1000000) :
    Calls Tryd.prog 7 #[.pointer (some ⟨p, 0, none⟩), .pointer (some ⟨b + 1, 0, none⟩), .int .i64 (m : Int)] w fun r w' => r = .returned (.tuple #[stopV (runO m c A).1, .int .i64 ((runO m c A).2 : Int)]) ∧ Fr w0 G p b e n h g (runO m c A).1.c (runO m c A).1.A c' A' w' ∧ DT w w' b e p := by
  refine (hR w p b e n c A m hm hc (f.tabled hG ht) (by have := ht.1; have := f.gb; omega) (by have := ht.1; have := f.gp; omega) f.cpu f.sp).mono ?_
  rintro r w' ⟨h1, h2, h3, h4⟩
  exact ⟨h1, f.dt h4 h2 h3, h4⟩
end
end Go.Proofs.YtgdbhmlmioihpaaDoor
