/- A cpu in its space, a copy of both, and the document's. -/
import Derived.Test.YtgdbhmlmioihpaaGreatDoorX29
import Derived.Test.YtgdbhmlmioihpaaGreatDoorX17
import Derived.Test.YtgdbhmlmioihpaaGreatDoorX38
import Derived.Test.YtgdbhmlmioihpaaGreatDoorX48
set_option linter.unusedVariables false
namespace Go.Proofs.YtgdbhmlmioihpaaGreatDoor
open Go Go.RowKit Go.Maps

structure Tw (w0 : World) (G p b e n h g p2 b2 e2 : Nat) (c : Cp) (A : As) (c' : Cp) (A' : As) (c2 : Cp) (A2 : As) (w : World) : Prop where
  f : Fr w0 G p b e n h g c A c' A' w
  cp : CAt w p2 c2
  sp : SpaceAt w b2 e2 n A2
  ne : p ≠ p2
  l1 : e ≤ p2
  l2 : p < b2
  l3 : e ≤ b2
  g1 : G ≤ p2
  g2 : G ≤ b2
section
variable {w0 w w' : World} {G p b e n h g p2 b2 e2 : Nat} {c c' c2 c3 : Cp} {A A' A2 A3 : As}
theorem Tw.below (t : Tw w0 G p b e n h g p2 b2 e2 c A c' A' c2 A2 w) (hb : Below w.heap.size w w') : Tw w0 G p b e n h g p2 b2 e2 c A c' A' c2 A2 w' :=
  ⟨t.f.below hb, t.cp.below hb, t.sp.below hb t.sp.hi, t.ne, t.l1, t.l2, t.l3, t.g1, t.g2⟩
theorem Tw.alloc (t : Tw w0 G p b e n h g p2 b2 e2 c A c' A' c2 A2 w) (o : Obj) : Tw w0 G p b e n h g p2 b2 e2 c A c' A' c2 A2 (w.alloc o) := t.below ((Below.refl _ _).alloc (Nat.le_refl _) _)
theorem Tw.turn1 (t : Tw w0 G p b e n h g p2 b2 e2 c A c' A' c2 A2 w) (ht : DT w w' b e p) (f : Fr w0 G p b e n h g c3 A3 c' A' w') : Tw w0 G p b e n h g p2 b2 e2 c3 A3 c' A' c2 A2 w' :=
  ⟨f, ht.cpu t.f.sp t.cp (Ne.symm t.ne), ht.space t.sp (.inl t.l3) (.inl t.l2) (by have := t.f.sp.lo; omega), t.ne, t.l1, t.l2, t.l3, t.g1, t.g2⟩
theorem Tw.turn2 (t : Tw w0 G p b e n h g p2 b2 e2 c A c' A' c2 A2 w) (ht : DT w w' b2 e2 p2) (hc : CAt w' p2 c3) (hs : SpaceAt w' b2 e2 n A3) : Tw w0 G p b e n h g p2 b2 e2 c A c' A' c3 A3 w' := by
  obtain ⟨a, cp, L, hrf⟩ := t.f.rf
  exact ⟨⟨ht.cpu t.sp t.f.cpu t.ne, ht.space t.f.sp (.inr t.l3) (.inr t.l1) (by have := t.sp.lo; omega), ht.keep t.sp t.cp t.f.k (by decide) (by decide), ⟨a, cp, L, hrf.same fun j t' cs h1 h2 => ht.keep t.sp t.cp h1 (by rcases h2 with rfl | rfl | rfl | rfl <;> decide) (by rcases h2 with rfl | rfl | rfl | rfl <;> decide)⟩,
    t.f.gp, t.f.gb, t.f.gh, t.f.low.trans (ht.below t.g1 t.g2 t.f.gs), Nat.le_trans t.f.gs ht.size⟩, hc, hs, t.ne, t.l1, t.l2, t.l3, t.g1, t.g2⟩
theorem Tw.turn3 (t : Tw w0 G p b e n h g p2 b2 e2 c A c' A' c2 A2 w) (s : KS w G g h A3 c3 w') : Tw w0 G p b e n h g p2 b2 e2 c A c3 A3 c2 A2 w' := by
  have hc0 : Blk w p2 89 (ccs c2) := t.cp
  exact ⟨t.f.ft s, s.turn.keep hc0 (by decide) (by decide) (by decide), s.turn.space t.sp, t.ne, t.l1, t.l2, t.l3, t.g1, t.g2⟩
theorem Tw.aside (t : Tw w0 G p b e n h g p2 b2 e2 c A c' A' c2 A2 w) {k i : Nat} {cs : List Value} (hb : Blk w k 39 cs) (hk : G ≤ k) (v : Value) : Tw w0 G p b e n h g p2 b2 e2 c A c' A' c2 A2 (w.setCell ⟨k, i, none⟩ v) := by
  have hg := grown_set w k i v
  have hkeep : ∀ j t ds, Blk w j t ds → t ≠ 39 → Blk (w.setCell ⟨k, i, none⟩ v) j t ds := fun j t ds h1 h2 => h1.far (p := ⟨k, i, none⟩) (h1.ne hb h2) _
  obtain ⟨a, cp, L, hrf⟩ := t.f.rf
  exact ⟨⟨hkeep _ _ _ t.f.cpu (by decide), t.f.sp.aside hg hb (by decide) (by decide), hkeep _ _ _ t.f.k (by decide), ⟨a, cp, L, hrf.same fun j t' ds h1 h2 => hkeep j t' ds h1 (by rcases h2 with rfl | rfl | rfl | rfl <;> decide)⟩,
    t.f.gp, t.f.gb, t.f.gh, t.f.low.grown hg t.f.gs (fun j hj => by cases hj; exact hk), Nat.le_trans t.f.gs hg.size⟩, hkeep _ _ _ t.cp (by decide), t.sp.aside hg hb (by decide) (by decide), t.ne, t.l1, t.l2, t.l3, t.g1, t.g2⟩
theorem Tw.stop3 (t : Tw w0 G p b e n h g p2 b2 e2 c A c' A' c2 A2 w) {k : Nat} {z0 z1 z2 : Value} (hb : Blk w k 39 [z0, z1, z2]) (hk : G ≤ k) (y0 y1 y2 : Value) :
    Tw w0 G p b e n h g p2 b2 e2 c A c' A' c2 A2 (((w.setCell ⟨k, 0, none⟩ y0).setCell ⟨k, 1, none⟩ y1).setCell ⟨k, 2, none⟩ y2) ∧ Blk (((w.setCell ⟨k, 0, none⟩ y0).setCell ⟨k, 1, none⟩ y1).setCell ⟨k, 2, none⟩ y2) k 39 [y0, y1, y2] := by
  have b0 := hb.set_ 0 y0
  have b1 := b0.set_ 1 y1
  have b2 := b1.set_ 2 y2
  exact ⟨((t.aside hb hk y0).aside b0 hk y1).aside b1 hk y2, b2⟩
/-- The first, so many steps. -/
theorem Tw.run1 (hR : RunOK) (t : Tw w0 G p b e n h g p2 b2 e2 c A c' A' c2 A2 w) (hc : c.Ok) (hG : G = w0.heap.size) (ht : I.Tabled w0) (m : Nat) (hm : m ≤ 1000000) :
    Calls Tryz.prog 15 #[.pointer (some ⟨p, 0, none⟩), .pointer (some ⟨b + 1, 0, none⟩), .int .i64 (m : Int)] w fun r w' => r = .returned (.tuple #[stopV (runO m c A).1, .int .i64 ((runO m c A).2 : Int)]) ∧ Tw w0 G p b e n h g p2 b2 e2 (runO m c A).1.c (runO m c A).1.A c' A' c2 A2 w' ∧
      ∀ k cs, Blk w k 39 cs → Blk w' k 39 cs := by
  refine (t.f.run hR hc hG ht m hm).mono ?_
  rintro r w' ⟨h1, h2, h3⟩
  exact ⟨h1, t.turn1 h3 h2, fun k cs hb => h3.keep t.f.sp t.f.cpu hb (by decide) (by decide)⟩
theorem Tw.step1 (hS : StepOK) (t : Tw w0 G p b e n h g p2 b2 e2 c A c' A' c2 A2 w) (hc : c.Ok) (hG : G = w0.heap.size) (ht : I.Tabled w0) :
    Calls Tryz.prog 9 #[.pointer (some ⟨p, 0, none⟩), .pointer (some ⟨b + 1, 0, none⟩)] w fun r w' => r = .returned (stopV (stepO c A)) ∧ Tw w0 G p b e n h g p2 b2 e2 (stepO c A).c (stepO c A).A c' A' c2 A2 w' := by
  refine (hS w p b e n c A hc (t.f.tabled hG ht) t.f.cpu t.f.sp).mono ?_
  rintro r w' ⟨h1, h2, h3, h4⟩
  exact ⟨h1, t.turn1 h4 (t.f.dt h4 h2 h3)⟩
/-- The copy. -/
theorem Tw.run2 (hR : RunOK) (t : Tw w0 G p b e n h g p2 b2 e2 c A c' A' c2 A2 w) (hc : c2.Ok) (hG : G = w0.heap.size) (ht : I.Tabled w0) (m : Nat) (hm : m ≤ 1000000) :
    Calls Tryz.prog 15 #[.pointer (some ⟨p2, 0, none⟩), .pointer (some ⟨b2 + 1, 0, none⟩), .int .i64 (m : Int)] w fun r w' => r = .returned (.tuple #[stopV (runO m c2 A2).1, .int .i64 ((runO m c2 A2).2 : Int)]) ∧ Tw w0 G p b e n h g p2 b2 e2 c A c' A' (runO m c2 A2).1.c (runO m c2 A2).1.A w' ∧
      ∀ k cs, Blk w k 39 cs → Blk w' k 39 cs := by
  refine (hR w p2 b2 e2 n c2 A2 m hm hc (t.f.tabled hG ht) (by have := ht.1; have := t.g2; omega) (by have := ht.1; have := t.g1; omega) t.cp t.sp).mono ?_
  rintro r w' ⟨h1, h2, h3, h4⟩
  exact ⟨h1, t.turn2 h4 h2 h3, fun k cs hb => h4.keep t.sp t.cp hb (by decide) (by decide)⟩
/-- The document's. -/
theorem Tw.run3 (t : Tw w0 G p b e n h g p2 b2 e2 c A c' A' c2 A2 w) (hc : c'.Ok) (m : Nat) (hm : m ≤ 1000000) :
    Calls Tryz.prog 16 #[.pointer (some ⟨h, 0, none⟩), .pointer (some ⟨g, 0, none⟩), .int .i64 (m : Int)] w fun r w' => r = .returned (.tuple #[stopV (runO m c' A').1, .int .i64 ((runO m c' A').2 : Int)]) ∧ Tw w0 G p b e n h g p2 b2 e2 c A (runO m c' A').1.c (runO m c' A').1.A c2 A2 w' ∧
      ∀ k cs, Blk w k 39 cs → Blk w' k 39 cs := by
  have := krun_any hc (m : Int) (by omega) w t.f.ks
  rw [Int.toNat_natCast] at this
  refine this.mono ?_
  rintro r w' ⟨h1, h2⟩
  exact ⟨h1, t.turn3 h2, fun k cs hb => h2.turn.keep hb (by decide) (by decide) (by decide)⟩
/-- Both are copied. -/
theorem Fr.copies (hC : CopyOK) (f : Fr w0 G p b e n h g c A c' A' w) :
    Calls Tryz.prog 13 #[.pointer (some ⟨p, 0, none⟩)] w fun r w' => ∃ p2, r = .returned (.pointer (some ⟨p2, 0, none⟩)) ∧ Fr w0 G p b e n h g c A c' A' w' ∧ CAt w' p2 c ∧ p < p2 ∧ e ≤ p2 ∧ G ≤ p2 := by
  refine (hC w p c f.cpu).mono ?_
  rintro r w' ⟨⟨p2, h1, h2, h3⟩, h4⟩
  have hp : p < w.heap.size := Blk.lt f.cpu
  have he := f.sp.hi
  have hg := f.gs
  exact ⟨p2, h2, f.below h4, h3, by omega, by omega, by omega⟩
theorem Fr.copies2 (f : Fr w0 G p b e n h g c A c' A' w) (hn : n < 1099511627776) {p2 : Nat} (hc : CAt w p2 c) (h1 : p < p2) (h2 : e ≤ p2) (h3 : G ≤ p2) :
    Calls Tryz.prog 14 #[.pointer (some ⟨b + 1, 0, none⟩)] w fun r w' => ∃ b2 e2, r = .returned (.pointer (some ⟨b2 + 1, 0, none⟩)) ∧ Tw w0 G p b e n h g p2 b2 e2 c A c' A' c A w' := by
  refine (copy_any b e n hn A w f.sp).mono ?_
  rintro r w' ⟨q1, ⟨e2, q2⟩, q3⟩
  have hp : p < w.heap.size := Blk.lt f.cpu
  have he := f.sp.hi
  exact ⟨w.heap.size, e2, q1, f.below q3, hc.below q3, q2, by omega, h2, hp, he, h3, f.gs⟩
end
end Go.Proofs.YtgdbhmlmioihpaaGreatDoor
