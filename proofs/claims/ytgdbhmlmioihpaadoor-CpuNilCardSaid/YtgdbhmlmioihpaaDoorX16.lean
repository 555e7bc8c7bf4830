/- The document's cpu in memory; what stays when it, or the document's space, turns. -/
import Derived.Test.YtgdbhmlmioihpaaDoorX13
import Derived.Test.YtgdbhmlmioihpaaDoorX15
set_option linter.unusedVariables false
namespace Go.Proofs.YtgdbhmlmioihpaaDoor
open Go Go.RowKit Go.Maps

def rcs (c : Cp) : List Value := ((List.range 16).map fun j => Value.int .u32 (c.r j)) ++ [.int .u32 c.pc]
theorem rcs_length (c : Cp) : (rcs c).length = 17 := by simp [rcs]
theorem rcs_reg (c : Cp) (j : Nat) (h : j < 16) : (rcs c)[j]? = some (.int .u32 (c.r j)) := by
  unfold rcs
  rw [List.getElem?_append_left (by simpa using h)]
  simp [h]
theorem rcs_pc (c : Cp) : (rcs c)[16]? = some (.int .u32 c.pc) := by
  unfold rcs
  rw [List.getElem?_append_right (by simp)]
  simp
theorem rcs_setR (c : Cp) (d : Nat) (v : Int) (hd : d < 16) (h0 : d ≠ 0) : (rcs c).set d (.int .u32 v) = rcs (setR c d v) := by
  apply List.ext_getElem?
  intro j
  rw [List.getElem?_set]
  by_cases hj : j < 16
  · rw [rcs_reg _ j hj, rcs_reg _ j hj, rcs_length]
    by_cases he : d = j
    · subst he
      rw [if_pos rfl, if_pos (by omega)]
      simp [setR, h0]
    · rw [if_neg he]
      simp [setR, h0, Ne.symm he]
  · rw [if_neg (by omega)]
    by_cases h2 : j = 16
    · subst h2; rw [rcs_pc, rcs_pc]; rfl
    · rw [List.getElem?_eq_none (by rw [rcs_length]; omega), List.getElem?_eq_none (by rw [rcs_length]; omega)]
theorem rcs_setPc (c : Cp) (p : Int) : (rcs c).set 16 (.int .u32 p) = rcs (setPc c p) := by
  apply List.ext_getElem?
  intro j
  rw [List.getElem?_set]
  by_cases hj : j < 16
  · rw [if_neg (by omega), rcs_reg _ j hj, rcs_reg _ j hj]; rfl
  · by_cases h2 : j = 16
    · subst h2; rw [if_pos rfl, rcs_length, if_pos (by omega), rcs_pc]; rfl
    · rw [if_neg (by omega), List.getElem?_eq_none (by rw [rcs_length]; omega), List.getElem?_eq_none (by rw [rcs_length]; omega)]

/-- The document's cpu. -/
def KAt (w : World) (h : Nat) (c : Cp) : Prop := Blk w h 76 (rcs c)
/-- Only the document's cpus and spaces, and bytes of pages, from B on, have turned. -/
structure FT (B : Nat) (w w' : World) : Prop where
  os : w'.os = w.os
  tape : w'.tape = w.tape
  output : w'.output = w.output
  size : w.heap.size ≤ w'.heap.size
  block : ∀ j, j < w.heap.size → (∀ t cs fr, w.heap[j]? = some (.cells cs t fr) → (t = 76 ∨ t = 79 ∨ t = 5) → j < B) → w'.heap[j]? = w.heap[j]?
section
variable {w w' w2 : World} {B g h b e n : Nat} {A : As} {c : Cp}
theorem FT.refl (w : World) (B : Nat) : FT B w w := ⟨rfl, rfl, rfl, Nat.le_refl _, fun _ _ _ => rfl⟩
theorem FT.ofBelow (h : Below w.heap.size w w') (B : Nat) : FT B w w' := ⟨h.os, h.tape, h.output, h.size, fun j hj _ => h.block j hj⟩
theorem FT.ofR (h : RTurn B w w') : FT B w w' := ⟨h.os, h.tape, h.output, h.size, fun j hj hc => h.block j hj (fun t cs fr h1 h2 => hc t cs fr h1 (.inr h2))⟩
theorem FT.trans (h : FT B w w') (h2 : FT B w' w2) : FT B w w2 :=
  ⟨h2.os.trans h.os, h2.tape.trans h.tape, h2.output.trans h.output, Nat.le_trans h.size h2.size, fun j hj hc => by
    have h1 := h.block j hj hc
    rw [h2.block j (Nat.lt_of_lt_of_le hj h.size) (fun t cs fr h3 h4 => hc t cs fr (by rw [← h1]; exact h3) h4), h1]⟩
theorem FT.below (h : FT B w w') (hB : B ≤ w.heap.size) : Below B w w' := ⟨h.os, h.tape, h.output, h.size, fun j hj => h.block j (by omega) (fun _ _ _ _ _ => hj)⟩
theorem FT.keep (h : FT B w w') {j : Nat} {t : TypeId} {cs : List Value} (hb : Blk w j t cs) (h1 : t ≠ 79) (h2 : t ≠ 5) (h0 : t ≠ 76) : Blk w' j t cs := by
  refine hb.same (h.block j hb.lt ?_)
  intro t' cs' fr h3 h4
  unfold Blk at hb
  rw [hb] at h3
  injection h3 with h3
  injection h3 with _ h5 _
  subst h5
  rcases h4 with h4 | h4 | h4
  · exact absurd h4 h0
  · exact absurd h4 h1
  · exact absurd h4 h2
theorem FT.space (h : FT B w w') (hs : SpaceAt w b e n A) : SpaceAt w' b e n A := by
  have hm := hs.isMap
  obtain ⟨pg, hs⟩ := hs
  refine ⟨pg, h.keep hs.head (by decide) (by decide) (by decide), hs.lo, Nat.le_trans hs.hi h.size, hs.map.same (h.block b hs.map.lt ?_), hs.none, fun i p hp => ?_, hs.inj⟩
  · intro t cs fr h1 _
    obtain ⟨es, k, h2⟩ := hm
    rw [h2] at h1
    cases h1
  · obtain ⟨q1, q2, q3, f, q4, q5⟩ := hs.page i p hp
    exact ⟨q1, q2, q3, f, q4, h.keep q5 (by decide) (by decide) (by decide)⟩
theorem FT.setCell {i : Nat} (hk : KAt w h c) (hB : B ≤ h) (v : Value) : FT B w (w.setCell ⟨h, i, none⟩ v) :=
  ⟨rfl, rfl, rfl, by simp, fun j hj hc => Below.heap_setCell w ⟨h, i, none⟩ v j (by
    intro he
    have he' : j = h := he
    have hk' : w.heap[h]? = some (.cells (rcs c).toArray 76 (0, 0)) := hk
    rw [← he'] at hk'
    have := hc _ _ _ hk' (.inl rfl)
    omega)⟩
theorem KAt.reg (hk : KAt w h c) (j : Nat) (hj : j < 16) : w.cell? ⟨h, j, none⟩ = some (.int .u32 (c.r j)) := by
  have hk : Blk w h 76 (rcs c) := hk
  rw [hk.cell, rcs_reg c j hj]
theorem KAt.pcc (hk : KAt w h c) : w.cell? ⟨h, 16, none⟩ = some (.int .u32 c.pc) := by
  have hk : Blk w h 76 (rcs c) := hk
  rw [hk.cell, rcs_pc]
theorem KAt.below (hk : KAt w h c) (hb : Below w.heap.size w w') : KAt w' h c := by
  have hk : Blk w h 76 (rcs c) := hk
  exact hk.below hb hk.lt
theorem KAt.turn (hk : KAt w h c) (ht : Turn w w' b e) (hs : SpaceAt w b e n A) : KAt w' h c := by
  have hk : Blk w h 76 (rcs c) := hk
  exact ht.keep hs hk (by decide)
theorem KAt.rturn (hk : KAt w h c) (ht : RTurn B w w') : KAt w' h c := by
  have hk : Blk w h 76 (rcs c) := hk
  exact ht.keep hk (by decide) (by decide)
theorem KAt.setR (hk : KAt w h c) (d : Nat) (v : Int) (hd : d < 16) (h0 : d ≠ 0) : KAt (w.setCell ⟨h, d, none⟩ (.int .u32 v)) h (setR c d v) := by
  have hk : Blk w h 76 (rcs c) := hk
  have := hk.set_ d (.int .u32 v)
  rw [rcs_setR c d v hd h0] at this
  exact this
theorem KAt.setPc (hk : KAt w h c) (p : Int) : KAt (w.setCell ⟨h, 16, none⟩ (.int .u32 p)) h (setPc c p) := by
  have hk : Blk w h 76 (rcs c) := hk
  have := hk.set_ 16 (.int .u32 p)
  rw [rcs_setPc c p] at this
  exact this
theorem RefAt.kset (hr : RefAt w B g A) (hk : KAt w h c) (i : Nat) (v : Value) : RefAt (w.setCell ⟨h, i, none⟩ v) B g A := by
  have hk : Blk w h 76 (rcs c) := hk
  obtain ⟨a, cp, L, hr⟩ := hr
  refine ⟨a, cp, L, hr.same fun j t cs h1 h2 => h1.far (p := ⟨h, i, none⟩) (h1.ne hk ?_) _⟩
  rcases h2 with rfl | rfl | rfl | rfl <;> decide

/-- The document's cpu and its space, and what has turned since. -/
structure KS (w0 : World) (B g h : Nat) (A : As) (c : Cp) (w : World) : Prop where
  rf : RefAt w B g A
  k : KAt w h c
  bh : B ≤ h
  turn : FT B w0 w
variable {w0 : World}
theorem KS.start (hr : RefAt w B g A) (hk : KAt w h c) (hB : B ≤ h) : KS w B g h A c w := ⟨hr, hk, hB, FT.refl _ _⟩
theorem KS.below (s : KS w0 B g h A c w) (hb : Below w.heap.size w w') : KS w0 B g h A c w' := ⟨s.rf.below hb, s.k.below hb, s.bh, s.turn.trans (FT.ofBelow hb B)⟩
theorem KS.alloc (s : KS w0 B g h A c w) (o : Obj) : KS w0 B g h A c (w.alloc o) := s.below ((Below.refl _ _).alloc (Nat.le_refl _) _)
theorem KS.drew (s : KS w0 B g h A c w) : KS w0 B g h A c w.drew := s.below (Below.refl _ _).drew
theorem KS.setR (s : KS w0 B g h A c w) (d : Nat) (v : Int) (hd : d < 16) (h0 : d ≠ 0) : KS w0 B g h A (setR c d v) (w.setCell ⟨h, d, none⟩ (.int .u32 v)) :=
  ⟨s.rf.kset s.k d _, s.k.setR d v hd h0, s.bh, s.turn.trans (FT.setCell s.k s.bh _)⟩
theorem KS.setPc (s : KS w0 B g h A c w) (p : Int) : KS w0 B g h A (setPc c p) (w.setCell ⟨h, 16, none⟩ (.int .u32 p)) :=
  ⟨s.rf.kset s.k 16 _, s.k.setPc p, s.bh, s.turn.trans (FT.setCell s.k s.bh _)⟩
theorem KS.rturn {A2 : As} (s : KS w0 B g h A c w) (hr : RefAt w' B g A2) (ht : RTurn B w w') : KS w0 B g h A2 c w' := ⟨hr, s.k.rturn ht, s.bh, s.turn.trans (FT.ofR ht)⟩
end
theorem Blk.three {w : World} {k4 : Nat} {z0 z1 z2 : Value} (hr : Blk w k4 30 [z0, z1, z2]) : (w.cell? ⟨k4, 0, none⟩ = some z0 ∧ w.cell? ⟨k4, 1, none⟩ = some z1 ∧ w.cell? ⟨k4, 2, none⟩ = some z2) ∧ w.frozen? ⟨k4, 0, none⟩ = false ∧ w.frozen? ⟨k4, 1, none⟩ = false ∧ w.frozen? ⟨k4, 2, none⟩ = false :=
  ⟨⟨by rw [hr.cell]; rfl, by rw [hr.cell]; rfl, by rw [hr.cell]; rfl⟩, hr.frozen 0, hr.frozen 1, hr.frozen 2⟩
end Go.Proofs.YtgdbhmlmioihpaaDoor
