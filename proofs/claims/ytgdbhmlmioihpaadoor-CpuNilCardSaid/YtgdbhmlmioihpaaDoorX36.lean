/- An instruction that is being done: its block; what else stays when it turns. -/
import Derived.Test.YtgdbhmlmioihpaaDoorX33
set_option linter.unusedVariables false
namespace Go.Proofs.YtgdbhmlmioihpaaDoor
open Go Go.RowKit Go.Maps

/-- The cells of an instruction that is being done: by a cpu, in a space. -/
def dcs (c : Cp) (x : Xn) (b : Nat) : List Value := rcs c ++ (xcs x ++ [.pointer (some ⟨b + 1, 0, none⟩)])
theorem dcs_reg (c : Cp) (x : Xn) (b j : Nat) (h : j < 16) : (dcs c x b)[j]? = some (.int .u32 (c.r j)) := by
  unfold dcs
  rw [List.getElem?_append_left (by rw [rcs_length]; omega), rcs_reg c j h]
theorem dcs_pc (c : Cp) (x : Xn) (b : Nat) : (dcs c x b)[16]? = some (.int .u32 c.pc) := by
  unfold dcs
  rw [List.getElem?_append_left (by rw [rcs_length]; omega), rcs_pc c]
theorem dcs_set (c : Cp) (x : Xn) (b j : Nat) (h : j < 17) (v : Value) : (dcs c x b).set j v = (rcs c).set j v ++ (xcs x ++ [.pointer (some ⟨b + 1, 0, none⟩)]) := by
  unfold dcs
  rw [List.set_append_left _ _ (by rw [rcs_length]; omega)]
theorem dcs_pset (c : Cp) (x : Xn) (b n : Nat) (hn : n < 16) (v : Int) : (if n = 0 then dcs c x b else (dcs c x b).set n (.int .u32 v)) = dcs (setR c n v) x b := by
  by_cases h0 : n = 0
  · subst h0; rw [if_pos rfl, setR_zero]
  · rw [if_neg h0, dcs_set c x b n (by omega), rcs_setR c n v hn h0]; rfl
theorem dcs_setPc (c : Cp) (x : Xn) (b : Nat) (v : Int) : (dcs c x b).set 16 (.int .u32 v) = dcs (setPc c v) x b := by
  rw [dcs_set c x b 16 (by omega), rcs_setPc c v]; rfl

structure Do (q b e n : Nat) (c : Cp) (x : Xn) (A : As) (w : World) : Prop where
  blk : Blk w q 70 (dcs c x b)
  sp : SpaceAt w b e n A
/-- .. with the stop that a function will hand back. -/
structure Dr (w0 : World) (q b e n k4 : Nat) (c : Cp) (x : Xn) (A : As) (w : World) : Prop where
  s : Do q b e n c x A w
  r : Blk w k4 30 [.int .u8 0, .int .u32 0, .int .i64 0]
  lo : w0.heap.size ≤ k4
  dt : DT w0 w b e q
section
variable {w0 w w' w2 : World} {q b e n k4 : Nat} {c c2 : Cp} {x : Xn} {A A2 : As}
theorem mine_same {j : Nat} (hj : w'.heap[j]? = w.heap[j]?) (h : Mine w' b e j) : Mine w b e j := by
  rcases h with rfl | ⟨h1, h2, cs, fr, h3⟩
  · exact .inl rfl
  · exact .inr ⟨h1, h2, cs, fr, hj ▸ h3⟩
theorem DT.trans (h : DT w w' b e q) (h2 : DT w' w2 b e q) : DT w w2 b e q :=
  ⟨h2.os.trans h.os, h2.tape.trans h.tape, h2.output.trans h.output, Nat.le_trans h.size h2.size, fun j hj h3 h4 => by
    have h5 := h.block j hj h3 h4
    exact (h2.block j (Nat.lt_of_lt_of_le hj h.size) h3 (fun hm => h4 (mine_same h5 hm))).trans h5⟩
/-- What is done by a block that is new is nothing to what was there. -/
theorem DT.inner {p : Nat} (h : DT w w' b e p) (h2 : DT w' w2 b e q) (hq : w.heap.size ≤ q) : DT w w2 b e p :=
  ⟨h2.os.trans h.os, h2.tape.trans h.tape, h2.output.trans h.output, Nat.le_trans h.size h2.size, fun j hj h3 h4 => by
    have h5 := h.block j hj h3 h4
    exact (h2.block j (Nat.lt_of_lt_of_le hj h.size) (by omega) (fun hm => h4 (mine_same h5 hm))).trans h5⟩
theorem DT.grown (hg : w.grownBy w' (some q)) (b e : Nat) : DT w w' b e q := ⟨hg.os, hg.tape, hg.output, hg.size, fun j hj h1 _ => hg.block j hj (by intro h; cases h; exact h1 rfl)⟩
theorem DT.turn (ht : Turn w w' b e) (q : Nat) : DT w w' b e q := ⟨ht.os, ht.tape, ht.output, ht.size, fun j hj _ h => ht.block j hj h⟩
/-- What is of another kind stays. -/
theorem DT.hold {j : Nat} {t u : TypeId} {cs ds : List Value} (h : DT w w' b e q) (hs : SpaceAt w b e n A) (hd : Blk w q u ds) (hb : Blk w j t cs) (h1 : t ≠ 96) (h2 : t ≠ u) : Blk w' j t cs := by
  refine hb.same (h.block j hb.lt (hb.ne hd h2) ?_)
  rintro (rfl | ⟨_, _, cs', fr, h3⟩)
  · obtain ⟨es, k, h4⟩ := hs.isMap
    unfold Blk at hb
    rw [h4] at hb
    cases hb
  · unfold Blk at hb
    rw [h3] at hb
    injection hb with hb
    injection hb with _ hb
    exact h1 hb.symm

theorem Do.below (s : Do q b e n c x A w) (hb : Below w.heap.size w w') : Do q b e n c x A w' := ⟨s.blk.below hb s.blk.lt, s.sp.below hb s.sp.hi⟩
theorem Do.grown (s : Do q b e n c x A w) (hg : w.grownBy w' (some q)) (hb : Blk w' q 70 (dcs c2 x b)) : Do q b e n c2 x A w' := ⟨hb, s.sp.aside hg s.blk (by decide) (by decide)⟩
theorem Do.turn (s : Do q b e n c x A w) (ht : Turn w w' b e) (hs : SpaceAt w' b e n A2) : Do q b e n c x A2 w' := ⟨ht.keep s.sp s.blk (by decide), hs⟩
theorem Do.reg (s : Do q b e n c x A w) (j : Nat) (hj : j < 16) : w.cell? ⟨q, j, none⟩ = some (.int .u32 (c.r j)) := by rw [s.blk.cell, dcs_reg c x b j hj]
theorem Do.pcc (s : Do q b e n c x A w) : w.cell? ⟨q, 16, none⟩ = some (.int .u32 c.pc) := by rw [s.blk.cell, dcs_pc]
theorem Do.six (s : Do q b e n c x A w) : w.cell? ⟨q, 17, none⟩ = some (.int .u8 x.op) ∧ w.cell? ⟨q, 18, none⟩ = some (.int .u8 (x.d : Int)) ∧ w.cell? ⟨q, 19, none⟩ = some (.int .u8 (x.a : Int)) ∧ w.cell? ⟨q, 20, none⟩ = some (.int .u8 (x.b : Int)) ∧ w.cell? ⟨q, 21, none⟩ = some (.int .u32 x.im) ∧
    w.cell? ⟨q, 22, none⟩ = some (.pointer (some ⟨b + 1, 0, none⟩)) := by
  refine ⟨?_, ?_, ?_, ?_, ?_, ?_⟩ <;> (rw [s.blk.cell]; rfl)
theorem Do.setPc (s : Do q b e n c x A w) (v : Int) : Do q b e n (setPc c v) x A (w.setCell ⟨q, 16, none⟩ (.int .u32 v)) ∧ w.grownBy (w.setCell ⟨q, 16, none⟩ (.int .u32 v)) (some q) := by
  have hb := s.blk.set_ 16 (.int .u32 v)
  rw [dcs_setPc] at hb
  exact ⟨s.grown (grown_set w q 16 _) hb, grown_set w q 16 _⟩

theorem Dr.start (s : Do q b e n c x A w) : Dr w q b e n w.heap.size c x A (w.alloc (.cells #[.int .u8 0, .int .u32 0, .int .i64 0] 30)) :=
  have hb : Below w.heap.size w (w.alloc (.cells #[.int .u8 0, .int .u32 0, .int .i64 0] 30)) := (Below.refl _ _).alloc (Nat.le_refl _) _
  ⟨s.below hb, Blk.new w 30 [.int .u8 0, .int .u32 0, .int .i64 0], Nat.le_refl _, DT.ofBelow hb b e q⟩
theorem Dr.call (t : Dr w0 q b e n k4 c x A w) (s : Do q b e n c2 x A2 w') (h : DT w w' b e q) : Dr w0 q b e n k4 c2 x A2 w' :=
  ⟨s, h.hold t.s.sp t.s.blk t.r (by decide) (by decide), t.lo, t.dt.trans h⟩
theorem Dr.below (t : Dr w0 q b e n k4 c x A w) (hb : Below w.heap.size w w') : Dr w0 q b e n k4 c x A w' := t.call (t.s.below hb) (DT.ofBelow hb b e q)
theorem Dr.setPc (t : Dr w0 q b e n k4 c x A w) (v : Int) : Dr w0 q b e n k4 (setPc c v) x A (w.setCell ⟨q, 16, none⟩ (.int .u32 v)) := t.call (t.s.setPc v).1 (DT.grown (t.s.setPc v).2 b e)
theorem Do.far (s : Do q b e n c x A w) {cs : List Value} (hr : Blk w k4 30 cs) (i : Nat) (v : Value) : Do q b e n c x A (w.setCell ⟨k4, i, none⟩ v) :=
  ⟨s.blk.far (p := ⟨k4, i, none⟩) (s.blk.ne hr (by decide)) _, s.sp.aside (grown_set w k4 i v) hr (by decide) (by decide)⟩
theorem DT.far (h : DT w0 w b e q) (hlo : w0.heap.size ≤ k4) (i : Nat) (v : Value) : DT w0 (w.setCell ⟨k4, i, none⟩ v) b e q :=
  ⟨h.os, h.tape, h.output, by simpa using h.size, fun j hj h1 h2 => by rw [Below.heap_setCell w ⟨k4, i, none⟩ v j (show j ≠ k4 by omega)]; exact h.block j hj h1 h2⟩
/-- What a function leaves that hands back a stop. -/
structure De (w0 : World) (q b e n k4 : Nat) (c : Cp) (x : Xn) (A : As) (y0 y1 y2 : Value) (w : World) : Prop where
  r : Blk w k4 30 [y0, y1, y2]
  s : Do q b e n c x A w
  dt : DT w0 w b e q
theorem Dr.stop3 (t : Dr w0 q b e n k4 c x A w) (y0 y1 y2 : Value) : De w0 q b e n k4 c x A y0 y1 y2 (((w.setCell ⟨k4, 0, none⟩ y0).setCell ⟨k4, 1, none⟩ y1).setCell ⟨k4, 2, none⟩ y2) := by
  have b0 := t.r.set_ 0 y0
  have b1 := b0.set_ 1 y1
  have b2 := b1.set_ 2 y2
  exact ⟨b2, ((t.s.far t.r 0 y0).far b0 1 y1).far b1 2 y2, ((t.dt.far t.lo 0 y0).far t.lo 1 y1).far t.lo 2 y2⟩
end
end Go.Proofs.YtgdbhmlmioihpaaDoor
