/- Bytes as instructions: package insn's Decode, and the document's own. -/
import Derived.Test.YtlnnhgmkibjgmaaDoorX16
import Derived.RegionTactic
import Derived.BigRegion
set_option linter.unusedVariables false
set_option linter.unusedSimpArgs false
namespace Go.Proofs.YtlnnhgmkibjgmaaDoor.I
open Go.RowKit

def bt (s : ByteArray) : List UInt8 := s.data.toList
def zeroI : Value := .agg #[.int .u8 0, .int .u8 0, .int .u8 0, .int .u8 0, .int .u32 0]
/-- What is decoded of a text: an instruction, or the nought with ErrForm. -/
def decV (s : ByteArray) : Value := .agg #[.int .u8 (Ix.pick (bt s) (Ix.dOp (bt s))), .int .u8 (Ix.pick (bt s) (Ix.dD (bt s))), .int .u8 (Ix.pick (bt s) (Ix.dA (bt s))), .int .u8 (Ix.pick (bt s) (Ix.dB (bt s))), .int .u32 (Ix.pick (bt s) (Ix.dI (bt s)))]
def decE (s : ByteArray) : Int := Ix.decE (bt s)

set_option maxHeartbeats 1000000 in
set_option maxRecDepth 100000 in
theorem decode_short (s : ByteArray) (h : ((s.size : Int) != 8) = true) (w : World) :
    Calls Tryd.prog 31 #[.string s] w fun e w' => e = .returned (.tuple #[.agg #[.int .u8 0, .int .u8 0, .int .u8 0, .int .u8 0, .int .u32 0], .int .i64 7]) ∧ Below w.heap.size w w' := by
  go_enter Tryd.func31, Tryd.ntmps31
  go_wp2
  refine bodyPost_ret (v := .tuple #[.agg #[.int .u8 0, .int .u8 0, .int .u8 0, .int .u8 0, .int .u32 0], .int .i64 7]) (by simp [results, Tryd.results31, go_sem]) rfl ⟨rfl, (Below.refl _ _).alloc (Nat.le_refl _) _⟩

theorem run_index (s : ByteArray) (i : Int) (k : Nat) (hi : (k : Int) = i) (h : k < s.size) (x : Int) (hx : Ix.byteAt (bt s) k = x) (W : World) : (Instr.index 9 (.string s) (.int .i64 i)).run Tryd.prog W = .ok (.int .u8 x) W := by
  have e : Ix.byteAt (bt s) k = (s[k].toNat : Int) := by
    unfold Ix.byteAt bt
    rw [List.getD_eq_getElem?_getD, List.getElem?_eq_getElem (by simpa using h)]
    rfl
  have hk : (k : Int) < (s.size : Int) := by omega
  rw [← hx, e, ← hi]
  simp [go_sem, hk]

def drop4 (s : ByteArray) : ByteArray := s.extract 4 s.size
theorem drop4_bt (s : ByteArray) : bt (drop4 s) = (bt s).drop 4 := by
  unfold bt drop4
  simp [ByteArray.data_extract, Array.toList_extract]
  exact List.take_of_length_le (by simp)
theorem drop4_size (s : ByteArray) (h : s.size = 8) : (drop4 s).size = 4 := by
  unfold drop4; simp [h]

set_option maxHeartbeats 2000000 in
set_option maxRecDepth 100000 in
theorem decode_three (s : ByteArray) (h : s.size = 8) (h3 : Ix.byteAt (bt s) 3 ≠ 0) (w : World) :
    Calls Tryd.prog 31 #[.string s] w fun e w' => e = .returned (.tuple #[.agg #[.int .u8 0, .int .u8 0, .int .u8 0, .int .u8 0, .int .u32 0], .int .i64 7]) ∧ Below w.heap.size w w' := by
  have t1 : ((s.size : Int) != 8) = false := by rw [h]; rfl
  have x3 := run_index s 3 3 rfl (by omega) _ rfl
  have t3 : (Ix.byteAt (bt s) 3 != 0) = true := by rw [bne_iff_ne]; exact h3
  generalize Ix.byteAt (bt s) 3 = b3 at *
  clear h h3
  go_enter Tryd.func31, Tryd.ntmps31
  go_wp2
  refine bodyPost_ret (v := .tuple #[.agg #[.int .u8 0, .int .u8 0, .int .u8 0, .int .u8 0, .int .u32 0], .int .i64 7]) (by simp [results, Tryd.results31, go_sem]) rfl ⟨rfl, (Below.refl _ _).alloc (Nat.le_refl _) _⟩

/-- Block g is just the cells cs of element type t, none frozen. -/
def Blk (w : World) (g : Nat) (t : TypeId) (cs : List Value) : Prop := w.heap[g]? = some (.cells cs.toArray t (0, 0))
theorem Blk.cell {w : World} {g : Nat} {t : TypeId} {cs : List Value} (h : Blk w g t cs) (i : Nat) : w.cell? ⟨g, i, none⟩ = cs[i]? := by rw [cell_of_row w g i _ t (0, 0) h]; simp
theorem Blk.set_ {w : World} {g : Nat} {t : TypeId} {cs : List Value} (h : Blk w g t cs) (i : Nat) (u : Value) : Blk (w.setCell ⟨g, i, none⟩ u) g t (cs.set i u) := by
  unfold Blk at h ⊢
  simp [World.setCell, Array.getElem?_modify, h]
theorem Blk.below {w w' : World} {g B : Nat} {t : TypeId} {cs : List Value} (h : Blk w g t cs) (hb : Below B w w') (hg : g < B) : Blk w' g t cs := (hb.block g hg).trans h

/-- Five stores in a row, and what is read behind each. -/
theorem five {w : World} {g : Nat} {t : TypeId} {c0 c1 c2 c3 c4 : Value} (h : Blk w g t [c0, c1, c2, c3, c4]) (y0 y1 y2 y3 y4 : Value) :
    (w.setCell ⟨g, 0, none⟩ y0).cell? ⟨g, 0, none⟩ = some y0 ∧ ((w.setCell ⟨g, 0, none⟩ y0).setCell ⟨g, 1, none⟩ y1).cell? ⟨g, 1, none⟩ = some y1 ∧ (((w.setCell ⟨g, 0, none⟩ y0).setCell ⟨g, 1, none⟩ y1).setCell ⟨g, 2, none⟩ y2).cell? ⟨g, 2, none⟩ = some y2 ∧
    ((((w.setCell ⟨g, 0, none⟩ y0).setCell ⟨g, 1, none⟩ y1).setCell ⟨g, 2, none⟩ y2).setCell ⟨g, 3, none⟩ y3).cell? ⟨g, 3, none⟩ = some y3 ∧ (((((w.setCell ⟨g, 0, none⟩ y0).setCell ⟨g, 1, none⟩ y1).setCell ⟨g, 2, none⟩ y2).setCell ⟨g, 3, none⟩ y3).setCell ⟨g, 4, none⟩ y4).cell? ⟨g, 4, none⟩ = some y4 := by
  have b0 := h.set_ 0 y0
  have b1 := b0.set_ 1 y1
  have b2 := b1.set_ 2 y2
  have b3 := b2.set_ 3 y3
  have b4 := b3.set_ 4 y4
  exact ⟨b0.cell 0, b1.cell 1, b2.cell 2, b3.cell 3, b4.cell 4⟩

theorem bcell {W w1 : World} (hb : Below W.heap.size W w1) : (∀ b o, b < W.heap.size → w1.cell? ⟨b, o, none⟩ = W.cell? ⟨b, o, none⟩) ∧ (∀ b o, b < W.heap.size → w1.frozen? ⟨b, o, none⟩ = W.frozen? ⟨b, o, none⟩) :=
  ⟨fun b o h => hb.cell (p := ⟨b, o, none⟩) h, fun b o h => hb.frozen (p := ⟨b, o, none⟩) h⟩

set_option maxHeartbeats 2000000 in
set_option maxRecDepth 100000 in
theorem decode_eight (s : ByteArray) (h : s.size = 8) (h3 : Ix.byteAt (bt s) 3 = 0) (x0 x1 x2 im : Int) (e0 : Ix.byteAt (bt s) 0 = x0) (e1 : Ix.byteAt (bt s) 1 = x1) (e2 : Ix.byteAt (bt s) 2 = x2) (b0 : 0 ≤ x1) (b1 : x1 < 256)
    (w : World) (HG : Hid (∀ w, Calls Tryd.prog 49 #[.string (drop4 s)] w fun e w' => e = .returned (.tuple #[.int .u32 im, .int .i64 0]) ∧ w = w'))
    (HC : Hid (∀ w', Below w.heap.size w w' → Calls Tryd.prog 50 #[.agg #[.int .u8 x0, .int .u8 (x1 % 16), .int .u8 (x1 / 16), .int .u8 x2, .int .u32 im]] w' fun e w'' => e = .returned (.int .i64 0) ∧ Below w'.heap.size w' w'')) :
    Calls Tryd.prog 31 #[.string s] w fun e w' => e = .returned (.tuple #[.agg #[.int .u8 x0, .int .u8 (x1 % 16), .int .u8 (x1 / 16), .int .u8 x2, .int .u32 im], .int .i64 0]) ∧ Below w.heap.size w w' := by
  have t1 : ((s.size : Int) != 8) = false := by rw [h]; rfl
  have g4 : (4 : Int) ≤ (s.size : Int) := by omega
  have y0 := run_index s 0 0 rfl (by omega) _ e0
  have y1 := run_index s 1 1 rfl (by omega) _ e1
  have y2 := run_index s 2 2 rfl (by omega) _ e2
  have y3 := run_index s 3 3 rfl (by omega) _ h3
  have hsl : ∀ W, (Instr.slice 9 (.string s) (some (.int .i64 4)) none none).run Tryd.prog W = .ok (.string (drop4 s)) W := by
    intro W
    unfold drop4
    simp [go_sem, g4]
  clear h h3 e0 e1 e2 g4
  go_enter Tryd.func31, Tryd.ntmps31
  go_wp2_with fail
  refine (HG.out _).mono ?_; rintro e w1 ⟨rfl, rfl⟩
  have m1 : x1.tmod 16 = x1 % 16 := Int.tmod_eq_emod_of_nonneg b0
  have m2 : IntKind.u8.wrap (x1 / 16) = x1 / 16 := by rw [IntKind.wrap_u8']; omega
  go_wp2_with fail
  go_region
  have hb : Below w.heap.size w ((w.alloc (.cells #[.int .u8 0, .int .u8 0, .int .u8 0, .int .u8 0, .int .u32 0] 40)).alloc (.cells #[.int .u8 x0, .int .u8 (x1 % 16), .int .u8 (x1 / 16), .int .u8 x2, .int .u32 im] 40)).drew :=
    (((Below.refl _ _).alloc (Nat.le_refl _) _).alloc (by simp) _).drew
  go_wp2_with fail
  refine (HC.out _ hb).mono ?_; rintro e w2 ⟨rfl, q⟩
  have HB := Lib.hid (hb.trans (q.mono hb.size))
  obtain ⟨hc, hf⟩ := bcell q
  have hz : w.heap.size + 2 ≤ w2.heap.size := by have := q.size; simpa using this
  have hblk : Blk w2 w.heap.size 40 [.int .u8 0, .int .u8 0, .int .u8 0, .int .u8 0, .int .u32 0] := by
    refine Blk.below ?_ q (by simp; omega)
    exact (Below.heap_alloc _ _ _ (by simp)).trans (heap_alloc_new w _)
  obtain ⟨z0, z1, z2, z3, z4⟩ := five hblk (.int .u8 x0) (.int .u8 (x1 % 16)) (.int .u8 (x1 / 16)) (.int .u8 x2) (.int .u32 im)
  clear hb q HC HG y0 y1 y2 y3 hsl m1 m2
  go_wp2
  refine bodyPost_ret (v := .tuple #[.agg #[.int .u8 x0, .int .u8 (x1 % 16), .int .u8 (x1 / 16), .int .u8 x2, .int .u32 im], .int .i64 0]) (by simp [results, Tryd.results31, go_sem, z0, z1, z2, z3, z4]) rfl ⟨rfl, ?_⟩
  exact ((((HB.out.setCell (p := ⟨w.heap.size, 0, none⟩) (Nat.le_refl _) _).setCell (p := ⟨w.heap.size, 1, none⟩) (Nat.le_refl _) _).setCell (p := ⟨w.heap.size, 2, none⟩) (Nat.le_refl _) _).setCell (p := ⟨w.heap.size, 3, none⟩) (Nat.le_refl _) _).setCell (p := ⟨w.heap.size, 4, none⟩) (Nat.le_refl _) _

set_option maxHeartbeats 2000000 in
set_option maxRecDepth 100000 in
theorem decode_bad (s : ByteArray) (h : s.size = 8) (h3 : Ix.byteAt (bt s) 3 = 0) (x0 x1 x2 im : Int) (e0 : Ix.byteAt (bt s) 0 = x0) (e1 : Ix.byteAt (bt s) 1 = x1) (e2 : Ix.byteAt (bt s) 2 = x2) (b0 : 0 ≤ x1) (b1 : x1 < 256)
    (w : World) (HG : Hid (∀ w, Calls Tryd.prog 49 #[.string (drop4 s)] w fun e w' => e = .returned (.tuple #[.int .u32 im, .int .i64 0]) ∧ w = w'))
    (HC : Hid (∀ w', Below w.heap.size w w' → Calls Tryd.prog 50 #[.agg #[.int .u8 x0, .int .u8 (x1 % 16), .int .u8 (x1 / 16), .int .u8 x2, .int .u32 im]] w' fun e w'' => e = .returned (.int .i64 2) ∧ Below w'.heap.size w' w'')) :
    Calls Tryd.prog 31 #[.string s] w fun e w' => e = .returned (.tuple #[.agg #[.int .u8 0, .int .u8 0, .int .u8 0, .int .u8 0, .int .u32 0], .int .i64 7]) ∧ Below w.heap.size w w' := by
  have t1 : ((s.size : Int) != 8) = false := by rw [h]; rfl
  have g4 : (4 : Int) ≤ (s.size : Int) := by omega
  have y0 := run_index s 0 0 rfl (by omega) _ e0
  have y1 := run_index s 1 1 rfl (by omega) _ e1
  have y2 := run_index s 2 2 rfl (by omega) _ e2
  have y3 := run_index s 3 3 rfl (by omega) _ h3
  have hsl : ∀ W, (Instr.slice 9 (.string s) (some (.int .i64 4)) none none).run Tryd.prog W = .ok (.string (drop4 s)) W := by
    intro W
    unfold drop4
    simp [go_sem, g4]
  clear h h3 e0 e1 e2 g4
  go_enter Tryd.func31, Tryd.ntmps31
  go_wp2_with fail
  refine (HG.out _).mono ?_; rintro e w1 ⟨rfl, rfl⟩
  have m1 : x1.tmod 16 = x1 % 16 := Int.tmod_eq_emod_of_nonneg b0
  have m2 : IntKind.u8.wrap (x1 / 16) = x1 / 16 := by rw [IntKind.wrap_u8']; omega
  go_wp2_with fail
  go_region
  have hb : Below w.heap.size w ((w.alloc (.cells #[.int .u8 0, .int .u8 0, .int .u8 0, .int .u8 0, .int .u32 0] 40)).alloc (.cells #[.int .u8 x0, .int .u8 (x1 % 16), .int .u8 (x1 / 16), .int .u8 x2, .int .u32 im] 40)).drew :=
    (((Below.refl _ _).alloc (Nat.le_refl _) _).alloc (by simp) _).drew
  go_wp2_with fail
  refine (HC.out _ hb).mono ?_; rintro e w2 ⟨rfl, q⟩
  have HB := Lib.hid (hb.trans (q.mono hb.size))
  obtain ⟨hc, hf⟩ := bcell q
  have hz : w.heap.size + 2 ≤ w2.heap.size := by have := q.size; simpa using this
  have hblk : Blk w2 w.heap.size 40 [.int .u8 0, .int .u8 0, .int .u8 0, .int .u8 0, .int .u32 0] := by
    refine Blk.below ?_ q (by simp; omega)
    exact (Below.heap_alloc _ _ _ (by simp)).trans (heap_alloc_new w _)
  obtain ⟨z0, z1, z2, z3, z4⟩ := five hblk (.int .u8 0) (.int .u8 0) (.int .u8 0) (.int .u8 0) (.int .u32 0)
  clear hb q HC HG y0 y1 y2 y3 hsl m1 m2
  go_wp2
  refine bodyPost_ret (v := .tuple #[.agg #[.int .u8 0, .int .u8 0, .int .u8 0, .int .u8 0, .int .u32 0], .int .i64 7]) (by simp [results, Tryd.results31, go_sem, z0, z1, z2, z3, z4]) rfl ⟨rfl, ?_⟩
  exact ((((HB.out.setCell (p := ⟨w.heap.size, 0, none⟩) (Nat.le_refl _) _).setCell (p := ⟨w.heap.size, 1, none⟩) (Nat.le_refl _) _).setCell (p := ⟨w.heap.size, 2, none⟩) (Nat.le_refl _) _).setCell (p := ⟨w.heap.size, 3, none⟩) (Nat.le_refl _) _).setCell (p := ⟨w.heap.size, 4, none⟩) (Nat.le_refl _) _
end Go.Proofs.YtlnnhgmkibjgmaaDoor.I
