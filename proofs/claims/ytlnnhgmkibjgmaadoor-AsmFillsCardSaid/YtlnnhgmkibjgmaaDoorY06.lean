/- A row of bytes that a conversion made, written over byte by byte. -/
import Derived.Test.YtlnnhgmkibjgmaaDoorY05
import Derived.Test.YtlnnhgmkibjgmaaDoorQM
import Derived.Test.YtlnnhgmkibjgmaaDoorX03
import Derived.Lib.ConvBytes
import Derived.Laws.BytesArg
set_option linter.unusedVariables false
set_option linter.unusedSimpArgs false
namespace Go.Proofs.YtlnnhgmkibjgmaaDoor
open Go Go.RowKit Oj Al

def byV (b : UInt8) : Value := .int .u8 (b.toNat : Int)
/-- Block g holds these bytes, of a row of that capacity; what is frozen of it lies behind. -/
def BM (w : World) (g cap : Nat) (bs : List UInt8) : Prop := ∃ cur fz, w.heap[g]? = some (.cells cur 5 fz) ∧ (fz.2 = 0 ∨ cur.size ≤ fz.1) ∧ bs.length ≤ cap ∧ cur.size = cap ∧ cur.toList.take bs.length = bs.map byV
theorem BM.lt {w : World} {g cap : Nat} {bs : List UInt8} (h : BM w g cap bs) : g < w.heap.size := by
  obtain ⟨cur, fz, hg, _⟩ := h
  exact (Array.getElem?_eq_some_iff.1 hg).1
theorem BM.le {w : World} {g cap : Nat} {bs : List UInt8} (h : BM w g cap bs) : bs.length ≤ cap := by
  obtain ⟨cur, fz, _, _, hl, _⟩ := h
  exact hl
theorem BM.cell {w : World} {g cap : Nat} {bs : List UInt8} (h : BM w g cap bs) (j : Nat) (hj : j < bs.length) : w.cell? ⟨g, j, none⟩ = some (byV (bs.getD j 0)) := by
  obtain ⟨cur, fz, hg, hf, hl, hc, ht⟩ := h
  rw [cell_of_row _ _ _ _ _ _ hg, ← Array.getElem?_toList]
  have h1 : cur.toList[j]? = (cur.toList.take bs.length)[j]? := by rw [List.getElem?_take_of_lt hj]
  rw [h1, ht, List.getElem?_map, List.getElem?_eq_getElem hj, List.getD_eq_getElem?_getD, List.getElem?_eq_getElem hj]
  rfl
theorem BM.frozen {w : World} {g cap : Nat} {bs : List UInt8} (h : BM w g cap bs) (j : Nat) (hj : j < bs.length) : w.frozen? ⟨g, j, none⟩ = false := by
  obtain ⟨cur, ⟨lo, hi⟩, hg, hf, hl, hc, ht⟩ := h
  unfold World.frozen?
  rw [hg]
  simp only [Bool.and_eq_false_iff, decide_eq_false_iff_not]
  rcases hf with hf | hf
  · right; simp only at hf; omega
  · left; simp only at hf; omega
theorem BM.set {w : World} {g cap : Nat} {bs : List UInt8} (h : BM w g cap bs) (j : Nat) (hj : j < bs.length) (u : UInt8) : BM (w.setCell ⟨g, j, none⟩ (byV u)) g cap (bs.set j u) := by
  obtain ⟨cur, fz, hg, hf, hl, hc, ht⟩ := h
  refine ⟨cur.setIfInBounds j (byV u), fz, ?_, by simpa using hf, by simpa using hl, by simpa using hc, ?_⟩
  · unfold World.setCell
    simp [Array.getElem?_modify, hg]
  · rw [Array.toList_setIfInBounds, List.length_set, List.take_set, ht, List.map_set]
theorem BM.same {w w' : World} {g cap : Nat} {bs : List UInt8} (h : BM w g cap bs) (hw : w'.heap[g]? = w.heap[g]?) : BM w' g cap bs := by
  obtain ⟨cur, fz, hg, r⟩ := h
  exact ⟨cur, fz, hw.trans hg, r⟩
theorem BM.below {w w' : World} {g cap : Nat} {bs : List UInt8} (h : BM w g cap bs) (hb : Below w.heap.size w w') : BM w' g cap bs := h.same (hb.block g h.lt)
theorem BM.far {w : World} {g cap : Nat} {bs : List UInt8} (h : BM w g cap bs) {p : Addr} (hp : g ≠ p.block) (u : Value) : BM (w.setCell p u) g cap bs := h.same (Below.heap_setCell w p u g hp)
theorem BM.new (w : World) (s : ByteArray) (hs : s.size ≤ maxLen) : BM (Lib.bytesWorld w 5 s) w.heap.size (grownCap w s.size 0 5) (by' s) := by
  have h := bytes_own w 5 s hs
  rcases h.2 with ⟨hv, _⟩ | ⟨g, cap, cur, fz, hv, _, hg, hf, hn, _, hc, ht⟩
  · cases hv
  · injection hv with h1 h2 h3
    injection h1 with h4
    injection h4 with h5 h6
    subst h5 h3
    refine ⟨cur, fz, hg, hf, hn, by rw [hc, Nat.mul_one], ?_⟩
    rw [Nat.mul_one] at ht
    exact ht
theorem BM.grown {w w' : World} {g cap : Nat} {bs : List UInt8} {row : Option Nat} (h : BM w g cap bs) (hb : w.grownBy w' row) (hg : some g ≠ row) : BM w' g cap bs := h.same (hb.block g h.lt hg)
/-- A text of eight of the bytes. -/
theorem BM.text8 {w : World} {g cap : Nat} {bs : List UInt8} (h : BM w g cap bs) (i : Nat) (hi : 8 * i + 8 ≤ bs.length) (c : Nat) : (convert 56 9 (.slice (some ⟨g, 8 * i, none⟩) 8 c)).run Tryd.prog w = .ok (.string (tx ((bs.drop (8 * i)).take 8))) w := by
  have hl : ((bs.drop (8 * i)).take 8).length = 8 := by rw [List.length_take, List.length_drop]; omega
  have h1 := run_convert_bytes_arg w 56 5 (P := Tryd.prog) Tryd.underlying56 Tryd.underlying5 g (8 * i) 8 c (((bs.drop (8 * i)).take 8).map fun b => (b.toNat : Int)) (by rw [List.length_map, hl]) (fun j hj => by
    rw [h.cell (8 * i + j) (by omega)]
    unfold byV
    congr 2
    have e : (bs.drop (8 * i)).take 8 = (bs.drop (8 * i)).take 8 := rfl
    rw [List.getD_eq_getElem?_getD, List.getD_eq_getElem?_getD, List.getElem?_map, List.getElem?_take_of_lt hj, List.getElem?_drop, List.getElem?_eq_getElem (by omega)]
    rfl) 9 Tryd.underlying9
  have e2 : ∀ L : List UInt8, strOfNums (L.map fun b => (b.toNat : Int)) = tx L := fun L => by
    unfold strOfNums tx
    rw [List.map_map, show ((fun (n : Int) => UInt8.ofNat n.toNat) ∘ fun (b : UInt8) => (b.toNat : Int)) = id by funext b; simp, List.map_id]
  rw [h1, e2]
theorem le_b0 {V : Int} (h0 : 0 ≤ V) (h1 : V < 4294967296) : byV ((I.Wd.le V.toNat 4).getD 0 0) = .int .u8 (V % 256) := by
  show byV (UInt8.ofNat (V.toNat / 256 ^ 0)) = _
  unfold byV
  rw [UInt8.toNat_ofNat']
  congr 1
  omega
theorem le_b1 {V : Int} (h0 : 0 ≤ V) (h1 : V < 4294967296) : byV ((I.Wd.le V.toNat 4).getD 1 0) = .int .u8 (V / 256 % 256) := by
  show byV (UInt8.ofNat (V.toNat / 256 ^ 1)) = _
  unfold byV
  rw [UInt8.toNat_ofNat']
  congr 1
  omega
theorem le_b2 {V : Int} (h0 : 0 ≤ V) (h1 : V < 4294967296) : byV ((I.Wd.le V.toNat 4).getD 2 0) = .int .u8 (V / 65536 % 256) := by
  show byV (UInt8.ofNat (V.toNat / 256 ^ 2)) = _
  unfold byV
  rw [UInt8.toNat_ofNat']
  congr 1
  omega
theorem le_b3 {V : Int} (h0 : 0 ≤ V) (h1 : V < 4294967296) : byV ((I.Wd.le V.toNat 4).getD 3 0) = .int .u8 (V / 16777216) := by
  show byV (UInt8.ofNat (V.toNat / 256 ^ 3)) = _
  unfold byV
  rw [UInt8.toNat_ofNat']
  congr 1
  omega
/-- The first k of the four bytes are written. -/
def part4 (b : List UInt8) (off v k : Nat) : List UInt8 := b.take off ++ ((I.Wd.le v 4).take k ++ b.drop (off + k))
theorem part4_zero (b : List UInt8) (off v : Nat) : part4 b off v 0 = b := by unfold part4; rw [List.take_zero, List.nil_append, Nat.add_zero, List.take_append_drop]
theorem part4_four (b : List UInt8) (off v : Nat) : part4 b off v 4 = put4 b off v := by
  unfold part4 put4
  rw [List.take_of_length_le (l := I.Wd.le v 4) (by rw [I.Wd.le_length]; exact Nat.le_refl _)]
theorem part4_length (b : List UInt8) (off v k : Nat) (hk : k ≤ 4) (h : off + 4 ≤ b.length) : (part4 b off v k).length = b.length := by
  unfold part4
  rw [List.length_append, List.length_append, List.length_take, List.length_take, List.length_drop, I.Wd.le_length]
  omega
theorem part4_step (b : List UInt8) (off v k : Nat) (hk : k < 4) (h : off + 4 ≤ b.length) : (part4 b off v k).set (off + k) ((I.Wd.le v 4).getD k 0) = part4 b off v (k + 1) := by
  unfold part4
  have h1 : (b.take off).length = off := by rw [List.length_take]; omega
  have h2 : ((I.Wd.le v 4).take k).length = k := by rw [List.length_take, I.Wd.le_length]; omega
  rw [List.set_append_right _ _ (by rw [h1]; omega), h1, Nat.add_sub_cancel_left, List.set_append_right _ _ (by rw [h2]; exact Nat.le_refl _), h2, Nat.sub_self]
  have h3 : b.drop (off + k) = b.getD (off + k) 0 :: b.drop (off + (k + 1)) := by
    rw [List.drop_eq_getElem_cons (by omega), List.getD_eq_getElem?_getD, List.getElem?_eq_getElem (by omega)]
    rfl
  have h4 : (I.Wd.le v 4).take (k + 1) = (I.Wd.le v 4).take k ++ [(I.Wd.le v 4).getD k 0] := by
    rw [List.take_succ_eq_append_getElem (by rw [I.Wd.le_length]; omega), List.getD_eq_getElem?_getD, List.getElem?_eq_getElem (by rw [I.Wd.le_length]; omega)]
    rfl
  rw [h3, h4]
  simp
end Go.Proofs.YtlnnhgmkibjgmaaDoor
