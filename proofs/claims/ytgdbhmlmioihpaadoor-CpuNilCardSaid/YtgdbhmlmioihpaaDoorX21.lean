/- Lists of instructions: which bytes they have together; how they lie in memory. -/
import Derived.Test.YtgdbhmlmioihpaaDoorX11
import Derived.Test.YtgdbhmlmioihpaaDoorOI
set_option linter.unusedVariables false
namespace Go.Proofs.YtgdbhmlmioihpaaDoor.I
open Go.RowKit

/-- An instruction's five numbers. -/
structure Ins where
  op : Int
  d : Int
  a : Int
  b : Int
  im : Int
def Ins.fits (x : Ins) : Prop := Fits x.op x.d x.a x.b x.im
def Ins.ok (x : Ins) : Bool := Ix.insnOk x.op x.d x.a x.b x.im
def Ins.bytes (x : Ins) : List UInt8 := Ix.bytes x.op x.d x.a x.b x.im
def Ins.cells (x : Ins) : List Value := [.int .u8 x.op, .int .u8 x.d, .int .u8 x.a, .int .u8 x.b, .int .u32 x.im]
def Ins.nought : Ins := ⟨0, 0, 0, 0, 0⟩
def allOk (l : List Ins) : Bool := l.all Ins.ok
def cat (l : List Ins) : List UInt8 := l.flatMap Ins.bytes
def allE (l : List Ins) : Int := if allOk l = true then 0 else 2
def allS (l : List Ins) : ByteArray := if allOk l = true then ⟨(cat l).toArray⟩ else ⟨#[]⟩

theorem cat_length (l : List Ins) : (cat l).length = 8 * l.length := by
  induction l with
  | nil => rfl
  | cons x l ih =>
    unfold cat at *
    rw [List.flatMap_cons, List.length_append, ih, List.length_cons]
    unfold Ins.bytes
    rw [Ix.bytes_length]; omega
theorem cat_take (l : List Ins) (k : Nat) (h : k < l.length) : cat (l.take (k + 1)) = cat (l.take k) ++ (l.getD k Ins.nought).bytes := by
  unfold cat
  rw [List.take_succ_eq_append_getElem h, List.flatMap_append, List.getD_eq_getElem?_getD, List.getElem?_eq_getElem h]
  simp
theorem ok_take (l : List Ins) (k : Nat) (h : k < l.length) : allOk (l.take (k + 1)) = (allOk (l.take k) && (l.getD k Ins.nought).ok) := by
  unfold allOk
  rw [List.take_succ_eq_append_getElem h, List.all_append, List.getD_eq_getElem?_getD, List.getElem?_eq_getElem h]
  simp
theorem ok_none (l : List Ins) (k : Nat) (h : k < l.length) (hn : (l.getD k Ins.nought).ok = false) : allOk l = false := by
  unfold allOk
  rw [List.all_eq_false]
  refine ⟨l.getD k Ins.nought, ?_, by rw [hn]; decide⟩
  rw [List.getD_eq_getElem?_getD, List.getElem?_eq_getElem h]
  exact List.getElem_mem _

/-- From cell o of block g on the instructions l lie, five cells each. -/
def Lie (w : World) (g o : Nat) (l : List Ins) : Prop := ∀ k, k < l.length → ∀ (j : Nat) (v : Value), (l.getD k Ins.nought).cells[j]? = some v → w.cell? ⟨g, o + k * 5 + j, none⟩ = some v
theorem Lie.below {w w' : World} {B g o : Nat} {l : List Ins} (h : Lie w g o l) (hb : Below B w w') (hg : g < B) : Lie w' g o l := fun k hk j v hv => (hb.cell (p := ⟨g, o + k * 5 + j, none⟩) hg).trans (h k hk j v hv)
theorem Lie.same {w w' : World} {g o : Nat} {l : List Ins} (h : Lie w g o l) (hb : Below w.heap.size w w') (hg : g < w.heap.size) : Lie w' g o l := h.below hb hg
theorem Lie.five {w : World} {g o : Nat} {l : List Ins} (h : Lie w g o l) (k : Nat) (hk : k < l.length) {x : Ins} (hx : l.getD k Ins.nought = x) :
    w.cell? ⟨g, o + k * 5, none⟩ = some (.int .u8 x.op) ∧ w.cell? ⟨g, o + k * 5 + 1, none⟩ = some (.int .u8 x.d) ∧ w.cell? ⟨g, o + k * 5 + 2, none⟩ = some (.int .u8 x.a) ∧ w.cell? ⟨g, o + k * 5 + 3, none⟩ = some (.int .u8 x.b) ∧ w.cell? ⟨g, o + k * 5 + 4, none⟩ = some (.int .u32 x.im) := by
  subst hx
  exact ⟨h k hk 0 _ rfl, h k hk 1 _ rfl, h k hk 2 _ rfl, h k hk 3 _ rfl, h k hk 4 _ rfl⟩
/-- A slice value under which the instructions l lie. -/
def SliceOf (w : World) (v : Value) (l : List Ins) : Prop := ∃ a c, v = .slice a l.length c ∧ (l = [] ∨ ∃ g o, a = some ⟨g, o, none⟩ ∧ g < w.heap.size ∧ Lie w g o l)
theorem SliceOf.same {w w' : World} {v : Value} {l : List Ins} (h : SliceOf w v l) (hb : Below w.heap.size w w') : SliceOf w' v l := by
  obtain ⟨a, c, hv, h⟩ := h
  refine ⟨a, c, hv, ?_⟩
  rcases h with h | ⟨g, o, ha, hg, hl⟩
  · exact .inl h
  · exact .inr ⟨g, o, ha, Nat.lt_of_lt_of_le hg hb.size, hl.same hb hg⟩

theorem ib_below {T e : TypeId} {B b : Nat} {bs : List Value} {w w' : World} (h : Lib.IsBuilder T e B b bs w) (hb : Below w.heap.size w w') : Lib.IsBuilder T e B b bs w' := by
  have key : ∀ p, Lib.BuilderAt T e B b p bs w → Lib.BuilderAt T e B b p bs w' := by
    rintro p ⟨hB, v, hbk, hown, hne⟩
    refine ⟨hB, v, (hb.block b (lt_of_heap hbk)).trans hbk, ⟨hown.1, ?_⟩, hne⟩
    rcases hown.2 with h0 | ⟨g, cap, cur, hv, hBg, hg, r⟩
    · exact .inl h0
    · exact .inr ⟨g, cap, cur, hv, hBg, (hb.block g (lt_of_heap hg)).trans hg, r⟩
  rcases h with h | h
  · exact Or.inl (key _ h)
  · exact Or.inr (key _ h)
end Go.Proofs.YtgdbhmlmioihpaaDoor.I
