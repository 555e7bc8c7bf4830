/- Some texts of one proof, one behind the other; each has its own head below. -/
import Derived.Test.YtgdbhmlmioihpaaGreatDoorX12
import Derived.Test.YtgdbhmlmioihpaaGreatDoorProg
import Derived.WalkKit
import Derived.ProofKit
import Derived.Below
import Derived.ChangeSame
import Derived.OpenShut
import Derived.WalkArith
/- An instruction, and what it reads as: opened to its five numbers, and shut again in whatever world. -/
section
set_option linter.unusedVariables false
set_option maxRecDepth 100000
namespace Go.Proofs.YtgdbhmlmioihpaaGreatDoor.I
open Go Go.ChangeShapes Go.WideShapes Go.RowKit

def insnD {H : Type} (op d a b im : Int) : DataW H := .agg [.lit (.int .u8 op), .lit (.int .u8 d), .lit (.int .u8 a), .lit (.int .u8 b), .lit (.int .u32 im)]
/-- The five numbers of an instruction fit their kinds. -/
def Fits (op d a b im : Int) : Prop := (0 ≤ op ∧ op < 256) ∧ (0 ≤ d ∧ d < 256) ∧ (0 ≤ a ∧ a < 256) ∧ (0 ≤ b ∧ b < 256) ∧ (0 ≤ im ∧ im < 4294967296)
theorem fits_u8 {n : Int} (h : (Lit.int .u8 n).wf = true) : 0 ≤ n ∧ n < 256 := by
  have := bounds_u8 h
  omega
theorem fits_u32 {n : Int} (h : (Lit.int .u32 n).wf = true) : 0 ≤ n ∧ n < 4294967296 := by
  have := bounds_u32 h
  omega
theorem wf_u8' {n : Int} (h : 0 ≤ n ∧ n < 256) : (Lit.int .u8 n).wf = true := WalkArith.wf_u8 ⟨h.1, by omega⟩
theorem wf_u32' {n : Int} (h : 0 ≤ n ∧ n < 4294967296) : (Lit.int .u32 n).wf = true := WalkArith.wf_u32 ⟨h.1, by omega⟩
theorem cInsn : Tryz.prog.cellsOf 61 = 5 := by kernel_rfl
theorem c8 : Tryz.prog.cellsOf 5 = 1 := by kernel_rfl
theorem c32 : Tryz.prog.cellsOf 23 = 1 := by kernel_rfl

section
variable {H : Type} {enc : TypeId × Value → H} {w : World} {base : Nat} {spare : Nat → Bool} {held : Bool}
/-- Five cells that read as an instruction. -/
theorem insn_of_cells {fuel : Nat} {cs : List Value} {x : DataW H × List MemPlace} (h : DataW.trod enc Tryz.prog w base spare held fuel 61 cs = some x) :
    ∃ op d a b im : Int, cs = [.int .u8 op, .int .u8 d, .int .u8 a, .int .u8 b, .int .u32 im] ∧ x = (insnD op d a b im, []) ∧ Fits op d a b im := by
  obtain ⟨xs, n, _, rfl, hl, hxl, hg⟩ := DataW.trod_struct Tryz.underlying61 h
  rw [cInsn] at hl
  match cs, hl with
  | [v0, v1, v2, v3, v4], _ =>
    match xs, hxl with
    | [y0, y1, y2, y3, y4], _ =>
      have g0 : DataW.trod enc Tryz.prog w base spare held n 5 [v0] = some y0 := by simpa [c8, c32] using hg 0 _ rfl
      have g1 : DataW.trod enc Tryz.prog w base spare held n 5 [v1] = some y1 := by simpa [c8, c32] using hg 1 _ rfl
      have g2 : DataW.trod enc Tryz.prog w base spare held n 5 [v2] = some y2 := by simpa [c8, c32] using hg 2 _ rfl
      have g3 : DataW.trod enc Tryz.prog w base spare held n 5 [v3] = some y3 := by simpa [c8, c32] using hg 3 _ rfl
      have g4 : DataW.trod enc Tryz.prog w base spare held n 23 [v4] = some y4 := by simpa [c8, c32] using hg 4 _ rfl
      obtain ⟨n0, e0, f0, w0⟩ := DataW.trod_int Tryz.underlying5 g0
      obtain ⟨n1, e1, f1, w1⟩ := DataW.trod_int Tryz.underlying5 g1
      obtain ⟨n2, e2, f2, w2⟩ := DataW.trod_int Tryz.underlying5 g2
      obtain ⟨n3, e3, f3, w3⟩ := DataW.trod_int Tryz.underlying5 g3
      obtain ⟨n4, e4, f4, w4⟩ := DataW.trod_int Tryz.underlying23 g4
      simp at e0 e1 e2 e3 e4
      subst e0 e1 e2 e3 e4 f0 f1 f2 f3 f4
      exact ⟨n0, n1, n2, n3, n4, rfl, rfl, fits_u8 w0, fits_u8 w1, fits_u8 w2, fits_u8 w3, fits_u32 w4⟩

theorem insn_cells {op d a b im : Int} (hf : Fits op d a b im) (m : Nat) : DataW.trod enc Tryz.prog w base spare held (m + 2) 61 [.int .u8 op, .int .u8 d, .int .u8 a, .int .u8 b, .int .u32 im] = some (insnD op d a b im, []) := by
  have w0 := wf_u8' hf.1
  have w1 := wf_u8' hf.2.1
  have w2 := wf_u8' hf.2.2.1
  have w3 := wf_u8' hf.2.2.2.1
  have w4 := wf_u32' hf.2.2.2.2
  exact trod_struct_mk (enc := enc) (P := Tryz.prog) (w := w) (base := base) (spare := spare) (held := held) (n := m + 1) (cs := [.int .u8 op, .int .u8 d, .int .u8 a, .int .u8 b, .int .u32 im])
    (xs := [(.lit (.int .u8 op), []), (.lit (.int .u8 d), []), (.lit (.int .u8 a), []), (.lit (.int .u8 b), []), (.lit (.int .u32 im), [])]) Tryz.underlying61 (by rw [cInsn]; rfl)
    (by simp [DataW.trod, Tryz.underlying5, Tryz.underlying23, c8, c32, w0, w1, w2, w3, w4])

theorem open_insn {r : Reach} {b0 : Nat} {v : Value} {x : DataW H} {p : List MemPlace} (hv : Value.okWide Tryz.prog w r b0 61 v) (h : DataW.Trod enc Tryz.prog w base spare held 61 v x p) :
    ∃ op d a b im : Int, v = .agg #[.int .u8 op, .int .u8 d, .int .u8 a, .int .u8 b, .int .u32 im] ∧ x = insnD op d a b im ∧ p = [] ∧ Fits op d a b im := by
  obtain ⟨cs, rfl, hsz⟩ := okWide_struct Tryz.underlying61 hv
  obtain ⟨fuel, hf⟩ := h
  obtain ⟨op, d, a, b, im, e, f, g⟩ := insn_of_cells hf
  simp only [Prod.mk.injEq] at f
  refine ⟨op, d, a, b, im, ?_, f.1, f.2, g⟩
  have e' : cs.toList = [.int .u8 op, .int .u8 d, .int .u8 a, .int .u8 b, .int .u32 im] := by simpa [Value.cells] using e
  congr 1
  apply Array.toList_inj.1
  exact e'
theorem shut_insn {op d a b im : Int} (hf : Fits op d a b im) : DataW.Trod enc Tryz.prog w base spare held 61 (.agg #[.int .u8 op, .int .u8 d, .int .u8 a, .int .u8 b, .int .u32 im]) (insnD op d a b im) [] :=
  ⟨2, by simpa [Value.cells] using insn_cells (enc := enc) (w := w) (base := base) (spare := spare) (held := held) hf 0⟩
end
end Go.Proofs.YtgdbhmlmioihpaaGreatDoor.I
end

/- Lists of instructions: which bytes they have together; how they lie in memory. -/
section
set_option linter.unusedVariables false
namespace Go.Proofs.YtgdbhmlmioihpaaGreatDoor.I
open Go.RowKit

/-- An instruction's five numbers. -/
structure Ins where
  op : Int
  d : Int
  a : Int
  b : Int
  im : Int
def Ins.fits (x : Ins) : Prop := Fits x.op x.d x.a x.b x.im
def Ins.ok (x : Ins) : Bool := Ix.insnOk x.op x.d x.a x.b x.im
def Ins.bytes (x : Ins) : List UInt8 := Ix.bytes x.op x.d x.a x.b x.im
def Ins.cells (x : Ins) : List Value := [.int .u8 x.op, .int .u8 x.d, .int .u8 x.a, .int .u8 x.b, .int .u32 x.im]
def Ins.nought : Ins := ⟨0, 0, 0, 0, 0⟩
def allOk (l : List Ins) : Bool := l.all Ins.ok
def cat (l : List Ins) : List UInt8 := l.flatMap Ins.bytes
def allE (l : List Ins) : Int := if allOk l = true then 0 else 2
def allS (l : List Ins) : ByteArray := if allOk l = true then ⟨(cat l).toArray⟩ else ⟨#[]⟩

theorem cat_length (l : List Ins) : (cat l).length = 8 * l.length := by
  induction l with
  | nil => rfl
  | cons x l ih =>
    unfold cat at *
    rw [List.flatMap_cons, List.length_append, ih, List.length_cons]
    unfold Ins.bytes
    rw [Ix.bytes_length]; omega
theorem cat_take (l : List Ins) (k : Nat) (h : k < l.length) : cat (l.take (k + 1)) = cat (l.take k) ++ (l.getD k Ins.nought).bytes := by
  unfold cat
  rw [List.take_succ_eq_append_getElem h, List.flatMap_append, List.getD_eq_getElem?_getD, List.getElem?_eq_getElem h]
  simp
theorem ok_take (l : List Ins) (k : Nat) (h : k < l.length) : allOk (l.take (k + 1)) = (allOk (l.take k) && (l.getD k Ins.nought).ok) := by
  unfold allOk
  rw [List.take_succ_eq_append_getElem h, List.all_append, List.getD_eq_getElem?_getD, List.getElem?_eq_getElem h]
  simp
theorem ok_none (l : List Ins) (k : Nat) (h : k < l.length) (hn : (l.getD k Ins.nought).ok = false) : allOk l = false := by
  unfold allOk
  rw [List.all_eq_false]
  refine ⟨l.getD k Ins.nought, ?_, by rw [hn]; decide⟩
  rw [List.getD_eq_getElem?_getD, List.getElem?_eq_getElem h]
  exact List.getElem_mem _

/-- From cell o of block g on the instructions l lie, five cells each. -/
def Lie (w : World) (g o : Nat) (l : List Ins) : Prop := ∀ k, k < l.length → ∀ (j : Nat) (v : Value), (l.getD k Ins.nought).cells[j]? = some v → w.cell? ⟨g, o + k * 5 + j, none⟩ = some v
theorem Lie.below {w w' : World} {B g o : Nat} {l : List Ins} (h : Lie w g o l) (hb : Below B w w') (hg : g < B) : Lie w' g o l := fun k hk j v hv => (hb.cell (p := ⟨g, o + k * 5 + j, none⟩) hg).trans (h k hk j v hv)
theorem Lie.same {w w' : World} {g o : Nat} {l : List Ins} (h : Lie w g o l) (hb : Below w.heap.size w w') (hg : g < w.heap.size) : Lie w' g o l := h.below hb hg
theorem Lie.five {w : World} {g o : Nat} {l : List Ins} (h : Lie w g o l) (k : Nat) (hk : k < l.length) {x : Ins} (hx : l.getD k Ins.nought = x) :
    w.cell? ⟨g, o + k * 5, none⟩ = some (.int .u8 x.op) ∧ w.cell? ⟨g, o + k * 5 + 1, none⟩ = some (.int .u8 x.d) ∧ w.cell? ⟨g, o + k * 5 + 2, none⟩ = some (.int .u8 x.a) ∧ w.cell? ⟨g, o + k * 5 + 3, none⟩ = some (.int .u8 x.b) ∧ w.cell? ⟨g, o + k * 5 + 4, none⟩ = some (.int .u32 x.im) := by
  subst hx
  exact ⟨h k hk 0 _ rfl, h k hk 1 _ rfl, h k hk 2 _ rfl, h k hk 3 _ rfl, h k hk 4 _ rfl⟩
/-- A slice value under which the instructions l lie. -/
def SliceOf (w : World) (v : Value) (l : List Ins) : Prop := ∃ a c, v = .slice a l.length c ∧ (l = [] ∨ ∃ g o, a = some ⟨g, o, none⟩ ∧ g < w.heap.size ∧ Lie w g o l)
theorem SliceOf.same {w w' : World} {v : Value} {l : List Ins} (h : SliceOf w v l) (hb : Below w.heap.size w w') : SliceOf w' v l := by
  obtain ⟨a, c, hv, h⟩ := h
  refine ⟨a, c, hv, ?_⟩
  rcases h with h | ⟨g, o, ha, hg, hl⟩
  · exact .inl h
  · exact .inr ⟨g, o, ha, Nat.lt_of_lt_of_le hg hb.size, hl.same hb hg⟩

theorem ib_below {T e : TypeId} {B b : Nat} {bs : List Value} {w w' : World} (h : Lib.IsBuilder T e B b bs w) (hb : Below w.heap.size w w') : Lib.IsBuilder T e B b bs w' := by
  have key : ∀ p, Lib.BuilderAt T e B b p bs w → Lib.BuilderAt T e B b p bs w' := by
    rintro p ⟨hB, v, hbk, hown, hne⟩
    refine ⟨hB, v, (hb.block b (lt_of_heap hbk)).trans hbk, ⟨hown.1, ?_⟩, hne⟩
    rcases hown.2 with h0 | ⟨g, cap, cur, hv, hBg, hg, r⟩
    · exact .inl h0
    · exact .inr ⟨g, cap, cur, hv, hBg, (hb.block g (lt_of_heap hg)).trans hg, r⟩
  rcases h with h | h
  · exact Or.inl (key _ h)
  · exact Or.inr (key _ h)
end Go.Proofs.YtgdbhmlmioihpaaGreatDoor.I
end
