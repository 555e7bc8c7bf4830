/- Objects, symbols, relocations and notes in memory: what reads as which. -/
import Derived.Test.YtfnofolahhoggaaBK
import Derived.Test.YtfnofolahhoggaaOM
set_option linter.unusedVariables false
namespace Go.Proofs.Ytfnofolahhoggaa
open Go Go.RowKit Oj

def rlCells (x : Rl) : List Value := [.int .u32 x.off, .int .u8 x.kind, .string (tx x.name), .int .u32 x.add]
def ntCells (x : Nt) : List Value := [.int .u8 x.kind, .int .u32 x.n, .int .u32 x.m]
def syCells (s : Sy) (vr vn : Value) : List Value := [.string (tx s.name), .int .u8 s.bind, .int .u8 s.kind, .int .u32 s.size, .string (tx s.bytes), vr, vn]
def obCells (o : Ob) (vs : Value) : List Value := [.string (tx o.name), vs]

/-- These cells lie at the place. -/
def LieC (w : World) (b o : Nat) (cs : List Value) : Prop := ∀ i v, cs[i]? = some v → w.cell? ⟨b, o + i, none⟩ = some v
/-- A slice of n elements of z cells each. -/
def SlC (w : World) (v : Value) (n z : Nat) (cs : Nat → List Value) : Prop :=
  ∃ a c, v = .slice a n c ∧ (0 < n → ∃ b o, a = some ⟨b, o, none⟩ ∧ b < w.heap.size ∧ ∀ j, j < n → LieC w b (o + j * z) (cs j))
def RelsAt (w : World) (v : Value) (l : List Rl) : Prop := SlC w v l.length 4 fun j => rlCells (l.getD j Rl.nought)
def NotesAt (w : World) (v : Value) (l : List Nt) : Prop := SlC w v l.length 3 fun j => ntCells (l.getD j Nt.nought)
def SymAt (w : World) (v : Value) (s : Sy) : Prop := ∃ vr vn, v = .agg #[.string (tx s.name), .int .u8 s.bind, .int .u8 s.kind, .int .u32 s.size, .string (tx s.bytes), vr, vn] ∧ RelsAt w vr s.rels ∧ NotesAt w vn s.notes
def SymsAt (w : World) (v : Value) (l : List Sy) : Prop :=
  ∃ R N : Nat → Value, SlC w v l.length 7 (fun j => syCells (l.getD j Sy.nought) (R j) (N j)) ∧ ∀ j, j < l.length → RelsAt w (R j) (l.getD j Sy.nought).rels ∧ NotesAt w (N j) (l.getD j Sy.nought).notes
def ObAt (w : World) (v : Value) (o : Ob) : Prop := ∃ vs, v = .agg #[.string (tx o.name), vs] ∧ SymsAt w vs o.syms
def ObsAt (w : World) (v : Value) (l : List Ob) : Prop :=
  ∃ S : Nat → Value, SlC w v l.length 2 (fun j => obCells (l.getD j Ob.nought) (S j)) ∧ ∀ j, j < l.length → SymsAt w (S j) (l.getD j Ob.nought).syms

section
variable {w w' : World} {B : Nat} {v : Value}
theorem LieC.below {b o : Nat} {cs : List Value} (h : LieC w b o cs) (hb : Below B w w') (hB : b < B) : LieC w' b o cs := fun i u hu => (hb.cell (p := ⟨b, o + i, none⟩) hB).trans (h i u hu)
theorem SlC.below {n z : Nat} {cs : Nat → List Value} (h : SlC w v n z cs) (hb : Below B w w') (hB : w.heap.size ≤ B) : SlC w' v n z cs := by
  obtain ⟨a, c, rfl, h2⟩ := h
  refine ⟨a, c, rfl, fun hn => ?_⟩
  obtain ⟨b, o, rfl, h3, h4⟩ := h2 hn
  exact ⟨b, o, rfl, Nat.lt_of_lt_of_le h3 hb.size, fun j hj => (h4 j hj).below hb (Nat.lt_of_lt_of_le h3 hB)⟩
theorem RelsAt.below {l : List Rl} (h : RelsAt w v l) (hb : Below w.heap.size w w') : RelsAt w' v l := SlC.below h hb (Nat.le_refl _)
theorem NotesAt.below {l : List Nt} (h : NotesAt w v l) (hb : Below w.heap.size w w') : NotesAt w' v l := SlC.below h hb (Nat.le_refl _)
theorem SymAt.below {s : Sy} (h : SymAt w v s) (hb : Below w.heap.size w w') : SymAt w' v s := by
  obtain ⟨vr, vn, h1, h2, h3⟩ := h
  exact ⟨vr, vn, h1, h2.below hb, h3.below hb⟩
theorem SymsAt.below {l : List Sy} (h : SymsAt w v l) (hb : Below w.heap.size w w') : SymsAt w' v l := by
  obtain ⟨R, N, h1, h2⟩ := h
  exact ⟨R, N, SlC.below h1 hb (Nat.le_refl _), fun j hj => ⟨(h2 j hj).1.below hb, (h2 j hj).2.below hb⟩⟩
theorem ObAt.below {o : Ob} (h : ObAt w v o) (hb : Below w.heap.size w w') : ObAt w' v o := by
  obtain ⟨vs, h1, h2⟩ := h
  exact ⟨vs, h1, h2.below hb⟩
theorem ObsAt.below {l : List Ob} (h : ObsAt w v l) (hb : Below w.heap.size w w') : ObsAt w' v l := by
  obtain ⟨S, h1, h2⟩ := h
  exact ⟨S, SlC.below h1 hb (Nat.le_refl _), fun j hj => (h2 j hj).below hb⟩
/-- A symbol of a list. -/
theorem SymsAt.sym {l : List Sy} (h : SymsAt w v l) {j : Nat} (hj : j < l.length) :
    ∃ a c b o vr vn, v = .slice a l.length c ∧ a = some ⟨b, o, none⟩ ∧ b < w.heap.size ∧ LieC w b (o + j * 7) (syCells (l.getD j Sy.nought) vr vn) ∧ RelsAt w vr (l.getD j Sy.nought).rels ∧ NotesAt w vn (l.getD j Sy.nought).notes := by
  obtain ⟨R, N, ⟨a, c, h1, h2⟩, h3⟩ := h
  obtain ⟨b, o, h4, h5, h6⟩ := h2 (by omega)
  exact ⟨a, c, b, o, R j, N j, h1, h4, h5, h6 j hj, (h3 j hj).1, (h3 j hj).2⟩
theorem SymAt.mk {s : Sy} {vr vn : Value} (h1 : RelsAt w vr s.rels) (h2 : NotesAt w vn s.notes) : SymAt w (.agg #[.string (tx s.name), .int .u8 s.bind, .int .u8 s.kind, .int .u32 s.size, .string (tx s.bytes), vr, vn]) s := ⟨vr, vn, rfl, h1, h2⟩
theorem LieC.rl {b o : Nat} {x : Rl} (h : LieC w b o (rlCells x)) : w.cell? ⟨b, o, none⟩ = some (.int .u32 x.off) ∧ w.cell? ⟨b, o + 1, none⟩ = some (.int .u8 x.kind) ∧ w.cell? ⟨b, o + 2, none⟩ = some (.string (tx x.name)) ∧ w.cell? ⟨b, o + 3, none⟩ = some (.int .u32 x.add) := ⟨h 0 _ rfl, h 1 _ rfl, h 2 _ rfl, h 3 _ rfl⟩
theorem LieC.nt {b o : Nat} {x : Nt} (h : LieC w b o (ntCells x)) : w.cell? ⟨b, o, none⟩ = some (.int .u8 x.kind) ∧ w.cell? ⟨b, o + 1, none⟩ = some (.int .u32 x.n) ∧ w.cell? ⟨b, o + 2, none⟩ = some (.int .u32 x.m) := ⟨h 0 _ rfl, h 1 _ rfl, h 2 _ rfl⟩
theorem LieC.sy {b o : Nat} {s : Sy} {vr vn : Value} (h : LieC w b o (syCells s vr vn)) : w.cell? ⟨b, o, none⟩ = some (.string (tx s.name)) ∧ w.cell? ⟨b, o + 1, none⟩ = some (.int .u8 s.bind) ∧ w.cell? ⟨b, o + 2, none⟩ = some (.int .u8 s.kind) ∧ w.cell? ⟨b, o + 3, none⟩ = some (.int .u32 s.size) ∧ w.cell? ⟨b, o + 4, none⟩ = some (.string (tx s.bytes)) ∧ w.cell? ⟨b, o + 5, none⟩ = some vr ∧ w.cell? ⟨b, o + 6, none⟩ = some vn := ⟨h 0 _ rfl, h 1 _ rfl, h 2 _ rfl, h 3 _ rfl, h 4 _ rfl, h 5 _ rfl, h 6 _ rfl⟩
theorem LieC.ob {b o : Nat} {x : Ob} {vs : Value} (h : LieC w b o (obCells x vs)) : w.cell? ⟨b, o, none⟩ = some (.string (tx x.name)) ∧ w.cell? ⟨b, o + 1, none⟩ = some vs := ⟨h 0 _ rfl, h 1 _ rfl⟩
end

/-- The symbols of a list, each with its own two slices. -/
theorem SymsAt.get {w : World} {v : Value} {l : List Sy} (h : SymsAt w v l) : ∃ a c, v = .slice a l.length c ∧ (0 < l.length → ∃ b o, a = some ⟨b, o, none⟩ ∧ b < w.heap.size ∧ ∀ j, j < l.length → ∃ vr vn, LieC w b (o + j * 7) (syCells (l.getD j Sy.nought) vr vn) ∧ RelsAt w vr (l.getD j Sy.nought).rels ∧ NotesAt w vn (l.getD j Sy.nought).notes) := by
  obtain ⟨R, N, ⟨a, c, rfl, h2⟩, h3⟩ := h
  refine ⟨a, c, rfl, fun hn => ?_⟩
  obtain ⟨b, o, h4, h5, h6⟩ := h2 hn
  exact ⟨b, o, h4, h5, fun j hj => ⟨R j, N j, h6 j hj, (h3 j hj).1, (h3 j hj).2⟩⟩

/-! what fits -/
def reach : Nat := 140737488355328
def rlFits (x : Rl) : Prop := (0 ≤ x.off ∧ x.off < 4294967296) ∧ (0 ≤ x.kind ∧ x.kind < 256) ∧ (0 ≤ x.add ∧ x.add < 4294967296) ∧ x.name.length ≤ 140737488355328
def ntFits (x : Nt) : Prop := (0 ≤ x.kind ∧ x.kind < 256) ∧ (0 ≤ x.n ∧ x.n < 4294967296) ∧ (0 ≤ x.m ∧ x.m < 4294967296)
def syFits (s : Sy) : Prop := s.name.length ≤ 140737488355328 ∧ (0 ≤ s.bind ∧ s.bind < 256) ∧ (0 ≤ s.kind ∧ s.kind < 256) ∧ (0 ≤ s.size ∧ s.size < 4294967296) ∧ s.bytes.length ≤ 140737488355328 ∧
  s.rels.length * 32 ≤ 140737488355328 ∧ s.notes.length * 12 ≤ 140737488355328 ∧ (∀ j, j < s.rels.length → rlFits (s.rels.getD j Rl.nought)) ∧ (∀ j, j < s.notes.length → ntFits (s.notes.getD j Nt.nought))
def obFits (o : Ob) : Prop := o.name.length ≤ 140737488355328 ∧ o.syms.length * 88 ≤ 140737488355328 ∧ ∀ j, j < o.syms.length → syFits (o.syms.getD j Sy.nought)
def obsFit (l : List Ob) : Prop := l.length * 40 ≤ 140737488355328 ∧ ∀ j, j < l.length → obFits (l.getD j Ob.nought)
end Go.Proofs.Ytfnofolahhoggaa
