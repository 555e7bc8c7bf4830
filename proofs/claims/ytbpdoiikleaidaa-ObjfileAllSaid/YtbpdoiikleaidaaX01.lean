/- Some texts of one proof, one behind the other; each has its own head below. -/
import Derived.Test.YtbpdoiikleaidaaX00
import Derived.Lib.Bytealg
/- Objects, symbols, relocations and notes as plain data, and which of them may be, as plain functions. -/
section
namespace Go.Proofs.Ytbpdoiikleaidaa.Oj

/-- Do all numbers below n have the mark? -/
def allN (n : Nat) (p : Nat → Bool) : Bool := (List.range n).all p
theorem allN_true {n : Nat} {p : Nat → Bool} (h : ∀ j, j < n → p j = true) : allN n p = true := by
  unfold allN
  rw [List.all_eq_true]
  intro j hj
  exact h j (List.mem_range.1 hj)
theorem allN_false {n k : Nat} {p : Nat → Bool} (h : k < n) (hp : p k = false) : allN n p = false := by
  unfold allN
  rw [List.all_eq_false]
  exact ⟨k, List.mem_range.2 h, by simp [hp]⟩
theorem allN_at {n : Nat} {p : Nat → Bool} (h : allN n p = true) {j : Nat} (hj : j < n) : p j = true := by
  unfold allN at h
  rw [List.all_eq_true] at h
  exact h j (List.mem_range.2 hj)

structure Rl where
  off : Int
  kind : Int
  name : List UInt8
  add : Int
structure Nt where
  kind : Int
  n : Int
  m : Int
structure Sy where
  name : List UInt8
  bind : Int
  kind : Int
  size : Int
  bytes : List UInt8
  rels : List Rl
  notes : List Nt
structure Ob where
  name : List UInt8
  syms : List Sy
def Rl.nought : Rl := ⟨0, 0, [], 0⟩
def Nt.nought : Nt := ⟨0, 0, 0⟩
def Sy.nought : Sy := ⟨[], 0, 0, 0, [], [], []⟩
def Ob.nought : Ob := ⟨[], []⟩

def nameI (c : Int) : Bool := decide ((97 ≤ c ∧ c ≤ 122) ∨ (48 ≤ c ∧ c ≤ 57) ∨ c = 46 ∨ c = 95)
def nameOk (l : List UInt8) : Bool := decide (1 ≤ l.length ∧ l.length ≤ 32) && allN l.length fun k => nameI ((l.getD k 0).toNat : Int)
def noteOk (x : Nt) : Bool := decide ((x.kind = 1 ∧ x.n ≤ 1024 ∧ x.m = 0) ∨ (x.kind = 2 ∧ x.n < 16 ∧ 1 ≤ x.m ∧ x.m ≤ 1024) ∨ (x.kind = 3 ∧ 1 ≤ x.n ∧ x.n ≤ 65535 ∧ x.m = 0) ∨ (x.kind = 4 ∧ x.n = 0 ∧ x.m = 0))
def width (k : Int) : Int := if k = 1 then 4 else if k = 2 then 2 else 0
/-- Where the place before the k-th ends. -/
def endAt (l : List Rl) : Nat → Int
  | 0 => 0
  | k + 1 => (l.getD k Rl.nought).off + width (l.getD k Rl.nought).kind
def placeOk (n e : Int) (x : Rl) : Bool := decide (width x.kind ≠ 0 ∧ e ≤ x.off ∧ x.off + width x.kind ≤ n)
def relOk (n e : Int) (x : Rl) : Bool := placeOk n e x && nameOk x.name
def relsOk (n : Int) (l : List Rl) : Bool := decide (l.length ≤ 1024) && allN l.length fun k => relOk n (endAt l k) (l.getD k Rl.nought)
def notesOk (l : List Nt) : Bool := decide (l.length ≤ 8) && allN l.length fun k => noteOk (l.getD k Nt.nought)
def bindOk (b : Int) : Bool := decide (b = 0 ∨ b = 1 ∨ b = 2)
def sykOk (k : Int) : Bool := decide (k = 1 ∨ k = 2 ∨ k = 3)
def sizeOk (k z : Int) (n : Nat) : Bool := decide ((1 ≤ z ∧ z ≤ 8192 ∧ (n : Int) ≤ z) ∧ (k = 1 → z = n ∧ z % 8 = 0))
def symOk (s : Sy) : Bool := nameOk s.name && bindOk s.bind && sykOk s.kind && sizeOk s.kind s.size s.bytes.length && relsOk s.bytes.length s.rels && notesOk s.notes
def apartOk (l : List Sy) (k : Nat) : Bool := allN k fun j => decide ((l.getD j Sy.nought).name ≠ (l.getD k Sy.nought).name)
def symsOk (l : List Sy) : Bool := allN l.length fun k => symOk (l.getD k Sy.nought) && apartOk l k
def obOk (o : Ob) : Bool := nameOk o.name && decide (o.syms.length ≤ 64) && symsOk o.syms
/-- The first symbol with that name. -/
def findS (l : List Sy) (nm : List UInt8) : Option Nat := (List.range l.length).find? fun k => decide ((l.getD k Sy.nought).name = nm)
def findO (o : Ob) (nm : List UInt8) : Option Nat := if obOk o = true then findS o.syms nm else none

theorem find_at {l : List Sy} {nm : List UInt8} {k : Nat} (hk : k < l.length) (h : (l.getD k Sy.nought).name = nm) (hj : ∀ j, j < k → (l.getD j Sy.nought).name ≠ nm) : findS l nm = some k := by
  unfold findS
  rw [List.find?_range_eq_some]
  exact ⟨by simpa using h, by simpa using hk, fun j h2 => by simpa using hj j h2⟩
theorem find_none {l : List Sy} {nm : List UInt8} (hj : ∀ j, j < l.length → (l.getD j Sy.nought).name ≠ nm) : findS l nm = none := by
  unfold findS
  rw [List.find?_range_eq_none]
  exact fun j h2 => by simpa using hj j h2
theorem find_some {l : List Sy} {nm : List UInt8} {k : Nat} (h : findS l nm = some k) : k < l.length ∧ (l.getD k Sy.nought).name = nm ∧ ∀ j, j < k → (l.getD j Sy.nought).name ≠ nm := by
  unfold findS at h
  rw [List.find?_range_eq_some] at h
  obtain ⟨h1, h2, h3⟩ := h
  exact ⟨by simpa using h2, by simpa using h1, fun j hj => by simpa using h3 j hj⟩
/-- A symbol's own name is found at its place, or ahead of it. -/
theorem find_own {l : List Sy} {k : Nat} (hk : k < l.length) : ∃ i, findS l (l.getD k Sy.nought).name = some i ∧ i ≤ k := by
  cases h : findS l (l.getD k Sy.nought).name with
  | none =>
    unfold findS at h
    rw [List.find?_range_eq_none] at h
    have := h k hk
    simp at this
  | some i =>
    refine ⟨i, rfl, ?_⟩
    rcases Nat.lt_or_ge k i with hlt | hge
    · exact absurd rfl ((find_some h).2.2 k hlt)
    · exact hge
/-- It is found at its own place just when none ahead has its name. -/
theorem find_apart {l : List Sy} {k i : Nat} (h : findS l (l.getD k Sy.nought).name = some i) (hik : i ≤ k) : decide (i = k) = apartOk l k := by
  unfold apartOk
  by_cases he : i = k
  · subst he
    rw [decide_eq_true rfl, allN_true]
    intro j hj
    exact decide_eq_true ((find_some h).2.2 j hj)
  · rw [decide_eq_false he, allN_false (k := i) (by omega)]
    exact decide_eq_false fun hn => hn (find_some h).2.1
theorem width_pos {k : Int} (h : width k ≠ 0) : 2 ≤ width k ∧ width k ≤ 4 := by
  unfold width at h ⊢
  split
  · omega
  · split
    · omega
    · rename_i h1 h2
      rw [if_neg h1, if_neg h2] at h
      exact absurd rfl h
theorem width_le (k : Int) : 0 ≤ width k ∧ width k ≤ 4 := by
  unfold width
  split
  · omega
  · split <;> omega
end Go.Proofs.Ytbpdoiikleaidaa.Oj
end

/- Objects, symbols, relocations and notes in memory: what reads as which. -/
section
set_option linter.unusedVariables false
namespace Go.Proofs.Ytbpdoiikleaidaa
open Go Go.RowKit Oj

def rlCells (x : Rl) : List Value := [.int .u32 x.off, .int .u8 x.kind, .string (tx x.name), .int .u32 x.add]
def ntCells (x : Nt) : List Value := [.int .u8 x.kind, .int .u32 x.n, .int .u32 x.m]
def syCells (s : Sy) (vr vn : Value) : List Value := [.string (tx s.name), .int .u8 s.bind, .int .u8 s.kind, .int .u32 s.size, .string (tx s.bytes), vr, vn]
def obCells (o : Ob) (vs : Value) : List Value := [.string (tx o.name), vs]

/-- These cells lie at the place. -/
def LieC (w : World) (b o : Nat) (cs : List Value) : Prop := ∀ i v, cs[i]? = some v → w.cell? ⟨b, o + i, none⟩ = some v
/-- A slice of n elements of z cells each. -/
def SlC (w : World) (v : Value) (n z : Nat) (cs : Nat → List Value) : Prop :=
  ∃ a c, v = .slice a n c ∧ (0 < n → ∃ b o, a = some ⟨b, o, none⟩ ∧ b < w.heap.size ∧ ∀ j, j < n → LieC w b (o + j * z) (cs j))
def RelsAt (w : World) (v : Value) (l : List Rl) : Prop := SlC w v l.length 4 fun j => rlCells (l.getD j Rl.nought)
def NotesAt (w : World) (v : Value) (l : List Nt) : Prop := SlC w v l.length 3 fun j => ntCells (l.getD j Nt.nought)
def SymAt (w : World) (v : Value) (s : Sy) : Prop := ∃ vr vn, v = .agg #[.string (tx s.name), .int .u8 s.bind, .int .u8 s.kind, .int .u32 s.size, .string (tx s.bytes), vr, vn] ∧ RelsAt w vr s.rels ∧ NotesAt w vn s.notes
def SymsAt (w : World) (v : Value) (l : List Sy) : Prop :=
  ∃ R N : Nat → Value, SlC w v l.length 7 (fun j => syCells (l.getD j Sy.nought) (R j) (N j)) ∧ ∀ j, j < l.length → RelsAt w (R j) (l.getD j Sy.nought).rels ∧ NotesAt w (N j) (l.getD j Sy.nought).notes
def ObAt (w : World) (v : Value) (o : Ob) : Prop := ∃ vs, v = .agg #[.string (tx o.name), vs] ∧ SymsAt w vs o.syms
def ObsAt (w : World) (v : Value) (l : List Ob) : Prop :=
  ∃ S : Nat → Value, SlC w v l.length 2 (fun j => obCells (l.getD j Ob.nought) (S j)) ∧ ∀ j, j < l.length → SymsAt w (S j) (l.getD j Ob.nought).syms

section
variable {w w' : World} {B : Nat} {v : Value}
theorem LieC.below {b o : Nat} {cs : List Value} (h : LieC w b o cs) (hb : Below B w w') (hB : b < B) : LieC w' b o cs := fun i u hu => (hb.cell (p := ⟨b, o + i, none⟩) hB).trans (h i u hu)
theorem SlC.below {n z : Nat} {cs : Nat → List Value} (h : SlC w v n z cs) (hb : Below B w w') (hB : w.heap.size ≤ B) : SlC w' v n z cs := by
  obtain ⟨a, c, rfl, h2⟩ := h
  refine ⟨a, c, rfl, fun hn => ?_⟩
  obtain ⟨b, o, rfl, h3, h4⟩ := h2 hn
  exact ⟨b, o, rfl, Nat.lt_of_lt_of_le h3 hb.size, fun j hj => (h4 j hj).below hb (Nat.lt_of_lt_of_le h3 hB)⟩
theorem RelsAt.below {l : List Rl} (h : RelsAt w v l) (hb : Below w.heap.size w w') : RelsAt w' v l := SlC.below h hb (Nat.le_refl _)
theorem NotesAt.below {l : List Nt} (h : NotesAt w v l) (hb : Below w.heap.size w w') : NotesAt w' v l := SlC.below h hb (Nat.le_refl _)
theorem SymAt.below {s : Sy} (h : SymAt w v s) (hb : Below w.heap.size w w') : SymAt w' v s := by
  obtain ⟨vr, vn, h1, h2, h3⟩ := h
  exact ⟨vr, vn, h1, h2.below hb, h3.below hb⟩
theorem SymsAt.below {l : List Sy} (h : SymsAt w v l) (hb : Below w.heap.size w w') : SymsAt w' v l := by
  obtain ⟨R, N, h1, h2⟩ := h
  exact ⟨R, N, SlC.below h1 hb (Nat.le_refl _), fun j hj => ⟨(h2 j hj).1.below hb, (h2 j hj).2.below hb⟩⟩
theorem ObAt.below {o : Ob} (h : ObAt w v o) (hb : Below w.heap.size w w') : ObAt w' v o := by
  obtain ⟨vs, h1, h2⟩ := h
  exact ⟨vs, h1, h2.below hb⟩
theorem ObsAt.below {l : List Ob} (h : ObsAt w v l) (hb : Below w.heap.size w w') : ObsAt w' v l := by
  obtain ⟨S, h1, h2⟩ := h
  exact ⟨S, SlC.below h1 hb (Nat.le_refl _), fun j hj => (h2 j hj).below hb⟩
/-- A symbol of a list. -/
theorem SymsAt.sym {l : List Sy} (h : SymsAt w v l) {j : Nat} (hj : j < l.length) :
    ∃ a c b o vr vn, v = .slice a l.length c ∧ a = some ⟨b, o, none⟩ ∧ b < w.heap.size ∧ LieC w b (o + j * 7) (syCells (l.getD j Sy.nought) vr vn) ∧ RelsAt w vr (l.getD j Sy.nought).rels ∧ NotesAt w vn (l.getD j Sy.nought).notes := by
  obtain ⟨R, N, ⟨a, c, h1, h2⟩, h3⟩ := h
  obtain ⟨b, o, h4, h5, h6⟩ := h2 (by omega)
  exact ⟨a, c, b, o, R j, N j, h1, h4, h5, h6 j hj, (h3 j hj).1, (h3 j hj).2⟩
theorem SymAt.mk {s : Sy} {vr vn : Value} (h1 : RelsAt w vr s.rels) (h2 : NotesAt w vn s.notes) : SymAt w (.agg #[.string (tx s.name), .int .u8 s.bind, .int .u8 s.kind, .int .u32 s.size, .string (tx s.bytes), vr, vn]) s := ⟨vr, vn, rfl, h1, h2⟩
theorem LieC.rl {b o : Nat} {x : Rl} (h : LieC w b o (rlCells x)) : w.cell? ⟨b, o, none⟩ = some (.int .u32 x.off) ∧ w.cell? ⟨b, o + 1, none⟩ = some (.int .u8 x.kind) ∧ w.cell? ⟨b, o + 2, none⟩ = some (.string (tx x.name)) ∧ w.cell? ⟨b, o + 3, none⟩ = some (.int .u32 x.add) := ⟨h 0 _ rfl, h 1 _ rfl, h 2 _ rfl, h 3 _ rfl⟩
theorem LieC.nt {b o : Nat} {x : Nt} (h : LieC w b o (ntCells x)) : w.cell? ⟨b, o, none⟩ = some (.int .u8 x.kind) ∧ w.cell? ⟨b, o + 1, none⟩ = some (.int .u32 x.n) ∧ w.cell? ⟨b, o + 2, none⟩ = some (.int .u32 x.m) := ⟨h 0 _ rfl, h 1 _ rfl, h 2 _ rfl⟩
theorem LieC.sy {b o : Nat} {s : Sy} {vr vn : Value} (h : LieC w b o (syCells s vr vn)) : w.cell? ⟨b, o, none⟩ = some (.string (tx s.name)) ∧ w.cell? ⟨b, o + 1, none⟩ = some (.int .u8 s.bind) ∧ w.cell? ⟨b, o + 2, none⟩ = some (.int .u8 s.kind) ∧ w.cell? ⟨b, o + 3, none⟩ = some (.int .u32 s.size) ∧ w.cell? ⟨b, o + 4, none⟩ = some (.string (tx s.bytes)) ∧ w.cell? ⟨b, o + 5, none⟩ = some vr ∧ w.cell? ⟨b, o + 6, none⟩ = some vn := ⟨h 0 _ rfl, h 1 _ rfl, h 2 _ rfl, h 3 _ rfl, h 4 _ rfl, h 5 _ rfl, h 6 _ rfl⟩
theorem LieC.ob {b o : Nat} {x : Ob} {vs : Value} (h : LieC w b o (obCells x vs)) : w.cell? ⟨b, o, none⟩ = some (.string (tx x.name)) ∧ w.cell? ⟨b, o + 1, none⟩ = some vs := ⟨h 0 _ rfl, h 1 _ rfl⟩
end

/-- The symbols of a list, each with its own two slices. -/
theorem SymsAt.get {w : World} {v : Value} {l : List Sy} (h : SymsAt w v l) : ∃ a c, v = .slice a l.length c ∧ (0 < l.length → ∃ b o, a = some ⟨b, o, none⟩ ∧ b < w.heap.size ∧ ∀ j, j < l.length → ∃ vr vn, LieC w b (o + j * 7) (syCells (l.getD j Sy.nought) vr vn) ∧ RelsAt w vr (l.getD j Sy.nought).rels ∧ NotesAt w vn (l.getD j Sy.nought).notes) := by
  obtain ⟨R, N, ⟨a, c, rfl, h2⟩, h3⟩ := h
  refine ⟨a, c, rfl, fun hn => ?_⟩
  obtain ⟨b, o, h4, h5, h6⟩ := h2 hn
  exact ⟨b, o, h4, h5, fun j hj => ⟨R j, N j, h6 j hj, (h3 j hj).1, (h3 j hj).2⟩⟩

/-! what fits -/
def reach : Nat := 140737488355328
def rlFits (x : Rl) : Prop := (0 ≤ x.off ∧ x.off < 4294967296) ∧ (0 ≤ x.kind ∧ x.kind < 256) ∧ (0 ≤ x.add ∧ x.add < 4294967296) ∧ x.name.length ≤ 140737488355328
def ntFits (x : Nt) : Prop := (0 ≤ x.kind ∧ x.kind < 256) ∧ (0 ≤ x.n ∧ x.n < 4294967296) ∧ (0 ≤ x.m ∧ x.m < 4294967296)
def syFits (s : Sy) : Prop := s.name.length ≤ 140737488355328 ∧ (0 ≤ s.bind ∧ s.bind < 256) ∧ (0 ≤ s.kind ∧ s.kind < 256) ∧ (0 ≤ s.size ∧ s.size < 4294967296) ∧ s.bytes.length ≤ 140737488355328 ∧
  s.rels.length * 32 ≤ 140737488355328 ∧ s.notes.length * 12 ≤ 140737488355328 ∧ (∀ j, j < s.rels.length → rlFits (s.rels.getD j Rl.nought)) ∧ (∀ j, j < s.notes.length → ntFits (s.notes.getD j Nt.nought))
def obFits (o : Ob) : Prop := o.name.length ≤ 140737488355328 ∧ o.syms.length * 88 ≤ 140737488355328 ∧ ∀ j, j < o.syms.length → syFits (o.syms.getD j Sy.nought)
def obsFit (l : List Ob) : Prop := l.length * 40 ≤ 140737488355328 ∧ ∀ j, j < l.length → obFits (l.getD j Ob.nought)
end Go.Proofs.Ytbpdoiikleaidaa
end
