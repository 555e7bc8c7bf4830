/- Some texts of one proof, one behind the other; each has its own head below. -/
import Derived.Test.YtlnnhgmkibjgmaaDoorX01
import Derived.Test.YtlnnhgmkibjgmaaDoorX02
import Derived.Test.YtlnnhgmkibjgmaaDoorProg
import Derived.WalkKit
import Derived.WalkSpells
import Derived.WalkLawsBesides
import Derived.RegionTactic
import Derived.Lib.Hide
import Derived.Laws.Rows
import Derived.Laws.AppendOwn
import Derived.Deep.Slices
import Derived.Deep.MidRow
import Derived.SizedLaws
import Derived.ChangeArms
import Derived.OpenShut
import Derived.WalkArith
import Derived.Lib.BufferRead
import Derived.Laws.OwnMore
import Derived.Lib.BufferWrite
import Derived.Lib.UnsafeStr
import Derived.Laws.MakeOwn
import Derived.Lib.Strings
/- A block known whole; texts as lists of bytes. -/
section
set_option linter.unusedVariables false
namespace Go.Proofs.YtlnnhgmkibjgmaaDoor
open Go Go.RowKit

/-- Block g is just the cells cs of element type t, none frozen. -/
def Blk (w : World) (g : Nat) (t : TypeId) (cs : List Value) : Prop := w.heap[g]? = some (.cells cs.toArray t (0, 0))
section
variable {w w' : World} {g : Nat} {t : TypeId} {cs : List Value}
theorem Blk.lt (h : Blk w g t cs) : g < w.heap.size := by
  rcases Nat.lt_or_ge g w.heap.size with hlt | hge
  · exact hlt
  · unfold Blk at h; rw [Array.getElem?_eq_none hge] at h; cases h
theorem Blk.cell (h : Blk w g t cs) (i : Nat) : w.cell? ⟨g, i, none⟩ = cs[i]? := by rw [cell_of_row w g i _ t (0, 0) h]; simp
theorem Blk.frozen (h : Blk w g t cs) (i : Nat) : w.frozen? ⟨g, i, none⟩ = false := by
  unfold Blk at h
  simp [World.frozen?, h]
theorem Blk.new (w : World) (t : TypeId) (cs : List Value) : Blk (w.alloc (.cells cs.toArray t)) w.heap.size t cs := heap_alloc_new w _
theorem Blk.drew (h : Blk w g t cs) : Blk w.drew g t cs := h
theorem Blk.alloc (h : Blk w g t cs) (o : Obj) : Blk (w.alloc o) g t cs := (Below.heap_alloc w o g h.lt).trans h
theorem Blk.set_ (h : Blk w g t cs) (i : Nat) (u : Value) : Blk (w.setCell ⟨g, i, none⟩ u) g t (cs.set i u) := by
  unfold Blk at h ⊢
  simp [World.setCell, Array.getElem?_modify, h]
theorem Blk.far (h : Blk w g t cs) {p : Addr} (hp : g ≠ p.block) (u : Value) : Blk (w.setCell p u) g t cs := (Below.heap_setCell w p u g hp).trans h
theorem Blk.below {B : Nat} (h : Blk w g t cs) (hb : Below B w w') (hg : g < B) : Blk w' g t cs := (hb.block g hg).trans h
theorem Blk.grown {row : Option Nat} (h : Blk w g t cs) (hb : w.grownBy w' row) (hg : some g ≠ row) : Blk w' g t cs := (hb.block g h.lt hg).trans h
theorem Blk.same (h : Blk w g t cs) (hw : w'.heap[g]? = w.heap[g]?) : Blk w' g t cs := hw.trans h
theorem Blk.ne {j k : Nat} {t u : TypeId} {cs ds : List Value} (h1 : Blk w j t cs) (h2 : Blk w k u ds) (ht : t ≠ u) : j ≠ k := by
  rintro rfl
  unfold Blk at h1 h2
  rw [h1] at h2
  injection h2 with h2
  injection h2 with _ h2
  exact ht h2
theorem grown_set (w : World) (k i : Nat) (v : Value) : w.grownBy (w.setCell ⟨k, i, none⟩ v) (some k) :=
  ⟨rfl, rfl, rfl, by simp, fun j hj hr => Below.heap_setCell w ⟨k, i, none⟩ v j (by rintro rfl; exact hr rfl)⟩
theorem drewN_add (w : World) (a b : Nat) : (w.drewN a).drewN b = w.drewN (a + b) := by unfold World.drewN; simp [Nat.add_assoc]
theorem below_drewN (w : World) (n : Nat) : Below w.heap.size w (w.drewN n) := ⟨rfl, rfl, rfl, Nat.le_refl _, fun _ _ => rfl⟩
end

/-! texts -/
/-- A text of these bytes. -/
def tx (l : List UInt8) : ByteArray := ⟨l.toArray⟩
def by' (s : ByteArray) : List UInt8 := s.data.toList
theorem tx_size (l : List UInt8) : (tx l).size = l.length := by show l.toArray.size = _; simp
theorem by_length (s : ByteArray) : (by' s).length = s.size := rfl
theorem by_tx (l : List UInt8) : by' (tx l) = l := by simp [by', tx]
theorem tx_by (s : ByteArray) : tx (by' s) = s := by
  apply ByteArray.ext
  simp [by', tx]
theorem tx_inj {a b : List UInt8} (h : tx a = tx b) : a = b := by rw [← by_tx a, ← by_tx b, h]
theorem tx_append (a b : List UInt8) : tx a ++ tx b = tx (a ++ b) := by
  apply ByteArray.ext
  simp [tx]
theorem tx_take (l : List UInt8) (k : Nat) : (tx l).extract 0 k = tx (l.take k) := by
  apply ByteArray.ext
  rw [ByteArray.data_extract]
  simp [tx]
theorem tx_drop (l : List UInt8) (k n : Nat) (h : n = l.length) : (tx l).extract k n = tx (l.drop k) := by
  subst h
  apply ByteArray.ext
  rw [ByteArray.data_extract]
  simp only [tx, List.extract_toArray, List.extract_eq_take_drop]
  rw [List.take_of_length_le (by rw [List.length_drop]; omega)]
end Go.Proofs.YtlnnhgmkibjgmaaDoor
end

/- Objects, symbols, relocations and notes in memory: what reads as which. -/
section
set_option linter.unusedVariables false
namespace Go.Proofs.YtlnnhgmkibjgmaaDoor
open Go Go.RowKit Oj

def rlCells (x : Rl) : List Value := [.int .u32 x.off, .int .u8 x.kind, .string (tx x.name), .int .u32 x.add]
def ntCells (x : Nt) : List Value := [.int .u8 x.kind, .int .u32 x.n, .int .u32 x.m]
def syCells (s : Sy) (vr vn : Value) : List Value := [.string (tx s.name), .int .u8 s.bind, .int .u8 s.kind, .int .u32 s.size, .string (tx s.bytes), vr, vn]
def obCells (o : Ob) (vs : Value) : List Value := [.string (tx o.name), vs]

/-- These cells lie at the place. -/
def LieC (w : World) (b o : Nat) (cs : List Value) : Prop := ∀ i v, cs[i]? = some v → w.cell? ⟨b, o + i, none⟩ = some v
/-- A slice of n elements of z cells each. -/
def SlC (w : World) (v : Value) (n z : Nat) (cs : Nat → List Value) : Prop :=
  ∃ a c, v = .slice a n c ∧ (0 < n → ∃ b o, a = some ⟨b, o, none⟩ ∧ b < w.heap.size ∧ ∀ j, j < n → LieC w b (o + j * z) (cs j))
def RelsAt (w : World) (v : Value) (l : List Rl) : Prop := SlC w v l.length 4 fun j => rlCells (l.getD j Rl.nought)
def NotesAt (w : World) (v : Value) (l : List Nt) : Prop := SlC w v l.length 3 fun j => ntCells (l.getD j Nt.nought)
def SymAt (w : World) (v : Value) (s : Sy) : Prop := ∃ vr vn, v = .agg #[.string (tx s.name), .int .u8 s.bind, .int .u8 s.kind, .int .u32 s.size, .string (tx s.bytes), vr, vn] ∧ RelsAt w vr s.rels ∧ NotesAt w vn s.notes
def SymsAt (w : World) (v : Value) (l : List Sy) : Prop :=
  ∃ R N : Nat → Value, SlC w v l.length 7 (fun j => syCells (l.getD j Sy.nought) (R j) (N j)) ∧ ∀ j, j < l.length → RelsAt w (R j) (l.getD j Sy.nought).rels ∧ NotesAt w (N j) (l.getD j Sy.nought).notes
def ObAt (w : World) (v : Value) (o : Ob) : Prop := ∃ vs, v = .agg #[.string (tx o.name), vs] ∧ SymsAt w vs o.syms
def ObsAt (w : World) (v : Value) (l : List Ob) : Prop :=
  ∃ S : Nat → Value, SlC w v l.length 2 (fun j => obCells (l.getD j Ob.nought) (S j)) ∧ ∀ j, j < l.length → SymsAt w (S j) (l.getD j Ob.nought).syms

section
variable {w w' : World} {B : Nat} {v : Value}
theorem LieC.below {b o : Nat} {cs : List Value} (h : LieC w b o cs) (hb : Below B w w') (hB : b < B) : LieC w' b o cs := fun i u hu => (hb.cell (p := ⟨b, o + i, none⟩) hB).trans (h i u hu)
theorem SlC.below {n z : Nat} {cs : Nat → List Value} (h : SlC w v n z cs) (hb : Below B w w') (hB : w.heap.size ≤ B) : SlC w' v n z cs := by
  obtain ⟨a, c, rfl, h2⟩ := h
  refine ⟨a, c, rfl, fun hn => ?_⟩
  obtain ⟨b, o, rfl, h3, h4⟩ := h2 hn
  exact ⟨b, o, rfl, Nat.lt_of_lt_of_le h3 hb.size, fun j hj => (h4 j hj).below hb (Nat.lt_of_lt_of_le h3 hB)⟩
theorem RelsAt.below {l : List Rl} (h : RelsAt w v l) (hb : Below w.heap.size w w') : RelsAt w' v l := SlC.below h hb (Nat.le_refl _)
theorem NotesAt.below {l : List Nt} (h : NotesAt w v l) (hb : Below w.heap.size w w') : NotesAt w' v l := SlC.below h hb (Nat.le_refl _)
theorem SymAt.below {s : Sy} (h : SymAt w v s) (hb : Below w.heap.size w w') : SymAt w' v s := by
  obtain ⟨vr, vn, h1, h2, h3⟩ := h
  exact ⟨vr, vn, h1, h2.below hb, h3.below hb⟩
theorem SymsAt.below {l : List Sy} (h : SymsAt w v l) (hb : Below w.heap.size w w') : SymsAt w' v l := by
  obtain ⟨R, N, h1, h2⟩ := h
  exact ⟨R, N, SlC.below h1 hb (Nat.le_refl _), fun j hj => ⟨(h2 j hj).1.below hb, (h2 j hj).2.below hb⟩⟩
theorem ObAt.below {o : Ob} (h : ObAt w v o) (hb : Below w.heap.size w w') : ObAt w' v o := by
  obtain ⟨vs, h1, h2⟩ := h
  exact ⟨vs, h1, h2.below hb⟩
theorem ObsAt.below {l : List Ob} (h : ObsAt w v l) (hb : Below w.heap.size w w') : ObsAt w' v l := by
  obtain ⟨S, h1, h2⟩ := h
  exact ⟨S, SlC.below h1 hb (Nat.le_refl _), fun j hj => (h2 j hj).below hb⟩
/-- A symbol of a list. -/
theorem SymsAt.sym {l : List Sy} (h : SymsAt w v l) {j : Nat} (hj : j < l.length) :
    ∃ a c b o vr vn, v = .slice a l.length c ∧ a = some ⟨b, o, none⟩ ∧ b < w.heap.size ∧ LieC w b (o + j * 7) (syCells (l.getD j Sy.nought) vr vn) ∧ RelsAt w vr (l.getD j Sy.nought).rels ∧ NotesAt w vn (l.getD j Sy.nought).notes := by
  obtain ⟨R, N, ⟨a, c, h1, h2⟩, h3⟩ := h
  obtain ⟨b, o, h4, h5, h6⟩ := h2 (by omega)
  exact ⟨a, c, b, o, R j, N j, h1, h4, h5, h6 j hj, (h3 j hj).1, (h3 j hj).2⟩
theorem SymAt.mk {s : Sy} {vr vn : Value} (h1 : RelsAt w vr s.rels) (h2 : NotesAt w vn s.notes) : SymAt w (.agg #[.string (tx s.name), .int .u8 s.bind, .int .u8 s.kind, .int .u32 s.size, .string (tx s.bytes), vr, vn]) s := ⟨vr, vn, rfl, h1, h2⟩
theorem LieC.rl {b o : Nat} {x : Rl} (h : LieC w b o (rlCells x)) : w.cell? ⟨b, o, none⟩ = some (.int .u32 x.off) ∧ w.cell? ⟨b, o + 1, none⟩ = some (.int .u8 x.kind) ∧ w.cell? ⟨b, o + 2, none⟩ = some (.string (tx x.name)) ∧ w.cell? ⟨b, o + 3, none⟩ = some (.int .u32 x.add) := ⟨h 0 _ rfl, h 1 _ rfl, h 2 _ rfl, h 3 _ rfl⟩
theorem LieC.nt {b o : Nat} {x : Nt} (h : LieC w b o (ntCells x)) : w.cell? ⟨b, o, none⟩ = some (.int .u8 x.kind) ∧ w.cell? ⟨b, o + 1, none⟩ = some (.int .u32 x.n) ∧ w.cell? ⟨b, o + 2, none⟩ = some (.int .u32 x.m) := ⟨h 0 _ rfl, h 1 _ rfl, h 2 _ rfl⟩
theorem LieC.sy {b o : Nat} {s : Sy} {vr vn : Value} (h : LieC w b o (syCells s vr vn)) : w.cell? ⟨b, o, none⟩ = some (.string (tx s.name)) ∧ w.cell? ⟨b, o + 1, none⟩ = some (.int .u8 s.bind) ∧ w.cell? ⟨b, o + 2, none⟩ = some (.int .u8 s.kind) ∧ w.cell? ⟨b, o + 3, none⟩ = some (.int .u32 s.size) ∧ w.cell? ⟨b, o + 4, none⟩ = some (.string (tx s.bytes)) ∧ w.cell? ⟨b, o + 5, none⟩ = some vr ∧ w.cell? ⟨b, o + 6, none⟩ = some vn := ⟨h 0 _ rfl, h 1 _ rfl, h 2 _ rfl, h 3 _ rfl, h 4 _ rfl, h 5 _ rfl, h 6 _ rfl⟩
theorem LieC.ob {b o : Nat} {x : Ob} {vs : Value} (h : LieC w b o (obCells x vs)) : w.cell? ⟨b, o, none⟩ = some (.string (tx x.name)) ∧ w.cell? ⟨b, o + 1, none⟩ = some vs := ⟨h 0 _ rfl, h 1 _ rfl⟩
end

/-- The symbols of a list, each with its own two slices. -/
theorem SymsAt.get {w : World} {v : Value} {l : List Sy} (h : SymsAt w v l) : ∃ a c, v = .slice a l.length c ∧ (0 < l.length → ∃ b o, a = some ⟨b, o, none⟩ ∧ b < w.heap.size ∧ ∀ j, j < l.length → ∃ vr vn, LieC w b (o + j * 7) (syCells (l.getD j Sy.nought) vr vn) ∧ RelsAt w vr (l.getD j Sy.nought).rels ∧ NotesAt w vn (l.getD j Sy.nought).notes) := by
  obtain ⟨R, N, ⟨a, c, rfl, h2⟩, h3⟩ := h
  refine ⟨a, c, rfl, fun hn => ?_⟩
  obtain ⟨b, o, h4, h5, h6⟩ := h2 hn
  exact ⟨b, o, h4, h5, fun j hj => ⟨R j, N j, h6 j hj, (h3 j hj).1, (h3 j hj).2⟩⟩

/-! what fits -/
def reach : Nat := 140737488355328
def rlFits (x : Rl) : Prop := (0 ≤ x.off ∧ x.off < 4294967296) ∧ (0 ≤ x.kind ∧ x.kind < 256) ∧ (0 ≤ x.add ∧ x.add < 4294967296) ∧ x.name.length ≤ 140737488355328
def ntFits (x : Nt) : Prop := (0 ≤ x.kind ∧ x.kind < 256) ∧ (0 ≤ x.n ∧ x.n < 4294967296) ∧ (0 ≤ x.m ∧ x.m < 4294967296)
def syFits (s : Sy) : Prop := s.name.length ≤ 140737488355328 ∧ (0 ≤ s.bind ∧ s.bind < 256) ∧ (0 ≤ s.kind ∧ s.kind < 256) ∧ (0 ≤ s.size ∧ s.size < 4294967296) ∧ s.bytes.length ≤ 140737488355328 ∧
  s.rels.length * 32 ≤ 140737488355328 ∧ s.notes.length * 12 ≤ 140737488355328 ∧ (∀ j, j < s.rels.length → rlFits (s.rels.getD j Rl.nought)) ∧ (∀ j, j < s.notes.length → ntFits (s.notes.getD j Nt.nought))
def obFits (o : Ob) : Prop := o.name.length ≤ 140737488355328 ∧ o.syms.length * 88 ≤ 140737488355328 ∧ ∀ j, j < o.syms.length → syFits (o.syms.getD j Sy.nought)
def obsFit (l : List Ob) : Prop := l.length * 40 ≤ 140737488355328 ∧ ∀ j, j < l.length → obFits (l.getD j Ob.nought)
end Go.Proofs.YtlnnhgmkibjgmaaDoor
end

/- Objects that came in, opened: what lies under them, and that it fits. -/
section
set_option linter.unusedVariables false
namespace Go.Proofs.YtlnnhgmkibjgmaaDoor
open Go Go.ChangeShapes Go.WideShapes Go.RowKit Oj

/-- All that a reading holds is within the reach. -/
def Sm {H : Type} (P : Program) (t : TypeId) (d : DataW H) : Prop := ∀ m ∈ d.weights P t, m ≤ reachBytes
section
variable {H : Type} {P : Program}
theorem sm_each {ts : List TypeId} {ds : List (DataW H)} (h : (DataW.weightsEach P ts ds).all (· ≤ reachBytes) = true) {j : Nat} {t : TypeId} {d : DataW H} (ht : ts[j]? = some t) (hd : ds[j]? = some d) : Sm P t d := by
  intro m hm
  have := List.all_eq_true.1 h _ (DataW.weights_mem_each ht hd m hm)
  simpa using this
theorem sm_field {t ft : TypeId} {fs : Array Field} {parts : List (DataW H)} (hu : P.underlying t = some (.struct fs)) (h : Sm P t (.agg parts)) {i : Nat} {d : DataW H} (hf : (fs.toList.map (·.type))[i]? = some ft) (hd : parts[i]? = some d) : Sm P ft d := by
  intro m hm
  refine h m ?_
  simp only [DataW.weights, hu]
  exact DataW.weights_mem_each hf hd m hm
theorem mem_weightsAll {e : TypeId} : ∀ {l : List (DataW H)} {d : DataW H}, d ∈ l → ∀ m ∈ d.weights P e, m ∈ DataW.weightsAll P e l
  | d0 :: r, d, hd, m, hm => by
    simp only [DataW.weightsAll, List.mem_append]
    rcases List.mem_cons.1 hd with h | h
    · subst h; exact .inl hm
    · exact .inr (mem_weightsAll h m hm)
theorem sm_slice {t e : TypeId} {elems spare : List (DataW H)} (hu : P.underlying t = some (.slice e)) (h : Sm P t (.slice elems spare)) : (elems.length + spare.length) * P.bytesOf e ≤ reachBytes ∧ ∀ d ∈ elems, Sm P e d := by
  refine ⟨h _ ?_, fun d hd m hm => h m ?_⟩
  · simp only [DataW.weights, hu, List.mem_cons, true_or]
  · simp only [DataW.weights, hu, List.mem_cons, List.mem_append]
    exact .inr (.inl (mem_weightsAll hd m hm))
theorem sm_str {t : TypeId} {b : List UInt8} (h : Sm P t (.lit (.string b) : DataW H)) : b.length ≤ reachBytes := h _ (by simp [DataW.weights])
theorem reach_le2 : reachBytes ≤ 140737488355328 := by decide

theorem SlC.congr {w : World} {v : Value} {n z : Nat} {cs ds : Nat → List Value} (h : SlC w v n z cs) (he : ∀ j, j < n → cs j = ds j) : SlC w v n z ds := by
  obtain ⟨a, c, rfl, h2⟩ := h
  refine ⟨a, c, rfl, fun hn => ?_⟩
  obtain ⟨b, o, h3, h4, h5⟩ := h2 hn
  exact ⟨b, o, h3, h4, fun j hj => by rw [← he j hj]; exact h5 j hj⟩

variable {enc : TypeId × Value → H} {W : World} {spare : Nat → Bool} {held : Bool}
/-- A slice that came in, each of whose elements reads as something. -/
theorem open_sl {α : Type} (dflt : α) {t e : TypeId} {z bytes : Nat} (ht : P.underlying t = some (.slice e)) (hz : P.cellsOf e = z) (hz0 : 0 < z) (hb : P.bytesOf e = bytes) (Q : α → List Value → Prop)
    (hQ : ∀ m cs x, DataW.trod enc P W 0 spare held m e cs = some x → Sm P e x.1 → ∃ a, Q a cs)
    {fuel : Nat} {cs : List Value} {x : DataW H × List MemPlace} (h : DataW.trod enc P W 0 spare held fuel t cs = some x) (hs : Sm P t x.1) :
    ∃ (v : Value) (n : Nat) (X : Nat → α) (CS : Nat → List Value), cs = [v] ∧ SlC W v n z CS ∧ n * bytes ≤ reachBytes ∧ ∀ j, j < n → Q (X j) (CS j) := by
  rcases Go.Deep.open_slice ht h with ⟨hcs, _⟩ | ⟨a, len, cap, m, n', D, Pl, hcs, _, hl, hmx, hmm, hx, hcell⟩
  · exact ⟨.slice none 0 0, 0, fun _ => dflt, fun _ => [], hcs, ⟨none, 0, rfl, fun h => absurd h (Nat.lt_irrefl 0)⟩, by simp, fun j hj => absurd hj (Nat.not_lt_zero j)⟩
  · rw [hz] at hcell
    rw [hx] at hs
    obtain ⟨h1, h2⟩ := sm_slice ht hs
    have hle : len ≤ m := by rw [hmm]; split <;> omega
    have hel : ∀ i, ∃ y : α × List Value, i < len → W.cells? 0 (a.add (i * z)) z = some y.2 ∧ Q y.1 y.2 := by
      intro i
      by_cases hi : i < len
      · obtain ⟨cs', h3, h4⟩ := hcell i (by omega)
        obtain ⟨y, hy⟩ := hQ _ _ _ h4 (h2 _ (List.mem_map.2 ⟨i, List.mem_range.2 hi, rfl⟩))
        exact ⟨(y, cs'), fun _ => ⟨h3, hy⟩⟩
      · exact ⟨(dflt, []), fun h => absurd h hi⟩
    obtain ⟨X, hX⟩ := Classical.axiomOfChoice hel
    refine ⟨.slice (some a) len cap, len, fun i => (X i).1, fun i => (X i).2, hcs, ⟨_, _, rfl, fun hn => ?_⟩, ?_, fun j hj => (hX j hj).2⟩
    · obtain ⟨b, o, spot⟩ := a
      obtain ⟨_, hl0, hj0⟩ := World.cells?_some (hX 0 hn).1
      have c00 := hj0 0 hz0
      rw [List.getElem?_eq_getElem (by omega)] at c00
      have hspot : spot = none := by simpa [Addr.add] using World.cell?_spot c00
      subst hspot
      refine ⟨b, o, rfl, ?_, fun j hj i u hu => ?_⟩
      · rcases Nat.lt_or_ge b W.heap.size with h | h
        · exact h
        · rw [Addr.add_mid, Addr.add_mid] at c00
          simp [World.cell?, Array.getElem?_eq_none h] at c00
      · obtain ⟨_, hlj, hjj⟩ := World.cells?_some (hX j hj).1
        have hi : i < z := by rw [← hlj]; exact (List.getElem?_eq_some_iff.1 hu).1
        have := hjj i hi
        rw [Addr.add_mid, Addr.add_mid] at this
        rw [this]
        exact hu
    · have h3 : len * bytes ≤ (((List.range len).map D).length + ((List.range (m - len)).map fun j => D (len + j)).length) * P.bytesOf e := by
        rw [hb]
        exact Nat.mul_le_mul_right _ (by simp)
      exact Nat.le_trans h3 h1
end
end Go.Proofs.YtlnnhgmkibjgmaaDoor
end

/- A slice of bytes of the call's own. -/
section
set_option linter.unusedVariables false
namespace Go.Proofs.YtlnnhgmkibjgmaaDoor
open Go.RowKit

theorem vi' {k : IntKind} {a b : Int} (h : a = b) : Value.int k a = Value.int k b := by rw [h]

/-- A slice of the call's own that holds the bytes l. -/
def Own (B : Nat) (l : List UInt8) (v : Value) (w : World) : Prop := w.ownsRow B 5 1 v l.length (Lib.byteCells l)

theorem own_nil (B : Nat) (w : World) : Own B [] (.slice none 0 0) w := World.ownsRow_nil _ _ _ _

theorem own_text {B : Nat} {l : List UInt8} {v : Value} {w : World} (h : Own B l v w) : (convert 56 9 v).run Tryd.prog w = .ok (.string ⟨l.toArray⟩) w := by
  unfold Own at h
  rcases h.2 with ⟨rfl, h0⟩ | ⟨g, cap, cur, rfl, hBg, hg, hnc, hcm, hcs, htk⟩
  · have : l = [] := by simpa using h0
    subst this
    exact Lib.run_convert_nil_bytes w 56 9 5 0 Tryd.underlying56 Tryd.underlying5 Tryd.underlying9
  · exact run_convert_bytes_back w 56 9 5 ⟨g, 0, none⟩ cap l Tryd.underlying56 Tryd.underlying5 Tryd.underlying9 (Lib.bytes_of_row hg (by simpa using htk))

theorem own_slice {B : Nat} {l : List UInt8} {v : Value} {w : World} (h : Own B l v w) : ∃ a n c, v = .slice a n c := by
  unfold Own at h
  rcases h.2 with ⟨rfl, _⟩ | ⟨g, cap, cur, rfl, _⟩
  · exact ⟨_, _, _, rfl⟩
  · exact ⟨_, _, _, rfl⟩

theorem own_one {B : Nat} {l : List UInt8} {x : UInt8} {v : Value} {w : World} {y : Int} (hy : y = (x.toNat : Int)) (h : w.ownsRow B 5 1 v (l.length + 1) (Lib.byteCells l ++ [.int .u8 y])) : Own B (l ++ [x]) v w := by
  unfold Own
  rw [List.length_append, Lib.byteCells_append, hy] at *
  exact h

theorem new_one (W : World) (x : Value) : ∀ j u, [x][j]? = some u → (W.alloc (.cells #[x] 5)).cell? ((⟨W.heap.size, 0, none⟩ : Addr).add j) = some u := by
  intro j u hj
  have hnew : (W.alloc (.cells #[x] 5)).heap[W.heap.size]? = some (.cells #[x] 5 (0, 0)) := heap_alloc_new W _
  rcases j with _ | j
  · simp at hj; subst hj
    show (W.alloc (.cells #[x] 5)).cell? ⟨W.heap.size, 0, none⟩ = _
    rw [Lib.cell_of_heap hnew]; rfl
  · simp at hj

theorem ret_str {l l' : List UInt8} (h : l = l') : Ending.returned (.string ⟨l.toArray⟩) = .returned (.string ⟨l'.toArray⟩) := by rw [h]

theorem app_below {B n : Nat} {l : List UInt8} {v : Value} {w wr w1 : World} {X : Obj} (hb : Below B w wr) (hB : B ≤ wr.heap.size) (hown : wr.ownsRow B 5 1 v n (Lib.byteCells l)) (hg : (wr.alloc X).grownBy w1 v.ownBlock) : Below B w w1 :=
  (hb.alloc hB X).grown hg (by simp; omega) (fun k hk => (hown.lt k hk).1)

end Go.Proofs.YtlnnhgmkibjgmaaDoor
end

/- A text anew (strings.Clone). -/
section
set_option linter.unusedVariables false
namespace Go.Proofs.YtlnnhgmkibjgmaaDoor
open Go Go.RowKit

theorem cellsByte : Tryd.prog.cellsOf 5 = 1 := by kernel_rfl
set_option maxHeartbeats 1000000 in
set_option maxRecDepth 100000 in
/-- A text laid anew reads the same. -/
theorem clone_any (s : ByteArray) (hs : s.size ≤ 140737488355328) (w : World) : Calls Tryd.prog 75 #[.string s] w fun e w' => e = .returned (.string s) ∧ Below w.heap.size w w' := by
  by_cases h0 : s.size = 0
  · obtain rfl : s = ⟨#[]⟩ := ByteArray.ext (Array.eq_empty_of_size_eq_zero h0)
    clear h0 hs
    go_enter Tryd.func75, Tryd.ntmps75
    go_wp2
    go_ret
    exact ⟨rfl, Below.refl _ _⟩
  · obtain ⟨i0, hi, hz0, hz1, hz2⟩ := info_parts infoByte
    have hl : s.data.toList.length = s.size := rfl
    have hne : s.data.toList ≠ [] := fun e => h0 (by rw [← hl, e]; rfl)
    obtain ⟨M, hM⟩ : ∃ M, M = madeCells (Value.int .u8 0).cells (((s.size : Nat) : Int).toNat * i0.size) := ⟨_, rfl⟩
    have hMs : M.size = s.size := by rw [hM, size_madeCells, hz1]; simp
    have mk := run_make (P := Tryd.prog) w 56 5 i0 (.int .u8 0) Tryd.underlying56 hi hz0 .i64 .i64 (s.size : Int) (s.size : Int) (by omega) (by omega) (by rw [hz2]; omega) (by omega)
    rw [← hM] at mk
    simp only [Int.toNat_natCast] at mk
    obtain ⟨wa, hwa⟩ : ∃ wa, wa = w.alloc (.cells M 5) := ⟨_, rfl⟩
    have hga : wa.heap[w.heap.size]? = some (.cells M 5 (0, 0)) := by rw [hwa]; exact heap_alloc_new w _
    rw [← hwa] at mk
    have cp := Lib.run_copy_row_string (P := Tryd.prog) wa 56 9 3 5 w.heap.size 0 s.size s.size s M 5 Tryd.underlying56 (by rw [hi]; simp [hz1]) hga (Nat.le_refl _) (by omega)
    obtain ⟨Y, hY⟩ : ∃ Y, Y = (M.toList.take 0 ++ Lib.byteCells s.data.toList ++ M.toList.drop (0 + s.size)).toArray := ⟨_, rfl⟩
    rw [← hY] at cp
    have hYl : Y.toList = Lib.byteCells s.data.toList := by
      rw [hY, List.take_zero, List.nil_append, List.drop_of_length_le (by simp; omega), List.append_nil]
    have hYs : Y.size = s.size := by rw [← Array.length_toList, hYl, Lib.byteCells_length]; exact hl
    obtain ⟨wb, hwb⟩ : ∃ wb, wb = wa.setRow w.heap.size Y := ⟨_, rfl⟩
    have hgb : wb.heap[w.heap.size]? = some (.cells Y 5 (0, 0)) := by rw [hwb]; exact setRow_heap _ _ M _ 5 (0, 0) hga
    rw [← hwb] at cp
    have us := Lib.run_unsafeString_row (P := Tryd.prog) wb 125 3 9 5 Tryd.underlying125 cellsByte w.heap.size Y.size (by unfold World.shape?; rw [hgb]) s.data.toList hne (by rw [hl, hYs]; exact Nat.le_refl _) (by rw [hl]; omega)
      (fun j x hx => Lib.cells_of_row hgb Y.size j _ (by rw [List.take_of_length_le (by simp), hYl]; simp [Lib.byteCells, hx]))
    rw [hl] at us
    have hb : Below w.heap.size w wb := by
      rw [hwb, hwa]
      exact ⟨rfl, rfl, rfl, by simp, fun k hk => (setRow_other _ _ _ _ (by omega)).trans (Below.heap_alloc _ _ _ hk)⟩
    have HB := Lib.hid (Lib.below_freeze hb (p := ⟨w.heap.size, 0, none⟩) (Nat.le_refl _) s.size)
    clear hb hY hYl hYs hM hMs hi hz0 hz1 hz2 hga hgb hne hl hwa hwb
    go_enter Tryd.func75, Tryd.ntmps75
    go_wp2
    go_ret
    exact ⟨rfl, HB.out⟩
theorem sclone_any (s : ByteArray) (hs : s.size ≤ 140737488355328) (w : World) : Calls Tryd.prog 56 #[.string s] w fun e w' => e = .returned (.string s) ∧ Below w.heap.size w w' := by
  have HC := Lib.hid (clone_any s hs w)
  go_enter Tryd.func56, Tryd.ntmps56
  go_wp2_with fail
  refine HC.out.mono ?_; rintro x w1 ⟨rfl, q⟩
  have HQ := Lib.hid q
  clear q HC
  go_wp2
  go_ret
  exact ⟨rfl, HQ.out⟩

end Go.Proofs.YtlnnhgmkibjgmaaDoor
end
