/- Objects read symbol by symbol; places; the table of winners, a map by names. -/
import Derived.Test.YtfnofolahhoggaaUM
import Derived.Test.YtfnofolahhoggaaNB
import Derived.Test.YtfnofolahhoggaaOO
import Derived.Laws.ResultCell
import Derived.Maps.OwnSet
import Derived.StringKeys
import Derived.Deep.DeepCutAuto
set_option linter.unusedVariables false
set_option linter.unusedSimpArgs false
namespace Go.Proofs.Ytfnofolahhoggaa
open Go Go.RowKit Go.Maps Oj Rv

/-- The objects of a list, each with its symbols. -/
theorem ObsAt.two {w : World} {v : Value} {l : List Ob} (h : ObsAt w v l) : ∃ a c, v = .slice a l.length c ∧ ∀ i, i < l.length → ∃ b o ai ci, a = some ⟨b, o, none⟩ ∧ b < w.heap.size ∧ w.cell? ⟨b, o + i * 2, none⟩ = some (.string (tx (l.getD i Ob.nought).name)) ∧ w.cell? ⟨b, o + i * 2 + 1, none⟩ = some (.slice ai (symsN l i).length ci) ∧
    ∀ j, j < (symsN l i).length → ∃ bi oi vr vn, ai = some ⟨bi, oi, none⟩ ∧ bi < w.heap.size ∧ LieC w bi (oi + j * 7) (syCells (symP l (i, j)) vr vn) ∧ RelsAt w vr (symP l (i, j)).rels ∧ NotesAt w vn (symP l (i, j)).notes := by
  obtain ⟨S, ⟨a, c, rfl, h2⟩, h3⟩ := h
  refine ⟨a, c, rfl, fun i hi => ?_⟩
  obtain ⟨b, o, rfl, h5, h6⟩ := h2 (by omega)
  have h7 := (h6 i hi).ob
  obtain ⟨ai, ci, hS, h8⟩ := (h3 i hi).get
  refine ⟨b, o, ai, ci, rfl, h5, h7.1, ?_, fun j hj => ?_⟩
  · rw [h7.2, hS]; rfl
  · obtain ⟨bi, oi, rfl, h9, h10⟩ := h8 (by unfold symsN at hj; omega)
    obtain ⟨vr, vn, h11⟩ := h10 j hj
    exact ⟨bi, oi, vr, vn, rfl, h9, h11⟩
/-- One of the objects, whole. -/
theorem ObsAt.one {w : World} {v : Value} {l : List Ob} (h : ObsAt w v l) : ∃ a c, v = .slice a l.length c ∧ (0 < l.length → ∃ b o, a = some ⟨b, o, none⟩ ∧ b < w.heap.size ∧ ∀ i, i < l.length → ∃ vs, w.cell? ⟨b, o + i * 2, none⟩ = some (.string (tx (l.getD i Ob.nought).name)) ∧ w.cell? ⟨b, o + i * 2 + 1, none⟩ = some vs ∧ SymsAt w vs (symsN l i)) := by
  obtain ⟨S, ⟨a, c, rfl, h2⟩, h3⟩ := h
  refine ⟨a, c, rfl, fun hn => ?_⟩
  obtain ⟨b, o, rfl, h5, h6⟩ := h2 hn
  exact ⟨b, o, rfl, h5, fun i hi => ⟨S i, (h6 i hi).ob.1, (h6 i hi).ob.2, h3 i hi⟩⟩

/-- The world ahead of a piece of code, by a name. -/
theorem wp_nameA {P : Program} {c : Code} {Q : Exit → Act → World → Prop} {a : Act} {W : World} (h : ∀ w', w' = W → c.wp P Q a w') : c.wp P Q a W := h W rfl
/-! places -/
def plV (o : Option (Nat × Nat)) : Value := .agg #[.int .i64 ((o.getD (0, 0)).1 : Int), .int .i64 ((o.getD (0, 0)).2 : Int)]
def plT (o : Option (Nat × Nat)) : Value := .tuple #[plV o, .bool o.isSome]
theorem infoPlace : (Try.prog.info? 24).map (·.size) = some 2 := by kernel_rfl
theorem infoPlace' : (Try.prog.info? 24).map (fun i => (i.zero, i.size, i.bytes)) = some (some (.agg #[.int .i64 0, .int .i64 0]), 2, 16) := by kernel_rfl
/-- What a function hands back out of a variable that holds a place, and one more. -/
theorem res_pl_tmp {fn : Func} {p u : Tmp} (h : fn.results = #[.cell p 24, .tmp u]) (tmps : Array Value) (w : World) (k : Nat) (a b v : Value) (hp : tmps.getD p undef = .pointer (some ⟨k, 0, none⟩)) (hv : tmps.getD u undef = v)
    (hb : Blk w k 24 [a, b]) : (results fn tmps).run Try.prog w = .ok (.tuple #[.agg #[a, b], v]) w := by
  have hb' : w.heap[k]? = some (.cells #[a, b] 24 (0, 0)) := hb
  rw [results_cell_tmp h, hp, hv]
  simp [asAddr, Result.andThen, run_loadVar_row w k 24 24 _ (0, 0) _ hb' Try.underlying24 rfl infoPlace]
theorem Blk.put2 {w : World} {g : Nat} {t : TypeId} {a b : Value} (h : Blk w g t [a, b]) (x y : Value) : Blk ((w.setCell ⟨g, 0, none⟩ x).setCell ⟨g, 1, none⟩ y) g t [x, y] := (h.set_ 0 x).set_ 1 y
/-- What a store of a place into a variable asks. -/
theorem Blk.st2 {w : World} {g : Nat} {t : TypeId} {a b : Value} (h : Blk w g t [a, b]) : w.cell? ⟨g, 0, none⟩ = some a ∧ w.cell? ⟨g, 1, none⟩ = some b ∧ w.frozen? ⟨g, 0, none⟩ = false ∧ w.frozen? ⟨g, 1, none⟩ = false ∧ g < w.heap.size := ⟨h.cell 0, h.cell 1, h.frozen 0, h.frozen 1, h.lt⟩
theorem below_set' {w wr : World} (hb : Below w.heap.size w wr) {g : Nat} (hg : w.heap.size ≤ g) (i : Nat) (u : Value) : Below w.heap.size w (wr.setCell ⟨g, i, none⟩ u) := hb.setCell hg u
theorem below_put2 {w0 w : World} (h : Below w0.heap.size w0 w) {g : Nat} (hg : w0.heap.size ≤ g) (x y : Value) : Below w0.heap.size w0 ((w.setCell ⟨g, 0, none⟩ x).setCell ⟨g, 1, none⟩ y) := below_set' (below_set' h hg 0 x) hg 1 y
theorem grown_put2 (w : World) (g : Nat) (x y : Value) : w.grownBy ((w.setCell ⟨g, 0, none⟩ x).setCell ⟨g, 1, none⟩ y) (some g) := (grown_set w g 0 x).trans (grown_set _ g 1 y)

/-! the table of winners -/
def enV (o : Option ((Nat × Nat) × Bool)) : Value := .agg #[.int .i64 ((o.getD ((0, 0), false)).1.1 : Int), .int .i64 ((o.getD ((0, 0), false)).1.2 : Int), .bool (o.getD ((0, 0), false)).2]
theorem keyedS : Keyed Try.prog 9 := string_keyed Try.underlying9
theorem isKeyS (s : List UInt8) : WideAt.IsKeyLit (.string s) := by trivial
theorem zeroE (w : World) : (zeroValue 78).run Try.prog w = .ok (.agg #[.int .i64 0, .int .i64 0, .bool false]) w := by kernel_rfl
/-- How an entry reads: as itself. -/
def enR (v : Value) : Option (DataW Value × List MemPlace) := some (.held v, [])
/-- Block b is a map of at most n entries: to each name that M knows, its entry. -/
def EntIs (w : World) (b n : Nat) (M : List UInt8 → Option ((Nat × Nat) × Bool)) : Prop :=
  ∃ D : DataW Value, w.ownsMap Try.prog 9 enR b n D ∧ ∀ s, D.atKey (.string s) (.held (enV none)) = .held (enV (M s)) ∧ Maps.has D (.string s) = (M s).isSome
theorem EntIs.look {w : World} {b n : Nat} {M : List UInt8 → Option ((Nat × Nat) × Bool)} (h : EntIs w b n M) (t : ByteArray) (ht : t.size ≤ 140737488355328) :
    (Instr.lookup 58 (.map (some b)) (.string t) true).run Try.prog w = .ok (.tuple #[enV (M (by' t)), .bool (M (by' t)).isSome]) w := by
  obtain ⟨D, hown, hD⟩ := h
  obtain ⟨v, ps, hrun, hv⟩ := hown.look_ok keyedS Try.underlying58 (zeroE w) (zd := .held (enV none)) (zp := []) rfl (Go.WideMaps.keyOf_string_mk Try.underlying9 (by unfold maxLen; omega) : keyOf Try.prog 9 (.string t) = some (.string t.data.toList))
  rw [hrun]
  rw [(hD t.data.toList).1] at hv
  unfold enR at hv
  simp only [Option.some.injEq, Prod.mk.injEq, DataW.held.injEq] at hv
  rw [hv.1, (hD t.data.toList).2]
  rfl
theorem EntIs.lt {w : World} {b n : Nat} {M : List UInt8 → Option ((Nat × Nat) × Bool)} (h : EntIs w b n M) : b < w.heap.size := by
  obtain ⟨D, hown, _⟩ := h; exact hown.lt
theorem EntIs.kept {w w' : World} {b n : Nat} {M : List UInt8 → Option ((Nat × Nat) × Bool)} {row : Option Nat} (h : EntIs w b n M) (hg : w.grownBy w' row) (hne : some b ≠ row) : EntIs w' b n M := by
  obtain ⟨D, hown, r⟩ := h
  exact ⟨D, hown.kept hg hne, r⟩
theorem gb_of {w w' : World} (hb : Below w.heap.size w w') (row : Option Nat) : w.grownBy w' row := ⟨hb.os, hb.tape, hb.output, hb.size, fun i hi _ => hb.block i hi⟩
theorem EntIs.below {w w' : World} {b n : Nat} {M : List UInt8 → Option ((Nat × Nat) × Bool)} (h : EntIs w b n M) (hb : Below w.heap.size w w') : EntIs w' b n M := h.kept (gb_of hb none) (by simp)
theorem EntIs.made (w : World) : EntIs (w.alloc (.map #[] 0)) w.heap.size 0 (fun _ => none) :=
  ⟨.map [], World.ownsMap_made w _ _ _, fun s => ⟨rfl, rfl⟩⟩
theorem EntIs.to {w : World} {b n : Nat} {M M' : List UInt8 → Option ((Nat × Nat) × Bool)} (h : EntIs w b n M) (he : ∀ s, M' s = M s) : EntIs w b n M' := by
  obtain ⟨D, hown, r⟩ := h
  exact ⟨D, hown, fun s => by rw [he s]; exact r s⟩
theorem EntIs.mono {w : World} {b n n' : Nat} {M : List UInt8 → Option ((Nat × Nat) × Bool)} (h : EntIs w b n M) (hn : n ≤ n') : EntIs w b n' M := by
  obtain ⟨D, hown, r⟩ := h
  exact ⟨D, hown.mono hn, r⟩
/-- A name more, at the operation. -/
theorem wpList_ent {w : World} {ops : Array Oper} {rest : List Oper} {o : Oper} {a : Act} {Q : Exit → Act → World → Prop}
    (hg : o.guard = none) (m x v : Operand) (hop : o.op = Op.mapUpdate 58 m x v) (b n : Nat) (p : Nat × Nat) (s : Bool) (M : List UInt8 → Option ((Nat × Nat) × Bool)) (hm : a.eval m = .map (some b)) (h : EntIs w b n M) (hn : n < maxLen)
    (t : ByteArray) (ht : t.size ≤ 140737488355328) (hx : a.eval x = .string t) (hv : a.eval v = enV (some (p, s)))
    (hK : ∀ w', EntIs w' b (n + 1) (fun u => if u = by' t then some (p, s) else M u) → w.grownBy w' (some b) → wpList Try.prog ops Q rest (a.put o.dst undef) w') :
    wpList Try.prog ops Q (o :: rest) a w := by
  obtain ⟨D, hown, hD⟩ := h
  refine wpList_mapUpdate_own w hg m x v 58 hop 9 78 keyedS Try.underlying58 enR b n D hm hown hn _ _ _ hx hv (Go.WideMaps.keyOf_string_mk Try.underlying9 (by unfold maxLen; omega)) (.held (enV (some (p, s)))) [] rfl ?_
  intro w' h1 h2
  refine hK w' ⟨_, h1, fun s => ?_⟩ h2
  have e : t.data.toList = by' t := rfl
  rw [e]
  dsimp only
  by_cases hs : s = by' t
  · rw [if_pos hs, hs]
    exact ⟨atKey_put_same hown.isMap (isKeyS _) _ _, has_put_same hown.isMap (isKeyS _) _⟩
  · rw [if_neg hs, atKey_put_other (by simpa using hs), has_put_other (by simpa using hs)]
    exact hD s
end Go.Proofs.Ytfnofolahhoggaa
