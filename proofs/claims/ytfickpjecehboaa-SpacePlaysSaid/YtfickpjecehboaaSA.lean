/- An address space in memory: a struct that leads to a map, the map to pages; what a look-up gives; what stays when other blocks turn. -/
import Derived.Test.YtfickpjecehboaaSM
import Derived.Test.YtfickpjecehboaaProg
import Derived.WalkKit
import Derived.WalkSpells
import Derived.WalkLawsBesides
import Derived.RegionTactic
import Derived.Lib.Hide
import Derived.Laws.Rows
import Derived.Deep.MidRow
import Derived.Deep.WholeRow
import Derived.Laws.CopyOwn
import Derived.Maps.OwnSet
set_option linter.unusedVariables false
namespace Go.Proofs.Ytfickpjecehboaa
open Go.RowKit Go.Maps

/-- Block g is just the cells cs of element type t, none frozen. -/
def Blk (w : World) (g : Nat) (t : TypeId) (cs : List Value) : Prop := w.heap[g]? = some (.cells cs.toArray t (0, 0))
section
variable {w w' : World} {g : Nat} {t : TypeId} {cs : List Value}
theorem Blk.lt (h : Blk w g t cs) : g < w.heap.size := by
  rcases Nat.lt_or_ge g w.heap.size with hlt | hge
  · exact hlt
  · unfold Blk at h; rw [Array.getElem?_eq_none hge] at h; cases h
theorem Blk.cell (h : Blk w g t cs) (i : Nat) : w.cell? ⟨g, i, none⟩ = cs[i]? := by rw [cell_of_row w g i _ t (0, 0) h]; simp
theorem Blk.frozen (h : Blk w g t cs) (i : Nat) : w.frozen? ⟨g, i, none⟩ = false := by
  unfold Blk at h
  simp [World.frozen?, h]
theorem Blk.new (w : World) (t : TypeId) (cs : List Value) : Blk (w.alloc (.cells cs.toArray t)) w.heap.size t cs := heap_alloc_new w _
theorem Blk.drew (h : Blk w g t cs) : Blk w.drew g t cs := h
theorem Blk.alloc (h : Blk w g t cs) (o : Obj) : Blk (w.alloc o) g t cs := (Below.heap_alloc w o g h.lt).trans h
theorem Blk.set_ (h : Blk w g t cs) (i : Nat) (u : Value) : Blk (w.setCell ⟨g, i, none⟩ u) g t (cs.set i u) := by
  unfold Blk at h ⊢
  simp [World.setCell, Array.getElem?_modify, h]
theorem Blk.far (h : Blk w g t cs) {p : Addr} (hp : g ≠ p.block) (u : Value) : Blk (w.setCell p u) g t cs := (Below.heap_setCell w p u g hp).trans h
theorem Blk.below {B : Nat} (h : Blk w g t cs) (hb : Below B w w') (hg : g < B) : Blk w' g t cs := (hb.block g hg).trans h
theorem Blk.grown {row : Option Nat} (h : Blk w g t cs) (hb : w.grownBy w' row) (hg : some g ≠ row) : Blk w' g t cs := (hb.block g h.lt hg).trans h
theorem Blk.same (h : Blk w g t cs) (hw : w'.heap[g]? = w.heap[g]?) : Blk w' g t cs := hw.trans h
end

/-! The map of pages. -/
/-- How a pointer to a page reads: as its block's number. -/
def ptrR (v : Value) : Option (DataW Unit × List MemPlace) := match v with
  | .pointer none => some (.nil, [])
  | .pointer (some ⟨p, 0, none⟩) => some (.lit (.int .i64 (p : Int)), [])
  | _ => none
def ptrD (x : Option Nat) : DataW Unit := match x with | none => .nil | some p => .lit (.int .i64 (p : Int))
def ptrV (x : Option Nat) : Value := .pointer (x.map fun p => ⟨p, 0, none⟩)
theorem ptrR_V (x : Option Nat) : ptrR (ptrV x) = some (ptrD x, []) := by cases x <;> rfl
theorem ptrR_inv {v : Value} {x : Option Nat} {ps : List MemPlace} (h : ptrR v = some (ptrD x, ps)) : v = ptrV x := by
  unfold ptrR at h
  split at h
  · cases x with
    | none => rfl
    | some p => simp [ptrD] at h
  · cases x with
    | none => simp [ptrD] at h
    | some p => simp [ptrD] at h; have h := Int.ofNat.inj h.1; subst h; rfl
  · cases h
theorem ptrD_inj {x y : Option Nat} (h : ptrD x = ptrD y) : x = y := by
  cases x <;> cases y <;> simp [ptrD] at h ⊢
  exact Int.ofNat.inj h

theorem keyed : Keyed Try.prog 23 := int_keyed Try.underlying23
theorem wf_u32 {a : Int} (h0 : 0 ≤ a) (h1 : a < 4294967296) : (Lit.int .u32 a).wf = true := by
  have e1 : IntKind.u32.min = 0 := rfl
  have e2 : IntKind.u32.max = 4294967295 := rfl
  simp only [Lit.wf, e1, e2, Bool.and_eq_true, decide_eq_true_eq]
  omega
theorem isKeyA (a : Int) : WideAt.IsKeyLit (.int .u32 a) := by trivial
theorem zeroElem (w : World) : (zeroValue 63).run Try.prog w = .ok (.pointer none) w := by kernel_rfl

/-- The page at a key, whatever the key. -/
def pgk (pg : Nat → Option Nat) (a : Int) : Option Nat := if a % 256 = 0 then pg (a / 256).toNat else none
theorem pgk_at (pg : Nat → Option Nat) (i : Nat) : pgk pg (256 * (i : Int)) = pg i := by
  unfold pgk
  rw [if_pos (by omega)]
  congr 1
  omega

/-- Block b is a map of at most n entries, that has just the pages of pg. -/
def MapIs (w : World) (b n : Nat) (pg : Nat → Option Nat) : Prop :=
  ∃ D : DataW Unit, w.ownsMap Try.prog 23 ptrR b n D ∧ ∀ a : Int, 0 ≤ a → a < 4294967296 → D.atKey (.int .u32 a) .nil = ptrD (pgk pg a) ∧ Maps.has D (.int .u32 a) = (pgk pg a).isSome

theorem MapIs.look {w : World} {b n : Nat} {pg : Nat → Option Nat} (h : MapIs w b n pg) (a : Int) (h0 : 0 ≤ a) (h1 : a < 4294967296) :
    (Instr.lookup 57 (.map (some b)) (.int .u32 a) false).run Try.prog w = .ok (ptrV (pgk pg a)) w := by
  obtain ⟨D, hown, hD⟩ := h
  obtain ⟨v, ps, hrun, hv⟩ := hown.lookup keyed Try.underlying57 (zeroElem w) (zd := .nil) (zp := []) rfl (keyOf_int_mk Try.underlying23 (wf_u32 h0 h1))
  rw [hrun]
  rw [(hD a h0 h1).1] at hv
  rw [ptrR_inv hv]
theorem MapIs.lt {w : World} {b n : Nat} {pg : Nat → Option Nat} (h : MapIs w b n pg) : b < w.heap.size := by
  obtain ⟨D, hown, _⟩ := h; exact hown.lt
theorem MapIs.same {w w' : World} {b n : Nat} {pg : Nat → Option Nat} (h : MapIs w b n pg) (hw : w'.heap[b]? = w.heap[b]?) : MapIs w' b n pg := by
  obtain ⟨D, ⟨es, clock, hb, F, hs, hD⟩, r⟩ := h
  exact ⟨D, ⟨es, clock, hw.trans hb, F, hs, hD⟩, r⟩
theorem MapIs.mono {w : World} {b n n' : Nat} {pg : Nat → Option Nat} (h : MapIs w b n pg) (hn : n ≤ n') : MapIs w b n' pg := by
  obtain ⟨D, hown, r⟩ := h
  exact ⟨D, hown.mono hn, r⟩
theorem MapIs.made (w : World) : MapIs (w.alloc (.map #[] 0)) w.heap.size 0 (fun _ => none) := by
  refine ⟨.map [], World.ownsMap_made w _ _ _, fun a _ _ => ?_⟩
  have : pgk (fun _ => none) a = none := by unfold pgk; split <;> rfl
  rw [this]
  exact ⟨rfl, rfl⟩

def setp (pg : Nat → Option Nat) (i : Nat) (x : Option Nat) : Nat → Option Nat := fun k => if k = i then x else pg k
theorem pgk_set (pg : Nat → Option Nat) (i : Nat) (x : Option Nat) (a : Int) (h0 : 0 ≤ a) : pgk (setp pg i x) a = if a = 256 * (i : Int) then x else pgk pg a := by
  unfold pgk setp
  by_cases h : a % 256 = 0
  · rw [if_pos h, if_pos h]
    by_cases h2 : a = 256 * (i : Int)
    · rw [if_pos h2, if_pos (by omega)]
    · rw [if_neg h2, if_neg (by omega)]
  · rw [if_neg h, if_neg h, if_neg (by omega)]

/-- A store of a page. -/
theorem MapIs.put_eq {w w' : World} {b n i p : Nat} {pg : Nat → Option Nat} {D : DataW Unit} (hi : 256 * (i : Int) < 4294967296)
    (hown : w.ownsMap Try.prog 23 ptrR b n D) (hD : ∀ a : Int, 0 ≤ a → a < 4294967296 → D.atKey (.int .u32 a) .nil = ptrD (pgk pg a) ∧ Maps.has D (.int .u32 a) = (pgk pg a).isSome)
    (h' : w'.ownsMap Try.prog 23 ptrR b (n + 1) (D.put (.int .u32 (256 * (i : Int))) (.lit (.int .i64 (p : Int))))) : MapIs w' b (n + 1) (setp pg i (some p)) := by
  refine ⟨_, h', fun a h0 h1 => ?_⟩
  rw [pgk_set _ _ _ _ h0]
  by_cases h2 : a = 256 * (i : Int)
  · rw [if_pos h2, h2]
    exact ⟨atKey_put_same hown.isMap (isKeyA _) _ _, has_put_same hown.isMap (isKeyA _) _⟩
  · rw [if_neg h2, atKey_put_other (by simpa using h2), has_put_other (by simpa using h2)]
    exact hD a h0 h1
theorem MapIs.del_eq {w' : World} {b n i : Nat} {pg : Nat → Option Nat} {D : DataW Unit}
    (hD : ∀ a : Int, 0 ≤ a → a < 4294967296 → D.atKey (.int .u32 a) .nil = ptrD (pgk pg a) ∧ Maps.has D (.int .u32 a) = (pgk pg a).isSome)
    (h' : w'.ownsMap Try.prog 23 ptrR b n (D.del (.int .u32 (256 * (i : Int))))) : MapIs w' b n (setp pg i none) := by
  refine ⟨_, h', fun a h0 h1 => ?_⟩
  rw [pgk_set _ _ _ _ h0]
  by_cases h2 : a = 256 * (i : Int)
  · rw [if_pos h2, h2]
    exact ⟨atKey_del_same _, has_del_same⟩
  · rw [if_neg h2, atKey_del_other (by simpa using h2), has_del_other (by simpa using h2)]
    exact hD a h0 h1

/-- 'm[a] = p' at the operation. -/
theorem wpList_put {w : World} {ops : Array Oper} {rest : List Oper} {o : Oper} {a : Act} {Q : Exit → Act → World → Prop}
    (hg : o.guard = none) (m x v : Operand) (hop : o.op = Op.mapUpdate 57 m x v) (b n i p : Nat) (pg : Nat → Option Nat) (hm : a.eval m = .map (some b)) (h : MapIs w b n pg) (hn : n < maxLen)
    (k : Int) (hx : a.eval x = .int .u32 k) (hk : k = 256 * (i : Int)) (hi : 256 * (i : Int) < 4294967296) (hv : a.eval v = .pointer (some ⟨p, 0, none⟩))
    (hK : ∀ w', MapIs w' b (n + 1) (setp pg i (some p)) → w.mapTurned w' b → wpList Try.prog ops Q rest (a.put o.dst undef) w') :
    wpList Try.prog ops Q (o :: rest) a w := by
  subst hk
  obtain ⟨D, hown, hD⟩ := h
  exact wpList_mapUpdate_in w hg m x v 57 hop 23 63 keyed Try.underlying57 ptrR b n D hm hown hn _ _ _ hx hv (keyOf_int_mk Try.underlying23 (wf_u32 (by omega) hi)) (.lit (.int .i64 (p : Int))) [] rfl
    (fun w' h1 h2 => hK w' (MapIs.put_eq hi hown hD h1) h2)
theorem wpList_del {w : World} {ops : Array Oper} {rest : List Oper} {o : Oper} {a : Act} {Q : Exit → Act → World → Prop}
    (hg : o.guard = none) (m x : Operand) (hop : o.op = Op.call { callee := Callee.builtin Builtin.delete, args := #[m, x], argTypes := #[57, 23] }) (b n i : Nat) (pg : Nat → Option Nat) (hm : a.eval m = .map (some b)) (h : MapIs w b n pg)
    (k : Int) (hx : a.eval x = .int .u32 k) (hk : k = 256 * (i : Int)) (hi : 256 * (i : Int) < 4294967296)
    (hK : ∀ w', MapIs w' b n (setp pg i none) → w.mapTurned w' b → wpList Try.prog ops Q rest (a.put o.dst (.tuple #[])) w') :
    wpList Try.prog ops Q (o :: rest) a w := by
  subst hk
  obtain ⟨D, hown, hD⟩ := h
  exact wpList_delete_own w hg m x 57 23 hop 63 keyed Try.underlying57 ptrR b n D hm hown _ _ hx (keyOf_int_mk Try.underlying23 (wf_u32 (by omega) hi))
    (fun w' h1 h2 => hK w' (MapIs.del_eq hD h1) h2)

/-! The whole space. -/
/-- Block b + 1 is a space: its map is block b, its pages lie from there on, below e. -/
structure SpaceP (w : World) (b e n : Nat) (pg : Nat → Option Nat) (A : As) : Prop where
  head : Blk w (b + 1) 59 [.map (some b)]
  lo : b + 2 ≤ e
  hi : e ≤ w.heap.size
  map : MapIs w b n pg
  none : ∀ i, pg i = .none → A i = .none
  page : ∀ i p, pg i = some p → i < 4096 ∧ b + 1 < p ∧ p < e ∧ ∃ f, A i = some f ∧ Blk w p 65 (pcs f)
  inj : ∀ i j p, pg i = some p → pg j = some p → i = j

def SpaceAt (w : World) (b e n : Nat) (A : As) : Prop := ∃ pg, SpaceP w b e n pg A

/-- A space's own blocks: all that may turn. -/
def Mine (w : World) (b e j : Nat) : Prop := j = b ∨ (b < j ∧ j < e ∧ ∃ cs fr, w.heap[j]? = some (.cells cs 65 fr))
/-- Nothing that was there has turned, but for the space's own blocks. -/
structure Turn (w w' : World) (b e : Nat) : Prop where
  os : w'.os = w.os
  tape : w'.tape = w.tape
  output : w'.output = w.output
  size : w.heap.size ≤ w'.heap.size
  block : ∀ j, j < w.heap.size → ¬ Mine w b e j → w'.heap[j]? = w.heap[j]?

section
variable {w w' : World} {b e n : Nat} {pg : Nat → Option Nat} {A : As}
theorem SpaceP.cell (h : SpaceP w b e n pg A) : w.cell? ⟨b + 1, 0, .none⟩ = some (.map (some b)) := by rw [h.head.cell]; rfl
theorem SpaceP.look (h : SpaceP w b e n pg A) (a : Int) (h0 : 0 ≤ a) (h1 : a < 4294967296) :
    (Instr.lookup 57 (.map (some b)) (.int .u32 a) false).run Try.prog w = .ok (ptrV (pgk pg a)) w := h.map.look a h0 h1
theorem SpaceP.big (h : SpaceP w b e n pg A) (i : Nat) (hi : 4096 ≤ i) : pg i = .none := by
  cases hp : pg i with
  | none => rfl
  | some p => have := (h.page i p hp).1; omega
theorem SpaceP.same (h : SpaceP w b e n pg A) (hs : w.heap.size ≤ w'.heap.size) (hw : ∀ j, b ≤ j → j < e → w'.heap[j]? = w.heap[j]?) : SpaceP w' b e n pg A :=
  ⟨h.head.same (hw _ (by omega) (by have := h.lo; omega)), h.lo, Nat.le_trans h.hi hs, h.map.same (hw _ (Nat.le_refl _) (by have := h.lo; omega)), h.none,
    fun i p hp => by
      obtain ⟨h1, h2, h3, f, h4, h5⟩ := h.page i p hp
      exact ⟨h1, h2, h3, f, h4, h5.same (hw _ (by omega) h3)⟩, h.inj⟩
theorem SpaceP.below (h : SpaceP w b e n pg A) {B : Nat} (hb : Below B w w') (hB : e ≤ B) : SpaceP w' b e n pg A := h.same hb.size fun j _ hj => hb.block j (by omega)
theorem SpaceAt.same (h : SpaceAt w b e n A) (hs : w.heap.size ≤ w'.heap.size) (hw : ∀ j, b ≤ j → j < e → w'.heap[j]? = w.heap[j]?) : SpaceAt w' b e n A := by
  obtain ⟨pg, h⟩ := h; exact ⟨pg, h.same hs hw⟩
theorem SpaceAt.below (h : SpaceAt w b e n A) {B : Nat} (hb : Below B w w') (hB : e ≤ B) : SpaceAt w' b e n A := by
  obtain ⟨pg, h⟩ := h; exact ⟨pg, h.below hb hB⟩
theorem SpaceAt.hi (h : SpaceAt w b e n A) : e ≤ w.heap.size := by obtain ⟨pg, h⟩ := h; exact h.hi
theorem SpaceAt.lo (h : SpaceAt w b e n A) : b + 2 ≤ e := by obtain ⟨pg, h⟩ := h; exact h.lo
theorem SpaceAt.big (h : SpaceAt w b e n A) (i : Nat) (hi : 4096 ≤ i) : A i = .none := by obtain ⟨pg, h⟩ := h; exact h.none i (h.big i hi)
theorem SpaceAt.wide (h : SpaceAt w b e n A) {e' : Nat} (h1 : e ≤ e') (h2 : e' ≤ w.heap.size) : SpaceAt w b e' n A := by
  obtain ⟨pg, h⟩ := h
  exact ⟨pg, h.head, by have := h.lo; omega, h2, h.map, h.none, fun i p hp => by
    obtain ⟨q1, q2, q3, q4⟩ := h.page i p hp
    exact ⟨q1, q2, by omega, q4⟩, h.inj⟩

theorem Turn.refl (w : World) (b e : Nat) : Turn w w b e := ⟨rfl, rfl, rfl, Nat.le_refl _, fun _ _ _ => rfl⟩
theorem Turn.ofBelow (h : Below w.heap.size w w') (b e : Nat) : Turn w w' b e := ⟨h.os, h.tape, h.output, h.size, fun j hj _ => h.block j hj⟩
theorem Turn.below (h : Turn w w' b e) {B : Nat} (hB : B ≤ b) (hs : B ≤ w.heap.size) : Below B w w' :=
  ⟨h.os, h.tape, h.output, h.size, fun j hj => h.block j (by omega) (by rintro (rfl | ⟨h1, _⟩) <;> omega)⟩
theorem Turn.mine_back (h : Turn w w' b e) (hb : b < w.heap.size) (he : e ≤ w.heap.size) (hk : ∀ j cs, b < j → j < e → (∃ fr, w'.heap[j]? = some (.cells cs 65 fr)) → ∃ cs' fr', w.heap[j]? = some (.cells cs' 65 fr')) {j : Nat} (hm : Mine w' b e j) : Mine w b e j := by
  rcases hm with rfl | ⟨h1, h2, cs, fr, h3⟩
  · exact Or.inl rfl
  · exact Or.inr ⟨h1, h2, hk j cs h1 h2 ⟨fr, h3⟩⟩
/-- A page's cells turn: the space has that page otherwise. -/
theorem SpaceP.turn (h : SpaceP w b e n pg A) {i p : Nat} {f : Pg} (hp : pg i = some p) (hs : w.heap.size ≤ w'.heap.size) (hb : Blk w' p 65 (pcs f)) (hw : ∀ j, j < w.heap.size → j ≠ p → w'.heap[j]? = w.heap[j]?) :
    SpaceP w' b e n pg (upd A i (some f)) := by
  obtain ⟨q1, q2, q3, f0, q4, q5⟩ := h.page i p hp
  have hsz := h.hi
  have hlo := h.lo
  refine ⟨h.head.same (hw _ (by omega) (by omega)), h.lo, Nat.le_trans h.hi hs, h.map.same (hw _ (by omega) (by omega)), fun k hk => ?_, fun k p' hp' => ?_, h.inj⟩
  · unfold upd
    rw [if_neg (by rintro rfl; rw [hp] at hk; cases hk)]
    exact h.none k hk
  · obtain ⟨r1, r2, r3, f1, r4, r5⟩ := h.page k p' hp'
    refine ⟨r1, r2, r3, ?_⟩
    unfold upd
    by_cases hk : k = i
    · subst hk
      rw [hp] at hp'
      cases hp'
      exact ⟨f, by simp, hb⟩
    · refine ⟨f1, by rw [if_neg hk]; exact r4, r5.same (hw _ (by omega) ?_)⟩
      rintro rfl
      exact hk (h.inj _ _ _ hp' hp)
end
end Go.Proofs.Ytfickpjecehboaa
