/- Some texts of one proof, one behind the other; each has its own head below. -/
import Derived.RowKit
import Derived.Test.YtgdbhmlmioihpaaDoorProg
import Derived.WalkKit
import Derived.WalkSpells
import Derived.WalkLawsBesides
import Derived.RegionTactic
import Derived.Lib.Hide
import Derived.Laws.Rows
import Derived.Deep.MidRow
import Derived.Deep.WholeRow
import Derived.Laws.CopyOwn
import Derived.Maps.OwnSet
/- An address space of pages as plain functions: what is read, what is written, which bytes may be asked. -/
section
set_option linter.unusedVariables false
namespace Go.Proofs.YtgdbhmlmioihpaaDoor

/-- A page: its bytes, and behind them its perm. -/
abbrev Pg := Nat → UInt8
/-- The pages by their numbers. -/
abbrev As := Nat → Option Pg

def met (need : Nat) (f : Pg) : Bool := ((f 256).toNat &&& need) == need
/-- May page i be asked? -/
def okPg (A : As) (need i : Nat) : Bool := match A i with | some f => met need f | none => false
def okAll (A : As) (need addr n : Nat) : Bool := (List.range n).all fun k => okPg A need ((addr + k) / 256)
def byteAt (A : As) (x : Nat) : UInt8 := match A (x / 256) with | some f => f (x % 256) | none => 0
def bytesAt (A : As) (addr n : Nat) : List UInt8 := (List.range n).map fun k => byteAt A (addr + k)
def putPg (f : Pg) (i addr : Nat) (s : List UInt8) : Pg := fun j => if j < 256 ∧ addr ≤ 256 * i + j ∧ 256 * i + j < addr + s.length then s.getD (256 * i + j - addr) 0 else f j
def putAt (A : As) (addr : Nat) (s : List UInt8) : As := fun i => (A i).map fun f => putPg f i addr s
def upd (A : As) (i : Nat) (x : Option Pg) : As := fun k => if k = i then x else A k
def newPg (perm : Nat) : Pg := fun j => if j = 256 then perm.toUInt8 else 0

theorem okAll_iff (A : As) (need addr n : Nat) : okAll A need addr n = true ↔ ∀ k, k < n → okPg A need ((addr + k) / 256) = true := by
  unfold okAll
  rw [List.all_eq_true]
  constructor
  · intro h k hk; exact h k (List.mem_range.2 hk)
  · intro h k hk; exact h k (List.mem_range.1 hk)
theorem okAll_zero (A : As) (need addr : Nat) : okAll A need addr 0 = true := rfl
theorem okPg_some {A : As} {need i : Nat} (h : okPg A need i = true) : ∃ f, A i = some f ∧ met need f = true := by
  unfold okPg at h
  split at h
  · exact ⟨_, by assumption, h⟩
  · cases h
/-- Page by page: all pages from that of the first byte up to that of the last. -/
theorem okAll_pages (A : As) (need addr n : Nat) (h : ∀ i, addr / 256 ≤ i → 256 * i < addr + n → okPg A need i = true) : okAll A need addr n = true := by
  rw [okAll_iff]
  intro k hk
  exact h _ (Nat.div_le_div_right (by omega)) (by omega)
theorem okAll_page (A : As) (need addr n i : Nat) (h1 : addr / 256 ≤ i) (h2 : 256 * i < addr + n) (hn : 0 < n) (h : okPg A need i = false) : okAll A need addr n = false := by
  cases h' : okAll A need addr n
  · rfl
  · rw [okAll_iff] at h'
    by_cases hl : addr ≤ 256 * i
    · have := h' (256 * i - addr) (by omega)
      rw [show (addr + (256 * i - addr)) / 256 = i by omega, h] at this
      cases this
    · have := h' 0 (by omega)
      rw [show (addr + 0) / 256 = i by omega, h] at this
      cases this

theorem bytesAt_length (A : As) (addr n : Nat) : (bytesAt A addr n).length = n := by simp [bytesAt]
theorem bytesAt_zero (A : As) (addr : Nat) : bytesAt A addr 0 = [] := rfl
theorem bytesAt_add (A : As) (addr m n : Nat) : bytesAt A addr (m + n) = bytesAt A addr m ++ bytesAt A (addr + m) n := by
  unfold bytesAt
  rw [List.range_add, List.map_append, List.map_map]
  congr 1
  apply List.map_congr_left
  intro k hk
  show byteAt A (addr + (m + k)) = byteAt A (addr + m + k)
  rw [Nat.add_assoc]
theorem bytesAt_get (A : As) (addr n k : Nat) (hk : k < n) : (bytesAt A addr n)[k]? = some (byteAt A (addr + k)) := by
  simp [bytesAt, hk]
theorem byteAt_pg {A : As} {i j : Nat} {f : Pg} (h : A i = some f) (hj : j < 256) : byteAt A (256 * i + j) = f j := by
  unfold byteAt
  rw [show (256 * i + j) / 256 = i by omega, h]
  show f ((256 * i + j) % 256) = f j
  rw [show (256 * i + j) % 256 = j by omega]

theorem putPg_nil (f : Pg) (i addr : Nat) : putPg f i addr [] = f := by
  funext j
  unfold putPg
  rw [if_neg (by simp)]
theorem putAt_nil (A : As) (addr : Nat) : putAt A addr [] = A := by
  funext i
  unfold putAt
  cases A i with
  | none => rfl
  | some f => simp [putPg_nil]
theorem putPg_append (f : Pg) (i addr : Nat) (s t : List UInt8) : putPg f i addr (s ++ t) = putPg (putPg f i addr s) i (addr + s.length) t := by
  funext j
  unfold putPg
  simp only [List.length_append]
  by_cases h1 : j < 256 ∧ addr + s.length ≤ 256 * i + j ∧ 256 * i + j < addr + s.length + t.length
  · rw [if_pos (by omega), if_pos h1, List.getD_eq_getElem?_getD, List.getElem?_append_right (by omega), List.getD_eq_getElem?_getD]
    congr 2
    omega
  · rw [if_neg h1]
    by_cases h2 : j < 256 ∧ addr ≤ 256 * i + j ∧ 256 * i + j < addr + s.length
    · rw [if_pos (by omega), if_pos h2, List.getD_eq_getElem?_getD, List.getElem?_append_left (by omega), List.getD_eq_getElem?_getD]
    · rw [if_neg (by omega), if_neg h2]
theorem putAt_append (A : As) (addr : Nat) (s t : List UInt8) : putAt A addr (s ++ t) = putAt (putAt A addr s) (addr + s.length) t := by
  funext i
  unfold putAt
  cases A i with
  | none => rfl
  | some f => simp [putPg_append]
/-- Bytes that lie in one page. -/
theorem putAt_one (A : As) (addr : Nat) (s : List UInt8) (f : Pg) (h : A (addr / 256) = some f) (hs : addr % 256 + s.length ≤ 256) : putAt A addr s = upd A (addr / 256) (some (putPg f (addr / 256) addr s)) := by
  funext k
  unfold putAt upd
  by_cases hk : k = addr / 256
  · subst hk; rw [h]; simp
  · rw [if_neg hk]
    cases A k with
    | none => rfl
    | some g =>
      simp only [Option.map_some, Option.some.injEq]
      funext j
      unfold putPg
      rw [if_neg (by omega)]
theorem putAt_perm (A : As) (addr : Nat) (s : List UInt8) (need i : Nat) : okPg (putAt A addr s) need i = okPg A need i := by
  unfold okPg putAt
  cases A i with
  | none => rfl
  | some f => simp [met, putPg]

/-! The cells of a page. -/
open Go in
def pcs (f : Pg) : List Value := (List.range 257).map fun j => Value.int .u8 ((f j).toNat : Int)
theorem pcs_length (f : Pg) : (pcs f).length = 257 := by simp [pcs]
theorem pcs_get (f : Pg) (j : Nat) (h : j < 257) : (pcs f)[j]? = some (.int .u8 ((f j).toNat : Int)) := by simp [pcs, h]
theorem pcs_one (f : Pg) : ∀ v ∈ pcs f, v.oneCell' = true := by
  intro v hv; simp only [pcs, List.mem_map] at hv; obtain ⟨x, _, rfl⟩ := hv; rfl
theorem pcs_put (f : Pg) (i addr : Nat) (s : List UInt8) (hi : i = addr / 256) (hs : addr % 256 + s.length ≤ 256) :
    pcs (putPg f i addr s) = (pcs f).take (addr % 256) ++ (s.map fun x => Go.Value.int .u8 (x.toNat : Int)) ++ (pcs f).drop (addr % 256 + s.length) := by
  subst hi
  apply List.ext_getElem?
  intro j
  by_cases hj : j < 257
  · rw [pcs_get _ _ hj]
    by_cases h1 : j < addr % 256
    · rw [List.append_assoc, List.getElem?_append_left (by simp [pcs_length]; omega), List.getElem?_take_of_lt h1, pcs_get _ _ hj]
      unfold putPg
      rw [if_neg (by omega)]
    · by_cases h2 : j < addr % 256 + s.length
      · rw [List.getElem?_append_left (by simp [pcs_length]; omega), List.getElem?_append_right (by simp [pcs_length]; omega)]
        rw [List.length_take, pcs_length, Nat.min_eq_left (by omega), List.getElem?_map, List.getElem?_eq_getElem (by omega)]
        unfold putPg
        rw [if_pos (by omega), List.getD_eq_getElem?_getD, show 256 * (addr / 256) + j - addr = j - addr % 256 by omega, List.getElem?_eq_getElem (by omega)]
        rfl
      · rw [List.getElem?_append_right (by simp [pcs_length]; omega), List.getElem?_drop]
        simp only [List.length_append, List.length_take, pcs_length, List.length_map]
        rw [show addr % 256 + s.length + (j - (min (addr % 256) 257 + s.length)) = j by omega, pcs_get _ _ hj]
        unfold putPg
        rw [if_neg (by omega)]
  · rw [List.getElem?_eq_none (by rw [pcs_length]; omega), List.getElem?_eq_none (by simp [pcs_length]; omega)]
end Go.Proofs.YtgdbhmlmioihpaaDoor
end

/- An address space in memory: a struct that leads to a map, the map to pages; what a look-up gives; what stays when other blocks turn. -/
section
set_option linter.unusedVariables false
namespace Go.Proofs.YtgdbhmlmioihpaaDoor
open Go.RowKit Go.Maps

/-- Block g is just the cells cs of element type t, none frozen. -/
def Blk (w : World) (g : Nat) (t : TypeId) (cs : List Value) : Prop := w.heap[g]? = some (.cells cs.toArray t (0, 0))
section
variable {w w' : World} {g : Nat} {t : TypeId} {cs : List Value}
theorem Blk.lt (h : Blk w g t cs) : g < w.heap.size := by
  rcases Nat.lt_or_ge g w.heap.size with hlt | hge
  · exact hlt
  · unfold Blk at h; rw [Array.getElem?_eq_none hge] at h; cases h
theorem Blk.cell (h : Blk w g t cs) (i : Nat) : w.cell? ⟨g, i, none⟩ = cs[i]? := by rw [cell_of_row w g i _ t (0, 0) h]; simp
theorem Blk.frozen (h : Blk w g t cs) (i : Nat) : w.frozen? ⟨g, i, none⟩ = false := by
  unfold Blk at h
  simp [World.frozen?, h]
theorem Blk.new (w : World) (t : TypeId) (cs : List Value) : Blk (w.alloc (.cells cs.toArray t)) w.heap.size t cs := heap_alloc_new w _
theorem Blk.drew (h : Blk w g t cs) : Blk w.drew g t cs := h
theorem Blk.alloc (h : Blk w g t cs) (o : Obj) : Blk (w.alloc o) g t cs := (Below.heap_alloc w o g h.lt).trans h
theorem Blk.set_ (h : Blk w g t cs) (i : Nat) (u : Value) : Blk (w.setCell ⟨g, i, none⟩ u) g t (cs.set i u) := by
  unfold Blk at h ⊢
  simp [World.setCell, Array.getElem?_modify, h]
theorem Blk.far (h : Blk w g t cs) {p : Addr} (hp : g ≠ p.block) (u : Value) : Blk (w.setCell p u) g t cs := (Below.heap_setCell w p u g hp).trans h
theorem Blk.below {B : Nat} (h : Blk w g t cs) (hb : Below B w w') (hg : g < B) : Blk w' g t cs := (hb.block g hg).trans h
theorem Blk.grown {row : Option Nat} (h : Blk w g t cs) (hb : w.grownBy w' row) (hg : some g ≠ row) : Blk w' g t cs := (hb.block g h.lt hg).trans h
theorem Blk.same (h : Blk w g t cs) (hw : w'.heap[g]? = w.heap[g]?) : Blk w' g t cs := hw.trans h
end

/-! The map of pages. -/
/-- How a pointer to a page reads: as its block's number. -/
def ptrR (v : Value) : Option (DataW Unit × List MemPlace) := match v with
  | .pointer none => some (.nil, [])
  | .pointer (some ⟨p, 0, none⟩) => some (.lit (.int .i64 (p : Int)), [])
  | _ => none
def ptrD (x : Option Nat) : DataW Unit := match x with | none => .nil | some p => .lit (.int .i64 (p : Int))
def ptrV (x : Option Nat) : Value := .pointer (x.map fun p => ⟨p, 0, none⟩)
theorem ptrR_V (x : Option Nat) : ptrR (ptrV x) = some (ptrD x, []) := by cases x <;> rfl
theorem ptrR_inv {v : Value} {x : Option Nat} {ps : List MemPlace} (h : ptrR v = some (ptrD x, ps)) : v = ptrV x := by
  unfold ptrR at h
  split at h
  · cases x with
    | none => rfl
    | some p => simp [ptrD] at h
  · cases x with
    | none => simp [ptrD] at h
    | some p => simp [ptrD] at h; have h := Int.ofNat.inj h.1; subst h; rfl
  · cases h
theorem ptrD_inj {x y : Option Nat} (h : ptrD x = ptrD y) : x = y := by
  cases x <;> cases y <;> simp [ptrD] at h ⊢
  exact Int.ofNat.inj h

theorem keyed : Keyed Tryd.prog 22 := int_keyed Tryd.underlying22
theorem wf_u32 {a : Int} (h0 : 0 ≤ a) (h1 : a < 4294967296) : (Lit.int .u32 a).wf = true := by
  have e1 : IntKind.u32.min = 0 := rfl
  have e2 : IntKind.u32.max = 4294967295 := rfl
  simp only [Lit.wf, e1, e2, Bool.and_eq_true, decide_eq_true_eq]
  omega
theorem isKeyA (a : Int) : WideAt.IsKeyLit (.int .u32 a) := by trivial
theorem zeroElem (w : World) : (zeroValue 94).run Tryd.prog w = .ok (.pointer none) w := by kernel_rfl

/-- The page at a key, whatever the key. -/
def pgk (pg : Nat → Option Nat) (a : Int) : Option Nat := if a % 256 = 0 then pg (a / 256).toNat else none
theorem pgk_at (pg : Nat → Option Nat) (i : Nat) : pgk pg (256 * (i : Int)) = pg i := by
  unfold pgk
  rw [if_pos (by omega)]
  congr 1
  omega

/-- Block b is a map of at most n entries, that has just the pages of pg. -/
def MapIs (w : World) (b n : Nat) (pg : Nat → Option Nat) : Prop :=
  ∃ D : DataW Unit, w.ownsMap Tryd.prog 22 ptrR b n D ∧ ∀ a : Int, 0 ≤ a → a < 4294967296 → D.atKey (.int .u32 a) .nil = ptrD (pgk pg a) ∧ Maps.has D (.int .u32 a) = (pgk pg a).isSome

theorem MapIs.look {w : World} {b n : Nat} {pg : Nat → Option Nat} (h : MapIs w b n pg) (a : Int) (h0 : 0 ≤ a) (h1 : a < 4294967296) :
    (Instr.lookup 41 (.map (some b)) (.int .u32 a) false).run Tryd.prog w = .ok (ptrV (pgk pg a)) w := by
  obtain ⟨D, hown, hD⟩ := h
  obtain ⟨v, ps, hrun, hv⟩ := hown.lookup keyed Tryd.underlying41 (zeroElem w) (zd := .nil) (zp := []) rfl (keyOf_int_mk Tryd.underlying22 (wf_u32 h0 h1))
  rw [hrun]
  rw [(hD a h0 h1).1] at hv
  rw [ptrR_inv hv]
theorem MapIs.lt {w : World} {b n : Nat} {pg : Nat → Option Nat} (h : MapIs w b n pg) : b < w.heap.size := by
  obtain ⟨D, hown, _⟩ := h; exact hown.lt
theorem MapIs.same {w w' : World} {b n : Nat} {pg : Nat → Option Nat} (h : MapIs w b n pg) (hw : w'.heap[b]? = w.heap[b]?) : MapIs w' b n pg := by
  obtain ⟨D, ⟨es, clock, hb, F, hs, hD⟩, r⟩ := h
  exact ⟨D, ⟨es, clock, hw.trans hb, F, hs, hD⟩, r⟩
theorem MapIs.mono {w : World} {b n n' : Nat} {pg : Nat → Option Nat} (h : MapIs w b n pg) (hn : n ≤ n') : MapIs w b n' pg := by
  obtain ⟨D, hown, r⟩ := h
  exact ⟨D, hown.mono hn, r⟩
theorem MapIs.made (w : World) : MapIs (w.alloc (.map #[] 0)) w.heap.size 0 (fun _ => none) := by
  refine ⟨.map [], World.ownsMap_made w _ _ _, fun a _ _ => ?_⟩
  have : pgk (fun _ => none) a = none := by unfold pgk; split <;> rfl
  rw [this]
  exact ⟨rfl, rfl⟩

def setp (pg : Nat → Option Nat) (i : Nat) (x : Option Nat) : Nat → Option Nat := fun k => if k = i then x else pg k
theorem pgk_set (pg : Nat → Option Nat) (i : Nat) (x : Option Nat) (a : Int) (h0 : 0 ≤ a) : pgk (setp pg i x) a = if a = 256 * (i : Int) then x else pgk pg a := by
  unfold pgk setp
  by_cases h : a % 256 = 0
  · rw [if_pos h, if_pos h]
    by_cases h2 : a = 256 * (i : Int)
    · rw [if_pos h2, if_pos (by omega)]
    · rw [if_neg h2, if_neg (by omega)]
  · rw [if_neg h, if_neg h, if_neg (by omega)]

/-- A store of a page. -/
theorem MapIs.put_eq {w w' : World} {b n i p : Nat} {pg : Nat → Option Nat} {D : DataW Unit} (hi : 256 * (i : Int) < 4294967296)
    (hown : w.ownsMap Tryd.prog 22 ptrR b n D) (hD : ∀ a : Int, 0 ≤ a → a < 4294967296 → D.atKey (.int .u32 a) .nil = ptrD (pgk pg a) ∧ Maps.has D (.int .u32 a) = (pgk pg a).isSome)
    (h' : w'.ownsMap Tryd.prog 22 ptrR b (n + 1) (D.put (.int .u32 (256 * (i : Int))) (.lit (.int .i64 (p : Int))))) : MapIs w' b (n + 1) (setp pg i (some p)) := by
  refine ⟨_, h', fun a h0 h1 => ?_⟩
  rw [pgk_set _ _ _ _ h0]
  by_cases h2 : a = 256 * (i : Int)
  · rw [if_pos h2, h2]
    exact ⟨atKey_put_same hown.isMap (isKeyA _) _ _, has_put_same hown.isMap (isKeyA _) _⟩
  · rw [if_neg h2, atKey_put_other (by simpa using h2), has_put_other (by simpa using h2)]
    exact hD a h0 h1
theorem MapIs.del_eq {w' : World} {b n i : Nat} {pg : Nat → Option Nat} {D : DataW Unit}
    (hD : ∀ a : Int, 0 ≤ a → a < 4294967296 → D.atKey (.int .u32 a) .nil = ptrD (pgk pg a) ∧ Maps.has D (.int .u32 a) = (pgk pg a).isSome)
    (h' : w'.ownsMap Tryd.prog 22 ptrR b n (D.del (.int .u32 (256 * (i : Int))))) : MapIs w' b n (setp pg i none) := by
  refine ⟨_, h', fun a h0 h1 => ?_⟩
  rw [pgk_set _ _ _ _ h0]
  by_cases h2 : a = 256 * (i : Int)
  · rw [if_pos h2, h2]
    exact ⟨atKey_del_same _, has_del_same⟩
  · rw [if_neg h2, atKey_del_other (by simpa using h2), has_del_other (by simpa using h2)]
    exact hD a h0 h1

/-- 'm[a] = p' at the operation. -/
theorem wpList_put {w : World} {ops : Array Oper} {rest : List Oper} {o : Oper} {a : Act} {Q : Exit → Act → World → Prop}
    (hg : o.guard = none) (m x v : Operand) (hop : o.op = Op.mapUpdate 41 m x v) (b n i p : Nat) (pg : Nat → Option Nat) (hm : a.eval m = .map (some b)) (h : MapIs w b n pg) (hn : n < maxLen)
    (k : Int) (hx : a.eval x = .int .u32 k) (hk : k = 256 * (i : Int)) (hi : 256 * (i : Int) < 4294967296) (hv : a.eval v = .pointer (some ⟨p, 0, none⟩))
    (hK : ∀ w', MapIs w' b (n + 1) (setp pg i (some p)) → w.mapTurned w' b → wpList Tryd.prog ops Q rest (a.put o.dst undef) w') :
    wpList Tryd.prog ops Q (o :: rest) a w := by
  subst hk
  obtain ⟨D, hown, hD⟩ := h
  exact wpList_mapUpdate_in w hg m x v 41 hop 22 94 keyed Tryd.underlying41 ptrR b n D hm hown hn _ _ _ hx hv (keyOf_int_mk Tryd.underlying22 (wf_u32 (by omega) hi)) (.lit (.int .i64 (p : Int))) [] rfl
    (fun w' h1 h2 => hK w' (MapIs.put_eq hi hown hD h1) h2)
theorem wpList_del {w : World} {ops : Array Oper} {rest : List Oper} {o : Oper} {a : Act} {Q : Exit → Act → World → Prop}
    (hg : o.guard = none) (m x : Operand) (hop : o.op = Op.call { callee := Callee.builtin Builtin.delete, args := #[m, x], argTypes := #[41, 22] }) (b n i : Nat) (pg : Nat → Option Nat) (hm : a.eval m = .map (some b)) (h : MapIs w b n pg)
    (k : Int) (hx : a.eval x = .int .u32 k) (hk : k = 256 * (i : Int)) (hi : 256 * (i : Int) < 4294967296)
    (hK : ∀ w', MapIs w' b n (setp pg i none) → w.mapTurned w' b → wpList Tryd.prog ops Q rest (a.put o.dst (.tuple #[])) w') :
    wpList Tryd.prog ops Q (o :: rest) a w := by
  subst hk
  obtain ⟨D, hown, hD⟩ := h
  exact wpList_delete_own w hg m x 41 22 hop 94 keyed Tryd.underlying41 ptrR b n D hm hown _ _ hx (keyOf_int_mk Tryd.underlying22 (wf_u32 (by omega) hi))
    (fun w' h1 h2 => hK w' (MapIs.del_eq hD h1) h2)

/-! The whole space. -/
/-- Block b + 1 is a space: its map is block b, its pages lie from there on, below e. -/
structure SpaceP (w : World) (b e n : Nat) (pg : Nat → Option Nat) (A : As) : Prop where
  head : Blk w (b + 1) 43 [.map (some b)]
  lo : b + 2 ≤ e
  hi : e ≤ w.heap.size
  map : MapIs w b n pg
  none : ∀ i, pg i = .none → A i = .none
  page : ∀ i p, pg i = some p → i < 4096 ∧ b + 1 < p ∧ p < e ∧ ∃ f, A i = some f ∧ Blk w p 96 (pcs f)
  inj : ∀ i j p, pg i = some p → pg j = some p → i = j

def SpaceAt (w : World) (b e n : Nat) (A : As) : Prop := ∃ pg, SpaceP w b e n pg A

/-- A space's own blocks: all that may turn. -/
def Mine (w : World) (b e j : Nat) : Prop := j = b ∨ (b < j ∧ j < e ∧ ∃ cs fr, w.heap[j]? = some (.cells cs 96 fr))
/-- Nothing that was there has turned, but for the space's own blocks. -/
structure Turn (w w' : World) (b e : Nat) : Prop where
  os : w'.os = w.os
  tape : w'.tape = w.tape
  output : w'.output = w.output
  size : w.heap.size ≤ w'.heap.size
  block : ∀ j, j < w.heap.size → ¬ Mine w b e j → w'.heap[j]? = w.heap[j]?

section
variable {w w' : World} {b e n : Nat} {pg : Nat → Option Nat} {A : As}
theorem SpaceP.cell (h : SpaceP w b e n pg A) : w.cell? ⟨b + 1, 0, .none⟩ = some (.map (some b)) := by rw [h.head.cell]; rfl
theorem SpaceP.look (h : SpaceP w b e n pg A) (a : Int) (h0 : 0 ≤ a) (h1 : a < 4294967296) :
    (Instr.lookup 41 (.map (some b)) (.int .u32 a) false).run Tryd.prog w = .ok (ptrV (pgk pg a)) w := h.map.look a h0 h1
theorem SpaceP.big (h : SpaceP w b e n pg A) (i : Nat) (hi : 4096 ≤ i) : pg i = .none := by
  cases hp : pg i with
  | none => rfl
  | some p => have := (h.page i p hp).1; omega
theorem SpaceP.same (h : SpaceP w b e n pg A) (hs : w.heap.size ≤ w'.heap.size) (hw : ∀ j, b ≤ j → j < e → w'.heap[j]? = w.heap[j]?) : SpaceP w' b e n pg A :=
  ⟨h.head.same (hw _ (by omega) (by have := h.lo; omega)), h.lo, Nat.le_trans h.hi hs, h.map.same (hw _ (Nat.le_refl _) (by have := h.lo; omega)), h.none,
    fun i p hp => by
      obtain ⟨h1, h2, h3, f, h4, h5⟩ := h.page i p hp
      exact ⟨h1, h2, h3, f, h4, h5.same (hw _ (by omega) h3)⟩, h.inj⟩
theorem SpaceP.below (h : SpaceP w b e n pg A) {B : Nat} (hb : Below B w w') (hB : e ≤ B) : SpaceP w' b e n pg A := h.same hb.size fun j _ hj => hb.block j (by omega)
theorem SpaceAt.same (h : SpaceAt w b e n A) (hs : w.heap.size ≤ w'.heap.size) (hw : ∀ j, b ≤ j → j < e → w'.heap[j]? = w.heap[j]?) : SpaceAt w' b e n A := by
  obtain ⟨pg, h⟩ := h; exact ⟨pg, h.same hs hw⟩
theorem SpaceAt.below (h : SpaceAt w b e n A) {B : Nat} (hb : Below B w w') (hB : e ≤ B) : SpaceAt w' b e n A := by
  obtain ⟨pg, h⟩ := h; exact ⟨pg, h.below hb hB⟩
theorem SpaceAt.hi (h : SpaceAt w b e n A) : e ≤ w.heap.size := by obtain ⟨pg, h⟩ := h; exact h.hi
theorem SpaceAt.lo (h : SpaceAt w b e n A) : b + 2 ≤ e := by obtain ⟨pg, h⟩ := h; exact h.lo
theorem SpaceAt.big (h : SpaceAt w b e n A) (i : Nat) (hi : 4096 ≤ i) : A i = .none := by obtain ⟨pg, h⟩ := h; exact h.none i (h.big i hi)
theorem SpaceAt.wide (h : SpaceAt w b e n A) {e' : Nat} (h1 : e ≤ e') (h2 : e' ≤ w.heap.size) : SpaceAt w b e' n A := by
  obtain ⟨pg, h⟩ := h
  exact ⟨pg, h.head, by have := h.lo; omega, h2, h.map, h.none, fun i p hp => by
    obtain ⟨q1, q2, q3, q4⟩ := h.page i p hp
    exact ⟨q1, q2, by omega, q4⟩, h.inj⟩

theorem Turn.refl (w : World) (b e : Nat) : Turn w w b e := ⟨rfl, rfl, rfl, Nat.le_refl _, fun _ _ _ => rfl⟩
theorem Turn.ofBelow (h : Below w.heap.size w w') (b e : Nat) : Turn w w' b e := ⟨h.os, h.tape, h.output, h.size, fun j hj _ => h.block j hj⟩
theorem Turn.below (h : Turn w w' b e) {B : Nat} (hB : B ≤ b) (hs : B ≤ w.heap.size) : Below B w w' :=
  ⟨h.os, h.tape, h.output, h.size, fun j hj => h.block j (by omega) (by rintro (rfl | ⟨h1, _⟩) <;> omega)⟩
theorem Turn.mine_back (h : Turn w w' b e) (hb : b < w.heap.size) (he : e ≤ w.heap.size) (hk : ∀ j cs, b < j → j < e → (∃ fr, w'.heap[j]? = some (.cells cs 96 fr)) → ∃ cs' fr', w.heap[j]? = some (.cells cs' 96 fr')) {j : Nat} (hm : Mine w' b e j) : Mine w b e j := by
  rcases hm with rfl | ⟨h1, h2, cs, fr, h3⟩
  · exact Or.inl rfl
  · exact Or.inr ⟨h1, h2, hk j cs h1 h2 ⟨fr, h3⟩⟩
/-- A page's cells turn: the space has that page otherwise. -/
theorem SpaceP.turn (h : SpaceP w b e n pg A) {i p : Nat} {f : Pg} (hp : pg i = some p) (hs : w.heap.size ≤ w'.heap.size) (hb : Blk w' p 96 (pcs f)) (hw : ∀ j, j < w.heap.size → j ≠ p → w'.heap[j]? = w.heap[j]?) :
    SpaceP w' b e n pg (upd A i (some f)) := by
  obtain ⟨q1, q2, q3, f0, q4, q5⟩ := h.page i p hp
  have hsz := h.hi
  have hlo := h.lo
  refine ⟨h.head.same (hw _ (by omega) (by omega)), h.lo, Nat.le_trans h.hi hs, h.map.same (hw _ (by omega) (by omega)), fun k hk => ?_, fun k p' hp' => ?_, h.inj⟩
  · unfold upd
    rw [if_neg (by rintro rfl; rw [hp] at hk; cases hk)]
    exact h.none k hk
  · obtain ⟨r1, r2, r3, f1, r4, r5⟩ := h.page k p' hp'
    refine ⟨r1, r2, r3, ?_⟩
    unfold upd
    by_cases hk : k = i
    · subst hk
      rw [hp] at hp'
      cases hp'
      exact ⟨f, by simp, hb⟩
    · refine ⟨f1, by rw [if_neg hk]; exact r4, r5.same (hw _ (by omega) ?_)⟩
      rintro rfl
      exact hk (h.inj _ _ _ hp' hp)
end
end Go.Proofs.YtgdbhmlmioihpaaDoor
end
