/- (*Hash).write: what a text does to a hash. -/
import Derived.Test.YtkomfgoloepekaaDoorE
import Derived.Deep.RegionHeld3
import Derived.Deep.MidRow
import Derived.Laws.CopyRow
import Derived.Lib.SlBuf
set_option linter.unusedVariables false
namespace Go.Proofs.YtkomfgoloepekaaDoor
open Go.RowKit

/-- copy of a text's first bytes into a row. -/
theorem run_copy_part {P : Program} (w : World) (dT sT ty elem : TypeId) (g o dLen dCap k : Nat) (s : ByteArray) (cur : List Value) (t : TypeId)
    (hu : P.underlying dT = some (.slice elem)) (hs : (P.info? elem).map (·.size) = some 1) (hg : Blk w g t cur) (hk : k = Nat.min s.size dLen) (hfit : o + k ≤ cur.length) :
    (Builtin.copy_ #[dT, sT] ty #[.slice (some ⟨g, o, none⟩) dLen dCap, .string s]).run P w =
      .ok (goInt k) (w.setRow g (cur.take o ++ u8s ((nats s).take k) ++ cur.drop (o + k)).toArray) := by
  have hv : u8s ((nats s).take k) = List.take k (List.map (fun b : UInt8 => Value.int IntKind.u8 (b.toNat : Int)) s.data.toList) := by
    simp [u8s, nats, List.map_take, List.map_map, Function.comp_def]
  have hlen : (u8s ((nats s).take k)).length = k := by
    rw [u8s_length, List.length_take, nats_length]
    have : Nat.min s.size dLen ≤ s.size := Nat.min_le_left _ _
    omega
  have hst := run_storeCells_at (P := P) g o t (u8s ((nats s).take k)) 0 cur.toArray w hg (by rw [hlen]; simpa using hfit) (u8s_one _)
  rw [hlen] at hst
  simp only [Nat.add_zero] at hst
  cases hq : P.info? elem with
  | none => simp [hq] at hs
  | some i =>
    simp [Builtin.copy_, run_underlying hu, Builtin.lenOf, Builtin.firstCells, sizeOf, typeInfo, hq]
    rw [← hk, ← hv, hst]
    simp [Result.andThen]

/-- The cells of a hash: the numbers, the bytes since the last whole block, how many were written. -/
def hcells (st rest : List Nat) (n : Nat) : List Value := u32s st ++ u8s rest ++ [.int .i64 (n : Int)]
/-- Behind the pointer lies the hash to which the text l was written. -/
def HashOf (w : World) (g : Nat) (l : List Nat) : Prop :=
  ∃ rest, rest.length = 64 ∧ (∀ x ∈ rest, x < 256) ∧ rest.take (l.length % 64) = l.drop (64 * (l.length / 64)) ∧ Blk w g 55 (hcells (Sh.state l) rest l.length)
section
variable {st rest : List Nat} {n : Nat}
theorem hcells_length (h1 : st.length = 8) (h2 : rest.length = 64) : (hcells st rest n).length = 73 := by simp [hcells, u32s, u8s, h1, h2]
theorem hcells_len (h1 : st.length = 8) (h2 : rest.length = 64) : (hcells st rest n)[72]? = some (.int .i64 (n : Int)) := by
  unfold hcells
  rw [List.getElem?_append_right (by simp [u32s, u8s, h1, h2])]
  simp [u32s, u8s, h1, h2]
theorem hcells_setLen (h1 : st.length = 8) (h2 : rest.length = 64) (m : Nat) : (hcells st rest n).set 72 (.int .i64 (m : Int)) = hcells st rest m := by
  unfold hcells
  rw [List.set_append_right _ _ (by simp [u32s, u8s, h1, h2])]
  simp [u32s, u8s, h1, h2]
theorem hcells_part (h1 : st.length = 8) (h2 : rest.length = 64) (o : Nat) (p : List Nat) (hp : o + p.length ≤ 64) :
    (hcells st rest n).take (8 + o) ++ u8s p ++ (hcells st rest n).drop (8 + o + p.length) = hcells st (rest.take o ++ p ++ rest.drop (o + p.length)) n := by
  unfold hcells
  have e8 : (u32s st).length = 8 := by simp [u32s, h1]
  rw [List.append_assoc (u32s st), List.take_append, List.drop_append, e8, List.take_of_length_le (by omega), List.drop_of_length_le (by omega)]
  rw [show 8 + o - 8 = o by omega, show 8 + o + p.length - 8 = o + p.length by omega]
  rw [List.take_append_of_le_length (by simp [u8s, h2]; omega), List.drop_append_of_le_length (by simp [u8s, h2]; omega)]
  simp [u8s, List.map_take, List.map_drop, List.append_assoc]
theorem hcells_state (h1 : st.length = 8) (st' : List Nat) (h3 : st'.length = 8) : u32s st' ++ (hcells st rest n).drop 8 = hcells st' rest n := by
  unfold hcells
  rw [List.append_assoc (u32s st), List.drop_append, List.drop_of_length_le (by simp [u32s, h1])]
  simp [u32s, h1]
end

/-- One piece of a text: k bytes more, not beyond a block's end. -/
theorem rest_more (l p rest : List Nat) (hr : rest.length = 64) (hre : rest.take (l.length % 64) = l.drop (64 * (l.length / 64))) (hp : l.length % 64 + p.length < 64) :
    (rest.take (l.length % 64) ++ p ++ rest.drop (l.length % 64 + p.length)).take ((l ++ p).length % 64) = (l ++ p).drop (64 * ((l ++ p).length / 64)) := by
  have e1 : (l ++ p).length / 64 = l.length / 64 := by rw [List.length_append]; omega
  have e2 : (l ++ p).length % 64 = l.length % 64 + p.length := by rw [List.length_append]; omega
  rw [e1, e2, List.take_append_of_le_length (by rw [List.length_append, List.length_take]; omega), List.take_of_length_le (by rw [List.length_append, List.length_take]; omega), hre,
    List.drop_append_of_le_length (by omega)]
theorem rest_full (l p rest : List Nat) (hr : rest.length = 64) (hp : l.length % 64 + p.length = 64) :
    (rest.take (l.length % 64) ++ p ++ rest.drop (l.length % 64 + p.length)) = rest.take (l.length % 64) ++ p := by
  rw [List.drop_of_length_le (by omega), List.append_nil]

theorem only_drewN {a w : World} {row : Option Nat} (h : a.grownBy w row) (n : Nat) : a.grownBy (w.drewN n) row := ⟨h.os, h.tape, h.output, h.size, h.block⟩
theorem only_below {a w w' : World} {row : Option Nat} (h : a.grownBy w row) (hb : Below w.heap.size w w') : a.grownBy w' row :=
  ⟨hb.os.trans h.os, hb.tape.trans h.tape, hb.output.trans h.output, Nat.le_trans h.size hb.size, fun i hi hne => (hb.block i (Nat.lt_of_lt_of_le hi h.size)).trans (h.block i hi hne)⟩
theorem only_setCell {a w : World} {g : Nat} (h : a.grownBy w (some g)) {p : Addr} (hp : p.block = g ∨ a.heap.size ≤ p.block) (u : Value) : a.grownBy (w.setCell p u) (some g) :=
  ⟨h.os, h.tape, h.output, by simpa [World.setCell] using h.size, fun i hi hne => (Below.heap_setCell w p u i (by
    rintro rfl
    rcases hp with hp | hp
    · exact hne (by rw [hp])
    · omega)).trans (h.block i hi hne)⟩
theorem only_setRow {a w : World} {g : Nat} (h : a.grownBy w (some g)) (cs : Array Value) : a.grownBy (w.setRow g cs) (some g) :=
  ⟨h.os, h.tape, h.output, by simpa using h.size, fun i hi hne => (setRow_other w g i cs (fun e => hne (by rw [e]))).trans (h.block i hi hne)⟩
theorem only_trans {a b c : World} {row : Option Nat} (h : a.grownBy b row) (k : b.grownBy c row) : a.grownBy c row :=
  ⟨k.os.trans h.os, k.tape.trans h.tape, k.output.trans h.output, Nat.le_trans h.size k.size, fun i hi hne => (k.block i (Nat.lt_of_lt_of_le hi h.size) hne).trans (h.block i hi hne)⟩
theorem Keyed.grown {w w' : World} {g : Nat} (h : Keyed w) (hb : w.grownBy w' (some g)) (hg : g ≠ 0) : Keyed w' :=
  ⟨Nat.lt_of_lt_of_le h.1 hb.size, fun j hj => (World.cell?_of_block (hb.block 0 h.1 (by simpa using Ne.symm hg))).trans (h.2 j hj)⟩
theorem Blk.setCells {w : World} {g : Nat} {t : TypeId} : ∀ (vs : List Value) (cs : List Value) (o : Nat), Blk w g t cs → o + vs.length ≤ cs.length → Blk (w.setCells g o vs) g t (cs.take o ++ vs ++ cs.drop (o + vs.length)) := by
  intro vs
  induction vs generalizing w with
  | nil => intro cs o h _; simpa [World.setCells] using h
  | cons v r ih =>
    intro cs o h hl
    rw [World.setCells]
    have h2 := ih (cs.set o v) (o + 1) (h.set_ o v) (by simp at hl ⊢; omega)
    have e : (cs.set o v).take (o + 1) ++ r ++ (cs.set o v).drop (o + 1 + r.length) = cs.take o ++ (v :: r) ++ cs.drop (o + (v :: r).length) := by
      have hlt : o < cs.length := by simp at hl; omega
      rw [List.take_succ_eq_append_getElem (by simpa using hlt), List.take_set_of_le (Nat.le_refl _), List.getElem_set_self, List.drop_set_of_lt (by omega)]
      simp [List.append_assoc, Nat.add_assoc, Nat.add_comm 1]
    rw [e] at h2
    exact h2
theorem grown_setCells {a : World} {g : Nat} : ∀ (vs : List Value) (o : Nat) (w : World), a.grownBy w (some g) → a.grownBy (w.setCells g o vs) (some g)
  | [], _, _, h => h
  | v :: r, o, w, h => grown_setCells r (o + 1) _ (only_setCell h (.inl rfl) v)
end Go.Proofs.YtkomfgoloepekaaDoor
