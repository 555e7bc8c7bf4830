/- Some texts of one proof, one behind the other; each has its own head below. -/
import Derived.Lib.Bytealg
import Derived.Test.YtbpdoiikleaidaaProg
import Derived.WalkKit
import Derived.WalkSpells
import Derived.WalkLawsBesides
import Derived.RegionTactic
import Derived.Lib.Hide
import Derived.Laws.Rows
import Derived.Laws.AppendOwn
/- Numbers as bytes and digits, and back, as plain functions on lists of bytes. Plain mathematics: no program is named. -/
section
namespace Go.Proofs.Ytbpdoiikleaidaa.Wd

def le (v : Nat) : Nat → List UInt8
  | 0 => []
  | n + 1 => le v n ++ [UInt8.ofNat (v / 256 ^ n)]

def unle : List UInt8 → Nat
  | [] => 0
  | b :: l => b.toNat + 256 * unle l

theorem le_length (v n : Nat) : (le v n).length = n := by
  induction n with
  | zero => rfl
  | succ n ih => simp [le, ih]

theorem unle_append (a b : List UInt8) : unle (a ++ b) = unle a + 256 ^ a.length * unle b := by
  induction a with
  | nil => simp [unle]
  | cons x a ih =>
    simp only [List.cons_append, unle, ih, List.length_cons, Nat.pow_succ]
    rw [Nat.mul_add, ← Nat.mul_assoc, Nat.mul_comm 256 (256 ^ a.length)]
    omega

theorem unle_lt (l : List UInt8) : unle l < 256 ^ l.length := by
  induction l with
  | nil => simp [unle]
  | cons x l ih =>
    simp only [unle, List.length_cons, Nat.pow_succ]
    have := x.toNat_lt
    omega

theorem ofNat_toNat (x : Nat) : (UInt8.ofNat x).toNat = x % 256 := by simp

theorem unle_le (v n : Nat) : unle (le v n) = v % 256 ^ n := by
  induction n with
  | zero => simp [le, unle, Nat.mod_one]
  | succ n ih =>
    rw [le, unle_append, ih, le_length]
    simp only [unle, ofNat_toNat, Nat.mul_zero, Nat.add_zero]
    rw [Nat.pow_succ, Nat.mod_mul]

theorem le_unle (l : List UInt8) : le (unle l) l.length = l := by
  have key : ∀ (n : Nat) (l : List UInt8), l.length = n → le (unle l) n = l := by
    intro n
    induction n with
    | zero => intro l h; have : l = [] := by simpa using h
              subst this; rfl
    | succ n ih =>
      intro l h
      have hne : l ≠ [] := by intro e; subst e; simp at h
      obtain ⟨a, x, rfl⟩ : ∃ a x, l = a ++ [x] := ⟨l.dropLast, l.getLast hne, (List.dropLast_concat_getLast hne).symm⟩
      have ha : a.length = n := by simpa using h
      have hlt := unle_lt a
      rw [ha] at hlt
      have h1 : unle (a ++ [x]) = unle a + 256 ^ n * x.toNat := by rw [unle_append, ha]; simp [unle]
      have h2 : unle (a ++ [x]) / 256 ^ n = x.toNat := by
        rw [h1, Nat.add_mul_div_left _ _ (Nat.pow_pos (by decide)), Nat.div_eq_of_lt hlt]; omega
      have h3 : ∀ m, m ≤ n → le (unle (a ++ [x])) m = le (unle a) m := by
        intro m
        induction m with
        | zero => intro _; rfl
        | succ m ihm =>
          intro hm
          rw [le, le, ihm (by omega)]
          congr 2
          apply UInt8.toNat_inj.1
          rw [ofNat_toNat, ofNat_toNat, h1]
          have e1 : 256 ^ n = 256 ^ m * (256 * 256 ^ (n - m - 1)) := by
            rw [← Nat.pow_succ', ← Nat.pow_add]; congr 1; omega
          rw [e1, Nat.mul_assoc, Nat.add_mul_div_left _ _ (Nat.pow_pos (by decide)), Nat.mul_assoc, Nat.add_mul_mod_self_left]
      rw [le, h3 n (Nat.le_refl _), ih a ha, h2]
      simp
  exact key _ l rfl

/-! digits -/
def digs : List UInt8 := [48, 49, 50, 51, 52, 53, 54, 55, 56, 57, 97, 98, 99, 100, 101, 102]
def hexd (n : Nat) : UInt8 := digs.getD n 0
def dig (c : UInt8) : Nat := if 48 ≤ c.toNat ∧ c.toNat ≤ 57 then c.toNat - 48 else if 97 ≤ c.toNat ∧ c.toNat ≤ 102 then c.toNat - 87 else 16

theorem all_bytes {p : UInt8 → Prop} (h : ∀ n : Fin 256, p (UInt8.ofNat n.val)) (c : UInt8) : p c := by
  have := h ⟨c.toNat, c.toNat_lt⟩
  simpa using this

set_option maxRecDepth 100000 in
theorem dig_index (c : UInt8) : Lib.indexByte digs c = if dig c = 16 then -1 else (dig c : Int) :=
  all_bytes (p := fun c => Lib.indexByte digs c = if dig c = 16 then -1 else (dig c : Int)) (by decide +kernel) c
set_option maxRecDepth 100000 in
theorem hexd_dig (c : UInt8) : dig c ≠ 16 → hexd (dig c) = c :=
  all_bytes (p := fun c => dig c ≠ 16 → hexd (dig c) = c) (by decide +kernel) c
theorem dig_hexd (n : Nat) (h : n < 16) : dig (hexd n) = n := by
  have : ∀ n : Fin 16, dig (hexd n.val) = n.val := by decide
  exact this ⟨n, h⟩
theorem dig_le (c : UInt8) : dig c ≤ 16 := by unfold dig; repeat' split
                                              all_goals omega

def hexL : List UInt8 → List UInt8
  | [] => []
  | b :: l => hexd (b.toNat / 16) :: hexd (b.toNat % 16) :: hexL l

theorem hexL_append (a b : List UInt8) : hexL (a ++ b) = hexL a ++ hexL b := by
  induction a with
  | nil => rfl
  | cons x a ih => simp [hexL, ih]
theorem hexL_length (l : List UInt8) : (hexL l).length = 2 * l.length := by
  induction l with
  | nil => rfl
  | cons x l ih => simp [hexL, ih]; omega

def unhexL : List UInt8 → Option (List UInt8)
  | [] => some []
  | [_] => none
  | h :: l :: r => if dig h = 16 ∨ dig l = 16 then none else (unhexL r).map fun t => UInt8.ofNat (16 * dig h + dig l) :: t

theorem unhexL_hexL (l : List UInt8) : unhexL (hexL l) = some l := by
  induction l with
  | nil => rfl
  | cons x l ih =>
    have hx := x.toNat_lt
    rw [hexL, unhexL, dig_hexd _ (by omega), dig_hexd _ (by omega), if_neg (by omega), ih]
    have : 16 * (x.toNat / 16) + x.toNat % 16 = x.toNat := by omega
    simp [this]

theorem hexL_unhexL : ∀ (d u : List UInt8), unhexL d = some u → hexL u = d := by
  intro d
  induction d using unhexL.induct with
  | case1 => intro u h; simp [unhexL] at h; subst h; rfl
  | case2 => intro u h; simp [unhexL] at h
  | case3 h l r hbad => intro u hh; rw [unhexL, if_pos hbad] at hh; cases hh
  | case4 h l r hok ih =>
    intro u hh
    rw [unhexL, if_neg hok] at hh
    obtain ⟨t, ht, rfl⟩ := Option.map_eq_some_iff.1 hh
    have h1 := dig_le h
    have h2 := dig_le l
    have h3 : (UInt8.ofNat (16 * dig h + dig l)).toNat = 16 * dig h + dig l := by rw [ofNat_toNat]; omega
    rw [hexL, ih t ht, h3, show (16 * dig h + dig l) / 16 = dig h by omega, show (16 * dig h + dig l) % 16 = dig l by omega, hexd_dig h (by omega), hexd_dig l (by omega)]

theorem unhexL_even : ∀ (d u : List UInt8), unhexL d = some u → d.length = 2 * u.length := by
  intro d u h
  rw [← hexL_unhexL d u h, hexL_length]

/-! what the functions hand back -/
def putE (v : Nat) (n : Int) : Int := if n < 1 ∨ 4 < n then 2 else if 256 ^ n.toNat ≤ v then 5 else 0
def putL (v : Nat) (n : Int) : List UInt8 := if putE v n = 0 then le v n.toNat else []
def putHE (v : Nat) (n : Int) : Int := if ¬ n = 2 ∧ ¬ n = 4 then 2 else putE v n
def putHL (v : Nat) (n : Int) : List UInt8 := if ¬ n = 2 ∧ ¬ n = 4 then [] else (putL v n).reverse
def getE (l : List UInt8) : Int := if l.length < 1 ∨ 4 < l.length then 2 else 0
def getN (l : List UInt8) : Nat := if l.length < 1 ∨ 4 < l.length then 0 else unle l
def getHE (l : List UInt8) : Int := if ¬ l.length = 2 ∧ ¬ l.length = 4 then 2 else 0
def getHN (l : List UInt8) : Nat := if ¬ l.length = 2 ∧ ¬ l.length = 4 then 0 else unle l.reverse
def unhexE (l : List UInt8) : Int := if (unhexL l).isSome then 0 else 2
def unhexO (l : List UInt8) : List UInt8 := (unhexL l).getD []

theorem unle_lt32 (l : List UInt8) (h : l.length ≤ 4) : unle l < 4294967296 := by
  have h1 := unle_lt l
  have h2 : (256 : Nat) ^ l.length ≤ 256 ^ 4 := Nat.pow_le_pow_right (by decide) h
  have h3 : (256 : Nat) ^ 4 = 4294967296 := by decide
  omega

end Go.Proofs.Ytbpdoiikleaidaa.Wd
end

/- A block known whole; texts as lists of bytes. -/
section
set_option linter.unusedVariables false
namespace Go.Proofs.Ytbpdoiikleaidaa
open Go Go.RowKit

/-- Block g is just the cells cs of element type t, none frozen. -/
def Blk (w : World) (g : Nat) (t : TypeId) (cs : List Value) : Prop := w.heap[g]? = some (.cells cs.toArray t (0, 0))
section
variable {w w' : World} {g : Nat} {t : TypeId} {cs : List Value}
theorem Blk.lt (h : Blk w g t cs) : g < w.heap.size := by
  rcases Nat.lt_or_ge g w.heap.size with hlt | hge
  · exact hlt
  · unfold Blk at h; rw [Array.getElem?_eq_none hge] at h; cases h
theorem Blk.cell (h : Blk w g t cs) (i : Nat) : w.cell? ⟨g, i, none⟩ = cs[i]? := by rw [cell_of_row w g i _ t (0, 0) h]; simp
theorem Blk.frozen (h : Blk w g t cs) (i : Nat) : w.frozen? ⟨g, i, none⟩ = false := by
  unfold Blk at h
  simp [World.frozen?, h]
theorem Blk.new (w : World) (t : TypeId) (cs : List Value) : Blk (w.alloc (.cells cs.toArray t)) w.heap.size t cs := heap_alloc_new w _
theorem Blk.drew (h : Blk w g t cs) : Blk w.drew g t cs := h
theorem Blk.alloc (h : Blk w g t cs) (o : Obj) : Blk (w.alloc o) g t cs := (Below.heap_alloc w o g h.lt).trans h
theorem Blk.set_ (h : Blk w g t cs) (i : Nat) (u : Value) : Blk (w.setCell ⟨g, i, none⟩ u) g t (cs.set i u) := by
  unfold Blk at h ⊢
  simp [World.setCell, Array.getElem?_modify, h]
theorem Blk.far (h : Blk w g t cs) {p : Addr} (hp : g ≠ p.block) (u : Value) : Blk (w.setCell p u) g t cs := (Below.heap_setCell w p u g hp).trans h
theorem Blk.below {B : Nat} (h : Blk w g t cs) (hb : Below B w w') (hg : g < B) : Blk w' g t cs := (hb.block g hg).trans h
theorem Blk.grown {row : Option Nat} (h : Blk w g t cs) (hb : w.grownBy w' row) (hg : some g ≠ row) : Blk w' g t cs := (hb.block g h.lt hg).trans h
theorem Blk.same (h : Blk w g t cs) (hw : w'.heap[g]? = w.heap[g]?) : Blk w' g t cs := hw.trans h
theorem Blk.ne {j k : Nat} {t u : TypeId} {cs ds : List Value} (h1 : Blk w j t cs) (h2 : Blk w k u ds) (ht : t ≠ u) : j ≠ k := by
  rintro rfl
  unfold Blk at h1 h2
  rw [h1] at h2
  injection h2 with h2
  injection h2 with _ h2
  exact ht h2
theorem grown_set (w : World) (k i : Nat) (v : Value) : w.grownBy (w.setCell ⟨k, i, none⟩ v) (some k) :=
  ⟨rfl, rfl, rfl, by simp, fun j hj hr => Below.heap_setCell w ⟨k, i, none⟩ v j (by rintro rfl; exact hr rfl)⟩
theorem drewN_add (w : World) (a b : Nat) : (w.drewN a).drewN b = w.drewN (a + b) := by unfold World.drewN; simp [Nat.add_assoc]
theorem below_drewN (w : World) (n : Nat) : Below w.heap.size w (w.drewN n) := ⟨rfl, rfl, rfl, Nat.le_refl _, fun _ _ => rfl⟩
end

/-! texts -/
/-- A text of these bytes. -/
def tx (l : List UInt8) : ByteArray := ⟨l.toArray⟩
def by' (s : ByteArray) : List UInt8 := s.data.toList
theorem tx_size (l : List UInt8) : (tx l).size = l.length := by show l.toArray.size = _; simp
theorem by_length (s : ByteArray) : (by' s).length = s.size := rfl
theorem by_tx (l : List UInt8) : by' (tx l) = l := by simp [by', tx]
theorem tx_by (s : ByteArray) : tx (by' s) = s := by
  apply ByteArray.ext
  simp [by', tx]
theorem tx_inj {a b : List UInt8} (h : tx a = tx b) : a = b := by rw [← by_tx a, ← by_tx b, h]
theorem tx_append (a b : List UInt8) : tx a ++ tx b = tx (a ++ b) := by
  apply ByteArray.ext
  simp [tx]
theorem tx_take (l : List UInt8) (k : Nat) : (tx l).extract 0 k = tx (l.take k) := by
  apply ByteArray.ext
  rw [ByteArray.data_extract]
  simp [tx]
theorem tx_drop (l : List UInt8) (k n : Nat) (h : n = l.length) : (tx l).extract k n = tx (l.drop k) := by
  subst h
  apply ByteArray.ext
  rw [ByteArray.data_extract]
  simp only [tx, List.extract_toArray, List.extract_eq_take_drop]
  rw [List.take_of_length_le (by rw [List.length_drop]; omega)]
end Go.Proofs.Ytbpdoiikleaidaa
end
