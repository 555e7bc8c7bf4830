/- Numbers as bytes and digits, and back, as plain functions on lists of bytes. Plain mathematics: no program is named. -/
import Derived.Lib.Bytealg
namespace Go.Proofs.Ytfnofolahhoggaa.Wd

def le (v : Nat) : Nat → List UInt8
  | 0 => []
  | n + 1 => le v n ++ [UInt8.ofNat (v / 256 ^ n)]

def unle : List UInt8 → Nat
  | [] => 0
  | b :: l => b.toNat + 256 * unle l

theorem le_length (v n : Nat) : (le v n).length = n := by
  induction n with
  | zero => rfl
  | succ n ih => simp [le, ih]

theorem unle_append (a b : List UInt8) : unle (a ++ b) = unle a + 256 ^ a.length * unle b := by
  induction a with
  | nil => simp [unle]
  | cons x a ih =>
    simp only [List.cons_append, unle, ih, List.length_cons, Nat.pow_succ]
    rw [Nat.mul_add, ← Nat.mul_assoc, Nat.mul_comm 256 (256 ^ a.length)]
    omega

theorem unle_lt (l : List UInt8) : unle l < 256 ^ l.length := by
  induction l with
  | nil => simp [unle]
  | cons x l ih =>
    simp only [unle, List.length_cons, Nat.pow_succ]
    have := x.toNat_lt
    omega

theorem ofNat_toNat (x : Nat) : (UInt8.ofNat x).toNat = x % 256 := by simp

theorem unle_le (v n : Nat) : unle (le v n) = v % 256 ^ n := by
  induction n with
  | zero => simp [le, unle, Nat.mod_one]
  | succ n ih =>
    rw [le, unle_append, ih, le_length]
    simp only [unle, ofNat_toNat, Nat.mul_zero, Nat.add_zero]
    rw [Nat.pow_succ, Nat.mod_mul]

theorem le_unle (l : List UInt8) : le (unle l) l.length = l := by
  have key : ∀ (n : Nat) (l : List UInt8), l.length = n → le (unle l) n = l := by
    intro n
    induction n with
    | zero => intro l h; have : l = [] := by simpa using h
              subst this; rfl
    | succ n ih =>
      intro l h
      have hne : l ≠ [] := by intro e; subst e; simp at h
      obtain ⟨a, x, rfl⟩ : ∃ a x, l = a ++ [x] := ⟨l.dropLast, l.getLast hne, (List.dropLast_concat_getLast hne).symm⟩
      have ha : a.length = n := by simpa using h
      have hlt := unle_lt a
      rw [ha] at hlt
      have h1 : unle (a ++ [x]) = unle a + 256 ^ n * x.toNat := by rw [unle_append, ha]; simp [unle]
      have h2 : unle (a ++ [x]) / 256 ^ n = x.toNat := by
        rw [h1, Nat.add_mul_div_left _ _ (Nat.pow_pos (by decide)), Nat.div_eq_of_lt hlt]; omega
      have h3 : ∀ m, m ≤ n → le (unle (a ++ [x])) m = le (unle a) m := by
        intro m
        induction m with
        | zero => intro _; rfl
        | succ m ihm =>
          intro hm
          rw [le, le, ihm (by omega)]
          congr 2
          apply UInt8.toNat_inj.1
          rw [ofNat_toNat, ofNat_toNat, h1]
          have e1 : 256 ^ n = 256 ^ m * (256 * 256 ^ (n - m - 1)) := by
            rw [← Nat.pow_succ', ← Nat.pow_add]; congr 1; omega
          rw [e1, Nat.mul_assoc, Nat.add_mul_div_left _ _ (Nat.pow_pos (by decide)), Nat.mul_assoc, Nat.add_mul_mod_self_left]
      rw [le, h3 n (Nat.le_refl _), ih a ha, h2]
      simp
  exact key _ l rfl

/-! digits -/
def digs : List UInt8 := [48, 49, 50, 51, 52, 53, 54, 55, 56, 57, 97, 98, 99, 100, 101, 102]
def hexd (n : Nat) : UInt8 := digs.getD n 0
def dig (c : UInt8) : Nat := if 48 ≤ c.toNat ∧ c.toNat ≤ 57 then c.toNat - 48 else if 97 ≤ c.toNat ∧ c.toNat ≤ 102 then c.toNat - 87 else 16

theorem all_bytes {p : UInt8 → Prop} (h : ∀ n : Fin 256, p (UInt8.ofNat n.val)) (c : UInt8) : p c := by
  have := h ⟨c.toNat, c.toNat_lt⟩
  simpa using this

set_option maxRecDepth 100000 in
theorem dig_index (c : UInt8) : Lib.indexByte digs c = if dig c = 16 then -1 else (dig c : Int) :=
  all_bytes (p := fun c => Lib.indexByte digs c = if dig c = 16 then -1 else (dig c : Int)) (by decide +kernel) c
set_option maxRecDepth 100000 in
theorem hexd_dig (c : UInt8) : dig c ≠ 16 → hexd (dig c) = c :=
  all_bytes (p := fun c => dig c ≠ 16 → hexd (dig c) = c) (by decide +kernel) c
theorem dig_hexd (n : Nat) (h : n < 16) : dig (hexd n) = n := by
  have : ∀ n : Fin 16, dig (hexd n.val) = n.val := by decide
  exact this ⟨n, h⟩
theorem dig_le (c : UInt8) : dig c ≤ 16 := by unfold dig; repeat' split
                                              all_goals omega

def hexL : List UInt8 → List UInt8
  | [] => []
  | b :: l => hexd (b.toNat / 16) :: hexd (b.toNat % 16) :: hexL l

theorem hexL_append (a b : List UInt8) : hexL (a ++ b) = hexL a ++ hexL b := by
  induction a with
  | nil => rfl
  | cons x a ih => simp [hexL, ih]
theorem hexL_length (l : List UInt8) : (hexL l).length = 2 * l.length := by
  induction l with
  | nil => rfl
  | cons x l ih => simp [hexL, ih]; omega

def unhexL : List UInt8 → Option (List UInt8)
  | [] => some []
  | [_] => none
  | h :: l :: r => if dig h = 16 ∨ dig l = 16 then none else (unhexL r).map fun t => UInt8.ofNat (16 * dig h + dig l) :: t

theorem unhexL_hexL (l : List UInt8) : unhexL (hexL l) = some l := by
  induction l with
  | nil => rfl
  | cons x l ih =>
    have hx := x.toNat_lt
    rw [hexL, unhexL, dig_hexd _ (by omega), dig_hexd _ (by omega), if_neg (by omega), ih]
    have : 16 * (x.toNat / 16) + x.toNat % 16 = x.toNat := by omega
    simp [this]

theorem hexL_unhexL : ∀ (d u : List UInt8), unhexL d = some u → hexL u = d := by
  intro d
  induction d using unhexL.induct with
  | case1 => intro u h; simp [unhexL] at h; subst h; rfl
  | case2 => intro u h; simp [unhexL] at h
  | case3 h l r hbad => intro u hh; rw [unhexL, if_pos hbad] at hh; cases hh
  | case4 h l r hok ih =>
    intro u hh
    rw [unhexL, if_neg hok] at hh
    obtain ⟨t, ht, rfl⟩ := Option.map_eq_some_iff.1 hh
    have h1 := dig_le h
    have h2 := dig_le l
    have h3 : (UInt8.ofNat (16 * dig h + dig l)).toNat = 16 * dig h + dig l := by rw [ofNat_toNat]; omega
    rw [hexL, ih t ht, h3, show (16 * dig h + dig l) / 16 = dig h by omega, show (16 * dig h + dig l) % 16 = dig l by omega, hexd_dig h (by omega), hexd_dig l (by omega)]

theorem unhexL_even : ∀ (d u : List UInt8), unhexL d = some u → d.length = 2 * u.length := by
  intro d u h
  rw [← hexL_unhexL d u h, hexL_length]

/-! what the functions hand back -/
def putE (v : Nat) (n : Int) : Int := if n < 1 ∨ 4 < n then 2 else if 256 ^ n.toNat ≤ v then 5 else 0
def putL (v : Nat) (n : Int) : List UInt8 := if putE v n = 0 then le v n.toNat else []
def putHE (v : Nat) (n : Int) : Int := if ¬ n = 2 ∧ ¬ n = 4 then 2 else putE v n
def putHL (v : Nat) (n : Int) : List UInt8 := if ¬ n = 2 ∧ ¬ n = 4 then [] else (putL v n).reverse
def getE (l : List UInt8) : Int := if l.length < 1 ∨ 4 < l.length then 2 else 0
def getN (l : List UInt8) : Nat := if l.length < 1 ∨ 4 < l.length then 0 else unle l
def getHE (l : List UInt8) : Int := if ¬ l.length = 2 ∧ ¬ l.length = 4 then 2 else 0
def getHN (l : List UInt8) : Nat := if ¬ l.length = 2 ∧ ¬ l.length = 4 then 0 else unle l.reverse
def unhexE (l : List UInt8) : Int := if (unhexL l).isSome then 0 else 2
def unhexO (l : List UInt8) : List UInt8 := (unhexL l).getD []

theorem unle_lt32 (l : List UInt8) (h : l.length ≤ 4) : unle l < 4294967296 := by
  have h1 := unle_lt l
  have h2 : (256 : Nat) ^ l.length ≤ 256 ^ 4 := Nat.pow_le_pow_right (by decide) h
  have h3 : (256 : Nat) ^ 4 = 4294967296 := by decide
  omega

end Go.Proofs.Ytfnofolahhoggaa.Wd
