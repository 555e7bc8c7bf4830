/- Numbers in parts of 32 bits, and roots found bit by bit. Plain mathematics: no program is named. -/
import Derived.Test.YtkomfgoloepekaaDoorM
set_option linter.unusedVariables false
namespace Go.Proofs.YtkomfgoloepekaaDoor.Rf.Sh

def val : List Nat → Nat
  | [] => 0
  | x :: l => x + 4294967296 * val l

theorem pow32 (j : Nat) : (2 : Nat) ^ (32 * (j + 1)) = 4294967296 * 2 ^ (32 * j) := by
  rw [Nat.mul_add, Nat.pow_add, Nat.mul_comm]

theorem val_set (l : List Nat) : ∀ (j y : Nat) (h : j < l.length), val (l.set j y) + l[j] * 2 ^ (32 * j) = val l + y * 2 ^ (32 * j) := by
  induction l with
  | nil => intro j y h; simp at h
  | cons x l ih =>
    intro j y h
    cases j with
    | zero => simp [val]; omega
    | succ j =>
      have h' : j < l.length := by simpa using h
      have := ih j y h'
      simp only [List.set_cons_succ, val, List.getElem_cons_succ, pow32]
      generalize 2 ^ (32 * j) = z at *
      generalize val (l.set j y) = u at *
      generalize val l = v at *
      generalize l[j] = t at *
      have e1 : t * (4294967296 * z) = 4294967296 * (t * z) := by rw [Nat.mul_left_comm]
      have e2 : y * (4294967296 * z) = 4294967296 * (y * z) := by rw [Nat.mul_left_comm]
      rw [e1, e2]
      omega

theorem val_append (a b : List Nat) : val (a ++ b) = val a + 2 ^ (32 * a.length) * val b := by
  induction a with
  | nil => simp [val]
  | cons x a ih =>
    simp only [List.cons_append, val, ih, List.length_cons, pow32]
    rw [Nat.mul_add, Nat.mul_assoc]
    omega

theorem val_take (l : List Nat) (k : Nat) (h : k < l.length) : val (l.take (k + 1)) = val (l.take k) + l[k] * 2 ^ (32 * k) := by
  rw [List.take_succ_eq_append_getElem h, val_append]
  simp only [val, List.length_take, Nat.min_eq_left (Nat.le_of_lt h), Nat.mul_zero, Nat.add_zero]
  rw [Nat.mul_comm]

theorem val_zero (l : List Nat) (h : ∀ x ∈ l, x = 0) : val l = 0 := by
  induction l with
  | nil => rfl
  | cons x l ih =>
    have h0 := h x (by simp)
    have h1 := ih (fun y hy => h y (by simp [hy]))
    simp [val, h0, h1]

theorem val_lt (l : List Nat) (h : ∀ x ∈ l, x < 4294967296) : val l < 2 ^ (32 * l.length) := by
  induction l with
  | nil => simp [val]
  | cons x l ih =>
    have h0 := h x (by simp)
    have h1 := ih (fun y hy => h y (by simp [hy]))
    simp only [val, List.length_cons, pow32]
    omega

theorem val_pos (l : List Nat) (j : Nat) (h : j < l.length) (h0 : l[j] ≠ 0) : 2 ^ (32 * j) ≤ val l := by
  have := val_set l j 0 h
  have h1 : 2 ^ (32 * j) ≤ l[j] * 2 ^ (32 * j) := Nat.le_mul_of_pos_left _ (by omega)
  omega

/-- One step of the inner loop of a product: the part at i + k is set, what is over is carried. -/
theorem mul_step (o : List Nat) (A x y c P T : Nat) (j : Nat) (h : j < o.length) (hi : val o + c * 2 ^ (32 * j) = P + T) (v : Nat) (hv : v = x * y + o[j] + c) :
    val (o.set j (v % 4294967296)) + v / 4294967296 * 2 ^ (32 * (j + 1)) = P + (T + x * y * 2 ^ (32 * j)) := by
  have h1 := val_set o j (v % 4294967296) h
  rw [pow32]
  generalize 2 ^ (32 * j) = z at *
  generalize val (o.set j (v % 4294967296)) = u at *
  generalize val o = t at *
  generalize o[j] = q at *
  have e : v / 4294967296 * (4294967296 * z) = (4294967296 * (v / 4294967296)) * z := by rw [← Nat.mul_assoc, Nat.mul_comm (v / 4294967296)]
  rw [e]
  have e2 : v % 4294967296 * z + 4294967296 * (v / 4294967296) * z = v * z := by rw [← Nat.add_mul, Nat.mod_add_div]
  have e3 : v * z = x * y * z + q * z + c * z := by rw [hv, Nat.add_mul, Nat.add_mul]
  omega

theorem over_lt (x y q c : Nat) (hx : x < 4294967296) (hy : y < 4294967296) (hq : q < 4294967296) (hc : c < 4294967296) : x * y + q + c < 18446744073709551616 := by
  have h1 : x * y ≤ 4294967295 * 4294967295 := Nat.mul_le_mul (by omega) (by omega)
  omega

/-! roots, bit by bit -/
def rt (p n : Nat) : Nat → Nat → Nat
  | 0, x => x
  | b + 1, x => rt p n b (if p * 2 ^ (32 * n) < (x + 2 ^ b) ^ n then x else x + 2 ^ b)
def root (p n : Nat) : Nat := rt p n 37 0 % 4294967296

def primes64 : List Nat := [2, 3, 5, 7, 11, 13, 17, 19, 23, 29, 31, 37, 41, 43, 47, 53, 59, 61, 67, 71, 73, 79, 83, 89, 97, 101, 103, 107, 109, 113, 127, 131, 137, 139, 149, 151, 157, 163, 167, 173, 179, 181, 191, 193, 197, 199, 211, 223, 227, 229, 233, 239, 241, 251, 257, 263, 269, 271, 277, 281, 283, 293, 307, 311]
theorem keys_are : primes64.map (fun p => root p 3) = Go.Proofs.YtkomfgoloepekaaDoor.Sh.keys := by decide +kernel
theorem heads_are : (primes64.take 8).map (fun p => root p 2) = Go.Proofs.YtkomfgoloepekaaDoor.Sh.heads := by decide +kernel

end Go.Proofs.YtkomfgoloepekaaDoor.Rf.Sh
