/- SHA-256 as plain mathematics: numbers of 32 bits, a block's words, its rounds, what is filled up, the sum. No program is named. -/
namespace Go.Proofs.YtkomfgoloepekaaDoor
set_option linter.unusedVariables false

/-- A rotation to the right. -/
def rotr (x n : Nat) : Nat := (x / 2 ^ n) ||| (x * 2 ^ (32 - n) % 4294967296)
theorem rotr_lt (x n : Nat) (hx : x < 4294967296) : rotr x n < 4294967296 :=
  Nat.or_lt_two_pow (n := 32) (Nat.lt_of_le_of_lt (Nat.div_le_self _ _) hx) (Nat.mod_lt _ (by decide))
theorem or_lt32 (a b : Nat) (ha : a < 4294967296) (hb : b < 4294967296) : a ||| b < 4294967296 := Nat.or_lt_two_pow (n := 32) ha hb
theorem xor_lt32 (a b : Nat) (ha : a < 4294967296) (hb : b < 4294967296) : a ^^^ b < 4294967296 := Nat.xor_lt_two_pow (n := 32) ha hb
theorem and_lt32 (a b : Nat) (hb : b < 4294967296) : a &&& b < 4294967296 := Nat.and_lt_two_pow a (n := 32) hb

namespace Sh
def S1 (e : Nat) : Nat := rotr e 6 ^^^ rotr e 11 ^^^ rotr e 25
def S0 (a : Nat) : Nat := rotr a 2 ^^^ rotr a 13 ^^^ rotr a 22
def s0 (a : Nat) : Nat := rotr a 7 ^^^ rotr a 18 ^^^ (a / 2 ^ 3)
def s1 (a : Nat) : Nat := rotr a 17 ^^^ rotr a 19 ^^^ (a / 2 ^ 10)
def ch (e f g : Nat) : Nat := (e &&& f) ^^^ ((4294967295 ^^^ e) &&& g)
def maj (a b c : Nat) : Nat := (a &&& b) ^^^ (a &&& c) ^^^ (b &&& c)
def T1 (e f g h k x : Nat) : Nat := (h + S1 e + ch e f g + k + x) % 4294967296
def T2 (a b c : Nat) : Nat := (S0 a + maj a b c) % 4294967296
/-- One round. -/
def rd (v : List Nat) (k x : Nat) : List Nat :=
  match v with
  | [a, b, c, d, e, f, g, h] => [(T1 e f g h k x + T2 a b c) % 4294967296, a, b, c, (d + T1 e f g h k x) % 4294967296, e, f, g]
  | v => v
def rounds (K W v : List Nat) : Nat → List Nat
  | 0 => v
  | t + 1 => rd (rounds K W v t) (K.getD t 0) (W.getD t 0)
/-- What a block makes of the eight numbers. -/
def blockL (K W H0 : List Nat) : List Nat := List.zipWith (fun a b => (a + b) % 4294967296) (rounds K W H0 64) H0
/-- Four bytes as a number, the highest first. -/
def be4 (b0 b1 b2 b3 : Nat) : Nat := b0 * 16777216 + b1 * 65536 + b2 * 256 + b3
/-- W0 to W15 of a block. -/
def first16 (b : List Nat) : List Nat := (List.range 16).map fun k => be4 (b.getD (4 * k) 0) (b.getD (4 * k + 1) 0) (b.getD (4 * k + 2) 0) (b.getD (4 * k + 3) 0)
/-- W of a place that stands behind the sixteenth. -/
def next (w : List Nat) : Nat := (w.getD (w.length - 16) 0 + s0 (w.getD (w.length - 15) 0) + w.getD (w.length - 7) 0 + s1 (w.getD (w.length - 2) 0)) % 4294967296
def more (w : List Nat) : Nat → List Nat
  | 0 => w
  | n + 1 => more w n ++ [next (more w n)]
def words (b : List Nat) : List Nat := more (first16 b) 48

theorem rd_length (v : List Nat) (k x : Nat) (h : v.length = 8) : (rd v k x).length = 8 := by
  match v, h with
  | [a, b, c, d, e, f, g, i], _ => rfl
theorem rounds_length (K W v : List Nat) (h : v.length = 8) (t : Nat) : (rounds K W v t).length = 8 := by
  induction t with
  | zero => exact h
  | succ t ih => exact rd_length _ _ _ ih
theorem blockL_length (K W v : List Nat) (h : v.length = 8) : (blockL K W v).length = 8 := by
  unfold blockL; rw [List.length_zipWith, rounds_length K W v h, h]; rfl
theorem blockL_small (K W v : List Nat) : ∀ x ∈ blockL K W v, x < 4294967296 := by
  intro x hx
  unfold blockL at hx
  rw [← List.map_uncurry_zip_eq_zipWith] at hx
  obtain ⟨⟨a, b⟩, _, rfl⟩ := List.mem_map.1 hx
  exact Nat.mod_lt _ (by decide)
theorem more_length (w : List Nat) (n : Nat) : (more w n).length = w.length + n := by
  induction n with
  | zero => rfl
  | succ n ih => simp [more, ih]; omega
theorem first16_length (b : List Nat) : (first16 b).length = 16 := by simp [first16]
theorem words_length (b : List Nat) : (words b).length = 64 := by unfold words; rw [more_length, first16_length]
theorem be4_lt (a b c d : Nat) (ha : a < 256) (hb : b < 256) (hc : c < 256) (hd : d < 256) : be4 a b c d < 4294967296 := by unfold be4; omega
theorem getD_lt (b : List Nat) (m : Nat) (hm : 0 < m) (h : ∀ x ∈ b, x < m) (j : Nat) : b.getD j 0 < m := by
  rw [List.getD_eq_getElem?_getD]
  by_cases hj : j < b.length
  · rw [List.getElem?_eq_getElem hj]; exact h _ (List.getElem_mem _)
  · rw [List.getElem?_eq_none (by omega)]; exact hm
theorem first16_small (b : List Nat) (h : ∀ x ∈ b, x < 256) : ∀ x ∈ first16 b, x < 4294967296 := by
  intro x hx
  obtain ⟨k, _, rfl⟩ := List.mem_map.1 hx
  exact be4_lt _ _ _ _ (getD_lt b _ (by decide) h _) (getD_lt b _ (by decide) h _) (getD_lt b _ (by decide) h _) (getD_lt b _ (by decide) h _)
theorem more_small (w : List Nat) (h : ∀ x ∈ w, x < 4294967296) (n : Nat) : ∀ x ∈ more w n, x < 4294967296 := by
  induction n with
  | zero => exact h
  | succ n ih =>
    intro x hx
    rcases List.mem_append.1 hx with hx | hx
    · exact ih x hx
    · rw [List.mem_singleton] at hx; subst hx; exact Nat.mod_lt _ (by decide)
theorem words_small (b : List Nat) (h : ∀ x ∈ b, x < 256) : ∀ x ∈ words b, x < 4294967296 := more_small _ (first16_small b h) 48

/-- K0 to K63, and H0 to H7. -/
def keys : List Nat := [0x428a2f98, 0x71374491, 0xb5c0fbcf, 0xe9b5dba5, 0x3956c25b, 0x59f111f1, 0x923f82a4, 0xab1c5ed5, 0xd807aa98, 0x12835b01, 0x243185be, 0x550c7dc3, 0x72be5d74, 0x80deb1fe, 0x9bdc06a7, 0xc19bf174, 0xe49b69c1, 0xefbe4786, 0x0fc19dc6, 0x240ca1cc, 0x2de92c6f, 0x4a7484aa, 0x5cb0a9dc, 0x76f988da, 0x983e5152, 0xa831c66d, 0xb00327c8, 0xbf597fc7, 0xc6e00bf3, 0xd5a79147, 0x06ca6351, 0x14292967, 0x27b70a85, 0x2e1b2138, 0x4d2c6dfc, 0x53380d13, 0x650a7354, 0x766a0abb, 0x81c2c92e, 0x92722c85, 0xa2bfe8a1, 0xa81a664b, 0xc24b8b70, 0xc76c51a3, 0xd192e819, 0xd6990624, 0xf40e3585, 0x106aa070, 0x19a4c116, 0x1e376c08, 0x2748774c, 0x34b0bcb5, 0x391c0cb3, 0x4ed8aa4a, 0x5b9cca4f, 0x682e6ff3, 0x748f82ee, 0x78a5636f, 0x84c87814, 0x8cc70208, 0x90befffa, 0xa4506ceb, 0xbef9a3f7, 0xc67178f2]
def heads : List Nat := [0x6a09e667, 0xbb67ae85, 0x3c6ef372, 0xa54ff53a, 0x510e527f, 0x9b05688c, 0x1f83d9ab, 0x5be0cd19]
theorem heads_small : ∀ x ∈ heads, x < 4294967296 := by decide
theorem keys_small : ∀ x ∈ keys, x < 4294967296 := by decide
theorem keys_length : keys.length = 64 := by decide

/-- The numbers behind the whole blocks of a text. -/
def blocks : Nat → List Nat → List Nat → List Nat
  | 0, h, _ => h
  | n + 1, h, l => blocks n (blockL keys (words (l.take 64)) h) (l.drop 64)
/-- H0 to H7 behind all whole blocks of l. -/
def state (l : List Nat) : List Nat := blocks (l.length / 64) heads l
theorem blocks_length (n : Nat) : ∀ (h l : List Nat), h.length = 8 → (blocks n h l).length = 8 := by
  induction n with
  | zero => intro h l hh; exact hh
  | succ n ih => intro h l hh; exact ih _ _ (blockL_length _ _ _ hh)
theorem blocks_small (n : Nat) : ∀ (h l : List Nat), (∀ x ∈ h, x < 4294967296) → ∀ x ∈ blocks n h l, x < 4294967296 := by
  induction n with
  | zero => intro h l hh; exact hh
  | succ n ih => intro h l hh; exact ih _ _ (blockL_small _ _ _)
theorem state_length (l : List Nat) : (state l).length = 8 := blocks_length _ _ _ rfl
theorem state_small (l : List Nat) : ∀ x ∈ state l, x < 4294967296 := blocks_small _ _ _ heads_small
/-- One block more. -/
theorem blocks_snoc (n : Nat) : ∀ (h l b : List Nat), l.length = 64 * n → b.length = 64 → blocks (n + 1) h (l ++ b) = blockL keys (words b) (blocks n h l) := by
  induction n with
  | zero =>
    intro h l b hl hb
    have : l = [] := List.eq_nil_of_length_eq_zero (by omega)
    subst this
    show blockL keys (words ((([] : List Nat) ++ b).take 64)) h = _
    rw [List.nil_append, List.take_of_length_le (by omega)]
    rfl
  | succ n ih =>
    intro h l b hl hb
    show blocks (n + 1) (blockL keys (words ((l ++ b).take 64)) h) ((l ++ b).drop 64) = blockL keys (words b) (blocks n (blockL keys (words (l.take 64)) h) (l.drop 64))
    rw [List.take_append_of_le_length (by omega), List.drop_append_of_le_length (by omega)]
    exact ih _ _ _ (by rw [List.length_drop]; omega) hb
theorem blocks_more (n : Nat) : ∀ (h l b : List Nat), 64 * n ≤ l.length → blocks n h (l ++ b) = blocks n h l := by
  induction n with
  | zero => intro h l b _; rfl
  | succ n ih =>
    intro h l b hl
    show blocks n (blockL keys (words ((l ++ b).take 64)) h) ((l ++ b).drop 64) = blocks n (blockL keys (words (l.take 64)) h) (l.drop 64)
    rw [List.take_append_of_le_length (by omega), List.drop_append_of_le_length (by omega)]
    exact ih _ _ _ (by rw [List.length_drop]; omega)
/-- A text that gets longer, but by no whole block. -/
theorem state_stay (l b : List Nat) (h : (l ++ b).length / 64 = l.length / 64) : state (l ++ b) = state l := by
  unfold state; rw [h]; exact blocks_more _ _ _ _ (by omega)
/-- A text whose last block becomes whole. -/
theorem state_full (l b r : List Nat) (hb : r ++ b = (l ++ b).drop (64 * (l.length / 64))) (hr : r.length = l.length % 64) (h64 : r.length + b.length = 64) :
    state (l ++ b) = blockL keys (words (r ++ b)) (state l) := by
  have hl : (l ++ b).length = 64 * (l.length / 64 + 1) := by rw [List.length_append]; omega
  unfold state
  rw [hl, Nat.mul_div_cancel_left _ (by decide)]
  have e : l ++ b = (l.take (64 * (l.length / 64))) ++ (r ++ b) := by
    rw [hb, ← List.take_append_of_le_length (l₁ := l) (l₂ := b) (i := 64 * (l.length / 64)) (by omega), List.take_append_drop]
  rw [e, blocks_snoc _ _ _ _ (by rw [List.length_take]; omega) (by rw [List.length_append]; exact h64)]
  have e2 : blocks (l.length / 64) heads l = blocks (l.length / 64) heads (l.take (64 * (l.length / 64))) := by
    obtain ⟨n, hn⟩ : ∃ n, n = l.length / 64 := ⟨_, rfl⟩
    rw [← hn]
    have := blocks_more n heads (l.take (64 * n)) (l.drop (64 * n)) (by rw [List.length_take]; omega)
    rw [List.take_append_drop] at this
    exact this
  rw [e2]

/-- What is appended to a text of n bytes. -/
def pad (n : Nat) : List Nat := 128 :: (List.replicate ((119 - n % 64) % 64) 0 ++ (List.range 8).map fun i => 8 * n / 2 ^ (56 - 8 * i) % 256)
theorem pad_length (n : Nat) : (pad n).length = 1 + (119 - n % 64) % 64 + 8 := by simp [pad]; omega
theorem pad_whole (n : Nat) : (n + (pad n).length) % 64 = 0 := by rw [pad_length]; omega
/-- A number as four bytes, the highest first. -/
def put4 (x : Nat) : List Nat := [x / 2 ^ 24 % 256, x / 2 ^ 16 % 256, x / 2 ^ 8 % 256, x % 256]
def digest (h : List Nat) : List Nat := h.flatMap put4
/-- The sum of a text. -/
def sum (l : List Nat) : List Nat := digest (state (l ++ pad l.length))
theorem digest_length (h : List Nat) : (digest h).length = 4 * h.length := by
  unfold digest
  induction h with
  | nil => rfl
  | cons x h ih => rw [List.flatMap_cons, List.length_append, ih]; simp [put4]; omega
theorem sum_length (l : List Nat) : (sum l).length = 32 := by unfold sum; rw [digest_length, state_length]
theorem pad_small (n : Nat) : ∀ x ∈ pad n, x < 256 := by
  intro x hx
  simp only [pad, List.mem_cons, List.mem_append, List.mem_replicate, List.mem_map] at hx
  rcases hx with rfl | ⟨_, rfl⟩ | ⟨i, _, rfl⟩
  · decide
  · decide
  · exact Nat.mod_lt _ (by decide)
theorem digest_small (h : List Nat) : ∀ x ∈ digest h, x < 256 := by
  intro x hx
  unfold digest at hx
  obtain ⟨y, _, hy⟩ := List.mem_flatMap.1 hx
  simp only [put4, List.mem_cons, List.not_mem_nil, or_false] at hy
  rcases hy with rfl | rfl | rfl | rfl <;> exact Nat.mod_lt _ (by decide)

theorem sum_nothing : sum [] = [0xe3, 0xb0, 0xc4, 0x42, 0x98, 0xfc, 0x1c, 0x14, 0x9a, 0xfb, 0xf4, 0xc8, 0x99, 0x6f, 0xb9, 0x24, 0x27, 0xae, 0x41, 0xe4, 0x64, 0x9b, 0x93, 0x4c, 0xa4, 0x95, 0x99, 0x1b, 0x78, 0x52, 0xb8, 0x55] := by decide +kernel
theorem sum_abc : sum [97, 98, 99] = [0xba, 0x78, 0x16, 0xbf, 0x8f, 0x01, 0xcf, 0xea, 0x41, 0x41, 0x40, 0xde, 0x5d, 0xae, 0x22, 0x23, 0xb0, 0x03, 0x61, 0xa3, 0x96, 0x17, 0x7a, 0x9c, 0xb4, 0x10, 0xff, 0x61, 0xf2, 0x00, 0x15, 0xad] := by decide +kernel
end Sh

/-- Either as the bit of f where e has it, or as a sum of the two without a carry. -/
theorem ch_or (e f g : Nat) (he : e < 4294967296) : (e &&& f) ||| ((4294967295 ^^^ e) &&& g) = (e &&& f) ^^^ ((4294967295 ^^^ e) &&& g) := by
  apply Nat.eq_of_testBit_eq
  intro i
  simp only [Nat.testBit_or, Nat.testBit_xor, Nat.testBit_and]
  by_cases hi : i < 32
  · have : Nat.testBit 4294967295 i = true := by
      rw [show (4294967295 : Nat) = 2 ^ 32 - 1 from rfl, Nat.testBit_two_pow_sub_one]; simpa using hi
    rw [this]
    cases e.testBit i <;> cases f.testBit i <;> cases g.testBit i <;> rfl
  · have : Nat.testBit 4294967295 i = false := by
      rw [show (4294967295 : Nat) = 2 ^ 32 - 1 from rfl, Nat.testBit_two_pow_sub_one]; simpa using hi
    have h2 : e.testBit i = false := Nat.testBit_lt_two_pow (Nat.lt_of_lt_of_le he (by rw [show (4294967296 : Nat) = 2 ^ 32 from rfl]; exact Nat.pow_le_pow_right (by decide) (by omega)))
    rw [this, h2]
    cases f.testBit i <;> cases g.testBit i <;> rfl
theorem maj_or (a b c : Nat) : (a &&& b) ||| (a &&& c) ||| (b &&& c) = (a &&& b) ^^^ (a &&& c) ^^^ (b &&& c) := by
  apply Nat.eq_of_testBit_eq
  intro i
  simp only [Nat.testBit_or, Nat.testBit_xor, Nat.testBit_and]
  cases a.testBit i <;> cases b.testBit i <;> cases c.testBit i <;> rfl
end Go.Proofs.YtkomfgoloepekaaDoor
