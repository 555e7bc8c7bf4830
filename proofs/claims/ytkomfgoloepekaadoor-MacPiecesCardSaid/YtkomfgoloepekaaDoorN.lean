/- A block's first words, byte by byte; and its further words, one by one. Plain mathematics. -/
import Derived.Test.YtkomfgoloepekaaDoorM
set_option linter.unusedVariables false
namespace Go.Proofs.YtkomfgoloepekaaDoor
namespace Sh
/-- The words of a block behind its first i bytes. -/
def part (b : List Nat) : Nat → List Nat
  | 0 => List.replicate 64 0
  | i + 1 => (part b i).set (i / 4) ((part b i).getD (i / 4) 0 * 256 % 4294967296 ||| b.getD i 0)
theorem part_succ (b : List Nat) (i : Nat) : part b (i + 1) = (part b i).set (i / 4) ((part b i).getD (i / 4) 0 * 256 % 4294967296 ||| b.getD i 0) := rfl
theorem part_length (b : List Nat) (i : Nat) : (part b i).length = 64 := by
  induction i with
  | zero => simp [part]
  | succ i ih => simp [part, ih]
theorem or_byte (x y : Nat) (hy : y < 256) : (x * 256) ||| y = x * 256 + y := by
  have := Nat.two_pow_add_eq_or_of_lt (i := 8) (b := y) (by omega) x
  rw [Nat.mul_comm x 256]
  exact this.symm
theorem part_small (b : List Nat) (hb : ∀ x ∈ b, x < 256) (i : Nat) : ∀ x ∈ part b i, x < 4294967296 := by
  induction i with
  | zero => intro x hx; simp [part] at hx; omega
  | succ i ih =>
    intro x hx
    rcases List.mem_or_eq_of_mem_set hx with h | h
    · exact ih x h
    · rw [h]; exact or_lt32 _ _ (Nat.mod_lt _ (by decide)) (Nat.lt_trans (getD_lt b 256 (by decide) hb i) (by decide))
theorem set_mid (L Z : List Nat) (x v : Nat) (k : Nat) (hk : k = L.length) : (L ++ x :: Z).set k v = L ++ v :: Z := by
  subst hk; rw [List.set_append_right _ _ (Nat.le_refl _)]; simp
theorem getD_mid (L Z : List Nat) (x : Nat) (k : Nat) (hk : k = L.length) : (L ++ x :: Z).getD k 0 = x := by
  subst hk; simp
theorem part_words (b : List Nat) (hb : ∀ x ∈ b, x < 256) (k : Nat) (hk : k ≤ 16) :
    part b (4 * k) = ((List.range k).map fun k => be4 (b.getD (4 * k) 0) (b.getD (4 * k + 1) 0) (b.getD (4 * k + 2) 0) (b.getD (4 * k + 3) 0)) ++ List.replicate (64 - k) 0 := by
  induction k with
  | zero => simp [part]
  | succ k ih =>
    have ih := ih (by omega)
    obtain ⟨L, hL⟩ : ∃ L, L = ((List.range k).map fun k => be4 (b.getD (4 * k) 0) (b.getD (4 * k + 1) 0) (b.getD (4 * k + 2) 0) (b.getD (4 * k + 3) 0)) := ⟨_, rfl⟩
    have hl : k = L.length := by rw [hL]; simp
    rw [← hL] at ih
    have hz : List.replicate (64 - k) 0 = 0 :: List.replicate (64 - (k + 1)) 0 := by
      rw [show 64 - k = (64 - (k + 1)) + 1 by omega]; rfl
    rw [hz] at ih
    have q0 : 4 * k / 4 = k := by omega
    have q1 : (4 * k + 1) / 4 = k := by omega
    have q2 : (4 * k + 2) / 4 = k := by omega
    have q3 : (4 * k + 3) / 4 = k := by omega
    have l0 := getD_lt b 256 (by decide) hb (4 * k)
    have l1 := getD_lt b 256 (by decide) hb (4 * k + 1)
    have l2 := getD_lt b 256 (by decide) hb (4 * k + 2)
    have l3 := getD_lt b 256 (by decide) hb (4 * k + 3)
    have e1 : part b (4 * k + 1) = L ++ (b.getD (4 * k) 0) :: List.replicate (64 - (k + 1)) 0 := by
      show (part b (4 * k)).set (4 * k / 4) ((part b (4 * k)).getD (4 * k / 4) 0 * 256 % 4294967296 ||| b.getD (4 * k) 0) = _
      rw [ih, q0, set_mid _ _ _ _ _ hl, getD_mid _ _ _ _ hl]; simp
    have e2 : part b (4 * k + 2) = L ++ (b.getD (4 * k) 0 * 256 + b.getD (4 * k + 1) 0) :: List.replicate (64 - (k + 1)) 0 := by
      show (part b (4 * k + 1)).set ((4 * k + 1) / 4) ((part b (4 * k + 1)).getD ((4 * k + 1) / 4) 0 * 256 % 4294967296 ||| b.getD (4 * k + 1) 0) = _
      rw [e1, q1, set_mid _ _ _ _ _ hl, getD_mid _ _ _ _ hl, Nat.mod_eq_of_lt (by omega), or_byte _ _ l1]
    have e3 : part b (4 * k + 3) = L ++ ((b.getD (4 * k) 0 * 256 + b.getD (4 * k + 1) 0) * 256 + b.getD (4 * k + 2) 0) :: List.replicate (64 - (k + 1)) 0 := by
      show (part b (4 * k + 2)).set ((4 * k + 2) / 4) ((part b (4 * k + 2)).getD ((4 * k + 2) / 4) 0 * 256 % 4294967296 ||| b.getD (4 * k + 2) 0) = _
      rw [e2, q2, set_mid _ _ _ _ _ hl, getD_mid _ _ _ _ hl, Nat.mod_eq_of_lt (by omega), or_byte _ _ l2]
    rw [show 4 * (k + 1) = (4 * k + 3) + 1 by omega, part_succ, e3, q3, set_mid _ _ _ _ _ hl, getD_mid _ _ _ _ hl, Nat.mod_eq_of_lt (by omega), or_byte _ _ l3, List.range_succ, List.map_append, ← hL]
    simp only [List.map_cons, List.map_nil, List.append_assoc, List.cons_append, List.nil_append]
    have e : ((b.getD (4 * k) 0 * 256 + b.getD (4 * k + 1) 0) * 256 + b.getD (4 * k + 2) 0) * 256 + b.getD (4 * k + 3) 0 = be4 (b.getD (4 * k) 0) (b.getD (4 * k + 1) 0) (b.getD (4 * k + 2) 0) (b.getD (4 * k + 3) 0) := by
      unfold be4; omega
    rw [e]
/-- The words of a block behind its t-th one (t from 16 to 64), the others 0. -/
def full (b : List Nat) (t : Nat) : List Nat := more (first16 b) (t - 16) ++ List.replicate (64 - t) 0
theorem full_first (b : List Nat) (hb : ∀ x ∈ b, x < 256) : part b 64 = full b 16 := by
  have := part_words b hb 16 (by omega)
  rw [this]; rfl
theorem full_last (b : List Nat) : full b 64 = words b := by simp [full, words]
theorem full_length (b : List Nat) (t : Nat) (h1 : 16 ≤ t) (h2 : t ≤ 64) : (full b t).length = 64 := by
  unfold full; rw [List.length_append, more_length, first16_length, List.length_replicate]; omega
theorem full_small (b : List Nat) (hb : ∀ x ∈ b, x < 256) (t : Nat) : ∀ x ∈ full b t, x < 4294967296 := by
  intro x hx
  rcases List.mem_append.1 hx with h | h
  · exact more_small _ (first16_small b hb) _ x h
  · simp at h; omega
theorem full_next (b : List Nat) (t : Nat) (h1 : 16 ≤ t) (h2 : t < 64) :
    full b (t + 1) = (full b t).set t (((full b t).getD (t - 16) 0 + s0 ((full b t).getD (t - 15) 0) + (full b t).getD (t - 7) 0 + s1 ((full b t).getD (t - 2) 0)) % 4294967296) := by
  obtain ⟨m, hm⟩ : ∃ m, m = more (first16 b) (t - 16) := ⟨_, rfl⟩
  have hl : m.length = t := by rw [hm, more_length, first16_length]; omega
  have hg : ∀ j, j < t → (full b t).getD j 0 = m.getD j 0 := by
    intro j hj
    unfold full; rw [← hm, List.getD_eq_getElem?_getD, List.getElem?_append_left (by omega), ← List.getD_eq_getElem?_getD]
  rw [hg _ (by omega), hg _ (by omega), hg _ (by omega), hg _ (by omega)]
  unfold full
  rw [show t + 1 - 16 = (t - 16) + 1 by omega, more, ← hm, show List.replicate (64 - t) 0 = 0 :: List.replicate (64 - (t + 1)) 0 by
    rw [show 64 - t = (64 - (t + 1)) + 1 by omega]; rfl, set_mid _ _ _ _ _ hl.symm, List.append_assoc]
  unfold next
  rw [hl]
  rfl
end Sh
end Go.Proofs.YtkomfgoloepekaaDoor
