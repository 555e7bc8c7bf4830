/- HMAC over SHA-256 as plain mathematics: a key's block, the two blocks that are made of it, the sum. No program is named. -/
import Derived.Test.YtkomfgoloepekaaDoorM
namespace Go.Proofs.YtkomfgoloepekaaDoor
set_option linter.unusedVariables false
namespace Mc
/-- What stands for a key: itself, or its sum. -/
def key (k : List Nat) : List Nat := if 64 < k.length then Sh.sum k else k
/-- A key's block. -/
def block (k : List Nat) : List Nat := key k ++ List.replicate (64 - (key k).length) 0
def withc (c : Nat) (l : List Nat) : List Nat := l.map (· ^^^ c)
def inner (k : List Nat) : List Nat := withc 54 (block k)
def outer (k : List Nat) : List Nat := withc 92 (block k)
/-- The sum of a text by a key. -/
def mac (k t : List Nat) : List Nat := Sh.sum (outer k ++ Sh.sum (inner k ++ t))

theorem sum_small (l : List Nat) : ∀ x ∈ Sh.sum l, x < 256 := Sh.digest_small _
theorem key_length (k : List Nat) : (key k).length ≤ 64 := by
  unfold key
  split
  · rw [Sh.sum_length]; decide
  · omega
theorem key_small (k : List Nat) (h : ∀ x ∈ k, x < 256) : ∀ x ∈ key k, x < 256 := by
  unfold key
  split
  · exact sum_small k
  · exact h
theorem block_length (k : List Nat) : (block k).length = 64 := by
  have := key_length k
  unfold block
  rw [List.length_append, List.length_replicate]; omega
theorem block_small (k : List Nat) (h : ∀ x ∈ k, x < 256) : ∀ x ∈ block k, x < 256 := by
  intro x hx
  rcases List.mem_append.1 hx with hx | hx
  · exact key_small k h x hx
  · rw [List.mem_replicate] at hx; omega
theorem xor_small (x c : Nat) (hx : x < 256) (hc : c < 256) : x ^^^ c < 256 := Nat.xor_lt_two_pow (n := 8) hx hc
theorem withc_length (c : Nat) (l : List Nat) : (withc c l).length = l.length := by simp [withc]
theorem withc_small (c : Nat) (l : List Nat) (hc : c < 256) (h : ∀ x ∈ l, x < 256) : ∀ x ∈ withc c l, x < 256 := by
  intro x hx
  simp only [withc, List.mem_map] at hx
  obtain ⟨y, hy, rfl⟩ := hx
  exact xor_small y c (h y hy) hc
theorem inner_length (k : List Nat) : (inner k).length = 64 := by unfold inner; rw [withc_length, block_length]
theorem outer_length (k : List Nat) : (outer k).length = 64 := by unfold outer; rw [withc_length, block_length]
theorem inner_small (k : List Nat) (h : ∀ x ∈ k, x < 256) : ∀ x ∈ inner k, x < 256 := withc_small _ _ (by decide) (block_small k h)
theorem outer_small (k : List Nat) (h : ∀ x ∈ k, x < 256) : ∀ x ∈ outer k, x < 256 := withc_small _ _ (by decide) (block_small k h)
theorem mac_length (k t : List Nat) : (mac k t).length = 32 := Sh.sum_length _
theorem mac_small (k t : List Nat) : ∀ x ∈ mac k t, x < 256 := sum_small _
/-- Keys that are one. -/
theorem block_of_sum (k : List Nat) (h : 64 < k.length) : block (Sh.sum k) = block k := by
  have e1 : key (Sh.sum k) = Sh.sum k := by unfold key; rw [if_neg (by rw [Sh.sum_length]; decide)]
  have e2 : key k = Sh.sum k := by unfold key; rw [if_pos h]
  unfold block; rw [e1, e2]
theorem block_of_zeros (k : List Nat) (n : Nat) (h : k.length + n ≤ 64) : block (k ++ List.replicate n 0) = block k := by
  have e1 : key (k ++ List.replicate n 0) = k ++ List.replicate n 0 := by unfold key; rw [if_neg (by simp; omega)]
  have e2 : key k = k := by unfold key; rw [if_neg (by omega)]
  unfold block
  rw [e1, e2, List.append_assoc, List.replicate_append_replicate]
  congr 2
  simp; omega
theorem mac_of_block {k k' : List Nat} (h : block k = block k') (t : List Nat) : mac k t = mac k' t := by
  unfold mac inner outer; rw [h]
/-- A block that is put together with c, as far as i. -/
def half (c : Nat) (b : List Nat) (i : Nat) : List Nat := withc c (b.take i) ++ b.drop i
theorem half_zero (c : Nat) (b : List Nat) : half c b 0 = b := by simp [half, withc]
theorem half_all (c : Nat) (b : List Nat) (n : Nat) (h : b.length = n) : half c b n = withc c b := by
  unfold half; rw [List.take_of_length_le (by omega), List.drop_of_length_le (by omega), List.append_nil]
theorem half_length (c : Nat) (b : List Nat) (i : Nat) (h : i ≤ b.length) : (half c b i).length = b.length := by
  simp [half, withc]; omega
theorem half_get (c : Nat) (b : List Nat) (i : Nat) (h : i < b.length) : (half c b i).getD i 0 = b.getD i 0 := by
  unfold half
  have hl : (withc c (b.take i)).length = i := by simp [withc]; omega
  simp [List.getD_eq_getElem?_getD, List.getElem?_append_right (Nat.le_of_eq hl), hl, h]
theorem half_set (c : Nat) (b : List Nat) (i : Nat) (h : i < b.length) : (half c b i).set i (b.getD i 0 ^^^ c) = half c b (i + 1) := by
  unfold half
  have hl : (withc c (b.take i)).length = i := by simp [withc]; omega
  rw [List.set_append_right _ _ (Nat.le_of_eq hl), hl, Nat.sub_self, List.take_succ_eq_append_getElem h, List.drop_eq_getElem_cons h]
  have e : b.getD i 0 = b[i] := by simp [List.getD_eq_getElem?_getD, h]
  rw [e]
  unfold withc
  rw [List.map_append, List.append_assoc]
  rfl

/-- The chapter's first example, and what a text that is shorter by a letter has. -/
def jefe : List Nat := [74, 101, 102, 101]
def want : List Nat := [119, 104, 97, 116, 32, 100, 111, 32, 121, 97, 32, 119, 97, 110, 116, 32]
def noth : List Nat := [102, 111, 114, 32, 110, 111, 116, 104, 105, 110, 103]
def s0 : List Nat := [0x5b, 0xdc, 0xc1, 0x46, 0xbf, 0x60, 0x75, 0x4e, 0x6a, 0x04, 0x24, 0x26, 0x08, 0x95, 0x75, 0xc7, 0x5a, 0x00, 0x3f, 0x08, 0x9d, 0x27, 0x39, 0x83, 0x9d, 0xec, 0x58, 0xb9, 0x64, 0xec, 0x38, 0x43]
theorem mac_jefe : mac jefe (want ++ noth ++ [63]) = s0 := by decide +kernel
theorem mac_less : mac jefe (want ++ noth) ≠ s0 := by decide +kernel
end Mc
end Go.Proofs.YtkomfgoloepekaaDoor
