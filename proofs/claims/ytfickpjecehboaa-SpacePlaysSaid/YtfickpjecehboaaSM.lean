/- An address space of pages as plain functions: what is read, what is written, which bytes may be asked. -/
import Derived.RowKit
set_option linter.unusedVariables false
namespace Go.Proofs.Ytfickpjecehboaa

/-- A page: its bytes, and behind them its perm. -/
abbrev Pg := Nat → UInt8
/-- The pages by their numbers. -/
abbrev As := Nat → Option Pg

def met (need : Nat) (f : Pg) : Bool := ((f 256).toNat &&& need) == need
/-- May page i be asked? -/
def okPg (A : As) (need i : Nat) : Bool := match A i with | some f => met need f | none => false
def okAll (A : As) (need addr n : Nat) : Bool := (List.range n).all fun k => okPg A need ((addr + k) / 256)
def byteAt (A : As) (x : Nat) : UInt8 := match A (x / 256) with | some f => f (x % 256) | none => 0
def bytesAt (A : As) (addr n : Nat) : List UInt8 := (List.range n).map fun k => byteAt A (addr + k)
def putPg (f : Pg) (i addr : Nat) (s : List UInt8) : Pg := fun j => if j < 256 ∧ addr ≤ 256 * i + j ∧ 256 * i + j < addr + s.length then s.getD (256 * i + j - addr) 0 else f j
def putAt (A : As) (addr : Nat) (s : List UInt8) : As := fun i => (A i).map fun f => putPg f i addr s
def upd (A : As) (i : Nat) (x : Option Pg) : As := fun k => if k = i then x else A k
def newPg (perm : Nat) : Pg := fun j => if j = 256 then perm.toUInt8 else 0

theorem okAll_iff (A : As) (need addr n : Nat) : okAll A need addr n = true ↔ ∀ k, k < n → okPg A need ((addr + k) / 256) = true := by
  unfold okAll
  rw [List.all_eq_true]
  constructor
  · intro h k hk; exact h k (List.mem_range.2 hk)
  · intro h k hk; exact h k (List.mem_range.1 hk)
theorem okAll_zero (A : As) (need addr : Nat) : okAll A need addr 0 = true := rfl
theorem okPg_some {A : As} {need i : Nat} (h : okPg A need i = true) : ∃ f, A i = some f ∧ met need f = true := by
  unfold okPg at h
  split at h
  · exact ⟨_, by assumption, h⟩
  · cases h
/-- Page by page: all pages from that of the first byte up to that of the last. -/
theorem okAll_pages (A : As) (need addr n : Nat) (h : ∀ i, addr / 256 ≤ i → 256 * i < addr + n → okPg A need i = true) : okAll A need addr n = true := by
  rw [okAll_iff]
  intro k hk
  exact h _ (Nat.div_le_div_right (by omega)) (by omega)
theorem okAll_page (A : As) (need addr n i : Nat) (h1 : addr / 256 ≤ i) (h2 : 256 * i < addr + n) (hn : 0 < n) (h : okPg A need i = false) : okAll A need addr n = false := by
  cases h' : okAll A need addr n
  · rfl
  · rw [okAll_iff] at h'
    by_cases hl : addr ≤ 256 * i
    · have := h' (256 * i - addr) (by omega)
      rw [show (addr + (256 * i - addr)) / 256 = i by omega, h] at this
      cases this
    · have := h' 0 (by omega)
      rw [show (addr + 0) / 256 = i by omega, h] at this
      cases this

theorem bytesAt_length (A : As) (addr n : Nat) : (bytesAt A addr n).length = n := by simp [bytesAt]
theorem bytesAt_zero (A : As) (addr : Nat) : bytesAt A addr 0 = [] := rfl
theorem bytesAt_add (A : As) (addr m n : Nat) : bytesAt A addr (m + n) = bytesAt A addr m ++ bytesAt A (addr + m) n := by
  unfold bytesAt
  rw [List.range_add, List.map_append, List.map_map]
  congr 1
  apply List.map_congr_left
  intro k hk
  show byteAt A (addr + (m + k)) = byteAt A (addr + m + k)
  rw [Nat.add_assoc]
theorem bytesAt_get (A : As) (addr n k : Nat) (hk : k < n) : (bytesAt A addr n)[k]? = some (byteAt A (addr + k)) := by
  simp [bytesAt, hk]
theorem byteAt_pg {A : As} {i j : Nat} {f : Pg} (h : A i = some f) (hj : j < 256) : byteAt A (256 * i + j) = f j := by
  unfold byteAt
  rw [show (256 * i + j) / 256 = i by omega, h]
  show f ((256 * i + j) % 256) = f j
  rw [show (256 * i + j) % 256 = j by omega]

theorem putPg_nil (f : Pg) (i addr : Nat) : putPg f i addr [] = f := by
  funext j
  unfold putPg
  rw [if_neg (by simp)]
theorem putAt_nil (A : As) (addr : Nat) : putAt A addr [] = A := by
  funext i
  unfold putAt
  cases A i with
  | none => rfl
  | some f => simp [putPg_nil]
theorem putPg_append (f : Pg) (i addr : Nat) (s t : List UInt8) : putPg f i addr (s ++ t) = putPg (putPg f i addr s) i (addr + s.length) t := by
  funext j
  unfold putPg
  simp only [List.length_append]
  by_cases h1 : j < 256 ∧ addr + s.length ≤ 256 * i + j ∧ 256 * i + j < addr + s.length + t.length
  · rw [if_pos (by omega), if_pos h1, List.getD_eq_getElem?_getD, List.getElem?_append_right (by omega), List.getD_eq_getElem?_getD]
    congr 2
    omega
  · rw [if_neg h1]
    by_cases h2 : j < 256 ∧ addr ≤ 256 * i + j ∧ 256 * i + j < addr + s.length
    · rw [if_pos (by omega), if_pos h2, List.getD_eq_getElem?_getD, List.getElem?_append_left (by omega), List.getD_eq_getElem?_getD]
    · rw [if_neg (by omega), if_neg h2]
theorem putAt_append (A : As) (addr : Nat) (s t : List UInt8) : putAt A addr (s ++ t) = putAt (putAt A addr s) (addr + s.length) t := by
  funext i
  unfold putAt
  cases A i with
  | none => rfl
  | some f => simp [putPg_append]
/-- Bytes that lie in one page. -/
theorem putAt_one (A : As) (addr : Nat) (s : List UInt8) (f : Pg) (h : A (addr / 256) = some f) (hs : addr % 256 + s.length ≤ 256) : putAt A addr s = upd A (addr / 256) (some (putPg f (addr / 256) addr s)) := by
  funext k
  unfold putAt upd
  by_cases hk : k = addr / 256
  · subst hk; rw [h]; simp
  · rw [if_neg hk]
    cases A k with
    | none => rfl
    | some g =>
      simp only [Option.map_some, Option.some.injEq]
      funext j
      unfold putPg
      rw [if_neg (by omega)]
theorem putAt_perm (A : As) (addr : Nat) (s : List UInt8) (need i : Nat) : okPg (putAt A addr s) need i = okPg A need i := by
  unfold okPg putAt
  cases A i with
  | none => rfl
  | some f => simp [met, putPg]

/-! The cells of a page. -/
open Go in
def pcs (f : Pg) : List Value := (List.range 257).map fun j => Value.int .u8 ((f j).toNat : Int)
theorem pcs_length (f : Pg) : (pcs f).length = 257 := by simp [pcs]
theorem pcs_get (f : Pg) (j : Nat) (h : j < 257) : (pcs f)[j]? = some (.int .u8 ((f j).toNat : Int)) := by simp [pcs, h]
theorem pcs_one (f : Pg) : ∀ v ∈ pcs f, v.oneCell' = true := by
  intro v hv; simp only [pcs, List.mem_map] at hv; obtain ⟨x, _, rfl⟩ := hv; rfl
theorem pcs_put (f : Pg) (i addr : Nat) (s : List UInt8) (hi : i = addr / 256) (hs : addr % 256 + s.length ≤ 256) :
    pcs (putPg f i addr s) = (pcs f).take (addr % 256) ++ (s.map fun x => Go.Value.int .u8 (x.toNat : Int)) ++ (pcs f).drop (addr % 256 + s.length) := by
  subst hi
  apply List.ext_getElem?
  intro j
  by_cases hj : j < 257
  · rw [pcs_get _ _ hj]
    by_cases h1 : j < addr % 256
    · rw [List.append_assoc, List.getElem?_append_left (by simp [pcs_length]; omega), List.getElem?_take_of_lt h1, pcs_get _ _ hj]
      unfold putPg
      rw [if_neg (by omega)]
    · by_cases h2 : j < addr % 256 + s.length
      · rw [List.getElem?_append_left (by simp [pcs_length]; omega), List.getElem?_append_right (by simp [pcs_length]; omega)]
        rw [List.length_take, pcs_length, Nat.min_eq_left (by omega), List.getElem?_map, List.getElem?_eq_getElem (by omega)]
        unfold putPg
        rw [if_pos (by omega), List.getD_eq_getElem?_getD, show 256 * (addr / 256) + j - addr = j - addr % 256 by omega, List.getElem?_eq_getElem (by omega)]
        rfl
      · rw [List.getElem?_append_right (by simp [pcs_length]; omega), List.getElem?_drop]
        simp only [List.length_append, List.length_take, pcs_length, List.length_map]
        rw [show addr % 256 + s.length + (j - (min (addr % 256) 257 + s.length)) = j by omega, pcs_get _ _ hj]
        unfold putPg
        rw [if_neg (by omega)]
  · rw [List.getElem?_eq_none (by rw [pcs_length]; omega), List.getElem?_eq_none (by simp [pcs_length]; omega)]
end Go.Proofs.Ytfickpjecehboaa
