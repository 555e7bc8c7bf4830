/- Objects, symbols, relocations and notes as plain data, and which of them may be, as plain functions. -/
import Derived.Lib.Bytealg
namespace Go.Proofs.Ytfnofolahhoggaa.Oj

/-- Do all numbers below n have the mark? -/
def allN (n : Nat) (p : Nat → Bool) : Bool := (List.range n).all p
theorem allN_true {n : Nat} {p : Nat → Bool} (h : ∀ j, j < n → p j = true) : allN n p = true := by
  unfold allN
  rw [List.all_eq_true]
  intro j hj
  exact h j (List.mem_range.1 hj)
theorem allN_false {n k : Nat} {p : Nat → Bool} (h : k < n) (hp : p k = false) : allN n p = false := by
  unfold allN
  rw [List.all_eq_false]
  exact ⟨k, List.mem_range.2 h, by simp [hp]⟩
theorem allN_at {n : Nat} {p : Nat → Bool} (h : allN n p = true) {j : Nat} (hj : j < n) : p j = true := by
  unfold allN at h
  rw [List.all_eq_true] at h
  exact h j (List.mem_range.2 hj)

structure Rl where
  off : Int
  kind : Int
  name : List UInt8
  add : Int
structure Nt where
  kind : Int
  n : Int
  m : Int
structure Sy where
  name : List UInt8
  bind : Int
  kind : Int
  size : Int
  bytes : List UInt8
  rels : List Rl
  notes : List Nt
structure Ob where
  name : List UInt8
  syms : List Sy
def Rl.nought : Rl := ⟨0, 0, [], 0⟩
def Nt.nought : Nt := ⟨0, 0, 0⟩
def Sy.nought : Sy := ⟨[], 0, 0, 0, [], [], []⟩
def Ob.nought : Ob := ⟨[], []⟩

def nameI (c : Int) : Bool := decide ((97 ≤ c ∧ c ≤ 122) ∨ (48 ≤ c ∧ c ≤ 57) ∨ c = 46 ∨ c = 95)
def nameOk (l : List UInt8) : Bool := decide (1 ≤ l.length ∧ l.length ≤ 32) && allN l.length fun k => nameI ((l.getD k 0).toNat : Int)
def noteOk (x : Nt) : Bool := decide ((x.kind = 1 ∧ x.n ≤ 1024 ∧ x.m = 0) ∨ (x.kind = 2 ∧ x.n < 16 ∧ 1 ≤ x.m ∧ x.m ≤ 1024) ∨ (x.kind = 3 ∧ 1 ≤ x.n ∧ x.n ≤ 65535 ∧ x.m = 0) ∨ (x.kind = 4 ∧ x.n = 0 ∧ x.m = 0))
def width (k : Int) : Int := if k = 1 then 4 else if k = 2 then 2 else 0
/-- Where the place before the k-th ends. -/
def endAt (l : List Rl) : Nat → Int
  | 0 => 0
  | k + 1 => (l.getD k Rl.nought).off + width (l.getD k Rl.nought).kind
def placeOk (n e : Int) (x : Rl) : Bool := decide (width x.kind ≠ 0 ∧ e ≤ x.off ∧ x.off + width x.kind ≤ n)
def relOk (n e : Int) (x : Rl) : Bool := placeOk n e x && nameOk x.name
def relsOk (n : Int) (l : List Rl) : Bool := decide (l.length ≤ 1024) && allN l.length fun k => relOk n (endAt l k) (l.getD k Rl.nought)
def notesOk (l : List Nt) : Bool := decide (l.length ≤ 8) && allN l.length fun k => noteOk (l.getD k Nt.nought)
def bindOk (b : Int) : Bool := decide (b = 0 ∨ b = 1 ∨ b = 2)
def sykOk (k : Int) : Bool := decide (k = 1 ∨ k = 2 ∨ k = 3)
def sizeOk (k z : Int) (n : Nat) : Bool := decide ((1 ≤ z ∧ z ≤ 8192 ∧ (n : Int) ≤ z) ∧ (k = 1 → z = n ∧ z % 8 = 0))
def symOk (s : Sy) : Bool := nameOk s.name && bindOk s.bind && sykOk s.kind && sizeOk s.kind s.size s.bytes.length && relsOk s.bytes.length s.rels && notesOk s.notes
def apartOk (l : List Sy) (k : Nat) : Bool := allN k fun j => decide ((l.getD j Sy.nought).name ≠ (l.getD k Sy.nought).name)
def symsOk (l : List Sy) : Bool := allN l.length fun k => symOk (l.getD k Sy.nought) && apartOk l k
def obOk (o : Ob) : Bool := nameOk o.name && decide (o.syms.length ≤ 64) && symsOk o.syms
/-- The first symbol with that name. -/
def findS (l : List Sy) (nm : List UInt8) : Option Nat := (List.range l.length).find? fun k => decide ((l.getD k Sy.nought).name = nm)
def findO (o : Ob) (nm : List UInt8) : Option Nat := if obOk o = true then findS o.syms nm else none

theorem find_at {l : List Sy} {nm : List UInt8} {k : Nat} (hk : k < l.length) (h : (l.getD k Sy.nought).name = nm) (hj : ∀ j, j < k → (l.getD j Sy.nought).name ≠ nm) : findS l nm = some k := by
  unfold findS
  rw [List.find?_range_eq_some]
  exact ⟨by simpa using h, by simpa using hk, fun j h2 => by simpa using hj j h2⟩
theorem find_none {l : List Sy} {nm : List UInt8} (hj : ∀ j, j < l.length → (l.getD j Sy.nought).name ≠ nm) : findS l nm = none := by
  unfold findS
  rw [List.find?_range_eq_none]
  exact fun j h2 => by simpa using hj j h2
theorem find_some {l : List Sy} {nm : List UInt8} {k : Nat} (h : findS l nm = some k) : k < l.length ∧ (l.getD k Sy.nought).name = nm ∧ ∀ j, j < k → (l.getD j Sy.nought).name ≠ nm := by
  unfold findS at h
  rw [List.find?_range_eq_some] at h
  obtain ⟨h1, h2, h3⟩ := h
  exact ⟨by simpa using h2, by simpa using h1, fun j hj => by simpa using h3 j hj⟩
/-- A symbol's own name is found at its place, or ahead of it. -/
theorem find_own {l : List Sy} {k : Nat} (hk : k < l.length) : ∃ i, findS l (l.getD k Sy.nought).name = some i ∧ i ≤ k := by
  cases h : findS l (l.getD k Sy.nought).name with
  | none =>
    unfold findS at h
    rw [List.find?_range_eq_none] at h
    have := h k hk
    simp at this
  | some i =>
    refine ⟨i, rfl, ?_⟩
    rcases Nat.lt_or_ge k i with hlt | hge
    · exact absurd rfl ((find_some h).2.2 k hlt)
    · exact hge
/-- It is found at its own place just when none ahead has its name. -/
theorem find_apart {l : List Sy} {k i : Nat} (h : findS l (l.getD k Sy.nought).name = some i) (hik : i ≤ k) : decide (i = k) = apartOk l k := by
  unfold apartOk
  by_cases he : i = k
  · subst he
    rw [decide_eq_true rfl, allN_true]
    intro j hj
    exact decide_eq_true ((find_some h).2.2 j hj)
  · rw [decide_eq_false he, allN_false (k := i) (by omega)]
    exact decide_eq_false fun hn => hn (find_some h).2.1
theorem width_pos {k : Int} (h : width k ≠ 0) : 2 ≤ width k ∧ width k ≤ 4 := by
  unfold width at h ⊢
  split
  · omega
  · split
    · omega
    · rename_i h1 h2
      rw [if_neg h1, if_neg h2] at h
      exact absurd rfl h
theorem width_le (k : Int) : 0 ≤ width k ∧ width k ≤ 4 := by
  unfold width
  split
  · omega
  · split <;> omega
end Go.Proofs.Ytfnofolahhoggaa.Oj
