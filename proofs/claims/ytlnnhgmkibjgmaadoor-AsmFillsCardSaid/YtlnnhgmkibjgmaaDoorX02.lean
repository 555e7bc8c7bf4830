/- Some texts of one proof, one behind the other; each has its own head below. -/
import Derived.Test.YtlnnhgmkibjgmaaDoorX01
import Derived.Lib.Bytealg
/- Objects, symbols, relocations and notes as plain data, and which of them may be, as plain functions. -/
section
namespace Go.Proofs.YtlnnhgmkibjgmaaDoor.Oj

/-- Do all numbers below n have the mark? -/
def allN (n : Nat) (p : Nat → Bool) : Bool := (List.range n).all p
theorem allN_true {n : Nat} {p : Nat → Bool} (h : ∀ j, j < n → p j = true) : allN n p = true := by
  unfold allN
  rw [List.all_eq_true]
  intro j hj
  exact h j (List.mem_range.1 hj)
theorem allN_false {n k : Nat} {p : Nat → Bool} (h : k < n) (hp : p k = false) : allN n p = false := by
  unfold allN
  rw [List.all_eq_false]
  exact ⟨k, List.mem_range.2 h, by simp [hp]⟩
theorem allN_at {n : Nat} {p : Nat → Bool} (h : allN n p = true) {j : Nat} (hj : j < n) : p j = true := by
  unfold allN at h
  rw [List.all_eq_true] at h
  exact h j (List.mem_range.2 hj)

structure Rl where
  off : Int
  kind : Int
  name : List UInt8
  add : Int
structure Nt where
  kind : Int
  n : Int
  m : Int
structure Sy where
  name : List UInt8
  bind : Int
  kind : Int
  size : Int
  bytes : List UInt8
  rels : List Rl
  notes : List Nt
structure Ob where
  name : List UInt8
  syms : List Sy
def Rl.nought : Rl := ⟨0, 0, [], 0⟩
def Nt.nought : Nt := ⟨0, 0, 0⟩
def Sy.nought : Sy := ⟨[], 0, 0, 0, [], [], []⟩
def Ob.nought : Ob := ⟨[], []⟩

def nameI (c : Int) : Bool := decide ((97 ≤ c ∧ c ≤ 122) ∨ (48 ≤ c ∧ c ≤ 57) ∨ c = 46 ∨ c = 95)
def nameOk (l : List UInt8) : Bool := decide (1 ≤ l.length ∧ l.length ≤ 32) && allN l.length fun k => nameI ((l.getD k 0).toNat : Int)
def noteOk (x : Nt) : Bool := decide ((x.kind = 1 ∧ x.n ≤ 1024 ∧ x.m = 0) ∨ (x.kind = 2 ∧ x.n < 16 ∧ 1 ≤ x.m ∧ x.m ≤ 1024) ∨ (x.kind = 3 ∧ 1 ≤ x.n ∧ x.n ≤ 65535 ∧ x.m = 0) ∨ (x.kind = 4 ∧ x.n = 0 ∧ x.m = 0))
def width (k : Int) : Int := if k = 1 then 4 else if k = 2 then 2 else 0
/-- Where the place before the k-th ends. -/
def endAt (l : List Rl) : Nat → Int
  | 0 => 0
  | k + 1 => (l.getD k Rl.nought).off + width (l.getD k Rl.nought).kind
def placeOk (n e : Int) (x : Rl) : Bool := decide (width x.kind ≠ 0 ∧ e ≤ x.off ∧ x.off + width x.kind ≤ n)
def relOk (n e : Int) (x : Rl) : Bool := placeOk n e x && nameOk x.name
def relsOk (n : Int) (l : List Rl) : Bool := decide (l.length ≤ 1024) && allN l.length fun k => relOk n (endAt l k) (l.getD k Rl.nought)
def notesOk (l : List Nt) : Bool := decide (l.length ≤ 8) && allN l.length fun k => noteOk (l.getD k Nt.nought)
def bindOk (b : Int) : Bool := decide (b = 0 ∨ b = 1 ∨ b = 2)
def sykOk (k : Int) : Bool := decide (k = 1 ∨ k = 2 ∨ k = 3)
def sizeOk (k z : Int) (n : Nat) : Bool := decide ((1 ≤ z ∧ z ≤ 8192 ∧ (n : Int) ≤ z) ∧ (k = 1 → z = n ∧ z % 8 = 0))
def symOk (s : Sy) : Bool := nameOk s.name && bindOk s.bind && sykOk s.kind && sizeOk s.kind s.size s.bytes.length && relsOk s.bytes.length s.rels && notesOk s.notes
def apartOk (l : List Sy) (k : Nat) : Bool := allN k fun j => decide ((l.getD j Sy.nought).name ≠ (l.getD k Sy.nought).name)
def symsOk (l : List Sy) : Bool := allN l.length fun k => symOk (l.getD k Sy.nought) && apartOk l k
def obOk (o : Ob) : Bool := nameOk o.name && decide (o.syms.length ≤ 64) && symsOk o.syms
/-- The first symbol with that name. -/
def findS (l : List Sy) (nm : List UInt8) : Option Nat := (List.range l.length).find? fun k => decide ((l.getD k Sy.nought).name = nm)
def findO (o : Ob) (nm : List UInt8) : Option Nat := if obOk o = true then findS o.syms nm else none

theorem find_at {l : List Sy} {nm : List UInt8} {k : Nat} (hk : k < l.length) (h : (l.getD k Sy.nought).name = nm) (hj : ∀ j, j < k → (l.getD j Sy.nought).name ≠ nm) : findS l nm = some k := by
  unfold findS
  rw [List.find?_range_eq_some]
  exact ⟨by simpa using h, by simpa using hk, fun j h2 => by simpa using hj j h2⟩
theorem find_none {l : List Sy} {nm : List UInt8} (hj : ∀ j, j < l.length → (l.getD j Sy.nought).name ≠ nm) : findS l nm = none := by
  unfold findS
  rw [List.find?_range_eq_none]
  exact fun j h2 => by simpa using hj j h2
theorem find_some {l : List Sy} {nm : List UInt8} {k : Nat} (h : findS l nm = some k) : k < l.length ∧ (l.getD k Sy.nought).name = nm ∧ ∀ j, j < k → (l.getD j Sy.nought).name ≠ nm := by
  unfold findS at h
  rw [List.find?_range_eq_some] at h
  obtain ⟨h1, h2, h3⟩ := h
  exact ⟨by simpa using h2, by simpa using h1, fun j hj => by simpa using h3 j hj⟩
/-- A symbol's own name is found at its place, or ahead of it. -/
theorem find_own {l : List Sy} {k : Nat} (hk : k < l.length) : ∃ i, findS l (l.getD k Sy.nought).name = some i ∧ i ≤ k := by
  cases h : findS l (l.getD k Sy.nought).name with
  | none =>
    unfold findS at h
    rw [List.find?_range_eq_none] at h
    have := h k hk
    simp at this
  | some i =>
    refine ⟨i, rfl, ?_⟩
    rcases Nat.lt_or_ge k i with hlt | hge
    · exact absurd rfl ((find_some h).2.2 k hlt)
    · exact hge
/-- It is found at its own place just when none ahead has its name. -/
theorem find_apart {l : List Sy} {k i : Nat} (h : findS l (l.getD k Sy.nought).name = some i) (hik : i ≤ k) : decide (i = k) = apartOk l k := by
  unfold apartOk
  by_cases he : i = k
  · subst he
    rw [decide_eq_true rfl, allN_true]
    intro j hj
    exact decide_eq_true ((find_some h).2.2 j hj)
  · rw [decide_eq_false he, allN_false (k := i) (by omega)]
    exact decide_eq_false fun hn => hn (find_some h).2.1
theorem width_pos {k : Int} (h : width k ≠ 0) : 2 ≤ width k ∧ width k ≤ 4 := by
  unfold width at h ⊢
  split
  · omega
  · split
    · omega
    · rename_i h1 h2
      rw [if_neg h1, if_neg h2] at h
      exact absurd rfl h
theorem width_le (k : Int) : 0 ≤ width k ∧ width k ≤ 4 := by
  unfold width
  split
  · omega
  · split <;> omega
end Go.Proofs.YtlnnhgmkibjgmaaDoor.Oj
end

/- Instructions as bytes, as plain functions of numbers and of lists of bytes: which may be, which bytes each has, and how both go back. Plain mathematics: no program is named. -/
section
set_option linter.unusedVariables false
namespace Go.Proofs.YtlnnhgmkibjgmaaDoor.I.Ix

/-- What each op uses, as bits: 1 D, 2 A, 4 B, 8 Imm; 0 where there is no op. -/
def tab : List Nat := [0, 7, 7, 7, 7, 7, 7, 7, 7, 7, 7, 7, 7, 7, 7, 0, 0, 11, 0, 11, 0, 0, 11, 11, 11, 11, 11, 0, 0, 11, 11, 0, 9, 11, 11, 14, 14, 0, 0, 0, 8, 9, 2, 14, 14, 14, 14, 0, 0, 0, 8]
def bitsI (op : Int) : Int := ((tab.getD op.toNat 0 : Nat) : Int)
def uD (op : Int) : Bool := decide (bitsI op % 2 = 1)
def uA (op : Int) : Bool := decide (bitsI op / 2 % 2 = 1)
def uB (op : Int) : Bool := decide (bitsI op / 4 % 2 = 1)
def uI (op : Int) : Bool := decide (bitsI op / 8 % 2 = 1)
def isOp (op : Int) : Bool := decide (bitsI op ≠ 0)
def regOk (r : Int) (u : Bool) : Bool := decide (r = 0) || (u && decide (r < 16))
def insnOk (op d a b im : Int) : Bool := isOp op && regOk d (uD op) && regOk a (uA op) && regOk b (uB op) && (decide (im = 0) || uI op)
def err (op d a b im : Int) : Int := if insnOk op d a b im = true then 0 else 2
def bytes (op d a b im : Int) : List UInt8 := [UInt8.ofNat op.toNat, UInt8.ofNat (d + 16 * a).toNat, UInt8.ofNat b.toNat, 0] ++ Wd.le im.toNat 4
def enc (op d a b im : Int) : List UInt8 := if insnOk op d a b im = true then bytes op d a b im else []

theorem bitsI_lo (op : Int) : 0 ≤ bitsI op := by unfold bitsI; omega
theorem tab_hi : ∀ k : Fin 51, tab.getD k.val 0 ≤ 14 := by decide
theorem bitsI_hi (op : Int) : bitsI op ≤ 14 := by
  unfold bitsI
  by_cases h : op.toNat < 51
  · have := tab_hi ⟨op.toNat, h⟩
    simp only at this; omega
  · have : tab.getD op.toNat 0 = 0 := by
      rw [List.getD_eq_getElem?_getD, List.getElem?_eq_none (by simp [tab]; omega)]; rfl
    omega
theorem bitsI_far (op : Int) (h : 51 ≤ op) : bitsI op = 0 := by
  unfold bitsI
  have : tab.getD op.toNat 0 = 0 := by
    rw [List.getD_eq_getElem?_getD, List.getElem?_eq_none (by simp [tab]; omega)]; rfl
  omega

theorem regOk_lt (r : Int) (u : Bool) (h : regOk r u = true) : r < 16 := by
  unfold regOk at h
  simp only [Bool.or_eq_true, Bool.and_eq_true, decide_eq_true_eq] at h
  omega
theorem ok_parts {op d a b im : Int} (h : insnOk op d a b im = true) : isOp op = true ∧ regOk d (uD op) = true ∧ regOk a (uA op) = true ∧ regOk b (uB op) = true ∧ (decide (im = 0) || uI op) = true := by
  unfold insnOk at h
  simp only [Bool.and_eq_true] at h
  exact ⟨h.1.1.1.1, h.1.1.1.2, h.1.1.2, h.1.2, h.2⟩

/-! bytes, and back -/
def byteAt (l : List UInt8) (k : Nat) : Int := ((l.getD k 0).toNat : Int)
def dOp (l : List UInt8) : Int := byteAt l 0
def dD (l : List UInt8) : Int := byteAt l 1 % 16
def dA (l : List UInt8) : Int := byteAt l 1 / 16
def dB (l : List UInt8) : Int := byteAt l 2
def dI (l : List UInt8) : Int := (Wd.unle (l.drop 4) : Nat)
def insnOf (l : List UInt8) : Bool := insnOk (dOp l) (dD l) (dA l) (dB l) (dI l)
def decOk (l : List UInt8) : Bool := decide (l.length = 8) && (decide (byteAt l 3 = 0) && insnOf l)
def decE (l : List UInt8) : Int := if decOk l = true then 0 else 7
def pick (l : List UInt8) (x : Int) : Int := if decOk l = true then x else 0

theorem byteAt_lo (l : List UInt8) (k : Nat) : 0 ≤ byteAt l k := by unfold byteAt; omega
theorem byteAt_hi (l : List UInt8) (k : Nat) : byteAt l k < 256 := by unfold byteAt; have := (l.getD k 0).toNat_lt; omega

theorem bytes_length (op d a b im : Int) : (bytes op d a b im).length = 8 := by simp [bytes, Wd.le_length]

theorem dOp_bytes (op d a b im : Int) (h0 : 0 ≤ op) (h1 : op < 256) : dOp (bytes op d a b im) = op := by
  unfold dOp byteAt bytes
  simp
  omega
theorem b1_bytes (op d a b im : Int) (hd0 : 0 ≤ d) (hd : d < 16) (ha0 : 0 ≤ a) (ha : a < 16) : byteAt (bytes op d a b im) 1 = d + 16 * a := by
  unfold byteAt bytes
  simp
  omega
theorem dB_bytes (op d a b im : Int) (h0 : 0 ≤ b) (h1 : b < 256) : dB (bytes op d a b im) = b := by
  unfold dB byteAt bytes
  simp
  omega
theorem b3_bytes (op d a b im : Int) : byteAt (bytes op d a b im) 3 = 0 := by
  unfold byteAt bytes
  simp
theorem dI_bytes (op d a b im : Int) (h0 : 0 ≤ im) (h1 : im < 4294967296) : dI (bytes op d a b im) = im := by
  unfold dI bytes
  have : (([UInt8.ofNat op.toNat, UInt8.ofNat (d + 16 * a).toNat, UInt8.ofNat b.toNat, 0] : List UInt8) ++ Wd.le im.toNat 4).drop 4 = Wd.le im.toNat 4 := rfl
  rw [this, Wd.unle_le]
  have e : (256 : Nat) ^ 4 = 4294967296 := by decide
  rw [e]; omega

/-- What was encoded is decoded. -/
theorem dec_bytes {op d a b im : Int} (hop0 : 0 ≤ op) (hop : op < 256) (hd0 : 0 ≤ d) (ha0 : 0 ≤ a) (hb0 : 0 ≤ b) (hb : b < 256) (hi0 : 0 ≤ im) (hi : im < 4294967296) (h : insnOk op d a b im = true) :
    decOk (bytes op d a b im) = true ∧ dOp (bytes op d a b im) = op ∧ dD (bytes op d a b im) = d ∧ dA (bytes op d a b im) = a ∧ dB (bytes op d a b im) = b ∧ dI (bytes op d a b im) = im := by
  obtain ⟨_, h1, h2, _, _⟩ := ok_parts h
  have hd := regOk_lt _ _ h1
  have ha := regOk_lt _ _ h2
  have e1 := dOp_bytes op d a b im hop0 hop
  have eb := b1_bytes op d a b im hd0 hd ha0 ha
  have e2 : dD (bytes op d a b im) = d := by unfold dD; rw [eb]; omega
  have e3 : dA (bytes op d a b im) = a := by unfold dA; rw [eb]; omega
  have e4 := dB_bytes op d a b im hb0 hb
  have e5 := dI_bytes op d a b im hi0 hi
  refine ⟨?_, e1, e2, e3, e4, e5⟩
  unfold decOk insnOf
  rw [e1, e2, e3, e4, e5, h, b3_bytes, bytes_length]
  rfl

theorem list8 (l : List UInt8) (h : l.length = 8) : l = [l.getD 0 0, l.getD 1 0, l.getD 2 0, l.getD 3 0] ++ l.drop 4 := by
  match l, h with
  | [a, b, c, d, e, f, g, i], _ => rfl

/-- What was decoded is encoded as it stood, but for the byte 3. -/
theorem bytes_dec (l : List UInt8) (h : l.length = 8) : bytes (dOp l) (dD l) (dA l) (dB l) (dI l) = [l.getD 0 0, l.getD 1 0, l.getD 2 0, 0] ++ l.drop 4 := by
  have e1 : UInt8.ofNat (dOp l).toNat = l.getD 0 0 := by unfold dOp byteAt; simp
  have e2 : UInt8.ofNat (dD l + 16 * dA l).toNat = l.getD 1 0 := by
    have : dD l + 16 * dA l = byteAt l 1 := by unfold dD dA; omega
    rw [this]; unfold byteAt; simp
  have e3 : UInt8.ofNat (dB l).toNat = l.getD 2 0 := by unfold dB byteAt; simp
  have e4 : Wd.le (dI l).toNat 4 = l.drop 4 := by
    have hl : (l.drop 4).length = 4 := by rw [List.length_drop, h]
    have := Wd.le_unle (l.drop 4)
    rw [hl] at this
    unfold dI
    rw [Int.toNat_natCast]
    exact this
  unfold bytes
  rw [e1, e2, e3, e4]

theorem bytes_dec_iff (l : List UInt8) (h : l.length = 8) : bytes (dOp l) (dD l) (dA l) (dB l) (dI l) = l ↔ byteAt l 3 = 0 := by
  rw [bytes_dec l h]
  constructor
  · intro e
    rw [list8 l h] at e
    have : l.getD 3 0 = 0 := by
      have e2 := congrArg (fun x : List UInt8 => x.getD 3 0) e
      simpa using e2.symm
    unfold byteAt
    rw [this]; rfl
  · intro e
    have e2 : l.getD 3 0 = 0 := by
      unfold byteAt at e
      apply UInt8.toNat_inj.1
      have : (0 : UInt8).toNat = 0 := rfl
      omega
    conv => rhs; rw [list8 l h, e2]

theorem decOk_iff (l : List UInt8) (h : l.length = 8) : decOk l = (insnOf l && decide (enc (dOp l) (dD l) (dA l) (dB l) (dI l) = l)) := by
  unfold decOk
  rw [decide_eq_true h, Bool.true_and]
  by_cases hk : insnOf l = true
  · rw [hk, Bool.and_true, Bool.true_and]
    unfold insnOf at hk
    unfold enc
    rw [if_pos hk, Bool.eq_iff_iff, decide_eq_true_eq, decide_eq_true_eq]
    exact (bytes_dec_iff l h).symm
  · rw [Bool.eq_false_iff.2 hk, Bool.and_false, Bool.false_and]

theorem enc_of_ok {op d a b im : Int} (h : insnOk op d a b im = true) : enc op d a b im = bytes op d a b im := by unfold enc; rw [if_pos h]
theorem enc_of_no {op d a b im : Int} (h : insnOk op d a b im = false) : enc op d a b im = [] := by unfold enc; rw [h]; rfl

/-- Two that may be have the same bytes just if they are the same. -/
theorem bytes_inj {op d a b im op' d' a' b' im' : Int} (h0 : 0 ≤ op) (h1 : op < 256) (h2 : 0 ≤ d) (h3 : 0 ≤ a) (h4 : 0 ≤ b) (h5 : b < 256) (h6 : 0 ≤ im) (h7 : im < 4294967296)
    (g0 : 0 ≤ op') (g1 : op' < 256) (g2 : 0 ≤ d') (g3 : 0 ≤ a') (g4 : 0 ≤ b') (g5 : b' < 256) (g6 : 0 ≤ im') (g7 : im' < 4294967296)
    (h : insnOk op d a b im = true) (g : insnOk op' d' a' b' im' = true) (e : bytes op d a b im = bytes op' d' a' b' im') : op = op' ∧ d = d' ∧ a = a' ∧ b = b' ∧ im = im' := by
  obtain ⟨_, k1, k2, k3, k4, k5⟩ := dec_bytes h0 h1 h2 h3 h4 h5 h6 h7 h
  obtain ⟨_, q1, q2, q3, q4, q5⟩ := dec_bytes g0 g1 g2 g3 g4 g5 g6 g7 g
  rw [e] at k1 k2 k3 k4 k5
  exact ⟨k1.symm.trans q1, k2.symm.trans q2, k3.symm.trans q3, k4.symm.trans q4, k5.symm.trans q5⟩

theorem byte_bits (op : Int) (h0 : 0 ≤ op) : bitsI op = ((tab.getD op.toNat 0 : Nat) : Int) := rfl
end Go.Proofs.YtlnnhgmkibjgmaaDoor.I.Ix
end

/- Lines of code, and the symbol that they make, as plain functions. -/
section
namespace Go.Proofs.YtlnnhgmkibjgmaaDoor.Al
open Oj

structure Ln where
  label : List UInt8
  op : Int
  d : Int
  a : Int
  b : Int
  im : Int
  to : List UInt8
  name : List UInt8
def Ln.nought : Ln := ⟨[], 0, 0, 0, 0, 0, [], []⟩
/-- Does it have a To or a Name? -/
def adr (x : Ln) : Bool := decide (x.to ≠ []) || decide (x.name ≠ [])
/-- Its number as its bytes have it. -/
def im0 (x : Ln) : Int := if adr x = true then 0 else x.im
def nm0 (l : List UInt8) : Bool := decide (l = []) || nameOk l
def lnOk (x : Ln) : Bool :=
  I.Ix.insnOk x.op x.d x.a x.b (im0 x) && nm0 x.label && nm0 x.to && nm0 x.name && !(decide (x.to ≠ []) && decide (x.name ≠ [])) && (!adr x || I.Ix.insnOk x.op x.d x.a x.b 4)
/-- The first line with that label. -/
def findL (l : List Ln) (lab : List UInt8) : Option Nat := (List.range l.length).find? fun k => decide ((l.getD k Ln.nought).label = lab)
def lblOk (l : List Ln) (k : Nat) : Bool := decide ((l.getD k Ln.nought).label = []) || decide (findL l (l.getD k Ln.nought).label = some k)
def toOk (l : List Ln) (k : Nat) : Bool := decide ((l.getD k Ln.nought).to = []) || (findL l (l.getD k Ln.nought).to).isSome
def lineB (x : Ln) : List UInt8 := I.Ix.bytes x.op x.d x.a x.b (im0 x)
def bytesL (l : List Ln) : List UInt8 := (l.map lineB).flatten
/-- The places of one line. -/
def relsAt (nm : List UInt8) (l : List Ln) (k : Nat) : List Rl :=
  (if (l.getD k Ln.nought).name ≠ [] then [⟨8 * (k : Int) + 4, 1, (l.getD k Ln.nought).name, (l.getD k Ln.nought).im⟩] else []) ++
  (if (l.getD k Ln.nought).to ≠ [] then [⟨8 * (k : Int) + 4, 1, nm, 8 * (((findL l (l.getD k Ln.nought).to).getD 0 : Nat) : Int)⟩] else [])
def relsL (nm : List UInt8) (l : List Ln) : Nat → List Rl
  | 0 => []
  | k + 1 => relsL nm l k ++ relsAt nm l k
def symL (nm : List UInt8) (bind : Int) (notes : List Nt) (l : List Ln) : Sy := ⟨nm, bind, 1, 8 * (l.length : Int), bytesL l, relsL nm l l.length, notes⟩
def mkE (nm : List UInt8) (bind : Int) (notes : List Nt) (l : List Ln) : Int :=
  if 1024 < l.length then 5
  else if allN l.length (fun k => lnOk (l.getD k Ln.nought)) = false then 2
  else if allN l.length (lblOk l) = false then 9
  else if allN l.length (toOk l) = false then 3
  else if symOk (symL nm bind notes l) = true then 0 else 2
def mkS (nm : List UInt8) (bind : Int) (notes : List Nt) (l : List Ln) : Sy := if mkE nm bind notes l = 0 then symL nm bind notes l else Sy.nought

theorem findL_at {l : List Ln} {lab : List UInt8} {k : Nat} (hk : k < l.length) (h : (l.getD k Ln.nought).label = lab) (hj : ∀ j, j < k → (l.getD j Ln.nought).label ≠ lab) : findL l lab = some k := by
  unfold findL
  rw [List.find?_range_eq_some]
  exact ⟨by simpa using h, by simpa using hk, fun j h2 => by simpa using hj j h2⟩
theorem findL_none {l : List Ln} {lab : List UInt8} (hj : ∀ j, j < l.length → (l.getD j Ln.nought).label ≠ lab) : findL l lab = none := by
  unfold findL
  rw [List.find?_range_eq_none]
  exact fun j h2 => by simpa using hj j h2
theorem findL_some {l : List Ln} {lab : List UInt8} {k : Nat} (h : findL l lab = some k) : k < l.length ∧ (l.getD k Ln.nought).label = lab ∧ ∀ j, j < k → (l.getD j Ln.nought).label ≠ lab := by
  unfold findL at h
  rw [List.find?_range_eq_some] at h
  obtain ⟨h1, h2, h3⟩ := h
  exact ⟨by simpa using h2, by simpa using h1, fun j hj => by simpa using h3 j hj⟩
theorem lineB_length (x : Ln) : (lineB x).length = 8 := I.Ix.bytes_length _ _ _ _ _
theorem bytesL_length (l : List Ln) : (bytesL l).length = 8 * l.length := by
  induction l with
  | nil => rfl
  | cons x l ih =>
    have e : bytesL (x :: l) = lineB x ++ bytesL l := by simp [bytesL]
    rw [e, List.length_append, ih, lineB_length, List.length_cons]
    omega
theorem bytesL_snoc (l : List Ln) (k : Nat) (h : k < l.length) : bytesL (l.take (k + 1)) = bytesL (l.take k) ++ lineB (l.getD k Ln.nought) := by
  unfold bytesL
  rw [List.take_succ_eq_append_getElem h, List.map_append, List.flatten_append, List.getD_eq_getElem?_getD, List.getElem?_eq_getElem h]
  simp
theorem relsAt_le (nm : List UInt8) (l : List Ln) (k : Nat) : (relsAt nm l k).length ≤ 2 := by
  unfold relsAt
  rw [List.length_append]
  split <;> split <;> simp
theorem relsL_le (nm : List UInt8) (l : List Ln) : ∀ k, (relsL nm l k).length ≤ 2 * k
  | 0 => Nat.le_refl _
  | k + 1 => by
    have := relsL_le nm l k
    have := relsAt_le nm l k
    rw [relsL, List.length_append]
    omega
end Go.Proofs.YtlnnhgmkibjgmaaDoor.Al
end
