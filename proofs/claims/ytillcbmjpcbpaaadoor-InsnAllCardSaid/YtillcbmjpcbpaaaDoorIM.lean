/- Instructions as bytes, as plain functions of numbers and of lists of bytes: which may be, which bytes each has, and how both go back. Plain mathematics: no program is named. -/
import Derived.Test.YtillcbmjpcbpaaaDoorWN
set_option linter.unusedVariables false
namespace Go.Proofs.YtillcbmjpcbpaaaDoor.Ix

/-- What each op uses, as bits: 1 D, 2 A, 4 B, 8 Imm; 0 where there is no op. -/
def tab : List Nat := [0, 7, 7, 7, 7, 7, 7, 7, 7, 7, 7, 7, 7, 7, 7, 0, 0, 11, 0, 11, 0, 0, 11, 11, 11, 11, 11, 0, 0, 11, 11, 0, 9, 11, 11, 14, 14, 0, 0, 0, 8, 9, 2, 14, 14, 14, 14, 0, 0, 0, 8]
def bitsI (op : Int) : Int := ((tab.getD op.toNat 0 : Nat) : Int)
def uD (op : Int) : Bool := decide (bitsI op % 2 = 1)
def uA (op : Int) : Bool := decide (bitsI op / 2 % 2 = 1)
def uB (op : Int) : Bool := decide (bitsI op / 4 % 2 = 1)
def uI (op : Int) : Bool := decide (bitsI op / 8 % 2 = 1)
def isOp (op : Int) : Bool := decide (bitsI op ≠ 0)
def regOk (r : Int) (u : Bool) : Bool := decide (r = 0) || (u && decide (r < 16))
def insnOk (op d a b im : Int) : Bool := isOp op && regOk d (uD op) && regOk a (uA op) && regOk b (uB op) && (decide (im = 0) || uI op)
def err (op d a b im : Int) : Int := if insnOk op d a b im = true then 0 else 2
def bytes (op d a b im : Int) : List UInt8 := [UInt8.ofNat op.toNat, UInt8.ofNat (d + 16 * a).toNat, UInt8.ofNat b.toNat, 0] ++ Wd.le im.toNat 4
def enc (op d a b im : Int) : List UInt8 := if insnOk op d a b im = true then bytes op d a b im else []

theorem bitsI_lo (op : Int) : 0 ≤ bitsI op := by unfold bitsI; omega
theorem tab_hi : ∀ k : Fin 51, tab.getD k.val 0 ≤ 14 := by decide
theorem bitsI_hi (op : Int) : bitsI op ≤ 14 := by
  unfold bitsI
  by_cases h : op.toNat < 51
  · have := tab_hi ⟨op.toNat, h⟩
    simp only at this; omega
  · have : tab.getD op.toNat 0 = 0 := by
      rw [List.getD_eq_getElem?_getD, List.getElem?_eq_none (by simp [tab]; omega)]; rfl
    omega
theorem bitsI_far (op : Int) (h : 51 ≤ op) : bitsI op = 0 := by
  unfold bitsI
  have : tab.getD op.toNat 0 = 0 := by
    rw [List.getD_eq_getElem?_getD, List.getElem?_eq_none (by simp [tab]; omega)]; rfl
  omega

theorem regOk_lt (r : Int) (u : Bool) (h : regOk r u = true) : r < 16 := by
  unfold regOk at h
  simp only [Bool.or_eq_true, Bool.and_eq_true, decide_eq_true_eq] at h
  omega
theorem ok_parts {op d a b im : Int} (h : insnOk op d a b im = true) : isOp op = true ∧ regOk d (uD op) = true ∧ regOk a (uA op) = true ∧ regOk b (uB op) = true ∧ (decide (im = 0) || uI op) = true := by
  unfold insnOk at h
  simp only [Bool.and_eq_true] at h
  exact ⟨h.1.1.1.1, h.1.1.1.2, h.1.1.2, h.1.2, h.2⟩

/-! bytes, and back -/
def byteAt (l : List UInt8) (k : Nat) : Int := ((l.getD k 0).toNat : Int)
def dOp (l : List UInt8) : Int := byteAt l 0
def dD (l : List UInt8) : Int := byteAt l 1 % 16
def dA (l : List UInt8) : Int := byteAt l 1 / 16
def dB (l : List UInt8) : Int := byteAt l 2
def dI (l : List UInt8) : Int := (Wd.unle (l.drop 4) : Nat)
def insnOf (l : List UInt8) : Bool := insnOk (dOp l) (dD l) (dA l) (dB l) (dI l)
def decOk (l : List UInt8) : Bool := decide (l.length = 8) && (decide (byteAt l 3 = 0) && insnOf l)
def decE (l : List UInt8) : Int := if decOk l = true then 0 else 7
def pick (l : List UInt8) (x : Int) : Int := if decOk l = true then x else 0

theorem byteAt_lo (l : List UInt8) (k : Nat) : 0 ≤ byteAt l k := by unfold byteAt; omega
theorem byteAt_hi (l : List UInt8) (k : Nat) : byteAt l k < 256 := by unfold byteAt; have := (l.getD k 0).toNat_lt; omega

theorem bytes_length (op d a b im : Int) : (bytes op d a b im).length = 8 := by simp [bytes, Wd.le_length]

theorem dOp_bytes (op d a b im : Int) (h0 : 0 ≤ op) (h1 : op < 256) : dOp (bytes op d a b im) = op := by
  unfold dOp byteAt bytes
  simp
  omega
theorem b1_bytes (op d a b im : Int) (hd0 : 0 ≤ d) (hd : d < 16) (ha0 : 0 ≤ a) (ha : a < 16) : byteAt (bytes op d a b im) 1 = d + 16 * a := by
  unfold byteAt bytes
  simp
  omega
theorem dB_bytes (op d a b im : Int) (h0 : 0 ≤ b) (h1 : b < 256) : dB (bytes op d a b im) = b := by
  unfold dB byteAt bytes
  simp
  omega
theorem b3_bytes (op d a b im : Int) : byteAt (bytes op d a b im) 3 = 0 := by
  unfold byteAt bytes
  simp
theorem dI_bytes (op d a b im : Int) (h0 : 0 ≤ im) (h1 : im < 4294967296) : dI (bytes op d a b im) = im := by
  unfold dI bytes
  have : (([UInt8.ofNat op.toNat, UInt8.ofNat (d + 16 * a).toNat, UInt8.ofNat b.toNat, 0] : List UInt8) ++ Wd.le im.toNat 4).drop 4 = Wd.le im.toNat 4 := rfl
  rw [this, Wd.unle_le]
  have e : (256 : Nat) ^ 4 = 4294967296 := by decide
  rw [e]; omega

/-- What was encoded is decoded. -/
theorem dec_bytes {op d a b im : Int} (hop0 : 0 ≤ op) (hop : op < 256) (hd0 : 0 ≤ d) (ha0 : 0 ≤ a) (hb0 : 0 ≤ b) (hb : b < 256) (hi0 : 0 ≤ im) (hi : im < 4294967296) (h : insnOk op d a b im = true) :
    decOk (bytes op d a b im) = true ∧ dOp (bytes op d a b im) = op ∧ dD (bytes op d a b im) = d ∧ dA (bytes op d a b im) = a ∧ dB (bytes op d a b im) = b ∧ dI (bytes op d a b im) = im := by
  obtain ⟨_, h1, h2, _, _⟩ := ok_parts h
  have hd := regOk_lt _ _ h1
  have ha := regOk_lt _ _ h2
  have e1 := dOp_bytes op d a b im hop0 hop
  have eb := b1_bytes op d a b im hd0 hd ha0 ha
  have e2 : dD (bytes op d a b im) = d := by unfold dD; rw [eb]; omega
  have e3 : dA (bytes op d a b im) = a := by unfold dA; rw [eb]; omega
  have e4 := dB_bytes op d a b im hb0 hb
  have e5 := dI_bytes op d a b im hi0 hi
  refine ⟨?_, e1, e2, e3, e4, e5⟩
  unfold decOk insnOf
  rw [e1, e2, e3, e4, e5, h, b3_bytes, bytes_length]
  rfl

theorem list8 (l : List UInt8) (h : l.length = 8) : l = [l.getD 0 0, l.getD 1 0, l.getD 2 0, l.getD 3 0] ++ l.drop 4 := by
  match l, h with
  | [a, b, c, d, e, f, g, i], _ => rfl

/-- What was decoded is encoded as it stood, but for the byte 3. -/
theorem bytes_dec (l : List UInt8) (h : l.length = 8) : bytes (dOp l) (dD l) (dA l) (dB l) (dI l) = [l.getD 0 0, l.getD 1 0, l.getD 2 0, 0] ++ l.drop 4 := by
  have e1 : UInt8.ofNat (dOp l).toNat = l.getD 0 0 := by unfold dOp byteAt; simp
  have e2 : UInt8.ofNat (dD l + 16 * dA l).toNat = l.getD 1 0 := by
    have : dD l + 16 * dA l = byteAt l 1 := by unfold dD dA; omega
    rw [this]; unfold byteAt; simp
  have e3 : UInt8.ofNat (dB l).toNat = l.getD 2 0 := by unfold dB byteAt; simp
  have e4 : Wd.le (dI l).toNat 4 = l.drop 4 := by
    have hl : (l.drop 4).length = 4 := by rw [List.length_drop, h]
    have := Wd.le_unle (l.drop 4)
    rw [hl] at this
    unfold dI
    rw [Int.toNat_natCast]
    exact this
  unfold bytes
  rw [e1, e2, e3, e4]

theorem bytes_dec_iff (l : List UInt8) (h : l.length = 8) : bytes (dOp l) (dD l) (dA l) (dB l) (dI l) = l ↔ byteAt l 3 = 0 := by
  rw [bytes_dec l h]
  constructor
  · intro e
    rw [list8 l h] at e
    have : l.getD 3 0 = 0 := by
      have e2 := congrArg (fun x : List UInt8 => x.getD 3 0) e
      simpa using e2.symm
    unfold byteAt
    rw [this]; rfl
  · intro e
    have e2 : l.getD 3 0 = 0 := by
      unfold byteAt at e
      apply UInt8.toNat_inj.1
      have : (0 : UInt8).toNat = 0 := rfl
      omega
    conv => rhs; rw [list8 l h, e2]

theorem decOk_iff (l : List UInt8) (h : l.length = 8) : decOk l = (insnOf l && decide (enc (dOp l) (dD l) (dA l) (dB l) (dI l) = l)) := by
  unfold decOk
  rw [decide_eq_true h, Bool.true_and]
  by_cases hk : insnOf l = true
  · rw [hk, Bool.and_true, Bool.true_and]
    unfold insnOf at hk
    unfold enc
    rw [if_pos hk, Bool.eq_iff_iff, decide_eq_true_eq, decide_eq_true_eq]
    exact (bytes_dec_iff l h).symm
  · rw [Bool.eq_false_iff.2 hk, Bool.and_false, Bool.false_and]

theorem enc_of_ok {op d a b im : Int} (h : insnOk op d a b im = true) : enc op d a b im = bytes op d a b im := by unfold enc; rw [if_pos h]
theorem enc_of_no {op d a b im : Int} (h : insnOk op d a b im = false) : enc op d a b im = [] := by unfold enc; rw [h]; rfl

/-- Two that may be have the same bytes just if they are the same. -/
theorem bytes_inj {op d a b im op' d' a' b' im' : Int} (h0 : 0 ≤ op) (h1 : op < 256) (h2 : 0 ≤ d) (h3 : 0 ≤ a) (h4 : 0 ≤ b) (h5 : b < 256) (h6 : 0 ≤ im) (h7 : im < 4294967296)
    (g0 : 0 ≤ op') (g1 : op' < 256) (g2 : 0 ≤ d') (g3 : 0 ≤ a') (g4 : 0 ≤ b') (g5 : b' < 256) (g6 : 0 ≤ im') (g7 : im' < 4294967296)
    (h : insnOk op d a b im = true) (g : insnOk op' d' a' b' im' = true) (e : bytes op d a b im = bytes op' d' a' b' im') : op = op' ∧ d = d' ∧ a = a' ∧ b = b' ∧ im = im' := by
  obtain ⟨_, k1, k2, k3, k4, k5⟩ := dec_bytes h0 h1 h2 h3 h4 h5 h6 h7 h
  obtain ⟨_, q1, q2, q3, q4, q5⟩ := dec_bytes g0 g1 g2 g3 g4 g5 g6 g7 g
  rw [e] at k1 k2 k3 k4 k5
  exact ⟨k1.symm.trans q1, k2.symm.trans q2, k3.symm.trans q3, k4.symm.trans q4, k5.symm.trans q5⟩

theorem byte_bits (op : Int) (h0 : 0 ≤ op) : bitsI op = ((tab.getD op.toNat 0 : Nat) : Int) := rfl
end Go.Proofs.YtillcbmjpcbpaaaDoor.Ix
