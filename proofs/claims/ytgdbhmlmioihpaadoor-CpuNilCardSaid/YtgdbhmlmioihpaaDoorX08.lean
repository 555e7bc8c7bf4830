/- Some texts of one proof, one behind the other; each has its own head below. -/
import Derived.Test.YtgdbhmlmioihpaaDoorX07
/- Instructions as bytes, as plain functions of numbers and of lists of bytes: which may be, which bytes each has, and how both go back. Plain mathematics: no program is named. -/
section
set_option linter.unusedVariables false
namespace Go.Proofs.YtgdbhmlmioihpaaDoor.I.Ix

/-- What each op uses, as bits: 1 D, 2 A, 4 B, 8 Imm; 0 where there is no op. -/
def tab : List Nat := [0, 7, 7, 7, 7, 7, 7, 7, 7, 7, 7, 7, 7, 7, 7, 0, 0, 11, 0, 11, 0, 0, 11, 11, 11, 11, 11, 0, 0, 11, 11, 0, 9, 11, 11, 14, 14, 0, 0, 0, 8, 9, 2, 14, 14, 14, 14, 0, 0, 0, 8]
def bitsI (op : Int) : Int := ((tab.getD op.toNat 0 : Nat) : Int)
def uD (op : Int) : Bool := decide (bitsI op % 2 = 1)
def uA (op : Int) : Bool := decide (bitsI op / 2 % 2 = 1)
def uB (op : Int) : Bool := decide (bitsI op / 4 % 2 = 1)
def uI (op : Int) : Bool := decide (bitsI op / 8 % 2 = 1)
def isOp (op : Int) : Bool := decide (bitsI op ≠ 0)
def regOk (r : Int) (u : Bool) : Bool := decide (r = 0) || (u && decide (r < 16))
def insnOk (op d a b im : Int) : Bool := isOp op && regOk d (uD op) && regOk a (uA op) && regOk b (uB op) && (decide (im = 0) || uI op)
def err (op d a b im : Int) : Int := if insnOk op d a b im = true then 0 else 2
def bytes (op d a b im : Int) : List UInt8 := [UInt8.ofNat op.toNat, UInt8.ofNat (d + 16 * a).toNat, UInt8.ofNat b.toNat, 0] ++ Wd.le im.toNat 4
def enc (op d a b im : Int) : List UInt8 := if insnOk op d a b im = true then bytes op d a b im else []

theorem bitsI_lo (op : Int) : 0 ≤ bitsI op := by unfold bitsI; omega
theorem tab_hi : ∀ k : Fin 51, tab.getD k.val 0 ≤ 14 := by decide
theorem bitsI_hi (op : Int) : bitsI op ≤ 14 := by
  unfold bitsI
  by_cases h : op.toNat < 51
  · have := tab_hi ⟨op.toNat, h⟩
    simp only at this; omega
  · have : tab.getD op.toNat 0 = 0 := by
      rw [List.getD_eq_getElem?_getD, List.getElem?_eq_none (by simp [tab]; omega)]; rfl
    omega
theorem bitsI_far (op : Int) (h : 51 ≤ op) : bitsI op = 0 := by
  unfold bitsI
  have : tab.getD op.toNat 0 = 0 := by
    rw [List.getD_eq_getElem?_getD, List.getElem?_eq_none (by simp [tab]; omega)]; rfl
  omega

theorem regOk_lt (r : Int) (u : Bool) (h : regOk r u = true) : r < 16 := by
  unfold regOk at h
  simp only [Bool.or_eq_true, Bool.and_eq_true, decide_eq_true_eq] at h
  omega
theorem ok_parts {op d a b im : Int} (h : insnOk op d a b im = true) : isOp op = true ∧ regOk d (uD op) = true ∧ regOk a (uA op) = true ∧ regOk b (uB op) = true ∧ (decide (im = 0) || uI op) = true := by
  unfold insnOk at h
  simp only [Bool.and_eq_true] at h
  exact ⟨h.1.1.1.1, h.1.1.1.2, h.1.1.2, h.1.2, h.2⟩

/-! bytes, and back -/
def byteAt (l : List UInt8) (k : Nat) : Int := ((l.getD k 0).toNat : Int)
def dOp (l : List UInt8) : Int := byteAt l 0
def dD (l : List UInt8) : Int := byteAt l 1 % 16
def dA (l : List UInt8) : Int := byteAt l 1 / 16
def dB (l : List UInt8) : Int := byteAt l 2
def dI (l : List UInt8) : Int := (Wd.unle (l.drop 4) : Nat)
def insnOf (l : List UInt8) : Bool := insnOk (dOp l) (dD l) (dA l) (dB l) (dI l)
def decOk (l : List UInt8) : Bool := decide (l.length = 8) && (decide (byteAt l 3 = 0) && insnOf l)
def decE (l : List UInt8) : Int := if decOk l = true then 0 else 7
def pick (l : List UInt8) (x : Int) : Int := if decOk l = true then x else 0

theorem byteAt_lo (l : List UInt8) (k : Nat) : 0 ≤ byteAt l k := by unfold byteAt; omega
theorem byteAt_hi (l : List UInt8) (k : Nat) : byteAt l k < 256 := by unfold byteAt; have := (l.getD k 0).toNat_lt; omega

theorem bytes_length (op d a b im : Int) : (bytes op d a b im).length = 8 := by simp [bytes, Wd.le_length]

theorem dOp_bytes (op d a b im : Int) (h0 : 0 ≤ op) (h1 : op < 256) : dOp (bytes op d a b im) = op := by
  unfold dOp byteAt bytes
  simp
  omega
theorem b1_bytes (op d a b im : Int) (hd0 : 0 ≤ d) (hd : d < 16) (ha0 : 0 ≤ a) (ha : a < 16) : byteAt (bytes op d a b im) 1 = d + 16 * a := by
  unfold byteAt bytes
  simp
  omega
theorem dB_bytes (op d a b im : Int) (h0 : 0 ≤ b) (h1 : b < 256) : dB (bytes op d a b im) = b := by
  unfold dB byteAt bytes
  simp
  omega
theorem b3_bytes (op d a b im : Int) : byteAt (bytes op d a b im) 3 = 0 := by
  unfold byteAt bytes
  simp
theorem dI_bytes (op d a b im : Int) (h0 : 0 ≤ im) (h1 : im < 4294967296) : dI (bytes op d a b im) = im := by
  unfold dI bytes
  have : (([UInt8.ofNat op.toNat, UInt8.ofNat (d + 16 * a).toNat, UInt8.ofNat b.toNat, 0] : List UInt8) ++ Wd.le im.toNat 4).drop 4 = Wd.le im.toNat 4 := rfl
  rw [this, Wd.unle_le]
  have e : (256 : Nat) ^ 4 = 4294967296 := by decide
  rw [e]; omega

/-- What was encoded is decoded. -/
theorem dec_bytes {op d a b im : Int} (hop0 : 0 ≤ op) (hop : op < 256) (hd0 : 0 ≤ d) (ha0 : 0 ≤ a) (hb0 : 0 ≤ b) (hb : b < 256) (hi0 : 0 ≤ im) (hi : im < 4294967296) (h : insnOk op d a b im = true) :
    decOk (bytes op d a b im) = true ∧ dOp (bytes op d a b im) = op ∧ dD (bytes op d a b im) = d ∧ dA (bytes op d a b im) = a ∧ dB (bytes op d a b im) = b ∧ dI (bytes op d a b im) = im := by
  obtain ⟨_, h1, h2, _, _⟩ := ok_parts h
  have hd := regOk_lt _ _ h1
  have ha := regOk_lt _ _ h2
  have e1 := dOp_bytes op d a b im hop0 hop
  have eb := b1_bytes op d a b im hd0 hd ha0 ha
  have e2 : dD (bytes op d a b im) = d := by unfold dD; rw [eb]; omega
  have e3 : dA (bytes op d a b im) = a := by unfold dA; rw [eb]; omega
  have e4 := dB_bytes op d a b im hb0 hb
  have e5 := dI_bytes op d a b im hi0 hi
  refine ⟨?_, e1, e2, e3, e4, e5⟩
  unfold decOk insnOf
  rw [e1, e2, e3, e4, e5, h, b3_bytes, bytes_length]
  rfl

theorem list8 (l : List UInt8) (h : l.length = 8) : l = [l.getD 0 0, l.getD 1 0, l.getD 2 0, l.getD 3 0] ++ l.drop 4 := by
  match l, h with
  | [a, b, c, d, e, f, g, i], _ => rfl

/-- What was decoded is encoded as it stood, but for the byte 3. -/
theorem bytes_dec (l : List UInt8) (h : l.length = 8) : bytes (dOp l) (dD l) (dA l) (dB l) (dI l) = [l.getD 0 0, l.getD 1 0, l.getD 2 0, 0] ++ l.drop 4 := by
  have e1 : UInt8.ofNat (dOp l).toNat = l.getD 0 0 := by unfold dOp byteAt; simp
  have e2 : UInt8.ofNat (dD l + 16 * dA l).toNat = l.getD 1 0 := by
    have : dD l + 16 * dA l = byteAt l 1 := by unfold dD dA; omega
    rw [this]; unfold byteAt; simp
  have e3 : UInt8.ofNat (dB l).toNat = l.getD 2 0 := by unfold dB byteAt; simp
  have e4 : Wd.le (dI l).toNat 4 = l.drop 4 := by
    have hl : (l.drop 4).length = 4 := by rw [List.length_drop, h]
    have := Wd.le_unle (l.drop 4)
    rw [hl] at this
    unfold dI
    rw [Int.toNat_natCast]
    exact this
  unfold bytes
  rw [e1, e2, e3, e4]

theorem bytes_dec_iff (l : List UInt8) (h : l.length = 8) : bytes (dOp l) (dD l) (dA l) (dB l) (dI l) = l ↔ byteAt l 3 = 0 := by
  rw [bytes_dec l h]
  constructor
  · intro e
    rw [list8 l h] at e
    have : l.getD 3 0 = 0 := by
      have e2 := congrArg (fun x : List UInt8 => x.getD 3 0) e
      simpa using e2.symm
    unfold byteAt
    rw [this]; rfl
  · intro e
    have e2 : l.getD 3 0 = 0 := by
      unfold byteAt at e
      apply UInt8.toNat_inj.1
      have : (0 : UInt8).toNat = 0 := rfl
      omega
    conv => rhs; rw [list8 l h, e2]

theorem decOk_iff (l : List UInt8) (h : l.length = 8) : decOk l = (insnOf l && decide (enc (dOp l) (dD l) (dA l) (dB l) (dI l) = l)) := by
  unfold decOk
  rw [decide_eq_true h, Bool.true_and]
  by_cases hk : insnOf l = true
  · rw [hk, Bool.and_true, Bool.true_and]
    unfold insnOf at hk
    unfold enc
    rw [if_pos hk, Bool.eq_iff_iff, decide_eq_true_eq, decide_eq_true_eq]
    exact (bytes_dec_iff l h).symm
  · rw [Bool.eq_false_iff.2 hk, Bool.and_false, Bool.false_and]

theorem enc_of_ok {op d a b im : Int} (h : insnOk op d a b im = true) : enc op d a b im = bytes op d a b im := by unfold enc; rw [if_pos h]
theorem enc_of_no {op d a b im : Int} (h : insnOk op d a b im = false) : enc op d a b im = [] := by unfold enc; rw [h]; rfl

/-- Two that may be have the same bytes just if they are the same. -/
theorem bytes_inj {op d a b im op' d' a' b' im' : Int} (h0 : 0 ≤ op) (h1 : op < 256) (h2 : 0 ≤ d) (h3 : 0 ≤ a) (h4 : 0 ≤ b) (h5 : b < 256) (h6 : 0 ≤ im) (h7 : im < 4294967296)
    (g0 : 0 ≤ op') (g1 : op' < 256) (g2 : 0 ≤ d') (g3 : 0 ≤ a') (g4 : 0 ≤ b') (g5 : b' < 256) (g6 : 0 ≤ im') (g7 : im' < 4294967296)
    (h : insnOk op d a b im = true) (g : insnOk op' d' a' b' im' = true) (e : bytes op d a b im = bytes op' d' a' b' im') : op = op' ∧ d = d' ∧ a = a' ∧ b = b' ∧ im = im' := by
  obtain ⟨_, k1, k2, k3, k4, k5⟩ := dec_bytes h0 h1 h2 h3 h4 h5 h6 h7 h
  obtain ⟨_, q1, q2, q3, q4, q5⟩ := dec_bytes g0 g1 g2 g3 g4 g5 g6 g7 g
  rw [e] at k1 k2 k3 k4 k5
  exact ⟨k1.symm.trans q1, k2.symm.trans q2, k3.symm.trans q3, k4.symm.trans q4, k5.symm.trans q5⟩

theorem byte_bits (op : Int) (h0 : 0 ≤ op) : bitsI op = ((tab.getD op.toNat 0 : Nat) : Int) := rfl
end Go.Proofs.YtgdbhmlmioihpaaDoor.I.Ix
end

/- What ops use: package insn's Uses, by its table, and the document's own Uses; registers that may stand. -/
section
set_option linter.unusedVariables false
namespace Go.Proofs.YtgdbhmlmioihpaaDoor.I
open Go.RowKit

/-- The table of what ops use stands as the program's text lays it. -/
def Tabled (w : World) : Prop := 0 < w.heap.size ∧ ∀ j, j < 51 → w.cell? ⟨0, j, none⟩ = some (.int .u8 ((Ix.tab.getD j 0 : Nat) : Int))
theorem Tabled.below {w w' : World} (h : Tabled w) (hb : Below w.heap.size w w') : Tabled w' :=
  ⟨Nat.lt_of_lt_of_le h.1 hb.size, fun j hj => (hb.cell (p := ⟨0, j, none⟩) h.1).trans (h.2 j hj)⟩
theorem Tabled.cell {w : World} (h : Tabled w) (op : Int) (h0 : 0 ≤ op) (h1 : op < 51) : w.cell? ⟨0, op.toNat, none⟩ = some (.int .u8 (Ix.bitsI op)) := h.2 op.toNat (by omega)

theorem ret5 {a b c d a' b' c' d' : Bool} {n n' : Int} (h1 : a = a') (h2 : b = b') (h3 : c = c') (h4 : d = d') (h5 : n = n') : Ending.returned (.tuple #[.bool a, .bool b, .bool c, .bool d, .int .i64 n]) = .returned (.tuple #[.bool a', .bool b', .bool c', .bool d', .int .i64 n']) := by
  rw [h1, h2, h3, h4, h5]
theorem results_tmp5 {fn : Func} {t u v x y : Tmp} (h : fn.results = #[.tmp t, .tmp u, .tmp v, .tmp x, .tmp y]) (tmps : Array Value) (P : Program) (w : World) :
    (results fn tmps).run P w = .ok (.tuple #[tmps.getD t undef, tmps.getD u undef, tmps.getD v undef, tmps.getD x undef, tmps.getD y undef]) w := by
  simp [results, h]

theorem bit_facts : ∀ k : Fin 15, (bits .and .u8 (k.val : Int) 1 != 0) = decide ((k.val : Int) % 2 = 1) ∧ (bits .and .u8 (k.val : Int) 2 != 0) = decide ((k.val : Int) / 2 % 2 = 1) ∧ (bits .and .u8 (k.val : Int) 4 != 0) = decide ((k.val : Int) / 4 % 2 = 1) ∧ (bits .and .u8 (k.val : Int) 8 != 0) = decide ((k.val : Int) / 8 % 2 = 1) := by decide
theorem bit_fact (v : Int) (h0 : 0 ≤ v) (h1 : v ≤ 14) : (bits .and .u8 v 1 != 0) = decide (v % 2 = 1) ∧ (bits .and .u8 v 2 != 0) = decide (v / 2 % 2 = 1) ∧ (bits .and .u8 v 4 != 0) = decide (v / 4 % 2 = 1) ∧ (bits .and .u8 v 8 != 0) = decide (v / 8 % 2 = 1) := by
  obtain ⟨k, rfl⟩ := Int.eq_ofNat_of_zero_le h0
  exact bit_facts ⟨k, by omega⟩

set_option maxHeartbeats 1000000 in
set_option maxRecDepth 100000 in
theorem uses_far (op : Int) (h0 : 51 ≤ op) (h1 : op < 256) (w : World) :
    Calls Tryd.prog 62 #[.int .u8 op] w fun e w' => e = .returned (.tuple #[.bool false, .bool false, .bool false, .bool false, .int .i64 2]) ∧ w = w' := by
  go_enter Tryd.func62, Tryd.ntmps62
  go_wp2
  refine bodyPost_ret (results_tmp5 rfl _ _ _) rfl ?_
  exact ⟨rfl, rfl⟩

set_option maxHeartbeats 1000000 in
set_option maxRecDepth 100000 in
theorem uses_none (op : Int) (h0 : 0 ≤ op) (h1 : op < 51) (w : World) (hc : w.cell? ⟨0, op.toNat, none⟩ = some (.int .u8 0)) :
    Calls Tryd.prog 62 #[.int .u8 op] w fun e w' => e = .returned (.tuple #[.bool false, .bool false, .bool false, .bool false, .int .i64 2]) ∧ w = w' := by
  go_enter Tryd.func62, Tryd.ntmps62
  go_wp2
  refine bodyPost_ret (results_tmp5 rfl _ _ _) rfl ?_
  exact ⟨rfl, rfl⟩

set_option maxHeartbeats 1000000 in
set_option maxRecDepth 100000 in
theorem uses_some (op v : Int) (h0 : 0 ≤ op) (h1 : op < 51) (w : World) (hc : w.cell? ⟨0, op.toNat, none⟩ = some (.int .u8 v)) (v0 : 0 < v) (v1 : v ≤ 14) :
    Calls Tryd.prog 62 #[.int .u8 op] w fun e w' => e = .returned (.tuple #[.bool (decide (v % 2 = 1)), .bool (decide (v / 2 % 2 = 1)), .bool (decide (v / 4 % 2 = 1)), .bool (decide (v / 8 % 2 = 1)), .int .i64 0]) ∧ w = w' := by
  obtain ⟨b1, b2, b3, b4⟩ := bit_fact v (by omega) v1
  have B1 := Lib.hid b1
  have B2 := Lib.hid b2
  have B3 := Lib.hid b3
  have B4 := Lib.hid b4
  have t0 : (v == 0) = false := by rw [beq_eq_false_iff_ne]; omega
  clear b1 b2 b3 b4
  go_enter Tryd.func62, Tryd.ntmps62
  go_wp2
  refine bodyPost_ret (results_tmp5 rfl _ _ _) rfl ?_
  exact ⟨ret5 B1.out B2.out B3.out B4.out rfl, rfl⟩

def usesE (op : Int) : Int := if Ix.isOp op = true then 0 else 2
def usesV (op : Int) (b : Bool) : Bool := Ix.isOp op && b

/-- Uses, whatever it is asked. -/
theorem uses_any (op : Int) (h0 : 0 ≤ op) (h1 : op < 256) (w : World) (hk : Tabled w) :
    Calls Tryd.prog 62 #[.int .u8 op] w fun e w' => e = .returned (.tuple #[.bool (usesV op (Ix.uD op)), .bool (usesV op (Ix.uA op)), .bool (usesV op (Ix.uB op)), .bool (usesV op (Ix.uI op)), .int .i64 (usesE op)]) ∧ w = w' := by
  have l0 := Ix.bitsI_lo op
  have l1 := Ix.bitsI_hi op
  by_cases hz : Ix.bitsI op = 0
  · have e : Ix.isOp op = false := by unfold Ix.isOp; rw [hz]; rfl
    unfold usesV usesE
    rw [e]
    by_cases h : op < 51
    · have hc := hk.cell op h0 h
      rw [hz] at hc
      exact uses_none op h0 h w hc
    · exact uses_far op (by omega) h1 w
  · have e : Ix.isOp op = true := by unfold Ix.isOp; rw [decide_eq_true_eq]; exact hz
    unfold usesV usesE
    rw [e]
    have h : op < 51 := by
      rcases Int.lt_or_le op 51 with h | h
      · exact h
      · exact absurd (Ix.bitsI_far op h) hz
    exact uses_some op _ h0 h w (hk.cell op h0 h) (by omega) l1

/-! registers -/
theorem ret_bool {a b : Bool} (h : a = b) : Ending.returned (.bool a) = .returned (.bool b) := by rw [h]
theorem reg_1 (u : Bool) : true = Ix.regOk 0 u := by unfold Ix.regOk; rfl
theorem reg_2 (r : Int) : (r == 0 || decide (r < 16)) = Ix.regOk r true := by
  unfold Ix.regOk
  rw [Bool.true_and, show (r == 0) = decide (r = 0) from rfl]
theorem reg_3 (r : Int) : (r == 0) = Ix.regOk r false := by
  unfold Ix.regOk
  rw [Bool.false_and, Bool.or_false, show (r == 0) = decide (r = 0) from rfl]

set_option maxHeartbeats 1000000 in
theorem mayBe_any (r : Int) (u : Bool) (h0 : 0 ≤ r) (h1 : r < 256) (w : World) :
    Calls Tryd.prog 63 #[.int .u8 r, .bool u] w fun e w' => e = .returned (.bool (Ix.regOk r u)) ∧ w = w' := by
  go_enter Tryd.func63, Tryd.ntmps63
  go_wp2
  all_goals
    go_ret
    refine ⟨?_, rfl⟩
    first
      | (simp only [*]; exact ret_bool (reg_1 u))
      | (simp only [*]; exact ret_bool (reg_2 r))
      | (simp only [Bool.not_eq_true] at *; simp only [*]; exact ret_bool (reg_3 r))
set_option maxHeartbeats 1000000 in
theorem register_any (r : Int) (u : Bool) (h0 : 0 ≤ r) (h1 : r < 256) (w : World) :
    Calls Tryd.prog 91 #[.int .u8 r, .bool u] w fun e w' => e = .returned (.bool (Ix.regOk r u)) ∧ w = w' := by
  go_enter Tryd.func91, Tryd.ntmps91
  go_wp2
  all_goals
    go_ret
    refine ⟨?_, rfl⟩
    first
      | (simp only [*]; exact ret_bool (reg_1 u))
      | (simp only [*]; exact ret_bool (reg_2 r))
      | (simp only [Bool.not_eq_true] at *; simp only [*]; exact ret_bool (reg_3 r))

/-! the document's table -/
def rrow (op : Int) (k : Bool) : Bool := !Ix.isOp op || k
def rU (op : Int) : Value := .tuple #[.agg #[.bool (rrow op (Ix.uD op)), .bool (rrow op (Ix.uA op)), .bool (rrow op (Ix.uB op)), .bool (Ix.uI op)], .bool (Ix.isOp op)]
theorem rU_fin : ∀ k : Fin 256, ¬ k.val ∈ [17, 19, 22, 23, 24, 25, 26, 29, 30, 33, 34, 32, 41, 35, 36, 43, 44, 45, 46, 40, 50, 42] →
    rrow (k.val : Int) (Ix.uD k.val) = true ∧ rrow (k.val : Int) (Ix.uA k.val) = true ∧ rrow (k.val : Int) (Ix.uB k.val) = true ∧ Ix.uI (k.val : Int) = false ∧ Ix.isOp (k.val : Int) = decide (1 ≤ k.val ∧ k.val ≤ 14) := by decide +kernel
theorem rU_rest (op : Int) (h0 : 1 ≤ op) (h1 : op < 256) (h : ¬ op.toNat ∈ [17, 19, 22, 23, 24, 25, 26, 29, 30, 33, 34, 32, 41, 35, 36, 43, 44, 45, 46, 40, 50, 42]) :
    Value.tuple #[.agg #[.bool true, .bool true, .bool true, .bool false], .bool (decide (op ≤ 14))] = rU op := by
  obtain ⟨k, rfl⟩ := Int.eq_ofNat_of_zero_le (by omega : 0 ≤ op)
  obtain ⟨e1, e2, e3, e4, e5⟩ := rU_fin ⟨k, by omega⟩ h
  simp only at e1 e2 e3 e4 e5
  unfold rU
  rw [e1, e2, e3, e4, e5]
  have : decide ((k : Int) ≤ 14) = decide (1 ≤ k ∧ k ≤ 14) := by
    rw [Bool.eq_iff_iff, decide_eq_true_eq, decide_eq_true_eq]; omega
  rw [this]
theorem rU_zero (op : Int) (h0 : 0 ≤ op) (h1 : op < 1) : Value.tuple #[.agg #[.bool true, .bool true, .bool true, .bool false], .bool false] = rU op := by
  obtain rfl : op = 0 := by omega
  rfl
set_option maxHeartbeats 4000000 in
set_option maxRecDepth 100000 in
theorem ruses_any (op : Int) (h0 : 0 ≤ op) (h1 : op < 256) (w : World) :
    Calls Tryd.prog 90 #[.int .u8 op] w fun e w' => e = .returned (rU op) ∧ Below w.heap.size w w' := by
  go_enter Tryd.func90, Tryd.ntmps90
  go_wp2
  all_goals (simp only [beq_iff_eq, beq_eq_false_iff_ne, ne_eq] at *)
  all_goals first
    | (subst_vars; refine bodyPost_ret (v := rU _) (by simp [results, Tryd.results90, go_sem]; rfl) rfl ⟨rfl, ?_⟩)
    | refine bodyPost_ret (v := rU _) (by simp [results, Tryd.results90, go_sem]; exact congrArg (fun v => Result.ok v _) (rU_zero op h0 (by assumption))) rfl ⟨rfl, ?_⟩
    | refine bodyPost_ret (v := rU _) (by simp [results, Tryd.results90, go_sem]; first | exact rU_zero op h0 (by assumption) | exact rU_rest op (by assumption) h1 (by simp; omega)) rfl ⟨rfl, ?_⟩
  all_goals exact (Below.refl _ _).alloc (Nat.le_refl _) _
end Go.Proofs.YtgdbhmlmioihpaaDoor.I
end
