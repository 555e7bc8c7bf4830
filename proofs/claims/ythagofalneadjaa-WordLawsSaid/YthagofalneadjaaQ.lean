/- WordLaws answers true for every two numbers and every shift: sums and differences, quotients and what is left, shifts and products, bits, and orders with a sign and without go together as the statement has it. No condition. -/
import Derived.Test.YthagofalneadjaaRows
import Derived.Test.YthagofalneadjaaK
import Derived.Test.YthagofalneadjaaL
import Derived.ProofKit
import Derived.OpenShut
set_option linter.unusedVariables false
namespace Go.Proofs.Ythagofalneadjaa
open Go.ChangeShapes Go.WideShapes Go.ChangeAt Go.RowKit

theorem opI_toNat (f x y : Int) : (opI f x y).toNat = Wd.opN f.toNat x.toNat y.toNat := by unfold opI; omega
theorem opI_eq (f x y : Int) : opI f x y = (Wd.opN f.toNat x.toNat y.toNat : Nat) := rfl

section
variable (a b k : Int) (ha0 : 0 ≤ a) (ha : a < 4294967296) (hb0 : 0 ≤ b) (hb : b < 4294967296) (hk0 : 0 ≤ k) (hk : k < 32)
include ha0 ha hb0 hb
theorem li1 : opI 2 (opI 1 a b) b = a := by
  have := Wd.law_sub_add a.toNat b.toNat (by omega) (by omega)
  rw [opI_eq, opI_toNat]; show ((Wd.opN 2 (Wd.opN 1 a.toNat b.toNat) b.toNat : Nat) : Int) = a; omega
theorem li2 : opI 1 (opI 3 (opI 4 a b) b) (opI 5 a b) = a := by
  have := Wd.law_div a.toNat b.toNat (by omega) (by omega)
  rw [opI_eq, opI_toNat, opI_toNat, opI_toNat]; show ((Wd.opN 1 (Wd.opN 3 (Wd.opN 4 a.toNat b.toNat) b.toNat) (Wd.opN 5 a.toNat b.toNat) : Nat) : Int) = a; omega
omit ha0 ha in
theorem li3 (h : 0 < b) : opI 5 a b < b := by
  have := Wd.law_rem a.toNat b.toNat (by omega)
  rw [opI_eq]; show ((Wd.opN 5 a.toNat b.toNat : Nat) : Int) < b; omega
omit ha0 ha hb0 hb in
theorem li4 : opI 1 (opI 8 a b) (opI 3 2 (opI 6 a b)) = opI 1 a b := by
  have := Wd.law_bits a.toNat b.toNat
  rw [opI_eq, opI_toNat, opI_toNat, opI_toNat, opI_eq]; show ((Wd.opN 1 (Wd.opN 8 a.toNat b.toNat) (Wd.opN 3 2 (Wd.opN 6 a.toNat b.toNat)) : Nat) : Int) = (Wd.opN 1 a.toNat b.toNat : Nat); omega
theorem li5 : opI 2 (opI 7 a b) (opI 6 a b) = opI 8 a b := by
  have := Wd.law_or a.toNat b.toNat (by omega) (by omega)
  rw [opI_eq, opI_toNat, opI_toNat, opI_eq]; show ((Wd.opN 2 (Wd.opN 7 a.toNat b.toNat) (Wd.opN 6 a.toNat b.toNat) : Nat) : Int) = (Wd.opN 8 a.toNat b.toNat : Nat); omega
omit hb0 hb
include hk0 hk
omit ha0 ha in
theorem li6 : opI 9 a k = opI 3 a (opI 9 1 k) := by
  have := Wd.law_shl a.toNat k.toNat (by omega)
  rw [opI_eq, opI_eq, opI_toNat]; show ((Wd.opN 9 a.toNat k.toNat : Nat) : Int) = (Wd.opN 3 a.toNat (Wd.opN 9 1 k.toNat) : Nat); omega
omit ha0 ha in
theorem li7 : opI 10 a k = opI 4 a (opI 9 1 k) := by
  have := Wd.law_shr a.toNat k.toNat (by omega)
  rw [opI_eq, opI_eq, opI_toNat]; show ((Wd.opN 10 a.toNat k.toNat : Nat) : Int) = (Wd.opN 4 a.toNat (Wd.opN 9 1 k.toNat) : Nat); omega
omit ha0 ha in
theorem li8 : opI 9 a k = opI 9 a (k + 32) := by
  have := Wd.law_shl32 a.toNat k.toNat
  rw [opI_eq, opI_eq, show (k + 32).toNat = k.toNat + 32 by omega]; show ((Wd.opN 9 a.toNat k.toNat : Nat) : Int) = (Wd.opN 9 a.toNat (k.toNat + 32) : Nat); omega
theorem li9y (h : opI 13 a 2147483648 = 0) : opI 11 a k = opI 2 4294967295 (opI 10 (opI 2 4294967295 a) k) := by
  have h1 := Wd.law_sar a.toNat k.toNat (by omega) (by omega)
  have e1 : opI 13 a 2147483648 = (Wd.opN 13 a.toNat 2147483648 : Nat) := rfl
  rw [e1] at h
  have h2 : Wd.opN 13 a.toNat 2147483648 = 0 := by omega
  rw [if_pos h2] at h1
  rw [opI_eq, opI_eq, opI_toNat, opI_toNat]; exact congrArg Nat.cast h1
theorem li9n (h : ¬ opI 13 a 2147483648 = 0) : opI 11 a k = opI 10 a k := by
  have h1 := Wd.law_sar a.toNat k.toNat (by omega) (by omega)
  have e1 : opI 13 a 2147483648 = (Wd.opN 13 a.toNat 2147483648 : Nat) := rfl
  rw [e1] at h
  have h2 : ¬ Wd.opN 13 a.toNat 2147483648 = 0 := by omega
  rw [if_neg h2] at h1
  rw [opI_eq, opI_eq]; exact congrArg Nat.cast h1
omit hk0 hk
include hb0 hb
theorem li10y (h : opI 13 a 2147483648 = 0 ↔ opI 13 b 2147483648 = 0) : opI 12 a b = opI 13 a b := by
  have h1 := Wd.law_slt a.toNat b.toNat (by omega) (by omega)
  have h2 : (Wd.opN 13 a.toNat 2147483648 = 0 ↔ Wd.opN 13 b.toNat 2147483648 = 0) := by
    have e1 : opI 13 a 2147483648 = (Wd.opN 13 a.toNat 2147483648 : Nat) := rfl
    have e2 : opI 13 b 2147483648 = (Wd.opN 13 b.toNat 2147483648 : Nat) := rfl
    rw [e1, e2] at h; omega
  exact congrArg Nat.cast (h1.2 h2)
theorem li10n (h : ¬ (opI 13 a 2147483648 = 0 ↔ opI 13 b 2147483648 = 0)) : ¬ opI 12 a b = opI 13 a b := by
  have h1 := Wd.law_slt a.toNat b.toNat (by omega) (by omega)
  intro e
  apply h
  have e1 : opI 13 a 2147483648 = (Wd.opN 13 a.toNat 2147483648 : Nat) := rfl
  have e2 : opI 13 b 2147483648 = (Wd.opN 13 b.toNat 2147483648 : Nat) := rfl
  have e3 : opI 12 a b = (Wd.opN 12 a.toNat b.toNat : Nat) := rfl
  have e4 : opI 13 a b = (Wd.opN 13 a.toNat b.toNat : Nat) := rfl
  rw [e3, e4] at e
  rw [e1, e2]
  have := h1.1 (by omega)
  omega
omit ha0 ha hb0 hb in
theorem li11 : opI 13 a b + opI 13 b a + opI 14 a b = 1 := by
  have h1 := Wd.law_tri a.toNat b.toNat
  have e3 : opI 13 a b = (Wd.opN 13 a.toNat b.toNat : Nat) := rfl
  have e4 : opI 13 b a = (Wd.opN 13 b.toNat a.toNat : Nat) := rfl
  have e5 : opI 14 a b = (Wd.opN 14 a.toNat b.toNat : Nat) := rfl
  rw [e3, e4, e5]; omega
theorem li12 : opI 12 a b + opI 12 b a + opI 14 a b = 1 := by
  have h1 := Wd.law_stri a.toNat b.toNat (by omega) (by omega)
  have e3 : opI 12 a b = (Wd.opN 12 a.toNat b.toNat : Nat) := rfl
  have e4 : opI 12 b a = (Wd.opN 12 b.toNat a.toNat : Nat) := rfl
  have e5 : opI 14 a b = (Wd.opN 14 a.toNat b.toNat : Nat) := rfl
  rw [e3, e4, e5]; omega
end

theorem ne_false {x y : Int} (h : x = y) : (x != y) = false := by rw [h]; simp
theorem eq_true' {x y : Int} (h : x = y) : (x == y) = true := by rw [h]; simp
theorem eq_false' {x y : Int} (h : ¬ x = y) : (x == y) = false := by rw [beq_eq_false_iff_ne]; exact h

set_option maxHeartbeats 8000000 in
set_option maxRecDepth 100000 in
theorem laws_zhh (a b n k : Int) (ha0 : 0 ≤ a) (ha : a < 4294967296) (hb0 : 0 ≤ b) (hb' : b < 4294967296) (hn0 : 0 ≤ n) (hn : n < 256) (hk : n % 32 = k) (hk0 : 0 ≤ k) (hk1 : k < 32) (hz : b = 0) (hA : opI 13 a 2147483648 = 0) (hB : opI 13 b 2147483648 = 0) (w : World) :
    Calls Try.prog 5 #[.int .u32 a, .int .u32 b, .int .u8 n] w fun e w' => e = .returned (.bool true) ∧ Below w.heap.size w w' := by
  have hb := Below.refl w.heap.size w
  have HA := Lib.hid hA
  have HB := Lib.hid hB
  have HK := Lib.hid hk
  have t1 := ne_false (li1 a b ha0 ha hb0 hb')
  have t2 := ne_false (li2 a b ha0 ha hb0 hb')
  have t3 : decide (0 < b) = false := by rw [hz]; decide
  have t3' := t3
  clear hA hB hz hk
  go_enter Try.func5, Try.ntmps5
  go_wp2_with fail
  refine (law_op 1 a b (by decide) (by decide) (by omega) (by omega) (by omega) (by omega) _).mono ?_; rintro e v1 ⟨rfl, q⟩
  replace hb := hb.trans (q.mono hb.size); clear q
  go_wp2_with fail
  refine (law_op 2 (opI 1 a b) b (by decide) (by decide) (opI_lo _ _ _) (opI_hi _ _ _ (by omega) (by omega)) (by omega) (by omega) _).mono ?_; rintro e v2 ⟨rfl, q⟩
  replace hb := hb.trans (q.mono hb.size); clear q
  go_wp2_with fail
  refine (law_op 4 a b (by decide) (by decide) (by omega) (by omega) (by omega) (by omega) _).mono ?_; rintro e v3 ⟨rfl, q⟩
  replace hb := hb.trans (q.mono hb.size); clear q
  go_wp2_with fail
  refine (law_op 3 (opI 4 a b) b (by decide) (by decide) (opI_lo _ _ _) (opI_hi _ _ _ (by omega) (by omega)) (by omega) (by omega) _).mono ?_; rintro e v4 ⟨rfl, q⟩
  replace hb := hb.trans (q.mono hb.size); clear q
  go_wp2_with fail
  refine (law_op 5 a b (by decide) (by decide) (by omega) (by omega) (by omega) (by omega) _).mono ?_; rintro e v5 ⟨rfl, q⟩
  replace hb := hb.trans (q.mono hb.size); clear q
  go_wp2_with fail
  refine (law_op 1 (opI 3 (opI 4 a b) b) (opI 5 a b) (by decide) (by decide) (opI_lo _ _ _) (opI_hi _ _ _ (opI_hi _ _ _ (by omega) (by omega)) (by omega)) (opI_lo _ _ _) (opI_hi _ _ _ (by omega) (by omega)) _).mono ?_; rintro e v6 ⟨rfl, q⟩
  replace hb := hb.trans (q.mono hb.size); clear q
  have t4 := ne_false (li4 a b)
  have t5 := ne_false (li5 a b ha0 ha hb0 hb')
  go_wp2_with fail
  refine (law_op 8 a b (by decide) (by decide) (by omega) (by omega) (by omega) (by omega) _).mono ?_; rintro e v7 ⟨rfl, q⟩
  replace hb := hb.trans (q.mono hb.size); clear q
  clear t1 t2 t3 t3'
  go_wp2_with fail
  refine (law_op 6 a b (by decide) (by decide) (by omega) (by omega) (by omega) (by omega) _).mono ?_; rintro e v8 ⟨rfl, q⟩
  replace hb := hb.trans (q.mono hb.size); clear q
  go_wp2_with fail
  refine (law_op 3 2 (opI 6 a b) (by decide) (by decide) (by omega) (by omega) (opI_lo _ _ _) (opI_hi _ _ _ (by omega) (by omega)) _).mono ?_; rintro e v9 ⟨rfl, q⟩
  replace hb := hb.trans (q.mono hb.size); clear q
  go_wp2_with fail
  refine (law_op 1 (opI 8 a b) (opI 3 2 (opI 6 a b)) (by decide) (by decide) (opI_lo _ _ _) (opI_hi _ _ _ (by omega) (by omega)) (opI_lo _ _ _) (opI_hi _ _ _ (by omega) (opI_hi _ _ _ (by omega) (by omega))) _).mono ?_; rintro e v10 ⟨rfl, q⟩
  replace hb := hb.trans (q.mono hb.size); clear q
  go_wp2_with fail
  refine (law_op 1 a b (by decide) (by decide) (by omega) (by omega) (by omega) (by omega) _).mono ?_; rintro e v11 ⟨rfl, q⟩
  replace hb := hb.trans (q.mono hb.size); clear q
  go_wp2_with fail
  refine (law_op 7 a b (by decide) (by decide) (by omega) (by omega) (by omega) (by omega) _).mono ?_; rintro e v12 ⟨rfl, q⟩
  replace hb := hb.trans (q.mono hb.size); clear q
  go_wp2_with fail
  refine (law_op 6 a b (by decide) (by decide) (by omega) (by omega) (by omega) (by omega) _).mono ?_; rintro e v13 ⟨rfl, q⟩
  replace hb := hb.trans (q.mono hb.size); clear q
  go_wp2_with fail
  refine (law_op 2 (opI 7 a b) (opI 6 a b) (by decide) (by decide) (opI_lo _ _ _) (opI_hi _ _ _ (by omega) (by omega)) (opI_lo _ _ _) (opI_hi _ _ _ (by omega) (by omega)) _).mono ?_; rintro e v14 ⟨rfl, q⟩
  replace hb := hb.trans (q.mono hb.size); clear q
  go_wp2_with fail
  refine (law_op 8 a b (by decide) (by decide) (by omega) (by omega) (by omega) (by omega) _).mono ?_; rintro e v15 ⟨rfl, q⟩
  replace hb := hb.trans (q.mono hb.size); clear q
  go_wp2_with fail
  clear t4 t5
  try rw [show n % 32 % 4294967296 = n % 32 by omega]
  rw [HK.out]
  refine (law_op 9 1 k (by decide) (by decide) (by omega) (by omega) (by omega) (by omega) _).mono ?_; rintro e v16 ⟨rfl, q⟩
  replace hb := hb.trans (q.mono hb.size); clear q
  have t6 := ne_false (li6 a k hk0 hk1)
  have t7 := ne_false (li7 a k hk0 hk1)
  have t8 := ne_false (li8 a k hk0 hk1)
  go_wp2_with fail
  refine (law_op 9 a k (by decide) (by decide) (by omega) (by omega) (by omega) (by omega) _).mono ?_; rintro e v17 ⟨rfl, q⟩
  replace hb := hb.trans (q.mono hb.size); clear q
  go_wp2_with fail
  refine (law_op 3 a (opI 9 1 k) (by decide) (by decide) (by omega) (by omega) (opI_lo _ _ _) (opI_hi _ _ _ (by omega) (by omega)) _).mono ?_; rintro e v18 ⟨rfl, q⟩
  replace hb := hb.trans (q.mono hb.size); clear q
  go_wp2_with fail
  refine (law_op 10 a k (by decide) (by decide) (by omega) (by omega) (by omega) (by omega) _).mono ?_; rintro e v19 ⟨rfl, q⟩
  replace hb := hb.trans (q.mono hb.size); clear q
  go_wp2_with fail
  refine (law_op 4 a (opI 9 1 k) (by decide) (by decide) (by omega) (by omega) (opI_lo _ _ _) (opI_hi _ _ _ (by omega) (by omega)) _).mono ?_; rintro e v20 ⟨rfl, q⟩
  replace hb := hb.trans (q.mono hb.size); clear q
  go_wp2_with fail
  refine (law_op 9 a k (by decide) (by decide) (by omega) (by omega) (by omega) (by omega) _).mono ?_; rintro e v21 ⟨rfl, q⟩
  replace hb := hb.trans (q.mono hb.size); clear q
  go_wp2_with fail
  refine (law_op 9 a (k + 32) (by decide) (by decide) (by omega) (by omega) (by omega) (by omega) _).mono ?_; rintro e v22 ⟨rfl, q⟩
  replace hb := hb.trans (q.mono hb.size); clear q
  have t9 := eq_true' HA.out
  go_wp2_with fail
  refine (law_op 13 a 2147483648 (by decide) (by decide) (by omega) (by omega) (by omega) (by omega) _).mono ?_; rintro e v23 ⟨rfl, q⟩
  replace hb := hb.trans (q.mono hb.size); clear q
  clear t6 t7 t8
  go_wp2_with fail
  refine (law_op 10 a k (by decide) (by decide) (by omega) (by omega) (by omega) (by omega) _).mono ?_; rintro e v24 ⟨rfl, q⟩
  replace hb := hb.trans (q.mono hb.size); clear q
  go_wp2_with fail
  refine (law_op 2 4294967295 a (by decide) (by decide) (by omega) (by omega) (by omega) (by omega) _).mono ?_; rintro e v25 ⟨rfl, q⟩
  replace hb := hb.trans (q.mono hb.size); clear q
  go_wp2_with fail
  refine (law_op 10 (opI 2 4294967295 a) k (by decide) (by decide) (opI_lo _ _ _) (opI_hi _ _ _ (by omega) (by omega)) (by omega) (by omega) _).mono ?_; rintro e v26 ⟨rfl, q⟩
  replace hb := hb.trans (q.mono hb.size); clear q
  go_wp2_with fail
  refine (law_op 2 4294967295 (opI 10 (opI 2 4294967295 a) k) (by decide) (by decide) (by omega) (by omega) (opI_lo _ _ _) (opI_hi _ _ _ (opI_hi _ _ _ (by omega) (by omega)) (by omega)) _).mono ?_; rintro e v27 ⟨rfl, q⟩
  replace hb := hb.trans (q.mono hb.size); clear q
  have t10 := ne_false (li9y a k ha0 ha hk0 hk1 HA.out)
  go_wp2_with fail
  refine (law_op 11 a k (by decide) (by decide) (by omega) (by omega) (by omega) (by omega) _).mono ?_; rintro e v28 ⟨rfl, q⟩
  replace hb := hb.trans (q.mono hb.size); clear q
  have t11 := eq_true' HB.out
  go_wp2_with fail
  refine (law_op 13 b 2147483648 (by decide) (by decide) (by omega) (by omega) (by omega) (by omega) _).mono ?_; rintro e v29 ⟨rfl, q⟩
  replace hb := hb.trans (q.mono hb.size); clear q
  have t12 := ne_false (li10y a b ha0 ha hb0 hb' ⟨fun _ => HB.out, fun _ => HA.out⟩)
  go_wp2_with fail
  refine (law_op 12 a b (by decide) (by decide) (by omega) (by omega) (by omega) (by omega) _).mono ?_; rintro e v30 ⟨rfl, q⟩
  replace hb := hb.trans (q.mono hb.size); clear q
  clear t9 t10 t11
  go_wp2_with fail
  refine (law_op 13 a b (by decide) (by decide) (by omega) (by omega) (by omega) (by omega) _).mono ?_; rintro e v31 ⟨rfl, q⟩
  replace hb := hb.trans (q.mono hb.size); clear q
  have u1 := opI_lo 13 a b
  have u2 := opI_lo 13 b a
  have u3 := opI_lo 14 a b
  have u4 := opI_lo 12 a b
  have u5 := opI_lo 12 b a
  have U1 := li11 a b
  have U2 := li12 a b ha0 ha hb0 hb'
  have r1 : opI 13 a b ≤ 1 := by omega
  have r2 : opI 13 b a ≤ 1 := by omega
  have r3 : opI 14 a b ≤ 1 := by omega
  have r4 : opI 12 a b ≤ 1 := by omega
  have r5 : opI 12 b a ≤ 1 := by omega
  have t13 := eq_true' U1
  have t14 := eq_true' U2
  clear U1 U2
  go_wp2_with fail
  refine (law_op 13 a b (by decide) (by decide) (by omega) (by omega) (by omega) (by omega) _).mono ?_; rintro e v32 ⟨rfl, q⟩
  replace hb := hb.trans (q.mono hb.size); clear q
  clear t12
  go_wp2_with fail
  refine (law_op 13 b a (by decide) (by decide) (by omega) (by omega) (by omega) (by omega) _).mono ?_; rintro e v33 ⟨rfl, q⟩
  replace hb := hb.trans (q.mono hb.size); clear q
  go_wp2_with fail
  refine (law_op 14 a b (by decide) (by decide) (by omega) (by omega) (by omega) (by omega) _).mono ?_; rintro e v34 ⟨rfl, q⟩
  replace hb := hb.trans (q.mono hb.size); clear q
  go_wp2_with fail
  refine (law_op 12 a b (by decide) (by decide) (by omega) (by omega) (by omega) (by omega) _).mono ?_; rintro e v35 ⟨rfl, q⟩
  replace hb := hb.trans (q.mono hb.size); clear q
  go_wp2_with fail
  refine (law_op 12 b a (by decide) (by decide) (by omega) (by omega) (by omega) (by omega) _).mono ?_; rintro e v36 ⟨rfl, q⟩
  replace hb := hb.trans (q.mono hb.size); clear q
  go_wp2_with fail
  refine (law_op 14 a b (by decide) (by decide) (by omega) (by omega) (by omega) (by omega) _).mono ?_; rintro e v37 ⟨rfl, q⟩
  replace hb := hb.trans (q.mono hb.size); clear q
  go_wp2_with fail
  refine (alive_any _).mono ?_; rintro e vv ⟨rfl, q⟩
  replace hb := hb.trans (q.mono hb.size); clear q
  go_wp2
  go_ret
  exact ⟨rfl, hb⟩

set_option maxHeartbeats 8000000 in
set_option maxRecDepth 100000 in
theorem laws_zhl (a b n k : Int) (ha0 : 0 ≤ a) (ha : a < 4294967296) (hb0 : 0 ≤ b) (hb' : b < 4294967296) (hn0 : 0 ≤ n) (hn : n < 256) (hk : n % 32 = k) (hk0 : 0 ≤ k) (hk1 : k < 32) (hz : b = 0) (hA : opI 13 a 2147483648 = 0) (hB : ¬ opI 13 b 2147483648 = 0) (w : World) :
    Calls Try.prog 5 #[.int .u32 a, .int .u32 b, .int .u8 n] w fun e w' => e = .returned (.bool true) ∧ Below w.heap.size w w' := by
  have hb := Below.refl w.heap.size w
  have HA := Lib.hid hA
  have HB := Lib.hid hB
  have HK := Lib.hid hk
  have t1 := ne_false (li1 a b ha0 ha hb0 hb')
  have t2 := ne_false (li2 a b ha0 ha hb0 hb')
  have t3 : decide (0 < b) = false := by rw [hz]; decide
  have t3' := t3
  clear hA hB hz hk
  go_enter Try.func5, Try.ntmps5
  go_wp2_with fail
  refine (law_op 1 a b (by decide) (by decide) (by omega) (by omega) (by omega) (by omega) _).mono ?_; rintro e v1 ⟨rfl, q⟩
  replace hb := hb.trans (q.mono hb.size); clear q
  go_wp2_with fail
  refine (law_op 2 (opI 1 a b) b (by decide) (by decide) (opI_lo _ _ _) (opI_hi _ _ _ (by omega) (by omega)) (by omega) (by omega) _).mono ?_; rintro e v2 ⟨rfl, q⟩
  replace hb := hb.trans (q.mono hb.size); clear q
  go_wp2_with fail
  refine (law_op 4 a b (by decide) (by decide) (by omega) (by omega) (by omega) (by omega) _).mono ?_; rintro e v3 ⟨rfl, q⟩
  replace hb := hb.trans (q.mono hb.size); clear q
  go_wp2_with fail
  refine (law_op 3 (opI 4 a b) b (by decide) (by decide) (opI_lo _ _ _) (opI_hi _ _ _ (by omega) (by omega)) (by omega) (by omega) _).mono ?_; rintro e v4 ⟨rfl, q⟩
  replace hb := hb.trans (q.mono hb.size); clear q
  go_wp2_with fail
  refine (law_op 5 a b (by decide) (by decide) (by omega) (by omega) (by omega) (by omega) _).mono ?_; rintro e v5 ⟨rfl, q⟩
  replace hb := hb.trans (q.mono hb.size); clear q
  go_wp2_with fail
  refine (law_op 1 (opI 3 (opI 4 a b) b) (opI 5 a b) (by decide) (by decide) (opI_lo _ _ _) (opI_hi _ _ _ (opI_hi _ _ _ (by omega) (by omega)) (by omega)) (opI_lo _ _ _) (opI_hi _ _ _ (by omega) (by omega)) _).mono ?_; rintro e v6 ⟨rfl, q⟩
  replace hb := hb.trans (q.mono hb.size); clear q
  have t4 := ne_false (li4 a b)
  have t5 := ne_false (li5 a b ha0 ha hb0 hb')
  go_wp2_with fail
  refine (law_op 8 a b (by decide) (by decide) (by omega) (by omega) (by omega) (by omega) _).mono ?_; rintro e v7 ⟨rfl, q⟩
  replace hb := hb.trans (q.mono hb.size); clear q
  clear t1 t2 t3 t3'
  go_wp2_with fail
  refine (law_op 6 a b (by decide) (by decide) (by omega) (by omega) (by omega) (by omega) _).mono ?_; rintro e v8 ⟨rfl, q⟩
  replace hb := hb.trans (q.mono hb.size); clear q
  go_wp2_with fail
  refine (law_op 3 2 (opI 6 a b) (by decide) (by decide) (by omega) (by omega) (opI_lo _ _ _) (opI_hi _ _ _ (by omega) (by omega)) _).mono ?_; rintro e v9 ⟨rfl, q⟩
  replace hb := hb.trans (q.mono hb.size); clear q
  go_wp2_with fail
  refine (law_op 1 (opI 8 a b) (opI 3 2 (opI 6 a b)) (by decide) (by decide) (opI_lo _ _ _) (opI_hi _ _ _ (by omega) (by omega)) (opI_lo _ _ _) (opI_hi _ _ _ (by omega) (opI_hi _ _ _ (by omega) (by omega))) _).mono ?_; rintro e v10 ⟨rfl, q⟩
  replace hb := hb.trans (q.mono hb.size); clear q
  go_wp2_with fail
  refine (law_op 1 a b (by decide) (by decide) (by omega) (by omega) (by omega) (by omega) _).mono ?_; rintro e v11 ⟨rfl, q⟩
  replace hb := hb.trans (q.mono hb.size); clear q
  go_wp2_with fail
  refine (law_op 7 a b (by decide) (by decide) (by omega) (by omega) (by omega) (by omega) _).mono ?_; rintro e v12 ⟨rfl, q⟩
  replace hb := hb.trans (q.mono hb.size); clear q
  go_wp2_with fail
  refine (law_op 6 a b (by decide) (by decide) (by omega) (by omega) (by omega) (by omega) _).mono ?_; rintro e v13 ⟨rfl, q⟩
  replace hb := hb.trans (q.mono hb.size); clear q
  go_wp2_with fail
  refine (law_op 2 (opI 7 a b) (opI 6 a b) (by decide) (by decide) (opI_lo _ _ _) (opI_hi _ _ _ (by omega) (by omega)) (opI_lo _ _ _) (opI_hi _ _ _ (by omega) (by omega)) _).mono ?_; rintro e v14 ⟨rfl, q⟩
  replace hb := hb.trans (q.mono hb.size); clear q
  go_wp2_with fail
  refine (law_op 8 a b (by decide) (by decide) (by omega) (by omega) (by omega) (by omega) _).mono ?_; rintro e v15 ⟨rfl, q⟩
  replace hb := hb.trans (q.mono hb.size); clear q
  go_wp2_with fail
  clear t4 t5
  try rw [show n % 32 % 4294967296 = n % 32 by omega]
  rw [HK.out]
  refine (law_op 9 1 k (by decide) (by decide) (by omega) (by omega) (by omega) (by omega) _).mono ?_; rintro e v16 ⟨rfl, q⟩
  replace hb := hb.trans (q.mono hb.size); clear q
  have t6 := ne_false (li6 a k hk0 hk1)
  have t7 := ne_false (li7 a k hk0 hk1)
  have t8 := ne_false (li8 a k hk0 hk1)
  go_wp2_with fail
  refine (law_op 9 a k (by decide) (by decide) (by omega) (by omega) (by omega) (by omega) _).mono ?_; rintro e v17 ⟨rfl, q⟩
  replace hb := hb.trans (q.mono hb.size); clear q
  go_wp2_with fail
  refine (law_op 3 a (opI 9 1 k) (by decide) (by decide) (by omega) (by omega) (opI_lo _ _ _) (opI_hi _ _ _ (by omega) (by omega)) _).mono ?_; rintro e v18 ⟨rfl, q⟩
  replace hb := hb.trans (q.mono hb.size); clear q
  go_wp2_with fail
  refine (law_op 10 a k (by decide) (by decide) (by omega) (by omega) (by omega) (by omega) _).mono ?_; rintro e v19 ⟨rfl, q⟩
  replace hb := hb.trans (q.mono hb.size); clear q
  go_wp2_with fail
  refine (law_op 4 a (opI 9 1 k) (by decide) (by decide) (by omega) (by omega) (opI_lo _ _ _) (opI_hi _ _ _ (by omega) (by omega)) _).mono ?_; rintro e v20 ⟨rfl, q⟩
  replace hb := hb.trans (q.mono hb.size); clear q
  go_wp2_with fail
  refine (law_op 9 a k (by decide) (by decide) (by omega) (by omega) (by omega) (by omega) _).mono ?_; rintro e v21 ⟨rfl, q⟩
  replace hb := hb.trans (q.mono hb.size); clear q
  go_wp2_with fail
  refine (law_op 9 a (k + 32) (by decide) (by decide) (by omega) (by omega) (by omega) (by omega) _).mono ?_; rintro e v22 ⟨rfl, q⟩
  replace hb := hb.trans (q.mono hb.size); clear q
  have t9 := eq_true' HA.out
  go_wp2_with fail
  refine (law_op 13 a 2147483648 (by decide) (by decide) (by omega) (by omega) (by omega) (by omega) _).mono ?_; rintro e v23 ⟨rfl, q⟩
  replace hb := hb.trans (q.mono hb.size); clear q
  clear t6 t7 t8
  go_wp2_with fail
  refine (law_op 10 a k (by decide) (by decide) (by omega) (by omega) (by omega) (by omega) _).mono ?_; rintro e v24 ⟨rfl, q⟩
  replace hb := hb.trans (q.mono hb.size); clear q
  go_wp2_with fail
  refine (law_op 2 4294967295 a (by decide) (by decide) (by omega) (by omega) (by omega) (by omega) _).mono ?_; rintro e v25 ⟨rfl, q⟩
  replace hb := hb.trans (q.mono hb.size); clear q
  go_wp2_with fail
  refine (law_op 10 (opI 2 4294967295 a) k (by decide) (by decide) (opI_lo _ _ _) (opI_hi _ _ _ (by omega) (by omega)) (by omega) (by omega) _).mono ?_; rintro e v26 ⟨rfl, q⟩
  replace hb := hb.trans (q.mono hb.size); clear q
  go_wp2_with fail
  refine (law_op 2 4294967295 (opI 10 (opI 2 4294967295 a) k) (by decide) (by decide) (by omega) (by omega) (opI_lo _ _ _) (opI_hi _ _ _ (opI_hi _ _ _ (by omega) (by omega)) (by omega)) _).mono ?_; rintro e v27 ⟨rfl, q⟩
  replace hb := hb.trans (q.mono hb.size); clear q
  have t10 := ne_false (li9y a k ha0 ha hk0 hk1 HA.out)
  go_wp2_with fail
  refine (law_op 11 a k (by decide) (by decide) (by omega) (by omega) (by omega) (by omega) _).mono ?_; rintro e v28 ⟨rfl, q⟩
  replace hb := hb.trans (q.mono hb.size); clear q
  have t11 := eq_false' HB.out
  go_wp2_with fail
  refine (law_op 13 b 2147483648 (by decide) (by decide) (by omega) (by omega) (by omega) (by omega) _).mono ?_; rintro e v29 ⟨rfl, q⟩
  replace hb := hb.trans (q.mono hb.size); clear q
  have t12 := eq_false' (li10n a b ha0 ha hb0 hb' (fun h => HB.out (h.1 HA.out)))
  go_wp2_with fail
  refine (law_op 12 a b (by decide) (by decide) (by omega) (by omega) (by omega) (by omega) _).mono ?_; rintro e v30 ⟨rfl, q⟩
  replace hb := hb.trans (q.mono hb.size); clear q
  clear t9 t10 t11
  go_wp2_with fail
  refine (law_op 13 a b (by decide) (by decide) (by omega) (by omega) (by omega) (by omega) _).mono ?_; rintro e v31 ⟨rfl, q⟩
  replace hb := hb.trans (q.mono hb.size); clear q
  have u1 := opI_lo 13 a b
  have u2 := opI_lo 13 b a
  have u3 := opI_lo 14 a b
  have u4 := opI_lo 12 a b
  have u5 := opI_lo 12 b a
  have U1 := li11 a b
  have U2 := li12 a b ha0 ha hb0 hb'
  have r1 : opI 13 a b ≤ 1 := by omega
  have r2 : opI 13 b a ≤ 1 := by omega
  have r3 : opI 14 a b ≤ 1 := by omega
  have r4 : opI 12 a b ≤ 1 := by omega
  have r5 : opI 12 b a ≤ 1 := by omega
  have t13 := eq_true' U1
  have t14 := eq_true' U2
  clear U1 U2
  go_wp2_with fail
  refine (law_op 13 a b (by decide) (by decide) (by omega) (by omega) (by omega) (by omega) _).mono ?_; rintro e v32 ⟨rfl, q⟩
  replace hb := hb.trans (q.mono hb.size); clear q
  clear t12
  go_wp2_with fail
  refine (law_op 13 b a (by decide) (by decide) (by omega) (by omega) (by omega) (by omega) _).mono ?_; rintro e v33 ⟨rfl, q⟩
  replace hb := hb.trans (q.mono hb.size); clear q
  go_wp2_with fail
  refine (law_op 14 a b (by decide) (by decide) (by omega) (by omega) (by omega) (by omega) _).mono ?_; rintro e v34 ⟨rfl, q⟩
  replace hb := hb.trans (q.mono hb.size); clear q
  go_wp2_with fail
  refine (law_op 12 a b (by decide) (by decide) (by omega) (by omega) (by omega) (by omega) _).mono ?_; rintro e v35 ⟨rfl, q⟩
  replace hb := hb.trans (q.mono hb.size); clear q
  go_wp2_with fail
  refine (law_op 12 b a (by decide) (by decide) (by omega) (by omega) (by omega) (by omega) _).mono ?_; rintro e v36 ⟨rfl, q⟩
  replace hb := hb.trans (q.mono hb.size); clear q
  go_wp2_with fail
  refine (law_op 14 a b (by decide) (by decide) (by omega) (by omega) (by omega) (by omega) _).mono ?_; rintro e v37 ⟨rfl, q⟩
  replace hb := hb.trans (q.mono hb.size); clear q
  go_wp2_with fail
  refine (alive_any _).mono ?_; rintro e vv ⟨rfl, q⟩
  replace hb := hb.trans (q.mono hb.size); clear q
  go_wp2
  go_ret
  exact ⟨rfl, hb⟩

set_option maxHeartbeats 8000000 in
set_option maxRecDepth 100000 in
theorem laws_zlh (a b n k : Int) (ha0 : 0 ≤ a) (ha : a < 4294967296) (hb0 : 0 ≤ b) (hb' : b < 4294967296) (hn0 : 0 ≤ n) (hn : n < 256) (hk : n % 32 = k) (hk0 : 0 ≤ k) (hk1 : k < 32) (hz : b = 0) (hA : ¬ opI 13 a 2147483648 = 0) (hB : opI 13 b 2147483648 = 0) (w : World) :
    Calls Try.prog 5 #[.int .u32 a, .int .u32 b, .int .u8 n] w fun e w' => e = .returned (.bool true) ∧ Below w.heap.size w w' := by
  have hb := Below.refl w.heap.size w
  have HA := Lib.hid hA
  have HB := Lib.hid hB
  have HK := Lib.hid hk
  have t1 := ne_false (li1 a b ha0 ha hb0 hb')
  have t2 := ne_false (li2 a b ha0 ha hb0 hb')
  have t3 : decide (0 < b) = false := by rw [hz]; decide
  have t3' := t3
  clear hA hB hz hk
  go_enter Try.func5, Try.ntmps5
  go_wp2_with fail
  refine (law_op 1 a b (by decide) (by decide) (by omega) (by omega) (by omega) (by omega) _).mono ?_; rintro e v1 ⟨rfl, q⟩
  replace hb := hb.trans (q.mono hb.size); clear q
  go_wp2_with fail
  refine (law_op 2 (opI 1 a b) b (by decide) (by decide) (opI_lo _ _ _) (opI_hi _ _ _ (by omega) (by omega)) (by omega) (by omega) _).mono ?_; rintro e v2 ⟨rfl, q⟩
  replace hb := hb.trans (q.mono hb.size); clear q
  go_wp2_with fail
  refine (law_op 4 a b (by decide) (by decide) (by omega) (by omega) (by omega) (by omega) _).mono ?_; rintro e v3 ⟨rfl, q⟩
  replace hb := hb.trans (q.mono hb.size); clear q
  go_wp2_with fail
  refine (law_op 3 (opI 4 a b) b (by decide) (by decide) (opI_lo _ _ _) (opI_hi _ _ _ (by omega) (by omega)) (by omega) (by omega) _).mono ?_; rintro e v4 ⟨rfl, q⟩
  replace hb := hb.trans (q.mono hb.size); clear q
  go_wp2_with fail
  refine (law_op 5 a b (by decide) (by decide) (by omega) (by omega) (by omega) (by omega) _).mono ?_; rintro e v5 ⟨rfl, q⟩
  replace hb := hb.trans (q.mono hb.size); clear q
  go_wp2_with fail
  refine (law_op 1 (opI 3 (opI 4 a b) b) (opI 5 a b) (by decide) (by decide) (opI_lo _ _ _) (opI_hi _ _ _ (opI_hi _ _ _ (by omega) (by omega)) (by omega)) (opI_lo _ _ _) (opI_hi _ _ _ (by omega) (by omega)) _).mono ?_; rintro e v6 ⟨rfl, q⟩
  replace hb := hb.trans (q.mono hb.size); clear q
  have t4 := ne_false (li4 a b)
  have t5 := ne_false (li5 a b ha0 ha hb0 hb')
  go_wp2_with fail
  refine (law_op 8 a b (by decide) (by decide) (by omega) (by omega) (by omega) (by omega) _).mono ?_; rintro e v7 ⟨rfl, q⟩
  replace hb := hb.trans (q.mono hb.size); clear q
  clear t1 t2 t3 t3'
  go_wp2_with fail
  refine (law_op 6 a b (by decide) (by decide) (by omega) (by omega) (by omega) (by omega) _).mono ?_; rintro e v8 ⟨rfl, q⟩
  replace hb := hb.trans (q.mono hb.size); clear q
  go_wp2_with fail
  refine (law_op 3 2 (opI 6 a b) (by decide) (by decide) (by omega) (by omega) (opI_lo _ _ _) (opI_hi _ _ _ (by omega) (by omega)) _).mono ?_; rintro e v9 ⟨rfl, q⟩
  replace hb := hb.trans (q.mono hb.size); clear q
  go_wp2_with fail
  refine (law_op 1 (opI 8 a b) (opI 3 2 (opI 6 a b)) (by decide) (by decide) (opI_lo _ _ _) (opI_hi _ _ _ (by omega) (by omega)) (opI_lo _ _ _) (opI_hi _ _ _ (by omega) (opI_hi _ _ _ (by omega) (by omega))) _).mono ?_; rintro e v10 ⟨rfl, q⟩
  replace hb := hb.trans (q.mono hb.size); clear q
  go_wp2_with fail
  refine (law_op 1 a b (by decide) (by decide) (by omega) (by omega) (by omega) (by omega) _).mono ?_; rintro e v11 ⟨rfl, q⟩
  replace hb := hb.trans (q.mono hb.size); clear q
  go_wp2_with fail
  refine (law_op 7 a b (by decide) (by decide) (by omega) (by omega) (by omega) (by omega) _).mono ?_; rintro e v12 ⟨rfl, q⟩
  replace hb := hb.trans (q.mono hb.size); clear q
  go_wp2_with fail
  refine (law_op 6 a b (by decide) (by decide) (by omega) (by omega) (by omega) (by omega) _).mono ?_; rintro e v13 ⟨rfl, q⟩
  replace hb := hb.trans (q.mono hb.size); clear q
  go_wp2_with fail
  refine (law_op 2 (opI 7 a b) (opI 6 a b) (by decide) (by decide) (opI_lo _ _ _) (opI_hi _ _ _ (by omega) (by omega)) (opI_lo _ _ _) (opI_hi _ _ _ (by omega) (by omega)) _).mono ?_; rintro e v14 ⟨rfl, q⟩
  replace hb := hb.trans (q.mono hb.size); clear q
  go_wp2_with fail
  refine (law_op 8 a b (by decide) (by decide) (by omega) (by omega) (by omega) (by omega) _).mono ?_; rintro e v15 ⟨rfl, q⟩
  replace hb := hb.trans (q.mono hb.size); clear q
  go_wp2_with fail
  clear t4 t5
  try rw [show n % 32 % 4294967296 = n % 32 by omega]
  rw [HK.out]
  refine (law_op 9 1 k (by decide) (by decide) (by omega) (by omega) (by omega) (by omega) _).mono ?_; rintro e v16 ⟨rfl, q⟩
  replace hb := hb.trans (q.mono hb.size); clear q
  have t6 := ne_false (li6 a k hk0 hk1)
  have t7 := ne_false (li7 a k hk0 hk1)
  have t8 := ne_false (li8 a k hk0 hk1)
  go_wp2_with fail
  refine (law_op 9 a k (by decide) (by decide) (by omega) (by omega) (by omega) (by omega) _).mono ?_; rintro e v17 ⟨rfl, q⟩
  replace hb := hb.trans (q.mono hb.size); clear q
  go_wp2_with fail
  refine (law_op 3 a (opI 9 1 k) (by decide) (by decide) (by omega) (by omega) (opI_lo _ _ _) (opI_hi _ _ _ (by omega) (by omega)) _).mono ?_; rintro e v18 ⟨rfl, q⟩
  replace hb := hb.trans (q.mono hb.size); clear q
  go_wp2_with fail
  refine (law_op 10 a k (by decide) (by decide) (by omega) (by omega) (by omega) (by omega) _).mono ?_; rintro e v19 ⟨rfl, q⟩
  replace hb := hb.trans (q.mono hb.size); clear q
  go_wp2_with fail
  refine (law_op 4 a (opI 9 1 k) (by decide) (by decide) (by omega) (by omega) (opI_lo _ _ _) (opI_hi _ _ _ (by omega) (by omega)) _).mono ?_; rintro e v20 ⟨rfl, q⟩
  replace hb := hb.trans (q.mono hb.size); clear q
  go_wp2_with fail
  refine (law_op 9 a k (by decide) (by decide) (by omega) (by omega) (by omega) (by omega) _).mono ?_; rintro e v21 ⟨rfl, q⟩
  replace hb := hb.trans (q.mono hb.size); clear q
  go_wp2_with fail
  refine (law_op 9 a (k + 32) (by decide) (by decide) (by omega) (by omega) (by omega) (by omega) _).mono ?_; rintro e v22 ⟨rfl, q⟩
  replace hb := hb.trans (q.mono hb.size); clear q
  have t9 := eq_false' HA.out
  go_wp2_with fail
  refine (law_op 13 a 2147483648 (by decide) (by decide) (by omega) (by omega) (by omega) (by omega) _).mono ?_; rintro e v23 ⟨rfl, q⟩
  replace hb := hb.trans (q.mono hb.size); clear q
  clear t6 t7 t8
  go_wp2_with fail
  refine (law_op 10 a k (by decide) (by decide) (by omega) (by omega) (by omega) (by omega) _).mono ?_; rintro e v24 ⟨rfl, q⟩
  replace hb := hb.trans (q.mono hb.size); clear q
  have t10 := ne_false (li9n a k ha0 ha hk0 hk1 HA.out)
  go_wp2_with fail
  refine (law_op 11 a k (by decide) (by decide) (by omega) (by omega) (by omega) (by omega) _).mono ?_; rintro e v25 ⟨rfl, q⟩
  replace hb := hb.trans (q.mono hb.size); clear q
  have t11 := eq_true' HB.out
  go_wp2_with fail
  refine (law_op 13 b 2147483648 (by decide) (by decide) (by omega) (by omega) (by omega) (by omega) _).mono ?_; rintro e v26 ⟨rfl, q⟩
  replace hb := hb.trans (q.mono hb.size); clear q
  have t12 := eq_false' (li10n a b ha0 ha hb0 hb' (fun h => HA.out (h.2 HB.out)))
  go_wp2_with fail
  refine (law_op 12 a b (by decide) (by decide) (by omega) (by omega) (by omega) (by omega) _).mono ?_; rintro e v27 ⟨rfl, q⟩
  replace hb := hb.trans (q.mono hb.size); clear q
  clear t9 t10 t11
  go_wp2_with fail
  refine (law_op 13 a b (by decide) (by decide) (by omega) (by omega) (by omega) (by omega) _).mono ?_; rintro e v28 ⟨rfl, q⟩
  replace hb := hb.trans (q.mono hb.size); clear q
  have u1 := opI_lo 13 a b
  have u2 := opI_lo 13 b a
  have u3 := opI_lo 14 a b
  have u4 := opI_lo 12 a b
  have u5 := opI_lo 12 b a
  have U1 := li11 a b
  have U2 := li12 a b ha0 ha hb0 hb'
  have r1 : opI 13 a b ≤ 1 := by omega
  have r2 : opI 13 b a ≤ 1 := by omega
  have r3 : opI 14 a b ≤ 1 := by omega
  have r4 : opI 12 a b ≤ 1 := by omega
  have r5 : opI 12 b a ≤ 1 := by omega
  have t13 := eq_true' U1
  have t14 := eq_true' U2
  clear U1 U2
  go_wp2_with fail
  refine (law_op 13 a b (by decide) (by decide) (by omega) (by omega) (by omega) (by omega) _).mono ?_; rintro e v29 ⟨rfl, q⟩
  replace hb := hb.trans (q.mono hb.size); clear q
  clear t12
  go_wp2_with fail
  refine (law_op 13 b a (by decide) (by decide) (by omega) (by omega) (by omega) (by omega) _).mono ?_; rintro e v30 ⟨rfl, q⟩
  replace hb := hb.trans (q.mono hb.size); clear q
  go_wp2_with fail
  refine (law_op 14 a b (by decide) (by decide) (by omega) (by omega) (by omega) (by omega) _).mono ?_; rintro e v31 ⟨rfl, q⟩
  replace hb := hb.trans (q.mono hb.size); clear q
  go_wp2_with fail
  refine (law_op 12 a b (by decide) (by decide) (by omega) (by omega) (by omega) (by omega) _).mono ?_; rintro e v32 ⟨rfl, q⟩
  replace hb := hb.trans (q.mono hb.size); clear q
  go_wp2_with fail
  refine (law_op 12 b a (by decide) (by decide) (by omega) (by omega) (by omega) (by omega) _).mono ?_; rintro e v33 ⟨rfl, q⟩
  replace hb := hb.trans (q.mono hb.size); clear q
  go_wp2_with fail
  refine (law_op 14 a b (by decide) (by decide) (by omega) (by omega) (by omega) (by omega) _).mono ?_; rintro e v34 ⟨rfl, q⟩
  replace hb := hb.trans (q.mono hb.size); clear q
  go_wp2_with fail
  refine (alive_any _).mono ?_; rintro e vv ⟨rfl, q⟩
  replace hb := hb.trans (q.mono hb.size); clear q
  go_wp2
  go_ret
  exact ⟨rfl, hb⟩

set_option maxHeartbeats 8000000 in
set_option maxRecDepth 100000 in
theorem laws_zll (a b n k : Int) (ha0 : 0 ≤ a) (ha : a < 4294967296) (hb0 : 0 ≤ b) (hb' : b < 4294967296) (hn0 : 0 ≤ n) (hn : n < 256) (hk : n % 32 = k) (hk0 : 0 ≤ k) (hk1 : k < 32) (hz : b = 0) (hA : ¬ opI 13 a 2147483648 = 0) (hB : ¬ opI 13 b 2147483648 = 0) (w : World) :
    Calls Try.prog 5 #[.int .u32 a, .int .u32 b, .int .u8 n] w fun e w' => e = .returned (.bool true) ∧ Below w.heap.size w w' := by
  have hb := Below.refl w.heap.size w
  have HA := Lib.hid hA
  have HB := Lib.hid hB
  have HK := Lib.hid hk
  have t1 := ne_false (li1 a b ha0 ha hb0 hb')
  have t2 := ne_false (li2 a b ha0 ha hb0 hb')
  have t3 : decide (0 < b) = false := by rw [hz]; decide
  have t3' := t3
  clear hA hB hz hk
  go_enter Try.func5, Try.ntmps5
  go_wp2_with fail
  refine (law_op 1 a b (by decide) (by decide) (by omega) (by omega) (by omega) (by omega) _).mono ?_; rintro e v1 ⟨rfl, q⟩
  replace hb := hb.trans (q.mono hb.size); clear q
  go_wp2_with fail
  refine (law_op 2 (opI 1 a b) b (by decide) (by decide) (opI_lo _ _ _) (opI_hi _ _ _ (by omega) (by omega)) (by omega) (by omega) _).mono ?_; rintro e v2 ⟨rfl, q⟩
  replace hb := hb.trans (q.mono hb.size); clear q
  go_wp2_with fail
  refine (law_op 4 a b (by decide) (by decide) (by omega) (by omega) (by omega) (by omega) _).mono ?_; rintro e v3 ⟨rfl, q⟩
  replace hb := hb.trans (q.mono hb.size); clear q
  go_wp2_with fail
  refine (law_op 3 (opI 4 a b) b (by decide) (by decide) (opI_lo _ _ _) (opI_hi _ _ _ (by omega) (by omega)) (by omega) (by omega) _).mono ?_; rintro e v4 ⟨rfl, q⟩
  replace hb := hb.trans (q.mono hb.size); clear q
  go_wp2_with fail
  refine (law_op 5 a b (by decide) (by decide) (by omega) (by omega) (by omega) (by omega) _).mono ?_; rintro e v5 ⟨rfl, q⟩
  replace hb := hb.trans (q.mono hb.size); clear q
  go_wp2_with fail
  refine (law_op 1 (opI 3 (opI 4 a b) b) (opI 5 a b) (by decide) (by decide) (opI_lo _ _ _) (opI_hi _ _ _ (opI_hi _ _ _ (by omega) (by omega)) (by omega)) (opI_lo _ _ _) (opI_hi _ _ _ (by omega) (by omega)) _).mono ?_; rintro e v6 ⟨rfl, q⟩
  replace hb := hb.trans (q.mono hb.size); clear q
  have t4 := ne_false (li4 a b)
  have t5 := ne_false (li5 a b ha0 ha hb0 hb')
  go_wp2_with fail
  refine (law_op 8 a b (by decide) (by decide) (by omega) (by omega) (by omega) (by omega) _).mono ?_; rintro e v7 ⟨rfl, q⟩
  replace hb := hb.trans (q.mono hb.size); clear q
  clear t1 t2 t3 t3'
  go_wp2_with fail
  refine (law_op 6 a b (by decide) (by decide) (by omega) (by omega) (by omega) (by omega) _).mono ?_; rintro e v8 ⟨rfl, q⟩
  replace hb := hb.trans (q.mono hb.size); clear q
  go_wp2_with fail
  refine (law_op 3 2 (opI 6 a b) (by decide) (by decide) (by omega) (by omega) (opI_lo _ _ _) (opI_hi _ _ _ (by omega) (by omega)) _).mono ?_; rintro e v9 ⟨rfl, q⟩
  replace hb := hb.trans (q.mono hb.size); clear q
  go_wp2_with fail
  refine (law_op 1 (opI 8 a b) (opI 3 2 (opI 6 a b)) (by decide) (by decide) (opI_lo _ _ _) (opI_hi _ _ _ (by omega) (by omega)) (opI_lo _ _ _) (opI_hi _ _ _ (by omega) (opI_hi _ _ _ (by omega) (by omega))) _).mono ?_; rintro e v10 ⟨rfl, q⟩
  replace hb := hb.trans (q.mono hb.size); clear q
  go_wp2_with fail
  refine (law_op 1 a b (by decide) (by decide) (by omega) (by omega) (by omega) (by omega) _).mono ?_; rintro e v11 ⟨rfl, q⟩
  replace hb := hb.trans (q.mono hb.size); clear q
  go_wp2_with fail
  refine (law_op 7 a b (by decide) (by decide) (by omega) (by omega) (by omega) (by omega) _).mono ?_; rintro e v12 ⟨rfl, q⟩
  replace hb := hb.trans (q.mono hb.size); clear q
  go_wp2_with fail
  refine (law_op 6 a b (by decide) (by decide) (by omega) (by omega) (by omega) (by omega) _).mono ?_; rintro e v13 ⟨rfl, q⟩
  replace hb := hb.trans (q.mono hb.size); clear q
  go_wp2_with fail
  refine (law_op 2 (opI 7 a b) (opI 6 a b) (by decide) (by decide) (opI_lo _ _ _) (opI_hi _ _ _ (by omega) (by omega)) (opI_lo _ _ _) (opI_hi _ _ _ (by omega) (by omega)) _).mono ?_; rintro e v14 ⟨rfl, q⟩
  replace hb := hb.trans (q.mono hb.size); clear q
  go_wp2_with fail
  refine (law_op 8 a b (by decide) (by decide) (by omega) (by omega) (by omega) (by omega) _).mono ?_; rintro e v15 ⟨rfl, q⟩
  replace hb := hb.trans (q.mono hb.size); clear q
  go_wp2_with fail
  clear t4 t5
  try rw [show n % 32 % 4294967296 = n % 32 by omega]
  rw [HK.out]
  refine (law_op 9 1 k (by decide) (by decide) (by omega) (by omega) (by omega) (by omega) _).mono ?_; rintro e v16 ⟨rfl, q⟩
  replace hb := hb.trans (q.mono hb.size); clear q
  have t6 := ne_false (li6 a k hk0 hk1)
  have t7 := ne_false (li7 a k hk0 hk1)
  have t8 := ne_false (li8 a k hk0 hk1)
  go_wp2_with fail
  refine (law_op 9 a k (by decide) (by decide) (by omega) (by omega) (by omega) (by omega) _).mono ?_; rintro e v17 ⟨rfl, q⟩
  replace hb := hb.trans (q.mono hb.size); clear q
  go_wp2_with fail
  refine (law_op 3 a (opI 9 1 k) (by decide) (by decide) (by omega) (by omega) (opI_lo _ _ _) (opI_hi _ _ _ (by omega) (by omega)) _).mono ?_; rintro e v18 ⟨rfl, q⟩
  replace hb := hb.trans (q.mono hb.size); clear q
  go_wp2_with fail
  refine (law_op 10 a k (by decide) (by decide) (by omega) (by omega) (by omega) (by omega) _).mono ?_; rintro e v19 ⟨rfl, q⟩
  replace hb := hb.trans (q.mono hb.size); clear q
  go_wp2_with fail
  refine (law_op 4 a (opI 9 1 k) (by decide) (by decide) (by omega) (by omega) (opI_lo _ _ _) (opI_hi _ _ _ (by omega) (by omega)) _).mono ?_; rintro e v20 ⟨rfl, q⟩
  replace hb := hb.trans (q.mono hb.size); clear q
  go_wp2_with fail
  refine (law_op 9 a k (by decide) (by decide) (by omega) (by omega) (by omega) (by omega) _).mono ?_; rintro e v21 ⟨rfl, q⟩
  replace hb := hb.trans (q.mono hb.size); clear q
  go_wp2_with fail
  refine (law_op 9 a (k + 32) (by decide) (by decide) (by omega) (by omega) (by omega) (by omega) _).mono ?_; rintro e v22 ⟨rfl, q⟩
  replace hb := hb.trans (q.mono hb.size); clear q
  have t9 := eq_false' HA.out
  go_wp2_with fail
  refine (law_op 13 a 2147483648 (by decide) (by decide) (by omega) (by omega) (by omega) (by omega) _).mono ?_; rintro e v23 ⟨rfl, q⟩
  replace hb := hb.trans (q.mono hb.size); clear q
  clear t6 t7 t8
  go_wp2_with fail
  refine (law_op 10 a k (by decide) (by decide) (by omega) (by omega) (by omega) (by omega) _).mono ?_; rintro e v24 ⟨rfl, q⟩
  replace hb := hb.trans (q.mono hb.size); clear q
  have t10 := ne_false (li9n a k ha0 ha hk0 hk1 HA.out)
  go_wp2_with fail
  refine (law_op 11 a k (by decide) (by decide) (by omega) (by omega) (by omega) (by omega) _).mono ?_; rintro e v25 ⟨rfl, q⟩
  replace hb := hb.trans (q.mono hb.size); clear q
  have t11 := eq_false' HB.out
  go_wp2_with fail
  refine (law_op 13 b 2147483648 (by decide) (by decide) (by omega) (by omega) (by omega) (by omega) _).mono ?_; rintro e v26 ⟨rfl, q⟩
  replace hb := hb.trans (q.mono hb.size); clear q
  have t12 := ne_false (li10y a b ha0 ha hb0 hb' ⟨fun h => absurd h HA.out, fun h => absurd h HB.out⟩)
  go_wp2_with fail
  refine (law_op 12 a b (by decide) (by decide) (by omega) (by omega) (by omega) (by omega) _).mono ?_; rintro e v27 ⟨rfl, q⟩
  replace hb := hb.trans (q.mono hb.size); clear q
  clear t9 t10 t11
  go_wp2_with fail
  refine (law_op 13 a b (by decide) (by decide) (by omega) (by omega) (by omega) (by omega) _).mono ?_; rintro e v28 ⟨rfl, q⟩
  replace hb := hb.trans (q.mono hb.size); clear q
  have u1 := opI_lo 13 a b
  have u2 := opI_lo 13 b a
  have u3 := opI_lo 14 a b
  have u4 := opI_lo 12 a b
  have u5 := opI_lo 12 b a
  have U1 := li11 a b
  have U2 := li12 a b ha0 ha hb0 hb'
  have r1 : opI 13 a b ≤ 1 := by omega
  have r2 : opI 13 b a ≤ 1 := by omega
  have r3 : opI 14 a b ≤ 1 := by omega
  have r4 : opI 12 a b ≤ 1 := by omega
  have r5 : opI 12 b a ≤ 1 := by omega
  have t13 := eq_true' U1
  have t14 := eq_true' U2
  clear U1 U2
  go_wp2_with fail
  refine (law_op 13 a b (by decide) (by decide) (by omega) (by omega) (by omega) (by omega) _).mono ?_; rintro e v29 ⟨rfl, q⟩
  replace hb := hb.trans (q.mono hb.size); clear q
  clear t12
  go_wp2_with fail
  refine (law_op 13 b a (by decide) (by decide) (by omega) (by omega) (by omega) (by omega) _).mono ?_; rintro e v30 ⟨rfl, q⟩
  replace hb := hb.trans (q.mono hb.size); clear q
  go_wp2_with fail
  refine (law_op 14 a b (by decide) (by decide) (by omega) (by omega) (by omega) (by omega) _).mono ?_; rintro e v31 ⟨rfl, q⟩
  replace hb := hb.trans (q.mono hb.size); clear q
  go_wp2_with fail
  refine (law_op 12 a b (by decide) (by decide) (by omega) (by omega) (by omega) (by omega) _).mono ?_; rintro e v32 ⟨rfl, q⟩
  replace hb := hb.trans (q.mono hb.size); clear q
  go_wp2_with fail
  refine (law_op 12 b a (by decide) (by decide) (by omega) (by omega) (by omega) (by omega) _).mono ?_; rintro e v33 ⟨rfl, q⟩
  replace hb := hb.trans (q.mono hb.size); clear q
  go_wp2_with fail
  refine (law_op 14 a b (by decide) (by decide) (by omega) (by omega) (by omega) (by omega) _).mono ?_; rintro e v34 ⟨rfl, q⟩
  replace hb := hb.trans (q.mono hb.size); clear q
  go_wp2_with fail
  refine (alive_any _).mono ?_; rintro e vv ⟨rfl, q⟩
  replace hb := hb.trans (q.mono hb.size); clear q
  go_wp2
  go_ret
  exact ⟨rfl, hb⟩

set_option maxHeartbeats 8000000 in
set_option maxRecDepth 100000 in
theorem laws_phh (a b n k : Int) (ha0 : 0 ≤ a) (ha : a < 4294967296) (hb0 : 0 ≤ b) (hb' : b < 4294967296) (hn0 : 0 ≤ n) (hn : n < 256) (hk : n % 32 = k) (hk0 : 0 ≤ k) (hk1 : k < 32) (hz : 0 < b) (hA : opI 13 a 2147483648 = 0) (hB : opI 13 b 2147483648 = 0) (w : World) :
    Calls Try.prog 5 #[.int .u32 a, .int .u32 b, .int .u8 n] w fun e w' => e = .returned (.bool true) ∧ Below w.heap.size w w' := by
  have hb := Below.refl w.heap.size w
  have HA := Lib.hid hA
  have HB := Lib.hid hB
  have HK := Lib.hid hk
  have t1 := ne_false (li1 a b ha0 ha hb0 hb')
  have t2 := ne_false (li2 a b ha0 ha hb0 hb')
  have t3 : decide (0 < b) = true := by simpa using hz
  have t3' : decide (b ≤ opI 5 a b) = false := by have := li3 a b hb0 hb' hz; simp; omega
  clear hA hB hz hk
  go_enter Try.func5, Try.ntmps5
  go_wp2_with fail
  refine (law_op 1 a b (by decide) (by decide) (by omega) (by omega) (by omega) (by omega) _).mono ?_; rintro e v1 ⟨rfl, q⟩
  replace hb := hb.trans (q.mono hb.size); clear q
  go_wp2_with fail
  refine (law_op 2 (opI 1 a b) b (by decide) (by decide) (opI_lo _ _ _) (opI_hi _ _ _ (by omega) (by omega)) (by omega) (by omega) _).mono ?_; rintro e v2 ⟨rfl, q⟩
  replace hb := hb.trans (q.mono hb.size); clear q
  go_wp2_with fail
  refine (law_op 4 a b (by decide) (by decide) (by omega) (by omega) (by omega) (by omega) _).mono ?_; rintro e v3 ⟨rfl, q⟩
  replace hb := hb.trans (q.mono hb.size); clear q
  go_wp2_with fail
  refine (law_op 3 (opI 4 a b) b (by decide) (by decide) (opI_lo _ _ _) (opI_hi _ _ _ (by omega) (by omega)) (by omega) (by omega) _).mono ?_; rintro e v4 ⟨rfl, q⟩
  replace hb := hb.trans (q.mono hb.size); clear q
  go_wp2_with fail
  refine (law_op 5 a b (by decide) (by decide) (by omega) (by omega) (by omega) (by omega) _).mono ?_; rintro e v5 ⟨rfl, q⟩
  replace hb := hb.trans (q.mono hb.size); clear q
  go_wp2_with fail
  refine (law_op 1 (opI 3 (opI 4 a b) b) (opI 5 a b) (by decide) (by decide) (opI_lo _ _ _) (opI_hi _ _ _ (opI_hi _ _ _ (by omega) (by omega)) (by omega)) (opI_lo _ _ _) (opI_hi _ _ _ (by omega) (by omega)) _).mono ?_; rintro e v6 ⟨rfl, q⟩
  replace hb := hb.trans (q.mono hb.size); clear q
  go_wp2_with fail
  refine (law_op 5 a b (by decide) (by decide) (by omega) (by omega) (by omega) (by omega) _).mono ?_; rintro e v7 ⟨rfl, q⟩
  replace hb := hb.trans (q.mono hb.size); clear q
  have t4 := ne_false (li4 a b)
  have t5 := ne_false (li5 a b ha0 ha hb0 hb')
  go_wp2_with fail
  refine (law_op 8 a b (by decide) (by decide) (by omega) (by omega) (by omega) (by omega) _).mono ?_; rintro e v8 ⟨rfl, q⟩
  replace hb := hb.trans (q.mono hb.size); clear q
  clear t1 t2 t3 t3'
  go_wp2_with fail
  refine (law_op 6 a b (by decide) (by decide) (by omega) (by omega) (by omega) (by omega) _).mono ?_; rintro e v9 ⟨rfl, q⟩
  replace hb := hb.trans (q.mono hb.size); clear q
  go_wp2_with fail
  refine (law_op 3 2 (opI 6 a b) (by decide) (by decide) (by omega) (by omega) (opI_lo _ _ _) (opI_hi _ _ _ (by omega) (by omega)) _).mono ?_; rintro e v10 ⟨rfl, q⟩
  replace hb := hb.trans (q.mono hb.size); clear q
  go_wp2_with fail
  refine (law_op 1 (opI 8 a b) (opI 3 2 (opI 6 a b)) (by decide) (by decide) (opI_lo _ _ _) (opI_hi _ _ _ (by omega) (by omega)) (opI_lo _ _ _) (opI_hi _ _ _ (by omega) (opI_hi _ _ _ (by omega) (by omega))) _).mono ?_; rintro e v11 ⟨rfl, q⟩
  replace hb := hb.trans (q.mono hb.size); clear q
  go_wp2_with fail
  refine (law_op 1 a b (by decide) (by decide) (by omega) (by omega) (by omega) (by omega) _).mono ?_; rintro e v12 ⟨rfl, q⟩
  replace hb := hb.trans (q.mono hb.size); clear q
  go_wp2_with fail
  refine (law_op 7 a b (by decide) (by decide) (by omega) (by omega) (by omega) (by omega) _).mono ?_; rintro e v13 ⟨rfl, q⟩
  replace hb := hb.trans (q.mono hb.size); clear q
  go_wp2_with fail
  refine (law_op 6 a b (by decide) (by decide) (by omega) (by omega) (by omega) (by omega) _).mono ?_; rintro e v14 ⟨rfl, q⟩
  replace hb := hb.trans (q.mono hb.size); clear q
  go_wp2_with fail
  refine (law_op 2 (opI 7 a b) (opI 6 a b) (by decide) (by decide) (opI_lo _ _ _) (opI_hi _ _ _ (by omega) (by omega)) (opI_lo _ _ _) (opI_hi _ _ _ (by omega) (by omega)) _).mono ?_; rintro e v15 ⟨rfl, q⟩
  replace hb := hb.trans (q.mono hb.size); clear q
  go_wp2_with fail
  refine (law_op 8 a b (by decide) (by decide) (by omega) (by omega) (by omega) (by omega) _).mono ?_; rintro e v16 ⟨rfl, q⟩
  replace hb := hb.trans (q.mono hb.size); clear q
  go_wp2_with fail
  clear t4 t5
  try rw [show n % 32 % 4294967296 = n % 32 by omega]
  rw [HK.out]
  refine (law_op 9 1 k (by decide) (by decide) (by omega) (by omega) (by omega) (by omega) _).mono ?_; rintro e v17 ⟨rfl, q⟩
  replace hb := hb.trans (q.mono hb.size); clear q
  have t6 := ne_false (li6 a k hk0 hk1)
  have t7 := ne_false (li7 a k hk0 hk1)
  have t8 := ne_false (li8 a k hk0 hk1)
  go_wp2_with fail
  refine (law_op 9 a k (by decide) (by decide) (by omega) (by omega) (by omega) (by omega) _).mono ?_; rintro e v18 ⟨rfl, q⟩
  replace hb := hb.trans (q.mono hb.size); clear q
  go_wp2_with fail
  refine (law_op 3 a (opI 9 1 k) (by decide) (by decide) (by omega) (by omega) (opI_lo _ _ _) (opI_hi _ _ _ (by omega) (by omega)) _).mono ?_; rintro e v19 ⟨rfl, q⟩
  replace hb := hb.trans (q.mono hb.size); clear q
  go_wp2_with fail
  refine (law_op 10 a k (by decide) (by decide) (by omega) (by omega) (by omega) (by omega) _).mono ?_; rintro e v20 ⟨rfl, q⟩
  replace hb := hb.trans (q.mono hb.size); clear q
  go_wp2_with fail
  refine (law_op 4 a (opI 9 1 k) (by decide) (by decide) (by omega) (by omega) (opI_lo _ _ _) (opI_hi _ _ _ (by omega) (by omega)) _).mono ?_; rintro e v21 ⟨rfl, q⟩
  replace hb := hb.trans (q.mono hb.size); clear q
  go_wp2_with fail
  refine (law_op 9 a k (by decide) (by decide) (by omega) (by omega) (by omega) (by omega) _).mono ?_; rintro e v22 ⟨rfl, q⟩
  replace hb := hb.trans (q.mono hb.size); clear q
  go_wp2_with fail
  refine (law_op 9 a (k + 32) (by decide) (by decide) (by omega) (by omega) (by omega) (by omega) _).mono ?_; rintro e v23 ⟨rfl, q⟩
  replace hb := hb.trans (q.mono hb.size); clear q
  have t9 := eq_true' HA.out
  go_wp2_with fail
  refine (law_op 13 a 2147483648 (by decide) (by decide) (by omega) (by omega) (by omega) (by omega) _).mono ?_; rintro e v24 ⟨rfl, q⟩
  replace hb := hb.trans (q.mono hb.size); clear q
  clear t6 t7 t8
  go_wp2_with fail
  refine (law_op 10 a k (by decide) (by decide) (by omega) (by omega) (by omega) (by omega) _).mono ?_; rintro e v25 ⟨rfl, q⟩
  replace hb := hb.trans (q.mono hb.size); clear q
  go_wp2_with fail
  refine (law_op 2 4294967295 a (by decide) (by decide) (by omega) (by omega) (by omega) (by omega) _).mono ?_; rintro e v26 ⟨rfl, q⟩
  replace hb := hb.trans (q.mono hb.size); clear q
  go_wp2_with fail
  refine (law_op 10 (opI 2 4294967295 a) k (by decide) (by decide) (opI_lo _ _ _) (opI_hi _ _ _ (by omega) (by omega)) (by omega) (by omega) _).mono ?_; rintro e v27 ⟨rfl, q⟩
  replace hb := hb.trans (q.mono hb.size); clear q
  go_wp2_with fail
  refine (law_op 2 4294967295 (opI 10 (opI 2 4294967295 a) k) (by decide) (by decide) (by omega) (by omega) (opI_lo _ _ _) (opI_hi _ _ _ (opI_hi _ _ _ (by omega) (by omega)) (by omega)) _).mono ?_; rintro e v28 ⟨rfl, q⟩
  replace hb := hb.trans (q.mono hb.size); clear q
  have t10 := ne_false (li9y a k ha0 ha hk0 hk1 HA.out)
  go_wp2_with fail
  refine (law_op 11 a k (by decide) (by decide) (by omega) (by omega) (by omega) (by omega) _).mono ?_; rintro e v29 ⟨rfl, q⟩
  replace hb := hb.trans (q.mono hb.size); clear q
  have t11 := eq_true' HB.out
  go_wp2_with fail
  refine (law_op 13 b 2147483648 (by decide) (by decide) (by omega) (by omega) (by omega) (by omega) _).mono ?_; rintro e v30 ⟨rfl, q⟩
  replace hb := hb.trans (q.mono hb.size); clear q
  have t12 := ne_false (li10y a b ha0 ha hb0 hb' ⟨fun _ => HB.out, fun _ => HA.out⟩)
  go_wp2_with fail
  refine (law_op 12 a b (by decide) (by decide) (by omega) (by omega) (by omega) (by omega) _).mono ?_; rintro e v31 ⟨rfl, q⟩
  replace hb := hb.trans (q.mono hb.size); clear q
  clear t9 t10 t11
  go_wp2_with fail
  refine (law_op 13 a b (by decide) (by decide) (by omega) (by omega) (by omega) (by omega) _).mono ?_; rintro e v32 ⟨rfl, q⟩
  replace hb := hb.trans (q.mono hb.size); clear q
  have u1 := opI_lo 13 a b
  have u2 := opI_lo 13 b a
  have u3 := opI_lo 14 a b
  have u4 := opI_lo 12 a b
  have u5 := opI_lo 12 b a
  have U1 := li11 a b
  have U2 := li12 a b ha0 ha hb0 hb'
  have r1 : opI 13 a b ≤ 1 := by omega
  have r2 : opI 13 b a ≤ 1 := by omega
  have r3 : opI 14 a b ≤ 1 := by omega
  have r4 : opI 12 a b ≤ 1 := by omega
  have r5 : opI 12 b a ≤ 1 := by omega
  have t13 := eq_true' U1
  have t14 := eq_true' U2
  clear U1 U2
  go_wp2_with fail
  refine (law_op 13 a b (by decide) (by decide) (by omega) (by omega) (by omega) (by omega) _).mono ?_; rintro e v33 ⟨rfl, q⟩
  replace hb := hb.trans (q.mono hb.size); clear q
  clear t12
  go_wp2_with fail
  refine (law_op 13 b a (by decide) (by decide) (by omega) (by omega) (by omega) (by omega) _).mono ?_; rintro e v34 ⟨rfl, q⟩
  replace hb := hb.trans (q.mono hb.size); clear q
  go_wp2_with fail
  refine (law_op 14 a b (by decide) (by decide) (by omega) (by omega) (by omega) (by omega) _).mono ?_; rintro e v35 ⟨rfl, q⟩
  replace hb := hb.trans (q.mono hb.size); clear q
  go_wp2_with fail
  refine (law_op 12 a b (by decide) (by decide) (by omega) (by omega) (by omega) (by omega) _).mono ?_; rintro e v36 ⟨rfl, q⟩
  replace hb := hb.trans (q.mono hb.size); clear q
  go_wp2_with fail
  refine (law_op 12 b a (by decide) (by decide) (by omega) (by omega) (by omega) (by omega) _).mono ?_; rintro e v37 ⟨rfl, q⟩
  replace hb := hb.trans (q.mono hb.size); clear q
  go_wp2_with fail
  refine (law_op 14 a b (by decide) (by decide) (by omega) (by omega) (by omega) (by omega) _).mono ?_; rintro e v38 ⟨rfl, q⟩
  replace hb := hb.trans (q.mono hb.size); clear q
  go_wp2_with fail
  refine (alive_any _).mono ?_; rintro e vv ⟨rfl, q⟩
  replace hb := hb.trans (q.mono hb.size); clear q
  go_wp2
  go_ret
  exact ⟨rfl, hb⟩

set_option maxHeartbeats 8000000 in
set_option maxRecDepth 100000 in
theorem laws_phl (a b n k : Int) (ha0 : 0 ≤ a) (ha : a < 4294967296) (hb0 : 0 ≤ b) (hb' : b < 4294967296) (hn0 : 0 ≤ n) (hn : n < 256) (hk : n % 32 = k) (hk0 : 0 ≤ k) (hk1 : k < 32) (hz : 0 < b) (hA : opI 13 a 2147483648 = 0) (hB : ¬ opI 13 b 2147483648 = 0) (w : World) :
    Calls Try.prog 5 #[.int .u32 a, .int .u32 b, .int .u8 n] w fun e w' => e = .returned (.bool true) ∧ Below w.heap.size w w' := by
  have hb := Below.refl w.heap.size w
  have HA := Lib.hid hA
  have HB := Lib.hid hB
  have HK := Lib.hid hk
  have t1 := ne_false (li1 a b ha0 ha hb0 hb')
  have t2 := ne_false (li2 a b ha0 ha hb0 hb')
  have t3 : decide (0 < b) = true := by simpa using hz
  have t3' : decide (b ≤ opI 5 a b) = false := by have := li3 a b hb0 hb' hz; simp; omega
  clear hA hB hz hk
  go_enter Try.func5, Try.ntmps5
  go_wp2_with fail
  refine (law_op 1 a b (by decide) (by decide) (by omega) (by omega) (by omega) (by omega) _).mono ?_; rintro e v1 ⟨rfl, q⟩
  replace hb := hb.trans (q.mono hb.size); clear q
  go_wp2_with fail
  refine (law_op 2 (opI 1 a b) b (by decide) (by decide) (opI_lo _ _ _) (opI_hi _ _ _ (by omega) (by omega)) (by omega) (by omega) _).mono ?_; rintro e v2 ⟨rfl, q⟩
  replace hb := hb.trans (q.mono hb.size); clear q
  go_wp2_with fail
  refine (law_op 4 a b (by decide) (by decide) (by omega) (by omega) (by omega) (by omega) _).mono ?_; rintro e v3 ⟨rfl, q⟩
  replace hb := hb.trans (q.mono hb.size); clear q
  go_wp2_with fail
  refine (law_op 3 (opI 4 a b) b (by decide) (by decide) (opI_lo _ _ _) (opI_hi _ _ _ (by omega) (by omega)) (by omega) (by omega) _).mono ?_; rintro e v4 ⟨rfl, q⟩
  replace hb := hb.trans (q.mono hb.size); clear q
  go_wp2_with fail
  refine (law_op 5 a b (by decide) (by decide) (by omega) (by omega) (by omega) (by omega) _).mono ?_; rintro e v5 ⟨rfl, q⟩
  replace hb := hb.trans (q.mono hb.size); clear q
  go_wp2_with fail
  refine (law_op 1 (opI 3 (opI 4 a b) b) (opI 5 a b) (by decide) (by decide) (opI_lo _ _ _) (opI_hi _ _ _ (opI_hi _ _ _ (by omega) (by omega)) (by omega)) (opI_lo _ _ _) (opI_hi _ _ _ (by omega) (by omega)) _).mono ?_; rintro e v6 ⟨rfl, q⟩
  replace hb := hb.trans (q.mono hb.size); clear q
  go_wp2_with fail
  refine (law_op 5 a b (by decide) (by decide) (by omega) (by omega) (by omega) (by omega) _).mono ?_; rintro e v7 ⟨rfl, q⟩
  replace hb := hb.trans (q.mono hb.size); clear q
  have t4 := ne_false (li4 a b)
  have t5 := ne_false (li5 a b ha0 ha hb0 hb')
  go_wp2_with fail
  refine (law_op 8 a b (by decide) (by decide) (by omega) (by omega) (by omega) (by omega) _).mono ?_; rintro e v8 ⟨rfl, q⟩
  replace hb := hb.trans (q.mono hb.size); clear q
  clear t1 t2 t3 t3'
  go_wp2_with fail
  refine (law_op 6 a b (by decide) (by decide) (by omega) (by omega) (by omega) (by omega) _).mono ?_; rintro e v9 ⟨rfl, q⟩
  replace hb := hb.trans (q.mono hb.size); clear q
  go_wp2_with fail
  refine (law_op 3 2 (opI 6 a b) (by decide) (by decide) (by omega) (by omega) (opI_lo _ _ _) (opI_hi _ _ _ (by omega) (by omega)) _).mono ?_; rintro e v10 ⟨rfl, q⟩
  replace hb := hb.trans (q.mono hb.size); clear q
  go_wp2_with fail
  refine (law_op 1 (opI 8 a b) (opI 3 2 (opI 6 a b)) (by decide) (by decide) (opI_lo _ _ _) (opI_hi _ _ _ (by omega) (by omega)) (opI_lo _ _ _) (opI_hi _ _ _ (by omega) (opI_hi _ _ _ (by omega) (by omega))) _).mono ?_; rintro e v11 ⟨rfl, q⟩
  replace hb := hb.trans (q.mono hb.size); clear q
  go_wp2_with fail
  refine (law_op 1 a b (by decide) (by decide) (by omega) (by omega) (by omega) (by omega) _).mono ?_; rintro e v12 ⟨rfl, q⟩
  replace hb := hb.trans (q.mono hb.size); clear q
  go_wp2_with fail
  refine (law_op 7 a b (by decide) (by decide) (by omega) (by omega) (by omega) (by omega) _).mono ?_; rintro e v13 ⟨rfl, q⟩
  replace hb := hb.trans (q.mono hb.size); clear q
  go_wp2_with fail
  refine (law_op 6 a b (by decide) (by decide) (by omega) (by omega) (by omega) (by omega) _).mono ?_; rintro e v14 ⟨rfl, q⟩
  replace hb := hb.trans (q.mono hb.size); clear q
  go_wp2_with fail
  refine (law_op 2 (opI 7 a b) (opI 6 a b) (by decide) (by decide) (opI_lo _ _ _) (opI_hi _ _ _ (by omega) (by omega)) (opI_lo _ _ _) (opI_hi _ _ _ (by omega) (by omega)) _).mono ?_; rintro e v15 ⟨rfl, q⟩
  replace hb := hb.trans (q.mono hb.size); clear q
  go_wp2_with fail
  refine (law_op 8 a b (by decide) (by decide) (by omega) (by omega) (by omega) (by omega) _).mono ?_; rintro e v16 ⟨rfl, q⟩
  replace hb := hb.trans (q.mono hb.size); clear q
  go_wp2_with fail
  clear t4 t5
  try rw [show n % 32 % 4294967296 = n % 32 by omega]
  rw [HK.out]
  refine (law_op 9 1 k (by decide) (by decide) (by omega) (by omega) (by omega) (by omega) _).mono ?_; rintro e v17 ⟨rfl, q⟩
  replace hb := hb.trans (q.mono hb.size); clear q
  have t6 := ne_false (li6 a k hk0 hk1)
  have t7 := ne_false (li7 a k hk0 hk1)
  have t8 := ne_false (li8 a k hk0 hk1)
  go_wp2_with fail
  refine (law_op 9 a k (by decide) (by decide) (by omega) (by omega) (by omega) (by omega) _).mono ?_; rintro e v18 ⟨rfl, q⟩
  replace hb := hb.trans (q.mono hb.size); clear q
  go_wp2_with fail
  refine (law_op 3 a (opI 9 1 k) (by decide) (by decide) (by omega) (by omega) (opI_lo _ _ _) (opI_hi _ _ _ (by omega) (by omega)) _).mono ?_; rintro e v19 ⟨rfl, q⟩
  replace hb := hb.trans (q.mono hb.size); clear q
  go_wp2_with fail
  refine (law_op 10 a k (by decide) (by decide) (by omega) (by omega) (by omega) (by omega) _).mono ?_; rintro e v20 ⟨rfl, q⟩
  replace hb := hb.trans (q.mono hb.size); clear q
  go_wp2_with fail
  refine (law_op 4 a (opI 9 1 k) (by decide) (by decide) (by omega) (by omega) (opI_lo _ _ _) (opI_hi _ _ _ (by omega) (by omega)) _).mono ?_; rintro e v21 ⟨rfl, q⟩
  replace hb := hb.trans (q.mono hb.size); clear q
  go_wp2_with fail
  refine (law_op 9 a k (by decide) (by decide) (by omega) (by omega) (by omega) (by omega) _).mono ?_; rintro e v22 ⟨rfl, q⟩
  replace hb := hb.trans (q.mono hb.size); clear q
  go_wp2_with fail
  refine (law_op 9 a (k + 32) (by decide) (by decide) (by omega) (by omega) (by omega) (by omega) _).mono ?_; rintro e v23 ⟨rfl, q⟩
  replace hb := hb.trans (q.mono hb.size); clear q
  have t9 := eq_true' HA.out
  go_wp2_with fail
  refine (law_op 13 a 2147483648 (by decide) (by decide) (by omega) (by omega) (by omega) (by omega) _).mono ?_; rintro e v24 ⟨rfl, q⟩
  replace hb := hb.trans (q.mono hb.size); clear q
  clear t6 t7 t8
  go_wp2_with fail
  refine (law_op 10 a k (by decide) (by decide) (by omega) (by omega) (by omega) (by omega) _).mono ?_; rintro e v25 ⟨rfl, q⟩
  replace hb := hb.trans (q.mono hb.size); clear q
  go_wp2_with fail
  refine (law_op 2 4294967295 a (by decide) (by decide) (by omega) (by omega) (by omega) (by omega) _).mono ?_; rintro e v26 ⟨rfl, q⟩
  replace hb := hb.trans (q.mono hb.size); clear q
  go_wp2_with fail
  refine (law_op 10 (opI 2 4294967295 a) k (by decide) (by decide) (opI_lo _ _ _) (opI_hi _ _ _ (by omega) (by omega)) (by omega) (by omega) _).mono ?_; rintro e v27 ⟨rfl, q⟩
  replace hb := hb.trans (q.mono hb.size); clear q
  go_wp2_with fail
  refine (law_op 2 4294967295 (opI 10 (opI 2 4294967295 a) k) (by decide) (by decide) (by omega) (by omega) (opI_lo _ _ _) (opI_hi _ _ _ (opI_hi _ _ _ (by omega) (by omega)) (by omega)) _).mono ?_; rintro e v28 ⟨rfl, q⟩
  replace hb := hb.trans (q.mono hb.size); clear q
  have t10 := ne_false (li9y a k ha0 ha hk0 hk1 HA.out)
  go_wp2_with fail
  refine (law_op 11 a k (by decide) (by decide) (by omega) (by omega) (by omega) (by omega) _).mono ?_; rintro e v29 ⟨rfl, q⟩
  replace hb := hb.trans (q.mono hb.size); clear q
  have t11 := eq_false' HB.out
  go_wp2_with fail
  refine (law_op 13 b 2147483648 (by decide) (by decide) (by omega) (by omega) (by omega) (by omega) _).mono ?_; rintro e v30 ⟨rfl, q⟩
  replace hb := hb.trans (q.mono hb.size); clear q
  have t12 := eq_false' (li10n a b ha0 ha hb0 hb' (fun h => HB.out (h.1 HA.out)))
  go_wp2_with fail
  refine (law_op 12 a b (by decide) (by decide) (by omega) (by omega) (by omega) (by omega) _).mono ?_; rintro e v31 ⟨rfl, q⟩
  replace hb := hb.trans (q.mono hb.size); clear q
  clear t9 t10 t11
  go_wp2_with fail
  refine (law_op 13 a b (by decide) (by decide) (by omega) (by omega) (by omega) (by omega) _).mono ?_; rintro e v32 ⟨rfl, q⟩
  replace hb := hb.trans (q.mono hb.size); clear q
  have u1 := opI_lo 13 a b
  have u2 := opI_lo 13 b a
  have u3 := opI_lo 14 a b
  have u4 := opI_lo 12 a b
  have u5 := opI_lo 12 b a
  have U1 := li11 a b
  have U2 := li12 a b ha0 ha hb0 hb'
  have r1 : opI 13 a b ≤ 1 := by omega
  have r2 : opI 13 b a ≤ 1 := by omega
  have r3 : opI 14 a b ≤ 1 := by omega
  have r4 : opI 12 a b ≤ 1 := by omega
  have r5 : opI 12 b a ≤ 1 := by omega
  have t13 := eq_true' U1
  have t14 := eq_true' U2
  clear U1 U2
  go_wp2_with fail
  refine (law_op 13 a b (by decide) (by decide) (by omega) (by omega) (by omega) (by omega) _).mono ?_; rintro e v33 ⟨rfl, q⟩
  replace hb := hb.trans (q.mono hb.size); clear q
  clear t12
  go_wp2_with fail
  refine (law_op 13 b a (by decide) (by decide) (by omega) (by omega) (by omega) (by omega) _).mono ?_; rintro e v34 ⟨rfl, q⟩
  replace hb := hb.trans (q.mono hb.size); clear q
  go_wp2_with fail
  refine (law_op 14 a b (by decide) (by decide) (by omega) (by omega) (by omega) (by omega) _).mono ?_; rintro e v35 ⟨rfl, q⟩
  replace hb := hb.trans (q.mono hb.size); clear q
  go_wp2_with fail
  refine (law_op 12 a b (by decide) (by decide) (by omega) (by omega) (by omega) (by omega) _).mono ?_; rintro e v36 ⟨rfl, q⟩
  replace hb := hb.trans (q.mono hb.size); clear q
  go_wp2_with fail
  refine (law_op 12 b a (by decide) (by decide) (by omega) (by omega) (by omega) (by omega) _).mono ?_; rintro e v37 ⟨rfl, q⟩
  replace hb := hb.trans (q.mono hb.size); clear q
  go_wp2_with fail
  refine (law_op 14 a b (by decide) (by decide) (by omega) (by omega) (by omega) (by omega) _).mono ?_; rintro e v38 ⟨rfl, q⟩
  replace hb := hb.trans (q.mono hb.size); clear q
  go_wp2_with fail
  refine (alive_any _).mono ?_; rintro e vv ⟨rfl, q⟩
  replace hb := hb.trans (q.mono hb.size); clear q
  go_wp2
  go_ret
  exact ⟨rfl, hb⟩

set_option maxHeartbeats 8000000 in
set_option maxRecDepth 100000 in
theorem laws_plh (a b n k : Int) (ha0 : 0 ≤ a) (ha : a < 4294967296) (hb0 : 0 ≤ b) (hb' : b < 4294967296) (hn0 : 0 ≤ n) (hn : n < 256) (hk : n % 32 = k) (hk0 : 0 ≤ k) (hk1 : k < 32) (hz : 0 < b) (hA : ¬ opI 13 a 2147483648 = 0) (hB : opI 13 b 2147483648 = 0) (w : World) :
    Calls Try.prog 5 #[.int .u32 a, .int .u32 b, .int .u8 n] w fun e w' => e = .returned (.bool true) ∧ Below w.heap.size w w' := by
  have hb := Below.refl w.heap.size w
  have HA := Lib.hid hA
  have HB := Lib.hid hB
  have HK := Lib.hid hk
  have t1 := ne_false (li1 a b ha0 ha hb0 hb')
  have t2 := ne_false (li2 a b ha0 ha hb0 hb')
  have t3 : decide (0 < b) = true := by simpa using hz
  have t3' : decide (b ≤ opI 5 a b) = false := by have := li3 a b hb0 hb' hz; simp; omega
  clear hA hB hz hk
  go_enter Try.func5, Try.ntmps5
  go_wp2_with fail
  refine (law_op 1 a b (by decide) (by decide) (by omega) (by omega) (by omega) (by omega) _).mono ?_; rintro e v1 ⟨rfl, q⟩
  replace hb := hb.trans (q.mono hb.size); clear q
  go_wp2_with fail
  refine (law_op 2 (opI 1 a b) b (by decide) (by decide) (opI_lo _ _ _) (opI_hi _ _ _ (by omega) (by omega)) (by omega) (by omega) _).mono ?_; rintro e v2 ⟨rfl, q⟩
  replace hb := hb.trans (q.mono hb.size); clear q
  go_wp2_with fail
  refine (law_op 4 a b (by decide) (by decide) (by omega) (by omega) (by omega) (by omega) _).mono ?_; rintro e v3 ⟨rfl, q⟩
  replace hb := hb.trans (q.mono hb.size); clear q
  go_wp2_with fail
  refine (law_op 3 (opI 4 a b) b (by decide) (by decide) (opI_lo _ _ _) (opI_hi _ _ _ (by omega) (by omega)) (by omega) (by omega) _).mono ?_; rintro e v4 ⟨rfl, q⟩
  replace hb := hb.trans (q.mono hb.size); clear q
  go_wp2_with fail
  refine (law_op 5 a b (by decide) (by decide) (by omega) (by omega) (by omega) (by omega) _).mono ?_; rintro e v5 ⟨rfl, q⟩
  replace hb := hb.trans (q.mono hb.size); clear q
  go_wp2_with fail
  refine (law_op 1 (opI 3 (opI 4 a b) b) (opI 5 a b) (by decide) (by decide) (opI_lo _ _ _) (opI_hi _ _ _ (opI_hi _ _ _ (by omega) (by omega)) (by omega)) (opI_lo _ _ _) (opI_hi _ _ _ (by omega) (by omega)) _).mono ?_; rintro e v6 ⟨rfl, q⟩
  replace hb := hb.trans (q.mono hb.size); clear q
  go_wp2_with fail
  refine (law_op 5 a b (by decide) (by decide) (by omega) (by omega) (by omega) (by omega) _).mono ?_; rintro e v7 ⟨rfl, q⟩
  replace hb := hb.trans (q.mono hb.size); clear q
  have t4 := ne_false (li4 a b)
  have t5 := ne_false (li5 a b ha0 ha hb0 hb')
  go_wp2_with fail
  refine (law_op 8 a b (by decide) (by decide) (by omega) (by omega) (by omega) (by omega) _).mono ?_; rintro e v8 ⟨rfl, q⟩
  replace hb := hb.trans (q.mono hb.size); clear q
  clear t1 t2 t3 t3'
  go_wp2_with fail
  refine (law_op 6 a b (by decide) (by decide) (by omega) (by omega) (by omega) (by omega) _).mono ?_; rintro e v9 ⟨rfl, q⟩
  replace hb := hb.trans (q.mono hb.size); clear q
  go_wp2_with fail
  refine (law_op 3 2 (opI 6 a b) (by decide) (by decide) (by omega) (by omega) (opI_lo _ _ _) (opI_hi _ _ _ (by omega) (by omega)) _).mono ?_; rintro e v10 ⟨rfl, q⟩
  replace hb := hb.trans (q.mono hb.size); clear q
  go_wp2_with fail
  refine (law_op 1 (opI 8 a b) (opI 3 2 (opI 6 a b)) (by decide) (by decide) (opI_lo _ _ _) (opI_hi _ _ _ (by omega) (by omega)) (opI_lo _ _ _) (opI_hi _ _ _ (by omega) (opI_hi _ _ _ (by omega) (by omega))) _).mono ?_; rintro e v11 ⟨rfl, q⟩
  replace hb := hb.trans (q.mono hb.size); clear q
  go_wp2_with fail
  refine (law_op 1 a b (by decide) (by decide) (by omega) (by omega) (by omega) (by omega) _).mono ?_; rintro e v12 ⟨rfl, q⟩
  replace hb := hb.trans (q.mono hb.size); clear q
  go_wp2_with fail
  refine (law_op 7 a b (by decide) (by decide) (by omega) (by omega) (by omega) (by omega) _).mono ?_; rintro e v13 ⟨rfl, q⟩
  replace hb := hb.trans (q.mono hb.size); clear q
  go_wp2_with fail
  refine (law_op 6 a b (by decide) (by decide) (by omega) (by omega) (by omega) (by omega) _).mono ?_; rintro e v14 ⟨rfl, q⟩
  replace hb := hb.trans (q.mono hb.size); clear q
  go_wp2_with fail
  refine (law_op 2 (opI 7 a b) (opI 6 a b) (by decide) (by decide) (opI_lo _ _ _) (opI_hi _ _ _ (by omega) (by omega)) (opI_lo _ _ _) (opI_hi _ _ _ (by omega) (by omega)) _).mono ?_; rintro e v15 ⟨rfl, q⟩
  replace hb := hb.trans (q.mono hb.size); clear q
  go_wp2_with fail
  refine (law_op 8 a b (by decide) (by decide) (by omega) (by omega) (by omega) (by omega) _).mono ?_; rintro e v16 ⟨rfl, q⟩
  replace hb := hb.trans (q.mono hb.size); clear q
  go_wp2_with fail
  clear t4 t5
  try rw [show n % 32 % 4294967296 = n % 32 by omega]
  rw [HK.out]
  refine (law_op 9 1 k (by decide) (by decide) (by omega) (by omega) (by omega) (by omega) _).mono ?_; rintro e v17 ⟨rfl, q⟩
  replace hb := hb.trans (q.mono hb.size); clear q
  have t6 := ne_false (li6 a k hk0 hk1)
  have t7 := ne_false (li7 a k hk0 hk1)
  have t8 := ne_false (li8 a k hk0 hk1)
  go_wp2_with fail
  refine (law_op 9 a k (by decide) (by decide) (by omega) (by omega) (by omega) (by omega) _).mono ?_; rintro e v18 ⟨rfl, q⟩
  replace hb := hb.trans (q.mono hb.size); clear q
  go_wp2_with fail
  refine (law_op 3 a (opI 9 1 k) (by decide) (by decide) (by omega) (by omega) (opI_lo _ _ _) (opI_hi _ _ _ (by omega) (by omega)) _).mono ?_; rintro e v19 ⟨rfl, q⟩
  replace hb := hb.trans (q.mono hb.size); clear q
  go_wp2_with fail
  refine (law_op 10 a k (by decide) (by decide) (by omega) (by omega) (by omega) (by omega) _).mono ?_; rintro e v20 ⟨rfl, q⟩
  replace hb := hb.trans (q.mono hb.size); clear q
  go_wp2_with fail
  refine (law_op 4 a (opI 9 1 k) (by decide) (by decide) (by omega) (by omega) (opI_lo _ _ _) (opI_hi _ _ _ (by omega) (by omega)) _).mono ?_; rintro e v21 ⟨rfl, q⟩
  replace hb := hb.trans (q.mono hb.size); clear q
  go_wp2_with fail
  refine (law_op 9 a k (by decide) (by decide) (by omega) (by omega) (by omega) (by omega) _).mono ?_; rintro e v22 ⟨rfl, q⟩
  replace hb := hb.trans (q.mono hb.size); clear q
  go_wp2_with fail
  refine (law_op 9 a (k + 32) (by decide) (by decide) (by omega) (by omega) (by omega) (by omega) _).mono ?_; rintro e v23 ⟨rfl, q⟩
  replace hb := hb.trans (q.mono hb.size); clear q
  have t9 := eq_false' HA.out
  go_wp2_with fail
  refine (law_op 13 a 2147483648 (by decide) (by decide) (by omega) (by omega) (by omega) (by omega) _).mono ?_; rintro e v24 ⟨rfl, q⟩
  replace hb := hb.trans (q.mono hb.size); clear q
  clear t6 t7 t8
  go_wp2_with fail
  refine (law_op 10 a k (by decide) (by decide) (by omega) (by omega) (by omega) (by omega) _).mono ?_; rintro e v25 ⟨rfl, q⟩
  replace hb := hb.trans (q.mono hb.size); clear q
  have t10 := ne_false (li9n a k ha0 ha hk0 hk1 HA.out)
  go_wp2_with fail
  refine (law_op 11 a k (by decide) (by decide) (by omega) (by omega) (by omega) (by omega) _).mono ?_; rintro e v26 ⟨rfl, q⟩
  replace hb := hb.trans (q.mono hb.size); clear q
  have t11 := eq_true' HB.out
  go_wp2_with fail
  refine (law_op 13 b 2147483648 (by decide) (by decide) (by omega) (by omega) (by omega) (by omega) _).mono ?_; rintro e v27 ⟨rfl, q⟩
  replace hb := hb.trans (q.mono hb.size); clear q
  have t12 := eq_false' (li10n a b ha0 ha hb0 hb' (fun h => HA.out (h.2 HB.out)))
  go_wp2_with fail
  refine (law_op 12 a b (by decide) (by decide) (by omega) (by omega) (by omega) (by omega) _).mono ?_; rintro e v28 ⟨rfl, q⟩
  replace hb := hb.trans (q.mono hb.size); clear q
  clear t9 t10 t11
  go_wp2_with fail
  refine (law_op 13 a b (by decide) (by decide) (by omega) (by omega) (by omega) (by omega) _).mono ?_; rintro e v29 ⟨rfl, q⟩
  replace hb := hb.trans (q.mono hb.size); clear q
  have u1 := opI_lo 13 a b
  have u2 := opI_lo 13 b a
  have u3 := opI_lo 14 a b
  have u4 := opI_lo 12 a b
  have u5 := opI_lo 12 b a
  have U1 := li11 a b
  have U2 := li12 a b ha0 ha hb0 hb'
  have r1 : opI 13 a b ≤ 1 := by omega
  have r2 : opI 13 b a ≤ 1 := by omega
  have r3 : opI 14 a b ≤ 1 := by omega
  have r4 : opI 12 a b ≤ 1 := by omega
  have r5 : opI 12 b a ≤ 1 := by omega
  have t13 := eq_true' U1
  have t14 := eq_true' U2
  clear U1 U2
  go_wp2_with fail
  refine (law_op 13 a b (by decide) (by decide) (by omega) (by omega) (by omega) (by omega) _).mono ?_; rintro e v30 ⟨rfl, q⟩
  replace hb := hb.trans (q.mono hb.size); clear q
  clear t12
  go_wp2_with fail
  refine (law_op 13 b a (by decide) (by decide) (by omega) (by omega) (by omega) (by omega) _).mono ?_; rintro e v31 ⟨rfl, q⟩
  replace hb := hb.trans (q.mono hb.size); clear q
  go_wp2_with fail
  refine (law_op 14 a b (by decide) (by decide) (by omega) (by omega) (by omega) (by omega) _).mono ?_; rintro e v32 ⟨rfl, q⟩
  replace hb := hb.trans (q.mono hb.size); clear q
  go_wp2_with fail
  refine (law_op 12 a b (by decide) (by decide) (by omega) (by omega) (by omega) (by omega) _).mono ?_; rintro e v33 ⟨rfl, q⟩
  replace hb := hb.trans (q.mono hb.size); clear q
  go_wp2_with fail
  refine (law_op 12 b a (by decide) (by decide) (by omega) (by omega) (by omega) (by omega) _).mono ?_; rintro e v34 ⟨rfl, q⟩
  replace hb := hb.trans (q.mono hb.size); clear q
  go_wp2_with fail
  refine (law_op 14 a b (by decide) (by decide) (by omega) (by omega) (by omega) (by omega) _).mono ?_; rintro e v35 ⟨rfl, q⟩
  replace hb := hb.trans (q.mono hb.size); clear q
  go_wp2_with fail
  refine (alive_any _).mono ?_; rintro e vv ⟨rfl, q⟩
  replace hb := hb.trans (q.mono hb.size); clear q
  go_wp2
  go_ret
  exact ⟨rfl, hb⟩

set_option maxHeartbeats 8000000 in
set_option maxRecDepth 100000 in
theorem laws_pll (a b n k : Int) (ha0 : 0 ≤ a) (ha : a < 4294967296) (hb0 : 0 ≤ b) (hb' : b < 4294967296) (hn0 : 0 ≤ n) (hn : n < 256) (hk : n % 32 = k) (hk0 : 0 ≤ k) (hk1 : k < 32) (hz : 0 < b) (hA : ¬ opI 13 a 2147483648 = 0) (hB : ¬ opI 13 b 2147483648 = 0) (w : World) :
    Calls Try.prog 5 #[.int .u32 a, .int .u32 b, .int .u8 n] w fun e w' => e = .returned (.bool true) ∧ Below w.heap.size w w' := by
  have hb := Below.refl w.heap.size w
  have HA := Lib.hid hA
  have HB := Lib.hid hB
  have HK := Lib.hid hk
  have t1 := ne_false (li1 a b ha0 ha hb0 hb')
  have t2 := ne_false (li2 a b ha0 ha hb0 hb')
  have t3 : decide (0 < b) = true := by simpa using hz
  have t3' : decide (b ≤ opI 5 a b) = false := by have := li3 a b hb0 hb' hz; simp; omega
  clear hA hB hz hk
  go_enter Try.func5, Try.ntmps5
  go_wp2_with fail
  refine (law_op 1 a b (by decide) (by decide) (by omega) (by omega) (by omega) (by omega) _).mono ?_; rintro e v1 ⟨rfl, q⟩
  replace hb := hb.trans (q.mono hb.size); clear q
  go_wp2_with fail
  refine (law_op 2 (opI 1 a b) b (by decide) (by decide) (opI_lo _ _ _) (opI_hi _ _ _ (by omega) (by omega)) (by omega) (by omega) _).mono ?_; rintro e v2 ⟨rfl, q⟩
  replace hb := hb.trans (q.mono hb.size); clear q
  go_wp2_with fail
  refine (law_op 4 a b (by decide) (by decide) (by omega) (by omega) (by omega) (by omega) _).mono ?_; rintro e v3 ⟨rfl, q⟩
  replace hb := hb.trans (q.mono hb.size); clear q
  go_wp2_with fail
  refine (law_op 3 (opI 4 a b) b (by decide) (by decide) (opI_lo _ _ _) (opI_hi _ _ _ (by omega) (by omega)) (by omega) (by omega) _).mono ?_; rintro e v4 ⟨rfl, q⟩
  replace hb := hb.trans (q.mono hb.size); clear q
  go_wp2_with fail
  refine (law_op 5 a b (by decide) (by decide) (by omega) (by omega) (by omega) (by omega) _).mono ?_; rintro e v5 ⟨rfl, q⟩
  replace hb := hb.trans (q.mono hb.size); clear q
  go_wp2_with fail
  refine (law_op 1 (opI 3 (opI 4 a b) b) (opI 5 a b) (by decide) (by decide) (opI_lo _ _ _) (opI_hi _ _ _ (opI_hi _ _ _ (by omega) (by omega)) (by omega)) (opI_lo _ _ _) (opI_hi _ _ _ (by omega) (by omega)) _).mono ?_; rintro e v6 ⟨rfl, q⟩
  replace hb := hb.trans (q.mono hb.size); clear q
  go_wp2_with fail
  refine (law_op 5 a b (by decide) (by decide) (by omega) (by omega) (by omega) (by omega) _).mono ?_; rintro e v7 ⟨rfl, q⟩
  replace hb := hb.trans (q.mono hb.size); clear q
  have t4 := ne_false (li4 a b)
  have t5 := ne_false (li5 a b ha0 ha hb0 hb')
  go_wp2_with fail
  refine (law_op 8 a b (by decide) (by decide) (by omega) (by omega) (by omega) (by omega) _).mono ?_; rintro e v8 ⟨rfl, q⟩
  replace hb := hb.trans (q.mono hb.size); clear q
  clear t1 t2 t3 t3'
  go_wp2_with fail
  refine (law_op 6 a b (by decide) (by decide) (by omega) (by omega) (by omega) (by omega) _).mono ?_; rintro e v9 ⟨rfl, q⟩
  replace hb := hb.trans (q.mono hb.size); clear q
  go_wp2_with fail
  refine (law_op 3 2 (opI 6 a b) (by decide) (by decide) (by omega) (by omega) (opI_lo _ _ _) (opI_hi _ _ _ (by omega) (by omega)) _).mono ?_; rintro e v10 ⟨rfl, q⟩
  replace hb := hb.trans (q.mono hb.size); clear q
  go_wp2_with fail
  refine (law_op 1 (opI 8 a b) (opI 3 2 (opI 6 a b)) (by decide) (by decide) (opI_lo _ _ _) (opI_hi _ _ _ (by omega) (by omega)) (opI_lo _ _ _) (opI_hi _ _ _ (by omega) (opI_hi _ _ _ (by omega) (by omega))) _).mono ?_; rintro e v11 ⟨rfl, q⟩
  replace hb := hb.trans (q.mono hb.size); clear q
  go_wp2_with fail
  refine (law_op 1 a b (by decide) (by decide) (by omega) (by omega) (by omega) (by omega) _).mono ?_; rintro e v12 ⟨rfl, q⟩
  replace hb := hb.trans (q.mono hb.size); clear q
  go_wp2_with fail
  refine (law_op 7 a b (by decide) (by decide) (by omega) (by omega) (by omega) (by omega) _).mono ?_; rintro e v13 ⟨rfl, q⟩
  replace hb := hb.trans (q.mono hb.size); clear q
  go_wp2_with fail
  refine (law_op 6 a b (by decide) (by decide) (by omega) (by omega) (by omega) (by omega) _).mono ?_; rintro e v14 ⟨rfl, q⟩
  replace hb := hb.trans (q.mono hb.size); clear q
  go_wp2_with fail
  refine (law_op 2 (opI 7 a b) (opI 6 a b) (by decide) (by decide) (opI_lo _ _ _) (opI_hi _ _ _ (by omega) (by omega)) (opI_lo _ _ _) (opI_hi _ _ _ (by omega) (by omega)) _).mono ?_; rintro e v15 ⟨rfl, q⟩
  replace hb := hb.trans (q.mono hb.size); clear q
  go_wp2_with fail
  refine (law_op 8 a b (by decide) (by decide) (by omega) (by omega) (by omega) (by omega) _).mono ?_; rintro e v16 ⟨rfl, q⟩
  replace hb := hb.trans (q.mono hb.size); clear q
  go_wp2_with fail
  clear t4 t5
  try rw [show n % 32 % 4294967296 = n % 32 by omega]
  rw [HK.out]
  refine (law_op 9 1 k (by decide) (by decide) (by omega) (by omega) (by omega) (by omega) _).mono ?_; rintro e v17 ⟨rfl, q⟩
  replace hb := hb.trans (q.mono hb.size); clear q
  have t6 := ne_false (li6 a k hk0 hk1)
  have t7 := ne_false (li7 a k hk0 hk1)
  have t8 := ne_false (li8 a k hk0 hk1)
  go_wp2_with fail
  refine (law_op 9 a k (by decide) (by decide) (by omega) (by omega) (by omega) (by omega) _).mono ?_; rintro e v18 ⟨rfl, q⟩
  replace hb := hb.trans (q.mono hb.size); clear q
  go_wp2_with fail
  refine (law_op 3 a (opI 9 1 k) (by decide) (by decide) (by omega) (by omega) (opI_lo _ _ _) (opI_hi _ _ _ (by omega) (by omega)) _).mono ?_; rintro e v19 ⟨rfl, q⟩
  replace hb := hb.trans (q.mono hb.size); clear q
  go_wp2_with fail
  refine (law_op 10 a k (by decide) (by decide) (by omega) (by omega) (by omega) (by omega) _).mono ?_; rintro e v20 ⟨rfl, q⟩
  replace hb := hb.trans (q.mono hb.size); clear q
  go_wp2_with fail
  refine (law_op 4 a (opI 9 1 k) (by decide) (by decide) (by omega) (by omega) (opI_lo _ _ _) (opI_hi _ _ _ (by omega) (by omega)) _).mono ?_; rintro e v21 ⟨rfl, q⟩
  replace hb := hb.trans (q.mono hb.size); clear q
  go_wp2_with fail
  refine (law_op 9 a k (by decide) (by decide) (by omega) (by omega) (by omega) (by omega) _).mono ?_; rintro e v22 ⟨rfl, q⟩
  replace hb := hb.trans (q.mono hb.size); clear q
  go_wp2_with fail
  refine (law_op 9 a (k + 32) (by decide) (by decide) (by omega) (by omega) (by omega) (by omega) _).mono ?_; rintro e v23 ⟨rfl, q⟩
  replace hb := hb.trans (q.mono hb.size); clear q
  have t9 := eq_false' HA.out
  go_wp2_with fail
  refine (law_op 13 a 2147483648 (by decide) (by decide) (by omega) (by omega) (by omega) (by omega) _).mono ?_; rintro e v24 ⟨rfl, q⟩
  replace hb := hb.trans (q.mono hb.size); clear q
  clear t6 t7 t8
  go_wp2_with fail
  refine (law_op 10 a k (by decide) (by decide) (by omega) (by omega) (by omega) (by omega) _).mono ?_; rintro e v25 ⟨rfl, q⟩
  replace hb := hb.trans (q.mono hb.size); clear q
  have t10 := ne_false (li9n a k ha0 ha hk0 hk1 HA.out)
  go_wp2_with fail
  refine (law_op 11 a k (by decide) (by decide) (by omega) (by omega) (by omega) (by omega) _).mono ?_; rintro e v26 ⟨rfl, q⟩
  replace hb := hb.trans (q.mono hb.size); clear q
  have t11 := eq_false' HB.out
  go_wp2_with fail
  refine (law_op 13 b 2147483648 (by decide) (by decide) (by omega) (by omega) (by omega) (by omega) _).mono ?_; rintro e v27 ⟨rfl, q⟩
  replace hb := hb.trans (q.mono hb.size); clear q
  have t12 := ne_false (li10y a b ha0 ha hb0 hb' ⟨fun h => absurd h HA.out, fun h => absurd h HB.out⟩)
  go_wp2_with fail
  refine (law_op 12 a b (by decide) (by decide) (by omega) (by omega) (by omega) (by omega) _).mono ?_; rintro e v28 ⟨rfl, q⟩
  replace hb := hb.trans (q.mono hb.size); clear q
  clear t9 t10 t11
  go_wp2_with fail
  refine (law_op 13 a b (by decide) (by decide) (by omega) (by omega) (by omega) (by omega) _).mono ?_; rintro e v29 ⟨rfl, q⟩
  replace hb := hb.trans (q.mono hb.size); clear q
  have u1 := opI_lo 13 a b
  have u2 := opI_lo 13 b a
  have u3 := opI_lo 14 a b
  have u4 := opI_lo 12 a b
  have u5 := opI_lo 12 b a
  have U1 := li11 a b
  have U2 := li12 a b ha0 ha hb0 hb'
  have r1 : opI 13 a b ≤ 1 := by omega
  have r2 : opI 13 b a ≤ 1 := by omega
  have r3 : opI 14 a b ≤ 1 := by omega
  have r4 : opI 12 a b ≤ 1 := by omega
  have r5 : opI 12 b a ≤ 1 := by omega
  have t13 := eq_true' U1
  have t14 := eq_true' U2
  clear U1 U2
  go_wp2_with fail
  refine (law_op 13 a b (by decide) (by decide) (by omega) (by omega) (by omega) (by omega) _).mono ?_; rintro e v30 ⟨rfl, q⟩
  replace hb := hb.trans (q.mono hb.size); clear q
  clear t12
  go_wp2_with fail
  refine (law_op 13 b a (by decide) (by decide) (by omega) (by omega) (by omega) (by omega) _).mono ?_; rintro e v31 ⟨rfl, q⟩
  replace hb := hb.trans (q.mono hb.size); clear q
  go_wp2_with fail
  refine (law_op 14 a b (by decide) (by decide) (by omega) (by omega) (by omega) (by omega) _).mono ?_; rintro e v32 ⟨rfl, q⟩
  replace hb := hb.trans (q.mono hb.size); clear q
  go_wp2_with fail
  refine (law_op 12 a b (by decide) (by decide) (by omega) (by omega) (by omega) (by omega) _).mono ?_; rintro e v33 ⟨rfl, q⟩
  replace hb := hb.trans (q.mono hb.size); clear q
  go_wp2_with fail
  refine (law_op 12 b a (by decide) (by decide) (by omega) (by omega) (by omega) (by omega) _).mono ?_; rintro e v34 ⟨rfl, q⟩
  replace hb := hb.trans (q.mono hb.size); clear q
  go_wp2_with fail
  refine (law_op 14 a b (by decide) (by decide) (by omega) (by omega) (by omega) (by omega) _).mono ?_; rintro e v35 ⟨rfl, q⟩
  replace hb := hb.trans (q.mono hb.size); clear q
  go_wp2_with fail
  refine (alive_any _).mono ?_; rintro e vv ⟨rfl, q⟩
  replace hb := hb.trans (q.mono hb.size); clear q
  go_wp2
  go_ret
  exact ⟨rfl, hb⟩

theorem laws_walk (a0 a1 a2 : Int) (w0 : (Lit.int .u32 a0).wf = true) (w1 : (Lit.int .u32 a1).wf = true) (w2 : (Lit.int .u8 a2).wf = true) (w : World) :
    Calls Try.prog 5 #[.int .u32 a0, .int .u32 a1, .int .u8 a2] w fun e w' => e = .returned (.bool true) ∧ Below w.heap.size w w' := by
  have b0 := bounds_u32 w0
  have b1 := bounds_u32 w1
  have b2 := bounds_u8 w2
  by_cases hz : a1 = 0
  · by_cases hA : opI 13 a0 2147483648 = 0
    · by_cases hB : opI 13 a1 2147483648 = 0
      · exact laws_zhh a0 a1 a2 (a2 % 32) (by omega) (by omega) (by omega) (by omega) (by omega) (by omega) rfl (by omega) (by omega) hz hA hB w
      · exact laws_zhl a0 a1 a2 (a2 % 32) (by omega) (by omega) (by omega) (by omega) (by omega) (by omega) rfl (by omega) (by omega) hz hA hB w
    · by_cases hB : opI 13 a1 2147483648 = 0
      · exact laws_zlh a0 a1 a2 (a2 % 32) (by omega) (by omega) (by omega) (by omega) (by omega) (by omega) rfl (by omega) (by omega) hz hA hB w
      · exact laws_zll a0 a1 a2 (a2 % 32) (by omega) (by omega) (by omega) (by omega) (by omega) (by omega) rfl (by omega) (by omega) hz hA hB w
  · by_cases hA : opI 13 a0 2147483648 = 0
    · by_cases hB : opI 13 a1 2147483648 = 0
      · exact laws_phh a0 a1 a2 (a2 % 32) (by omega) (by omega) (by omega) (by omega) (by omega) (by omega) rfl (by omega) (by omega) (by omega) hA hB w
      · exact laws_phl a0 a1 a2 (a2 % 32) (by omega) (by omega) (by omega) (by omega) (by omega) (by omega) rfl (by omega) (by omega) (by omega) hA hB w
    · by_cases hB : opI 13 a1 2147483648 = 0
      · exact laws_plh a0 a1 a2 (a2 % 32) (by omega) (by omega) (by omega) (by omega) (by omega) (by omega) rfl (by omega) (by omega) (by omega) hA hB w
      · exact laws_pll a0 a1 a2 (a2 % 32) (by omega) (by omega) (by omega) (by omega) (by omega) (by omega) rfl (by omega) (by omega) (by omega) hA hB w

set_option maxRecDepth 100000 in
theorem laws_lifted (os : Os) (started : os.Started) (H : Type) (enc : TypeId × Value → H) :
    ReturnsInHanded {} Try.checked os 5 .any (Rows.wordLawsSpec.pre6 enc Try.prog Try.f5 Rows.wordLawsRow.domain false) (Rows.wordLawsSpec.post enc Try.prog Try.f5 false true false false) := by
  refine returnsInHanded_of_change (C := Try.checked) own started (by kernel_rfl) Try.func5
    (ChangeSpec.witness6 (enc := enc) (C := Try.checked) false ⟨#[], #[.int .u32 0, .int .u32 0, .int .u8 0], []⟩ 8 (by kernel_rfl) (by kernel_rfl) (by kernel_rfl) (by kernel_rfl)) ?_
  intro W base args ds gs before hval0 hW hcnd _
  have hval : ∀ (j : Nat) t v, Try.f5.params[j]? = some t → args[j]? = some v → Value.okWide Try.prog W .any base t v := hval0
  have hW' := hW
  obtain ⟨p, q, hA0, hV, rfl, hfz, hnd⟩ := hW
  have hA : DataW.TrodAll enc Try.prog W 0 (fun _ => true) true Try.f5.params.toList args.toList ds p := hA0
  rw [Try.params5] at hA hval
  obtain ⟨v0, vs0, d0, ds0, p0, q0, hargs, rfl, rfl, h0, r0⟩ := trodAll_cons hA
  obtain ⟨v1, vs1, d1, ds1, p1, q1, rfl, rfl, rfl, h1, r1⟩ := trodAll_cons r0
  obtain ⟨v2, vs2, d2, ds2, p2, q2, rfl, rfl, rfl, h2, r2⟩ := trodAll_cons r1
  obtain ⟨rfl, rfl, rfl⟩ := trodAll_nil r2
  obtain rfl : args = #[v0, v1, v2] := by cases args; simp_all
  obtain ⟨rfl, rfl⟩ := trodVars_none hV
  obtain ⟨a0, rfl, rfl, rfl, w0⟩ := open_int Try.underlying22 (hval 0 22 v0 rfl rfl) h0
  obtain ⟨a1, rfl, rfl, rfl, w1⟩ := open_int Try.underlying22 (hval 1 22 v1 rfl rfl) h1
  obtain ⟨a2, rfl, rfl, rfl, w2⟩ := open_int Try.underlying5 (hval 2 5 v2 rfl rfl) h2
  clear hA0 hval0
  simp only [List.append_nil] at hW'
  refine (laws_walk a0 a1 a2 w0 w1 w2 W).mono fun e W' ⟨he, hb⟩ => ?_
  subst he
  exact ⟨_, rfl, law_post hW' rfl rfl rfl Try.underlying4 (fun sp => (trodAll_cons_mk (shut_int Try.underlying22 w0) (trodAll_cons_mk (shut_int Try.underlying22 w1) (trodAll_cons_mk (shut_int Try.underlying5 w2) trodAll_mk0)))) hb⟩

theorem wordLaws_holds : Rows.WordLawsSaid :=
  OpenClaim.holds_of_wide 5 Try.f5 rfl rfl rfl rfl rfl rfl rfl ⟨rfl, rfl, rfl, rfl, rfl⟩ rfl rfl rfl rfl rfl (by kernel_rfl) Try.func5 (by kernel_rfl)
    (of_decide_eq_true (by kernel_rfl)) (by unfold Func.isWrapper; first | (rw [if_pos (by decide +kernel)]; kernel_rfl) | (rw [if_neg (by decide +kernel)]; exact ⟨rfl, rfl⟩))
    (fun os started H enc _ => laws_lifted os started H enc)

#print axioms wordLaws_holds

end Go.Proofs.Ythagofalneadjaa
