/- What package word's Op does: for each of its fourteen operations, and for numbers that are none. -/
import Derived.Test.YthagofalneadjaaProg
import Derived.Test.YthagofalneadjaaM
import Derived.WalkKit
import Derived.WalkSpells
import Derived.WalkLawsBesides
import Derived.Lib.Hide
import Derived.Laws.Shifts
import Derived.Laws.EntriesVeiled
import Derived.Laws.BitsAllLaws
set_option linter.unusedVariables false
namespace Go.Proofs.Ythagofalneadjaa
open Go.RowKit

def opI (fn x y : Int) : Int := (Wd.opN fn.toNat x.toNat y.toNat : Nat)

theorem opI_lo (fn x y : Int) : 0 ≤ opI fn x y := by unfold opI; omega
theorem opI_hi (fn x y : Int) (hx : x < 4294967296) (hy : y < 4294967296) : opI fn x y < 4294967296 := by
  have := Wd.opN_lt fn.toNat x.toNat y.toNat (by omega) (by omega)
  unfold opI; omega

theorem ret_u32 {a b : Int} (h : a = b) : Ending.returned (.int .u32 a) = .returned (.int .u32 b) := by rw [h]
theorem opI_nat (fn a b : Nat) : opI fn a b = (Wd.opN fn a b : Nat) := by simp [opI]
theorem toNat_mod32 (b : Nat) : ((b : Int) % 32).toNat = b % 32 := by omega

theorem e1 (a b : Nat) : ((a : Int) + b) % 4294967296 = opI 1 a b := by
  rw [show (1 : Int) = ((1 : Nat) : Int) from rfl, opI_nat]; simp [Wd.opN]
theorem e2 (a b : Nat) (hb : b < 4294967296) : ((a : Int) - b) % 4294967296 = opI 2 a b := by
  rw [show (2 : Int) = ((2 : Nat) : Int) from rfl, opI_nat]; simp only [Wd.opN]; simp; omega
theorem e3 (a b : Nat) : ((a : Int) * b) % 4294967296 = opI 3 a b := by
  rw [show (3 : Int) = ((3 : Nat) : Int) from rfl, opI_nat]; simp [Wd.opN]
theorem e4 (a b : Nat) (ha : a < 4294967296) (h : ¬ b = 0) : ((a : Int) / b) % 4294967296 = opI 4 a b := by
  have h1 := Nat.div_le_self a b
  rw [show (4 : Int) = ((4 : Nat) : Int) from rfl, opI_nat, show ((a : Int) / (b : Int)) = ((a / b : Nat) : Int) from (Int.natCast_ediv a b).symm, show Wd.opN 4 a b = a / b by simp [Wd.opN, h]]
  generalize a / b = z at *
  omega
theorem e5 (a b : Nat) (h : ¬ b = 0) : ((a : Int) % b) = opI 5 a b := by
  rw [show (5 : Int) = ((5 : Nat) : Int) from rfl, opI_nat]; simp [Wd.opN, h]
theorem e6 (a b : Nat) (ha : a < 4294967296) (hb : b < 4294967296) : bits .and .u32 (a : Int) (b : Int) = opI 6 a b := by
  rw [u32_and_nat a b ha hb, show (6 : Int) = ((6 : Nat) : Int) from rfl, opI_nat]; simp [Wd.opN]
theorem e7 (a b : Nat) (ha : a < 4294967296) (hb : b < 4294967296) : bits .or .u32 (a : Int) (b : Int) = opI 7 a b := by
  rw [u32_or_nat a b ha hb, show (7 : Int) = ((7 : Nat) : Int) from rfl, opI_nat]; simp [Wd.opN]
theorem e8 (a b : Nat) (ha : a < 4294967296) (hb : b < 4294967296) : bits .xor .u32 (a : Int) (b : Int) = opI 8 a b := by
  rw [u32_xor_nat a b ha hb, show (8 : Int) = ((8 : Nat) : Int) from rfl, opI_nat]; simp [Wd.opN]
theorem e9 (a b : Nat) : (a : Int) * 2 ^ ((b : Int) % 32).toNat % 4294967296 = opI 9 a b := by
  rw [toNat_mod32, show (9 : Int) = ((9 : Nat) : Int) from rfl, opI_nat]; simp [Wd.opN]
theorem e10 (a b : Nat) : (a : Int) / 2 ^ ((b : Int) % 32).toNat = opI 10 a b := by
  rw [toNat_mod32, show (10 : Int) = ((10 : Nat) : Int) from rfl, opI_nat]; simp [Wd.opN]
theorem wrap32_nat (a : Nat) (ha : a < 4294967296) : wrap32 (a : Int) = if a < 2147483648 then (a : Int) else (a : Int) - 4294967296 := by
  unfold wrap32; split <;> omega
theorem e11 (a b : Nat) (ha : a < 4294967296) : wrap32 (a : Int) / 2 ^ ((b : Int) % 32).toNat % 4294967296 = opI 11 a b := by
  rw [toNat_mod32, show (11 : Int) = ((11 : Nat) : Int) from rfl, opI_nat, wrap32_nat a ha]
  have h0 : Wd.opN 11 a b = Wd.sar a (b % 32) := by simp [Wd.opN]
  rw [h0]
  generalize b % 32 = k
  have hp : ((2 : Int) ^ k) = ((2 ^ k : Nat) : Int) := by simp
  rw [hp]
  have h1 := Nat.div_le_self a (2 ^ k)
  have h2 := Nat.div_le_self (4294967295 - a) (2 ^ k)
  have hpos : 0 < 2 ^ k := Nat.two_pow_pos k
  unfold Wd.sar
  by_cases h : a < 2147483648
  · rw [if_pos h, if_pos h, ← Int.natCast_ediv]
    generalize a / 2 ^ k = z at *
    omega
  · rw [if_neg h, if_neg h]
    have h3 : ((a : Int) - 4294967296) = Int.negSucc (4294967295 - a) := by rw [Int.negSucc_eq]; omega
    rw [h3, Int.negSucc_ediv _ (by exact_mod_cast hpos), show (((4294967295 - a : Nat) : Int).ediv ((2 ^ k : Nat) : Int)) = (((4294967295 - a) / 2 ^ k : Nat) : Int) from rfl]
    generalize (4294967295 - a) / 2 ^ k = z at *
    omega
theorem e12y (a b : Nat) (ha : a < 4294967296) (hb : b < 4294967296) (h : wrap32 (a : Int) < wrap32 (b : Int)) : (1 : Int) = opI 12 a b := by
  rw [show (12 : Int) = ((12 : Nat) : Int) from rfl, opI_nat]
  rw [wrap32_nat a ha, wrap32_nat b hb] at h
  simp only [Wd.opN]; simp
  rw [Wd.up_eq a ha, Wd.up_eq b hb]
  repeat' split at h
  all_goals (repeat' split) <;> omega
theorem e12n (a b : Nat) (ha : a < 4294967296) (hb : b < 4294967296) (h : ¬ wrap32 (a : Int) < wrap32 (b : Int)) : (0 : Int) = opI 12 a b := by
  rw [show (12 : Int) = ((12 : Nat) : Int) from rfl, opI_nat]
  rw [wrap32_nat a ha, wrap32_nat b hb] at h
  simp only [Wd.opN]; simp
  rw [Wd.up_eq a ha, Wd.up_eq b hb]
  repeat' split at h
  all_goals (repeat' split) <;> omega
theorem e13y (a b : Nat) (h : a < b) : (1 : Int) = opI 13 a b := by
  rw [show (13 : Int) = ((13 : Nat) : Int) from rfl, opI_nat]; simp [Wd.opN, h]
theorem e13n (a b : Nat) (h : ¬ a < b) : (0 : Int) = opI 13 a b := by
  rw [show (13 : Int) = ((13 : Nat) : Int) from rfl, opI_nat]; simp [Wd.opN, h]
theorem e14y (a b : Nat) (h : a = b) : (1 : Int) = opI 14 a b := by
  rw [show (14 : Int) = ((14 : Nat) : Int) from rfl, opI_nat]; simp [Wd.opN, h]
theorem e14n (a b : Nat) (h : ¬ a = b) : (0 : Int) = opI 14 a b := by
  rw [show (14 : Int) = ((14 : Nat) : Int) from rfl, opI_nat]; simp [Wd.opN, h]
theorem e4z (a b : Nat) (h : b = 0) : (4294967295 : Int) = opI 4 a b := by
  rw [show (4 : Int) = ((4 : Nat) : Int) from rfl, opI_nat]; simp [Wd.opN, h]
theorem e5z (a b : Nat) (h : b = 0) : (a : Int) = opI 5 a b := by
  rw [show (5 : Int) = ((5 : Nat) : Int) from rfl, opI_nat]; simp [Wd.opN, h]

set_option maxHeartbeats 1000000 in
theorem leaf1 (a b : Nat) (ha : a < 4294967296) (hb : b < 4294967296) (w : World) :
    Calls Try.prog 36 #[.int .u32 a, .int .u32 b] w fun e w' => e = .returned (.int .u32 (opI 1 a b)) ∧ w = w' := by
  have HE := Lib.hid (e1 a b)
  clear ha hb
  go_enter Try.func36, Try.ntmps36
  go_wp2
  go_ret
  exact ⟨ret_u32 HE.out, rfl⟩
set_option maxHeartbeats 1000000 in
theorem leaf2 (a b : Nat) (ha : a < 4294967296) (hb : b < 4294967296) (w : World) :
    Calls Try.prog 37 #[.int .u32 a, .int .u32 b] w fun e w' => e = .returned (.int .u32 (opI 2 a b)) ∧ w = w' := by
  have HE := Lib.hid (e2 a b hb)
  clear ha hb
  go_enter Try.func37, Try.ntmps37
  go_wp2
  go_ret
  exact ⟨ret_u32 HE.out, rfl⟩
set_option maxHeartbeats 1000000 in
theorem leaf3 (a b : Nat) (ha : a < 4294967296) (hb : b < 4294967296) (w : World) :
    Calls Try.prog 38 #[.int .u32 a, .int .u32 b] w fun e w' => e = .returned (.int .u32 (opI 3 a b)) ∧ w = w' := by
  have HE := Lib.hid (e3 a b)
  clear ha hb
  go_enter Try.func38, Try.ntmps38
  go_wp2
  go_ret
  exact ⟨ret_u32 HE.out, rfl⟩
set_option maxHeartbeats 1000000 in
theorem leaf4 (a b : Nat) (ha : a < 4294967296) (hb : b < 4294967296) (w : World) :
    Calls Try.prog 39 #[.int .u32 a, .int .u32 b] w fun e w' => e = .returned (.int .u32 (opI 4 a b)) ∧ w = w' := by
  by_cases h : b = 0
  · have HE := Lib.hid (e4z a b h)
    have t : (((b : Int)) == 0) = true := by simp [h]
    clear h ha hb
    go_enter Try.func39, Try.ntmps39
    go_wp2
    go_ret
    exact ⟨ret_u32 HE.out, rfl⟩
  · have HE := Lib.hid (e4 a b ha h)
    have t : (((b : Int)) == 0) = false := by simp [h]
    have h0 : 0 ≤ (a : Int) := by omega
    have h1 : 1 ≤ (b : Int) := by omega
    clear h
    go_enter Try.func39, Try.ntmps39
    go_wp2
    go_ret
    exact ⟨ret_u32 HE.out, rfl⟩
set_option maxHeartbeats 1000000 in
theorem leaf5 (a b : Nat) (ha : a < 4294967296) (hb : b < 4294967296) (w : World) :
    Calls Try.prog 40 #[.int .u32 a, .int .u32 b] w fun e w' => e = .returned (.int .u32 (opI 5 a b)) ∧ w = w' := by
  by_cases h : b = 0
  · have HE := Lib.hid (e5z a b h)
    have t : (((b : Int)) == 0) = true := by simp [h]
    clear h ha hb
    go_enter Try.func40, Try.ntmps40
    go_wp2
    go_ret
    exact ⟨ret_u32 HE.out, rfl⟩
  · have HE := Lib.hid (e5 a b h)
    have t : (((b : Int)) == 0) = false := by simp [h]
    have h0 : 0 ≤ (a : Int) := by omega
    have h1 : 1 ≤ (b : Int) := by omega
    clear h
    go_enter Try.func40, Try.ntmps40
    go_wp2
    go_ret
    exact ⟨ret_u32 HE.out, rfl⟩
set_option maxHeartbeats 1000000 in
theorem leaf6 (a b : Nat) (ha : a < 4294967296) (hb : b < 4294967296) (w : World) :
    Calls Try.prog 41 #[.int .u32 a, .int .u32 b] w fun e w' => e = .returned (.int .u32 (opI 6 a b)) ∧ w = w' := by
  have HE := Lib.hid (e6 a b ha hb)
  clear ha hb
  go_enter Try.func41, Try.ntmps41
  go_wp2
  go_ret
  exact ⟨ret_u32 HE.out, rfl⟩
set_option maxHeartbeats 1000000 in
theorem leaf7 (a b : Nat) (ha : a < 4294967296) (hb : b < 4294967296) (w : World) :
    Calls Try.prog 42 #[.int .u32 a, .int .u32 b] w fun e w' => e = .returned (.int .u32 (opI 7 a b)) ∧ w = w' := by
  have HE := Lib.hid (e7 a b ha hb)
  clear ha hb
  go_enter Try.func42, Try.ntmps42
  go_wp2
  go_ret
  exact ⟨ret_u32 HE.out, rfl⟩
set_option maxHeartbeats 1000000 in
theorem leaf8 (a b : Nat) (ha : a < 4294967296) (hb : b < 4294967296) (w : World) :
    Calls Try.prog 43 #[.int .u32 a, .int .u32 b] w fun e w' => e = .returned (.int .u32 (opI 8 a b)) ∧ w = w' := by
  have HE := Lib.hid (e8 a b ha hb)
  clear ha hb
  go_enter Try.func43, Try.ntmps43
  go_wp2
  go_ret
  exact ⟨ret_u32 HE.out, rfl⟩
set_option maxHeartbeats 1000000 in
theorem leaf9 (a b : Nat) (ha : a < 4294967296) (hb : b < 4294967296) (w : World) :
    Calls Try.prog 44 #[.int .u32 a, .int .u32 b] w fun e w' => e = .returned (.int .u32 (opI 9 a b)) ∧ w = w' := by
  have HE := Lib.hid (e9 a b)
  have h0 : 0 ≤ (b : Int) := by omega
  go_enter Try.func44, Try.ntmps44
  go_wp2
  go_ret
  exact ⟨ret_u32 HE.out, rfl⟩
set_option maxHeartbeats 1000000 in
theorem leaf10 (a b : Nat) (ha : a < 4294967296) (hb : b < 4294967296) (w : World) :
    Calls Try.prog 45 #[.int .u32 a, .int .u32 b] w fun e w' => e = .returned (.int .u32 (opI 10 a b)) ∧ w = w' := by
  have HE := Lib.hid (e10 a b)
  have h0 : 0 ≤ (b : Int) := by omega
  go_enter Try.func45, Try.ntmps45
  go_wp2
  go_ret
  exact ⟨ret_u32 HE.out, rfl⟩
set_option maxHeartbeats 1000000 in
theorem leaf11 (a b : Nat) (ha : a < 4294967296) (hb : b < 4294967296) (w : World) :
    Calls Try.prog 46 #[.int .u32 a, .int .u32 b] w fun e w' => e = .returned (.int .u32 (opI 11 a b)) ∧ w = w' := by
  have HE := Lib.hid (e11 a b ha)
  have h0 : 0 ≤ (b : Int) := by omega
  go_enter Try.func46, Try.ntmps46
  go_wp2
  go_ret
  exact ⟨ret_u32 HE.out, rfl⟩
set_option maxHeartbeats 1000000 in
theorem leaf12 (a b : Nat) (ha : a < 4294967296) (hb : b < 4294967296) (w : World) :
    Calls Try.prog 47 #[.int .u32 a, .int .u32 b] w fun e w' => e = .returned (.int .u32 (opI 12 a b)) ∧ w = w' := by
  by_cases h : wrap32 (a : Int) < wrap32 (b : Int)
  · have HE := Lib.hid (e12y a b ha hb h)
    have t : decide (wrap32 (a : Int) < wrap32 (b : Int)) = true := by simp [h]
    
    go_enter Try.func47, Try.ntmps47
    go_wp2
    go_ret
    exact ⟨ret_u32 HE.out, rfl⟩
  · have HE := Lib.hid (e12n a b ha hb h)
    have t : decide (wrap32 (a : Int) < wrap32 (b : Int)) = false := by simp [h]
    
    go_enter Try.func47, Try.ntmps47
    go_wp2
    go_ret
    exact ⟨ret_u32 HE.out, rfl⟩
set_option maxHeartbeats 1000000 in
theorem leaf13 (a b : Nat) (ha : a < 4294967296) (hb : b < 4294967296) (w : World) :
    Calls Try.prog 49 #[.int .u32 a, .int .u32 b] w fun e w' => e = .returned (.int .u32 (opI 13 a b)) ∧ w = w' := by
  by_cases h : a < b
  · have HE := Lib.hid (e13y a b h)
    have t : decide (a < b) = true := by simp [h]
    clear h
    go_enter Try.func49, Try.ntmps49
    go_wp2
    go_ret
    exact ⟨ret_u32 HE.out, rfl⟩
  · have HE := Lib.hid (e13n a b h)
    have t : decide (a < b) = false := by simp [h]
    clear h
    go_enter Try.func49, Try.ntmps49
    go_wp2
    go_ret
    exact ⟨ret_u32 HE.out, rfl⟩
set_option maxHeartbeats 1000000 in
theorem leaf14 (a b : Nat) (ha : a < 4294967296) (hb : b < 4294967296) (w : World) :
    Calls Try.prog 50 #[.int .u32 a, .int .u32 b] w fun e w' => e = .returned (.int .u32 (opI 14 a b)) ∧ w = w' := by
  by_cases h : a = b
  · have HE := Lib.hid (e14y a b h)
    have t : (((a : Int)) == (b : Int)) = true := by simp [h]
    clear h
    go_enter Try.func50, Try.ntmps50
    go_wp2
    go_ret
    exact ⟨ret_u32 HE.out, rfl⟩
  · have HE := Lib.hid (e14n a b h)
    have t : (((a : Int)) == (b : Int)) = false := by rw [beq_eq_false_iff_ne]; omega
    clear h
    go_enter Try.func50, Try.ntmps50
    go_wp2
    go_ret
    exact ⟨ret_u32 HE.out, rfl⟩

end Go.Proofs.Ythagofalneadjaa
