/- Some texts of one proof, one behind the other; each has its own head below. -/
import Derived.Test.YtgdbhmlmioihpaaGreatDoorX06
import Derived.Test.YtgdbhmlmioihpaaGreatDoorX15
import Derived.Test.YtgdbhmlmioihpaaGreatDoorX05
import Derived.LoopTactic
import Derived.BigQuiet
import Derived.Deep.DeepCutAuto
import Derived.Laws.ResultCell
/- What the document's own Op (package aediculeref01) makes of any two numbers. -/
section
set_option linter.unusedVariables false
namespace Go.Proofs.YtgdbhmlmioihpaaGreatDoor.O
open Go.RowKit

theorem vi {k : IntKind} {a b : Int} (h : a = b) : Value.int k a = Value.int k b := by rw [h]

/-- One round of bits, in numbers. -/
theorem bits_step (g a b k : Nat) (lo hi : Int) (A B G q A' B' G' q' : Nat) (hk : k < 32)
    (hbit : g / 2 ^ k % 2 = if lo ≤ ((a / 2 ^ k % 2 : Nat) : Int) + ((b / 2 ^ k % 2 : Nat) : Int) ∧ ((a / 2 ^ k % 2 : Nat) : Int) + ((b / 2 ^ k % 2 : Nat) : Int) ≤ hi then 1 else 0)
    (eA : a / 2 ^ k = A) (eB : b / 2 ^ k = B) (eG : g % 2 ^ k = G) (eq : 2 ^ k % 4294967296 = q)
    (eA' : a / 2 ^ (k + 1) = A') (eB' : b / 2 ^ (k + 1) = B') (eG' : g % 2 ^ (k + 1) = G') (eq' : 2 ^ (k + 1) % 4294967296 = q') :
    A' = A / 2 ∧ B' = B / 2 ∧ q' = 2 * q % 4294967296 ∧ q ≤ 2147483648 ∧ G < q ∧
      ((lo ≤ (A : Int) % 2 + (B : Int) % 2 ∧ (A : Int) % 2 + (B : Int) % 2 ≤ hi) → G' = G + q) ∧ (¬ (lo ≤ (A : Int) % 2 + (B : Int) % 2 ∧ (A : Int) % 2 + (B : Int) % 2 ≤ hi) → G' = G) := by
  have h1 := Wd.pow_lt k hk
  have h2 : 2 ^ k ≤ 2147483648 := by
    have : 2 ^ k ≤ 2 ^ 31 := Nat.pow_le_pow_right (by decide) (by omega)
    simpa using this
  rw [Wd.mod_succ, eG, hbit] at eG'
  rw [Wd.div_succ, eA] at eA'
  rw [Wd.div_succ, eB] at eB'
  rw [Nat.pow_succ] at eq'
  rw [eA, eB] at eG'
  have h3 : G < 2 ^ k := by rw [← eG]; exact Nat.mod_lt _ (Nat.two_pow_pos k)
  clear hbit
  generalize 2 ^ k = z at *
  have e : ((A % 2 : Nat) : Int) + ((B % 2 : Nat) : Int) = (A : Int) % 2 + (B : Int) % 2 := by omega
  rw [e] at eG'
  refine ⟨eA'.symm, eB'.symm, by omega, by omega, by omega, fun h => ?_, fun h => ?_⟩
  · rw [if_pos h] at eG'; omega
  · rw [if_neg h] at eG'; omega

set_option maxHeartbeats 1000000 in
set_option maxRecDepth 100000 in
theorem bits_any (g a b : Nat) (lo hi : Int) (hbit : ∀ i, g / 2 ^ i % 2 = if lo ≤ ((a / 2 ^ i % 2 : Nat) : Int) + ((b / 2 ^ i % 2 : Nat) : Int) ∧ ((a / 2 ^ i % 2 : Nat) : Int) + ((b / 2 ^ i % 2 : Nat) : Int) ≤ hi then 1 else 0) (hg : g < 4294967296) (ha : a < 4294967296) (hb : b < 4294967296) (w : World) :
    Calls Tryz.prog 91 #[.int .u32 a, .int .u32 b, .int .u32 lo, .int .u32 hi] w fun e w' => e = .returned (.int .u32 g) ∧ w = w' := by
  have HB := Lib.hid hbit
  have HG := Lib.hid hg
  clear hbit hg
  go_enter Tryz.func91, Tryz.ntmps91
  go_wp2
  go_loop [0, 1, 9, 10, 11] (fun t0 t1 out p i => ∃ k A B G q : Nat, k ≤ 32 ∧ i = .int .i64 k ∧ t0 = .int .u32 A ∧ t1 = .int .u32 B ∧ out = .int .u32 G ∧ p = .int .u32 q ∧ Hid (a / 2 ^ k = A ∧ b / 2 ^ k = B ∧ g % 2 ^ k = G ∧ 2 ^ k % 4294967296 = q)) (fun _ _ _ _ i => (32 - intOf i).toNat)
  case atStart => exact ⟨0, a, b, 0, 1, by omega, rfl, rfl, rfl, rfl, rfl, Lib.hid (by simp [Nat.mod_one])⟩
  case round =>
    obtain ⟨k, A, B, G, q, hk, rfl, rfl, rfl, rfl, rfl, H⟩ := hrel
    by_cases hlt : k < 32
    · obtain ⟨A', hA'⟩ : ∃ A', a / 2 ^ (k + 1) = A' := ⟨_, rfl⟩
      obtain ⟨B', hB'⟩ : ∃ B', b / 2 ^ (k + 1) = B' := ⟨_, rfl⟩
      obtain ⟨G', hG'⟩ : ∃ G', g % 2 ^ (k + 1) = G' := ⟨_, rfl⟩
      obtain ⟨q', hq'⟩ : ∃ q', 2 ^ (k + 1) % 4294967296 = q' := ⟨_, rfl⟩
      have S := bits_step g a b k lo hi A B G q A' B' G' q' hlt (HB.out k) H.out.1 H.out.2.1 H.out.2.2.1 H.out.2.2.2 hA' hB' hG' hq'
      have HS := Lib.hid S
      have HN := Lib.hid (And.intro hA' (And.intro hB' (And.intro hG' hq')))
      have hq2 : q ≤ 2147483648 := S.2.2.2.1
      have hGq : G < q := S.2.2.2.2.1
      have hA1 : A < 4294967296 := by have h1 := H.out.1; have h2 := Nat.div_le_self a (2 ^ k); omega
      have hB1 : B < 4294967296 := by have h1 := H.out.2.1; have h2 := Nat.div_le_self b (2 ^ k); omega
      clear S hA' hB' hG' hq' H
      go_wp2
      all_goals go_round
      all_goals first
        | (case rel =>
            obtain ⟨s1, s2, s3, _, _, s6, s7⟩ := HS.out
            by_cases hc : (lo ≤ (A : Int) % 2 + (B : Int) % 2 ∧ (A : Int) % 2 + (B : Int) % 2 ≤ hi)
            · have s8 := s6 hc
              exact ⟨k + 1, A', B', G', q', by omega, by go_num, vi (by omega), vi (by omega), vi (by omega), vi (by omega), HN⟩
            · have s8 := s7 hc
              exact ⟨k + 1, A', B', G', q', by omega, by go_num, vi (by omega), vi (by omega), vi (by omega), vi (by omega), HN⟩)
        | (case measure => simp [intOf]; omega)
    · go_wp2
      go_ret
      have : k = 32 := by omega
      subst this
      refine ⟨ret_u32 ?_, rfl⟩
      have h1 := HG.out
      have h2 := H.out.2.2.1
      rw [← h2]
      omega

theorem shl_step (a k x : Nat) (h : a * 2 ^ k % 4294967296 = x) : a * 2 ^ (k + 1) % 4294967296 = x % 2147483648 * 2 := by
  rw [Nat.pow_succ, ← Nat.mul_assoc]
  generalize a * 2 ^ k = z at *
  omega
theorem shr_step (a k x : Nat) (h : a / 2 ^ k = x) : a / 2 ^ (k + 1) = x / 2 := by rw [Wd.div_succ, h]
theorem sar_step (a k x : Nat) (ha : a < 4294967296) (h : Wd.sar a k = x) : Wd.sar a (k + 1) = x / 2 + a / 2147483648 * 2147483648 := by
  unfold Wd.sar at *
  have h2 := Nat.div_le_self (4294967295 - a) (2 ^ k)
  by_cases hc : a < 2147483648
  · rw [if_pos hc] at *
    rw [Wd.div_succ, h]; omega
  · rw [if_neg hc] at *
    rw [Wd.div_succ]
    generalize (4294967295 - a) / 2 ^ k = z at *
    omega

set_option maxHeartbeats 1000000 in
set_option maxRecDepth 100000 in
theorem shift9 (a n : Nat) (ha : a < 4294967296) (hn : n < 32) (r : Nat) (hr : Hid (a * 2 ^ n % 4294967296 = r)) (w : World) :
    Calls Tryz.prog 92 #[.int .u8 9, .int .u32 a, .int .i64 n] w fun e w' => e = .returned (.int .u32 r) ∧ w = w' := by
  have h0 : 0 ≤ (a : Int) := by omega
  go_enter Tryz.func92, Tryz.ntmps92
  go_wp2
  go_loop [1, 8] (fun t i => ∃ k x : Nat, k ≤ n ∧ i = .int .i64 k ∧ t = .int .u32 x ∧ Hid (a * 2 ^ k % 4294967296 = x)) (fun _ i => (n - intOf i).toNat)
  case atStart => exact ⟨0, a, by omega, rfl, rfl, Lib.hid (by simp; omega)⟩
  case round =>
    obtain ⟨k, x, hk, rfl, rfl, H⟩ := hrel
    by_cases hlt : k < n
    · have S := shl_step a k x H.out
      have HS := Lib.hid S
      have hx : x < 4294967296 := by rw [← H.out]; exact Nat.mod_lt _ (by decide)
      clear S H
      go_wp2
      go_round
      case rel => exact ⟨k + 1, x % 2147483648 * 2, by omega, by go_num, vi (by omega), HS⟩
      case measure => simp [intOf]; omega
    · go_wp2
      go_ret
      have : k = n := by omega
      subst this
      exact ⟨ret_u32 (by rw [← H.out, ← hr.out]), rfl⟩

set_option maxHeartbeats 1000000 in
set_option maxRecDepth 100000 in
theorem shift10 (a n : Nat) (ha : a < 4294967296) (hn : n < 32) (r : Nat) (hr : Hid (a / 2 ^ n = r)) (w : World) :
    Calls Tryz.prog 92 #[.int .u8 10, .int .u32 a, .int .i64 n] w fun e w' => e = .returned (.int .u32 r) ∧ w = w' := by
  have h0 : 0 ≤ (a : Int) := by omega
  go_enter Tryz.func92, Tryz.ntmps92
  go_wp2
  go_loop [1, 8] (fun t i => ∃ k x : Nat, k ≤ n ∧ i = .int .i64 k ∧ t = .int .u32 x ∧ Hid (a / 2 ^ k = x)) (fun _ i => (n - intOf i).toNat)
  case atStart => exact ⟨0, a, by omega, rfl, rfl, Lib.hid (by simp)⟩
  case round =>
    obtain ⟨k, x, hk, rfl, rfl, H⟩ := hrel
    by_cases hlt : k < n
    · have S := shr_step a k x H.out
      have HS := Lib.hid S
      have hx : x < 4294967296 := by rw [← H.out]; exact Nat.lt_of_le_of_lt (Nat.div_le_self _ _) ha
      clear S H
      go_wp2
      go_round
      case rel => exact ⟨k + 1, x / 2, by omega, by go_num, vi (by omega), HS⟩
      case measure => simp [intOf]; omega
    · go_wp2
      go_ret
      have : k = n := by omega
      subst this
      exact ⟨ret_u32 (by rw [← H.out, ← hr.out]), rfl⟩

set_option maxHeartbeats 1000000 in
set_option maxRecDepth 100000 in
theorem shift11 (a n : Nat) (ha : a < 4294967296) (hn : n < 32) (r : Nat) (hr : Hid (Wd.sar a n = r)) (w : World) :
    Calls Tryz.prog 92 #[.int .u8 11, .int .u32 a, .int .i64 n] w fun e w' => e = .returned (.int .u32 r) ∧ w = w' := by
  have h0 : 0 ≤ (a : Int) := by omega
  go_enter Tryz.func92, Tryz.ntmps92
  go_wp2
  go_loop [1, 8] (fun t i => ∃ k x : Nat, k ≤ n ∧ i = .int .i64 k ∧ t = .int .u32 x ∧ Hid (Wd.sar a k = x)) (fun _ i => (n - intOf i).toNat)
  case atStart => exact ⟨0, a, by omega, rfl, rfl, Lib.hid (by simp [Wd.sar]; try omega)⟩
  case round =>
    obtain ⟨k, x, hk, rfl, rfl, H⟩ := hrel
    by_cases hlt : k < n
    · have S := sar_step a k x ha H.out
      have HS := Lib.hid S
      have hx : x < 4294967296 := by rw [← H.out]; exact Wd.sar_lt a k ha
      clear S H
      go_wp2
      go_round
      case rel => exact ⟨k + 1, x / 2 + a / 2147483648 * 2147483648, by omega, by go_num, vi (by omega), HS⟩
      case measure => simp [intOf]; omega
    · go_wp2
      go_ret
      have : k = n := by omega
      subst this
      exact ⟨ret_u32 (by rw [← H.out, ← hr.out]), rfl⟩


theorem r2 (a b : Nat) (hb : b < 4294967296) : ((4294967296 : Int) + a - b) % 4294967296 = opI 2 a b := by rw [← e2 a b hb]; omega
theorem r3 (a b : Nat) : ((IntKind.u64.wrap ((a : Int) * b)).tmod 4294967296 % 4294967296) = opI 3 a b := by
  rw [← e3 a b, IntKind.wrap_u64, Int.tmod_eq_emod_of_nonneg (by omega)]
  generalize (a : Int) * b = x
  omega
theorem opI9 (a b : Nat) : a * 2 ^ (b % 32) % 4294967296 = Wd.opN 9 a b := by simp [Wd.opN]
theorem opI10 (a b : Nat) : a / 2 ^ (b % 32) = Wd.opN 10 a b := by simp [Wd.opN]
theorem opI11 (a b : Nat) : Wd.sar a (b % 32) = Wd.opN 11 a b := by simp [Wd.opN]
theorem opI_cast9 (a b : Nat) : ((Wd.opN 9 a b : Nat) : Int) = opI 9 a b := (opI_nat 9 a b).symm
theorem opI_cast10 (a b : Nat) : ((Wd.opN 10 a b : Nat) : Int) = opI 10 a b := (opI_nat 10 a b).symm
theorem opI_cast11 (a b : Nat) : ((Wd.opN 11 a b : Nat) : Int) = opI 11 a b := (opI_nat 11 a b).symm
theorem bit6 (a b i : Nat) : (a &&& b) / 2 ^ i % 2 = if (2 : Int) ≤ ((a / 2 ^ i % 2 : Nat) : Int) + ((b / 2 ^ i % 2 : Nat) : Int) ∧ ((a / 2 ^ i % 2 : Nat) : Int) + ((b / 2 ^ i % 2 : Nat) : Int) ≤ 2 then 1 else 0 := by
  rw [Wd.and_bit]
  generalize a / 2 ^ i = x
  generalize b / 2 ^ i = y
  split <;> split <;> omega
theorem bit7 (a b i : Nat) : (a ||| b) / 2 ^ i % 2 = if (1 : Int) ≤ ((a / 2 ^ i % 2 : Nat) : Int) + ((b / 2 ^ i % 2 : Nat) : Int) ∧ ((a / 2 ^ i % 2 : Nat) : Int) + ((b / 2 ^ i % 2 : Nat) : Int) ≤ 2 then 1 else 0 := by
  rw [Wd.or_bit]
  generalize a / 2 ^ i = x
  generalize b / 2 ^ i = y
  split <;> split <;> omega
theorem bit8 (a b i : Nat) : (a ^^^ b) / 2 ^ i % 2 = if (1 : Int) ≤ ((a / 2 ^ i % 2 : Nat) : Int) + ((b / 2 ^ i % 2 : Nat) : Int) ∧ ((a / 2 ^ i % 2 : Nat) : Int) + ((b / 2 ^ i % 2 : Nat) : Int) ≤ 1 then 1 else 0 := by
  rw [Wd.xor_bit]
  generalize a / 2 ^ i = x
  generalize b / 2 ^ i = y
  split <;> split <;> omega
theorem opI6 (a b : Nat) : ((a &&& b : Nat) : Int) = opI 6 a b := by rw [show (6 : Int) = ((6 : Nat) : Int) from rfl, opI_nat]; simp [Wd.opN]
theorem opI7 (a b : Nat) : ((a ||| b : Nat) : Int) = opI 7 a b := by rw [show (7 : Int) = ((7 : Nat) : Int) from rfl, opI_nat]; simp [Wd.opN]
theorem opI8 (a b : Nat) : ((a ^^^ b : Nat) : Int) = opI 8 a b := by rw [show (8 : Int) = ((8 : Nat) : Int) from rfl, opI_nat]; simp [Wd.opN]

theorem ret_i64 {a b : Int} (h : a = b) : Ending.returned (.int .i64 a) = .returned (.int .i64 b) := by rw [h]

/-- signed -/
def sgn (a : Nat) : Int := if 2147483648 ≤ a then (a : Int) - 4294967296 else a
set_option maxHeartbeats 1000000 in
set_option maxRecDepth 100000 in
theorem signed_any (a : Nat) (ha : a < 4294967296) (w : World) :
    Calls Tryz.prog 94 #[.int .u32 a] w fun e w' => e = .returned (.int .i64 (sgn a)) ∧ w = w' := by
  by_cases h : 2147483648 ≤ a
  · have HE := Lib.hid (show (a : Int) - 4294967296 = sgn a by unfold sgn; rw [if_pos h])
    have h' : (2147483648 : Int) ≤ (a : Int) := by omega
    have h'' : decide ((2147483648 : Int) ≤ (a : Int)) = true := by simp; omega
    clear h
    go_enter Tryz.func94, Tryz.ntmps94
    go_wp2
    go_ret
    exact ⟨ret_i64 HE.out, rfl⟩
  · have HE := Lib.hid (show (a : Int) = sgn a by unfold sgn; rw [if_neg h])
    have h' : (a : Int) < 2147483648 := by omega
    have h'' : decide ((2147483648 : Int) ≤ (a : Int)) = false := by simp; omega
    clear h
    go_enter Tryz.func94, Tryz.ntmps94
    go_wp2
    go_ret
    exact ⟨ret_i64 HE.out, rfl⟩
theorem sgn_lt (a b : Nat) (ha : a < 4294967296) (hb : b < 4294967296) : sgn a < sgn b ↔ Wd.up a < Wd.up b := by
  rw [Wd.up_eq a ha, Wd.up_eq b hb]; unfold sgn
  repeat' split
  all_goals omega
theorem r12y (a b : Nat) (ha : a < 4294967296) (hb : b < 4294967296) (h : sgn a < sgn b) : (1 : Int) = opI 12 a b := by
  rw [show (12 : Int) = ((12 : Nat) : Int) from rfl, opI_nat]; simp [Wd.opN, (sgn_lt a b ha hb).1 h]
theorem r12n (a b : Nat) (ha : a < 4294967296) (hb : b < 4294967296) (h : ¬ sgn a < sgn b) : (0 : Int) = opI 12 a b := by
  have : ¬ Wd.up a < Wd.up b := fun h' => h ((sgn_lt a b ha hb).2 h')
  rw [show (12 : Int) = ((12 : Nat) : Int) from rfl, opI_nat]; simp [Wd.opN, this]
theorem ret_opv {a b c : Int} (h : a = b) : Ending.returned (.tuple #[.int .u32 a, .int .i64 c]) = .returned (.tuple #[.int .u32 b, .int .i64 c]) := by rw [h]

set_option maxHeartbeats 1000000 in
set_option maxRecDepth 100000 in
theorem rop1 (a b : Nat) (ha : a < 4294967296) (hb : b < 4294967296) (w : World) :
    Calls Tryz.prog 72 #[.int .u8 1, .int .u32 a, .int .u32 b] w fun e w' => e = .returned (.tuple #[.int .u32 (opI 1 a b), .int .i64 0]) ∧ w = w' := by
  have HE := Lib.hid (e1 a b)
  go_enter Tryz.func72, Tryz.ntmps72
  go_wp2
  go_ret2
  exact ⟨ret_opv HE.out, rfl⟩

set_option maxHeartbeats 1000000 in
set_option maxRecDepth 100000 in
theorem rop2 (a b : Nat) (ha : a < 4294967296) (hb : b < 4294967296) (w : World) :
    Calls Tryz.prog 72 #[.int .u8 2, .int .u32 a, .int .u32 b] w fun e w' => e = .returned (.tuple #[.int .u32 (opI 2 a b), .int .i64 0]) ∧ w = w' := by
  have HE := Lib.hid (r2 a b hb)
  go_enter Tryz.func72, Tryz.ntmps72
  go_wp2
  go_ret2
  exact ⟨ret_opv HE.out, rfl⟩

set_option maxHeartbeats 1000000 in
set_option maxRecDepth 100000 in
theorem rop3 (a b : Nat) (ha : a < 4294967296) (hb : b < 4294967296) (w : World) :
    Calls Tryz.prog 72 #[.int .u8 3, .int .u32 a, .int .u32 b] w fun e w' => e = .returned (.tuple #[.int .u32 (opI 3 a b), .int .i64 0]) ∧ w = w' := by
  have HE := Lib.hid (r3 a b)
  go_enter Tryz.func72, Tryz.ntmps72
  go_wp2
  go_ret2
  exact ⟨ret_opv HE.out, rfl⟩

set_option maxHeartbeats 1000000 in
set_option maxRecDepth 100000 in
theorem rop4 (a b : Nat) (ha : a < 4294967296) (hb : b < 4294967296) (w : World) :
    Calls Tryz.prog 72 #[.int .u8 4, .int .u32 a, .int .u32 b] w fun e w' => e = .returned (.tuple #[.int .u32 (opI 4 a b), .int .i64 0]) ∧ w = w' := by
  by_cases h : b = 0
  · have HE := Lib.hid (e4z a b h)
    have t : (((b : Int)) == 0) = true := by simp [h]
    clear h
    go_enter Tryz.func72, Tryz.ntmps72
    go_wp2
    go_ret2
    exact ⟨ret_opv HE.out, rfl⟩
  · have HE := Lib.hid (e4 a b ha h)
    have t : (((b : Int)) == 0) = false := by simp [h]
    have h0 : 0 ≤ (a : Int) := by omega
    have h1 : 1 ≤ (b : Int) := by omega
    clear h
    go_enter Tryz.func72, Tryz.ntmps72
    go_wp2
    go_ret2
    exact ⟨ret_opv HE.out, rfl⟩

set_option maxHeartbeats 1000000 in
set_option maxRecDepth 100000 in
theorem rop5 (a b : Nat) (ha : a < 4294967296) (hb : b < 4294967296) (w : World) :
    Calls Tryz.prog 72 #[.int .u8 5, .int .u32 a, .int .u32 b] w fun e w' => e = .returned (.tuple #[.int .u32 (opI 5 a b), .int .i64 0]) ∧ w = w' := by
  by_cases h : b = 0
  · have HE := Lib.hid (e5z a b h)
    have t : (((b : Int)) == 0) = true := by simp [h]
    clear h
    go_enter Tryz.func72, Tryz.ntmps72
    go_wp2
    go_ret2
    exact ⟨ret_opv HE.out, rfl⟩
  · have HE := Lib.hid (e5 a b h)
    have t : (((b : Int)) == 0) = false := by simp [h]
    have h0 : 0 ≤ (a : Int) := by omega
    have h1 : 1 ≤ (b : Int) := by omega
    clear h
    go_enter Tryz.func72, Tryz.ntmps72
    go_wp2
    go_ret2
    exact ⟨ret_opv HE.out, rfl⟩

set_option maxHeartbeats 1000000 in
set_option maxRecDepth 100000 in
theorem rop6 (a b : Nat) (ha : a < 4294967296) (hb : b < 4294967296) (w : World) :
    Calls Tryz.prog 72 #[.int .u8 6, .int .u32 a, .int .u32 b] w fun e w' => e = .returned (.tuple #[.int .u32 (opI 6 a b), .int .i64 0]) ∧ w = w' := by
  have HE := Lib.hid (opI6 a b)
  have HC := Lib.hid (bits_any (a &&& b) a b 2 2 (bit6 a b) (Wd.and_lt a b hb) ha hb w)
  generalize a &&& b = g at HE HC
  go_enter Tryz.func72, Tryz.ntmps72
  go_wp2_with (go_at_call 91; refine HC.out.mono ?_; rintro e w1 ⟨rfl, rfl⟩)
  go_ret2
  exact ⟨ret_opv HE.out, rfl⟩

set_option maxHeartbeats 1000000 in
set_option maxRecDepth 100000 in
theorem rop7 (a b : Nat) (ha : a < 4294967296) (hb : b < 4294967296) (w : World) :
    Calls Tryz.prog 72 #[.int .u8 7, .int .u32 a, .int .u32 b] w fun e w' => e = .returned (.tuple #[.int .u32 (opI 7 a b), .int .i64 0]) ∧ w = w' := by
  have HE := Lib.hid (opI7 a b)
  have HC := Lib.hid (bits_any (a ||| b) a b 1 2 (bit7 a b) (Wd.or_lt a b ha hb) ha hb w)
  generalize a ||| b = g at HE HC
  go_enter Tryz.func72, Tryz.ntmps72
  go_wp2_with (go_at_call 91; refine HC.out.mono ?_; rintro e w1 ⟨rfl, rfl⟩)
  go_ret2
  exact ⟨ret_opv HE.out, rfl⟩

set_option maxHeartbeats 1000000 in
set_option maxRecDepth 100000 in
theorem rop8 (a b : Nat) (ha : a < 4294967296) (hb : b < 4294967296) (w : World) :
    Calls Tryz.prog 72 #[.int .u8 8, .int .u32 a, .int .u32 b] w fun e w' => e = .returned (.tuple #[.int .u32 (opI 8 a b), .int .i64 0]) ∧ w = w' := by
  have HE := Lib.hid (opI8 a b)
  have HC := Lib.hid (bits_any (a ^^^ b) a b 1 1 (bit8 a b) (Wd.xor_lt a b ha hb) ha hb w)
  generalize a ^^^ b = g at HE HC
  go_enter Tryz.func72, Tryz.ntmps72
  go_wp2_with (go_at_call 91; refine HC.out.mono ?_; rintro e w1 ⟨rfl, rfl⟩)
  go_ret2
  exact ⟨ret_opv HE.out, rfl⟩

set_option maxHeartbeats 1000000 in
set_option maxRecDepth 100000 in
theorem rop9 (a b : Nat) (ha : a < 4294967296) (hb : b < 4294967296) (w : World) :
    Calls Tryz.prog 72 #[.int .u8 9, .int .u32 a, .int .u32 b] w fun e w' => e = .returned (.tuple #[.int .u32 (opI 9 a b), .int .i64 0]) ∧ w = w' := by
  have HE := Lib.hid (opI_cast9 a b)
  have HC := Lib.hid (fun w => shift9 a (b % 32) ha (Nat.mod_lt _ (by decide)) (Wd.opN 9 a b) (Lib.hid (opI9 a b)) w)
  generalize Wd.opN 9 a b = g at HE HC
  go_enter Tryz.func72, Tryz.ntmps72
  go_wp2_with (go_at_call 92; rw [show ((b : Int) % 32) = ((b % 32 : Nat) : Int) from by omega]; refine (HC.out _).mono ?_; rintro e w1 ⟨rfl, rfl⟩)
  go_ret2
  exact ⟨ret_opv HE.out, rfl⟩

set_option maxHeartbeats 1000000 in
set_option maxRecDepth 100000 in
theorem rop10 (a b : Nat) (ha : a < 4294967296) (hb : b < 4294967296) (w : World) :
    Calls Tryz.prog 72 #[.int .u8 10, .int .u32 a, .int .u32 b] w fun e w' => e = .returned (.tuple #[.int .u32 (opI 10 a b), .int .i64 0]) ∧ w = w' := by
  have HE := Lib.hid (opI_cast10 a b)
  have HC := Lib.hid (fun w => shift10 a (b % 32) ha (Nat.mod_lt _ (by decide)) (Wd.opN 10 a b) (Lib.hid (opI10 a b)) w)
  generalize Wd.opN 10 a b = g at HE HC
  go_enter Tryz.func72, Tryz.ntmps72
  go_wp2_with (go_at_call 92; rw [show ((b : Int) % 32) = ((b % 32 : Nat) : Int) from by omega]; refine (HC.out _).mono ?_; rintro e w1 ⟨rfl, rfl⟩)
  go_ret2
  exact ⟨ret_opv HE.out, rfl⟩

set_option maxHeartbeats 1000000 in
set_option maxRecDepth 100000 in
theorem rop11 (a b : Nat) (ha : a < 4294967296) (hb : b < 4294967296) (w : World) :
    Calls Tryz.prog 72 #[.int .u8 11, .int .u32 a, .int .u32 b] w fun e w' => e = .returned (.tuple #[.int .u32 (opI 11 a b), .int .i64 0]) ∧ w = w' := by
  have HE := Lib.hid (opI_cast11 a b)
  have HC := Lib.hid (fun w => shift11 a (b % 32) ha (Nat.mod_lt _ (by decide)) (Wd.opN 11 a b) (Lib.hid (opI11 a b)) w)
  generalize Wd.opN 11 a b = g at HE HC
  go_enter Tryz.func72, Tryz.ntmps72
  go_wp2_with (go_at_call 92; rw [show ((b : Int) % 32) = ((b % 32 : Nat) : Int) from by omega]; refine (HC.out _).mono ?_; rintro e w1 ⟨rfl, rfl⟩)
  go_ret2
  exact ⟨ret_opv HE.out, rfl⟩

set_option maxHeartbeats 1000000 in
set_option maxRecDepth 100000 in
theorem rop12 (a b : Nat) (ha : a < 4294967296) (hb : b < 4294967296) (w : World) :
    Calls Tryz.prog 72 #[.int .u8 12, .int .u32 a, .int .u32 b] w fun e w' => e = .returned (.tuple #[.int .u32 (opI 12 a b), .int .i64 0]) ∧ w = w' := by
  have HA := Lib.hid (fun w => signed_any a ha w)
  have HB := Lib.hid (fun w => signed_any b hb w)
  by_cases h : sgn a < sgn b
  · have HE := Lib.hid (r12y a b ha hb h)
    generalize sgn a = x at *
    generalize sgn b = y at *
    go_enter Tryz.func72, Tryz.ntmps72
    go_wp2_with fail
    refine (HA.out _).mono ?_; rintro e w1 ⟨rfl, rfl⟩
    go_wp2_with fail
    refine (HB.out _).mono ?_; rintro e w1 ⟨rfl, rfl⟩
    go_wp2
    go_ret2
    exact ⟨ret_opv HE.out, rfl⟩
  · have HE := Lib.hid (r12n a b ha hb h)
    generalize sgn a = x at *
    generalize sgn b = y at *
    have h' : y ≤ x := by omega
    go_enter Tryz.func72, Tryz.ntmps72
    go_wp2_with fail
    refine (HA.out _).mono ?_; rintro e w1 ⟨rfl, rfl⟩
    go_wp2_with fail
    refine (HB.out _).mono ?_; rintro e w1 ⟨rfl, rfl⟩
    go_wp2
    go_ret2
    exact ⟨ret_opv HE.out, rfl⟩

set_option maxHeartbeats 1000000 in
set_option maxRecDepth 100000 in
theorem rop13 (a b : Nat) (ha : a < 4294967296) (hb : b < 4294967296) (w : World) :
    Calls Tryz.prog 72 #[.int .u8 13, .int .u32 a, .int .u32 b] w fun e w' => e = .returned (.tuple #[.int .u32 (opI 13 a b), .int .i64 0]) ∧ w = w' := by
  by_cases h : a < b
  · have HE := Lib.hid (e13y a b h)
    go_enter Tryz.func72, Tryz.ntmps72
    go_wp2
    go_ret2
    exact ⟨ret_opv HE.out, rfl⟩
  · have HE := Lib.hid (e13n a b h)
    have h' : b ≤ a := by omega
    go_enter Tryz.func72, Tryz.ntmps72
    go_wp2
    go_ret2
    exact ⟨ret_opv HE.out, rfl⟩

set_option maxHeartbeats 1000000 in
set_option maxRecDepth 100000 in
theorem rop14 (a b : Nat) (ha : a < 4294967296) (hb : b < 4294967296) (w : World) :
    Calls Tryz.prog 72 #[.int .u8 14, .int .u32 a, .int .u32 b] w fun e w' => e = .returned (.tuple #[.int .u32 (opI 14 a b), .int .i64 0]) ∧ w = w' := by
  by_cases h : a = b
  · have HE := Lib.hid (e14y a b h)
    have t : (((a : Int)) == (b : Int)) = true := by simp [h]
    clear h
    go_enter Tryz.func72, Tryz.ntmps72
    go_wp2
    go_ret2
    exact ⟨ret_opv HE.out, rfl⟩
  · have HE := Lib.hid (e14n a b h)
    have t : (((a : Int)) == (b : Int)) = false := by rw [beq_eq_false_iff_ne]; omega
    clear h
    go_enter Tryz.func72, Tryz.ntmps72
    go_wp2
    go_ret2
    exact ⟨ret_opv HE.out, rfl⟩

theorem rop_any (fn x y : Int) (h1 : 1 ≤ fn) (h14 : fn ≤ 14) (hx0 : 0 ≤ x) (hx : x < 4294967296) (hy0 : 0 ≤ y) (hy : y < 4294967296) (w : World) :
    Calls Tryz.prog 72 #[.int .u8 fn, .int .u32 x, .int .u32 y] w fun e w' => e = .returned (.tuple #[.int .u32 (opI fn x y), .int .i64 0]) ∧ w = w' := by
  obtain ⟨a, rfl⟩ := Int.eq_ofNat_of_zero_le hx0
  obtain ⟨b, rfl⟩ := Int.eq_ofNat_of_zero_le hy0
  have ha : a < 4294967296 := by omega
  have hb : b < 4294967296 := by omega
  have hf : fn = 1 ∨ fn = 2 ∨ fn = 3 ∨ fn = 4 ∨ fn = 5 ∨ fn = 6 ∨ fn = 7 ∨ fn = 8 ∨ fn = 9 ∨ fn = 10 ∨ fn = 11 ∨ fn = 12 ∨ fn = 13 ∨ fn = 14 := by omega
  rcases hf with rfl | rfl | rfl | rfl | rfl | rfl | rfl | rfl | rfl | rfl | rfl | rfl | rfl | rfl
  · exact rop1 a b ha hb w
  · exact rop2 a b ha hb w
  · exact rop3 a b ha hb w
  · exact rop4 a b ha hb w
  · exact rop5 a b ha hb w
  · exact rop6 a b ha hb w
  · exact rop7 a b ha hb w
  · exact rop8 a b ha hb w
  · exact rop9 a b ha hb w
  · exact rop10 a b ha hb w
  · exact rop11 a b ha hb w
  · exact rop12 a b ha hb w
  · exact rop13 a b ha hb w
  · exact rop14 a b ha hb w

set_option maxHeartbeats 1000000 in
theorem rop_no (fn x y : Int) (h : fn < 1 ∨ 14 < fn) (w : World) :
    Calls Tryz.prog 72 #[.int .u8 fn, .int .u32 x, .int .u32 y] w fun e w' => e = .returned (.tuple #[.int .u32 0, .int .i64 2]) ∧ w = w' := by
  have t1 : (fn == 1) = false := by rw [beq_eq_false_iff_ne]; omega
  have t2 : (fn == 2) = false := by rw [beq_eq_false_iff_ne]; omega
  have t3 : (fn == 3) = false := by rw [beq_eq_false_iff_ne]; omega
  have t4 : (fn == 4) = false := by rw [beq_eq_false_iff_ne]; omega
  have t5 : (fn == 5) = false := by rw [beq_eq_false_iff_ne]; omega
  have t6 : (fn == 6) = false := by rw [beq_eq_false_iff_ne]; omega
  have t7 : (fn == 7) = false := by rw [beq_eq_false_iff_ne]; omega
  have t8 : (fn == 8) = false := by rw [beq_eq_false_iff_ne]; omega
  have t9 : (fn == 9) = false := by rw [beq_eq_false_iff_ne]; omega
  have t10 : (fn == 10) = false := by rw [beq_eq_false_iff_ne]; omega
  have t11 : (fn == 11) = false := by rw [beq_eq_false_iff_ne]; omega
  have t12 : (fn == 12) = false := by rw [beq_eq_false_iff_ne]; omega
  have t13 : (fn == 13) = false := by rw [beq_eq_false_iff_ne]; omega
  have t14 : (fn == 14) = false := by rw [beq_eq_false_iff_ne]; omega
  clear h
  go_enter Tryz.func72, Tryz.ntmps72
  go_wp2
  go_ret2
  exact ⟨rfl, rfl⟩

end Go.Proofs.YtgdbhmlmioihpaaGreatDoor.O
end

/- The parts of the document's cpu: put, op, fault, branches. -/
section
set_option linter.unusedVariables false
namespace Go.Proofs.YtgdbhmlmioihpaaGreatDoor
open Go Go.RowKit Go.Maps

def xv (x : Xn) : Value := .agg #[.int .u8 x.op, .int .u8 (x.d : Int), .int .u8 (x.a : Int), .int .u8 (x.b : Int), .int .u32 x.im]

set_option maxHeartbeats 1000000 in
set_option maxRecDepth 100000 in
theorem kfault_any (e : Int) (w : World) : Calls Tryz.prog 34 #[.int .i64 e] w fun r w' => r = .returned (.agg #[.int .u8 2, .int .u32 0, .int .i64 e]) ∧ Below w.heap.size w w' := by
  go_enter Tryz.func34, Tryz.ntmps34
  go_wp2
  refine bodyPost_ret (v := .agg #[.int .u8 2, .int .u32 0, .int .i64 e]) ?_ rfl ⟨rfl, (Below.refl _ _).alloc (Nat.le_refl _) _⟩
  simp [results, Tryz.results34]
  go_simp

theorem setR_zero (c : Cp) (v : Int) : setR c 0 v = c := by unfold setR; simp

set_option maxHeartbeats 1000000 in
set_option maxRecDepth 100000 in
theorem kput_any {w0 : World} {B g h : Nat} {A : As} {c : Cp} (d : Nat) (hd : d < 16) (v : Int) (w : World) (s : KS w0 B g h A c w) :
    Calls Tryz.prog 36 #[.pointer (some ⟨h, 0, none⟩), .int .u8 (d : Int), .int .u32 v] w fun r w' => r = .returned (.tuple #[]) ∧ KS w0 B g h A (setR c d v) w' := by
  have HS := Lib.hid s
  have h16 : (d : Int) < 16 := by omega
  by_cases h0 : d = 0
  · subst h0
    rw [setR_zero]
    clear s hd
    go_enter Tryz.func36, Tryz.ntmps36
    go_wp2
    go_end0
    exact ⟨rfl, HS.out⟩
  · have HF : Hid (KS w0 B g h A (setR c d v) (w.setCell ⟨h, d, none⟩ (.int .u32 v))) := Lib.hid (s.setR d v hd h0)
    have hc := s.k.reg d hd
    have hn : ((d : Int) != 0) = true := by rw [bne_iff_ne]; omega
    have hz : (h : Nat) < w.heap.size := Blk.lt s.k
    have hf : w.frozen? ⟨h, d, none⟩ = false := Blk.frozen s.k d
    clear s hd h0
    go_enter Tryz.func36, Tryz.ntmps36
    go_wp2
    go_end0
    exact ⟨rfl, HF.out⟩

theorem kop_any (fn x y : Int) (h1 : 1 ≤ fn) (h14 : fn ≤ 14) (hx0 : 0 ≤ x) (hx : x < 4294967296) (hy0 : 0 ≤ y) (hy : y < 4294967296) (w : World) :
    Calls Tryz.prog 37 #[.int .u8 fn, .int .u32 x, .int .u32 y] w fun e w' => e = .returned (.int .u32 (O.opI fn x y)) ∧ w' = w := by
  have HL := Lib.hid (O.rop_any fn x y h1 h14 hx0 hx hy0 hy w)
  clear h1 h14 hx0 hx hy0 hy
  go_enter Tryz.func37, Tryz.ntmps37
  go_wp2_with (go_at_call 72; refine HL.out.mono ?_; rintro e w1 ⟨rfl, rfl⟩)
  go_ret
  exact ⟨rfl, rfl⟩

theorem ret_b {a b : Bool} (h : a = b) : Ending.returned (.bool a) = .returned (.bool b) := by rw [h]
theorem goes_no (op x y : Int) (h : op ≠ 40 ∧ op ≠ 41 ∧ op ≠ 43 ∧ op ≠ 44 ∧ op ≠ 45 ∧ op ≠ 46) : goes op x y = false := by
  unfold goes; rw [decide_eq_false_iff_not]; omega

set_option maxHeartbeats 2000000 in
set_option maxRecDepth 100000 in
theorem kbranches_any (h : Nat) (c : Cp) (op im : Int) (d a b : Nat) (ha : a < 16) (hb : b < 16) (w : World) (hk : KAt w h c) :
    Calls Tryz.prog 39 #[.pointer (some ⟨h, 0, none⟩), .agg #[.int .u8 op, .int .u8 (d : Int), .int .u8 (a : Int), .int .u8 (b : Int), .int .u32 im]] w
      fun r w' => r = .returned (.bool (goes op (c.r a) (c.r b))) ∧ Below w.heap.size w w' := by
  obtain ⟨wb, hwb⟩ : ∃ wb, wb = w.alloc (.cells #[.int .u8 op, .int .u8 (d : Int), .int .u8 (a : Int), .int .u8 (b : Int), .int .u32 im] 61) := ⟨_, rfl⟩
  have hbl : Below w.heap.size w wb := by rw [hwb]; exact (Below.refl _ _).alloc (Nat.le_refl _) _
  have hk2 := hk.below hbl
  have ca := hk2.reg a ha
  have cb := hk2.reg b hb
  have a16 : (a : Int) < 16 := by omega
  have b16 : (b : Int) < 16 := by omega
  obtain ⟨X, hX⟩ : ∃ X, X = c.r a := ⟨_, rfl⟩
  obtain ⟨Y, hY⟩ : ∃ Y, Y = c.r b := ⟨_, rfl⟩
  obtain ⟨k, hk0⟩ : ∃ k, k = w.heap.size := ⟨_, rfl⟩
  have hB : Blk wb k 61 [.int .u8 op, .int .u8 (d : Int), .int .u8 (a : Int), .int .u8 (b : Int), .int .u32 im] := by rw [hwb, hk0]; exact Blk.new _ _ _
  have c0 : wb.cell? ⟨k, 0, none⟩ = some (.int .u8 op) := by rw [hB.cell]; rfl
  have c2 : wb.cell? ⟨k, 2, none⟩ = some (.int .u8 (a : Int)) := by rw [hB.cell]; rfl
  have c3 : wb.cell? ⟨k, 3, none⟩ = some (.int .u8 (b : Int)) := by rw [hB.cell]; rfl
  have HBL := Lib.hid hbl
  have HW := Lib.hid hwb
  have HK0 := Lib.hid hk0
  rw [← hX] at ca ⊢
  rw [← hY] at cb ⊢
  clear hX hY hB hk hk2 hbl ha hb hwb hk0
  go_enter Tryz.func39, Tryz.ntmps39
  go_upto_region 1 with (fail)
  rw [← HW.out, ← HK0.out]
  go_quiet (fail)
  have fin : ∀ z : Bool, z = goes op X Y → ∀ n, (Ending.returned (.bool z) = .returned (.bool (goes op X Y)) ∧ Below w.heap.size w (wb.drewN n)) := fun z hz n => ⟨ret_b hz, HBL.out.trans ((below_drewN wb n).mono HBL.out.size)⟩
  have FIN := Lib.hid fin
  clear fin HW HK0 HBL ca cb c2 c3 a16 b16
  have hcase : op = 40 ∨ op = 41 ∨ op = 43 ∨ op = 44 ∨ op = 45 ∨ op = 46 ∨ (op ≠ 40 ∧ op ≠ 41 ∧ op ≠ 43 ∧ op ≠ 44 ∧ op ≠ 45 ∧ op ≠ 46) := by omega
  rcases hcase with rfl | rfl | rfl | rfl | rfl | rfl | hno
  · go_wp2
    go_ret
    exact FIN.out _ (by unfold goes; simp) _
  · go_wp2
    go_ret
    exact FIN.out _ (by unfold goes; simp) _
  · go_wp2
    go_ret
    exact FIN.out _ (by unfold goes; rw [Bool.eq_iff_iff]; simp) _
  · go_wp2
    go_ret
    exact FIN.out _ (by unfold goes; rw [Bool.eq_iff_iff]; simp) _
  · go_wp2
    go_ret
    exact FIN.out _ (by unfold goes; rw [Bool.eq_iff_iff]; simp) _
  · go_wp2
    go_ret
    exact FIN.out _ (by unfold goes; rw [Bool.eq_iff_iff]; simp) _
  · have HN := Lib.hid hno
    have t0 : (op == 40) = false := by rw [beq_eq_false_iff_ne]; exact hno.1
    have t1 : (op == 41) = false := by rw [beq_eq_false_iff_ne]; exact hno.2.1
    have t3 : (op == 43) = false := by rw [beq_eq_false_iff_ne]; exact hno.2.2.1
    have t4 : (op == 44) = false := by rw [beq_eq_false_iff_ne]; exact hno.2.2.2.1
    have t5 : (op == 45) = false := by rw [beq_eq_false_iff_ne]; exact hno.2.2.2.2.1
    have t6 : (op == 46) = false := by rw [beq_eq_false_iff_ne]; exact hno.2.2.2.2.2
    clear hno
    go_wp2
    go_ret
    exact FIN.out _ (goes_no op X Y HN.out).symm _
end Go.Proofs.YtgdbhmlmioihpaaGreatDoor
end
