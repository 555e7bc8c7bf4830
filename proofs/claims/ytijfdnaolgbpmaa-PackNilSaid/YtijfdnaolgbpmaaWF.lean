/- What package word's Get, PutHigh, GetHigh, Hex and Unhex do, for whatever they are called with. -/
import Derived.Test.YtijfdnaolgbpmaaWE
set_option linter.unusedVariables false
namespace Go.Proofs.Ytijfdnaolgbpmaa
open Go.RowKit

def getV (s : ByteArray) : Int := (Wd.getN s.data.toList : Nat)
def getE (s : ByteArray) : Int := Wd.getE s.data.toList

theorem shl_bound (b k : Nat) (hb : b < 256) (hk : k < 4) : b * 2 ^ (8 * k) < 4294967296 := by
  have h : k = 0 ∨ k = 1 ∨ k = 2 ∨ k = 3 := by omega
  rcases h with rfl | rfl | rfl | rfl <;> simp <;> omega

theorem get_step (l : List UInt8) (k V : Nat) (hk : k < 4) (hl : k < l.length) (hV : Wd.unle (l.take k) = V) :
    bits .or .u32 (V : Int) ((l[k].toNat : Int) % 4294967296 * 2 ^ (8 * k) % 4294967296) = (Wd.unle (l.take (k + 1)) : Nat) := by
  have hb := l[k].toNat_lt
  have hB := shl_bound l[k].toNat k hb hk
  have hlen : (l.take k).length = k := by simp; omega
  have hVlt : V < 256 ^ k := by rw [← hV]; have := Wd.unle_lt (l.take k); rw [hlen] at this; exact this
  have e : (256 : Nat) ^ k = 2 ^ (8 * k) := by rw [Nat.pow_mul]
  have hlt : V < 4294967296 := by
    have h1 : (256 : Nat) ^ k ≤ 256 ^ 3 := Nat.pow_le_pow_right (by decide) (by omega)
    have h2 : (256 : Nat) ^ 3 = 16777216 := by decide
    omega
  have e2 : ((l[k].toNat : Int) * 2 ^ (8 * k) % 4294967296) = ((l[k].toNat * 2 ^ (8 * k) : Nat) : Int) := by
    have : ((l[k].toNat : Int) * 2 ^ (8 * k)) = ((l[k].toNat * 2 ^ (8 * k) : Nat) : Int) := by simp
    rw [this]; omega
  rw [show ((l[k].toNat : Int) % 4294967296) = (l[k].toNat : Int) by omega, e2, u32_or_nat _ _ hlt hB, Nat.or_comm, nat_join (8 * k) _ _ (Nat.mul_mod_left _ _) (by rw [← e]; exact hVlt)]
  rw [List.take_succ_eq_append_getElem hl, Wd.unle_append, hV, hlen]
  simp only [Wd.unle, Nat.mul_zero, Nat.add_zero]
  rw [e, Nat.mul_comm, Nat.add_comm]

set_option maxHeartbeats 1000000 in
set_option maxRecDepth 100000 in
theorem get_ok (s : ByteArray) (h1 : 1 ≤ s.size) (h4 : s.size ≤ 4) (r : Nat) (hr : Hid (Wd.unle s.data.toList = r)) (w : World) :
    Calls Try.prog 50 #[.string s] w fun e w' => e = .returned (.tuple #[.int .u32 r, .int .i64 0]) ∧ w = w' := by
  go_enter Try.func50, Try.ntmps50
  go_wp2
  go_loop [4, 16] (fun v i => ∃ k V : Nat, k ≤ s.size ∧ i = .int .i64 k ∧ v = .int .u32 V ∧ Hid (Wd.unle (s.data.toList.take k) = V)) (fun _ i => s.size - (intOf i).toNat)
  case atStart => exact ⟨0, 0, Nat.zero_le _, rfl, rfl, Lib.hid rfl⟩
  case round =>
    obtain ⟨k, V, hk, rfl, rfl, HV⟩ := hrel
    by_cases hlt : k < s.size
    · have S := Lib.hid (get_step s.data.toList k V (by omega) (by simpa using hlt) HV.out)
      go_wp2
      go_round
      case rel => exact ⟨k + 1, _, by omega, by go_num, congrArg (Value.int .u32) S.out, Lib.hid rfl⟩
      case measure => simp [intOf]; omega
    · go_wp2
      go_ret2
      refine ⟨?_, rfl⟩
      have e : V = r := by
        rw [← HV.out, ← hr.out, List.take_of_length_le (by rw [data_len]; omega)]
      subst e
      rfl

set_option maxHeartbeats 1000000 in
theorem get_no (s : ByteArray) (h : s.size < 1 ∨ 4 < s.size) (hs : s.size ≤ 140737488355327) (w : World) :
    Calls Try.prog 50 #[.string s] w fun e w' => e = .returned (.tuple #[.int .u32 0, .int .i64 2]) ∧ w = w' := by
  by_cases h1 : s.size < 1
  · clear h
    go_enter Try.func50, Try.ntmps50
    go_wp2
    go_ret2
    exact ⟨rfl, rfl⟩
  · have h2 : 4 < s.size := by omega
    clear h
    go_enter Try.func50, Try.ntmps50
    go_wp2
    go_ret2
    exact ⟨rfl, rfl⟩

theorem get_any (s : ByteArray) (hs : s.size ≤ 140737488355327) (w : World) :
    Calls Try.prog 50 #[.string s] w fun e w' => e = .returned (.tuple #[.int .u32 (getV s), .int .i64 (getE s)]) ∧ w = w' := by
  by_cases h : s.size < 1 ∨ 4 < s.size
  · have e1 : getV s = 0 := by unfold getV Wd.getN; rw [data_len, if_pos h]; rfl
    have e2 : getE s = 2 := by unfold getE Wd.getE; rw [data_len, if_pos h]
    rw [e1, e2]
    exact get_no s h hs w
  · have e1 : getV s = (Wd.unle s.data.toList : Nat) := by unfold getV Wd.getN; rw [data_len, if_neg h]
    have e2 : getE s = 0 := by unfold getE Wd.getE; rw [data_len, if_neg h]
    rw [e1, e2]
    exact get_ok s (by omega) (by omega) _ (Lib.hid rfl) w

end Go.Proofs.Ytijfdnaolgbpmaa
