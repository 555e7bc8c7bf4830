/- What package word's Get, PutHigh, GetHigh, Hex and Unhex do, for whatever they are called with. -/
import Derived.Test.YthagofalneadjaaE
set_option linter.unusedVariables false
namespace Go.Proofs.Ythagofalneadjaa
open Go.RowKit

def getV (s : ByteArray) : Int := (Wd.getN s.data.toList : Nat)
def getE (s : ByteArray) : Int := Wd.getE s.data.toList
def rev (s : ByteArray) : ByteArray := ⟨s.data.toList.reverse.toArray⟩

theorem shl_bound (b k : Nat) (hb : b < 256) (hk : k < 4) : b * 2 ^ (8 * k) < 4294967296 := by
  have h : k = 0 ∨ k = 1 ∨ k = 2 ∨ k = 3 := by omega
  rcases h with rfl | rfl | rfl | rfl <;> simp <;> omega

theorem get_step (l : List UInt8) (k V : Nat) (hk : k < 4) (hl : k < l.length) (hV : Wd.unle (l.take k) = V) :
    bits .or .u32 (V : Int) ((l[k].toNat : Int) % 4294967296 * 2 ^ (8 * k) % 4294967296) = (Wd.unle (l.take (k + 1)) : Nat) := by
  have hb := l[k].toNat_lt
  have hB := shl_bound l[k].toNat k hb hk
  have hlen : (l.take k).length = k := by simp; omega
  have hVlt : V < 256 ^ k := by rw [← hV]; have := Wd.unle_lt (l.take k); rw [hlen] at this; exact this
  have e : (256 : Nat) ^ k = 2 ^ (8 * k) := by rw [Nat.pow_mul]
  have hlt : V < 4294967296 := by
    have h1 : (256 : Nat) ^ k ≤ 256 ^ 3 := Nat.pow_le_pow_right (by decide) (by omega)
    have h2 : (256 : Nat) ^ 3 = 16777216 := by decide
    omega
  have e2 : ((l[k].toNat : Int) * 2 ^ (8 * k) % 4294967296) = ((l[k].toNat * 2 ^ (8 * k) : Nat) : Int) := by
    have : ((l[k].toNat : Int) * 2 ^ (8 * k)) = ((l[k].toNat * 2 ^ (8 * k) : Nat) : Int) := by simp
    rw [this]; omega
  rw [show ((l[k].toNat : Int) % 4294967296) = (l[k].toNat : Int) by omega, e2, u32_or_nat _ _ hlt hB, Nat.or_comm, nat_join (8 * k) _ _ (Nat.mul_mod_left _ _) (by rw [← e]; exact hVlt)]
  rw [List.take_succ_eq_append_getElem hl, Wd.unle_append, hV, hlen]
  simp only [Wd.unle, Nat.mul_zero, Nat.add_zero]
  rw [e, Nat.mul_comm, Nat.add_comm]

set_option maxHeartbeats 1000000 in
set_option maxRecDepth 100000 in
theorem get_ok (s : ByteArray) (h1 : 1 ≤ s.size) (h4 : s.size ≤ 4) (r : Nat) (hr : Hid (Wd.unle s.data.toList = r)) (w : World) :
    Calls Try.prog 14 #[.string s] w fun e w' => e = .returned (.tuple #[.int .u32 r, .int .i64 0]) ∧ w = w' := by
  go_enter Try.func14, Try.ntmps14
  go_wp2
  go_loop [4, 16] (fun v i => ∃ k V : Nat, k ≤ s.size ∧ i = .int .i64 k ∧ v = .int .u32 V ∧ Hid (Wd.unle (s.data.toList.take k) = V)) (fun _ i => s.size - (intOf i).toNat)
  case atStart => exact ⟨0, 0, Nat.zero_le _, rfl, rfl, Lib.hid rfl⟩
  case round =>
    obtain ⟨k, V, hk, rfl, rfl, HV⟩ := hrel
    by_cases hlt : k < s.size
    · have S := Lib.hid (get_step s.data.toList k V (by omega) (by simpa using hlt) HV.out)
      go_wp2
      go_round
      case rel => exact ⟨k + 1, _, by omega, by go_num, congrArg (Value.int .u32) S.out, Lib.hid rfl⟩
      case measure => simp [intOf]; omega
    · go_wp2
      go_ret2
      refine ⟨?_, rfl⟩
      have e : V = r := by
        rw [← HV.out, ← hr.out, List.take_of_length_le (by rw [data_len]; omega)]
      subst e
      rfl

set_option maxHeartbeats 1000000 in
theorem get_no (s : ByteArray) (h : s.size < 1 ∨ 4 < s.size) (hs : s.size ≤ 140737488355327) (w : World) :
    Calls Try.prog 14 #[.string s] w fun e w' => e = .returned (.tuple #[.int .u32 0, .int .i64 2]) ∧ w = w' := by
  by_cases h1 : s.size < 1
  · clear h
    go_enter Try.func14, Try.ntmps14
    go_wp2
    go_ret2
    exact ⟨rfl, rfl⟩
  · have h2 : 4 < s.size := by omega
    clear h
    go_enter Try.func14, Try.ntmps14
    go_wp2
    go_ret2
    exact ⟨rfl, rfl⟩

theorem get_any (s : ByteArray) (hs : s.size ≤ 140737488355327) (w : World) :
    Calls Try.prog 14 #[.string s] w fun e w' => e = .returned (.tuple #[.int .u32 (getV s), .int .i64 (getE s)]) ∧ w = w' := by
  by_cases h : s.size < 1 ∨ 4 < s.size
  · have e1 : getV s = 0 := by unfold getV Wd.getN; rw [data_len, if_pos h]; rfl
    have e2 : getE s = 2 := by unfold getE Wd.getE; rw [data_len, if_pos h]
    rw [e1, e2]
    exact get_no s h hs w
  · have e1 : getV s = (Wd.unle s.data.toList : Nat) := by unfold getV Wd.getN; rw [data_len, if_neg h]
    have e2 : getE s = 0 := by unfold getE Wd.getE; rw [data_len, if_neg h]
    rw [e1, e2]
    exact get_ok s (by omega) (by omega) _ (Lib.hid rfl) w

theorem rev_size (s : ByteArray) : (rev s).size = s.size := by
  show s.data.toList.reverse.toArray.size = _
  simp

theorem rev_call (s : ByteArray) (w : World) (hs : s.size ≤ 140737488355327) :
    Calls Try.prog 31 #[.string s] w fun e w' => e = .returned (.string (rev s)) ∧ Below w.heap.size w w' := reverse_any s w hs

def getHV (s : ByteArray) : Int := if s.size = 2 ∨ s.size = 4 then getV (rev s) else 0
def getHE (s : ByteArray) : Int := if s.size = 2 ∨ s.size = 4 then getE (rev s) else 2
def putHS (x n : Int) : ByteArray := if n = 2 ∨ n = 4 then rev (putS x n) else ⟨#[]⟩
def putHE (x n : Int) : Int := if n = 2 ∨ n = 4 then putE x n else 2

set_option maxHeartbeats 1000000 in
theorem geth_no (s : ByteArray) (h : ¬ (s.size = 2 ∨ s.size = 4)) (hs : s.size ≤ 140737488355327) (w : World) :
    Calls Try.prog 16 #[.string s] w fun e w' => e = .returned (.tuple #[.int .u32 0, .int .i64 2]) ∧ w = w' := by
  have t1 : ((s.size : Int) != 2) = true := by rw [bne_iff_ne]; omega
  have t2 : ((s.size : Int) != 4) = true := by rw [bne_iff_ne]; omega
  clear h
  go_enter Try.func16, Try.ntmps16
  go_wp2
  go_ret2
  exact ⟨rfl, rfl⟩

set_option maxHeartbeats 1000000 in
theorem geth_yes (s : ByteArray) (h : s.size = 2 ∨ s.size = 4) (w : World) :
    Calls Try.prog 16 #[.string s] w fun e w' => e = .returned (.tuple #[.int .u32 (getV (rev s)), .int .i64 (getE (rev s))]) ∧ Below w.heap.size w w' := by
  have HR := Lib.hid (fun w => rev_call s w (by omega))
  have HG := Lib.hid (fun w => get_any (rev s) (by rw [rev_size]; omega) w)
  generalize rev s = t at *
  have t1 : ((s.size : Int) != 2 && (s.size : Int) != 4) = false := by
    rcases h with h | h <;> rw [h] <;> decide
  rcases h with h | h
  · have t2 : ((s.size : Int) != 2) = false := by rw [h]; decide
    have Hh := Lib.hid h
    clear h t1
    go_enter Try.func16, Try.ntmps16
    go_wp2_with (first | (go_at_call 31; refine (HR.out _).mono ?_; rintro e w1 ⟨rfl, hb1⟩) | (go_at_call 14; refine (HG.out _).mono ?_; rintro e w2 ⟨rfl, rfl⟩))
    go_ret2
    exact ⟨rfl, hb1⟩
  · have t2 : ((s.size : Int) != 2) = true := by rw [h]; decide
    have t3 : ((s.size : Int) != 4) = false := by rw [h]; decide
    have Hh := Lib.hid h
    clear h t1
    go_enter Try.func16, Try.ntmps16
    go_wp2_with (first | (go_at_call 31; refine (HR.out _).mono ?_; rintro e w1 ⟨rfl, hb1⟩) | (go_at_call 14; refine (HG.out _).mono ?_; rintro e w2 ⟨rfl, rfl⟩))
    go_ret2
    exact ⟨rfl, hb1⟩

theorem geth_any (s : ByteArray) (hs : s.size ≤ 140737488355327) (w : World) :
    Calls Try.prog 16 #[.string s] w fun e w' => e = .returned (.tuple #[.int .u32 (getHV s), .int .i64 (getHE s)]) ∧ Below w.heap.size w w' := by
  by_cases h : s.size = 2 ∨ s.size = 4
  · have e1 : getHV s = getV (rev s) := by unfold getHV; rw [if_pos h]
    have e2 : getHE s = getE (rev s) := by unfold getHE; rw [if_pos h]
    rw [e1, e2]; exact geth_yes s h w
  · have e1 : getHV s = 0 := by unfold getHV; rw [if_neg h]
    have e2 : getHE s = 2 := by unfold getHE; rw [if_neg h]
    rw [e1, e2]
    refine (geth_no s h hs w).mono ?_
    rintro e w' ⟨rfl, rfl⟩
    exact ⟨rfl, Below.refl _ _⟩

theorem putS_size (x n : Int) : (putS x n).size ≤ 4 := by
  show (Wd.putL x.toNat n).toArray.size ≤ 4
  unfold Wd.putL
  split
  · rename_i h
    unfold Wd.putE at h
    split at h
    · omega
    · simp [Wd.le_length]; omega
  · simp

set_option maxHeartbeats 1000000 in
theorem puth_no (x n : Int) (h : ¬ (n = 2 ∨ n = 4)) (w : World) :
    Calls Try.prog 12 #[.int .u32 x, .int .i64 n] w fun e w' => e = .returned (.tuple #[.string ⟨#[]⟩, .int .i64 2]) ∧ w = w' := by
  have t1 : (n != 2) = true := by rw [bne_iff_ne]; omega
  have t2 : (n != 4) = true := by rw [bne_iff_ne]; omega
  clear h
  go_enter Try.func12, Try.ntmps12
  go_wp2
  go_ret2
  exact ⟨rfl, rfl⟩

set_option maxHeartbeats 1000000 in
theorem puth_yes (x n : Int) (h0 : 0 ≤ x) (h1 : x < 4294967296) (h : n = 2 ∨ n = 4) (w : World) :
    Calls Try.prog 12 #[.int .u32 x, .int .i64 n] w fun e w' => e = .returned (.tuple #[.string (rev (putS x n)), .int .i64 (putE x n)]) ∧ Below w.heap.size w w' := by
  have HP := Lib.hid (fun w => put_any x n h0 h1 w)
  have HR := Lib.hid (fun w => rev_call (putS x n) w (by have := putS_size x n; omega))
  generalize putS x n = t at *
  generalize putE x n = u at *
  clear h0 h1
  rcases h with rfl | rfl
  all_goals
    go_enter Try.func12, Try.ntmps12
    go_wp2_with (first | (go_at_call 10; refine (HP.out _).mono ?_; rintro e w1 ⟨rfl, hb1⟩) | (go_at_call 31; refine (HR.out _).mono ?_; rintro e w2 ⟨rfl, hb2⟩))
    go_ret2
    exact ⟨rfl, hb1.trans (hb2.mono hb1.size)⟩

theorem puth_any (x n : Int) (h0 : 0 ≤ x) (h1 : x < 4294967296) (w : World) :
    Calls Try.prog 12 #[.int .u32 x, .int .i64 n] w fun e w' => e = .returned (.tuple #[.string (putHS x n), .int .i64 (putHE x n)]) ∧ Below w.heap.size w w' := by
  by_cases h : n = 2 ∨ n = 4
  · have e1 : putHS x n = rev (putS x n) := by unfold putHS; rw [if_pos h]
    have e2 : putHE x n = putE x n := by unfold putHE; rw [if_pos h]
    rw [e1, e2]; exact puth_yes x n h0 h1 h w
  · have e1 : putHS x n = ⟨#[]⟩ := by unfold putHS; rw [if_neg h]
    have e2 : putHE x n = 2 := by unfold putHE; rw [if_neg h]
    rw [e1, e2]
    refine (puth_no x n h w).mono ?_
    rintro e w' ⟨rfl, rfl⟩
    exact ⟨rfl, Below.refl _ _⟩

end Go.Proofs.Ythagofalneadjaa
