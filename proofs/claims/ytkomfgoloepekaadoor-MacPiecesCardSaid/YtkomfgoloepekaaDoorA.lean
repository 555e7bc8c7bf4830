/- sha's functions on numbers: right, mix, spread, choose, majority. -/
import Derived.Test.YtkomfgoloepekaaDoorProg
import Derived.Test.YtkomfgoloepekaaDoorM
import Derived.WalkKit
import Derived.WalkSpells
import Derived.WalkLawsBesides
import Derived.LoopTactic
import Derived.Outline
import Derived.Lib.Hide
import Derived.Laws.OwnMore
import Derived.Laws.BitsAllLaws
import Derived.Deep.QuietTactic
import Derived.BigQuiet
import Derived.IntWalk
set_option linter.unusedVariables false
namespace Go.Proofs.YtkomfgoloepekaaDoor
open Go.RowKit

theorem ret_u32 {a b : Int} (h : a = b) : Ending.returned (.int .u32 a) = .returned (.int .u32 b) := by rw [h]
theorem rotr_eq (x n : Nat) (hx : x < 4294967296) : bits .or .u32 ((x : Int) * 2 ^ (32 - n) % 4294967296) ((x : Int) / 2 ^ n) = (rotr x n : Nat) := by
  have e1 : ((x : Int) / 2 ^ n) = ((x / 2 ^ n : Nat) : Int) := by simp
  have e3 : ((x : Int) * 2 ^ (32 - n) % 4294967296) = ((x * 2 ^ (32 - n) % 4294967296 : Nat) : Int) := by simp
  rw [e1, e3, u32_or_nat _ _ (Nat.mod_lt _ (by decide)) (Nat.lt_of_le_of_lt (Nat.div_le_self _ _) hx), Nat.or_comm]
  rfl

theorem rotl_any (x s m : Nat) (k : Int) (hx : x < 4294967296) (hs : 1 ≤ s) (hs2 : s ≤ 31) (hm : m + s = 32) (hk : bits .and .u64 (IntKind.u64.wrap k) 31 = (m : Int)) (w : World) :
    Calls Tryd.prog 45 #[.int .u32 (x : Int), .int .i64 k] w fun e w' => e = .returned (.int .u32 (rotr x s : Nat)) ∧ w = w' := by
  have HE := Lib.hid (rotr_eq x s hx)
  rw [show 32 - s = m by omega] at HE
  have HS : Hid (s = 32 - m) := Lib.hid (by omega)
  rw [show s = 32 - m by omega] at HE ⊢
  generalize rotr x (32 - m) = r at *
  obtain ⟨y, hy⟩ : ∃ y : Int, y = (x : Int) := ⟨_, rfl⟩
  rw [← hy] at HE ⊢
  have h0 : 0 ≤ y := by omega
  have h1 : y < 4294967296 := by omega
  have h2 : (0 : Int) ≤ (m : Int) := by omega
  have h3 : (m : Int) ≤ 31 := by omega
  clear hy hx hs hs2 hm HS
  go_enter Tryd.func45, Tryd.ntmps45
  go_wp2
  go_ret
  exact ⟨ret_u32 HE.out, rfl⟩

theorem and31 (n : Nat) (h1 : 1 ≤ n) (h2 : n ≤ 31) : bits .and .u64 (IntKind.u64.wrap (-(n : Int))) 31 = ((32 - n : Nat) : Int) := by
  have h : ∀ n : Fin 32, 1 ≤ n.val → bits .and .u64 (IntKind.u64.wrap (-(n.val : Int))) 31 = ((32 - n.val : Nat) : Int) := by decide +kernel
  exact h ⟨n, by omega⟩ h1
theorem right_any (x n : Nat) (hx : x < 4294967296) (hn : 1 ≤ n) (hn2 : n ≤ 31) (w : World) :
    Calls Tryd.prog 44 #[.int .u32 (x : Int), .int .i64 (n : Int)] w fun e w' => e = .returned (.int .u32 (rotr x n : Nat)) ∧ w = w' := by
  have HC := Lib.hid (fun w => rotl_any x n (32 - n) (-(n : Int)) hx hn hn2 (by omega) (and31 n hn hn2) w)
  generalize rotr x n = r at *
  go_enter Tryd.func44, Tryd.ntmps44
  go_wp2_with fail
  refine (HC.out _).mono ?_
  rintro e w' ⟨rfl, rfl⟩
  go_wp2
  go_ret
  exact ⟨rfl, rfl⟩

theorem xor_eq (a b : Nat) (ha : a < 4294967296) (hb : b < 4294967296) : bits .xor .u32 (a : Int) (b : Int) = ((a ^^^ b : Nat) : Int) := u32_xor_nat a b ha hb
theorem mix_any (x i j k : Nat) (hx : x < 4294967296) (hi : 1 ≤ i) (hi2 : i ≤ 31) (hj : 1 ≤ j) (hj2 : j ≤ 31) (hk : 1 ≤ k) (hk2 : k ≤ 31) (w : World) :
    Calls Tryd.prog 38 #[.int .u32 (x : Int), .int .i64 (i : Int), .int .i64 (j : Int), .int .i64 (k : Int)] w fun e w' => e = .returned (.int .u32 (rotr x i ^^^ rotr x j ^^^ rotr x k : Nat)) ∧ w = w' := by
  have H1 := Lib.hid (fun w => right_any x i hx hi hi2 w)
  have H2 := Lib.hid (fun w => right_any x j hx hj hj2 w)
  have H3 := Lib.hid (fun w => right_any x k hx hk hk2 w)
  have l1 := rotr_lt x i hx
  have l2 := rotr_lt x j hx
  have l3 := rotr_lt x k hx
  have E1 := Lib.hid (xor_eq _ _ l1 l2)
  have E2 := Lib.hid (xor_eq _ _ (xor_lt32 _ _ l1 l2) l3)
  clear l1 l2 l3
  generalize rotr x i = a at *
  generalize rotr x j = b at *
  generalize rotr x k = c at *
  go_enter Tryd.func38, Tryd.ntmps38
  go_wp2_with fail
  refine (H1.out _).mono ?_; rintro e w' ⟨rfl, rfl⟩
  go_wp2_with fail
  refine (H2.out _).mono ?_; rintro e w' ⟨rfl, rfl⟩
  go_wp2_with fail
  refine (H3.out _).mono ?_; rintro e w' ⟨rfl, rfl⟩
  go_wp2
  go_ret
  exact ⟨ret_u32 (by rw [E1.out, E2.out]), rfl⟩

theorem not_lit : (if IntKind.u32.signed = true then (-1 : Int) else IntKind.u32.max) = 4294967295 := by decide
theorem choose_any (e f g : Nat) (he : e < 4294967296) (hf : f < 4294967296) (hg : g < 4294967296) (w : World) :
    Calls Tryd.prog 39 #[.int .u32 (e : Int), .int .u32 (f : Int), .int .u32 (g : Int)] w fun r w' => r = .returned (.int .u32 (Sh.ch e f g : Nat)) ∧ w = w' := by
  have HE : Hid (bits .or .u32 (bits .and .u32 (e : Int) (f : Int)) (bits .and .u32 (bits .xor .u32 4294967295 (e : Int)) (g : Int)) = (Sh.ch e f g : Nat)) := by
    have h0 : (4294967295 : Int) = ((4294967295 : Nat) : Int) := rfl
    refine Lib.hid ?_
    rw [h0, xor_eq _ _ (by omega) he, u32_and_nat _ _ he hf, u32_and_nat _ _ (xor_lt32 _ _ (by omega) he) hg, u32_or_nat _ _ (and_lt32 _ _ hf) (and_lt32 _ _ hg), ch_or _ _ _ he]; rfl
  generalize Sh.ch e f g = r at *
  clear he hf hg
  go_enter Tryd.func39, Tryd.ntmps39
  go_wp2
  go_ret
  refine ⟨ret_u32 ?_, rfl⟩
  rw [← HE.out]
  first | rfl | (rw [not_lit])

theorem majority_any (a b c : Nat) (ha : a < 4294967296) (hb : b < 4294967296) (hc : c < 4294967296) (w : World) :
    Calls Tryd.prog 40 #[.int .u32 (a : Int), .int .u32 (b : Int), .int .u32 (c : Int)] w fun r w' => r = .returned (.int .u32 (Sh.maj a b c : Nat)) ∧ w = w' := by
  have HE : Hid (bits .or .u32 (bits .or .u32 (bits .and .u32 (a : Int) (b : Int)) (bits .and .u32 (a : Int) (c : Int))) (bits .and .u32 (b : Int) (c : Int)) = (Sh.maj a b c : Nat)) := by
    refine Lib.hid ?_
    rw [u32_and_nat _ _ ha hb, u32_and_nat _ _ ha hc, u32_and_nat _ _ hb hc, u32_or_nat _ _ (and_lt32 _ _ hb) (and_lt32 _ _ hc), u32_or_nat _ _ (or_lt32 _ _ (and_lt32 _ _ hb) (and_lt32 _ _ hc)) (and_lt32 _ _ hc), maj_or]; rfl
  generalize Sh.maj a b c = r at *
  clear ha hb hc
  go_enter Tryd.func40, Tryd.ntmps40
  go_wp2
  go_ret
  exact ⟨ret_u32 HE.out, rfl⟩

theorem right_q (x n : Nat) (hx : x < 4294967296) (hn : 1 ≤ n) (hn2 : n ≤ 31) (w : World) :
    Calls Tryd.prog 44 #[.int .u32 (x : Int), .int .i64 (n : Int)] w fun e w' => e = .returned (.int .u32 (rotr x n : Nat)) ∧ w' = w := (right_any x n hx hn hn2 w).mono fun _ _ ⟨h1, h2⟩ => ⟨h1, h2.symm⟩
set_option maxHeartbeats 1000000 in
theorem spread_any (x i j k : Nat) (hx : x < 4294967296) (hi : 1 ≤ i) (hi2 : i ≤ 31) (hj : 1 ≤ j) (hj2 : j ≤ 31) (hk : 1 ≤ k) (hk2 : k ≤ 31) (w : World) :
    Calls Tryd.prog 43 #[.int .u32 (x : Int), .int .i64 (i : Int), .int .i64 (j : Int), .int .i64 (k : Int)] w fun e w' => e = .returned (.int .u32 (rotr x i ^^^ rotr x j ^^^ (x / 2 ^ k) : Nat)) ∧ ∃ n, w' = w.drewN n := by
  have H1 : Hid (∀ w, Calls Tryd.prog 44 #[.int .u32 (x : Int), .int .i64 (i : Int)] w fun e w' => e = .returned (.int .u32 (rotr x i : Nat)) ∧ w' = w) := Lib.hid (fun w => right_q x i hx hi hi2 w)
  have H2 : Hid (∀ w, Calls Tryd.prog 44 #[.int .u32 (x : Int), .int .i64 (j : Int)] w fun e w' => e = .returned (.int .u32 (rotr x j : Nat)) ∧ w' = w) := Lib.hid (fun w => right_q x j hx hj hj2 w)
  have l1 := rotr_lt x i hx
  have l2 := rotr_lt x j hx
  have l3 : x / 2 ^ k < 4294967296 := Nat.lt_of_le_of_lt (Nat.div_le_self _ _) hx
  have E1 := Lib.hid (xor_eq _ _ l1 l2)
  have E2 := Lib.hid (xor_eq _ _ (xor_lt32 _ _ l1 l2) l3)
  have E3 : Hid (((x / 2 ^ k : Nat) : Int) = (x : Int) / 2 ^ k) := Lib.hid (by simp)
  clear l1 l2 l3
  generalize rotr x i = a at *
  generalize rotr x j = b at *
  go_enter Tryd.func43, Tryd.ntmps43
  go_wp2_with fail
  go_quiet ((go_at_call 44; first | exact Calls.quiet_of_same (H1.out _) | exact Calls.quiet_of_same (H2.out _)))
  go_wp2
  go_ret
  exact ⟨ret_u32 (by rw [E1.out, ← E3.out, E2.out]), _, rfl⟩
end Go.Proofs.YtkomfgoloepekaaDoor
