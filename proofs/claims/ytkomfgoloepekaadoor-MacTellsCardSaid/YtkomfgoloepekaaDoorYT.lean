/- MacTells, walked. -/
import Derived.Test.YtkomfgoloepekaaDoorRX
set_option linter.unusedVariables false
namespace Go.Proofs.YtkomfgoloepekaaDoor
open Go.RowKit

set_option maxHeartbeats 2000000 in
set_option maxRecDepth 100000 in
theorem tells_walk (s t u : ByteArray) (hs1 : s.size ≤ 140737488355328) (ht1 : t.size ≤ 140737488355328) (hu1 : u.size ≤ 140737488355328) (w : World) (hk : Keyed w) :
    Calls Tryd.prog 3 #[.string s, .string t, .string u] w fun e w' => e = .returned (.bool true) ∧ Below w.heap.size w w' := by
  have HK := Lib.hid hk
  have HA := Lib.hid (fun w hk => alive_any w hk)
  have s1 : (s.size : Int) ≤ 140737488355328 := by omega
  have t1 : (t.size : Int) ≤ 140737488355328 := by omega
  have u1 : (u.size : Int) ≤ 140737488355328 := by omega
  clear hk hs1 ht1 hu1
  by_cases hlong : (8192 : Int) < (s.size : Int) + (t.size : Int) + (u.size : Int)
  · go_enter Tryd.func3, Tryd.ntmps3
    go_wp2_with fail
    refine (HA.out _ HK.out).mono ?_; rintro e w1 ⟨rfl, hb⟩
    go_wp2
    go_ret
    exact ⟨rfl, hb⟩
  · have HR := Lib.hid (fun w => rmac_any s t (by omega) (by omega) w)
    have HS := Lib.hid (fun w hk => macsum_any s t w hk (by omega) (by omega))
    have HC := Lib.hid (fun u w hk => maccheck_any s t u w hk (by omega) (by omega))
    obtain ⟨M, hM⟩ : ∃ M, M = str (Mc.mac (nats s) (nats t)) := ⟨_, rfl⟩
    rw [← hM] at HR HS HC
    clear hM
    have HM : Hid (∀ w, Keyed w → Calls Tryd.prog 10 #[.string s, .string t, .string M] w fun e w' => e = .returned (.bool true) ∧ Below w.heap.size w w') := by
      refine Lib.hid (fun w hk => ?_)
      have h := HC.out M w hk
      rw [list_eq _ _ rfl] at h
      exact h
    obtain ⟨x, hx⟩ : ∃ x, x = (M.toList == u.toList) := ⟨_, rfl⟩
    have hx2 : (u.toList == M.toList) = x := by
      rw [hx]
      by_cases h : u = M
      · rw [list_eq _ _ h, list_eq _ _ h.symm]
      · rw [list_ne _ _ h, list_ne _ _ (Ne.symm h)]
    have HU : Hid (∀ w, Keyed w → Calls Tryd.prog 10 #[.string s, .string t, .string u] w fun e w' => e = .returned (.bool x) ∧ Below w.heap.size w w') := by
      refine Lib.hid (fun w hk => ?_)
      have h := HC.out u w hk
      rw [← hx] at h
      exact h
    clear HC hx
    cases x
    case' false => skip
    case' true => skip
    all_goals
      go_enter Tryd.func3, Tryd.ntmps3
      go_wp2_with fail
      refine (HR.out _).mono ?_; rintro e w1 ⟨rfl, hb⟩
      have HK1 := Lib.hid (HK.out.below hb)
      clear HK
      go_wp2_with fail
      refine (HS.out _ HK1.out).mono ?_; rintro e w2 ⟨rfl, q⟩
      have HK2 := Lib.hid (HK1.out.below q)
      replace hb := hb.trans (q.mono hb.size); clear q HK1
      go_wp2_with fail
      refine (HU.out _ HK2.out).mono ?_; rintro e w3 ⟨rfl, q⟩
      have HK3 := Lib.hid (HK2.out.below q)
      replace hb := hb.trans (q.mono hb.size); clear q HK2
      go_wp2_with fail
      refine (HM.out _ HK3.out).mono ?_; rintro e w4 ⟨rfl, q⟩
      have HK4 := Lib.hid (HK3.out.below q)
      replace hb := hb.trans (q.mono hb.size); clear q HK3
      go_wp2_with fail
      refine (HA.out _ HK4.out).mono ?_; rintro e w5 ⟨rfl, q⟩
      replace hb := hb.trans (q.mono hb.size); clear q HK4
      go_wp2
      go_ret
      exact ⟨rfl, hb⟩
end Go.Proofs.YtkomfgoloepekaaDoor
