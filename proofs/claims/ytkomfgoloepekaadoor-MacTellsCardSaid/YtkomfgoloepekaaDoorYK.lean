/- MacKeys, walked. -/
import Derived.Test.YtkomfgoloepekaaDoorML
set_option linter.unusedVariables false
namespace Go.Proofs.YtkomfgoloepekaaDoor
open Go.RowKit

theorem zeros_row {B n : Nat} {v : Value} {w : World} (h : w.ownsRow B 5 1 v n (madeCells (Value.int .u8 0).cells (n * 1)).toList) : OwnB B (List.replicate n 0) v w := by
  unfold OwnB
  have e : (madeCells (Value.int .u8 0).cells (n * 1)).toList = u8s (List.replicate n 0) := by
    rw [show u8s (List.replicate n 0) = List.replicate n (Value.int .u8 0) by simp [u8s], List.eq_replicate_iff]
    refine ⟨by simp [madeCells], fun b hb => ?_⟩
    simp only [madeCells, Array.toList_map, List.mem_map] at hb
    obtain ⟨x, _, rfl⟩ := hb
    simp [Value.cells, Nat.mod_one]
  rw [e] at h
  simpa using h
theorem keys_sum (s : ByteArray) (h : 64 < s.size) (t : ByteArray) : str (Mc.mac (nats (str (Sh.sum (nats s)))) (nats t)) = str (Mc.mac (nats s) (nats t)) := by
  rw [nats_str _ (Mc.sum_small _), Mc.mac_of_block (Mc.block_of_sum (nats s) (by rw [nats_length]; exact h))]
theorem keys_zeros (s : ByteArray) (n : Nat) (h : s.size + n ≤ 64) (t : ByteArray) : str (Mc.mac (nats (s ++ str (List.replicate n 0))) (nats t)) = str (Mc.mac (nats s) (nats t)) := by
  rw [nats_append, nats_str _ (fun x hx => by rw [List.mem_replicate] at hx; omega), Mc.mac_of_block (Mc.block_of_zeros (nats s) n (by rw [nats_length]; exact h))]

set_option maxHeartbeats 2000000 in
set_option maxRecDepth 100000 in
theorem keys_walk (s t : ByteArray) (m : Nat) (hm : m < 256) (hs1 : s.size ≤ 140737488355328) (ht1 : t.size ≤ 140737488355328) (w : World) (hk : Keyed w) :
    Calls Tryd.prog 5 #[.string s, .string t, .int .u8 (m : Int)] w fun e w' => e = .returned (.bool true) ∧ Below w.heap.size w w' := by
  have HK := Lib.hid hk
  have HA := Lib.hid (fun w hk => alive_any w hk)
  have s1 : (s.size : Int) ≤ 140737488355328 := by omega
  have t1 : (t.size : Int) ≤ 140737488355328 := by omega
  clear hk hs1 ht1
  by_cases hlong : (4096 : Int) < (s.size : Int) + (t.size : Int)
  · go_enter Tryd.func5, Tryd.ntmps5
    go_wp2_with fail
    refine (HA.out _ HK.out).mono ?_; rintro e w1 ⟨rfl, hb⟩
    go_wp2
    go_ret
    exact ⟨rfl, hb⟩
  · have HSz : Hid (s.size ≤ 4096 ∧ t.size ≤ 4096) := Lib.hid (by omega)
    have HS := Lib.hid (fun w hk => macsum_any s t w hk (by omega) (by omega))
    have HQ : Hid (∀ u : ByteArray, u.size ≤ 4294967296 → str (Mc.mac (nats u) (nats t)) = str (Mc.mac (nats s) (nats t)) → ∀ w, Keyed w → Calls Tryd.prog 9 #[.string u, .string t] w fun e w' => e = .returned (.string (str (Mc.mac (nats s) (nats t)))) ∧ Below w.heap.size w w') := by
      refine Lib.hid (fun u hu he w hk => ?_)
      have h := macsum_any u t w hk hu (by have := HSz.out; omega)
      rw [he] at h
      exact h
    by_cases h64 : 64 < s.size
    · have h64' : (64 : Int) < (s.size : Int) := by omega
      have HU : Hid (∀ w, Keyed w → Calls Tryd.prog 9 #[.string (str (Sh.sum (nats s))), .string t] w fun e w' => e = .returned (.string (str (Mc.mac (nats s) (nats t)))) ∧ Below w.heap.size w w') :=
        Lib.hid (HQ.out _ (by rw [size_str, Sh.sum_length]; omega) (keys_sum s h64 t))
      have HM := Lib.hid (fun w hk => sum_any s w hk (by omega))
      generalize str (Mc.mac (nats s) (nats t)) = M at *
      generalize str (Sh.sum (nats s)) = U at *
      clear HQ h64
      go_enter Tryd.func5, Tryd.ntmps5
      go_wp2_with fail
      refine (HS.out _ HK.out).mono ?_; rintro e w1 ⟨rfl, hb⟩
      have HK1 := Lib.hid (HK.out.below hb)
      clear HK
      go_wp2_with fail
      refine (HM.out _ HK1.out).mono ?_; rintro e w2 ⟨rfl, q⟩
      have HK2 := Lib.hid (HK1.out.below q)
      replace hb := hb.trans (q.mono hb.size); clear q HK1
      go_wp2_with fail
      refine (HU.out _ HK2.out).mono ?_; rintro e w3 ⟨rfl, q⟩
      have HK3 := Lib.hid (HK2.out.below q)
      replace hb := hb.trans (q.mono hb.size); clear q HK2
      go_wp2_with fail
      refine (HA.out _ HK3.out).mono ?_; rintro e w4 ⟨rfl, q⟩
      replace hb := hb.trans (q.mono hb.size); clear q HK3
      go_wp2
      go_ret
      exact ⟨rfl, hb⟩
    · have h64' : (s.size : Int) ≤ 64 := by omega
      obtain ⟨n, hn⟩ : ∃ n, n = m % (65 - s.size) := ⟨_, rfl⟩
      have hn2 : s.size + n ≤ 64 := by have := Nat.mod_lt m (show 0 < 65 - s.size by omega); omega
      have hn3 : (m : Int) % (65 - (s.size : Int)) = (n : Int) := by
        rw [hn, show (65 : Int) - (s.size : Int) = ((65 - s.size : Nat) : Int) by omega]; simp
      obtain ⟨U, hU⟩ : ∃ U, U = str (List.replicate n 0) := ⟨_, rfl⟩
      have hUs : U.size = n := by rw [hU, size_str, List.length_replicate]
      have HU : Hid (∀ w, Keyed w → Calls Tryd.prog 9 #[.string (s ++ U), .string t] w fun e w' => e = .returned (.string (str (Mc.mac (nats s) (nats t)))) ∧ Below w.heap.size w w') :=
        Lib.hid (HQ.out _ (by rw [ByteArray.size_append]; omega) (by rw [hU]; exact keys_zeros s n hn2 t))
      have HUd := Lib.hid hU
      generalize str (Mc.mac (nats s) (nats t)) = M at *
      clear HQ h64 hn hU
      have u1 : (U.size : Int) ≤ 64 := by omega
      have n1 : (n : Int) ≤ 64 := by omega
      have m0 : (0 : Int) ≤ (m : Int) := by omega
      have m1 : (m : Int) < 256 := by omega
      have HN2 := Lib.hid hn2
      clear hn2 hUs
      obtain ⟨i0, hi, hz0, hz1, hz2⟩ := info_parts infoByte
      go_enter Tryd.func5, Tryd.ntmps5
      go_wp2_with fail
      refine (HS.out _ HK.out).mono ?_; rintro e w1 ⟨rfl, hb⟩
      have HK1 := Lib.hid (HK.out.below hb)
      clear HK
      have hbytes : i0.bytes * n ≤ 281474976710656 := by rw [hz2]; omega
      have hmax : n ≤ maxLen := by unfold maxLen; omega
      have HB := Lib.hid hbytes
      have HX := Lib.hid hmax
      have HBs := Lib.hid hb.size
      clear hbytes hmax
      go_wp2_with (at_make; refine wpList_make_full _ rfl _ _ 33 rfl w.heap.size 5 i0 (.int .u8 0) 1 Tryd.underlying33 hi hz0 hz1 .i64 .i64 _ _ n rfl rfl hn3 hn3 HB.out HX.out HBs.out ?_; intro w2 hown hgrow; have hconv := ownB_text (zeros_row hown) (fun x hx => by rw [List.mem_replicate] at hx; omega); rw [← HUd.out] at hconv)
      replace hb := hb.grown hgrow HBs.out (fun k hk => by have h : (none : Option Nat) = some k := hk; cases h)
      have HK2 : Hid (Keyed w2) := Lib.hid (HK1.out.below ((Below.refl _ _).grown hgrow (Nat.le_refl _) (fun k hk => by have h : (none : Option Nat) = some k := hk; cases h)))
      clear HK1 hown hgrow hconv
      refine (HU.out _ HK2.out).mono ?_; rintro e w3 ⟨rfl, q⟩
      have HK3 := Lib.hid (HK2.out.below q)
      replace hb := hb.trans (q.mono hb.size); clear q HK2
      go_wp2_with fail
      refine (HA.out _ HK3.out).mono ?_; rintro e w4 ⟨rfl, q⟩
      replace hb := hb.trans (q.mono hb.size); clear q HK3
      go_wp2
      go_ret
      exact ⟨rfl, hb⟩
end Go.Proofs.YtkomfgoloepekaaDoor
