/- ShaPieces, walked. -/
import Derived.Test.YthdnnkocbpkncaaDoorPA
set_option linter.unusedVariables false
namespace Go.Proofs.YthdnnkocbpkncaaDoor
open Go.RowKit

theorem allNats_small (ss : List ByteArray) (h : ∀ j, j < ss.length → (ss.getD j ⟨#[]⟩).size ≤ 281474976710656) (i : Nat) (hi : i ≤ ss.length) : (allNats (ss.take i)).length ≤ i * 281474976710656 := by
  induction i with
  | zero => simp [allNats]
  | succ i ih =>
    rw [allNats_take ss i (by omega), List.length_append, nats_length]
    have := ih (by omega)
    have := h i (by omega)
    omega

set_option maxHeartbeats 4000000 in
set_option maxRecDepth 100000 in
theorem pieces_walk (a a' : Option Addr) (n c m c' : Nat) (ss : List ByteArray) (zs : Nat → Nat) (w : World) (hk : Keyed w) (hn : ss.length = n) (hnm : n ≤ 281474976710656) (hmm : m ≤ 281474976710656) (hnc : n ≤ c)
    (hcl : ss = [] ∨ ∃ b o, a = some ⟨b, o, none⟩ ∧ b < w.heap.size ∧ ∀ j, j < ss.length → w.cell? ⟨b, o + j, none⟩ = some (.string (ss.getD j ⟨#[]⟩)))
    (hsz : ∀ j, j < ss.length → (ss.getD j ⟨#[]⟩).size ≤ 281474976710656)
    (hcz : m = 0 ∨ ∃ b o, a' = some ⟨b, o, none⟩ ∧ b < w.heap.size ∧ ∀ j, j < m → w.cell? ⟨b, o + j, none⟩ = some (.int .u8 (zs j : Nat)) ∧ zs j < 256) :
    Calls Tryd.prog 4 #[.slice a n c, .slice a' m c'] w fun e w' => e = .returned (.bool true) ∧ Below w.heap.size w w' := by
  have HK := Lib.hid hk
  have HN := Lib.hid hn
  have HC := Lib.hid hcl
  have HZ := Lib.hid hcz
  have HS := Lib.hid hsz
  clear hk hn hcl hcz hsz
  have n0 : (n : Int) ≤ 281474976710656 := by omega
  have m0 : (m : Int) ≤ 281474976710656 := by omega
  have c0 : (n : Int) ≤ (c : Int) := by omega
  clear hnm hmm hnc
  go_enter Tryd.func4, Tryd.ntmps4
  go_wp2
  go_loop [5, 6] (fun t5 t6 => ∃ (i : Nat) (T : Int), (i : Int) ≤ (n : Int) ∧ (i : Int) ≤ 200 ∧ 0 ≤ T ∧ T ≤ (i : Int) * 281474976710656 ∧ t5 = .int .i64 T ∧ t6 = .int .i64 i ∧ Hid (T = ((allNats (ss.take i)).length : Int))) (fun _ t6 => (n - intOf t6).toNat)
  case atStart => exact ⟨0, 0, by omega, by omega, by omega, by omega, rfl, rfl, Lib.hid (by simp [allNats])⟩
  case round =>
    obtain ⟨i, T, hi, hi2, hT0, hT1, rfl, rfl, HT⟩ := hrel
    by_cases hlt : (i : Int) < (n : Int)
    · by_cases hlt2 : (i : Int) < 200
      · obtain ⟨b, o, ha, hbl, hcell⟩ := (HC.out).resolve_left (by rintro rfl; have := HN.out; simp at this; omega)
        have hc0 := hcell i (by have := HN.out; omega)
        have hs0 := HS.out i (by have := HN.out; omega)
        have HA : Hid ((allNats (ss.take (i + 1))).length = (allNats (ss.take i)).length + (ss.getD i ⟨#[]⟩).size) := by
          rw [allNats_take ss i (by have := HN.out; omega), List.length_append, nats_length]; exact Lib.hid rfl
        subst ha
        clear hcell hbl
        generalize ss.getD i ⟨#[]⟩ = s at *
        have i0 : (0 : Int) ≤ (i : Int) := by omega
        have s1 : (s.size : Int) ≤ 281474976710656 := by omega
        have hT2 : T ≤ 200 * 281474976710656 := by omega
        clear hs0
        go_wp2
        go_round
        case rel => exact ⟨i + 1, _, by omega, by omega, by omega, by omega, rfl, by go_num, Lib.hid (by rw [HA.out, HT.out]; omega)⟩
        case measure => simp [intOf]; omega
      · have h200 : i = 200 := by omega
        subst h200
        rw [show ((200 : Nat) : Int) = 200 from rfl] at *
        have hn2 : (200 : Int) < (n : Int) := by omega
        clear hi hT1 hlt hi2 HT
        go_wp2_with fail
        refine (alive_any _ HK.out).mono ?_; rintro e w1 ⟨rfl, hb⟩
        go_wp2
        go_ret
        exact ⟨rfl, hb⟩
    · have hin : i = n := by omega
      subst hin
      by_cases c1 : (60 : Int) < (i : Int)
      · clear HT hT1
        go_wp2_with fail
        refine (alive_any _ HK.out).mono ?_; rintro e w1 ⟨rfl, hb⟩
        go_wp2
        go_ret
        exact ⟨rfl, hb⟩
      · by_cases c2 : (8192 : Int) < T
        · clear HT hT1
          go_wp2_with fail
          refine (alive_any _ HK.out).mono ?_; rintro e w1 ⟨rfl, hb⟩
          go_wp2
          go_ret
          exact ⟨rfl, hb⟩
        · by_cases c3 : (100 : Int) < (m : Int)
          · clear HT hT1
            go_wp2_with fail
            refine (alive_any _ HK.out).mono ?_; rintro e w1 ⟨rfl, hb⟩
            go_wp2
            go_ret
            exact ⟨rfl, hb⟩
          · have HTot : Hid ((allNats ss).length ≤ 8192) := by
              have h := HT.out
              rw [List.take_of_length_le (by have := HN.out; omega)] at h
              exact Lib.hid (by omega)
            have n1 : (i : Int) ≤ 60 := by omega
            have m1 : (m : Int) ≤ 100 := by omega
            clear HT hT1 n0 m0 hi2
            go_wp2_with fail
            refine (new_any _).mono ?_; rintro e w1 ⟨g, rfl, hg, hh, hb⟩
            have HGB := Lib.hid hg
            have HG : Hid (g ≠ 0) := Lib.hid (by have := HK.out.1; omega)
            have HH := Lib.hid hh
            clear hg hh hlt hi c1 c2 c3 hT0
            go_wp2
            have HA0 : Hid (allNats (ss.take 0) = []) := Lib.hid rfl
            go_loopw [8, 9, 10] (fun t8 t9 t10 wr => ∃ (p q : Nat) (u : ByteArray), (p : Int) ≤ (i : Int) ∧ (q : Int) ≤ (m : Int) ∧ t8 = .string u ∧ t9 = .int .i64 p ∧ t10 = .int .i64 q ∧ Hid (nats u = allNats (ss.take p)) ∧ Hid (HashOf wr g (allNats (ss.take p))) ∧ Below w.heap.size w wr) (fun _ _ t10 _ => (m - intOf t10).toNat)
            case atStart => exact ⟨0, 0, ⟨#[]⟩, by omega, by omega, rfl, rfl, rfl, Lib.hid rfl, by rw [HA0.out]; exact HH, hb⟩
            case round =>
              clear HH hb HA0
              obtain ⟨p, q, u, hp, hq, rfl, rfl, rfl, HU, HO, hb⟩ := hrel
              by_cases hq1 : (q : Int) < (m : Int)
              · by_cases hp1 : (p : Int) < (i : Int)
                · obtain ⟨b, o, ha, hbl, hcell⟩ := (HC.out).resolve_left (by rintro rfl; have := HN.out; simp at this; omega)
                  obtain ⟨b', o', ha', hbl', hz⟩ := (HZ.out).resolve_left (by omega)
                  subst ha ha'
                  obtain ⟨hz1, hz2⟩ := hz q (by omega)
                  have hcz : wr.cell? ⟨b', o' + q, none⟩ = some (.int .u8 (zs q : Nat)) := (hb.cell (p := ⟨b', o' + q, none⟩) hbl').trans hz1
                  clear hz1 hz
                  generalize zs q = z at *
                  have q0 : (0 : Int) ≤ (q : Int) := by omega
                  have p0 : (0 : Int) ≤ (p : Int) := by omega
                  have z0 : (0 : Int) ≤ (z : Int) := by omega
                  have z1 : (z : Int) < 256 := by omega
                  obtain ⟨K, hK⟩ : ∃ K : Nat, min (i : Int) ((p : Int) + (z : Int) % 4) = (K : Int) := ⟨(min (i : Int) ((p : Int) + (z : Int) % 4)).toNat, by omega⟩
                  have hK1 : (p : Int) ≤ (K : Int) := by omega
                  have hK2 : (K : Int) ≤ (i : Int) := by omega
                  have hK3 : (K : Int) ≤ (c : Int) := by omega
                  have hpc : ¬ c = p := by omega
                  have hpc2 : ¬ (c : Int) = (p : Int) := by omega
                  clear hz2
                  obtain ⟨i0, hi, hzz0, hzz1, hzz2⟩ := info_parts infoStr
                  have HMl : Hid ((mid ss p K).length = K - p) := Lib.hid (mid_length ss p K (by omega) (by have := HN.out; omega))
                  have HNews : Hid (∀ j u, (strs (mid ss p K))[j]? = some u → wr.cell? ((⟨b, o + p, none⟩ : Addr).add j) = some u) :=
                    Lib.hid (news_mid (fun j hj => (hb.cell (p := ⟨b, o + j, none⟩) hbl).trans (hcell j hj)) p K (by omega) (by have := HN.out; omega))
                  have HCell := Lib.hid hcell
                  have HBl := Lib.hid hbl
                  clear hcell hbl hbl'
                  have a1 : (strs (mid ss p K)).length = (K - p) * 1 := by rw [strs_length, HMl.out, Nat.mul_one]
                  have a2 : 0 + (K - p) ≤ maxLen := by unfold maxLen; omega
                  have a3 : (0 + (K - p)) * 16 ≤ 140737488355328 := by omega
                  have A1 := Lib.hid a1
                  have A2 := Lib.hid a2
                  have A3 := Lib.hid a3
                  clear a1 a2 a3
                  go_wp2_with (at_builtin; refine wpList_append_own _ rfl (.const (.slice none 0 0)) (.tmp 70) 25 rfl wr.heap.size 9 i0 (.string ⟨#[]⟩) 1 16 Tryd.underlying25 hi hzz0 hzz1 hzz2 rfl (by decide) _ 0 [] rfl (World.ownsRow_nil _ _ _ _) ⟨b, o + p, none⟩ (K - p) _ (strs (mid ss p K)) rfl A1.out HNews.out (strs_one _) A2.out A3.out (Nat.le_refl _) ?_; intro v' w2 hown hgrow _)
                  have hb2 : Below w.heap.size w w2 := hb.grown hgrow hb.size (fun k hk => by have h : (none : Option Nat) = some k := hk; cases h)
                  have hh2 : HashOf w2 g (allNats (ss.take p)) := HO.out.keep (hgrow.block g HO.out.lt (by intro h; have h' : some g = (none : Option Nat) := h; cases h'))
                  have hown2 : w2.ownsRow wr.heap.size 9 1 v' (mid ss p K).length (strs (mid ss p K)) := by
                    have h := hown
                    rw [Nat.zero_add, List.nil_append, ← HMl.out] at h
                    exact h
                  have HE : Hid (allNats (ss.take K) = allNats (ss.take p) ++ allNats (mid ss p K)) := Lib.hid (allNats_mid ss p K (by omega))
                  have HT8 : Hid ((allNats (ss.take K)).length ≤ 8192) := Lib.hid (Nat.le_trans (allNats_le ss K) HTot.out)
                  have HW : Hid (Calls Tryd.prog 10 #[.pointer (some ⟨g, 0, none⟩), v'] w2 fun e w' => e = .returned (.int .i64 0) ∧ HashOf w' g (allNats (ss.take p) ++ allNats (mid ss p K)) ∧ w2.grownBy w' (some g)) :=
                    Lib.hid (writes_any g v' (mid ss p K) _ w2 (HK.out.below hb2) HG.out hh2 (strs_of_own hown2 HO.out.lt) (by have h := HE.out; have h2 := HT8.out; rw [h, List.length_append] at h2; omega) (by rw [HMl.out]; omega))
                  clear hown hgrow hown2 hh2 hb HO A1 A2 A3 HNews HMl
                  go_wp2_with fail
                  refine HW.out.mono ?_; rintro e w3 ⟨rfl, hh3, hg3⟩
                  have hb3 := Below.ofGrown hb2 hg3 HGB.out hb2.size
                  have HO3 : Hid (HashOf w3 g (allNats (ss.take K))) := by rw [HE.out]; exact Lib.hid hh3
                  clear hh3 hg3 hb2 HW HE
                  have HCell3 : Hid (∀ j, j < ss.length → w3.cell? ⟨b, o + j, none⟩ = some (.string (ss.getD j ⟨#[]⟩))) := Lib.hid (fun j hj => (hb3.cell (p := ⟨b, o + j, none⟩) HBl.out).trans (HCell.out j hj))
                  clear HCell HBl hcz hK hpc hpc2 z0 z1
                  go_wp2_with fail
                  go_loop [8, 9] (fun t8 t9 => ∃ (j : Nat) (u2 : ByteArray), (p : Int) ≤ (j : Int) ∧ (j : Int) ≤ (K : Int) ∧ t8 = .string u2 ∧ t9 = .int .i64 j ∧ Hid (nats u2 = allNats (ss.take j))) (fun _ t9 => (K - intOf t9).toNat)
                  case atStart => exact ⟨p, u, by omega, by omega, rfl, rfl, HU⟩
                  case round =>
                    clear HU
                    obtain ⟨j, u2, hj, hj2, rfl, rfl, HU⟩ := hrel
                    by_cases hj3 : (j : Int) < (K : Int)
                    · have hc3 := HCell3.out j (by have := HN.out; omega)
                      have HA : Hid (nats (u2 ++ ss.getD j ⟨#[]⟩) = allNats (ss.take (j + 1))) := by
                        rw [allNats_take ss j (by have := HN.out; omega), nats_add, HU.out]; exact Lib.hid rfl
                      have hsum : u2.size + (ss.getD j ⟨#[]⟩).size ≤ 8192 := by
                        have h1 := allNats_le ss (j + 1)
                        have h2 := HTot.out
                        have h3 := nats_length (u2 ++ ss.getD j ⟨#[]⟩)
                        rw [HA.out, ByteArray.size_append] at h3
                        omega
                      generalize ss.getD j ⟨#[]⟩ = s at *
                      have j0 : (0 : Int) ≤ (j : Int) := by omega
                      have j1 : (j : Int) < (i : Int) := by omega
                      have g1 : ¬ (((u2.size + s.size : Nat) : Int) > IntKind.i64.max) := by rw [IntKind.max_i64]; omega
                      have g2 : ¬ ((u2.size : Int) + (s.size : Int) > IntKind.i64.max) := by rw [IntKind.max_i64]; omega
                      have g3 : (u2.size : Int) + (s.size : Int) ≤ 8192 := by omega
                      go_wp2
                      go_round
                      case rel => exact ⟨j + 1, _, by omega, by omega, rfl, by go_num, HA⟩
                      case measure => simp [intOf]; omega
                    · have hjK : j = K := by omega
                      subst hjK
                      have HLen : Hid (((allNats (ss.take j)).length : Int) = (u2.size : Int)) := by rw [← HU.out, nats_length]; exact Lib.hid rfl
                      have HL := Lib.hid (len_any g _ w3 HO3.out)
                      rw [HLen.out] at HL
                      have HU8 : Hid (u2.size ≤ 4294967296) := Lib.hid (by have := HLen.out; have := HT8.out; omega)
                      clear hj hj2 hj3 HCell3 hK1 hK3
                      go_wp2_with fail
                      refine HL.out.mono ?_; rintro e w4 ⟨rfl, rfl⟩
                      by_cases h3 : (q : Int) % 3 = 0
                      · have hk3 := HK.out.below hb3
                        have HS1 : Hid (Calls Tryd.prog 12 #[.pointer (some ⟨g, 0, none⟩)] w3 fun e w' => e = .returned (.string (str (Sh.sum (allNats (ss.take j))))) ∧ Below w3.heap.size w3 w') := Lib.hid (hsum_any g _ w3 hk3 HO3.out (by have := HT8.out; omega))
                        have HS2 : Hid (∀ w', Keyed w' → Calls Tryd.prog 6 #[.string u2] w' fun e w'' => e = .returned (.string (str (Sh.sum (allNats (ss.take j))))) ∧ Below w'.heap.size w' w'') := Lib.hid (fun w' hk => by
                          have h := sum_any u2 w' hk HU8.out
                          rw [HU.out] at h
                          exact h)
                        generalize str (Sh.sum (allNats (ss.take j))) = S at *
                        have HK3 := Lib.hid hk3
                        clear hk3
                        go_wp2_with fail
                        refine HS1.out.mono ?_; rintro e w4 ⟨rfl, q4⟩
                        have HK4 := Lib.hid (HK3.out.below q4)
                        have HO4 := Lib.hid (HO3.out.below q4 HO3.out.lt)
                        replace hb3 := hb3.trans (q4.mono hb3.size); clear q4
                        go_wp2_with fail
                        refine (HS2.out _ HK4.out).mono ?_; rintro e w5 ⟨rfl, q5⟩
                        have HO5 := Lib.hid (HO4.out.below q5 HO4.out.lt)
                        replace hb3 := hb3.trans (q5.mono hb3.size); clear q5 HS1 HS2 HK3 HK4 HO3 HO4 HL
                        go_wp2
                        go_roundw
                        case rel => exact ⟨j, q + 1, u2, by omega, by omega, rfl, rfl, by go_num, HU, HO5, hb3⟩
                        case measure => simp [intOf]; omega
                      · clear HL
                        go_wp2
                        go_roundw
                        case rel => exact ⟨j, q + 1, u2, by omega, by omega, rfl, rfl, by go_num, HU, HO3, hb3⟩
                        case measure => simp [intOf]; omega
                · have hk3 := HK.out.below hb
                  have HU8 : Hid (u.size ≤ 4294967296) := Lib.hid (by have h1 := allNats_le ss p; have := HTot.out; have h2 := nats_length u; rw [HU.out] at h2; omega)
                  have HS0 : Hid ((str (Sh.sum (allNats (ss.take p)))).size = 32) := Lib.hid (sum_size _)
                  have HS1 : Hid (∀ w', Keyed w' → HashOf w' g (allNats (ss.take p)) → Calls Tryd.prog 12 #[.pointer (some ⟨g, 0, none⟩)] w' fun e w'' => e = .returned (.string (str (Sh.sum (allNats (ss.take p))))) ∧ Below w'.heap.size w' w'') := Lib.hid (fun w' hk hh => hsum_any g _ w' hk hh (by have h1 := allNats_le ss p; have := HTot.out; omega))
                  have HS2 : Hid (∀ w', Keyed w' → Calls Tryd.prog 6 #[.string u] w' fun e w'' => e = .returned (.string (str (Sh.sum (allNats (ss.take p))))) ∧ Below w'.heap.size w' w'') := Lib.hid (fun w' hk => by
                    have h := sum_any u w' hk HU8.out
                    rw [HU.out] at h
                    exact h)
                  generalize str (Sh.sum (allNats (ss.take p))) = S at *
                  have HK3 := Lib.hid hk3
                  have hS32 : (S.size : Int) = 32 := by have := HS0.out; omega
                  clear hk3 HU8 HU HS0
                  go_wp2_with fail
                  refine (HS1.out _ HK3.out HO.out).mono ?_; rintro e w4 ⟨rfl, q4⟩
                  have HK4 := Lib.hid (HK3.out.below q4)
                  have HO4 := Lib.hid (HO.out.below q4 HO.out.lt)
                  replace hb := hb.trans (q4.mono hb.size); clear q4 HK3 HO
                  go_wp2_with fail
                  refine (HS2.out _ HK4.out).mono ?_; rintro e w5 ⟨rfl, q5⟩
                  have HK5 := Lib.hid (HK4.out.below q5)
                  have HO5 := Lib.hid (HO4.out.below q5 HO4.out.lt)
                  replace hb := hb.trans (q5.mono hb.size); clear q5 HK4 HO4
                  go_wp2_with fail
                  refine (HS1.out _ HK5.out HO5.out).mono ?_; rintro e w6 ⟨rfl, q6⟩
                  have HK6 := Lib.hid (HK5.out.below q6)
                  replace hb := hb.trans (q6.mono hb.size); clear q6 HK5 HO5
                  go_wp2_with fail
                  refine (alive_any _ HK6.out).mono ?_; rintro e w7 ⟨rfl, q7⟩
                  replace hb := hb.trans (q7.mono hb.size); clear q7 HK6
                  go_wp2
                  go_ret
                  exact ⟨rfl, hb⟩
              · have hk3 := HK.out.below hb
                have HU8 : Hid (u.size ≤ 4294967296) := Lib.hid (by have h1 := allNats_le ss p; have := HTot.out; have h2 := nats_length u; rw [HU.out] at h2; omega)
                have HS0 : Hid ((str (Sh.sum (allNats (ss.take p)))).size = 32) := Lib.hid (sum_size _)
                have HS1 : Hid (∀ w', Keyed w' → HashOf w' g (allNats (ss.take p)) → Calls Tryd.prog 12 #[.pointer (some ⟨g, 0, none⟩)] w' fun e w'' => e = .returned (.string (str (Sh.sum (allNats (ss.take p))))) ∧ Below w'.heap.size w' w'') := Lib.hid (fun w' hk hh => hsum_any g _ w' hk hh (by have h1 := allNats_le ss p; have := HTot.out; omega))
                have HS2 : Hid (∀ w', Keyed w' → Calls Tryd.prog 6 #[.string u] w' fun e w'' => e = .returned (.string (str (Sh.sum (allNats (ss.take p))))) ∧ Below w'.heap.size w' w'') := Lib.hid (fun w' hk => by
                  have h := sum_any u w' hk HU8.out
                  rw [HU.out] at h
                  exact h)
                generalize str (Sh.sum (allNats (ss.take p))) = S at *
                have HK3 := Lib.hid hk3
                have hS32 : (S.size : Int) = 32 := by have := HS0.out; omega
                clear hk3 HU8 HU HS0
                go_wp2_with fail
                refine (HS1.out _ HK3.out HO.out).mono ?_; rintro e w4 ⟨rfl, q4⟩
                have HK4 := Lib.hid (HK3.out.below q4)
                have HO4 := Lib.hid (HO.out.below q4 HO.out.lt)
                replace hb := hb.trans (q4.mono hb.size); clear q4 HK3 HO
                go_wp2_with fail
                refine (HS2.out _ HK4.out).mono ?_; rintro e w5 ⟨rfl, q5⟩
                have HK5 := Lib.hid (HK4.out.below q5)
                have HO5 := Lib.hid (HO4.out.below q5 HO4.out.lt)
                replace hb := hb.trans (q5.mono hb.size); clear q5 HK4 HO4
                go_wp2_with fail
                refine (HS1.out _ HK5.out HO5.out).mono ?_; rintro e w6 ⟨rfl, q6⟩
                have HK6 := Lib.hid (HK5.out.below q6)
                replace hb := hb.trans (q6.mono hb.size); clear q6 HK5 HO5
                go_wp2_with fail
                refine (alive_any _ HK6.out).mono ?_; rintro e w7 ⟨rfl, q7⟩
                replace hb := hb.trans (q7.mono hb.size); clear q7 HK6
                go_wp2
                go_ret
                exact ⟨rfl, hb⟩
end Go.Proofs.YthdnnkocbpkncaaDoor
