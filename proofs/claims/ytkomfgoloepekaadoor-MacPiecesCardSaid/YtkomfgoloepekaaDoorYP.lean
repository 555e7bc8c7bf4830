/- MacPieces, walked. -/
import Derived.Test.YtkomfgoloepekaaDoorML
set_option linter.unusedVariables false
namespace Go.Proofs.YtkomfgoloepekaaDoor
open Go.RowKit

theorem allNats_small (ss : List ByteArray) (h : ∀ j, j < ss.length → (ss.getD j ⟨#[]⟩).size ≤ 281474976710656) (i : Nat) (hi : i ≤ ss.length) : (allNats (ss.take i)).length ≤ i * 281474976710656 := by
  induction i with
  | zero => simp [allNats]
  | succ i ih =>
    rw [allNats_take ss i (by omega), List.length_append, nats_length]
    have := ih (by omega)
    have := h i (by omega)
    omega

set_option maxHeartbeats 4000000 in
set_option maxRecDepth 100000 in
theorem pieces_walk (k : ByteArray) (a : Option Addr) (n c : Nat) (ss : List ByteArray) (w : World) (hk : Keyed w) (hks : k.size ≤ 140737488355328) (hn : ss.length = n) (hnm : n ≤ 281474976710656) (hnc : n ≤ c)
    (hcl : ss = [] ∨ ∃ b o, a = some ⟨b, o, none⟩ ∧ b < w.heap.size ∧ ∀ j, j < ss.length → w.cell? ⟨b, o + j, none⟩ = some (.string (ss.getD j ⟨#[]⟩)))
    (hsz : ∀ j, j < ss.length → (ss.getD j ⟨#[]⟩).size ≤ 281474976710656) :
    Calls Tryd.prog 4 #[.string k, .slice a n c] w fun e w' => e = .returned (.bool true) ∧ Below w.heap.size w w' := by
  have HK := Lib.hid hk
  have HN := Lib.hid hn
  have HC := Lib.hid hcl
  have HS := Lib.hid hsz
  have HA := Lib.hid (fun w hk => alive_any w hk)
  obtain ⟨B, hB⟩ : ∃ B, B = w.heap.size := ⟨_, rfl⟩
  have HB := Lib.hid hB
  have HCR : Hid (0 < B) := by rw [hB]; exact Lib.hid hk.1
  clear hk hn hcl hsz
  have n0 : (n : Int) ≤ 281474976710656 := by omega
  have c0 : (n : Int) ≤ (c : Int) := by omega
  have k0 : (k.size : Int) ≤ 140737488355328 := by omega
  rw [← hB]
  clear hnm hnc hks hB
  go_enter Tryd.func4, Tryd.ntmps4
  go_wp2
  go_loop [5, 6] (fun t5 t6 => ∃ (i : Nat) (T : Int), (i : Int) ≤ (n : Int) ∧ (i : Int) ≤ 200 ∧ 0 ≤ T ∧ T ≤ 140737488355328 + (i : Int) * 281474976710656 ∧ t5 = .int .i64 T ∧ t6 = .int .i64 i ∧ Hid (T = (k.size : Int) + ((allNats (ss.take i)).length : Int))) (fun _ t6 => (n - intOf t6).toNat)
  case atStart => exact ⟨0, _, by omega, by omega, by omega, by omega, rfl, rfl, Lib.hid (by simp [allNats])⟩
  case round =>
    obtain ⟨i, T, hi, hi2, hT0, hT1, rfl, rfl, HT⟩ := hrel
    by_cases hlt : (i : Int) < (n : Int)
    · by_cases hlt2 : (i : Int) < 200
      · obtain ⟨b, o, ha, hbl, hcell⟩ := (HC.out).resolve_left (by rintro rfl; have := HN.out; simp at this; omega)
        have hc0 := hcell i (by have := HN.out; omega)
        have hs0 := HS.out i (by have := HN.out; omega)
        have HA1 : Hid ((allNats (ss.take (i + 1))).length = (allNats (ss.take i)).length + (ss.getD i ⟨#[]⟩).size) := by
          rw [allNats_take ss i (by have := HN.out; omega), List.length_append, nats_length]; exact Lib.hid rfl
        subst ha
        clear hcell hbl
        generalize ss.getD i ⟨#[]⟩ = s at *
        have i0 : (0 : Int) ≤ (i : Int) := by omega
        have s1 : (s.size : Int) ≤ 281474976710656 := by omega
        have hT2 : T ≤ 140737488355328 + 200 * 281474976710656 := by omega
        clear hs0
        go_wp2
        go_round
        case rel => exact ⟨i + 1, _, by omega, by omega, by omega, by omega, rfl, by go_num, Lib.hid (by rw [HA1.out, HT.out]; omega)⟩
        case measure => simp [intOf]; omega
      · have h200 : i = 200 := by omega
        subst h200
        rw [show ((200 : Nat) : Int) = 200 from rfl] at *
        have hn2 : (200 : Int) < (n : Int) := by omega
        clear hi hT1 hlt hi2 HT
        go_wp2_with fail
        refine (HA.out _ HK.out).mono ?_; rintro e w1 ⟨rfl, hb⟩
        rw [← HB.out] at hb
        go_wp2
        go_ret
        exact ⟨rfl, hb⟩
    · have hin : i = n := by omega
      subst hin
      by_cases c1 : (40 : Int) < (i : Int)
      · clear HT hT1
        go_wp2_with fail
        refine (HA.out _ HK.out).mono ?_; rintro e w1 ⟨rfl, hb⟩
        rw [← HB.out] at hb
        go_wp2
        go_ret
        exact ⟨rfl, hb⟩
      · by_cases c2 : (8192 : Int) < T
        · clear HT hT1
          go_wp2_with fail
          refine (HA.out _ HK.out).mono ?_; rintro e w1 ⟨rfl, hb⟩
          rw [← HB.out] at hb
          go_wp2
          go_ret
          exact ⟨rfl, hb⟩
        · have hTot : (allNats ss).length ≤ 8192 ∧ k.size ≤ 8192 := by
            have h := HT.out
            rw [List.take_of_length_le (by have := HN.out; omega)] at h
            omega
          have HTot := Lib.hid hTot
          have n1 : (i : Int) ≤ 40 := by omega
          have HNew : Hid (Calls Tryd.prog 11 #[.string k] w fun e w' => ∃ g h, e = .returned (.pointer (some ⟨g, 0, none⟩)) ∧ MacAt B w' g h (nats k) [] ∧ Below B w w' ∧ Keyed w') := by
            have h := mnew_any k w HK.out (by omega)
            rw [← HB.out] at h
            exact Lib.hid h
          clear HT hT1 n0 hi2 hTot k0
          go_wp2_with fail
          refine HNew.out.mono ?_; rintro e w1 ⟨g, h, rfl, hm, hb, hk1⟩
          have HM := Lib.hid hm
          have HK1 := Lib.hid hk1
          clear hm hk1 hlt hi c1 c2 hT0 HNew
          go_wp2
          have HA0 : Hid (allNats (ss.take 0) = []) := Lib.hid rfl
          go_loopw [8, 9] (fun t8 t9 wr => ∃ (p : Nat) (u : ByteArray), (p : Int) ≤ (i : Int) ∧ t8 = .string u ∧ t9 = .int .i64 p ∧ Hid (nats u = allNats (ss.take p)) ∧ Hid (MacAt B wr g h (nats k) (allNats (ss.take p))) ∧ Hid (Keyed wr) ∧ Below B w wr) (fun _ t9 _ => (i - intOf t9).toNat)
          case atStart => exact ⟨0, ⟨#[]⟩, by omega, rfl, rfl, Lib.hid rfl, by rw [HA0.out]; exact HM, HK1, hb⟩
          case round =>
            clear HM HK1 hb HA0
            obtain ⟨p, u, hp, rfl, rfl, HU, HO, HKr, hb⟩ := hrel
            have hBs : B ≤ wr.heap.size := by have := hb.size; have := HB.out; omega
            by_cases hp1 : (p : Int) < (i : Int)
            · obtain ⟨b, o, ha, hbl, hcell⟩ := (HC.out).resolve_left (by rintro rfl; have := HN.out; simp at this; omega)
              subst ha
              have hc3 : wr.cell? ⟨b, o + p, none⟩ = some (.string (ss.getD p ⟨#[]⟩)) := (hb.cell (p := ⟨b, o + p, none⟩) (by have := HB.out; show b < B; omega)).trans (hcell p (by have := HN.out; omega))
              have HCell : Hid (∀ w', Below B w w' → w'.cell? ⟨b, o + p, none⟩ = some (.string (ss.getD p ⟨#[]⟩))) := Lib.hid (fun w' hb => (hb.cell (p := ⟨b, o + p, none⟩) (by have := HB.out; show b < B; omega)).trans (hcell p (by have := HN.out; omega)))
              have HA1 : Hid (allNats (ss.take (p + 1)) = allNats (ss.take p) ++ nats (ss.getD p ⟨#[]⟩)) := Lib.hid (allNats_take ss p (by have := HN.out; omega))
              have hle : (allNats (ss.take (p + 1))).length ≤ 8192 := Nat.le_trans (allNats_le ss (p + 1)) HTot.out.1
              have HLe := Lib.hid hle
              have HU2 : Hid (nats (u ++ ss.getD p ⟨#[]⟩) = allNats (ss.take (p + 1))) := by rw [nats_append, HU.out, HA1.out]; exact Lib.hid rfl
              have hsum : u.size + (ss.getD p ⟨#[]⟩).size ≤ 8192 := by
                have h3 := nats_length (u ++ ss.getD p ⟨#[]⟩)
                rw [HU2.out, ByteArray.size_append] at h3
                omega
              generalize ss.getD p ⟨#[]⟩ = s at *
              have HW : Hid (Calls Tryd.prog 12 #[.pointer (some ⟨g, 0, none⟩), .slice (some ⟨wr.heap.size, 0, none⟩) 1 1] (wr.alloc (.cells #[.string s] 9)) fun e w' => e = .returned (.int .i64 0) ∧ MacAt B w' g h (nats k) (allNats (ss.take (p + 1))) ∧ Below B w w' ∧ Keyed w') := by
                have hb2 : Below wr.heap.size wr (wr.alloc (.cells #[.string s] 9)) := (Below.refl _ _).alloc (Nat.le_refl _) _
                refine Lib.hid ((mwrite_any B g h _ [s] (nats k) (allNats (ss.take p)) _ (HKr.out.below hb2) HCR.out (Nat.le_trans hBs hb2.size) (HO.out.below hb2) (Texts.one wr h s HO.out.hlt 1) (by have h1 := HLe.out; rw [HA1.out, List.length_append] at h1; rw [allNats_one]; omega) (by simp)).mono fun e w' ⟨h1, h2, h3, h4⟩ => ⟨h1, ?_, (hb.trans (hb2.mono hBs)).trans h3, h4⟩)
                rw [allNats_one, ← HA1.out] at h2
                exact h2
              have p0 : (0 : Int) ≤ (p : Int) := by omega
              have g1 : (u.size : Int) + (s.size : Int) ≤ 8192 := by omega
              clear hcell hbl hle hsum HO HKr hb hBs
              go_wp2_with fail
              refine HW.out.mono ?_; rintro e w2 ⟨rfl, hm2, hb2, hk2⟩
              have HO2 := Lib.hid hm2
              have HK2 := Lib.hid hk2
              have hBs : B ≤ w2.heap.size := by have := hb2.size; have := HB.out; omega
              clear hm2 hk2 HW
              have hc4 := HCell.out w2 hb2
              have HMac : Hid (∀ w', Keyed w' → Calls Tryd.prog 9 #[.string k, .string (u ++ s)] w' fun e w'' => e = .returned (.string (str (Mc.mac (nats k) (allNats (ss.take (p + 1)))))) ∧ Below w'.heap.size w' w'') := Lib.hid (fun w' hk => by
                have h := macsum_any k (u ++ s) w' hk (by have := HTot.out.2; omega) (by rw [ByteArray.size_append]; omega)
                rw [HU2.out] at h
                exact h)
              have HMm : Hid (∀ w', Keyed w' → MacAt B w' g h (nats k) (allNats (ss.take (p + 1))) → Calls Tryd.prog 13 #[.pointer (some ⟨g, 0, none⟩)] w' fun e w'' => e = .returned (.string (str (Mc.mac (nats k) (allNats (ss.take (p + 1)))))) ∧ Below w'.heap.size w' w'') :=
                Lib.hid (fun w' hk hm => mmsum_any B g h _ _ w' hk hm (nats_small k) (by have := HLe.out; omega))
              generalize str (Mc.mac (nats k) (allNats (ss.take (p + 1)))) = S at *
              clear HCell
              by_cases h3 : (p : Int) % 3 = 0
              · go_wp2_with fail
                refine (HMm.out _ HK2.out HO2.out).mono ?_; rintro e w3 ⟨rfl, q3⟩
                have HK3 := Lib.hid (HK2.out.below q3)
                have HO3 := Lib.hid (HO2.out.below q3)
                replace hb2 := hb2.trans (q3.mono hBs)
                replace hBs := Nat.le_trans hBs q3.size
                clear q3 HK2 HO2 hc4
                go_wp2_with fail
                refine (HMac.out _ HK3.out).mono ?_; rintro e w4 ⟨rfl, q4⟩
                have HK4 := Lib.hid (HK3.out.below q4)
                have HO4 := Lib.hid (HO3.out.below q4)
                replace hb2 := hb2.trans (q4.mono hBs)
                clear q4 HK3 HO3 HMac HMm
                go_wp2
                go_roundw
                case rel => exact ⟨p + 1, _, by omega, rfl, by go_num, HU2, HO4, HK4, hb2⟩
                case measure => simp [intOf]; omega
              · clear HMac HMm
                go_wp2
                go_roundw
                case rel => exact ⟨p + 1, _, by omega, rfl, by go_num, HU2, HO2, HK2, hb2⟩
                case measure => simp [intOf]; omega
            · have hle : (allNats (ss.take p)).length ≤ 8192 := Nat.le_trans (allNats_le ss p) HTot.out.1
              have hul : u.size ≤ 8192 := by have h3 := nats_length u; rw [HU.out] at h3; omega
              have HMac : Hid (∀ w', Keyed w' → Calls Tryd.prog 9 #[.string k, .string u] w' fun e w'' => e = .returned (.string (str (Mc.mac (nats k) (allNats (ss.take p))))) ∧ Below w'.heap.size w' w'') := Lib.hid (fun w' hk => by
                have h := macsum_any k u w' hk (by have := HTot.out.2; omega) (by omega)
                rw [HU.out] at h
                exact h)
              have HMm : Hid (∀ w', Keyed w' → MacAt B w' g h (nats k) (allNats (ss.take p)) → Calls Tryd.prog 13 #[.pointer (some ⟨g, 0, none⟩)] w' fun e w'' => e = .returned (.string (str (Mc.mac (nats k) (allNats (ss.take p))))) ∧ Below w'.heap.size w' w'') :=
                Lib.hid (fun w' hk hm => mmsum_any B g h _ _ w' hk hm (nats_small k) (by omega))
              have hS32 : ((str (Mc.mac (nats k) (allNats (ss.take p)))).size : Int) = 32 := by rw [size_str, Mc.mac_length]; rfl
              have HM0 := HMm.out wr HKr.out HO.out
              generalize str (Mc.mac (nats k) (allNats (ss.take p))) = S at *
              have HM1 := Lib.hid HM0
              clear hle hul HU HM0
              go_wp2_with fail
              refine HM1.out.mono ?_; rintro e w3 ⟨rfl, q⟩
              have HK3 := Lib.hid (HKr.out.below q)
              have HO3 := Lib.hid (HO.out.below q)
              replace hb := hb.trans (q.mono hBs)
              replace hBs := Nat.le_trans hBs q.size
              clear q HKr HO HM1
              go_wp2_with fail
              refine (HMac.out _ HK3.out).mono ?_; rintro e w4 ⟨rfl, q⟩
              have HK4 := Lib.hid (HK3.out.below q)
              have HO4 := Lib.hid (HO3.out.below q)
              replace hb := hb.trans (q.mono hBs)
              replace hBs := Nat.le_trans hBs q.size
              clear q HK3 HO3 HMac
              go_wp2_with fail
              refine (HMm.out _ HK4.out HO4.out).mono ?_; rintro e w5 ⟨rfl, q⟩
              have HK5 := Lib.hid (HK4.out.below q)
              replace hb := hb.trans (q.mono hBs)
              replace hBs := Nat.le_trans hBs q.size
              clear q HK4 HO4 HMm
              go_wp2_with fail
              refine (HA.out _ HK5.out).mono ?_; rintro e w6 ⟨rfl, q⟩
              replace hb := hb.trans (q.mono hBs)
              clear q HK5
              go_wp2
              go_ret
              exact ⟨rfl, hb⟩
end Go.Proofs.YtkomfgoloepekaaDoor
