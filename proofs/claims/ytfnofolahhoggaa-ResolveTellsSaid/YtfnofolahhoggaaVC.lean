/- The document's Check. -/
import Derived.Test.YtfnofolahhoggaaVB
import Derived.Test.YtfnofolahhoggaaUG
set_option linter.unusedVariables false
set_option linter.unusedSimpArgs false
namespace Go.Proofs.Ytfnofolahhoggaa
open Go Go.RowKit Go.Maps Oj Rv

set_option maxHeartbeats 8000000 in
set_option maxRecDepth 100000 in
theorem dCheck_any (l : List Ob) (v : Value) (hf : obsFit l) (w : World) (hA : ObsAt w v l) : Calls Try.prog 10 #[v] w fun e w' => e = .returned (.tuple #[.string (tx (checkL l).1), .int .i64 (checkL l).2]) ∧ Below w.heap.size w w' := by
  have HMy := Lib.hid (dMay_any l v hf w hA)
  have HFs := Lib.hid (fun nm W (hq : Below w.heap.size w W) => dfirst_any l v nm 1 hf W (hA.below hq))
  obtain ⟨a, c, rfl, h2⟩ := hA.two
  obtain ⟨n, hn⟩ : ∃ n, n = l.length := ⟨_, rfl⟩
  have hni : (n : Int) ≤ 3518437208884 := by have := hf.1; omega
  rw [← hn] at h2 HMy HFs ⊢
  have H2 := Lib.hid h2
  have HN := Lib.hid hn
  have HF := Lib.hid hf.2
  obtain ⟨L, hL⟩ : ∃ L, L = linkOk l := ⟨_, rfl⟩
  rw [← hL] at HMy
  have HL := Lib.hid hL
  obtain ⟨R, hR⟩ : ∃ R, R = checkL l := ⟨_, rfl⟩
  rw [← hR]
  have HR := Lib.hid hR
  clear hn h2 hf hA hL hR
  cases L with
  | false =>
    have HRR : Hid (R = ([], 2)) := Lib.hid (HR.out.trans (check_link HL.out.symm))
    go_enter Try.func10, Try.ntmps10
    go_wp2_with fail
    refine HMy.out.mono ?_; rintro e w2 ⟨rfl, q2⟩
    have HB2 := Lib.hid q2
    clear q2
    go_wp2_with fail
    go_ret2
    exact ⟨by rw [HRR.out]; rfl, HB2.out⟩
  | true =>
    have HRD : Hid (∀ p, dupL l = some p → R = ((symP l p).name, 120)) := Lib.hid (fun p hp => HR.out.trans (check_dup HL.out.symm hp))
    have HRN : Hid (dupL l = none → R = ([], 0)) := Lib.hid (fun hp => HR.out.trans (check_ok HL.out.symm hp))
    go_enter Try.func10, Try.ntmps10
    go_wp2_with fail
    refine HMy.out.mono ?_; rintro e w2 ⟨rfl, q2⟩
    have HB2 := Lib.hid q2
    clear q2 HMy HR
    go_wp2_with fail
    go_loopw [4] (fun i wr => ∃ k : Nat, (k : Int) ≤ n ∧ i = .int .i64 k ∧ Hid (∀ p ∈ allB l k, dupP l p = false) ∧ Hid (Below w.heap.size w wr)) (fun i _ => n - (intOf i).toNat)
    case atStart => exact ⟨0, by omega, rfl, Lib.hid fun p hp => absurd hp (by simp [allB]), HB2⟩
    case round =>
      clear HB2
      obtain ⟨k, hk, rfl, HK, HB⟩ := hrel
      by_cases hlt : k < n
      · obtain ⟨wo, rfl⟩ : ∃ wo, wo = wr := ⟨_, rfl⟩
        obtain ⟨gb, o, ai, ci, rfl, hbl, c0, c1, hj⟩ := H2.out k hlt
        have hkl : k < l.length := by rw [← HN.out]; exact hlt
        have hd : decide (k < n) = true := decide_eq_true hlt
        obtain ⟨m, hm⟩ : ∃ m, m = (symsN l k).length := ⟨_, rfl⟩
        have hmi : (m : Int) ≤ 1599289640402 := by have := (HF.out k hkl).2.1; unfold symsN at hm; omega
        rw [← hm] at c1 hj
        have HM := Lib.hid hm
        have HJ := Lib.hid hj
        have HKL := Lib.hid hkl
        have HC1 := Lib.hid c1
        have HBL := Lib.hid hbl
        have HK1 : Hid (∀ p ∈ pre l k 0, dupP l p = false) := Lib.hid (by rw [pre_zero]; exact HK.out)
        clear hm hj hkl c0 c1 HK hbl
        go_wp2_with fail
        go_loopw [5] (fun i wr => ∃ j : Nat, (j : Int) ≤ m ∧ i = .int .i64 j ∧ Hid (∀ p ∈ pre l k j, dupP l p = false) ∧ Hid (Below w.heap.size w wr)) (fun i _ => m - (intOf i).toNat)
        case atStart => exact ⟨0, by omega, rfl, HK1, HB⟩
        case round =>
          clear HB HK1
          obtain ⟨j, hj, rfl, HK, HB⟩ := hrel
          have hbr0 : gb < wr.heap.size := Nat.lt_of_lt_of_le HBL.out HB.out.size
          have d1 := (HB.out.cell (p := ⟨gb, o + k * 2 + 1, none⟩) HBL.out).trans HC1.out
          by_cases hjt : j < m
          · obtain ⟨bi, oi, vr, vn, rfl, hbi, hL, hr0, hn0⟩ := HJ.out j hjt
            have hjl : j < (symsN l k).length := by rw [← HM.out]; exact hjt
            have hd2 : decide (j < m) = true := decide_eq_true hjt
            obtain ⟨c0, c1, c2, c3, c4, c5, c6⟩ := (hL.below HB.out hbi).sy
            have hbr : bi < wr.heap.size := Nat.lt_of_lt_of_le hbi HB.out.size
            obtain ⟨ra, rc, hrv, _⟩ := hr0
            obtain ⟨na, nc, hnv, _⟩ := hn0
            subst hrv hnv
            have HDH : Hid (dupP l (k, j) = true → R = ((symP l (k, j)).name, 120)) := Lib.hid (fun h => HRD.out _ (dup_hit HKL.out hjl HK.out h))
            have HDN : Hid (dupP l (k, j) = false → ∀ p ∈ pre l k (j + 1), dupP l p = false) := Lib.hid (fun h => dup_next HK.out h)
            have HD1 : Hid ((symP l (k, j)).bind ≠ 1 → dupP l (k, j) = false) := Lib.hid (fun h => by unfold dupP; rw [decide_eq_false h, Bool.false_and])
            have HD2 := Lib.hid (fun (h : (symP l (k, j)).bind = 1) => dup_first HKL.out hjl h)
            obtain ⟨s, hs⟩ : ∃ s, s = symP l (k, j) := ⟨_, rfl⟩
            rw [← hs] at c0 c1 c2 c3 c4 c5 c6 HDH HD1 HD2
            obtain ⟨U, hU⟩ : ∃ u, u = tx s.name := ⟨_, rfl⟩
            obtain ⟨u1, g1⟩ : ∃ u, u = s.bind := ⟨_, rfl⟩
            obtain ⟨u2, g2⟩ : ∃ u, u = s.kind := ⟨_, rfl⟩
            obtain ⟨u3, g3⟩ : ∃ u, u = s.size := ⟨_, rfl⟩
            obtain ⟨u4, g4⟩ : ∃ u, u = tx s.bytes := ⟨_, rfl⟩
            obtain ⟨rn, hrn⟩ : ∃ x, x = s.rels.length := ⟨_, rfl⟩
            obtain ⟨nn, hnn⟩ : ∃ x, x = s.notes.length := ⟨_, rfl⟩
            have hby : s.name = by' U := by rw [hU, by_tx]
            rw [← hU] at c0
            rw [← g1] at c1 HD1 HD2
            rw [← g2] at c2
            rw [← g3] at c3
            rw [← g4] at c4
            rw [← hrn] at c5
            rw [← hnn] at c6
            rw [hby] at HD2 HDH
            obtain ⟨X, Y, B, hp, -, -, hX, hY⟩ := plT_parts (fstB l (allP l) (by' U) 1)
            have HD3 : Hid (u1 = 1 → dupP l (k, j) = decide (¬ (X = (k : Int) ∧ Y = (j : Int)))) := Lib.hid (fun h => by
              rw [HD2.out h, hX, hY]
              refine decide_eq_decide.2 ⟨fun h h2 => h ?_, fun h h2 => h ?_⟩
              · exact Prod.ext (by simp only; omega) (by simp only; omega)
              · rw [h2]; exact ⟨rfl, rfl⟩)
            have HC := Lib.hid (fun W (hq : Below w.heap.size w W) => HFs.out U W hq)
            rw [hp] at HC
            have HBa := Lib.hid (below_box HB.out (.cells #[.string U, .int .u8 u1, .int .u8 u2, .int .u32 u3, .string u4, .slice ra rn rc, .slice na nn nc] 50))
            have HYa := Lib.hid (Blk.new wr 50 [.string U, .int .u8 u1, .int .u8 u2, .int .u32 u3, .string u4, .slice ra rn rc, .slice na nn nc])
            obtain ⟨D, hD⟩ : ∃ D, D = dupP l (k, j) := ⟨_, rfl⟩
            rw [← hD] at HDH HDN HD1 HD3
            clear hs hU g1 g2 g3 g4 hrn hnn hL hjl hp hX hY HD2 hD hby HK
            go_wp2_with fail
            clear d1 c0 c1 c2 c3 c4 c5 c6
            refine (HC.out _ HBa.out).mono ?_; rintro e w6 ⟨rfl, q6⟩
            have HB6 := Lib.hid (below_box (below_call HBa.out q6) (.cells #[.int .i64 X, .int .i64 Y] 24))
            have HY6 := Lib.hid ((HYa.out.call q6).alloc (.cells #[.int .i64 X, .int .i64 Y] 24))
            have HZ6 := Lib.hid (Blk.new w6 24 [.int .i64 X, .int .i64 Y])
            clear q6 HC HBa HYa
            have s0 := HY6.out.cell 0
            have s1 := HY6.out.cell 1
            simp only [List.getElem?_cons_zero, List.getElem?_cons_succ] at s0 s1
            have hl1 := HY6.out.lt
            obtain ⟨t0, t1, -, -, hl2⟩ := HZ6.out.st2
            by_cases hb1 : u1 = 1
            · have hbt : (u1 == 1) = true := by rw [hb1]; rfl
              have hDD := HD3.out hb1
              clear hb1 HD1 HD3
              by_cases hX : X = (k : Int)
              · by_cases hY : Y = (j : Int)
                · subst hX hY
                  have HK6 := Lib.hid (HDN.out (by rw [hDD]; exact decide_eq_false (fun h => h ⟨rfl, rfl⟩)))
                  clear hDD HDN HDH
                  go_wp2_with fail
                  go_roundw
                  case rel => exact ⟨j + 1, by omega, by go_num, HK6, HB6⟩
                  case measure => simp [intOf]; omega
                · subst hX
                  have HRR : Hid (R = (by' U, 120)) := Lib.hid (HDH.out (by rw [hDD]; exact decide_eq_true (fun h => hY h.2)))
                  have hne : (Y == (j : Int)) = false := by rw [beq_eq_false_iff_ne]; exact hY
                  have hne2 : decide (Y = (j : Int)) = false := decide_eq_false hY
                  clear hDD HDN HDH
                  go_wp2_with fail
                  go_ret2
                  exact ⟨by rw [HRR.out, tx_by]; rfl, HB6.out⟩
              · have HRR : Hid (R = (by' U, 120)) := Lib.hid (HDH.out (by rw [hDD]; exact decide_eq_true (fun h => hX h.1)))
                have hne : (X == (k : Int)) = false := by rw [beq_eq_false_iff_ne]; exact hX
                have hne2 : decide (X = (k : Int)) = false := decide_eq_false hX
                clear hDD HDN HDH
                go_wp2_with fail
                go_ret2
                exact ⟨by rw [HRR.out, tx_by]; rfl, HB6.out⟩
            · have hbt : (u1 == 1) = false := by rw [beq_eq_false_iff_ne]; exact hb1
              have HK6 := Lib.hid (HDN.out (HD1.out hb1))
              clear hb1 HD1 HD3 HDN HDH
              go_wp2_with fail
              go_roundw
              case rel => exact ⟨j + 1, by omega, by go_num, HK6, HB6⟩
              case measure => simp [intOf]; omega
          · obtain rfl : j = m := by omega
            have hd2 : decide (j < j) = false := decide_eq_false (by omega)
            have HK6 : Hid (∀ p ∈ allB l (k + 1), dupP l p = false) := Lib.hid (by rw [← pre_row, ← HM.out]; exact HK.out)
            clear hjt HK
            go_wp2_with fail
            go_roundw
            case rel => exact ⟨k + 1, by omega, by go_num, HK6, HB⟩
            case measure => simp [intOf]; omega
      · obtain rfl : k = n := by omega
        have hd : decide (k < k) = false := decide_eq_false (by omega)
        have HRR : Hid (R = ([], 0)) := Lib.hid (HRN.out (dup_none (by unfold allP; rw [← HN.out]; exact HK.out)))
        clear hlt HK
        go_wp2_with fail
        go_ret2
        exact ⟨by rw [HRR.out]; rfl, HB.out⟩
end Go.Proofs.Ytfnofolahhoggaa
