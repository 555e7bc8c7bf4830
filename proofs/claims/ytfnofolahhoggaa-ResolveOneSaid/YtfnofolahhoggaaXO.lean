/- ResolveOne, walked. (written by mk_xo.py) -/
import Derived.Test.YtfnofolahhoggaaXB
import Derived.Test.YtfnofolahhoggaaXM
import Derived.Test.YtfnofolahhoggaaUK
import Derived.Test.YtfnofolahhoggaaGL
import Derived.BigQuiet
set_option linter.unusedVariables false
set_option linter.unusedSimpArgs false
namespace Go.Proofs.Ytfnofolahhoggaa
open Go Go.RowKit Go.Maps Oj Rv

theorem fnd_in {l : List Ob} {n : Nat} {nm : List UInt8} (hn : n < l.length) : ((checkL l).2 ≠ 0 → (fndL l (n : Int) nm).2 = (checkL l).2) ∧ ((checkL l).2 = 0 → fndL l (n : Int) nm = match findL l (n : Int) nm with | none => ((0, 0), 121) | some p => (p, 0)) := by
  unfold fndL
  refine ⟨fun h => by rw [if_pos h], fun h => ?_⟩
  rw [if_neg (fun h2 => h2 h), if_neg (by unfold outL; rw [decide_eq_false (by omega), decide_eq_false (by omega)]; simp)]
  cases findL l (n : Int) nm <;> rfl
theorem check_cases (l : List Ob) : (checkL l).2 = 0 ∨ (checkL l).2 = 2 ∨ (checkL l).2 = 120 := by
  unfold checkL
  split
  · split
    · exact .inr (.inr rfl)
    · exact .inl rfl
  · exact .inr (.inl rfl)

set_option maxHeartbeats 16000000 in
set_option maxRecDepth 100000 in
theorem one_any (l : List Ob) (v : Value) (A : Nat) (nm : ByteArray) (hA8 : A < 256) (hf : obsFit l) (ht : nm.size ≤ 140737488355328) (w : World) (hA : ObsAt w v l) :
    Calls Try.prog 4 #[v, .int .u8 (A : Int), .string nm] w fun e w' => e = .returned (.bool true) ∧ Below w.heap.size w w' := by
  have HLg := Lib.hid (large_any v l hf w hA)
  have HAL := Lib.hid (fun W (hq : Below w.heap.size w W) => (hA.below hq : ObsAt W v l))
  have HF := Lib.hid hf
  have HT := Lib.hid ht
  obtain ⟨a, c, rfl, h2⟩ := hA.two
  obtain ⟨n, hn⟩ : ∃ n, n = l.length := ⟨_, rfl⟩
  have hni : (n : Int) ≤ 3518437208884 := by have := hf.1; omega
  have hti : (nm.size : Int) ≤ 140737488355328 := by omega
  rw [← hn] at HLg HAL h2 ⊢
  have HN := Lib.hid hn
  have H2 := Lib.hid h2
  have HAv := Lib.hid (show ∀ (W : World), Below w.heap.size w W → Calls Try.prog 7 #[] W (fun e w' => e = .returned (.bool true) ∧ Below w.heap.size w w') from fun W hW => (valive_any W).mono (fun e w' h => ⟨h.1, below_call hW h.2⟩))
  unfold LargePost at HLg
  clear hn h2 hf hA ht
  go_enter Try.func4, Try.ntmps4
  go_wp2_with fail
  refine HLg.out.mono ?_; rintro e w1 ⟨bl, rfl, -, q⟩
  have HB1 := Lib.hid q
  clear q HLg
  cases bl with
  | true =>
    go_wp2_with fail
    refine (HAv.out _ HB1.out).mono ?_; rintro e w99 ⟨rfl, q⟩
    have HQ := Lib.hid q
    clear q
    go_wp2_with fail
    go_ret
    exact ⟨rfl, HQ.out⟩
  | false =>
  by_cases h1024 : 1024 < nm.size
  · have hb : (1024 : Int) < (nm.size : Int) := by omega
    go_wp2_with fail
    refine (HAv.out _ HB1.out).mono ?_; rintro e w99 ⟨rfl, q⟩
    have HQ := Lib.hid q
    clear q
    go_wp2_with fail
    go_ret
    exact ⟨rfl, HQ.out⟩
  have hb : (nm.size : Int) ≤ 1024 := by omega
  clear h1024
  by_cases hn0 : n = 0
  · subst hn0
    go_wp2_with fail
    refine (HAv.out _ HB1.out).mono ?_; rintro e w99 ⟨rfl, q⟩
    have HQ := Lib.hid q
    clear q
    go_wp2_with fail
    go_ret
    exact ⟨rfl, HQ.out⟩
  have hn1 : (0 : Int) < (n : Int) := by omega
  have hn2 : ((n : Int) == 0) = false := by rw [beq_eq_false_iff_ne]; omega
  have hn3 : ¬ ((n : Int) = 0) := by omega
  obtain ⟨r, hr⟩ : ∃ r, r = A % n := ⟨_, rfl⟩
  have hrn : r < n := by rw [hr]; exact Nat.mod_lt _ (by omega)
  have hv1 : IntKind.i64.wrap (A : Int) = (A : Int) := by rw [IntKind.wrap_i64]; omega
  have hv3 : (A : Int).tmod (n : Int) = (r : Int) := by rw [hr]; norm_cast
  have hv4 : IntKind.i64.wrap (r : Int) = (r : Int) := by rw [IntKind.wrap_i64]; omega
  have hri : (r : Int) < (n : Int) := by omega
  have HRN := Lib.hid hrn
  have HFd := Lib.hid (vFind_any l (.slice a n c) (r : Int) nm HF.out HT.out w1 (HAL.out _ HB1.out))
  have hfi := fnd_in (l := l) (n := r) (nm := by' nm) (by rw [← HN.out]; exact hrn)
  obtain ⟨FL, hFL⟩ : ∃ FL, FL = fndL l (r : Int) (by' nm) := ⟨_, rfl⟩
  rw [← hFL] at HFd hfi
  obtain ⟨X, hX⟩ : ∃ X : Int, X = (FL.1.1 : Int) := ⟨_, rfl⟩
  obtain ⟨Y, hY⟩ : ∃ Y : Int, Y = (FL.1.2 : Int) := ⟨_, rfl⟩
  obtain ⟨Z, hZ⟩ : ∃ Z : Int, Z = FL.2 := ⟨_, rfl⟩
  have HFd := Lib.hid (show Calls Try.prog 11 #[.slice a n c, .int .i64 (r : Int), .string nm] w1 (fun e w' => e = .returned (.tuple #[.agg #[.int .i64 X, .int .i64 Y], .int .i64 Z]) ∧ Below w1.heap.size w1 w') from by rw [hX, hY, hZ]; exact HFd.out)
  have HFI := Lib.hid hfi
  have HXYZ := Lib.hid (And.intro hX (And.intro hY hZ))
  clear hr hn0 hFL hfi hX hY hZ hrn
  go_wp2_with fail
  refine HFd.out.mono ?_; rintro e w2 ⟨rfl, q⟩
  have HB := Lib.hid (below_box (below_call HB1.out q) (.cells #[.int .i64 X, .int .i64 Y] 24))
  have HX := Lib.hid (Blk.new w2 24 [.int .i64 X, .int .i64 Y])
  clear q HB1 HFd
  by_cases hE : (checkL l).2 ≠ 0
  · have hZ2 : Z = 2 ∨ Z = 120 := by
      have h1 := HFI.out.1 hE
      have h2 := HXYZ.out.2.2
      have h3 := check_cases l
      omega
    clear HFI HXYZ hE HX
    rcases hZ2 with rfl | rfl
    · go_wp2_with fail
      refine (HAv.out _ HB.out).mono ?_; rintro e w99 ⟨rfl, q⟩
      have HQ := Lib.hid q
      clear q
      go_wp2_with fail
      go_ret
      exact ⟨rfl, HQ.out⟩
    · go_wp2_with fail
      refine (HAv.out _ HB.out).mono ?_; rintro e w99 ⟨rfl, q⟩
      have HQ := Lib.hid q
      clear q
      go_wp2_with fail
      go_ret
      exact ⟨rfl, HQ.out⟩
  have hE0 : (checkL l).2 = 0 := by omega
  have HL := Lib.hid (check_link_of hE0)
  have HFI2 := Lib.hid (HFI.out.2 hE0)
  have hZ2 : Z = 121 ∨ Z = 0 := by
    have h1 := HFI2.out
    have h2 := HXYZ.out.2.2
    cases h : findL l (r : Int) (by' nm) with
    | none => rw [h] at h1; rw [h1] at h2; exact .inl h2
    | some p => rw [h] at h1; rw [h1] at h2; exact .inr h2
  have hz1 : (Z == 2) = false := by rw [beq_eq_false_iff_ne]; omega
  have hz2 : (Z == 120) = false := by rw [beq_eq_false_iff_ne]; omega
  have HZ2 := Lib.hid hZ2
  clear HFI hE hE0 hZ2
  obtain ⟨p8, hp8⟩ : ∃ p8, p8 = w2.heap.size := ⟨_, rfl⟩
  rw [← hp8] at HX
  go_wp2_with fail
  rw [← hp8]
  clear hp8
  go_loopw [10, 11, 12, 13] (fun s10 s11 s12 i wr => ∃ (k S K : Nat) (O : Bool), (k : Int) ≤ n ∧ (S : Int) ≤ 1024 ∧ (K : Int) ≤ 1024 ∧ i = .int .i64 k ∧ s10 = .int .i64 S ∧ s11 = .int .i64 K ∧ s12 = .bool O ∧ Hid (S = cnt l (allB l k) (by' nm) 1 ∧ K = cnt l (allB l k) (by' nm) 2 ∧ O = ownB l (allB l k) (by' nm) r) ∧ Hid (Below w.heap.size w wr) ∧ Hid (Blk wr p8 24 [.int .i64 X, .int .i64 Y])) (fun _ _ _ i _ => n - (intOf i).toNat)
  case atStart => exact ⟨0, 0, 0, false, by omega, by omega, by omega, rfl, rfl, rfl, rfl, Lib.hid ⟨rfl, rfl, rfl⟩, HB, HX⟩
  case round =>
    clear HB HX
    obtain ⟨k, S, K, O, hk, hS, hK, rfl, rfl, rfl, rfl, HC, HB, HX⟩ := hrel
    by_cases hlt : k < n
    · obtain ⟨wo, rfl⟩ : ∃ wo, wo = wr := ⟨_, rfl⟩
      obtain ⟨gb, o', ai, ci, rfl, hbl, c0, c1, hj⟩ := H2.out k hlt
      have hkl : k < l.length := by rw [← HN.out]; exact hlt
      have hd : decide (k < n) = true := decide_eq_true hlt
      obtain ⟨mm, hm⟩ : ∃ mm, mm = (symsN l k).length := ⟨_, rfl⟩
      have hm64 : (mm : Int) ≤ 64 := by have := (link_ob HL.out.1 hkl).1; omega
      have hk16 : (k : Int) < 16 := by have := link_len HL.out.1; omega
      rw [← hm] at c1 hj
      have HM := Lib.hid hm
      have HJ := Lib.hid hj
      have HKL := Lib.hid hkl
      have HC1 := Lib.hid c1
      have HBL := Lib.hid hbl
      have HC0 : Hid (S = cnt l (pre l k 0) (by' nm) 1 ∧ K = cnt l (pre l k 0) (by' nm) 2 ∧ O = ownB l (pre l k 0) (by' nm) r) := Lib.hid (by rw [pre_zero]; exact HC.out)
      clear hm hj hkl c0 c1 HC hbl
      go_wp2_with fail
      go_loopw [10, 11, 12, 14] (fun s10 s11 s12 i wr => ∃ (j S K : Nat) (O : Bool), (j : Int) ≤ mm ∧ (S : Int) ≤ 1024 ∧ (K : Int) ≤ 1024 ∧ i = .int .i64 j ∧ s10 = .int .i64 S ∧ s11 = .int .i64 K ∧ s12 = .bool O ∧ Hid (S = cnt l (pre l k j) (by' nm) 1 ∧ K = cnt l (pre l k j) (by' nm) 2 ∧ O = ownB l (pre l k j) (by' nm) r) ∧ Hid (Below w.heap.size w wr) ∧ Hid (Blk wr p8 24 [.int .i64 X, .int .i64 Y])) (fun _ _ _ i _ => mm - (intOf i).toNat)
      case atStart => exact ⟨0, S, K, O, by omega, hS, hK, rfl, rfl, rfl, rfl, HC0, HB, HX⟩
      case round =>
        clear HB HX HC0
        obtain ⟨j, S, K, O, hj, hS, hK, rfl, rfl, rfl, rfl, HC, HB, HX⟩ := hrel
        have hbr0 : gb < wr.heap.size := Nat.lt_of_lt_of_le HBL.out HB.out.size
        have d1 := (HB.out.cell (p := ⟨gb, o' + k * 2 + 1, none⟩) HBL.out).trans HC1.out
        by_cases hjt : j < mm
        · obtain ⟨bi, oi, vr, vn, rfl, hbi, hL, hr0, hn0⟩ := HJ.out j hjt
          have hjl : j < (symsN l k).length := by rw [← HM.out]; exact hjt
          have hd2 : decide (j < mm) = true := decide_eq_true hjt
          have hj64 : (j : Int) < 64 := by omega
          obtain ⟨c0, c1, c2, c3, c4, c5, c6⟩ := (hL.below HB.out hbi).sy
          have hbr : bi < wr.heap.size := Nat.lt_of_lt_of_le hbi HB.out.size
          obtain ⟨ra, rc, hrv, _⟩ := hr0
          obtain ⟨na, nc, hnv, _⟩ := hn0
          subst hrv hnv
          have hbd := link_bind HL.out.1 HKL.out hjl
          have hlen : (pre l k (j + 1)).length ≤ 1024 := by
            have h1 := len_allB HL.out.1 (Nat.le_of_lt HKL.out)
            have h2 := link_len HL.out.1
            have h3 := HKL.out
            unfold pre rowP
            rw [List.length_append, List.length_map, List.length_range]
            omega
          have HNX : Hid (∀ i0 i1 i2 : Bool, isB l (by' nm) 0 (k, j) = i0 → isB l (by' nm) 1 (k, j) = i1 → isB l (by' nm) 2 (k, j) = i2 → (S + (if i1 = true then 1 else 0) = cnt l (pre l k (j + 1)) (by' nm) 1 ∧ K + (if i2 = true then 1 else 0) = cnt l (pre l k (j + 1)) (by' nm) 2 ∧ (O || (i0 && decide (k = r))) = ownB l (pre l k (j + 1)) (by' nm) r) ∧ S + (if i1 = true then 1 else 0) ≤ 1024 ∧ K + (if i2 = true then 1 else 0) ≤ 1024) := Lib.hid (fun i0 i1 i2 h0 h1 h2 => by
            have e1 : S + (if i1 = true then 1 else 0) = cnt l (pre l k (j + 1)) (by' nm) 1 := by rw [pre_next, cnt_next, h1, HC.out.1]
            have e2 : K + (if i2 = true then 1 else 0) = cnt l (pre l k (j + 1)) (by' nm) 2 := by rw [pre_next, cnt_next, h2, HC.out.2.1]
            refine ⟨⟨e1, e2, by rw [pre_next, own_next, h0, HC.out.2.2]⟩, ?_, ?_⟩
            · rw [e1]; exact Nat.le_trans (cnt_le _ _ _ _) hlen
            · rw [e2]; exact Nat.le_trans (cnt_le _ _ _ _) hlen)
          obtain ⟨s, hs⟩ : ∃ s, s = symP l (k, j) := ⟨_, rfl⟩
          have HIB : Hid (∀ b : Int, isB l (by' nm) b (k, j) = (decide (s.name = by' nm) && decide (s.bind = b))) := Lib.hid (fun b => by rw [hs]; rfl)
          rw [← hs] at c0 c1 c2 c3 c4 c5 c6 hbd
          obtain ⟨U, hU⟩ : ∃ u, u = tx s.name := ⟨_, rfl⟩
          obtain ⟨u1, g1⟩ : ∃ u, u = s.bind := ⟨_, rfl⟩
          obtain ⟨u2, g2⟩ : ∃ u, u = s.kind := ⟨_, rfl⟩
          obtain ⟨u3, g3⟩ : ∃ u, u = s.size := ⟨_, rfl⟩
          obtain ⟨u4, g4⟩ : ∃ u, u = tx s.bytes := ⟨_, rfl⟩
          obtain ⟨rn, hrn⟩ : ∃ x, x = s.rels.length := ⟨_, rfl⟩
          obtain ⟨nn, hnn⟩ : ∃ x, x = s.notes.length := ⟨_, rfl⟩
          have hby : s.name = by' U := by rw [hU, by_tx]
          have hse := str_eq U nm
          rw [hby, ← g1] at HIB
          rw [← hU] at c0
          rw [← g1] at c1 hbd
          rw [← g2] at c2
          rw [← g3] at c3
          rw [← g4] at c4
          rw [← hrn] at c5
          rw [← hnn] at c6
          have HBa := Lib.hid (below_box HB.out (.cells #[.string U, .int .u8 u1, .int .u8 u2, .int .u32 u3, .string u4, .slice ra rn rc, .slice na nn nc] 50))
          have HXa := Lib.hid (HX.out.alloc (.cells #[.string U, .int .u8 u1, .int .u8 u2, .int .u32 u3, .string u4, .slice ra rn rc, .slice na nn nc] 50))
          obtain ⟨D, hD⟩ : ∃ D, D = decide (k = r) := ⟨_, rfl⟩
          rw [← hD] at HNX
          have hq1 : ((k : Int) == (r : Int)) = D := by rw [hD, Bool.eq_iff_iff, beq_iff_eq, decide_eq_true_eq]; omega
          have hq2 : decide ((k : Int) = (r : Int)) = D := by rw [hD]; exact decide_eq_decide.2 ⟨fun h => by omega, fun h => by omega⟩
          have hq3 : decide (k = r) = D := hD.symm
          clear hs hU g1 g2 g3 g4 hrn hnn hL hjl hby hlen HB HX HC hD
          by_cases hne : by' U = by' nm
          · rw [decide_eq_true hne] at hse HIB
            rcases hbd with rfl | rfl | rfl
            · have HN2 := Lib.hid (HNX.out true false false (HIB.out 0) (HIB.out 1) (HIB.out 2))
              clear HNX HIB hne
              cases O with
              | true =>
                go_wp2_with fail
                go_roundw
                case rel => exact ⟨j + 1, S, K, true, by omega, hS, hK, by go_num, rfl, rfl, rfl, (Lib.hid (by have h := HN2.out.1; simpa using h)), HBa, HXa⟩
                case measure => simp [intOf]; omega
              | false =>
                go_wp2_with fail
                go_roundw
                case rel => exact ⟨j + 1, S, K, D, by omega, hS, hK, by go_num, rfl, rfl, rfl, (Lib.hid (by have h := HN2.out.1; simpa using h)), HBa, HXa⟩
                case measure => simp [intOf]; omega
            · have HN2 := Lib.hid (HNX.out false true false (HIB.out 0) (HIB.out 1) (HIB.out 2))
              have hS2 := HN2.out.2.1
              rw [if_pos rfl] at hS2
              have hv8 : IntKind.i64.wrap ((S : Int) + 1) = (S : Int) + 1 := by rw [IntKind.wrap_i64]; omega
              clear HNX HIB hne
              cases O with
              | true =>
                go_wp2_with fail
                go_roundw
                case rel => exact ⟨j + 1, S + 1, K, true, by omega, by omega, hK, by go_num, by go_num, rfl, rfl, (Lib.hid (by have h := HN2.out.1; simpa using h)), HBa, HXa⟩
                case measure => simp [intOf]; omega
              | false =>
                go_wp2_with fail
                go_roundw
                case rel => exact ⟨j + 1, S + 1, K, false, by omega, by omega, hK, by go_num, by go_num, rfl, rfl, (Lib.hid (by have h := HN2.out.1; simpa using h)), HBa, HXa⟩
                case measure => simp [intOf]; omega
            · have HN2 := Lib.hid (HNX.out false false true (HIB.out 0) (HIB.out 1) (HIB.out 2))
              have hK2 := HN2.out.2.2
              rw [if_pos rfl] at hK2
              have hv8 : IntKind.i64.wrap ((K : Int) + 1) = (K : Int) + 1 := by rw [IntKind.wrap_i64]; omega
              clear HNX HIB hne
              cases O with
              | true =>
                go_wp2_with fail
                go_roundw
                case rel => exact ⟨j + 1, S, K + 1, true, by omega, hS, by omega, by go_num, rfl, by go_num, rfl, (Lib.hid (by have h := HN2.out.1; simpa using h)), HBa, HXa⟩
                case measure => simp [intOf]; omega
              | false =>
                go_wp2_with fail
                go_roundw
                case rel => exact ⟨j + 1, S, K + 1, false, by omega, hS, by omega, by go_num, rfl, by go_num, rfl, (Lib.hid (by have h := HN2.out.1; simpa using h)), HBa, HXa⟩
                case measure => simp [intOf]; omega
          · rw [decide_eq_false hne] at hse HIB
            have HN2 := Lib.hid (HNX.out false false false (HIB.out 0) (HIB.out 1) (HIB.out 2))
            clear HNX HIB hne
            go_wp2_with fail
            go_roundw
            case rel => exact ⟨j + 1, S, K, O, by omega, hS, hK, by go_num, rfl, rfl, rfl, (Lib.hid (by have h := HN2.out.1; simpa using h)), HBa, HXa⟩
            case measure => simp [intOf]; omega
        · obtain rfl : j = mm := by omega
          have hd2 : decide (j < j) = false := decide_eq_false (by omega)
          rw [HM.out, pre_row] at HC
          clear hjt
          go_wp2_with fail
          go_roundw
          case rel => exact ⟨k + 1, S, K, O, by omega, hS, hK, by go_num, rfl, rfl, rfl, HC, HB, HX⟩
          case measure => simp [intOf]; omega
    · obtain rfl : k = n := by omega
      have hd : decide (k < k) = false := decide_eq_false (by omega)
      have HALL : Hid (S = cnt l (allP l) (by' nm) 1 ∧ K = cnt l (allP l) (by' nm) 2 ∧ O = ownB l (allP l) (by' nm) r) := Lib.hid (by unfold allP; rw [← HN.out]; exact HC.out)
      clear hlt HC
      cases hfl : findL l (r : Int) (by' nm) with
      | none =>
        have h1 := one_none hfl
        have h2 := HFI2.out
        rw [hfl] at h2
        have h3 := HALL.out
        have hZ1 : Z = 121 := by rw [HXYZ.out.2.2, h2]
        obtain rfl : S = 0 := by omega
        obtain rfl : K = 0 := by omega
        obtain rfl : O = false := by rw [h3.2.2]; exact h1.2.2
        subst hZ1
        clear h1 h2 h3 hfl HFI2 HXYZ HALL HZ2
        go_wp2_with fail
        refine (HAv.out _ HB.out).mono ?_; rintro e w99 ⟨rfl, q⟩
        have HQ := Lib.hid q
        clear q
        go_wp2_with fail
        go_ret
        exact ⟨rfl, HQ.out⟩
      | some p =>
        have h1 := one_some (by rw [← HN.out]; exact HRN.out) HL.out.2 hfl
        have h2 := HFI2.out
        rw [hfl] at h2
        have h3 := HALL.out
        have hZ1 : Z = 0 := by rw [HXYZ.out.2.2, h2]
        subst hZ1
        obtain ⟨pa, pb⟩ := p
        have hXe : X = (pa : Int) := by rw [HXYZ.out.1, h2]
        have hYe : Y = (pb : Int) := by rw [HXYZ.out.2.1, h2]
        subst hXe hYe
        rw [← h3.1, ← h3.2.2] at h1
        simp only at h1
        obtain ⟨i1, i2, i3, i4, i5, i6⟩ := h1
        have hpk : pa < k := by rw [HN.out]; exact i1
        obtain ⟨gb, o', ai, ci, rfl, hbl, c0, c1, hj⟩ := H2.out pa hpk
        obtain ⟨mm, hm⟩ : ∃ mm, mm = (symsN l pa).length := ⟨_, rfl⟩
        have hm64 : (mm : Int) ≤ 64 := by have := (link_ob HL.out.1 i1).1; omega
        have hpm : pb < mm := by rw [hm]; exact i2
        obtain ⟨bi, oi, vr, vn, rfl, hbi, hL, hr0, hn0⟩ := hj pb i2
        rw [← hm] at c1
        obtain ⟨y0, y1, y2, y3, y4, y5, y6⟩ := (hL.below HB.out hbi).sy
        obtain ⟨ra, rc, hrv, _⟩ := hr0
        obtain ⟨na, nc, hnv, _⟩ := hn0
        subst hrv hnv
        have hbr : gb < wr.heap.size := Nat.lt_of_lt_of_le hbl HB.out.size
        have hbr2 : bi < wr.heap.size := Nat.lt_of_lt_of_le hbi HB.out.size
        have d1 := (HB.out.cell (p := ⟨gb, o' + pa * 2 + 1, none⟩) hbl).trans c1
        obtain ⟨s, hs⟩ : ∃ s, s = symP l (pa, pb) := ⟨_, rfl⟩
        rw [← hs] at y0 y1 y2 y3 y4 y5 y6 i3 i4
        obtain ⟨U, hU⟩ : ∃ u, u = tx s.name := ⟨_, rfl⟩
        obtain ⟨u1, g1⟩ : ∃ u, u = s.bind := ⟨_, rfl⟩
        obtain ⟨u2, g2⟩ : ∃ u, u = s.kind := ⟨_, rfl⟩
        obtain ⟨u3, g3⟩ : ∃ u, u = s.size := ⟨_, rfl⟩
        obtain ⟨u4, g4⟩ : ∃ u, u = tx s.bytes := ⟨_, rfl⟩
        obtain ⟨rn, hrn⟩ : ∃ x, x = s.rels.length := ⟨_, rfl⟩
        obtain ⟨nn, hnn⟩ : ∃ x, x = s.notes.length := ⟨_, rfl⟩
        have hse := str_eq U nm
        have hbu : by' U = by' nm := by rw [hU, by_tx, i3]
        rw [decide_eq_true hbu] at hse
        rw [← hU] at y0
        rw [← g1] at y1 i4
        rw [← g2] at y2
        rw [← g3] at y3
        rw [← g4] at y4
        rw [← hrn] at y5
        rw [← hnn] at y6
        have hS1 : (S : Int) ≤ 1 := by omega
        have hp1 : (pa : Int) < (k : Int) := by omega
        have hp2 : (pb : Int) < (mm : Int) := by omega
        have hp3 : decide (pa < k) = true := decide_eq_true hpk
        have hp4 : decide (pb < mm) = true := decide_eq_true hpm
        have hp5 : decide (k ≤ pa) = false := decide_eq_false (by omega)
        have hp6 : decide (mm ≤ pb) = false := decide_eq_false (by omega)
        have I4 := Lib.hid i4
        have I6 := Lib.hid i6
        clear hs hU g1 g2 g3 g4 hrn hnn hbu hL hj hm i1 i2 i3 i4 i5 i6 h2 h3 hfl c0 c1 HFI2 HXYZ HALL HZ2
        obtain ⟨x0, x1, -, -, xl⟩ := HX.out.st2
        go_upto_region 23 with (fail)
        go_quiet (fail)
        clear x0 x1 xl
        refine ex_named ?_; intro w5 hw5
        have z0 : w5.cell? ⟨bi, oi + pb * 7, none⟩ = some (.string U) := by rw [hw5]; exact y0
        have z1 : w5.cell? ⟨bi, oi + pb * 7 + 1, none⟩ = some (.int .u8 u1) := by rw [hw5]; exact y1
        have z2 : w5.cell? ⟨bi, oi + pb * 7 + 2, none⟩ = some (.int .u8 u2) := by rw [hw5]; exact y2
        have z3 : w5.cell? ⟨bi, oi + pb * 7 + 3, none⟩ = some (.int .u32 u3) := by rw [hw5]; exact y3
        have z4 : w5.cell? ⟨bi, oi + pb * 7 + 4, none⟩ = some (.string u4) := by rw [hw5]; exact y4
        have z5 : w5.cell? ⟨bi, oi + pb * 7 + 5, none⟩ = some (.slice ra rn rc) := by rw [hw5]; exact y5
        have z6 : w5.cell? ⟨bi, oi + pb * 7 + 6, none⟩ = some (.slice na nn nc) := by rw [hw5]; exact y6
        have dd1 : w5.cell? ⟨gb, o' + pa * 2 + 1, none⟩ = some (.slice (some ⟨bi, oi, none⟩) mm ci) := by rw [hw5]; exact d1
        have HB5 : Hid (Below w.heap.size w w5) := Lib.hid (by rw [hw5]; exact below_call HB.out (below_drewN _ _))
        have HX5 : Hid (Blk w5 p8 24 [.int .i64 (pa : Int), .int .i64 (pb : Int)]) := Lib.hid (by rw [hw5]; exact HX.out.drewN _)
        have hbr5 : gb < w5.heap.size := by rw [hw5]; exact hbr
        have hbr6 : bi < w5.heap.size := by rw [hw5]; exact hbr2
        clear hw5 y0 y1 y2 y3 y4 y5 y6 d1 hbr hbr2 HB HX
        obtain ⟨x0, x1, -, -, xl⟩ := HX5.out.st2
        go_upto_region 25 with (fail)
        go_region
        clear z0 z1 z2 z3 z4 z5 z6 dd1 x0 x1 xl hp1 hp2 hp3 hp4 hp5 hp6
        refine ex_named ?_; intro w6 hw6
        have HB6 : Hid (Below w.heap.size w w6) := Lib.hid (by rw [hw6]; exact (below_box HB5.out _).drew)
        have HX6 : Hid (Blk w6 p8 24 [.int .i64 (pa : Int), .int .i64 (pb : Int)]) := Lib.hid (by rw [hw6]; exact (HX5.out.alloc _).drew)
        have HS6 : Hid (Blk w6 w5.heap.size 50 [.string U, .int .u8 u1, .int .u8 u2, .int .u32 u3, .string u4, .slice ra rn rc, .slice na nn nc]) := Lib.hid (by rw [hw6]; exact (Blk.new w5 50 [.string U, .int .u8 u1, .int .u8 u2, .int .u32 u3, .string u4, .slice ra rn rc, .slice na nn nc]).drew)
        clear hw6 HB5 HX5 hbr5 hbr6
        obtain ⟨x0, x1, -, -, xl⟩ := HX6.out.st2
        have q0 := HS6.out.cell 0
        have q1 := HS6.out.cell 1
        simp only [List.getElem?_cons_zero, List.getElem?_cons_succ] at q0 q1
        have ql := HS6.out.lt
        have hS01 : S = 0 ∨ S = 1 := by omega
        have i4 := I4.out
        cases O with
        | true =>
          rw [if_pos rfl] at i4
          have i6 := I6.out rfl
          subst i4 i6
          rcases hS01 with rfl | rfl
          all_goals
            clear I4 I6
            go_wp2_with fail
            refine (HAv.out _ HB6.out).mono ?_; rintro e w99 ⟨rfl, q⟩
            have HQ := Lib.hid q
            clear q
            go_wp2_with fail
            go_ret
            exact ⟨rfl, HQ.out⟩
        | false =>
          rw [if_neg (by simp)] at i4
          rcases hS01 with rfl | rfl
          · rw [if_neg (by omega)] at i4
            subst i4
            clear I4 I6
            go_wp2_with fail
            refine (HAv.out _ HB6.out).mono ?_; rintro e w99 ⟨rfl, q⟩
            have HQ := Lib.hid q
            clear q
            go_wp2_with fail
            go_ret
            exact ⟨rfl, HQ.out⟩
          · rw [if_pos (by omega)] at i4
            subst i4
            clear I4 I6
            go_wp2_with fail
            refine (HAv.out _ HB6.out).mono ?_; rintro e w99 ⟨rfl, q⟩
            have HQ := Lib.hid q
            clear q
            go_wp2_with fail
            go_ret
            exact ⟨rfl, HQ.out⟩
end Go.Proofs.Ytfnofolahhoggaa
