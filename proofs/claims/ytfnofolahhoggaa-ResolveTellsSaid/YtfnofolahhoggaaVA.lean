/- The document's May and first. -/
import Derived.Test.YtfnofolahhoggaaUA
import Derived.Test.YtfnofolahhoggaaNG
import Derived.Test.YtfnofolahhoggaaRC
set_option linter.unusedVariables false
set_option linter.unusedSimpArgs false
namespace Go.Proofs.Ytfnofolahhoggaa
open Go Go.RowKit Go.Maps Oj Rv

set_option maxHeartbeats 8000000 in
set_option maxRecDepth 100000 in
theorem dMay_any (l : List Ob) (v : Value) (hf : obsFit l) (w : World) (hA : ObsAt w v l) : Calls Try.prog 22 #[v] w fun e w' => e = .returned (.bool (linkOk l)) ∧ Below w.heap.size w w' := by
  have HI := Lib.hid (fun (v : Value) (x : Ob) (hx : obFits x) W (hq : ObAt W v x) => rmay_any v x hx W hq)
  obtain ⟨a, c, rfl, h2⟩ := hA.one
  obtain ⟨n, hn⟩ : ∃ n, n = l.length := ⟨_, rfl⟩
  have hni : (n : Int) ≤ 3518437208884 := by have := hf.1; omega
  rw [← hn] at h2 ⊢
  have H2 := Lib.hid h2
  have HN := Lib.hid hn
  have HF := Lib.hid hf.2
  have HB0 := Lib.hid (Below.refl w.heap.size w)
  have HL : Hid (linkOk l = (decide (n ≤ 16) && allN n fun i => obOk (l.getD i Ob.nought))) := Lib.hid (by unfold linkOk; rw [hn])
  clear hn h2 hf hA
  go_enter Try.func22, Try.ntmps22
  go_wp2_with fail
  go_loopw [3] (fun i wr => ∃ k : Nat, (k : Int) ≤ n ∧ i = .int .i64 k ∧ Hid (∀ j, j < k → obOk (l.getD j Ob.nought) = true) ∧ Hid (Below w.heap.size w wr)) (fun i _ => n - (intOf i).toNat)
  case atStart => exact ⟨0, by omega, rfl, Lib.hid fun j hj => absurd hj (by omega), HB0⟩
  case round =>
    clear HB0
    obtain ⟨k, hk, rfl, HK, HB⟩ := hrel
    by_cases hlt : k < n
    · obtain ⟨b, o, rfl, hbl, hcl⟩ := H2.out (by omega)
      obtain ⟨vk, c0, c1, hS⟩ := hcl k hlt
      have hd : decide (k < n) = true := decide_eq_true hlt
      have HC := Lib.hid (fun W (hq : Below w.heap.size w W) => HI.out (.agg #[.string (tx (l.getD k Ob.nought).name), vk]) (l.getD k Ob.nought) (HF.out k (by rw [← HN.out]; exact hlt)) W ⟨vk, rfl, hS.below hq⟩)
      obtain ⟨M, hM⟩ : ∃ M, M = tx (l.getD k Ob.nought).name := ⟨_, rfl⟩
      obtain ⟨p, hp⟩ : ∃ p, p = obOk (l.getD k Ob.nought) := ⟨_, rfl⟩
      rw [← hM] at HC c0
      rw [← hp] at HC
      have HP := Lib.hid hp
      obtain ⟨ak, nk, ck, hvk⟩ : ∃ ak nk ck, vk = .slice ak nk ck := by
        obtain ⟨ak, ck, h9, _⟩ := hS.get
        exact ⟨ak, _, ck, h9⟩
      subst hvk
      have hbr : b < wr.heap.size := Nat.lt_of_lt_of_le hbl HB.out.size
      have d0 := (HB.out.cell (p := ⟨b, o + k * 2, none⟩) hbl).trans c0
      have d1 := (HB.out.cell (p := ⟨b, o + k * 2 + 1, none⟩) hbl).trans c1
      clear hM hp c0 c1 hcl hS
      cases p with
      | true =>
        have HK2 : Hid (∀ j, j < k + 1 → obOk (l.getD j Ob.nought) = true) := Lib.hid fun j hj => by
          by_cases hx : j = k
          · subst hx; exact HP.out.symm
          · exact HK.out j (by omega)
        clear HK HP
        go_wp2_with fail
        refine (HC.out _ HB.out).mono ?_; rintro e w2 ⟨rfl, q2⟩
        have HB2 := Lib.hid (below_call HB.out q2)
        clear q2 d0 d1
        go_wp2_with fail
        go_roundw
        case rel => exact ⟨k + 1, by omega, by go_num, HK2, HB2⟩
        case measure => simp [intOf]; omega
      | false =>
        have HR : Hid (linkOk l = false) := Lib.hid (by rw [HL.out, allN_false (k := k) hlt HP.out.symm, Bool.and_false])
        clear HK HP
        go_wp2_with fail
        refine (HC.out _ HB.out).mono ?_; rintro e w2 ⟨rfl, q2⟩
        have HB2 := Lib.hid (below_call HB.out q2)
        clear q2 d0 d1
        go_wp2_with fail
        go_ret
        exact ⟨by rw [HR.out]; rfl, HB2.out⟩
    · have hd : decide (k < n) = false := decide_eq_false hlt
      have HR : Hid (linkOk l = decide (n ≤ 16)) := Lib.hid (by rw [HL.out, allN_true fun j hj => HK.out j (by omega), Bool.and_true])
      obtain ⟨B, hB⟩ : ∃ B, B = decide ((n : Int) ≤ 16) := ⟨_, rfl⟩
      have HR2 : Hid (linkOk l = B) := Lib.hid (by rw [HR.out, hB]; exact decide_eq_decide.2 ⟨fun h => by omega, fun h => by omega⟩)
      have hB2 : decide ((n : Int) ≤ 16) = B := hB.symm
      have hB3 : decide (n ≤ 16) = B := by rw [← HR2.out, HR.out]
      clear hlt HK hB HR
      go_wp2
      go_ret
      exact ⟨by rw [HR2.out]; rfl, HB.out⟩

set_option maxHeartbeats 8000000 in
set_option maxRecDepth 100000 in
theorem dfirst_any (l : List Ob) (v : Value) (nm : ByteArray) (b : Int) (hf : obsFit l) (w : World) (hA : ObsAt w v l) : Calls Try.prog 23 #[v, .string nm, .int .u8 b] w fun e w' => e = .returned (plT (fstB l (allP l) (by' nm) b)) ∧ Below w.heap.size w w' := by
  obtain ⟨a, c, rfl, h2⟩ := hA.two
  obtain ⟨n, hn⟩ : ∃ n, n = l.length := ⟨_, rfl⟩
  have hni : (n : Int) ≤ 3518437208884 := by have := hf.1; omega
  rw [← hn] at h2 ⊢
  have H2 := Lib.hid h2
  have HN := Lib.hid hn
  have HF := Lib.hid hf.2
  have HB := Lib.hid (below_new1 w (.cells #[.int .i64 0, .int .i64 0] 24))
  have HX := Lib.hid (Blk.new w 24 [.int .i64 0, .int .i64 0])
  have HALL : Hid (allB l n = allP l) := Lib.hid (by rw [hn]; rfl)
  clear hn h2 hf hA
  go_enter Try.func23, Try.ntmps23
  go_upto_region 1 with (fail)
  refine wp_nameA ?_; intro w1 hw1
  rw [← hw1] at HB HX
  clear hw1
  obtain ⟨e0, e1, f0, f1, hl⟩ := HX.out.st2
  go_wp2_with fail
  go_loop [8] (fun i => ∃ k : Nat, (k : Int) ≤ n ∧ i = .int .i64 k ∧ Hid (fstB l (allB l k) (by' nm) b = none)) (fun i => n - (intOf i).toNat)
  case atStart => exact ⟨0, by omega, rfl, Lib.hid rfl⟩
  case round =>
    obtain ⟨k, hk, rfl, HK⟩ := hrel
    by_cases hlt : k < n
    · obtain ⟨gb, o, ai, ci, rfl, hbl, c0, c1, hj⟩ := H2.out k hlt
      have hkl : k < l.length := by rw [← HN.out]; exact hlt
      have hd : decide (k < n) = true := decide_eq_true hlt
      obtain ⟨m, hm⟩ : ∃ m, m = (symsN l k).length := ⟨_, rfl⟩
      have hmi : (m : Int) ≤ 1599289640402 := by have := (HF.out k hkl).2.1; unfold symsN at hm; omega
      rw [← hm] at c1 hj
      have HM := Lib.hid hm
      have HJ := Lib.hid hj
      have HKL := Lib.hid hkl
      have hbr : gb < w1.heap.size := Nat.lt_of_lt_of_le hbl HB.out.size
      have d1 := (HB.out.cell (p := ⟨gb, o + k * 2 + 1, none⟩) hbl).trans c1
      have HK1 : Hid (fstB l (pre l k 0) (by' nm) b = none) := Lib.hid (by rw [pre_zero]; exact HK.out)
      clear hm hj hkl c0 c1 HK
      go_wp2_with fail
      go_loop [9] (fun i => ∃ j : Nat, (j : Int) ≤ m ∧ i = .int .i64 j ∧ Hid (fstB l (pre l k j) (by' nm) b = none)) (fun i => m - (intOf i).toNat)
      case atStart => exact ⟨0, by omega, rfl, HK1⟩
      case round =>
        clear HK1
        obtain ⟨j, hj, rfl, HJn⟩ := hrel
        by_cases hjt : j < m
        · obtain ⟨bi, oi, vr, vn, rfl, hbi, hL, hr0, hn0⟩ := HJ.out j hjt
          have hjl : j < (symsN l k).length := by rw [← HM.out]; exact hjt
          have hd2 : decide (j < m) = true := decide_eq_true hjt
          obtain ⟨c0, c1, -⟩ := (hL.below HB.out hbi).sy
          have hbr2 : bi < w1.heap.size := Nat.lt_of_lt_of_le hbi HB.out.size
          have HHIT := Lib.hid (fun (h1 : fstB l (pre l k j) (by' nm) b = none) (h2 : isB l (by' nm) b (k, j) = true) => fst_hit HKL.out hjl h1 h2)
          have HMISS := Lib.hid (fun (h1 : fstB l (pre l k j) (by' nm) b = none) (h2 : isB l (by' nm) b (k, j) = false) => by have := fst_miss h1 h2; rw [← pre_next] at this; exact this)
          obtain ⟨s, hs⟩ : ∃ s, s = symP l (k, j) := ⟨_, rfl⟩
          have hisB : isB l (by' nm) b (k, j) = (decide (s.name = by' nm) && decide (s.bind = b)) := by rw [hs]; rfl
          rw [hisB] at HHIT HMISS
          rw [← hs] at c0 c1
          obtain ⟨U, hU⟩ : ∃ u, u = tx s.name := ⟨_, rfl⟩
          obtain ⟨u1, g1⟩ : ∃ u, u = s.bind := ⟨_, rfl⟩
          rw [← hU] at c0
          rw [← g1] at c1 HHIT HMISS
          have hby : s.name = by' U := by rw [hU, by_tx]
          rw [hby] at HHIT HMISS
          have hse := str_eq U nm
          clear hs hU g1 hL hjl hr0 hn0 hisB hby
          by_cases hne : by' U = by' nm
          · rw [decide_eq_true hne] at hse HHIT HMISS
            by_cases hbe : u1 = b
            · have hbt : (u1 == b) = true := by rw [hbe]; exact beq_self_eq_true b
              have HR : Hid (fstB l (allP l) (by' nm) b = some (k, j)) := Lib.hid (HHIT.out HJn.out (by rw [decide_eq_true hbe]; rfl))
              clear hbe hne HHIT HMISS HJn
              go_wp2_with fail
              refine bodyPost_ret (res_pl_tmp Try.results23 _ _ w.heap.size _ _ _ rfl rfl (HX.out.put2 _ _)) rfl ⟨by rw [HR.out]; rfl, below_put2 HB.out (Nat.le_refl _) _ _⟩
            · have hbt : (u1 == b) = false := by rw [beq_eq_false_iff_ne]; exact hbe
              have HR : Hid (fstB l (pre l k (j + 1)) (by' nm) b = none) := Lib.hid (HMISS.out HJn.out (by rw [decide_eq_false hbe]; rfl))
              clear hbe hne HHIT HMISS HJn
              go_wp2_with fail
              go_round
              case rel => exact ⟨j + 1, by omega, by go_num, HR⟩
              case measure => simp [intOf]; omega
          · have HR : Hid (fstB l (pre l k (j + 1)) (by' nm) b = none) := Lib.hid (HMISS.out HJn.out (by rw [decide_eq_false hne, Bool.false_and]))
            rw [decide_eq_false hne] at hse
            clear hne HHIT HMISS HJn
            go_wp2_with fail
            go_round
            case rel => exact ⟨j + 1, by omega, by go_num, HR⟩
            case measure => simp [intOf]; omega
        · obtain rfl : j = m := by omega
          have hd2 : decide (j < j) = false := decide_eq_false (by omega)
          have HR : Hid (fstB l (allB l (k + 1)) (by' nm) b = none) := Lib.hid (by rw [← pre_row, ← HM.out]; exact HJn.out)
          clear hjt HJn
          go_wp2_with fail
          go_round
          case rel => exact ⟨k + 1, by omega, by go_num, HR⟩
          case measure => simp [intOf]; omega
    · obtain rfl : k = n := by omega
      have hd : decide (k < k) = false := decide_eq_false (by omega)
      have HR : Hid (fstB l (allP l) (by' nm) b = none) := Lib.hid (by rw [← HALL.out]; exact HK.out)
      clear hlt HK
      go_wp2_with fail
      refine bodyPost_ret (res_pl_tmp Try.results23 _ _ w.heap.size _ _ _ rfl rfl (HX.out.put2 _ _)) rfl ⟨by rw [HR.out]; rfl, below_put2 HB.out (Nat.le_refl _) _ _⟩
end Go.Proofs.Ytfnofolahhoggaa
