/- The document's winner and find. -/
import Derived.Test.YtfnofolahhoggaaVA
import Derived.Test.YtfnofolahhoggaaUD
set_option linter.unusedVariables false
set_option linter.unusedSimpArgs false
namespace Go.Proofs.Ytfnofolahhoggaa
open Go Go.RowKit Go.Maps Oj Rv

set_option maxHeartbeats 8000000 in
set_option maxRecDepth 100000 in
theorem dwinner_any (l : List Ob) (v : Value) (nm : ByteArray) (hf : obsFit l) (w : World) (hA : ObsAt w v l) : Calls Try.prog 30 #[v, .string nm] w fun e w' => e = .returned (plT (winL l (by' nm))) ∧ Below w.heap.size w w' := by
  have H1 := Lib.hid (fun b W (hq : Below w.heap.size w W) => dfirst_any l v nm b hf W (hA.below hq))
  obtain ⟨S, ⟨a, c, rfl, _⟩, _⟩ := hA
  obtain ⟨n, hn⟩ : ∃ n, n = l.length := ⟨_, rfl⟩
  rw [← hn] at H1 ⊢
  obtain ⟨X, Y, B, hp, hp2, hB, -⟩ := plT_parts (fstB l (allP l) (by' nm) 1)
  obtain ⟨X2, Y2, B2, hq, -⟩ := plT_parts (fstB l (allP l) (by' nm) 2)
  have HC1 := Lib.hid (fun W (hq : Below w.heap.size w W) => H1.out 1 W hq)
  have HC2 := Lib.hid (fun W (hq : Below w.heap.size w W) => H1.out 2 W hq)
  rw [hp] at HC1
  rw [hq] at HC2
  have HW1 : Hid (B = true → Value.tuple #[.agg #[.int .i64 X, .int .i64 Y], .bool true] = plT (winL l (by' nm))) := Lib.hid (fun h => by
    unfold winL winB
    rw [h] at hp
    rw [← hp]
    cases h2 : fstB l (allP l) (by' nm) 1 with
    | none => rw [h2, h] at hB; cases hB
    | some p => rfl)
  have HW2 : Hid (B = false → Value.tuple #[.agg #[.int .i64 X2, .int .i64 Y2], .bool B2] = plT (winL l (by' nm))) := Lib.hid (fun h => by
    unfold winL winB
    rw [← hq]
    cases h2 : fstB l (allP l) (by' nm) 1 with
    | none => rfl
    | some p => rw [h2, h] at hB; cases hB)
  have HB0 := Lib.hid (below_new1 w (.cells #[.int .i64 0, .int .i64 0] 24))
  have HX0 := Lib.hid (Blk.new w 24 [.int .i64 0, .int .i64 0])
  clear hp hp2 hB hq hn hf H1
  go_enter Try.func30, Try.ntmps30
  go_wp2_with fail
  refine (HC1.out _ HB0.out).mono ?_; rintro e w2 ⟨rfl, q2⟩
  have HB2 := Lib.hid (below_box (below_call HB0.out q2) (.cells #[.int .i64 X, .int .i64 Y] 24))
  have HX2 := Lib.hid ((HX0.out.call q2).alloc (.cells #[.int .i64 X, .int .i64 Y] 24))
  have HY2 := Lib.hid (Blk.new w2 24 [.int .i64 X, .int .i64 Y])
  have HLT := Lib.hid (HX0.out.call q2).lt
  clear q2
  cases B with
  | true =>
    have HR := Lib.hid (HW1.out rfl)
    obtain ⟨e0, e1, f0, f1, hl⟩ := HX2.out.st2
    obtain ⟨z0, z1, -, -, zl⟩ := HY2.out.st2
    clear HW1 HW2
    go_wp2_with fail
    refine bodyPost_ret (res_pl_tmp Try.results30 _ _ w.heap.size _ _ _ rfl rfl (HX2.out.put2 _ _)) rfl ⟨congrArg Ending.returned HR.out, below_put2 HB2.out (Nat.le_refl _) _ _⟩
  | false =>
    have HR := Lib.hid (HW2.out rfl)
    clear HW1 HW2
    go_wp2_with fail
    refine (HC2.out _ HB2.out).mono ?_; rintro e w3 ⟨rfl, q3⟩
    have HB3 := Lib.hid (below_call HB2.out q3)
    have HX3 := Lib.hid (HX2.out.call q3)
    have HY3 := Lib.hid (HY2.out.call q3)
    clear q3
    obtain ⟨z0, z1, g0, g1, zl⟩ := HY3.out.st2
    go_upto_region 4 with (fail)
    refine wp_nameA ?_; intro w4 hw4
    have HB4 : Hid (Below w.heap.size w w4) := Lib.hid (by rw [hw4]; exact below_put2 HB3.out (Nat.le_of_lt HLT.out) _ _)
    have HX4 : Hid (Blk w4 w.heap.size 24 [.int .i64 0, .int .i64 0]) := Lib.hid (by rw [hw4]; exact HX3.out.grown (grown_put2 _ _ _ _) (by intro h; injection h with h; have := HLT.out; omega))
    have HY4 : Hid (Blk w4 w2.heap.size 24 [.int .i64 X2, .int .i64 Y2]) := Lib.hid (by rw [hw4]; exact HY3.out.put2 _ _)
    clear hw4 z0 z1 g0 g1 zl
    obtain ⟨e0, e1, f0, f1, hl⟩ := HX4.out.st2
    obtain ⟨z0, z1, -, -, zl⟩ := HY4.out.st2
    go_wp2_with fail
    refine bodyPost_ret (res_pl_tmp Try.results30 _ _ w.heap.size _ _ _ rfl rfl (HX4.out.put2 _ _)) rfl ⟨congrArg Ending.returned HR.out, below_put2 HB4.out (Nat.le_refl _) _ _⟩

set_option maxHeartbeats 8000000 in
set_option maxRecDepth 100000 in
theorem dfind_any (l : List Ob) (v : Value) (fr : Int) (nm : ByteArray) (hf : obsFit l) (hfr : fr = -1 ∨ (0 ≤ fr ∧ fr < l.length)) (w : World) (hA : ObsAt w v l) :
    Calls Try.prog 25 #[v, .int .i64 fr, .string nm] w fun e w' => e = .returned (plT (findL l fr (by' nm))) ∧ Below w.heap.size w w' := by
  have HW := Lib.hid (fun W (hq : Below w.heap.size w W) => dwinner_any l v nm hf W (hA.below hq))
  obtain ⟨x, y, B, hp, -⟩ := plT_parts (winL l (by' nm))
  rw [hp] at HW
  obtain ⟨a, c, rfl, h2⟩ := hA.two
  have HB := Lib.hid (below_new1 w (.cells #[.int .i64 0, .int .i64 0] 24))
  have HX := Lib.hid (Blk.new w 24 [.int .i64 0, .int .i64 0])
  obtain ⟨n0, hn⟩ : ∃ n0, n0 = l.length := ⟨_, rfl⟩
  have hni : (n0 : Int) ≤ 3518437208884 := by have := hf.1; omega
  rw [← hn] at h2 hfr HW ⊢
  rcases hfr with rfl | ⟨hf0, hf1⟩
  · rw [findL_out, hp]
    clear hf h2 hn hp hA
    go_enter Try.func25, Try.ntmps25
    go_wp2_with fail
    refine (HW.out _ HB.out).mono ?_; rintro e w2 ⟨rfl, q2⟩
    have HB2 := Lib.hid (below_call HB.out q2)
    have HX2 := Lib.hid (HX.out.call q2)
    clear q2
    obtain ⟨e0, e1, f0, f1, hl2⟩ := HX2.out.st2
    go_wp2_with fail
    refine bodyPost_ret (res_pl_tmp Try.results25 _ _ w.heap.size _ _ _ rfl rfl (HX2.out.put2 _ _)) rfl ⟨rfl, below_put2 HB2.out (Nat.le_refl _) _ _⟩
  · obtain ⟨k, rfl⟩ := Int.eq_ofNat_of_zero_le hf0
    have hlt : k < n0 := by omega
    have hkl : k < l.length := by omega
    obtain ⟨gb, o, ai, ci, rfl, hbl, c0, c1, hj⟩ := h2 k hlt
    have hfind : findL l (k : Int) (by' nm) = match ownL l k (by' nm) with | some j => some (k, j) | none => winL l (by' nm) := by
      unfold findL
      rw [if_pos (by omega), Int.toNat_natCast]
      cases ownL l k (by' nm) <;> rfl
    have HE := Lib.hid hfind
    have HP := Lib.hid hp
    have hd : decide (k < n0) = true := decide_eq_true hlt
    have hge : (0 : Int) ≤ (k : Int) := by omega
    obtain ⟨m, hm⟩ : ∃ m, m = (symsN l k).length := ⟨_, rfl⟩
    have hmi : (m : Int) ≤ 1599289640402 := by have := (hf.2 k hkl).2.1; unfold symsN at hm; omega
    rw [← hm] at c1 hj
    have HM := Lib.hid hm
    have HJ := Lib.hid hj
    clear hn hf hp hA hfind hm hj c0 hkl hf0 hf1 h2
    go_enter Try.func25, Try.ntmps25
    go_upto_region 1 with (fail)
    refine wp_nameA ?_; intro w1 hw1
    rw [← hw1] at HB HX
    clear hw1
    have hbr : gb < w1.heap.size := Nat.lt_of_lt_of_le hbl HB.out.size
    have d1 := (HB.out.cell (p := ⟨gb, o + k * 2 + 1, none⟩) hbl).trans c1
    clear c1
    obtain ⟨e0, e1, f0, f1, hl⟩ := HX.out.st2
    go_wp2_with fail
    go_loop [8] (fun i => ∃ j : Nat, (j : Int) ≤ m ∧ i = .int .i64 j ∧ Hid (∀ r, r < j → isB l (by' nm) 0 (k, r) = false)) (fun i => m - (intOf i).toNat)
    case atStart => exact ⟨0, by omega, rfl, Lib.hid (fun r hr => absurd hr (Nat.not_lt_zero r))⟩
    case round =>
      obtain ⟨j, hj, rfl, HJn⟩ := hrel
      by_cases hjt : j < m
      · obtain ⟨bi, oi, vr, vn, rfl, hbi, hL, hr0, hn0⟩ := HJ.out j hjt
        have hjl : j < (symsN l k).length := by rw [← HM.out]; exact hjt
        have hd2 : decide (j < m) = true := decide_eq_true hjt
        obtain ⟨c0, c1, -⟩ := (hL.below HB.out hbi).sy
        have hbr2 : bi < w1.heap.size := Nat.lt_of_lt_of_le hbi HB.out.size
        have HHIT := Lib.hid (fun (h2 : isB l (by' nm) 0 (k, j) = true) => own_hit hjl h2 HJn.out)
        have HMISS := Lib.hid (fun (h2 : isB l (by' nm) 0 (k, j) = false) => show ∀ r, r < j + 1 → isB l (by' nm) 0 (k, r) = false from fun r hr => by
          by_cases hx : r = j
          · subst hx; exact h2
          · exact HJn.out r (by omega))
        obtain ⟨s, hs⟩ : ∃ s, s = symP l (k, j) := ⟨_, rfl⟩
        have hisB : isB l (by' nm) 0 (k, j) = (decide (s.name = by' nm) && decide (s.bind = 0)) := by rw [hs]; rfl
        rw [hisB] at HHIT HMISS
        rw [← hs] at c0 c1
        obtain ⟨U, hU⟩ : ∃ u, u = tx s.name := ⟨_, rfl⟩
        obtain ⟨u1, g1⟩ : ∃ u, u = s.bind := ⟨_, rfl⟩
        rw [← hU] at c0
        rw [← g1] at c1 HHIT HMISS
        have hby : s.name = by' U := by rw [hU, by_tx]
        rw [hby] at HHIT HMISS
        have hse := str_eq U nm
        clear hs hU g1 hL hjl hr0 hn0 hisB hby
        by_cases hne : by' U = by' nm
        · rw [decide_eq_true hne] at hse HHIT HMISS
          by_cases hbe : u1 = 0
          · have hbt : (u1 == 0) = true := by rw [hbe]; rfl
            have HR : Hid (findL l (k : Int) (by' nm) = some (k, j)) := Lib.hid (by rw [HE.out, HHIT.out (by rw [decide_eq_true hbe]; rfl)])
            clear hbe hne HHIT HMISS HJn HE
            go_wp2_with fail
            refine bodyPost_ret (res_pl_tmp Try.results25 _ _ w.heap.size _ _ _ rfl rfl (HX.out.put2 _ _)) rfl ⟨by rw [HR.out]; rfl, below_put2 HB.out (Nat.le_refl _) _ _⟩
          · have hbt : (u1 == 0) = false := by rw [beq_eq_false_iff_ne]; exact hbe
            have HR := Lib.hid (HMISS.out (by rw [decide_eq_false hbe]; rfl))
            clear hbe hne HHIT HMISS HJn
            go_wp2_with fail
            go_round
            case rel => exact ⟨j + 1, by omega, by go_num, HR⟩
            case measure => simp [intOf]; omega
        · have HR := Lib.hid (HMISS.out (by rw [decide_eq_false hne, Bool.false_and]))
          rw [decide_eq_false hne] at hse
          clear hne HHIT HMISS HJn
          go_wp2_with fail
          go_round
          case rel => exact ⟨j + 1, by omega, by go_num, HR⟩
          case measure => simp [intOf]; omega
      · obtain rfl : j = m := by omega
        have hd2 : decide (j < j) = false := decide_eq_false (by omega)
        have HR : Hid (findL l (k : Int) (by' nm) = winL l (by' nm)) := Lib.hid (by rw [HE.out, own_none (by rw [← HM.out]; exact HJn.out)])
        clear hjt HJn HE
        go_wp2_with fail
        refine (HW.out _ HB.out).mono ?_; rintro e w2 ⟨rfl, q2⟩
        have HB2 := Lib.hid (below_call HB.out q2)
        have HX2 := Lib.hid (HX.out.call q2)
        clear q2 e0 e1 f0 f1 hl d1
        obtain ⟨e0, e1, f0, f1, hl2⟩ := HX2.out.st2
        go_wp2_with fail
        refine bodyPost_ret (res_pl_tmp Try.results25 _ _ w.heap.size _ _ _ rfl rfl (HX2.out.put2 _ _)) rfl ⟨by rw [HR.out, HP.out]; rfl, below_put2 HB2.out (Nat.le_refl _) _ _⟩
end Go.Proofs.Ytfnofolahhoggaa
