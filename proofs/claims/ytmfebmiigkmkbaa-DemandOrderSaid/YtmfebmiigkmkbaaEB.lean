/- The document's Notes. (written by mk_eb.py) -/
import Derived.Test.YtmfebmiigkmkbaaEA
import Derived.Test.YtmfebmiigkmkbaaQU
set_option linter.unusedVariables false
set_option linter.unusedSimpArgs false
namespace Go.Proofs.Ytmfebmiigkmkbaa
open Go Go.RowKit Oj Dm

theorem wpl_named {P : Program} {ops : Array Oper} {Q : Exit → Act → World → Prop} {rest : List Oper} {a : Act} {W : World} (h : ∀ w', w' = W → wpList P ops Q rest a w') : wpList P ops Q rest a W := h W rfl

set_option maxHeartbeats 16000000 in
set_option maxRecDepth 100000 in
theorem rnotes_any (v : Value) (m : Mf) (w : World) (hA : MfAt w v m) (hf : mfFits m) : Calls Try.prog 19 #[v] w fun e w' => ∃ v', e = .returned v' ∧ OwnN w' w.heap.size v' (notesR m) ∧ Below w.heap.size w w' := by
  have HC := Lib.hid (fun W (hq : Below w.heap.size w W) => rmay_any v m hf W (hA.below hq))
  obtain ⟨vx, vp, rfl, ⟨ax, cx, hvx, hX⟩, ⟨ap, cp, hvp, hP⟩⟩ := hA
  obtain ⟨i0, hi, hz0, hz1, hz2⟩ := info_parts infoNote
  have HI := Lib.hid (And.intro hi (And.intro hz0 (And.intro hz1 hz2)))
  obtain ⟨nx, hnx⟩ : ∃ n, n = m.ext.length := ⟨_, rfl⟩
  obtain ⟨np, hnp⟩ : ∃ n, n = m.ports.length := ⟨_, rfl⟩
  obtain ⟨p, hp'⟩ : ∃ p, p = m.pages := ⟨_, rfl⟩
  obtain ⟨cn, hcn⟩ : ∃ p, p = m.con := ⟨_, rfl⟩
  rw [← hnx] at hvx hX
  rw [← hnp] at hvp hP
  have f0 : 0 ≤ p := by rw [hp']; exact hf.1.1
  have f1 : p < 4294967296 := by rw [hp']; exact hf.1.2
  obtain ⟨b, hb⟩ : ∃ b, b = mfOk m := ⟨_, rfl⟩
  have HBm : Hid (mfOk m = b) := Lib.hid hb.symm
  have HLs : Hid (b = true → nx ≤ 16 ∧ np ≤ 16) := Lib.hid fun h => by
    rw [hb] at h
    rw [hnx, hnp]
    exact ⟨ext16 (hf.fine h).1, (hf.fine h).2⟩
  unfold mfV at HC ⊢
  rw [← hp', ← hcn, ← hb] at HC
  rw [← hp', ← hcn]
  subst hvx hvp
  have HB0 := Lib.hid (below_new1 w (.cells #[.int .u32 p, .slice ax nx cx, .slice ap np cp, .bool cn] 26))
  have HK0 := Lib.hid (Blk.new w 26 [.int .u32 p, .slice ax nx cx, .slice ap np cp, .bool cn])
  have HX := Lib.hid hX
  have HP := Lib.hid hP
  have HF := Lib.hid hf
  have HNx := Lib.hid hnx
  have HNp := Lib.hid hnp
  have HPg := Lib.hid hp'
  have HCn := Lib.hid hcn
  clear hi hz0 hz1 hz2 hnx hnp hp' hcn hX hP hf hb
  cases b with
  | false =>
    go_enter Try.func19, Try.ntmps19
    go_wp2_with fail
    refine (HC.out _ HB0.out).mono ?_; rintro e w1 ⟨rfl, q1⟩
    have HB1 := Lib.hid (below_call HB0.out q1)
    clear q1
    go_wp2_with fail
    go_ret
    exact ⟨_, rfl, by unfold notesR; rw [if_neg (by rw [HBm.out]; decide)]; exact World.ownsRow_nil _ _ _ _, HB1.out⟩
  | true =>
    obtain ⟨hxn, hpn⟩ : nx ≤ 16 ∧ np ≤ 16 := HLs.out rfl
    have hxi : (nx : Int) ≤ 16 := by omega
    have hpi : (np : Int) ≤ 16 := by omega
    clear hxn hpn HLs
    go_enter Try.func19, Try.ntmps19
    go_wp2_with fail
    refine (HC.out _ HB0.out).mono ?_; rintro e wa ⟨rfl, q1⟩
    have HB1 := Lib.hid (below_call HB0.out q1)
    have HK1 := Lib.hid (HK0.out.call q1)
    clear q1 HB0 HK0
    have b0 : wa.cell? ⟨w.heap.size, 0, none⟩ = some (.int .u32 p) := HK1.out.cell 0
    go_upto_if 11 with (fail)
    go_cut [3] (fun t3 wx => ∃ a n c, t3 = .slice a n c ∧ Hid (OwnN wx w.heap.size (.slice a n c) (nX m 0)) ∧ Hid (Below w.heap.size w wx) ∧ Hid (Blk wx w.heap.size 26 [.int .u32 p, .slice ax nx cx, .slice ap np cp, .bool cn]))
    case first =>
      by_cases hpg : 0 < p
      · have HE : Hid (nX m 0 = [] ++ [⟨1, p, 0⟩]) := Lib.hid (by rw [nX_zero, nP, ← HPg.out, if_pos hpg]; rfl)
        have HBx : Hid (w.heap.size ≤ (wa.alloc (.cells #[.int .u8 1, .int .u32 p, .int .u32 0] 28)).heap.size) := Lib.hid (below_box HB1.out _).size
        have HKM : Hid (0 + 1 ≤ maxLen ∧ (0 + 1) * 12 ≤ 140737488355328) := Lib.hid (by unfold maxLen; omega)
        go_wp2_with (at_builtin; (refine wpList_append_own _ rfl _ _ 37 rfl w.heap.size 28 i0 (.agg #[.int .u8 0, .int .u32 0, .int .u32 0]) 3 12 Try.underlying37 HI.out.1 HI.out.2.1 HI.out.2.2.1 HI.out.2.2.2 rfl (by decide)  (.slice none 0 0) 0 [] rfl (World.ownsRow_nil _ _ _ _) ⟨wa.heap.size, 0, none⟩ 1 1 [.int .u8 1, .int .u32 p, .int .u32 0] rfl rfl (new3 _ _ _ _) (one3 _ _ _) HKM.out.1 HKM.out.2 HBx.out ?_); intro v1 w1 h6 h7 _)
        have HO : Hid (OwnN w1 w.heap.size v1 (nX m 0)) := Lib.hid (by rw [HE.out]; exact OwnN.add (l := []) h6)
        have HB2 : Hid (Below w.heap.size w w1) := Lib.hid ((below_box HB1.out _).grown h7 (below_box HB1.out _).size (fun k hk => by cases hk))
        have HK2 : Hid (Blk w1 w.heap.size 26 [.int .u32 p, .slice ax nx cx, .slice ap np cp, .bool cn]) := Lib.hid ((HK1.out.alloc _).grown h7 (by simp [Value.ownBlock]))
        obtain ⟨a1, c1, rfl⟩ := row_sl h6
        clear h6 h7 b0
        go_wp2_with fail
        go_meet
        exact ⟨_, _, _, rfl, HO, HB2, HK2⟩
      · have hpg0 : p = 0 := by omega
        have HE : Hid (nX m 0 = []) := Lib.hid (by rw [nX_zero, nP, ← HPg.out, if_neg hpg])
        have HO : Hid (OwnN wa w.heap.size (.slice none 0 0) (nX m 0)) := Lib.hid (by rw [HE.out]; exact World.ownsRow_nil _ _ _ _)
        clear hpg0
        go_wp2_with fail
        go_meet
        exact ⟨_, _, _, rfl, HO, HB1, HK1⟩
    case rest =>
      clear HB1 HK1 b0
      obtain ⟨a3, n3, c3, rfl, HO, HB, HK⟩ := hcut
      go_wp2_with fail
      go_loopw [3, 4] (fun t3 i wr => ∃ (k : Nat) (a : Option Addr) (n c : Nat), (k : Int) ≤ nx ∧ i = .int .i64 k ∧ t3 = .slice a n c ∧ Hid (OwnN wr w.heap.size (.slice a n c) (nX m k)) ∧ Hid (Below w.heap.size w wr) ∧ Hid (Blk wr w.heap.size 26 [.int .u32 p, .slice ax nx cx, .slice ap np cp, .bool cn])) (fun _ i _ => nx - (intOf i).toNat)
      case atStart => exact ⟨0, a3, n3, c3, by omega, rfl, rfl, HO, HB, HK⟩
      case round =>
        clear HO HB HK
        obtain ⟨k, a4, n4, c4, hk, rfl, rfl, HO, HB, HK⟩ := hrel
        have b1 : wr.cell? ⟨w.heap.size, 1, none⟩ = some (.slice ax nx cx) := HK.out.cell 1
        by_cases hlt : k < nx
        · have hd : decide (k < nx) = true := decide_eq_true hlt
          obtain ⟨b, o, rfl, hbl, hcl⟩ := HX.out (by omega)
          obtain ⟨c0, c1⟩ := ((hcl k hlt).below HB.out hbl).xt
          have HE : Hid (nX m (k + 1) = nX m k ++ [⟨2, (m.ext.getD k Xt.nought).id, (m.ext.getD k Xt.nought).bl⟩]) := Lib.hid (nX_succ m k (by rw [← HNx.out]; exact hlt))
          obtain ⟨i, hi⟩ : ∃ i, i = (m.ext.getD k Xt.nought).id := ⟨_, rfl⟩
          obtain ⟨bb, hbb⟩ : ∃ i, i = (m.ext.getD k Xt.nought).bl := ⟨_, rfl⟩
          rw [← hi, ← hbb] at HE
          rw [← hi] at c0
          rw [← hbb] at c1
          have hlen := nX_len m k
          have HKM : Hid ((nX m k).length + 1 ≤ maxLen ∧ ((nX m k).length + 1) * 12 ≤ 140737488355328) := Lib.hid (by unfold maxLen; omega)
          have HNL : Hid (n4 = (nX m k).length) := Lib.hid (by obtain ⟨_, _, h⟩ := row_sl HO.out; injection h)
          clear hcl hi hbb hlen
          go_upto_region 9 with (fail)
          refine wp_region_quiet_tail_one 13 (.slice a4 n4 c4) (by kernel_rfl) (by kernel_rfl) rfl (fun _ _ _ h => h) (fun w => BigFrame.run_move (.tmp 3) rfl w) ?_
          simp only [List.take_succ_cons, List.take_zero, List.drop_succ_cons, List.drop_zero, Act.put, List.setIfInBounds_toArray, List.set_cons_zero, List.set_cons_succ]
          repeat (go_big_quiet_step (fail))
          refine wpQuiet_nil ?_
          intro _ hw'
          obtain ⟨nq, hw''⟩ := hw'
          subst hw''
          obtain ⟨wd, hwd⟩ : ∃ wd, wd = wr.drewN nq := ⟨_, rfl⟩
          have HOd : Hid (OwnN wd w.heap.size (.slice a4 n4 c4) (nX m k)) := Lib.hid (by rw [hwd]; exact row_below HO.out (below_drewN wr nq))
          have HBd : Hid (Below w.heap.size w wd) := Lib.hid (by rw [hwd]; exact below_drew HB.out nq)
          have HKd := Lib.hid (show Blk wd w.heap.size 26 _ from by rw [hwd]; exact HK.out.drewN nq)
          rw [← hwd]
          have HBx : Hid (w.heap.size ≤ (wd.alloc (.cells #[.int .u8 2, .int .u32 i, .int .u32 bb] 28)).heap.size) := Lib.hid (below_box HBd.out _).size
          clear hwd c0 c1 b1 HO HB HK
          go_wp2_with (at_builtin; (refine wpList_append_own _ rfl _ _ 37 rfl w.heap.size 28 i0 (.agg #[.int .u8 0, .int .u32 0, .int .u32 0]) 3 12 Try.underlying37 HI.out.1 HI.out.2.1 HI.out.2.2.1 HI.out.2.2.2 rfl (by decide)  (.slice a4 n4 c4) (nX m k).length _ rfl (World.ownsRow.alloc HOd.out _) ⟨wd.heap.size, 0, none⟩ 1 1 [.int .u8 2, .int .u32 i, .int .u32 bb] rfl rfl (new3 _ _ _ _) (one3 _ _ _) HKM.out.1 HKM.out.2 HBx.out ?_); intro v1 w1 h6 h7 _)
          have HO1 : Hid (OwnN w1 w.heap.size v1 (nX m (k + 1))) := Lib.hid (by rw [HE.out]; exact OwnN.add h6)
          have HB1 : Hid (Below w.heap.size w w1) := Lib.hid (app_low HBd.out HOd.out h7)
          have HK1 := Lib.hid (app_blk HKd.out (by decide) HOd.out h7)
          obtain ⟨a1, c1, rfl⟩ := row_sl h6
          clear h6 h7
          go_wp2_with fail
          go_roundw
          case rel => exact ⟨k + 1, _, _, _, by omega, by go_num, rfl, HO1, HB1, HK1⟩
          case measure => simp [intOf]; omega
        · have hd : decide (k < nx) = false := decide_eq_false hlt
          have HO5 : Hid (OwnN wr w.heap.size (.slice a4 n4 c4) (nT m 0)) := Lib.hid (by
            have h := HO.out
            rw [nT_zero, ← HNx.out, show nx = k by omega]
            exact h)
          clear hlt HO
          go_wp2_with fail
          clear b1
          go_loopw [3, 5] (fun t3 i wr => ∃ (k : Nat) (a : Option Addr) (n c : Nat), (k : Int) ≤ np ∧ i = .int .i64 k ∧ t3 = .slice a n c ∧ Hid (OwnN wr w.heap.size (.slice a n c) (nT m k)) ∧ Hid (Below w.heap.size w wr) ∧ Hid (Blk wr w.heap.size 26 [.int .u32 p, .slice ax nx cx, .slice ap np cp, .bool cn])) (fun _ i _ => np - (intOf i).toNat)
          case atStart => exact ⟨0, a4, n4, c4, by omega, rfl, rfl, HO5, HB, HK⟩
          case round =>
            clear HO5 HB HK
            obtain ⟨k, a5, n5, c5, hk, rfl, rfl, HO, HB, HK⟩ := hrel
            have b2 : wr.cell? ⟨w.heap.size, 2, none⟩ = some (.slice ap np cp) := HK.out.cell 2
            by_cases hlt : k < np
            · have hd : decide (k < np) = true := decide_eq_true hlt
              obtain ⟨b, o, rfl, hbl, hcl⟩ := HP.out (by omega)
              have c0 := ((hcl k hlt).below HB.out hbl).pt
              rw [Nat.mul_one] at c0
              have hfx := HF.out.2.2.2.2 k (by rw [← HNp.out]; exact hlt)
              have HE : Hid (nT m (k + 1) = nT m k ++ [⟨3, m.ports.getD k 0, 0⟩]) := Lib.hid (nT_succ m k (by rw [← HNp.out]; exact hlt))
              obtain ⟨q, hq⟩ : ∃ q, q = m.ports.getD k 0 := ⟨_, rfl⟩
              rw [← hq] at HE c0 hfx
              obtain ⟨q0, q1⟩ := hfx
              have hlen := nT_len m k
              have HKM : Hid ((nT m k).length + 1 ≤ maxLen ∧ ((nT m k).length + 1) * 12 ≤ 140737488355328) := Lib.hid (by have := HNx.out; unfold maxLen; omega)
              have HNL : Hid (n5 = (nT m k).length) := Lib.hid (by obtain ⟨_, _, h⟩ := row_sl HO.out; injection h)
              have HBx : Hid (w.heap.size ≤ (wr.alloc (.cells #[.int .u8 3, .int .u32 q, .int .u32 0] 28)).heap.size) := Lib.hid (below_box HB.out _).size
              clear hcl hq hlen
              go_wp2_with (at_builtin; (refine wpList_append_own _ rfl _ _ 37 rfl w.heap.size 28 i0 (.agg #[.int .u8 0, .int .u32 0, .int .u32 0]) 3 12 Try.underlying37 HI.out.1 HI.out.2.1 HI.out.2.2.1 HI.out.2.2.2 rfl (by decide)  (.slice a5 n5 c5) (nT m k).length _ rfl (World.ownsRow.alloc HO.out _) ⟨wr.heap.size, 0, none⟩ 1 1 [.int .u8 3, .int .u32 q, .int .u32 0] rfl rfl (new3 _ _ _ _) (one3 _ _ _) HKM.out.1 HKM.out.2 HBx.out ?_); intro v1 w1 h6 h7 _)
              have HO1 : Hid (OwnN w1 w.heap.size v1 (nT m (k + 1))) := Lib.hid (by rw [HE.out]; exact OwnN.add h6)
              have HB1 : Hid (Below w.heap.size w w1) := Lib.hid (app_low HB.out HO.out h7)
              have HK1 := Lib.hid (app_blk HK.out (by decide) HO.out h7)
              obtain ⟨a1, c1, rfl⟩ := row_sl h6
              clear h6 h7 c0 b2
              go_wp2_with fail
              go_roundw
              case rel => exact ⟨k + 1, _, _, _, by omega, by go_num, rfl, HO1, HB1, HK1⟩
              case measure => simp [intOf]; omega
            · have hd : decide (k < np) = false := decide_eq_false hlt
              have HO5 : Hid (OwnN wr w.heap.size (.slice a5 n5 c5) (nT m m.ports.length)) := Lib.hid (by
                have h := HO.out
                rw [← HNp.out, show np = k by omega]
                exact h)
              have b3 : wr.cell? ⟨w.heap.size, 3, none⟩ = some (.bool cn) := HK.out.cell 3
              obtain ⟨L, hL⟩ : ∃ L, L = nT m m.ports.length := ⟨_, rfl⟩
              have HLL : Hid (notesR m = L ++ nC cn ∧ L.length ≤ 3145728) := Lib.hid ⟨by unfold notesR; rw [if_pos HBm.out, nT_all, hL, HCn.out], by
                have h1 := nT_len m m.ports.length
                rw [← HNx.out, ← HNp.out] at h1
                rw [hL, ← HNp.out]
                omega⟩
              rw [← hL] at HO5
              clear hlt HO hL
              cases cn with
              | false =>
                go_wp2_with fail
                go_ret
                exact ⟨_, rfl, by rw [HLL.out.1, show nC false = [] from rfl, List.append_nil]; exact HO5.out, HB.out⟩
              | true =>
                have HKM : Hid (L.length + 1 ≤ maxLen ∧ (L.length + 1) * 12 ≤ 140737488355328) := Lib.hid (by have := HLL.out.2; unfold maxLen; omega)
                have HNL : Hid (n5 = L.length) := Lib.hid (by obtain ⟨_, _, h⟩ := row_sl HO5.out; injection h)
                have HBx : Hid (w.heap.size ≤ (wr.alloc (.cells #[.int .u8 4, .int .u32 0, .int .u32 0] 28)).heap.size) := Lib.hid (below_box HB.out _).size
                go_wp2_with (at_builtin; (refine wpList_append_own _ rfl _ _ 37 rfl w.heap.size 28 i0 (.agg #[.int .u8 0, .int .u32 0, .int .u32 0]) 3 12 Try.underlying37 HI.out.1 HI.out.2.1 HI.out.2.2.1 HI.out.2.2.2 rfl (by decide)  (.slice a5 n5 c5) L.length _ rfl (World.ownsRow.alloc HO5.out _) ⟨wr.heap.size, 0, none⟩ 1 1 [.int .u8 4, .int .u32 0, .int .u32 0] rfl rfl (new3 _ _ _ _) (one3 _ _ _) HKM.out.1 HKM.out.2 HBx.out ?_); intro v1 w1 h6 h7 _)
                have HO1 : Hid (OwnN w1 w.heap.size v1 (L ++ [⟨4, 0, 0⟩])) := Lib.hid (OwnN.add h6)
                have HB1 : Hid (Below w.heap.size w w1) := Lib.hid (app_low HB.out HO5.out h7)
                obtain ⟨a1, c1, rfl⟩ := row_sl h6
                clear h6 h7
                go_wp2_with fail
                go_ret
                exact ⟨_, rfl, by rw [HLL.out.1]; exact HO1.out, HB1.out⟩
end Go.Proofs.Ytmfebmiigkmkbaa
