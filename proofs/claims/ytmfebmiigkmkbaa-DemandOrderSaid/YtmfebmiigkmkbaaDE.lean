/- The document's May of a manifest. -/
import Derived.Test.YtmfebmiigkmkbaaDD
set_option linter.unusedVariables false
set_option linter.unusedSimpArgs false
namespace Go.Proofs.Ytmfebmiigkmkbaa
open Go Go.RowKit Oj Dm

set_option maxHeartbeats 8000000 in
set_option maxRecDepth 100000 in
theorem rmay_any (v : Value) (m : Mf) (hf : mfFits m) (w : World) (hA : MfAt w v m) : Calls Try.prog 11 #[v] w fun e w' => e = .returned (.bool (mfOk m)) ∧ Below w.heap.size w w' := by
  obtain ⟨⟨f0, f1⟩, f2, f3, f4, f5⟩ := hf
  obtain ⟨vx, vp, rfl, ⟨ax, cx, hvx, hX⟩, ⟨ap, cp, hvp, hP⟩⟩ := hA
  obtain ⟨lx, hlx⟩ : ∃ n, n = m.ext := ⟨_, rfl⟩
  obtain ⟨lp, hlp⟩ : ∃ n, n = m.ports := ⟨_, rfl⟩
  rw [← hlx] at f2 f4 hvx hX
  rw [← hlp] at f3 f5 hvp hP
  obtain ⟨nx, hnx⟩ : ∃ n, n = lx.length := ⟨_, rfl⟩
  obtain ⟨np, hnp⟩ : ∃ n, n = lp.length := ⟨_, rfl⟩
  obtain ⟨p, hp⟩ : ∃ p, p = m.pages := ⟨_, rfl⟩
  obtain ⟨cn, hcn⟩ : ∃ p, p = m.con := ⟨_, rfl⟩
  have HM : Hid (mfOk m = (decide (p ≤ 1024) && extOk lx && (ptsOk lp && decide (np ≤ 16)))) := Lib.hid (by unfold mfOk; rw [hp, hlx, hnp, hlp])
  rw [← hnx] at hvx hX f2 f4
  rw [← hnp] at hvp hP f3 f5
  rw [← hp] at f0 f1
  unfold mfV
  rw [← hp, ← hcn]
  subst hvx hvp
  have hxi : (nx : Int) ≤ 17592186044416 := by omega
  have hpi : (np : Int) ≤ 70368744177664 := by omega
  have HB0 := Lib.hid (below_new1 w (.cells #[.int .u32 p, .slice ax nx cx, .slice ap np cp, .bool cn] 26))
  have HK0 := Lib.hid (Blk.new w 26 [.int .u32 p, .slice ax nx cx, .slice ap np cp, .bool cn])
  have HX := Lib.hid hX
  have HP := Lib.hid hP
  have H4 := Lib.hid f4
  have H5 := Lib.hid f5
  have HNx := Lib.hid hnx
  have HNp := Lib.hid hnp
  clear hlx hlp hnx hnp hp hcn f2 f3 f4 f5 hX hP
  go_enter Try.func11, Try.ntmps11
  go_wp2_with fail
  go_loopw [3] (fun i wr => ∃ k : Nat, (k : Int) ≤ nx ∧ i = .int .i64 k ∧ Hid (∀ j, j < k → xtAt lx j = true) ∧ Hid (Below w.heap.size w wr) ∧ Hid (Blk wr w.heap.size 26 [.int .u32 p, .slice ax nx cx, .slice ap np cp, .bool cn])) (fun i _ => nx - (intOf i).toNat)
  case atStart => exact ⟨0, by omega, rfl, Lib.hid fun j hj => absurd hj (by omega), HB0, HK0⟩
  case round =>
    clear HB0 HK0
    obtain ⟨k, hk, rfl, HK, HB, HX0⟩ := hrel
    have b1 : wr.cell? ⟨w.heap.size, 1, none⟩ = some (.slice ax nx cx) := HX0.out.cell 1
    by_cases hlt : k < nx
    · have hd : decide (k < nx) = true := decide_eq_true hlt
      obtain ⟨b, o, rfl, hbl, hcl⟩ := HX.out (by omega)
      obtain ⟨x, hx⟩ : ∃ x, x = lx.getD k Xt.nought := ⟨_, rfl⟩
      have hL := (hcl k hlt).below HB.out hbl
      have hf := H4.out k hlt
      rw [← hx] at hL hf
      obtain ⟨c0, c1⟩ := hL.xt
      obtain ⟨⟨g0, g1⟩, g2, g3⟩ := hf
      obtain ⟨i, hi⟩ : ∃ i, i = x.id := ⟨_, rfl⟩
      obtain ⟨bb, hbb⟩ : ∃ i, i = x.bl := ⟨_, rfl⟩
      rw [← hi] at c0 g0 g1
      rw [← hbb] at c1 g2 g3
      have hbr : b < wr.heap.size := Nat.lt_of_lt_of_le hbl HB.out.size
      have hwr : w.heap.size < wr.heap.size := HX0.out.lt
      have HBa := Lib.hid (below_box HB.out (.cells #[.int .u32 i, .int .u32 bb] 50))
      have HXa := Lib.hid (HX0.out.alloc (.cells #[.int .u32 i, .int .u32 bb] 50))
      have HA : Hid (xtAt lx k = decide (i < 16 ∧ 1 ≤ bb ∧ bb ≤ 1024 ∧ (0 < k → (lx.getD (k - 1) Xt.nought).id < i))) := Lib.hid (by
        unfold xtAt; rw [← hx, ← hi, ← hbb])
      have HPr : Hid (0 < k → ∃ q : Int, q = (lx.getD (k - 1) Xt.nought).id ∧ wr.cell? ⟨b, o + (k - 1) * 2, none⟩ = some (.int .u32 q) ∧ 0 ≤ q ∧ q < 4294967296) := Lib.hid fun h0 =>
        ⟨_, rfl, ((hcl (k - 1) (by omega)).below HB.out hbl).xt.1, (H4.out (k - 1) (by omega)).1.1, (H4.out (k - 1) (by omega)).1.2⟩
      have HBAD : Hid (xtAt lx k = false → mfOk m = false) := Lib.hid fun h => by
        rw [HM.out]
        unfold extOk
        rw [allN_false (k := k) (by rw [← HNx.out]; exact hlt) h, Bool.and_false, Bool.false_and]
      clear hL hx hi hbb hcl
      by_cases e1 : i < 16
      · by_cases e2 : 1 ≤ bb
        · by_cases e3 : bb ≤ 1024
          · have n1 : ¬ 16 ≤ i := by omega
            have n2 : ¬ bb < 1 := by omega
            have n3 : ¬ 1024 < bb := by omega
            have d1 : decide (16 ≤ i) = false := decide_eq_false n1
            have d2 : decide (bb < 1) = false := decide_eq_false n2
            have d3 : decide (1024 < bb) = false := decide_eq_false n3
            rcases Nat.eq_zero_or_pos k with h0 | h0
            · have HK2 : Hid (∀ j, j < k + 1 → xtAt lx j = true) := Lib.hid fun j hj => by
                by_cases he : j = k
                · subst he; rw [HA.out]; exact decide_eq_true ⟨e1, e2, e3, fun h => by omega⟩
                · exact HK.out j (by omega)
              have hd0 : decide (0 < k) = false := decide_eq_false (by omega)
              clear HPr HA HK HBAD h0 n1 n2 n3
              go_upto_region 5 with (fail)
              go_quiet (fail)
              go_wp2_with fail
              clear c0 c1 b1
              go_roundw
              case rel => exact ⟨k + 1, by omega, by go_num, HK2, Lib.hid (below_drew HBa.out _), Lib.hid (HXa.out.drewN _)⟩
              case measure => simp [intOf]; omega
            · obtain ⟨q, hq, cq, q0, q1⟩ := HPr.out h0
              have hd0 : decide (0 < k) = true := decide_eq_true h0
              have hw1 : IntKind.i64.wrap ((k : Int) - 1) = (k : Int) - 1 := by rw [IntKind.wrap_i64]; omega
              have hw2 : 1 ≤ (k : Int) := by omega
              have hw3 : ((k : Int) - 1).toNat = k - 1 := by omega
              have hw4 : (k : Int) - 1 < nx := by omega
              have hw5 : 0 ≤ (k : Int) - 1 := by omega
              by_cases g4 : q < i
              · have HK2 : Hid (∀ j, j < k + 1 → xtAt lx j = true) := Lib.hid fun j hj => by
                  by_cases he : j = k
                  · subst he; rw [HA.out]; exact decide_eq_true ⟨e1, e2, e3, fun h => by rw [← hq]; exact g4⟩
                  · exact HK.out j (by omega)
                have hdi : decide (i ≤ q) = false := decide_eq_false (by omega)
                clear HPr HA HK HBAD h0 hq n1 n2 n3
                go_upto_region 5 with (fail)
                go_quiet (fail)
                go_wp2_with fail
                clear c0 c1 cq hw1 hw2 hw3 hw4 hw5 b1
                go_roundw
                case rel => exact ⟨k + 1, by omega, by go_num, HK2, Lib.hid (below_drew HBa.out _), Lib.hid (HXa.out.drewN _)⟩
                case measure => simp [intOf]; omega
              · have g5 : i ≤ q := by omega
                have hdi : decide (i ≤ q) = true := decide_eq_true g5
                have HR : Hid (mfOk m = false) := Lib.hid (HBAD.out (by rw [HA.out]; exact decide_eq_false (fun h => by have := h.2.2.2 h0; rw [← hq] at this; exact g4 this)))
                clear HPr HA HK HBAD h0 hq n1 n2 n3
                go_upto_region 5 with (fail)
                go_quiet (fail)
                go_wp2_with fail
                go_ret
                exact ⟨ret_bool HR.out.symm, below_drew HBa.out _⟩
          · have HR : Hid (mfOk m = false) := Lib.hid (HBAD.out (by rw [HA.out]; exact decide_eq_false (fun h => e3 h.2.2.1)))
            have d1 : decide (16 ≤ i) = false := decide_eq_false (by omega)
            have d2 : decide (bb < 1) = false := decide_eq_false (by omega)
            have d3 : decide (1024 < bb) = true := decide_eq_true (by omega)
            clear HPr HA HK HBAD e3
            go_upto_region 5 with (fail)
            go_quiet (fail)
            go_wp2_with fail
            go_ret
            exact ⟨ret_bool HR.out.symm, below_drew HBa.out _⟩
        · have HR : Hid (mfOk m = false) := Lib.hid (HBAD.out (by rw [HA.out]; exact decide_eq_false (fun h => e2 h.2.1)))
          have d1 : decide (16 ≤ i) = false := decide_eq_false (by omega)
          have d2 : decide (bb < 1) = true := decide_eq_true (by omega)
          clear HPr HA HK HBAD e2
          go_upto_region 5 with (fail)
          go_quiet (fail)
          go_wp2_with fail
          go_ret
          exact ⟨ret_bool HR.out.symm, below_drew HBa.out _⟩
      · have HR : Hid (mfOk m = false) := Lib.hid (HBAD.out (by rw [HA.out]; exact decide_eq_false (fun h => e1 h.1)))
        have d1 : decide (16 ≤ i) = true := decide_eq_true (by omega)
        clear HPr HA HK HBAD e1
        go_upto_region 5 with (fail)
        go_quiet (fail)
        go_wp2_with fail
        go_ret
        exact ⟨ret_bool HR.out.symm, below_drew HBa.out _⟩
    · have hd : decide (k < nx) = false := decide_eq_false hlt
      have HE : Hid (extOk lx = true) := Lib.hid (allN_true fun j hj => HK.out j (by rw [← HNx.out] at hj; omega))
      clear hlt HK
      go_wp2_with fail
      clear b1
      go_loopw [5] (fun i wr => ∃ k : Nat, (k : Int) ≤ np ∧ i = .int .i64 k ∧ Hid (∀ j, j < k → ptAt lp j = true) ∧ Hid (Below w.heap.size w wr) ∧ Hid (Blk wr w.heap.size 26 [.int .u32 p, .slice ax nx cx, .slice ap np cp, .bool cn])) (fun i _ => np - (intOf i).toNat)
      case atStart => exact ⟨0, by omega, rfl, Lib.hid fun j hj => absurd hj (by omega), HB, HX0⟩
      case round =>
        clear HB HX0
        obtain ⟨k, hk, rfl, HK, HB, HX0⟩ := hrel
        have b2 : wr.cell? ⟨w.heap.size, 2, none⟩ = some (.slice ap np cp) := HX0.out.cell 2
        by_cases hlt : k < np
        · have hd : decide (k < np) = true := decide_eq_true hlt
          obtain ⟨b, o, rfl, hbl, hcl⟩ := HP.out (by omega)
          obtain ⟨x, hx⟩ : ∃ x, x = lp.getD k 0 := ⟨_, rfl⟩
          have c0 := ((hcl k hlt).below HB.out hbl).pt
          have hf := H5.out k hlt
          rw [← hx] at c0 hf
          rw [Nat.mul_one] at c0
          obtain ⟨g0, g1⟩ := hf
          have HA : Hid (ptAt lp k = decide (x ≠ 0 ∧ (0 < k → lp.getD (k - 1) 0 < x))) := Lib.hid (by unfold ptAt; rw [← hx])
          have HPr : Hid (0 < k → ∃ q : Int, q = lp.getD (k - 1) 0 ∧ wr.cell? ⟨b, o + (k - 1), none⟩ = some (.int .u16 q) ∧ 0 ≤ q ∧ q < 65536) := Lib.hid fun h0 =>
            ⟨_, rfl, by have := ((hcl (k - 1) (by omega)).below HB.out hbl).pt; rwa [Nat.mul_one] at this, (H5.out (k - 1) (by omega)).1, (H5.out (k - 1) (by omega)).2⟩
          have HBAD : Hid (ptAt lp k = false → mfOk m = false) := Lib.hid fun h => by
            rw [HM.out]
            unfold ptsOk
            rw [allN_false (k := k) (by rw [← HNp.out]; exact hlt) h, Bool.false_and, Bool.and_false]
          clear hx hcl
          by_cases e1 : x = 0
          · have HR : Hid (mfOk m = false) := Lib.hid (HBAD.out (by rw [HA.out]; exact decide_eq_false (fun h => h.1 e1)))
            clear HPr HA HK HBAD
            subst e1
            go_upto_region 10 with (fail)
            go_quiet (fail)
            go_wp2_with fail
            go_ret
            exact ⟨ret_bool HR.out.symm, below_drew HB.out _⟩
          · have e2 : (x == 0) = false := by simpa using e1
            rcases Nat.eq_zero_or_pos k with h0 | h0
            · have HK2 : Hid (∀ j, j < k + 1 → ptAt lp j = true) := Lib.hid fun j hj => by
                by_cases he : j = k
                · subst he; rw [HA.out]; exact decide_eq_true ⟨e1, fun h => by omega⟩
                · exact HK.out j (by omega)
              have hd0 : decide (0 < k) = false := decide_eq_false (by omega)
              clear HPr HA HK HBAD h0 e1
              go_upto_region 10 with (fail)
              go_quiet (fail)
              go_wp2_with fail
              clear c0 b2
              go_roundw
              case rel => exact ⟨k + 1, by omega, by go_num, HK2, Lib.hid (below_drew HB.out _), Lib.hid (HX0.out.drewN _)⟩
              case measure => simp [intOf]; omega
            · obtain ⟨q, hq, cq, q0, q1⟩ := HPr.out h0
              have hd0 : decide (0 < k) = true := decide_eq_true h0
              have hw1 : IntKind.i64.wrap ((k : Int) - 1) = (k : Int) - 1 := by rw [IntKind.wrap_i64]; omega
              have hw2 : 1 ≤ (k : Int) := by omega
              have hw3 : ((k : Int) - 1).toNat = k - 1 := by omega
              have hw4 : (k : Int) - 1 < np := by omega
              have hw5 : 0 ≤ (k : Int) - 1 := by omega
              by_cases g4 : q < x
              · have HK2 : Hid (∀ j, j < k + 1 → ptAt lp j = true) := Lib.hid fun j hj => by
                  by_cases he : j = k
                  · subst he; rw [HA.out]; exact decide_eq_true ⟨e1, fun h => by rw [← hq]; exact g4⟩
                  · exact HK.out j (by omega)
                have hdi : decide (x ≤ q) = false := decide_eq_false (by omega)
                clear HPr HA HK HBAD h0 hq e1
                go_upto_region 10 with (fail)
                go_quiet (fail)
                go_wp2_with fail
                clear c0 cq hw1 hw2 hw3 hw4 hw5 b2
                go_roundw
                case rel => exact ⟨k + 1, by omega, by go_num, HK2, Lib.hid (below_drew HB.out _), Lib.hid (HX0.out.drewN _)⟩
                case measure => simp [intOf]; omega
              · have hdi : decide (x ≤ q) = true := decide_eq_true (by omega)
                have HR : Hid (mfOk m = false) := Lib.hid (HBAD.out (by rw [HA.out]; exact decide_eq_false (fun h => by have := h.2 h0; rw [← hq] at this; exact g4 this)))
                clear HPr HA HK HBAD h0 hq e1
                go_upto_region 10 with (fail)
                go_quiet (fail)
                go_wp2_with fail
                go_ret
                exact ⟨ret_bool HR.out.symm, below_drew HB.out _⟩
        · have hd : decide (k < np) = false := decide_eq_false hlt
          have HE2 : Hid (ptsOk lp = true) := Lib.hid (allN_true fun j hj => HK.out j (by rw [← HNp.out] at hj; omega))
          have HR : Hid (mfOk m = (decide (p ≤ 1024) && decide (np ≤ 16))) := Lib.hid (by rw [HM.out, HE.out, HE2.out, Bool.and_true, Bool.true_and])
          have b0 : wr.cell? ⟨w.heap.size, 0, none⟩ = some (.int .u32 p) := HX0.out.cell 0
          clear hlt HK HM
          by_cases e1 : p ≤ 1024
          · by_cases e2 : np ≤ 16
            · have e3 : (np : Int) ≤ 16 := by omega
              have HR2 : Hid (mfOk m = true) := Lib.hid (by rw [HR.out, decide_eq_true e1, decide_eq_true e2]; rfl)
              clear HR
              go_wp2_with fail
              go_ret
              exact ⟨ret_bool (by rw [HR2.out]; try simp), HB.out⟩
            · have e3 : (16 : Int) < np := by omega
              have e4 : ¬ ((np : Int) ≤ 16) := by omega
              have HR2 : Hid (mfOk m = false) := Lib.hid (by rw [HR.out, decide_eq_false e2, Bool.and_false])
              clear HR
              go_wp2_with fail
              go_ret
              exact ⟨ret_bool (by rw [HR2.out]; first | done | (simp; done) | (simp; omega)), HB.out⟩
          · have e3 : 1024 < p := by omega
            have HR2 : Hid (mfOk m = false) := Lib.hid (by rw [HR.out, decide_eq_false e1, Bool.false_and])
            clear HR
            go_wp2_with fail
            go_ret
            exact ⟨ret_bool (by rw [HR2.out]; first | done | (simp; done) | (simp; omega)), HB.out⟩
end Go.Proofs.Ytmfebmiigkmkbaa
