/- The document's Same. (written by mk_dy.py) -/
import Derived.Test.YtmfebmiigkmkbaaDU
set_option linter.unusedVariables false
set_option linter.unusedSimpArgs false
namespace Go.Proofs.Ytmfebmiigkmkbaa
open Go Go.RowKit Oj Dm

set_option maxHeartbeats 16000000 in
set_option maxRecDepth 100000 in
theorem rsame_any (v u : Value) (m n : Mf) (w : World) (hA : MfAt w v m) (hA2 : MfAt w u n) (hf : mfFits m) (hf2 : mfFits n) : Calls Try.prog 17 #[v, u] w fun e w' => e = .returned (.bool (decide (m = n))) ∧ Below w.heap.size w w' := by
  obtain ⟨vx, vp, rfl, ⟨ax, cx, hvx, hX⟩, ⟨ap, cp, hvp, hP⟩⟩ := hA
  obtain ⟨vx2, vp2, rfl, ⟨ax2, cx2, hvx2, hX2⟩, ⟨ap2, cp2, hvp2, hP2⟩⟩ := hA2
  obtain ⟨nx, gnx⟩ : ∃ n, n = m.ext.length := ⟨_, rfl⟩
  obtain ⟨np, gnp⟩ : ∃ n, n = m.ports.length := ⟨_, rfl⟩
  obtain ⟨nx2, gnx2⟩ : ∃ q, q = n.ext.length := ⟨_, rfl⟩
  obtain ⟨np2, gnp2⟩ : ∃ q, q = n.ports.length := ⟨_, rfl⟩
  have hxi : (nx : Int) ≤ 17592186044416 := by have := hf.2.1; omega
  have hpi : (np : Int) ≤ 70368744177664 := by have := hf.2.2.1; omega
  have hxi2 : (nx2 : Int) ≤ 17592186044416 := by have := hf2.2.1; omega
  have hpi2 : (np2 : Int) ≤ 70368744177664 := by have := hf2.2.2.1; omega
  rw [← gnx] at hvx hX
  rw [← gnp] at hvp hP
  rw [← gnx2] at hvx2 hX2
  rw [← gnp2] at hvp2 hP2
  obtain ⟨P, gP⟩ : ∃ P, P = m.pages := ⟨_, rfl⟩
  obtain ⟨C, gC⟩ : ∃ P, P = m.con := ⟨_, rfl⟩
  obtain ⟨P2, gP2⟩ : ∃ P, P = n.pages := ⟨_, rfl⟩
  obtain ⟨C2, gC2⟩ : ∃ P, P = n.con := ⟨_, rfl⟩
  have HE : Hid (decide (m = n) = (decide (P = P2) && decide (m.ext = n.ext) && decide (m.ports = n.ports) && (C == C2))) := Lib.hid (by rw [same_dec, gP, gP2, gC, gC2])
  unfold mfV
  rw [← gP, ← gP2, ← gC, ← gC2]
  subst hvx hvp hvx2 hvp2
  have HB0 := Lib.hid (below_new2 w (.cells #[.int .u32 P, .slice ax nx cx, .slice ap np cp, .bool C] 26) (.cells #[.int .u32 P2, .slice ax2 nx2 cx2, .slice ap2 np2 cp2, .bool C2] 26))
  have HK0 : Hid (Blk ((w.alloc (.cells #[.int .u32 P, .slice ax nx cx, .slice ap np cp, .bool C] 26)).alloc (.cells #[.int .u32 P2, .slice ax2 nx2 cx2, .slice ap2 np2 cp2, .bool C2] 26)) w.heap.size 26 [.int .u32 P, .slice ax nx cx, .slice ap np cp, .bool C]) := Lib.hid ((Blk.new w 26 _).alloc _)
  have HQ0 : Hid (Blk ((w.alloc (.cells #[.int .u32 P, .slice ax nx cx, .slice ap np cp, .bool C] 26)).alloc (.cells #[.int .u32 P2, .slice ax2 nx2 cx2, .slice ap2 np2 cp2, .bool C2] 26)) (w.heap.size + 1) 26 [.int .u32 P2, .slice ax2 nx2 cx2, .slice ap2 np2 cp2, .bool C2]) := Lib.hid (Blk.new2 w _ 26 _)
  have HX := Lib.hid hX
  have HP := Lib.hid hP
  have HX2 := Lib.hid hX2
  have HP2 := Lib.hid hP2
  have HNx := Lib.hid gnx
  have HNp := Lib.hid gnp
  have HNx2 := Lib.hid gnx2
  have HNp2 := Lib.hid gnp2
  clear gnx gnp gnx2 gnp2 gP gC gP2 gC2 hf hf2 hX hP hX2 hP2
  by_cases z0 : P = P2
  case neg =>
    have HR : Hid (decide (m = n) = false) := Lib.hid (by rw [HE.out, decide_eq_false z0]; rfl)
    have q : (P != P2) = true := bne_iff_ne.2 z0
    have q' : (P == P2) = false := beq_eq_false_iff_ne.2 z0
    clear z0 HE
    go_enter Try.func17, Try.ntmps17
    go_wp2_with fail
    go_ret
    exact ⟨ret_bool HR.out.symm, HB0.out⟩
  subst z0
  by_cases zc : C = C2
  case neg =>
    have HR : Hid (decide (m = n) = false) := Lib.hid (by rw [HE.out, show (C == C2) = false from beq_eq_false_iff_ne.2 zc, Bool.and_false])
    clear HE
    cases C <;> cases C2
    · exact absurd rfl zc
    · clear zc
      go_enter Try.func17, Try.ntmps17
      go_wp2_with fail
      go_ret
      exact ⟨ret_bool HR.out.symm, HB0.out⟩
    · clear zc
      go_enter Try.func17, Try.ntmps17
      go_wp2_with fail
      go_ret
      exact ⟨ret_bool HR.out.symm, HB0.out⟩
    · exact absurd rfl zc
  subst zc
  have HE2 : Hid (decide (m = n) = (decide (m.ext = n.ext) && decide (m.ports = n.ports))) := Lib.hid (by rw [HE.out]; simp)
  have hcc : (C == C) = true := by simp
  clear HE
  by_cases zx : nx = nx2
  case neg =>
    have HR : Hid (decide (m = n) = false) := Lib.hid (by rw [HE2.out, decide_eq_false (fun e => zx (by rw [HNx.out, HNx2.out, e])), Bool.false_and])
    have q := len_ne zx
    have q' := len_ne2 zx
    clear zx HE2
    cases C
    all_goals
      go_enter Try.func17, Try.ntmps17
      go_wp2_with fail
      go_ret
      exact ⟨ret_bool HR.out.symm, HB0.out⟩
  subst zx
  by_cases zp : np = np2
  case neg =>
    have HR : Hid (decide (m = n) = false) := Lib.hid (by rw [HE2.out, decide_eq_false (p := m.ports = n.ports) (fun e => zp (by rw [HNp.out, HNp2.out, e])), Bool.and_false])
    have q := len_ne zp
    have q' := len_ne2 zp
    clear zp HE2
    cases C
    all_goals
      go_enter Try.func17, Try.ntmps17
      go_wp2_with fail
      go_ret
      exact ⟨ret_bool HR.out.symm, HB0.out⟩
  subst zp
  clear hxi2 hpi2
  cases C with
  | false =>
    go_enter Try.func17, Try.ntmps17
    go_wp2_with fail
    go_loopw [5] (fun i wr => ∃ k : Nat, (k : Int) ≤ nx ∧ i = .int .i64 k ∧ Hid (∀ j, j < k → m.ext.getD j Xt.nought = n.ext.getD j Xt.nought) ∧ Hid (Below w.heap.size w wr) ∧ Hid (Blk wr w.heap.size 26 [.int .u32 P, .slice ax nx cx, .slice ap np cp, .bool false]) ∧ Hid (Blk wr (w.heap.size + 1) 26 [.int .u32 P, .slice ax2 nx cx2, .slice ap2 np cp2, .bool false])) (fun i _ => nx - (intOf i).toNat)
    case atStart => exact ⟨0, by omega, rfl, Lib.hid fun j hj => absurd hj (by omega), HB0, HK0, HQ0⟩
    case round =>
      clear HB0 HK0 HQ0
      obtain ⟨k, hk, rfl, HK, HB, HM, HQ⟩ := hrel
      have b1 : wr.cell? ⟨w.heap.size, 1, none⟩ = some (.slice ax nx cx) := HM.out.cell 1
      have d1 : wr.cell? ⟨w.heap.size + 1, 1, none⟩ = some (.slice ax2 nx cx2) := HQ.out.cell 1
      by_cases hlt : k < nx
      · have hd : decide (k < nx) = true := decide_eq_true hlt
        obtain ⟨b, o, rfl, hbl, hcl⟩ := HX.out (by omega)
        obtain ⟨b2, o2, rfl, hbl2, hcl2⟩ := HX2.out (by omega)
        obtain ⟨c0, c1⟩ := ((hcl k hlt).below HB.out hbl).xt
        obtain ⟨e0, e1⟩ := ((hcl2 k hlt).below HB.out hbl2).xt
        obtain ⟨x, hx⟩ : ∃ x, x = m.ext.getD k Xt.nought := ⟨_, rfl⟩
        obtain ⟨y, hy⟩ : ∃ x, x = n.ext.getD k Xt.nought := ⟨_, rfl⟩
        rw [← hx] at c0 c1
        rw [← hy] at e0 e1
        by_cases hxy : x = y
        case pos =>
          have HK2 : Hid (∀ j, j < k + 1 → m.ext.getD j Xt.nought = n.ext.getD j Xt.nought) := Lib.hid (fun j hj => by
            by_cases hj2 : j = k
            · subst hj2; rw [← hx, ← hy]; exact hxy
            · exact HK.out j (by omega))
          subst hxy
          obtain ⟨x0, h0⟩ : ∃ y, y = x.id := ⟨_, rfl⟩
          obtain ⟨x1, h1⟩ : ∃ y, y = x.bl := ⟨_, rfl⟩
          rw [← h0] at c0 e0
          rw [← h1] at c1 e1
          clear hcl hcl2 hx hy HK h0 h1
          go_upto_region 6 with (fail)
          go_quiet (fail)
          go_wp2_with fail
          clear c0 c1 e0 e1 b1 d1
          go_roundw
          case rel => exact ⟨k + 1, by omega, by go_num, HK2, Lib.hid (below_drew HB.out _), Lib.hid (HM.out.drewN _), Lib.hid (HQ.out.drewN _)⟩
          case measure => simp [intOf]; omega
        case neg =>
          obtain ⟨p0, p1⟩ := x
          obtain ⟨r0, r1⟩ := y
          simp only at c0 e0 c1 e1
          have HR : Hid (decide (m = n) = false) := Lib.hid (by rw [HE2.out, decide_eq_false (p := m.ext = n.ext) (fun e => hxy (by rw [hx, hy, e])), Bool.false_and])
          clear hcl hcl2 hx hy HK
          by_cases z0 : p0 = r0
          case neg =>
            have q : (p0 == r0) = false := beq_eq_false_iff_ne.2 z0
            clear z0 hxy
            go_upto_region 6 with (fail)
            go_quiet (fail)
            go_wp2_with fail
            go_ret
            exact ⟨ret_bool HR.out.symm, below_drew HB.out _⟩
          subst z0
          have z1 : ¬ p1 = r1 := fun e => hxy (by rw [e])
          have q : (p1 == r1) = false := beq_eq_false_iff_ne.2 z1
          clear z1 hxy
          go_upto_region 6 with (fail)
          go_quiet (fail)
          go_wp2_with fail
          go_ret
          exact ⟨ret_bool HR.out.symm, below_drew HB.out _⟩
      · have hd : decide (k < nx) = false := decide_eq_false hlt
        have HE3 : Hid (decide (m = n) = decide (m.ports = n.ports)) := Lib.hid (by
          rw [HE2.out, decide_eq_true (list_of_at Xt.nought (by rw [← HNx.out, ← HNx2.out]) (fun j hj => HK.out j (by rw [← HNx.out] at hj; omega))), Bool.true_and])
        clear hlt HK
        go_wp2_with fail
        clear b1 d1
        go_loopw [6] (fun i wr => ∃ k : Nat, (k : Int) ≤ np ∧ i = .int .i64 k ∧ Hid (∀ j, j < k → m.ports.getD j 0 = n.ports.getD j 0) ∧ Hid (Below w.heap.size w wr) ∧ Hid (Blk wr w.heap.size 26 [.int .u32 P, .slice ax nx cx, .slice ap np cp, .bool false]) ∧ Hid (Blk wr (w.heap.size + 1) 26 [.int .u32 P, .slice ax2 nx cx2, .slice ap2 np cp2, .bool false])) (fun i _ => np - (intOf i).toNat)
        case atStart => exact ⟨0, by omega, rfl, Lib.hid fun j hj => absurd hj (by omega), HB, HM, HQ⟩
        case round =>
          clear HB HM HQ
          obtain ⟨k, hk, rfl, HK, HB, HM, HQ⟩ := hrel
          have b2 : wr.cell? ⟨w.heap.size, 2, none⟩ = some (.slice ap np cp) := HM.out.cell 2
          have d2 : wr.cell? ⟨w.heap.size + 1, 2, none⟩ = some (.slice ap2 np cp2) := HQ.out.cell 2
          by_cases hlt : k < np
          · have hd : decide (k < np) = true := decide_eq_true hlt
            obtain ⟨b, o, rfl, hbl, hcl⟩ := HP.out (by omega)
            obtain ⟨g, o2, rfl, hbl2, hcl2⟩ := HP2.out (by omega)
            have c0 := ((hcl k hlt).below HB.out hbl).pt
            have e0 := ((hcl2 k hlt).below HB.out hbl2).pt
            obtain ⟨x, hx⟩ : ∃ x, x = m.ports.getD k 0 := ⟨_, rfl⟩
            obtain ⟨y, hy⟩ : ∃ x, x = n.ports.getD k 0 := ⟨_, rfl⟩
            rw [← hx, Nat.mul_one] at c0
            rw [← hy, Nat.mul_one] at e0
            by_cases hxy : x = y
            case pos =>
              have HK2 : Hid (∀ j, j < k + 1 → m.ports.getD j 0 = n.ports.getD j 0) := Lib.hid (fun j hj => by
                by_cases hj2 : j = k
                · subst hj2; rw [← hx, ← hy]; exact hxy
                · exact HK.out j (by omega))
              subst hxy
              clear hcl hcl2 hx hy HK
              go_upto_region 11 with (fail)
              go_quiet (fail)
              go_wp2_with fail
              clear c0 e0 b2 d2
              go_roundw
              case rel => exact ⟨k + 1, by omega, by go_num, HK2, Lib.hid (below_drew HB.out _), Lib.hid (HM.out.drewN _), Lib.hid (HQ.out.drewN _)⟩
              case measure => simp [intOf]; omega
            case neg =>
              have q : (x == y) = false := beq_eq_false_iff_ne.2 hxy
              have HR : Hid (decide (m = n) = false) := Lib.hid (by rw [HE3.out, decide_eq_false (fun e => hxy (by rw [hx, hy, e]))])
              clear hcl hcl2 hx hy HK hxy
              go_upto_region 11 with (fail)
              go_quiet (fail)
              go_wp2_with fail
              go_ret
              exact ⟨ret_bool HR.out.symm, below_drew HB.out _⟩
          · have hd : decide (k < np) = false := decide_eq_false hlt
            have HR : Hid (decide (m = n) = true) := Lib.hid (by
              rw [HE3.out, decide_eq_true (list_of_at 0 (by rw [← HNp.out, ← HNp2.out]) (fun j hj => HK.out j (by rw [← HNp.out] at hj; omega)))])
            clear hlt HK
            go_wp2_with fail
            go_ret
            exact ⟨ret_bool HR.out.symm, HB.out⟩
  | true =>
    go_enter Try.func17, Try.ntmps17
    go_wp2_with fail
    go_loopw [5] (fun i wr => ∃ k : Nat, (k : Int) ≤ nx ∧ i = .int .i64 k ∧ Hid (∀ j, j < k → m.ext.getD j Xt.nought = n.ext.getD j Xt.nought) ∧ Hid (Below w.heap.size w wr) ∧ Hid (Blk wr w.heap.size 26 [.int .u32 P, .slice ax nx cx, .slice ap np cp, .bool true]) ∧ Hid (Blk wr (w.heap.size + 1) 26 [.int .u32 P, .slice ax2 nx cx2, .slice ap2 np cp2, .bool true])) (fun i _ => nx - (intOf i).toNat)
    case atStart => exact ⟨0, by omega, rfl, Lib.hid fun j hj => absurd hj (by omega), HB0, HK0, HQ0⟩
    case round =>
      clear HB0 HK0 HQ0
      obtain ⟨k, hk, rfl, HK, HB, HM, HQ⟩ := hrel
      have b1 : wr.cell? ⟨w.heap.size, 1, none⟩ = some (.slice ax nx cx) := HM.out.cell 1
      have d1 : wr.cell? ⟨w.heap.size + 1, 1, none⟩ = some (.slice ax2 nx cx2) := HQ.out.cell 1
      by_cases hlt : k < nx
      · have hd : decide (k < nx) = true := decide_eq_true hlt
        obtain ⟨b, o, rfl, hbl, hcl⟩ := HX.out (by omega)
        obtain ⟨b2, o2, rfl, hbl2, hcl2⟩ := HX2.out (by omega)
        obtain ⟨c0, c1⟩ := ((hcl k hlt).below HB.out hbl).xt
        obtain ⟨e0, e1⟩ := ((hcl2 k hlt).below HB.out hbl2).xt
        obtain ⟨x, hx⟩ : ∃ x, x = m.ext.getD k Xt.nought := ⟨_, rfl⟩
        obtain ⟨y, hy⟩ : ∃ x, x = n.ext.getD k Xt.nought := ⟨_, rfl⟩
        rw [← hx] at c0 c1
        rw [← hy] at e0 e1
        by_cases hxy : x = y
        case pos =>
          have HK2 : Hid (∀ j, j < k + 1 → m.ext.getD j Xt.nought = n.ext.getD j Xt.nought) := Lib.hid (fun j hj => by
            by_cases hj2 : j = k
            · subst hj2; rw [← hx, ← hy]; exact hxy
            · exact HK.out j (by omega))
          subst hxy
          obtain ⟨x0, h0⟩ : ∃ y, y = x.id := ⟨_, rfl⟩
          obtain ⟨x1, h1⟩ : ∃ y, y = x.bl := ⟨_, rfl⟩
          rw [← h0] at c0 e0
          rw [← h1] at c1 e1
          clear hcl hcl2 hx hy HK h0 h1
          go_upto_region 6 with (fail)
          go_quiet (fail)
          go_wp2_with fail
          clear c0 c1 e0 e1 b1 d1
          go_roundw
          case rel => exact ⟨k + 1, by omega, by go_num, HK2, Lib.hid (below_drew HB.out _), Lib.hid (HM.out.drewN _), Lib.hid (HQ.out.drewN _)⟩
          case measure => simp [intOf]; omega
        case neg =>
          obtain ⟨p0, p1⟩ := x
          obtain ⟨r0, r1⟩ := y
          simp only at c0 e0 c1 e1
          have HR : Hid (decide (m = n) = false) := Lib.hid (by rw [HE2.out, decide_eq_false (p := m.ext = n.ext) (fun e => hxy (by rw [hx, hy, e])), Bool.false_and])
          clear hcl hcl2 hx hy HK
          by_cases z0 : p0 = r0
          case neg =>
            have q : (p0 == r0) = false := beq_eq_false_iff_ne.2 z0
            clear z0 hxy
            go_upto_region 6 with (fail)
            go_quiet (fail)
            go_wp2_with fail
            go_ret
            exact ⟨ret_bool HR.out.symm, below_drew HB.out _⟩
          subst z0
          have z1 : ¬ p1 = r1 := fun e => hxy (by rw [e])
          have q : (p1 == r1) = false := beq_eq_false_iff_ne.2 z1
          clear z1 hxy
          go_upto_region 6 with (fail)
          go_quiet (fail)
          go_wp2_with fail
          go_ret
          exact ⟨ret_bool HR.out.symm, below_drew HB.out _⟩
      · have hd : decide (k < nx) = false := decide_eq_false hlt
        have HE3 : Hid (decide (m = n) = decide (m.ports = n.ports)) := Lib.hid (by
          rw [HE2.out, decide_eq_true (list_of_at Xt.nought (by rw [← HNx.out, ← HNx2.out]) (fun j hj => HK.out j (by rw [← HNx.out] at hj; omega))), Bool.true_and])
        clear hlt HK
        go_wp2_with fail
        clear b1 d1
        go_loopw [6] (fun i wr => ∃ k : Nat, (k : Int) ≤ np ∧ i = .int .i64 k ∧ Hid (∀ j, j < k → m.ports.getD j 0 = n.ports.getD j 0) ∧ Hid (Below w.heap.size w wr) ∧ Hid (Blk wr w.heap.size 26 [.int .u32 P, .slice ax nx cx, .slice ap np cp, .bool true]) ∧ Hid (Blk wr (w.heap.size + 1) 26 [.int .u32 P, .slice ax2 nx cx2, .slice ap2 np cp2, .bool true])) (fun i _ => np - (intOf i).toNat)
        case atStart => exact ⟨0, by omega, rfl, Lib.hid fun j hj => absurd hj (by omega), HB, HM, HQ⟩
        case round =>
          clear HB HM HQ
          obtain ⟨k, hk, rfl, HK, HB, HM, HQ⟩ := hrel
          have b2 : wr.cell? ⟨w.heap.size, 2, none⟩ = some (.slice ap np cp) := HM.out.cell 2
          have d2 : wr.cell? ⟨w.heap.size + 1, 2, none⟩ = some (.slice ap2 np cp2) := HQ.out.cell 2
          by_cases hlt : k < np
          · have hd : decide (k < np) = true := decide_eq_true hlt
            obtain ⟨b, o, rfl, hbl, hcl⟩ := HP.out (by omega)
            obtain ⟨g, o2, rfl, hbl2, hcl2⟩ := HP2.out (by omega)
            have c0 := ((hcl k hlt).below HB.out hbl).pt
            have e0 := ((hcl2 k hlt).below HB.out hbl2).pt
            obtain ⟨x, hx⟩ : ∃ x, x = m.ports.getD k 0 := ⟨_, rfl⟩
            obtain ⟨y, hy⟩ : ∃ x, x = n.ports.getD k 0 := ⟨_, rfl⟩
            rw [← hx, Nat.mul_one] at c0
            rw [← hy, Nat.mul_one] at e0
            by_cases hxy : x = y
            case pos =>
              have HK2 : Hid (∀ j, j < k + 1 → m.ports.getD j 0 = n.ports.getD j 0) := Lib.hid (fun j hj => by
                by_cases hj2 : j = k
                · subst hj2; rw [← hx, ← hy]; exact hxy
                · exact HK.out j (by omega))
              subst hxy
              clear hcl hcl2 hx hy HK
              go_upto_region 11 with (fail)
              go_quiet (fail)
              go_wp2_with fail
              clear c0 e0 b2 d2
              go_roundw
              case rel => exact ⟨k + 1, by omega, by go_num, HK2, Lib.hid (below_drew HB.out _), Lib.hid (HM.out.drewN _), Lib.hid (HQ.out.drewN _)⟩
              case measure => simp [intOf]; omega
            case neg =>
              have q : (x == y) = false := beq_eq_false_iff_ne.2 hxy
              have HR : Hid (decide (m = n) = false) := Lib.hid (by rw [HE3.out, decide_eq_false (fun e => hxy (by rw [hx, hy, e]))])
              clear hcl hcl2 hx hy HK hxy
              go_upto_region 11 with (fail)
              go_quiet (fail)
              go_wp2_with fail
              go_ret
              exact ⟨ret_bool HR.out.symm, below_drew HB.out _⟩
          · have hd : decide (k < np) = false := decide_eq_false hlt
            have HR : Hid (decide (m = n) = true) := Lib.hid (by
              rw [HE3.out, decide_eq_true (list_of_at 0 (by rw [← HNp.out, ← HNp2.out]) (fun j hj => HK.out j (by rw [← HNp.out] at hj; omega)))])
            clear hlt HK
            go_wp2_with fail
            go_ret
            exact ⟨ret_bool HR.out.symm, HB.out⟩
end Go.Proofs.Ytmfebmiigkmkbaa
