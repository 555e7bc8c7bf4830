/- slices.Equal at api.Extent and at uint16; the program's Same. (written by mk_du.py) -/
import Derived.Test.YtmfebmiigkmkbaaDB
import Derived.Laws.StructEq
set_option linter.unusedVariables false
set_option linter.unusedSimpArgs false
namespace Go.Proofs.Ytmfebmiigkmkbaa
open Go Go.RowKit Oj Dm

theorem list_of_at {α : Type} (d : α) {a b : List α} (hl : a.length = b.length) (h : ∀ j, j < a.length → a.getD j d = b.getD j d) : a = b := by
  apply List.ext_getElem hl
  intro j h1 h2
  have := h j h1
  rw [List.getD_eq_getElem?_getD, List.getD_eq_getElem?_getD, List.getElem?_eq_getElem h1, List.getElem?_eq_getElem h2] at this
  exact this
theorem len_ne {n m : Nat} (h : n ≠ m) : ((n : Int) != (m : Int)) = true := bne_iff_ne.2 (fun e => h (by omega))
theorem len_ne2 {n m : Nat} (h : n ≠ m) : ((n : Int) == (m : Int)) = false := beq_eq_false_iff_ne.2 (fun e => h (by omega))

set_option maxHeartbeats 8000000 in
set_option maxRecDepth 100000 in
theorem eqx_any (v u : Value) (l m : List Xt) (w : World) (hA : XtsAt w v l) (hA2 : XtsAt w u m) (hl : l.length * 8 ≤ 140737488355328) (hm : m.length * 8 ≤ 140737488355328) : Calls Try.prog 31 #[v, u] w fun e w' => e = .returned (.bool (decide (l = m))) ∧ Below w.heap.size w w' := by
  obtain ⟨a, c, rfl, h3⟩ := hA
  obtain ⟨a2, c2, rfl, h4⟩ := hA2
  obtain ⟨n, hn⟩ : ∃ n, n = l.length := ⟨_, rfl⟩
  obtain ⟨n2, hn2⟩ : ∃ n, n = m.length := ⟨_, rfl⟩
  have hni : (n : Int) ≤ 17592186044416 := by omega
  have hni2 : (n2 : Int) ≤ 17592186044416 := by omega
  rw [← hn] at h3 ⊢
  rw [← hn2] at h4 ⊢
  have HB0 : Hid (Below w.heap.size w w) := Lib.hid (Below.refl _ _)
  by_cases hnn : n = n2
  case neg =>
    have q := len_ne hnn
    have q2 := len_ne2 hnn
    have HR : Hid (decide (l = m) = false) := Lib.hid (decide_eq_false (fun e => hnn (by rw [hn, hn2, e])))
    clear hnn h3 h4 hn hn2 hl hm
    go_enter Try.func31, Try.ntmps31
    go_wp2_with fail
    go_ret
    exact ⟨ret_bool HR.out.symm, HB0.out⟩
  subst hnn
  have HN := Lib.hid hn
  have HN2 := Lib.hid hn2
  have H3 := Lib.hid h3
  have H4 := Lib.hid h4
  clear hn hn2 h3 h4 hl hm
  go_enter Try.func31, Try.ntmps31
  go_wp2_with fail
  go_loopw [13] (fun i wr => ∃ k : Nat, (k : Int) ≤ n ∧ i = .int .i64 k ∧ Hid (∀ j, j < k → l.getD j Xt.nought = m.getD j Xt.nought) ∧ Hid (Below w.heap.size w wr)) (fun i _ => n - (intOf i).toNat)
  case atStart => exact ⟨0, by omega, rfl, Lib.hid fun j hj => absurd hj (by omega), HB0⟩
  case round =>
    clear HB0
    obtain ⟨k, hk, rfl, HK, HB⟩ := hrel
    by_cases hlt : k < n
    · have hd : decide (k < n) = true := decide_eq_true hlt
      obtain ⟨b, o, rfl, hbl, hcl⟩ := H3.out (by omega)
      obtain ⟨b2, o2, rfl, hbl2, hcl2⟩ := H4.out (by omega)
      obtain ⟨c0, c1⟩ := ((hcl k hlt).below HB.out hbl).xt
      obtain ⟨e0, e1⟩ := ((hcl2 k hlt).below HB.out hbl2).xt
      obtain ⟨x, hx⟩ : ∃ x, x = l.getD k Xt.nought := ⟨_, rfl⟩
      obtain ⟨y, hy⟩ : ∃ x, x = m.getD k Xt.nought := ⟨_, rfl⟩
      rw [← hx] at c0 c1
      rw [← hy] at e0 e1
      by_cases hxy : x = y
      case pos =>
        have HK2 : Hid (∀ j, j < k + 1 → l.getD j Xt.nought = m.getD j Xt.nought) := Lib.hid (fun j hj => by
          by_cases hj2 : j = k
          · subst hj2; rw [← hx, ← hy]; exact hxy
          · exact HK.out j (by omega))
        subst hxy
        obtain ⟨x0, h0⟩ : ∃ y, y = x.id := ⟨_, rfl⟩
        obtain ⟨x1, h1⟩ : ∃ y, y = x.bl := ⟨_, rfl⟩
        rw [← h0] at c0 e0
        rw [← h1] at c1 e1
        clear hcl hcl2 hx hy HK h0 h1
        go_upto_region 6 with (fail)
        go_quiet (fail)
        go_wp2_with fail
        clear c0 e0 c1 e1
        go_roundw
        case rel => exact ⟨k + 1, by omega, by go_num, HK2, Lib.hid (below_drew HB.out _)⟩
        case measure => simp [intOf]; omega
      case neg =>
        obtain ⟨p0, p1⟩ := x
        obtain ⟨r0, r1⟩ := y
        simp only at c0 e0 c1 e1
        have HR : Hid (decide (l = m) = false) := Lib.hid (decide_eq_false (fun e => hxy (by rw [hx, hy, e])))
        clear hcl hcl2 hx hy HK
        by_cases z0 : p0 = r0
        case neg =>
          have q : (p0 == r0) = false := beq_eq_false_iff_ne.2 z0
          clear z0 hxy
          go_upto_region 6 with (fail)
          go_quiet (fail)
          go_wp2_with fail
          go_ret
          exact ⟨ret_bool HR.out.symm, below_drew HB.out _⟩
        subst z0
        have z1 : ¬ p1 = r1 := fun e => hxy (by rw [e])
        have q : (p1 == r1) = false := beq_eq_false_iff_ne.2 z1
        clear z1 hxy
        go_upto_region 6 with (fail)
        go_quiet (fail)
        go_wp2_with fail
        go_ret
        exact ⟨ret_bool HR.out.symm, below_drew HB.out _⟩
    · have hd : decide (k < n) = false := decide_eq_false hlt
      have HR : Hid (decide (l = m) = true) := Lib.hid (decide_eq_true (list_of_at Xt.nought (by rw [← HN.out, ← HN2.out]) (fun j hj => HK.out j (by rw [← HN.out] at hj; omega))))
      clear hlt HK
      go_wp2_with fail
      go_ret
      exact ⟨ret_bool HR.out.symm, HB.out⟩

set_option maxHeartbeats 8000000 in
set_option maxRecDepth 100000 in
theorem eqp_any (v u : Value) (l m : List Int) (w : World) (hA : PtsAt w v l) (hA2 : PtsAt w u m) (hl : l.length * 2 ≤ 140737488355328) (hm : m.length * 2 ≤ 140737488355328) : Calls Try.prog 32 #[v, u] w fun e w' => e = .returned (.bool (decide (l = m))) ∧ Below w.heap.size w w' := by
  obtain ⟨a, c, rfl, h3⟩ := hA
  obtain ⟨a2, c2, rfl, h4⟩ := hA2
  obtain ⟨n, hn⟩ : ∃ n, n = l.length := ⟨_, rfl⟩
  obtain ⟨n2, hn2⟩ : ∃ n, n = m.length := ⟨_, rfl⟩
  have hni : (n : Int) ≤ 70368744177664 := by omega
  have hni2 : (n2 : Int) ≤ 70368744177664 := by omega
  rw [← hn] at h3 ⊢
  rw [← hn2] at h4 ⊢
  have HB0 : Hid (Below w.heap.size w w) := Lib.hid (Below.refl _ _)
  by_cases hnn : n = n2
  case neg =>
    have q := len_ne hnn
    have q2 := len_ne2 hnn
    have HR : Hid (decide (l = m) = false) := Lib.hid (decide_eq_false (fun e => hnn (by rw [hn, hn2, e])))
    clear hnn h3 h4 hn hn2 hl hm
    go_enter Try.func32, Try.ntmps32
    go_wp2_with fail
    go_ret
    exact ⟨ret_bool HR.out.symm, HB0.out⟩
  subst hnn
  have HN := Lib.hid hn
  have HN2 := Lib.hid hn2
  have H3 := Lib.hid h3
  have H4 := Lib.hid h4
  clear hn hn2 h3 h4 hl hm
  go_enter Try.func32, Try.ntmps32
  go_wp2_with fail
  go_loopw [13] (fun i wr => ∃ k : Nat, (k : Int) ≤ n ∧ i = .int .i64 k ∧ Hid (∀ j, j < k → l.getD j 0 = m.getD j 0) ∧ Hid (Below w.heap.size w wr)) (fun i _ => n - (intOf i).toNat)
  case atStart => exact ⟨0, by omega, rfl, Lib.hid fun j hj => absurd hj (by omega), HB0⟩
  case round =>
    clear HB0
    obtain ⟨k, hk, rfl, HK, HB⟩ := hrel
    by_cases hlt : k < n
    · have hd : decide (k < n) = true := decide_eq_true hlt
      obtain ⟨b, o, rfl, hbl, hcl⟩ := H3.out (by omega)
      obtain ⟨b2, o2, rfl, hbl2, hcl2⟩ := H4.out (by omega)
      have c0 := ((hcl k hlt).below HB.out hbl).pt
      have e0 := ((hcl2 k hlt).below HB.out hbl2).pt
      obtain ⟨x, hx⟩ : ∃ x, x = l.getD k 0 := ⟨_, rfl⟩
      obtain ⟨y, hy⟩ : ∃ x, x = m.getD k 0 := ⟨_, rfl⟩
      rw [← hx, Nat.mul_one] at c0
      rw [← hy, Nat.mul_one] at e0
      by_cases hxy : x = y
      case pos =>
        have HK2 : Hid (∀ j, j < k + 1 → l.getD j 0 = m.getD j 0) := Lib.hid (fun j hj => by
          by_cases hj2 : j = k
          · subst hj2; rw [← hx, ← hy]; exact hxy
          · exact HK.out j (by omega))
        subst hxy
        skip
        clear hcl hcl2 hx hy HK 
        go_upto_region 6 with (fail)
        go_quiet (fail)
        go_wp2_with fail
        clear c0 e0
        go_roundw
        case rel => exact ⟨k + 1, by omega, by go_num, HK2, Lib.hid (below_drew HB.out _)⟩
        case measure => simp [intOf]; omega
      case neg =>
        have q : (x == y) = false := beq_eq_false_iff_ne.2 hxy
        have HR : Hid (decide (l = m) = false) := Lib.hid (decide_eq_false (fun e => hxy (by rw [hx, hy, e])))
        clear hcl hcl2 hx hy HK hxy
        go_upto_region 6 with (fail)
        go_quiet (fail)
        go_wp2_with fail
        go_ret
        exact ⟨ret_bool HR.out.symm, below_drew HB.out _⟩
    · have hd : decide (k < n) = false := decide_eq_false hlt
      have HR : Hid (decide (l = m) = true) := Lib.hid (decide_eq_true (list_of_at 0 (by rw [← HN.out, ← HN2.out]) (fun j hj => HK.out j (by rw [← HN.out] at hj; omega))))
      clear hlt HK
      go_wp2_with fail
      go_ret
      exact ⟨ret_bool HR.out.symm, HB.out⟩

theorem xt_ext {a b : Mf} (h0 : a.pages = b.pages) (h1 : a.ext = b.ext) (h2 : a.ports = b.ports) (h3 : a.con = b.con) : a = b := by
  obtain ⟨a0, a1, a2, a3⟩ := a
  obtain ⟨b0, b1, b2, b3⟩ := b
  simp only at h0 h1 h2 h3
  subst h0 h1 h2 h3
  rfl
theorem same_dec (a b : Mf) : decide (a = b) = (decide (a.pages = b.pages) && decide (a.ext = b.ext) && decide (a.ports = b.ports) && (a.con == b.con)) := by
  rw [Bool.eq_iff_iff]
  simp only [Bool.and_eq_true, decide_eq_true_eq, beq_iff_eq]
  exact ⟨fun h => by subst h; exact ⟨⟨⟨rfl, rfl⟩, rfl⟩, rfl⟩, fun ⟨⟨⟨h0, h1⟩, h2⟩, h3⟩ => xt_ext h0 h1 h2 h3⟩
set_option maxHeartbeats 8000000 in
set_option maxRecDepth 100000 in
theorem same_any (v u : Value) (m n : Mf) (w : World) (hA : MfAt w v m) (hA2 : MfAt w u n) (hf : mfFits m) (hf2 : mfFits n) : Calls Try.prog 16 #[v, u] w fun e w' => e = .returned (.bool (decide (m = n))) ∧ Below w.heap.size w w' := by
  obtain ⟨vx, vp, rfl, hX, hP⟩ := hA
  obtain ⟨vx2, vp2, rfl, hX2, hP2⟩ := hA2
  have HX := Lib.hid (fun W (hq : Below w.heap.size w W) => eqx_any vx vx2 m.ext n.ext W (hX.below hq) (hX2.below hq) hf.2.1 hf2.2.1)
  have HP := Lib.hid (fun W (hq : Below w.heap.size w W) => eqp_any vp vp2 m.ports n.ports W (hP.below hq) (hP2.below hq) hf.2.2.1 hf2.2.2.1)
  obtain ⟨ax, cx, hvx, _⟩ := hX
  obtain ⟨ap, cp, hvp, _⟩ := hP
  obtain ⟨ax2, cx2, hvx2, _⟩ := hX2
  obtain ⟨ap2, cp2, hvp2, _⟩ := hP2
  obtain ⟨nx, gnx⟩ : ∃ n, n = m.ext.length := ⟨_, rfl⟩
  obtain ⟨np, gnp⟩ : ∃ n, n = m.ports.length := ⟨_, rfl⟩
  obtain ⟨nx2, gnx2⟩ : ∃ q, q = n.ext.length := ⟨_, rfl⟩
  obtain ⟨np2, gnp2⟩ : ∃ q, q = n.ports.length := ⟨_, rfl⟩
  rw [← gnx] at hvx
  rw [← gnp] at hvp
  rw [← gnx2] at hvx2
  rw [← gnp2] at hvp2
  obtain ⟨P, gP⟩ : ∃ P, P = m.pages := ⟨_, rfl⟩
  obtain ⟨C, gC⟩ : ∃ P, P = m.con := ⟨_, rfl⟩
  obtain ⟨P2, gP2⟩ : ∃ P, P = n.pages := ⟨_, rfl⟩
  obtain ⟨C2, gC2⟩ : ∃ P, P = n.con := ⟨_, rfl⟩
  obtain ⟨b1, hb1⟩ : ∃ b, b = decide (m.ext = n.ext) := ⟨_, rfl⟩
  obtain ⟨b2, hb2⟩ : ∃ b, b = decide (m.ports = n.ports) := ⟨_, rfl⟩
  have HE : Hid (decide (m = n) = (decide (P = P2) && b1 && b2 && (C == C2))) := Lib.hid (by rw [same_dec, gP, gP2, gC, gC2, hb1, hb2])
  rw [← hb1] at HX
  rw [← hb2] at HP
  unfold mfV
  rw [← gP, ← gP2, ← gC, ← gC2]
  subst hvx hvp hvx2 hvp2
  have HB0 := Lib.hid (below_new2 w (.cells #[.int .u32 P, .slice ax nx cx, .slice ap np cp, .bool C] 26) (.cells #[.int .u32 P2, .slice ax2 nx2 cx2, .slice ap2 np2 cp2, .bool C2] 26))
  have HK0 : Hid (Blk ((w.alloc (.cells #[.int .u32 P, .slice ax nx cx, .slice ap np cp, .bool C] 26)).alloc (.cells #[.int .u32 P2, .slice ax2 nx2 cx2, .slice ap2 np2 cp2, .bool C2] 26)) w.heap.size 26 [.int .u32 P, .slice ax nx cx, .slice ap np cp, .bool C]) := Lib.hid ((Blk.new w 26 _).alloc _)
  have HQ0 : Hid (Blk ((w.alloc (.cells #[.int .u32 P, .slice ax nx cx, .slice ap np cp, .bool C] 26)).alloc (.cells #[.int .u32 P2, .slice ax2 nx2 cx2, .slice ap2 np2 cp2, .bool C2] 26)) (w.heap.size + 1) 26 [.int .u32 P2, .slice ax2 nx2 cx2, .slice ap2 np2 cp2, .bool C2]) := Lib.hid (Blk.new2 w _ 26 _)
  clear gnx gnp gnx2 gnp2 gP gC gP2 gC2 hb1 hb2 hf hf2
  by_cases z0 : P = P2
  case neg =>
    have HR : Hid (decide (m = n) = false) := Lib.hid (by rw [HE.out, decide_eq_false z0]; rfl)
    have q : (P == P2) = false := beq_eq_false_iff_ne.2 z0
    clear z0 HE
    go_enter Try.func16, Try.ntmps16
    go_wp2_with fail
    go_ret
    exact ⟨ret_bool HR.out.symm, HB0.out⟩
  have HE2 : Hid (decide (m = n) = (b1 && b2 && (C == C2))) := Lib.hid (by rw [HE.out, decide_eq_true z0]; rfl)
  subst z0
  clear HE
  cases b1 with
  | false =>
    go_enter Try.func16, Try.ntmps16
    go_wp2_with fail
    refine (HX.out _ HB0.out).mono ?_; rintro e w1 ⟨rfl, q1⟩
    have HB1 := Lib.hid (below_call HB0.out q1)
    clear q1
    go_wp2_with fail
    go_ret
    exact ⟨ret_bool (by rw [HE2.out]; rfl), HB1.out⟩
  | true =>
    cases b2 with
    | false =>
      go_enter Try.func16, Try.ntmps16
      go_wp2_with fail
      refine (HX.out _ HB0.out).mono ?_; rintro e w1 ⟨rfl, q1⟩
      have HB1 := Lib.hid (below_call HB0.out q1)
      obtain ⟨n0, n1, n2, n3⟩ := (HQ0.out.call q1).four
      obtain ⟨m0, m1, m2, m3⟩ := (HK0.out.call q1).four
      clear q1
      go_wp2_with fail
      refine (HP.out _ HB1.out).mono ?_; rintro e w2 ⟨rfl, q2⟩
      have HB2 := Lib.hid (below_call HB1.out q2)
      clear q2 n0 n1 n2 n3 m0 m1 m2 m3
      go_wp2_with fail
      go_ret
      exact ⟨ret_bool (by rw [HE2.out]; rfl), HB2.out⟩
    | true =>
      have HE3 : Hid (decide (m = n) = (C == C2)) := Lib.hid (by rw [HE2.out]; rfl)
      cases C <;> cases C2
      all_goals
        go_enter Try.func16, Try.ntmps16
        go_wp2_with fail
        refine (HX.out _ HB0.out).mono ?_; rintro e w1 ⟨rfl, q1⟩
        have HB1 := Lib.hid (below_call HB0.out q1)
        have HQ1 := Lib.hid (HQ0.out.call q1)
        have HK1 := Lib.hid (HK0.out.call q1)
        obtain ⟨n0, n1, n2, n3⟩ := HQ1.out.four
        obtain ⟨m0, m1, m2, m3⟩ := HK1.out.four
        clear q1
        go_wp2_with fail
        refine (HP.out _ HB1.out).mono ?_; rintro e w2 ⟨rfl, q2⟩
        have HB2 := Lib.hid (below_call HB1.out q2)
        have HQ2 := Lib.hid (HQ1.out.call q2)
        have HK2 := Lib.hid (HK1.out.call q2)
        clear q2 n0 n1 n2 n3 m0 m1 m2 m3
        obtain ⟨n0, n1, n2, n3⟩ := HQ2.out.four
        obtain ⟨m0, m1, m2, m3⟩ := HK2.out.four
        go_wp2_with fail
        go_ret
        exact ⟨ret_bool (by rw [HE3.out]; rfl), HB2.out⟩
end Go.Proofs.Ytmfebmiigkmkbaa
