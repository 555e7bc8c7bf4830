/- The document's SameSym: of what is not the same (out of objfile/RX). -/
import Derived.Test.YtlnnhgmkibjgmaaDoorX12
import Derived.Test.YtlnnhgmkibjgmaaDoorX08
set_option linter.unusedVariables false
set_option linter.unusedSimpArgs false
namespace Go.Proofs.YtlnnhgmkibjgmaaDoor
open Go Go.RowKit Oj

theorem tx_ne {a b : List UInt8} (h : a ≠ b) : ((tx a).toList == (tx b).toList) = false := by
  rw [str_eq, by_tx, by_tx]; exact decide_eq_false h
theorem list_of_at {α : Type} (d : α) {a b : List α} (hl : a.length = b.length) (h : ∀ j, j < a.length → a.getD j d = b.getD j d) : a = b := by
  apply List.ext_getElem hl
  intro j h1 h2
  have := h j h1
  rw [List.getD_eq_getElem?_getD, List.getD_eq_getElem?_getD, List.getElem?_eq_getElem h1, List.getElem?_eq_getElem h2] at this
  exact this
set_option maxHeartbeats 16000000 in
set_option maxRecDepth 100000 in
theorem rsamesym_no (s t : Sy) (h : syFits s) (h' : syFits t) (hne : s ≠ t) (v v2 : Value) (w : World) (hA : SymAt w v s) (hA2 : SymAt w v2 t) : Calls Tryd.prog 11 #[v, v2] w fun e w' => e = .returned (.bool false) ∧ Below w.heap.size w w' := by
  obtain ⟨vr, vn, rfl, ⟨ar, cr, rfl, hR⟩, ⟨an, cn, rfl, hN⟩⟩ := hA
  obtain ⟨vr2, vn2, rfl, ⟨ar2, cr2, rfl, hR2⟩, ⟨an2, cn2, rfl, hN2⟩⟩ := hA2
  obtain ⟨f1, ⟨f2, f3⟩, ⟨f4, f5⟩, ⟨f6, f7⟩, f8, f9, f10, f11, f12⟩ := h
  obtain ⟨g1, ⟨g2, g3⟩, ⟨g4, g5⟩, ⟨g6, g7⟩, g8, g9, g10, g11, g12⟩ := h'
  obtain ⟨sn, sb, sk, sz, sy, lr, ln⟩ := s
  obtain ⟨tn, tb, tk, tz, ty, lr2, ln2⟩ := t
  simp only at f1 f2 f3 f4 f5 f6 f7 f8 f9 f10 f11 f12 g1 g2 g3 g4 g5 g6 g7 g8 g9 g10 g11 g12 hR hN hR2 hN2 ⊢
  obtain ⟨nr, hnr⟩ : ∃ nr, nr = lr.length := ⟨_, rfl⟩
  obtain ⟨nn, hnn⟩ : ∃ nr, nr = ln.length := ⟨_, rfl⟩
  obtain ⟨nr2, hnr2⟩ : ∃ nr, nr = lr2.length := ⟨_, rfl⟩
  obtain ⟨nn2, hnn2⟩ : ∃ nr, nr = ln2.length := ⟨_, rfl⟩
  rw [← hnr] at hR f9 ⊢
  rw [← hnn] at hN f10 ⊢
  rw [← hnr2] at hR2 g9 ⊢
  rw [← hnn2] at hN2 g10 ⊢
  have hri : (nr : Int) ≤ 4398046511104 := by omega
  have hnni : (nn : Int) ≤ 11728124029610 := by omega
  have hri2 : (nr2 : Int) ≤ 4398046511104 := by omega
  have hnni2 : (nn2 : Int) ≤ 11728124029610 := by omega
  have HR := Lib.hid hR
  have HR2 := Lib.hid hR2
  have HN := Lib.hid hN
  have HN2 := Lib.hid hN2
  have HNE := Lib.hid hne
  have HLR := Lib.hid hnr
  have HLN := Lib.hid hnn
  have HLR2 := Lib.hid hnr2
  have HLN2 := Lib.hid hnn2
  clear hR hR2 hN hN2 hne hnr hnn hnr2 hnn2 f1 f2 f3 f4 f5 f6 f7 f8 f9 f10 f11 f12 g1 g2 g3 g4 g5 g6 g7 g8 g9 g10 g11 g12
  by_cases h0 : sn = tn
  case neg =>
    have q := tx_ne h0
    have HB0 := Lib.hid (below_new2 w (.cells #[.string (tx sn), .int .u8 sb, .int .u8 sk, .int .u32 sz, .string (tx sy), .slice ar nr cr, .slice an nn cn] 29) (.cells #[.string (tx tn), .int .u8 tb, .int .u8 tk, .int .u32 tz, .string (tx ty), .slice ar2 nr2 cr2, .slice an2 nn2 cn2] 29))
    obtain ⟨u0, k0⟩ : ∃ u, u = tx sn := ⟨_, rfl⟩
    obtain ⟨u4, k4⟩ : ∃ u, u = tx sy := ⟨_, rfl⟩
    obtain ⟨v0, l0⟩ : ∃ u, u = tx tn := ⟨_, rfl⟩
    obtain ⟨v4, l4⟩ : ∃ u, u = tx ty := ⟨_, rfl⟩
    simp only [← k0, ← k4, ← l0, ← l4] at HB0 q ⊢
    clear HR HR2 HN HN2 HNE HLR HLN HLR2 HLN2 h0 k0 k4 l0 l4
    go_enter Tryd.func11, Tryd.ntmps11
    go_wp2_with fail
    go_ret
    exact ⟨rfl, HB0.out⟩
  subst h0
  by_cases h1 : sb = tb
  case neg =>
    have q : (sb != tb) = true := bne_iff_ne.2 h1
    have HB0 := Lib.hid (below_new2 w (.cells #[.string (tx sn), .int .u8 sb, .int .u8 sk, .int .u32 sz, .string (tx sy), .slice ar nr cr, .slice an nn cn] 29) (.cells #[.string (tx sn), .int .u8 tb, .int .u8 tk, .int .u32 tz, .string (tx ty), .slice ar2 nr2 cr2, .slice an2 nn2 cn2] 29))
    obtain ⟨u0, k0⟩ : ∃ u, u = tx sn := ⟨_, rfl⟩
    obtain ⟨u4, k4⟩ : ∃ u, u = tx sy := ⟨_, rfl⟩
    obtain ⟨v4, l4⟩ : ∃ u, u = tx ty := ⟨_, rfl⟩
    simp only [← k0, ← k4, ← l4] at HB0 ⊢
    clear HR HR2 HN HN2 HNE HLR HLN HLR2 HLN2 h1 k0 k4 l4
    go_enter Tryd.func11, Tryd.ntmps11
    go_wp2_with fail
    go_ret
    exact ⟨rfl, HB0.out⟩
  subst h1
  by_cases h2 : sk = tk
  case neg =>
    have q : (sk != tk) = true := bne_iff_ne.2 h2
    have HB0 := Lib.hid (below_new2 w (.cells #[.string (tx sn), .int .u8 sb, .int .u8 sk, .int .u32 sz, .string (tx sy), .slice ar nr cr, .slice an nn cn] 29) (.cells #[.string (tx sn), .int .u8 sb, .int .u8 tk, .int .u32 tz, .string (tx ty), .slice ar2 nr2 cr2, .slice an2 nn2 cn2] 29))
    obtain ⟨u0, k0⟩ : ∃ u, u = tx sn := ⟨_, rfl⟩
    obtain ⟨u4, k4⟩ : ∃ u, u = tx sy := ⟨_, rfl⟩
    obtain ⟨v4, l4⟩ : ∃ u, u = tx ty := ⟨_, rfl⟩
    simp only [← k0, ← k4, ← l4] at HB0 ⊢
    clear HR HR2 HN HN2 HNE HLR HLN HLR2 HLN2 h2 k0 k4 l4
    go_enter Tryd.func11, Tryd.ntmps11
    go_wp2_with fail
    go_ret
    exact ⟨rfl, HB0.out⟩
  subst h2
  by_cases h3 : sz = tz
  case neg =>
    have q : (sz != tz) = true := bne_iff_ne.2 h3
    have HB0 := Lib.hid (below_new2 w (.cells #[.string (tx sn), .int .u8 sb, .int .u8 sk, .int .u32 sz, .string (tx sy), .slice ar nr cr, .slice an nn cn] 29) (.cells #[.string (tx sn), .int .u8 sb, .int .u8 sk, .int .u32 tz, .string (tx ty), .slice ar2 nr2 cr2, .slice an2 nn2 cn2] 29))
    obtain ⟨u0, k0⟩ : ∃ u, u = tx sn := ⟨_, rfl⟩
    obtain ⟨u4, k4⟩ : ∃ u, u = tx sy := ⟨_, rfl⟩
    obtain ⟨v4, l4⟩ : ∃ u, u = tx ty := ⟨_, rfl⟩
    simp only [← k0, ← k4, ← l4] at HB0 ⊢
    clear HR HR2 HN HN2 HNE HLR HLN HLR2 HLN2 h3 k0 k4 l4
    go_enter Tryd.func11, Tryd.ntmps11
    go_wp2_with fail
    go_ret
    exact ⟨rfl, HB0.out⟩
  subst h3
  by_cases h4 : sy = ty
  case neg =>
    have q := tx_ne h4
    have HB0 := Lib.hid (below_new2 w (.cells #[.string (tx sn), .int .u8 sb, .int .u8 sk, .int .u32 sz, .string (tx sy), .slice ar nr cr, .slice an nn cn] 29) (.cells #[.string (tx sn), .int .u8 sb, .int .u8 sk, .int .u32 sz, .string (tx ty), .slice ar2 nr2 cr2, .slice an2 nn2 cn2] 29))
    obtain ⟨u0, k0⟩ : ∃ u, u = tx sn := ⟨_, rfl⟩
    obtain ⟨u4, k4⟩ : ∃ u, u = tx sy := ⟨_, rfl⟩
    obtain ⟨v4, l4⟩ : ∃ u, u = tx ty := ⟨_, rfl⟩
    simp only [← k0, ← k4, ← l4] at HB0 q ⊢
    clear HR HR2 HN HN2 HNE HLR HLN HLR2 HLN2 h4 k0 k4 l4
    go_enter Tryd.func11, Tryd.ntmps11
    go_wp2_with fail
    go_ret
    exact ⟨rfl, HB0.out⟩
  subst h4
  by_cases h5 : nr = nr2
  case neg =>
    have q : ((nr : Int) != (nr2 : Int)) = true := bne_iff_ne.2 (fun e => h5 (by omega))
    have HB0 := Lib.hid (below_new2 w (.cells #[.string (tx sn), .int .u8 sb, .int .u8 sk, .int .u32 sz, .string (tx sy), .slice ar nr cr, .slice an nn cn] 29) (.cells #[.string (tx sn), .int .u8 sb, .int .u8 sk, .int .u32 sz, .string (tx sy), .slice ar2 nr2 cr2, .slice an2 nn2 cn2] 29))
    obtain ⟨u0, k0⟩ : ∃ u, u = tx sn := ⟨_, rfl⟩
    obtain ⟨u4, k4⟩ : ∃ u, u = tx sy := ⟨_, rfl⟩
    simp only [← k0, ← k4] at HB0 ⊢
    clear HR HR2 HN HN2 HNE HLR HLN HLR2 HLN2 h5 k0 k4
    go_enter Tryd.func11, Tryd.ntmps11
    go_wp2_with fail
    go_ret
    exact ⟨rfl, HB0.out⟩
  subst h5
  by_cases h6 : nn = nn2
  case neg =>
    have q : ((nn : Int) != (nn2 : Int)) = true := bne_iff_ne.2 (fun e => h6 (by omega))
    have HB0 := Lib.hid (below_new2 w (.cells #[.string (tx sn), .int .u8 sb, .int .u8 sk, .int .u32 sz, .string (tx sy), .slice ar nr cr, .slice an nn cn] 29) (.cells #[.string (tx sn), .int .u8 sb, .int .u8 sk, .int .u32 sz, .string (tx sy), .slice ar2 nr cr2, .slice an2 nn2 cn2] 29))
    obtain ⟨u0, k0⟩ : ∃ u, u = tx sn := ⟨_, rfl⟩
    obtain ⟨u4, k4⟩ : ∃ u, u = tx sy := ⟨_, rfl⟩
    simp only [← k0, ← k4] at HB0 ⊢
    clear HR HR2 HN HN2 HNE HLR HLN HLR2 HLN2 h6 k0 k4
    go_enter Tryd.func11, Tryd.ntmps11
    go_wp2_with fail
    go_ret
    exact ⟨rfl, HB0.out⟩
  subst h6
  have HAll : Hid ((∀ j, j < nr → lr.getD j Rl.nought = lr2.getD j Rl.nought) → (∀ j, j < nn → ln.getD j Nt.nought = ln2.getD j Nt.nought) → False) := Lib.hid (fun h1 h2 => HNE.out (by
    rw [list_of_at Rl.nought (HLR.out.symm.trans HLR2.out) (fun j hj => h1 j (by rw [HLR.out]; exact hj)), list_of_at Nt.nought (HLN.out.symm.trans HLN2.out) (fun j hj => h2 j (by rw [HLN.out]; exact hj))]))
  obtain ⟨usn, k0⟩ : ∃ u, u = tx sn := ⟨_, rfl⟩
  obtain ⟨usy, k4⟩ : ∃ u, u = tx sy := ⟨_, rfl⟩
  rw [← k0, ← k4]
  have HB0 := Lib.hid (below_new2 w (.cells #[.string usn, .int .u8 sb, .int .u8 sk, .int .u32 sz, .string usy, .slice ar nr cr, .slice an nn cn] 29) (.cells #[.string usn, .int .u8 sb, .int .u8 sk, .int .u32 sz, .string usy, .slice ar2 nr cr2, .slice an2 nn cn2] 29))
  have HX0 := Lib.hid ((Blk.new w 29 [.string usn, .int .u8 sb, .int .u8 sk, .int .u32 sz, .string usy, .slice ar nr cr, .slice an nn cn]).alloc (.cells #[.string usn, .int .u8 sb, .int .u8 sk, .int .u32 sz, .string usy, .slice ar2 nr cr2, .slice an2 nn cn2] 29))
  have HY0 := Lib.hid (Blk.new2 w (.cells #[.string usn, .int .u8 sb, .int .u8 sk, .int .u32 sz, .string usy, .slice ar nr cr, .slice an nn cn] 29) 29 [.string usn, .int .u8 sb, .int .u8 sk, .int .u32 sz, .string usy, .slice ar2 nr cr2, .slice an2 nn cn2])
  clear HNE HLR HLN HLR2 HLN2 k0 k4
  go_enter Tryd.func11, Tryd.ntmps11
  go_wp2_with fail
  go_loopw [5] (fun i wr => ∃ k : Nat, (k : Int) ≤ nr ∧ i = .int .i64 k ∧ Hid (∀ j, j < k → lr.getD j Rl.nought = lr2.getD j Rl.nought) ∧ Hid (Below w.heap.size w wr) ∧ Hid (Blk wr w.heap.size 29 [.string usn, .int .u8 sb, .int .u8 sk, .int .u32 sz, .string usy, .slice ar nr cr, .slice an nn cn]) ∧ Hid (Blk wr (w.heap.size + 1) 29 [.string usn, .int .u8 sb, .int .u8 sk, .int .u32 sz, .string usy, .slice ar2 nr cr2, .slice an2 nn cn2])) (fun i _ => nr - (intOf i).toNat)
  case atStart => exact ⟨0, by omega, rfl, Lib.hid (fun j hj => absurd hj (by omega)), HB0, HX0, HY0⟩
  case round =>
    clear HB0  HX0  HY0
    obtain ⟨k, hk, rfl, HK, HB, HX, HY⟩ := hrel
    have b5 : wr.cell? ⟨w.heap.size, 5, none⟩ = some (.slice ar nr cr) := HX.out.cell 5
    have d5 : wr.cell? ⟨w.heap.size + 1, 5, none⟩ = some (.slice ar2 nr cr2) := HY.out.cell 5
    by_cases hlt : k < nr
    · have hd : decide (k < nr) = true := decide_eq_true hlt
      obtain ⟨b, o, rfl, hbl, hcl⟩ := HR.out (by omega)
      obtain ⟨b2, o2, rfl, hbl2, hcl2⟩ := HR2.out (by omega)
      have hL := ((hcl k hlt).below HB.out hbl)
      have hL2 := ((hcl2 k hlt).below HB.out hbl2)
      obtain ⟨x, hx⟩ : ∃ x, x = lr.getD k Rl.nought := ⟨_, rfl⟩
      obtain ⟨y, hy⟩ : ∃ x, x = lr2.getD k Rl.nought := ⟨_, rfl⟩
      rw [← hx] at hL
      rw [← hy] at hL2
      obtain ⟨c0, c1, c2, c3⟩ := hL.rl
      obtain ⟨e0, e1, e2, e3⟩ := hL2.rl
      by_cases hxy : x = y
      case pos =>
        have HK2 : Hid (∀ j, j < k + 1 → lr.getD j Rl.nought = lr2.getD j Rl.nought) := Lib.hid (fun j hj => by
          by_cases hj2 : j = k
          · subst hj2; rw [← hx, ← hy]; exact hxy
          · exact HK.out j (by omega))
        subst hxy
        obtain ⟨x0, h0⟩ : ∃ y, y = x.off := ⟨_, rfl⟩
        rw [← h0] at c0 e0
        obtain ⟨x1, h1⟩ : ∃ y, y = x.kind := ⟨_, rfl⟩
        rw [← h1] at c1 e1
        obtain ⟨x2, h2⟩ : ∃ y, y = tx x.name := ⟨_, rfl⟩
        rw [← h2] at c2 e2
        obtain ⟨x3, h3⟩ : ∃ y, y = x.add := ⟨_, rfl⟩
        rw [← h3] at c3 e3
        clear hL hL2 hcl hcl2 hx hy HK h0 h1 h2 h3
        go_upto_region 6 with (fail)
        go_quiet (fail)
        go_wp2_with fail
        clear c0 e0 c1 e1 c2 e2 c3 e3 b5 d5
        go_roundw
        case rel => exact ⟨k + 1, by omega, by go_num, HK2, Lib.hid (below_drew HB.out _), Lib.hid (HX.out.drewN _), Lib.hid (HY.out.drewN _)⟩
        case measure => simp [intOf]; omega
      case neg =>
        obtain ⟨p0, p1, p2, p3⟩ := x
        obtain ⟨r0, r1, r2, r3⟩ := y
        simp only at c0 e0 c1 e1 c2 e2 c3 e3
        clear hL hL2 hcl hcl2 hx hy HK
        by_cases z0 : p0 = r0
        case neg =>
          have q : (p0 == r0) = false := beq_eq_false_iff_ne.2 z0
          obtain ⟨mx, hmx⟩ : ∃ u, u = tx p2 := ⟨_, rfl⟩
          obtain ⟨my, hmy⟩ : ∃ u, u = tx r2 := ⟨_, rfl⟩
          rw [← hmx] at c2
          rw [← hmy] at e2
          clear z0 hxy hmx hmy
          go_upto_region 6 with (fail)
          go_quiet (fail)
          go_wp2_with fail
          go_ret
          exact ⟨rfl, below_drew HB.out _⟩
        subst z0
        by_cases z1 : p1 = r1
        case neg =>
          have q : (p1 == r1) = false := beq_eq_false_iff_ne.2 z1
          obtain ⟨mx, hmx⟩ : ∃ u, u = tx p2 := ⟨_, rfl⟩
          obtain ⟨my, hmy⟩ : ∃ u, u = tx r2 := ⟨_, rfl⟩
          rw [← hmx] at c2
          rw [← hmy] at e2
          clear z1 hxy hmx hmy
          go_upto_region 6 with (fail)
          go_quiet (fail)
          go_wp2_with fail
          go_ret
          exact ⟨rfl, below_drew HB.out _⟩
        subst z1
        by_cases z2 : p2 = r2
        case neg =>
          have q := tx_ne z2
          obtain ⟨mx, hmx⟩ : ∃ u, u = tx p2 := ⟨_, rfl⟩
          obtain ⟨my, hmy⟩ : ∃ u, u = tx r2 := ⟨_, rfl⟩
          rw [← hmx] at c2
          rw [← hmy] at e2
          rw [← hmx, ← hmy] at q
          clear z2 hxy hmx hmy
          go_upto_region 6 with (fail)
          go_quiet (fail)
          go_wp2_with fail
          go_ret
          exact ⟨rfl, below_drew HB.out _⟩
        subst z2
        have z3 : ¬ p3 = r3 := fun e => hxy (by rw [e])
        have q : (p3 == r3) = false := beq_eq_false_iff_ne.2 z3
        obtain ⟨mx, hmx⟩ : ∃ u, u = tx p2 := ⟨_, rfl⟩
        rw [← hmx] at c2 e2
        clear z3 hxy hmx
        go_upto_region 6 with (fail)
        go_quiet (fail)
        go_wp2_with fail
        go_ret
        exact ⟨rfl, below_drew HB.out _⟩
    · have hd : decide (k < nr) = false := decide_eq_false hlt
      have HKr : Hid (∀ j, j < nr → lr.getD j Rl.nought = lr2.getD j Rl.nought) := Lib.hid (fun j hj => HK.out j (by omega))
      clear hlt HK
      go_wp2_with fail
      clear b5 d5
      obtain ⟨wo, rfl⟩ : ∃ wo, wo = wr := ⟨_, rfl⟩
      go_loopw [6] (fun i wr => ∃ k : Nat, (k : Int) ≤ nn ∧ i = .int .i64 k ∧ Hid (∀ j, j < k → ln.getD j Nt.nought = ln2.getD j Nt.nought) ∧ Hid (Below w.heap.size w wr) ∧ Hid (Blk wr w.heap.size 29 [.string usn, .int .u8 sb, .int .u8 sk, .int .u32 sz, .string usy, .slice ar nr cr, .slice an nn cn]) ∧ Hid (Blk wr (w.heap.size + 1) 29 [.string usn, .int .u8 sb, .int .u8 sk, .int .u32 sz, .string usy, .slice ar2 nr cr2, .slice an2 nn cn2])) (fun i _ => nn - (intOf i).toNat)
      case atStart => exact ⟨0, by omega, rfl, Lib.hid (fun j hj => absurd hj (by omega)), HB, HX, HY⟩
      case round =>
        clear HB  HX  HY
        obtain ⟨k, hk, rfl, HK, HB, HX, HY⟩ := hrel
        have b5 : wr.cell? ⟨w.heap.size, 6, none⟩ = some (.slice an nn cn) := HX.out.cell 6
        have d5 : wr.cell? ⟨w.heap.size + 1, 6, none⟩ = some (.slice an2 nn cn2) := HY.out.cell 6
        by_cases hlt : k < nn
        · have hd : decide (k < nn) = true := decide_eq_true hlt
          obtain ⟨b, o, rfl, hbl, hcl⟩ := HN.out (by omega)
          obtain ⟨b2, o2, rfl, hbl2, hcl2⟩ := HN2.out (by omega)
          have hL := ((hcl k hlt).below HB.out hbl)
          have hL2 := ((hcl2 k hlt).below HB.out hbl2)
          obtain ⟨x, hx⟩ : ∃ x, x = ln.getD k Nt.nought := ⟨_, rfl⟩
          obtain ⟨y, hy⟩ : ∃ x, x = ln2.getD k Nt.nought := ⟨_, rfl⟩
          rw [← hx] at hL
          rw [← hy] at hL2
          obtain ⟨c0, c1, c2⟩ := hL.nt
          obtain ⟨e0, e1, e2⟩ := hL2.nt
          by_cases hxy : x = y
          case pos =>
            have HK2 : Hid (∀ j, j < k + 1 → ln.getD j Nt.nought = ln2.getD j Nt.nought) := Lib.hid (fun j hj => by
              by_cases hj2 : j = k
              · subst hj2; rw [← hx, ← hy]; exact hxy
              · exact HK.out j (by omega))
            subst hxy
            obtain ⟨x0, h0⟩ : ∃ y, y = x.kind := ⟨_, rfl⟩
            rw [← h0] at c0 e0
            obtain ⟨x1, h1⟩ : ∃ y, y = x.n := ⟨_, rfl⟩
            rw [← h1] at c1 e1
            obtain ⟨x2, h2⟩ : ∃ y, y = x.m := ⟨_, rfl⟩
            rw [← h2] at c2 e2
            clear hL hL2 hcl hcl2 hx hy HK h0 h1 h2
            go_upto_region 11 with (fail)
            go_quiet (fail)
            go_wp2_with fail
            clear c0 e0 c1 e1 c2 e2 b5 d5
            go_roundw
            case rel => exact ⟨k + 1, by omega, by go_num, HK2, Lib.hid (below_drew HB.out _), Lib.hid (HX.out.drewN _), Lib.hid (HY.out.drewN _)⟩
            case measure => simp [intOf]; omega
          case neg =>
            obtain ⟨p0, p1, p2⟩ := x
            obtain ⟨r0, r1, r2⟩ := y
            simp only at c0 e0 c1 e1 c2 e2
            clear hL hL2 hcl hcl2 hx hy HK
            by_cases z0 : p0 = r0
            case neg =>
              have q : (p0 == r0) = false := beq_eq_false_iff_ne.2 z0
              clear z0 hxy 
              go_upto_region 11 with (fail)
              go_quiet (fail)
              go_wp2_with fail
              go_ret
              exact ⟨rfl, below_drew HB.out _⟩
            subst z0
            by_cases z1 : p1 = r1
            case neg =>
              have q : (p1 == r1) = false := beq_eq_false_iff_ne.2 z1
              clear z1 hxy 
              go_upto_region 11 with (fail)
              go_quiet (fail)
              go_wp2_with fail
              go_ret
              exact ⟨rfl, below_drew HB.out _⟩
            subst z1
            have z2 : ¬ p2 = r2 := fun e => hxy (by rw [e])
            have q : (p2 == r2) = false := beq_eq_false_iff_ne.2 z2
            clear z2 hxy 
            go_upto_region 11 with (fail)
            go_quiet (fail)
            go_wp2_with fail
            go_ret
            exact ⟨rfl, below_drew HB.out _⟩
        · have hd : decide (k < nn) = false := decide_eq_false hlt
          exact (HAll.out HKr.out (fun j hj => HK.out j (by omega))).elim
theorem rsamesym_dec (s t : Sy) (h : syFits s) (h' : syFits t) (v v2 : Value) (w : World) (hA : SymAt w v s) (hA2 : SymAt w v2 t) : ∃ b : Bool, (b = true ↔ s = t) ∧ Calls Tryd.prog 11 #[v, v2] w fun e w' => e = .returned (.bool b) ∧ Below w.heap.size w w' := by
  by_cases he : s = t
  · subst he
    exact ⟨true, by simp, rsamesym_any s h v v2 w hA hA2⟩
  · exact ⟨false, by simp [he], rsamesym_no s t h h' he v v2 w hA hA2⟩
end Go.Proofs.YtlnnhgmkibjgmaaDoor
