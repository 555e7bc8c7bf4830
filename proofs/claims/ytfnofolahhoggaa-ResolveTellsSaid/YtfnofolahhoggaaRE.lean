/- The document's SameSym and Same: of what is the same. -/
import Derived.Test.YtfnofolahhoggaaRC
import Derived.Laws.StructEq
import Derived.Test.YtfnofolahhoggaaQT
set_option linter.unusedVariables false
set_option linter.unusedSimpArgs false
namespace Go.Proofs.Ytfnofolahhoggaa
open Go Go.RowKit Oj

set_option maxHeartbeats 8000000 in
set_option maxRecDepth 100000 in
theorem rsamesym_any (s : Sy) (h : syFits s) (v v2 : Value) (w : World) (hA : SymAt w v s) (hA2 : SymAt w v2 s) : Calls Try.prog 31 #[v, v2] w fun e w' => e = .returned (.bool true) ∧ Below w.heap.size w w' := by
  obtain ⟨vr, vn, rfl, ⟨ar, cr, rfl, hR⟩, ⟨an, cn, rfl, hN⟩⟩ := hA
  obtain ⟨vr2, vn2, rfl, ⟨ar2, cr2, rfl, hR2⟩, ⟨an2, cn2, rfl, hN2⟩⟩ := hA2
  obtain ⟨f1, ⟨f2, f3⟩, ⟨f4, f5⟩, ⟨f6, f7⟩, f8, f9, f10, f11, f12⟩ := h
  obtain ⟨lr, hlr⟩ : ∃ l, l = s.rels := ⟨_, rfl⟩
  obtain ⟨ln, hln⟩ : ∃ l, l = s.notes := ⟨_, rfl⟩
  rw [← hlr] at hR hR2 f9 ⊢
  rw [← hln] at hN hN2 f10 ⊢
  obtain ⟨nr, hnr⟩ : ∃ nr, nr = lr.length := ⟨_, rfl⟩
  obtain ⟨nn, hnn⟩ : ∃ nr, nr = ln.length := ⟨_, rfl⟩
  rw [← hnr] at hR hR2 f9 ⊢
  rw [← hnn] at hN hN2 f10 ⊢
  obtain ⟨nm, gnm⟩ : ∃ x, x = tx s.name := ⟨_, rfl⟩
  obtain ⟨bi, gbi⟩ : ∃ x, x = s.bind := ⟨_, rfl⟩
  obtain ⟨ki, gki⟩ : ∃ x, x = s.kind := ⟨_, rfl⟩
  obtain ⟨sz, gsz⟩ : ∃ x, x = s.size := ⟨_, rfl⟩
  obtain ⟨by1, gby⟩ : ∃ x, x = tx s.bytes := ⟨_, rfl⟩
  rw [← gnm, ← gbi, ← gki, ← gsz, ← gby]
  have hri : (nr : Int) ≤ 4398046511104 := by omega
  have hnni : (nn : Int) ≤ 11728124029610 := by omega
  have HR := Lib.hid hR
  have HR2 := Lib.hid hR2
  have HN := Lib.hid hN
  have HN2 := Lib.hid hN2
  have HB0 := Lib.hid (below_new2 w (.cells #[.string nm, .int .u8 bi, .int .u8 ki, .int .u32 sz, .string by1, .slice ar nr cr, .slice an nn cn] 50) (.cells #[.string nm, .int .u8 bi, .int .u8 ki, .int .u32 sz, .string by1, .slice ar2 nr cr2, .slice an2 nn cn2] 50))
  have HX0 := Lib.hid ((Blk.new w 50 [.string nm, .int .u8 bi, .int .u8 ki, .int .u32 sz, .string by1, .slice ar nr cr, .slice an nn cn]).alloc (.cells #[.string nm, .int .u8 bi, .int .u8 ki, .int .u32 sz, .string by1, .slice ar2 nr cr2, .slice an2 nn cn2] 50))
  have HY0 := Lib.hid (Blk.new2 w (.cells #[.string nm, .int .u8 bi, .int .u8 ki, .int .u32 sz, .string by1, .slice ar nr cr, .slice an nn cn] 50) 50 [.string nm, .int .u8 bi, .int .u8 ki, .int .u32 sz, .string by1, .slice ar2 nr cr2, .slice an2 nn cn2])
  clear hlr hln hnr hnn gnm gbi gki gsz gby hR hR2 hN hN2 f1 f2 f3 f4 f5 f6 f7 f8 f9 f10 f11 f12
  go_enter Try.func31, Try.ntmps31
  go_wp2_with fail
  go_loopw [5] (fun i wr => ∃ k : Nat, (k : Int) ≤ nr ∧ i = .int .i64 k ∧ Hid (Below w.heap.size w wr) ∧ Hid (Blk wr w.heap.size 50 [.string nm, .int .u8 bi, .int .u8 ki, .int .u32 sz, .string by1, .slice ar nr cr, .slice an nn cn]) ∧ Hid (Blk wr (w.heap.size + 1) 50 [.string nm, .int .u8 bi, .int .u8 ki, .int .u32 sz, .string by1, .slice ar2 nr cr2, .slice an2 nn cn2])) (fun i _ => nr - (intOf i).toNat)
  case atStart => exact ⟨0, by omega, rfl, HB0, HX0, HY0⟩
  case round =>
    clear HB0 HX0 HY0
    obtain ⟨k, hk, rfl, HB, HX, HY⟩ := hrel
    have b5 : wr.cell? ⟨w.heap.size, 5, none⟩ = some (.slice ar nr cr) := HX.out.cell 5
    have d5 : wr.cell? ⟨w.heap.size + 1, 5, none⟩ = some (.slice ar2 nr cr2) := HY.out.cell 5
    by_cases hlt : k < nr
    · have hd : decide (k < nr) = true := decide_eq_true hlt
      obtain ⟨b, o, rfl, hbl, hcl⟩ := HR.out (by omega)
      obtain ⟨b2, o2, rfl, hbl2, hcl2⟩ := HR2.out (by omega)
      obtain ⟨x, hx⟩ : ∃ x, x = lr.getD k Rl.nought := ⟨_, rfl⟩
      have hL := ((hcl k hlt).below HB.out hbl)
      have hL2 := ((hcl2 k hlt).below HB.out hbl2)
      rw [← hx] at hL hL2
      obtain ⟨c0, c1, c2, c3⟩ := hL.rl
      obtain ⟨e0, e1, e2, e3⟩ := hL2.rl
      obtain ⟨x0, h0⟩ : ∃ y, y = x.off := ⟨_, rfl⟩
      obtain ⟨x1, h1⟩ : ∃ y, y = x.kind := ⟨_, rfl⟩
      obtain ⟨x2, h2⟩ : ∃ y, y = tx x.name := ⟨_, rfl⟩
      obtain ⟨x3, h3⟩ : ∃ y, y = x.add := ⟨_, rfl⟩
      rw [← h0] at c0 e0
      rw [← h1] at c1 e1
      rw [← h2] at c2 e2
      rw [← h3] at c3 e3
      clear hL hL2 hcl hcl2 hx h0 h1 h2 h3
      go_upto_region 6 with (fail)
      go_quiet (fail)
      go_wp2_with fail
      clear c0 c1 c2 c3 e0 e1 e2 e3 b5 d5
      go_roundw
      case rel => exact ⟨k + 1, by omega, by go_num, Lib.hid (below_drew HB.out _), Lib.hid (HX.out.drewN _), Lib.hid (HY.out.drewN _)⟩
      case measure => simp [intOf]; omega
    · have hd : decide (k < nr) = false := decide_eq_false hlt
      clear hlt
      go_wp2_with fail
      clear b5 d5
      go_loopw [6] (fun i wr => ∃ k : Nat, (k : Int) ≤ nn ∧ i = .int .i64 k ∧ Hid (Below w.heap.size w wr) ∧ Hid (Blk wr w.heap.size 50 [.string nm, .int .u8 bi, .int .u8 ki, .int .u32 sz, .string by1, .slice ar nr cr, .slice an nn cn]) ∧ Hid (Blk wr (w.heap.size + 1) 50 [.string nm, .int .u8 bi, .int .u8 ki, .int .u32 sz, .string by1, .slice ar2 nr cr2, .slice an2 nn cn2])) (fun i _ => nn - (intOf i).toNat)
      case atStart => exact ⟨0, by omega, rfl, HB, HX, HY⟩
      case round =>
        clear HB HX HY
        obtain ⟨m, hm, rfl, HB, HX, HY⟩ := hrel
        have b6 : wr.cell? ⟨w.heap.size, 6, none⟩ = some (.slice an nn cn) := HX.out.cell 6
        have d6 : wr.cell? ⟨w.heap.size + 1, 6, none⟩ = some (.slice an2 nn cn2) := HY.out.cell 6
        by_cases hlt : m < nn
        · have hd : decide (m < nn) = true := decide_eq_true hlt
          obtain ⟨b, o, rfl, hbl, hcl⟩ := HN.out (by omega)
          obtain ⟨b2, o2, rfl, hbl2, hcl2⟩ := HN2.out (by omega)
          obtain ⟨x, hx⟩ : ∃ x, x = ln.getD m Nt.nought := ⟨_, rfl⟩
          have hL := ((hcl m hlt).below HB.out hbl)
          have hL2 := ((hcl2 m hlt).below HB.out hbl2)
          rw [← hx] at hL hL2
          obtain ⟨c0, c1, c2⟩ := hL.nt
          obtain ⟨e0, e1, e2⟩ := hL2.nt
          obtain ⟨x0, h0⟩ : ∃ y, y = x.kind := ⟨_, rfl⟩
          obtain ⟨x1, h1⟩ : ∃ y, y = x.n := ⟨_, rfl⟩
          obtain ⟨x2, h2⟩ : ∃ y, y = x.m := ⟨_, rfl⟩
          rw [← h0] at c0 e0
          rw [← h1] at c1 e1
          rw [← h2] at c2 e2
          clear hL hL2 hcl hcl2 hx h0 h1 h2
          go_upto_region 11 with (fail)
          go_quiet (fail)
          go_wp2_with fail
          clear c0 c1 c2 e0 e1 e2 b6 d6
          go_roundw
          case rel => exact ⟨m + 1, by omega, by go_num, Lib.hid (below_drew HB.out _), Lib.hid (HX.out.drewN _), Lib.hid (HY.out.drewN _)⟩
          case measure => simp [intOf]; omega
        · have hd : decide (m < nn) = false := decide_eq_false hlt
          clear hlt
          go_wp2_with fail
          go_ret
          exact ⟨rfl, HB.out⟩

set_option maxHeartbeats 8000000 in
set_option maxRecDepth 100000 in
theorem robsame_any (x : Ob) (hf : obFits x) (v v2 : Value) (w : World) (hA : ObAt w v x) (hA2 : ObAt w v2 x) : Calls Try.prog 17 #[v, v2] w fun e w' => e = .returned (.bool true) ∧ Below w.heap.size w w' := by
  obtain ⟨on, l⟩ := x
  obtain ⟨hf1, hf2, hf3⟩ := hf
  obtain ⟨vs, rfl, hS⟩ := hA
  obtain ⟨vs2, rfl, hS2⟩ := hA2
  simp only at hf1 hf2 hf3 hS hS2 ⊢
  obtain ⟨a, c, rfl, h2⟩ := hS.get
  obtain ⟨a2, c2, rfl, h4⟩ := hS2.get
  clear hS hS2
  obtain ⟨n, hn⟩ : ∃ n, n = l.length := ⟨_, rfl⟩
  obtain ⟨M, hM⟩ : ∃ M, M = tx on := ⟨_, rfl⟩
  have HF := Lib.hid (show ∀ j, j < n → syFits (l.getD j Sy.nought) from by rw [hn]; exact hf3)
  rw [← hn] at h2 h4 ⊢
  rw [← hM]
  have hni : (n : Int) ≤ 1599289640402 := by omega
  have H2 := Lib.hid h2
  have H4 := Lib.hid h4
  have HB0 := Lib.hid (below_new2 w (.cells #[.string M, .slice a n c] 43) (.cells #[.string M, .slice a2 n c2] 43))
  have HX0 := Lib.hid ((Blk.new w 43 [.string M, .slice a n c]).alloc (.cells #[.string M, .slice a2 n c2] 43))
  have HY0 := Lib.hid (Blk.new2 w (.cells #[.string M, .slice a n c] 43) 43 [.string M, .slice a2 n c2])
  clear hn hM h2 h4 hf1 hf2 hf3
  go_enter Try.func17, Try.ntmps17
  go_wp2_with fail
  go_loopw [5] (fun i wr => ∃ k : Nat, (k : Int) ≤ n ∧ i = .int .i64 k ∧ Hid (Below w.heap.size w wr) ∧ Hid (Blk wr w.heap.size 43 [.string M, .slice a n c]) ∧ Hid (Blk wr (w.heap.size + 1) 43 [.string M, .slice a2 n c2])) (fun i _ => n - (intOf i).toNat)
  case atStart => exact ⟨0, by omega, rfl, HB0, HX0, HY0⟩
  case round =>
    clear HB0 HX0 HY0
    obtain ⟨k, hk, rfl, HB, HX, HY⟩ := hrel
    have b1 : wr.cell? ⟨w.heap.size, 1, none⟩ = some (.slice a n c) := HX.out.cell 1
    have d1 : wr.cell? ⟨w.heap.size + 1, 1, none⟩ = some (.slice a2 n c2) := HY.out.cell 1
    by_cases hlt : k < n
    · have hd : decide (k < n) = true := decide_eq_true hlt
      obtain ⟨b, o, rfl, hbl, hcl⟩ := H2.out (by omega)
      obtain ⟨b2, o2, rfl, hbl2, hcl2⟩ := H4.out (by omega)
      obtain ⟨s, hs⟩ : ∃ s, s = l.getD k Sy.nought := ⟨_, rfl⟩
      obtain ⟨vr, vn, hL, hr, hn'⟩ := hcl k hlt
      obtain ⟨vr2, vn2, hL2, hr2, hn2⟩ := hcl2 k hlt
      have hfs := HF.out k hlt
      rw [← hs] at hL hr hn' hL2 hr2 hn2 hfs
      obtain ⟨c0, c1, c2, c3, c4, c5, c6⟩ := (hL.below HB.out hbl).sy
      obtain ⟨e0, e1, e2, e3, e4, e5, e6⟩ := (hL2.below HB.out hbl2).sy
      have HI := Lib.hid (fun W (hq : Below w.heap.size w W) => rsamesym_any s hfs _ _ W ((SymAt.mk hr hn').below hq) ((SymAt.mk hr2 hn2).below hq))
      obtain ⟨ra, rc, hrv, _⟩ := hr
      obtain ⟨na, nc, hnv, _⟩ := hn'
      obtain ⟨ra2, rc2, hrv2, _⟩ := hr2
      obtain ⟨na2, nc2, hnv2, _⟩ := hn2
      obtain ⟨u0, g0⟩ : ∃ u, u = tx s.name := ⟨_, rfl⟩
      obtain ⟨u1, g1⟩ : ∃ u, u = s.bind := ⟨_, rfl⟩
      obtain ⟨u2, g2⟩ : ∃ u, u = s.kind := ⟨_, rfl⟩
      obtain ⟨u3, g3⟩ : ∃ u, u = s.size := ⟨_, rfl⟩
      obtain ⟨u4, g4⟩ : ∃ u, u = tx s.bytes := ⟨_, rfl⟩
      obtain ⟨rn, hrn⟩ : ∃ x, x = s.rels.length := ⟨_, rfl⟩
      obtain ⟨nn, hnn⟩ : ∃ x, x = s.notes.length := ⟨_, rfl⟩
      rw [← hrn] at hrv hrv2
      rw [← hnn] at hnv hnv2
      rw [← g0, ← g1, ← g2, ← g3, ← g4] at HI
      rw [← g0] at c0 e0
      rw [← g1] at c1 e1
      rw [← g2] at c2 e2
      rw [← g3] at c3 e3
      rw [← g4] at c4 e4
      clear hcl hcl2 hs hL hL2 hfs g0 g1 g2 g3 g4 hrn hnn
      subst hrv hnv hrv2 hnv2
      go_upto_region 6 with (fail)
      refine wp_region_quiet_tail 10 (by kernel_rfl) (by kernel_rfl) ?_
      simp only [List.take_succ_cons, List.take_zero, List.drop_succ_cons, List.drop_zero]
      repeat (go_big_quiet_step (fail))
      refine wpQuiet_nil ?_
      rintro w1 ⟨nq, rfl⟩
      go_wp2_with fail
      refine (HI.out _ (below_drew HB.out _)).mono ?_; rintro e w2 ⟨rfl, q2⟩
      have HB2 := Lib.hid (below_call (below_drew HB.out _) q2)
      have HX2 := Lib.hid ((HX.out.drewN nq).call q2)
      have HY2 := Lib.hid ((HY.out.drewN nq).call q2)
      clear q2 b1 d1 c0 c1 c2 c3 c4 c5 c6 e0 e1 e2 e3 e4 e5 e6
      go_wp2_with fail
      go_roundw
      case rel => exact ⟨k + 1, by omega, by go_num, HB2, HX2, HY2⟩
      case measure => simp [intOf]; omega
    · have hd : decide (k < n) = false := decide_eq_false hlt
      clear hlt
      go_wp2_with fail
      go_ret
      exact ⟨rfl, HB.out⟩
end Go.Proofs.Ytfnofolahhoggaa
