/- The document's Same, both ways. -/
import Derived.Test.YtbpdoiikleaidaaX50
set_option linter.unusedVariables false
set_option linter.unusedSimpArgs false
namespace Go.Proofs.Ytbpdoiikleaidaa
open Go Go.RowKit Oj

theorem rsamesym_dec (s t : Sy) (h : syFits s) (h' : syFits t) (v v2 : Value) (w : World) (hA : SymAt w v s) (hA2 : SymAt w v2 t) : ∃ b : Bool, (b = true ↔ s = t) ∧ Calls Try.prog 19 #[v, v2] w fun e w' => e = .returned (.bool b) ∧ Below w.heap.size w w' := by
  by_cases he : s = t
  · subst he
    exact ⟨true, by simp, rsamesym_any s h v v2 w hA hA2⟩
  · exact ⟨false, by simp [he], rsamesym_no s t h h' he v v2 w hA hA2⟩
set_option maxHeartbeats 16000000 in
set_option maxRecDepth 100000 in
theorem robsame_no (x y : Ob) (hf : obFits x) (hf' : obFits y) (hne : x ≠ y) (v v2 : Value) (w : World) (hA : ObAt w v x) (hA2 : ObAt w v2 y) : Calls Try.prog 10 #[v, v2] w fun e w' => e = .returned (.bool false) ∧ Below w.heap.size w w' := by
  obtain ⟨on, l⟩ := x
  obtain ⟨pn, m⟩ := y
  obtain ⟨hf1, hf2, hf3⟩ := hf
  obtain ⟨hg1, hg2, hg3⟩ := hf'
  obtain ⟨vs, rfl, hS⟩ := hA
  obtain ⟨vs2, rfl, hS2⟩ := hA2
  simp only at hf1 hf2 hf3 hg1 hg2 hg3 hS hS2 ⊢
  obtain ⟨a, c, rfl, h2⟩ := hS.get
  obtain ⟨a2, c2, rfl, h4⟩ := hS2.get
  clear hS hS2
  obtain ⟨n, hn⟩ : ∃ n, n = l.length := ⟨_, rfl⟩
  obtain ⟨n2, hn2⟩ : ∃ n, n = m.length := ⟨_, rfl⟩
  have HLn := Lib.hid hn
  have HLn2 := Lib.hid hn2
  have HF := Lib.hid (show ∀ j, j < n → syFits (l.getD j Sy.nought) from by rw [hn]; exact hf3)
  have HF2 := Lib.hid (show ∀ j, j < n2 → syFits (m.getD j Sy.nought) from by rw [hn2]; exact hg3)
  rw [← hn] at h2 ⊢
  rw [← hn2] at h4 ⊢
  have hni : (n : Int) ≤ 1599289640402 := by omega
  have hni2 : (n2 : Int) ≤ 1599289640402 := by omega
  have H2 := Lib.hid h2
  have H4 := Lib.hid h4
  have HNE := Lib.hid hne
  clear h2 h4 hf1 hf2 hf3 hg1 hg2 hg3 hn hn2 hne
  by_cases h0 : on = pn
  case neg =>
    have q := tx_ne h0
    obtain ⟨M, hM⟩ : ∃ M, M = tx on := ⟨_, rfl⟩
    obtain ⟨M2, hM2⟩ : ∃ M, M = tx pn := ⟨_, rfl⟩
    rw [← hM, ← hM2] at q ⊢
    have HB0 := Lib.hid (below_new2 w (.cells #[.string M, .slice a n c] 24) (.cells #[.string M2, .slice a2 n2 c2] 24))
    clear h0 hM hM2 HLn HLn2 HF HF2 H2 H4 HNE
    go_enter Try.func10, Try.ntmps10
    go_wp2_with fail
    go_ret
    exact ⟨rfl, HB0.out⟩
  subst h0
  obtain ⟨M, hM⟩ : ∃ M, M = tx on := ⟨_, rfl⟩
  rw [← hM]
  by_cases h1 : n = n2
  case neg =>
    have q : ((n : Int) != (n2 : Int)) = true := bne_iff_ne.2 (fun e => h1 (by omega))
    have HB0 := Lib.hid (below_new2 w (.cells #[.string M, .slice a n c] 24) (.cells #[.string M, .slice a2 n2 c2] 24))
    clear h1 hM HLn HLn2 HF HF2 H2 H4 HNE
    go_enter Try.func10, Try.ntmps10
    go_wp2_with fail
    go_ret
    exact ⟨rfl, HB0.out⟩
  subst h1
  have HAll : Hid ((∀ j, j < n → l.getD j Sy.nought = m.getD j Sy.nought) → False) := Lib.hid (fun h => HNE.out (by
    rw [list_of_at Sy.nought (HLn.out.symm.trans HLn2.out) (fun j hj => h j (by rw [HLn.out]; exact hj))]))
  have HB0 := Lib.hid (below_new2 w (.cells #[.string M, .slice a n c] 24) (.cells #[.string M, .slice a2 n c2] 24))
  have HX0 := Lib.hid ((Blk.new w 24 [.string M, .slice a n c]).alloc (.cells #[.string M, .slice a2 n c2] 24))
  have HY0 := Lib.hid (Blk.new2 w (.cells #[.string M, .slice a n c] 24) 24 [.string M, .slice a2 n c2])
  clear hM HLn HLn2 HNE
  go_enter Try.func10, Try.ntmps10
  go_wp2_with fail
  go_loopw [5] (fun i wr => ∃ k : Nat, (k : Int) ≤ n ∧ i = .int .i64 k ∧ Hid (∀ j, j < k → l.getD j Sy.nought = m.getD j Sy.nought) ∧ Hid (Below w.heap.size w wr) ∧ Hid (Blk wr w.heap.size 24 [.string M, .slice a n c]) ∧ Hid (Blk wr (w.heap.size + 1) 24 [.string M, .slice a2 n c2])) (fun i _ => n - (intOf i).toNat)
  case atStart => exact ⟨0, by omega, rfl, Lib.hid (fun j hj => absurd hj (by omega)), HB0, HX0, HY0⟩
  case round =>
    clear HB0 HX0 HY0
    obtain ⟨k, hk, rfl, HK, HB, HX, HY⟩ := hrel
    have b1 : wr.cell? ⟨w.heap.size, 1, none⟩ = some (.slice a n c) := HX.out.cell 1
    have d1 : wr.cell? ⟨w.heap.size + 1, 1, none⟩ = some (.slice a2 n c2) := HY.out.cell 1
    by_cases hlt : k < n
    · have hd : decide (k < n) = true := decide_eq_true hlt
      obtain ⟨b, o, rfl, hbl, hcl⟩ := H2.out (by omega)
      obtain ⟨b2, o2, rfl, hbl2, hcl2⟩ := H4.out (by omega)
      obtain ⟨s, hs⟩ : ∃ s, s = l.getD k Sy.nought := ⟨_, rfl⟩
      obtain ⟨t, ht⟩ : ∃ s, s = m.getD k Sy.nought := ⟨_, rfl⟩
      obtain ⟨vr, vn, hL, hr, hn'⟩ := hcl k hlt
      obtain ⟨vr2, vn2, hL2, hr2, hn2⟩ := hcl2 k hlt
      have hfs := HF.out k hlt
      have hft := HF2.out k hlt
      rw [← hs] at hL hr hn' hfs
      rw [← ht] at hL2 hr2 hn2 hft
      obtain ⟨c0, c1, c2, c3, c4, c5, c6⟩ := (hL.below HB.out hbl).sy
      obtain ⟨e0, e1, e2, e3, e4, e5, e6⟩ := (hL2.below HB.out hbl2).sy
      have HI : Hid (∃ bb : Bool, (bb = true ↔ s = t) ∧ ∀ W, Below w.heap.size w W → Calls Try.prog 19 #[.agg #[.string (tx s.name), .int .u8 s.bind, .int .u8 s.kind, .int .u32 s.size, .string (tx s.bytes), vr, vn], .agg #[.string (tx t.name), .int .u8 t.bind, .int .u8 t.kind, .int .u32 t.size, .string (tx t.bytes), vr2, vn2]] W fun e w' => e = .returned (.bool bb) ∧ Below W.heap.size W w') := Lib.hid (by
        by_cases he : s = t
        · refine ⟨true, by simp [he], fun W hq => ?_⟩
          subst he
          exact rsamesym_any s hfs _ _ W ((SymAt.mk hr hn').below hq) ((SymAt.mk hr2 hn2).below hq)
        · exact ⟨false, by simp [he], fun W hq => rsamesym_no s t hfs hft he _ _ W ((SymAt.mk hr hn').below hq) ((SymAt.mk hr2 hn2).below hq)⟩)
      obtain ⟨ra, rc, hrv, _⟩ := hr
      obtain ⟨na, nc, hnv, _⟩ := hn'
      obtain ⟨ra2, rc2, hrv2, _⟩ := hr2
      obtain ⟨na2, nc2, hnv2, _⟩ := hn2
      obtain ⟨bb, hbb, hI⟩ := HI.out
      have HBB : Hid (bb = true → l.getD k Sy.nought = m.getD k Sy.nought) := Lib.hid (fun h => by rw [← hs, ← ht]; exact hbb.1 h)
      clear HI hbb
      have HI := Lib.hid hI
      obtain ⟨p0, g0⟩ : ∃ u, u = tx s.name := ⟨_, rfl⟩
      obtain ⟨p1, g1⟩ : ∃ u, u = s.bind := ⟨_, rfl⟩
      obtain ⟨p2, g2⟩ : ∃ u, u = s.kind := ⟨_, rfl⟩
      obtain ⟨p3, g3⟩ : ∃ u, u = s.size := ⟨_, rfl⟩
      obtain ⟨p4, g4⟩ : ∃ u, u = tx s.bytes := ⟨_, rfl⟩
      obtain ⟨rn, hrn⟩ : ∃ x, x = s.rels.length := ⟨_, rfl⟩
      obtain ⟨nn, hnn⟩ : ∃ x, x = s.notes.length := ⟨_, rfl⟩
      obtain ⟨q0, k0⟩ : ∃ u, u = tx t.name := ⟨_, rfl⟩
      obtain ⟨q1, k1⟩ : ∃ u, u = t.bind := ⟨_, rfl⟩
      obtain ⟨q2, k2⟩ : ∃ u, u = t.kind := ⟨_, rfl⟩
      obtain ⟨q3, k3⟩ : ∃ u, u = t.size := ⟨_, rfl⟩
      obtain ⟨q4, k4⟩ : ∃ u, u = tx t.bytes := ⟨_, rfl⟩
      obtain ⟨rn2, hrn2⟩ : ∃ x, x = t.rels.length := ⟨_, rfl⟩
      obtain ⟨nn2, hnn2⟩ : ∃ x, x = t.notes.length := ⟨_, rfl⟩
      rw [← hrn] at hrv
      rw [← hnn] at hnv
      rw [← hrn2] at hrv2
      rw [← hnn2] at hnv2
      rw [← g0, ← g1, ← g2, ← g3, ← g4, ← k0, ← k1, ← k2, ← k3, ← k4] at HI
      rw [← g0] at c0
      rw [← g1] at c1
      rw [← g2] at c2
      rw [← g3] at c3
      rw [← g4] at c4
      rw [← k0] at e0
      rw [← k1] at e1
      rw [← k2] at e2
      rw [← k3] at e3
      rw [← k4] at e4
      clear hcl hcl2 hs ht hL hL2 hfs hft g0 g1 g2 g3 g4 hrn hnn k0 k1 k2 k3 k4 hrn2 hnn2 hI
      subst hrv hnv hrv2 hnv2
      go_upto_region 6 with (fail)
      refine wp_region_quiet_tail 10 (by kernel_rfl) (by kernel_rfl) ?_
      simp only [List.take_succ_cons, List.take_zero, List.drop_succ_cons, List.drop_zero]
      repeat (go_big_quiet_step (fail))
      refine wpQuiet_nil ?_
      rintro w1 ⟨nq, rfl⟩
      go_wp2_with fail
      refine (HI.out _ (below_drew HB.out _)).mono ?_; rintro e w2 ⟨rfl, q2⟩
      have HB2 := Lib.hid (below_call (below_drew HB.out _) q2)
      have HX2 := Lib.hid ((HX.out.drewN nq).call q2)
      have HY2 := Lib.hid ((HY.out.drewN nq).call q2)
      clear q2 b1 d1 c0 c1 c2 c3 c4 c5 c6 e0 e1 e2 e3 e4 e5 e6 HI
      cases bb
      · clear HBB
        go_wp2_with fail
        go_ret
        exact ⟨rfl, HB2.out⟩
      · have HK2 : Hid (∀ j, j < k + 1 → l.getD j Sy.nought = m.getD j Sy.nought) := Lib.hid (fun j hj => by
          by_cases hj2 : j = k
          · subst hj2; exact HBB.out rfl
          · exact HK.out j (by omega))
        clear HBB HK
        go_wp2_with fail
        go_roundw
        case rel => exact ⟨k + 1, by omega, by go_num, HK2, HB2, HX2, HY2⟩
        case measure => simp [intOf]; omega
    · exact (HAll.out (fun j hj => HK.out j (by omega))).elim
/-- Same, both ways. -/
theorem robsame_dec (x y : Ob) (hf : obFits x) (hf' : obFits y) (v v2 : Value) (w : World) (hA : ObAt w v x) (hA2 : ObAt w v2 y) : ∃ b : Bool, (b = true ↔ x = y) ∧ Calls Try.prog 10 #[v, v2] w fun e w' => e = .returned (.bool b) ∧ Below w.heap.size w w' := by
  by_cases he : x = y
  · subst he
    exact ⟨true, by simp, robsame_any x hf v v2 w hA hA2⟩
  · exact ⟨false, by simp [he], robsame_no x y hf hf' he v v2 w hA hA2⟩
end Go.Proofs.Ytbpdoiikleaidaa
