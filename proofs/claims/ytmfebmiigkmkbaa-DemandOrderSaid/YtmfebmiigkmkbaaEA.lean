/- The document's Copy, Note. -/
import Derived.Test.YtmfebmiigkmkbaaDX
import Derived.Test.YtmfebmiigkmkbaaDY
import Derived.Test.YtmfebmiigkmkbaaDE
import Derived.Test.YtmfebmiigkmkbaaDQ
set_option linter.unusedVariables false
set_option linter.unusedSimpArgs false
namespace Go.Proofs.Ytmfebmiigkmkbaa
open Go Go.RowKit Oj Dm

set_option maxHeartbeats 8000000 in
set_option maxRecDepth 100000 in
theorem rcopy_any (v : Value) (m : Mf) (hf : mfFits m) (w : World) (hA : MfAt w v m) : Calls Try.prog 9 #[v] w fun e w' => ∃ v', e = .returned v' ∧ MfOwn w' w.heap.size v' m ∧ Below w.heap.size w w' := by
  obtain ⟨vx, vp, rfl, hX, hP⟩ := hA
  obtain ⟨iX, hiX, hzX, hsX, hbX⟩ := info_parts infoExt
  obtain ⟨iP, hiP, hzP, hsP, hbP⟩ := info_parts infoU16
  have HI := Lib.hid (And.intro (And.intro hiX (And.intro hzX (And.intro hsX hbX))) (And.intro hiP (And.intro hzP (And.intro hsP hbP))))
  have HX := Lib.hid (fun W (hq : Below w.heap.size w W) => (hX.below hq : XtsAt W vx m.ext))
  have HP := Lib.hid (fun W (hq : Below w.heap.size w W) => (hP.below hq : PtsAt W vp m.ports))
  obtain ⟨ax, cx, hvx⟩ := slC_slice hX
  obtain ⟨ap, cp, hvp⟩ := slC_slice hP
  obtain ⟨nx, hnx⟩ : ∃ n, n = m.ext.length := ⟨_, rfl⟩
  obtain ⟨np, hnp⟩ : ∃ n, n = m.ports.length := ⟨_, rfl⟩
  obtain ⟨P, hPg⟩ : ∃ P, P = m.pages := ⟨_, rfl⟩
  obtain ⟨C, hC⟩ : ∃ C, C = m.con := ⟨_, rfl⟩
  rw [← hnx] at hvx
  rw [← hnp] at hvp
  unfold mfV
  rw [← hPg, ← hC]
  have HPC := Lib.hid (And.intro hPg hC)
  have HL : Hid ((nx ≤ maxLen ∧ nx * 8 ≤ 140737488355328) ∧ (np ≤ maxLen ∧ np * 2 ≤ 140737488355328)) := Lib.hid (by have := hf.2.1; have := hf.2.2.1; unfold maxLen; omega)
  have HN := Lib.hid (And.intro hnx hnp)
  have HB0 := Lib.hid (below_new2 w (.cells #[.int .u32 P, vx, vp, .bool C] 26) (.cells #[.int .u32 0, .slice none 0 0, .slice none 0 0, .bool false] 26))
  have HM0 : Hid (Blk ((w.alloc (.cells #[.int .u32 P, vx, vp, .bool C] 26)).alloc (.cells #[.int .u32 0, .slice none 0 0, .slice none 0 0, .bool false] 26)) w.heap.size 26 [.int .u32 P, vx, vp, .bool C]) := Lib.hid ((Blk.new w 26 _).alloc _)
  have HR0 : Hid (Blk ((w.alloc (.cells #[.int .u32 P, vx, vp, .bool C] 26)).alloc (.cells #[.int .u32 0, .slice none 0 0, .slice none 0 0, .bool false] 26)) (w.heap.size + 1) 26 zM) := Lib.hid (Blk.new2 w _ 26 zM)
  subst hvx hvp
  clear hX hP hf hnx hnp hPg hC hiX hzX hsX hbX hiP hzP hsP hbP
  go_enter Try.func9, Try.ntmps9
  go_upto_region 1 with (fail)
  refine wp_named ?_; intro wa hwa
  rw [← hwa] at HB0 HM0 HR0
  clear hwa
  have m1 : wa.cell? ⟨w.heap.size, 1, none⟩ = some (.slice ax nx cx) := HM0.out.cell 1
  go_wp2_with (at_builtin; refine wpList_append_all rfl _ _ 23 rfl w.heap.size 50 iX (.agg #[.int .u32 0, .int .u32 0]) 2 8 Try.underlying23 HI.out.1.1 HI.out.1.2.1 HI.out.1.2.2.1 HI.out.1.2.2.2 rfl (by decide) rfl (.slice ax nx cx) nx (fun j => xtCells (m.ext.getD j Xt.nought)) rfl (by have h := HX.out _ HB0.out; unfold XtsAt at h; rw [← HN.out.1] at h; exact h) (fun _ _ => rfl) (fun _ _ u hu => xt_one1 _ u hu) HL.out.1.1 HL.out.1.2 HB0.out.size ?_)
  intro v1 w1 h6 h7
  have HB1 := Lib.hid (below_call HB0.out (grown_none h7))
  have HM1 := Lib.hid (HM0.out.call (grown_none h7))
  have HR1 := Lib.hid (HR0.out.call (grown_none h7))
  have HO1 : Hid (OwnX w1 w.heap.size v1 m.ext) := Lib.hid (by unfold OwnX; rw [← flat_all' xtCells Xt.nought, ← HN.out.1]; exact h6)
  obtain ⟨a1, c1, rfl⟩ := row_sl h6
  have z1 : w1.cell? ⟨w.heap.size, 1, none⟩ = some (.slice ax nx cx) := HM1.out.cell 1
  have y1 : w1.frozen? ⟨w.heap.size, 1, none⟩ = false := HM1.out.frozen 1
  have zl : w.heap.size < w1.heap.size := HM1.out.lt
  clear h6 h7 m1
  go_upto_region 2 with (fail)
  refine wp_named ?_; intro wb hwb
  have HBb : Hid (Below w.heap.size w wb) := Lib.hid (by rw [hwb]; exact below_set HB1.out (Nat.le_refl _) 1 _)
  have HMb : Hid (Blk wb w.heap.size 26 [.int .u32 P, .slice a1 nx c1, .slice ap np cp, .bool C]) := Lib.hid (by rw [hwb]; exact HM1.out.set_ 1 _)
  have HRb : Hid (Blk wb (w.heap.size + 1) 26 zM) := Lib.hid (by rw [hwb]; exact HR1.out.far (p := ⟨w.heap.size, 1, none⟩) (by simp) _)
  have HOb : Hid (OwnX wb w.heap.size (.slice a1 nx c1) m.ext) := Lib.hid (by rw [hwb]; exact row_new HO1.out HM1.out (by decide) (grown_set w1 _ 1 _))
  clear hwb z1 y1 zl HB1 HM1 HR1 HO1 HB0 HM0 HR0
  have m2 : wb.cell? ⟨w.heap.size, 2, none⟩ = some (.slice ap np cp) := HMb.out.cell 2
  go_wp2_with (at_builtin; refine wpList_append_all rfl _ _ 24 rfl w.heap.size 51 iP (.int .u16 0) 1 2 Try.underlying24 HI.out.2.1 HI.out.2.2.1 HI.out.2.2.2.1 HI.out.2.2.2.2 rfl (by decide) rfl (.slice ap np cp) np (fun j => ptCells (m.ports.getD j 0)) rfl (by have h := HP.out _ HBb.out; unfold PtsAt at h; rw [← HN.out.2] at h; exact h) (fun _ _ => rfl) (fun _ _ u hu => by simp only [ptCells, List.mem_singleton] at hu; rw [hu]; rfl) HL.out.2.1 HL.out.2.2 HBb.out.size ?_)
  intro v2 w2 h6 h7
  have HB2 := Lib.hid (below_call HBb.out (grown_none h7))
  have HM2 := Lib.hid (HMb.out.call (grown_none h7))
  have HR2 := Lib.hid (HRb.out.call (grown_none h7))
  have HO2 : Hid (OwnX w2 w.heap.size (.slice a1 nx c1) m.ext) := Lib.hid (row_below HOb.out (grown_none h7))
  have HQ2 : Hid (OwnP w2 w.heap.size v2 m.ports) := Lib.hid (by unfold OwnP; rw [← flat_all' ptCells (0 : Int), ← HN.out.2]; exact h6)
  obtain ⟨a2, c2, rfl⟩ := row_sl h6
  have z2 : w2.cell? ⟨w.heap.size, 2, none⟩ = some (.slice ap np cp) := HM2.out.cell 2
  have y2 : w2.frozen? ⟨w.heap.size, 2, none⟩ = false := HM2.out.frozen 2
  have zl : w.heap.size < w2.heap.size := HM2.out.lt
  clear h6 h7 m2
  go_upto_region 3 with (fail)
  refine wp_named ?_; intro wc hwc
  have HBc : Hid (Below w.heap.size w wc) := Lib.hid (by rw [hwc]; exact below_set HB2.out (Nat.le_refl _) 2 _)
  have HMc : Hid (Blk wc w.heap.size 26 [.int .u32 P, .slice a1 nx c1, .slice a2 np c2, .bool C]) := Lib.hid (by rw [hwc]; exact HM2.out.set_ 2 _)
  have HRc : Hid (Blk wc (w.heap.size + 1) 26 zM) := Lib.hid (by rw [hwc]; exact HR2.out.far (p := ⟨w.heap.size, 2, none⟩) (by simp) _)
  have HOc : Hid (MfOwn wc w.heap.size (.agg #[.int .u32 P, .slice a1 nx c1, .slice a2 np c2, .bool C]) m) := Lib.hid (by
    refine ⟨_, _, ?_, row_new HO2.out HM2.out (by decide) (by rw [hwc]; exact grown_set w2 _ 2 _), row_new HQ2.out HM2.out (by decide) (by rw [hwc]; exact grown_set w2 _ 2 _)⟩
    unfold mfV
    rw [← HPC.out.1, ← HPC.out.2])
  clear hwc z2 y2 zl HB2 HM2 HR2 HO2 HQ2 HBb HMb HRb HOb
  obtain ⟨m0, m1, m2, m3⟩ := HMc.out.four
  obtain ⟨e0, e1, e2, e3⟩ := HRc.out.four
  have f0' := HRc.out.frozen 0
  have f1' := HRc.out.frozen 1
  have f2' := HRc.out.frozen 2
  have f3' := HRc.out.frozen 3
  have hrl := HRc.out.lt
  have hml := HMc.out.lt
  go_wp2_with fail
  refine bodyPost_ret (v := .agg #[.int .u32 P, .slice a1 nx c1, .slice a2 np c2, .bool C]) (results_cell_row Try.results9 _ _ (w.heap.size + 1) 26 _ (0, 0) _ rfl (HRc.out.put4 _ _ _ _) Try.underlying26 rfl (by kernel_rfl)) rfl ⟨_, rfl, ?_, below_put4 HBc.out (by omega) _ _ _ _⟩
  exact HOc.out.grown HRc.out (by decide) (by decide) (grown_put4 _ _ _ _ _ _)

set_option maxHeartbeats 8000000 in
set_option maxRecDepth 100000 in
theorem rmnote_any (v : Value) (m : Mf) (x : Nt) (w : World) (hA : MfAt w v m) (hW : MfWf v) (hf : mfFits m) (hfx : ntFits x) : Calls Try.prog 13 #[v, ntV x] w fun e w' => e = .returned (.bool (noteR m x)) ∧ Below w.heap.size w w' := by
  have HC := Lib.hid (fun W (hq : Below w.heap.size w W) => rmay_any v m hf W (hA.below hq))
  have HO := Lib.hid (fun W => rnote_any x hfx W)
  have HAt := Lib.hid (fun W (hq : Below w.heap.size w W) => (hA.below hq : MfAt W v m))
  obtain ⟨vx, vp, hv, hX, hP⟩ := hA
  obtain ⟨hWx, hWp⟩ := hW m vx vp hv
  have HAdd := Lib.hid (fun (h1 : mfOk m = true) (h2 : noteOk x = true) W (hq : Below w.heap.size w W) => radd_any vx vp m x h2 hfx hf (by have := ext16 (hf.fine h1).1; omega) (by have := (hf.fine h1).2; omega) hWx hWp W (hX.below hq) (hP.below hq))
  have HAt2 := Lib.hid (fun W W' (hq : Below w.heap.size w W) (hq2 : Below W.heap.size W W') v' (h : AddR W W' vx vp m (add m x) v') => h.at hq2 (hX.below hq) (hP.below hq))
  have HSame := Lib.hid (fun (h1 : mfOk m = true) (h2 : noteOk x = true) v' W (h3 : MfAt W v' (add m x)) (h4 : MfAt W v m) => rsame_any v' v (add m x) m W h3 h4 (by
    have hfine := (hf.fine h1).1
    have hfa := fine_add hfine h2 hfx.2.1.1
    have hl := len_add m x
    have := ext16 hfine
    have := (hf.fine h1).2
    exact fine_fits hfa (by omega) (by omega)) hf)
  have HCov : Hid (mfOk m = true → noteOk x = true → decide (add m x = m) = cov m x) := Lib.hid fun h1 h2 => by
    rw [Bool.eq_iff_iff, decide_eq_true_eq]
    exact add_same (hf.fine h1).1 h2 ⟨hfx.2.1.1, hfx.2.2.1⟩
  obtain ⟨ax, cx, hvx⟩ := slC_slice hX
  obtain ⟨ap, cp, hvp⟩ := slC_slice hP
  obtain ⟨nx, hnx⟩ : ∃ n, n = m.ext.length := ⟨_, rfl⟩
  obtain ⟨np, hnp⟩ : ∃ n, n = m.ports.length := ⟨_, rfl⟩
  obtain ⟨P, hPg⟩ : ∃ P, P = m.pages := ⟨_, rfl⟩
  obtain ⟨C, hC⟩ : ∃ C, C = m.con := ⟨_, rfl⟩
  rw [← hnx] at hvx
  rw [← hnp] at hvp
  unfold mfV at hv HAdd
  rw [← hPg, ← hC] at hv HAdd
  obtain ⟨k, n, q⟩ := x
  unfold ntV at HO HAdd ⊢
  simp only at HO HAdd ⊢
  obtain ⟨A, hA⟩ : ∃ A, A = add m ⟨k, n, q⟩ := ⟨_, rfl⟩
  rw [← hA] at HAdd HAt2 HSame HCov
  obtain ⟨b1, hb1⟩ : ∃ b, b = mfOk m := ⟨_, rfl⟩
  obtain ⟨b2, hb2⟩ : ∃ b, b = noteOk ⟨k, n, q⟩ := ⟨_, rfl⟩
  have HM1 : Hid (mfOk m = b1) := Lib.hid hb1.symm
  have HM2 : Hid (noteOk ⟨k, n, q⟩ = b2) := Lib.hid hb2.symm
  have HE : Hid (noteR m ⟨k, n, q⟩ = (b1 && b2 && cov m ⟨k, n, q⟩)) := Lib.hid (by unfold noteR; rw [hb1, hb2])
  rw [← hb1] at HC
  rw [← hb2] at HO
  subst hvx hvp hv
  have HB0 := Lib.hid (below_new2 w (.cells #[.int .u32 P, .slice ax nx cx, .slice ap np cp, .bool C] 26) (.cells #[.int .u8 k, .int .u32 n, .int .u32 q] 28))
  have HK0 : Hid (Blk ((w.alloc (.cells #[.int .u32 P, .slice ax nx cx, .slice ap np cp, .bool C] 26)).alloc (.cells #[.int .u8 k, .int .u32 n, .int .u32 q] 28)) w.heap.size 26 [.int .u32 P, .slice ax nx cx, .slice ap np cp, .bool C]) := Lib.hid ((Blk.new w 26 _).alloc _)
  have HQ0 : Hid (Blk ((w.alloc (.cells #[.int .u32 P, .slice ax nx cx, .slice ap np cp, .bool C] 26)).alloc (.cells #[.int .u8 k, .int .u32 n, .int .u32 q] 28)) (w.heap.size + 1) 28 [.int .u8 k, .int .u32 n, .int .u32 q]) := Lib.hid (Blk.new2 w _ 28 _)
  clear hb1 hb2 hf hfx hX hP hWx hWp hW hnx hnp hPg hC hA
  cases b1 with
  | false =>
    go_enter Try.func13, Try.ntmps13
    go_wp2_with fail
    refine (HC.out _ HB0.out).mono ?_; rintro e w1 ⟨rfl, q1⟩
    have HB1 := Lib.hid (below_call HB0.out q1)
    clear q1
    go_wp2_with fail
    go_ret
    exact ⟨ret_bool (by rw [HE.out]; rfl), HB1.out⟩
  | true =>
    cases b2 with
    | false =>
      go_enter Try.func13, Try.ntmps13
      go_wp2_with fail
      refine (HC.out _ HB0.out).mono ?_; rintro e w1 ⟨rfl, q1⟩
      have HB1 := Lib.hid (below_call HB0.out q1)
      obtain ⟨n0, n1, n2⟩ := (HQ0.out.call q1).three
      clear q1
      go_wp2_with fail
      refine (HO.out _).mono ?_; rintro e w2 ⟨rfl, q2⟩
      have HB2 := Lib.hid (below_call HB1.out q2)
      clear q2
      go_wp2_with fail
      go_ret
      exact ⟨ret_bool (by rw [HE.out]; rfl), HB2.out⟩
    | true =>
      go_enter Try.func13, Try.ntmps13
      go_wp2_with fail
      refine (HC.out _ HB0.out).mono ?_; rintro e w1 ⟨rfl, q1⟩
      have HB1 := Lib.hid (below_call HB0.out q1)
      have HK1 := Lib.hid (HK0.out.call q1)
      have HQ1 := Lib.hid (HQ0.out.call q1)
      obtain ⟨n0, n1, n2⟩ := HQ1.out.three
      clear q1
      go_wp2_with fail
      refine (HO.out _).mono ?_; rintro e w2 ⟨rfl, q2⟩
      have HB2 := Lib.hid (below_call HB1.out q2)
      have HK2 := Lib.hid (HK1.out.call q2)
      have HQ2 := Lib.hid (HQ1.out.call q2)
      clear q2 n0 n1 n2
      obtain ⟨n0, n1, n2⟩ := HQ2.out.three
      obtain ⟨m0, m1, m2, m3⟩ := HK2.out.four
      go_wp2_with fail
      refine (HAdd.out HM1.out HM2.out _ HB2.out).mono ?_; rintro e w3 ⟨v', rfl, hR, q3⟩
      have HB3 := Lib.hid (below_call HB2.out q3)
      have HK3 := Lib.hid (HK2.out.call q3)
      have hMA := HAt2.out _ _ HB2.out q3 _ hR
      have HMA := Lib.hid hMA
      obtain ⟨P2, ax2, nx2, cx2, ap2, np2, cp2, C2, hv2⟩ := hMA.open
      subst hv2
      clear hMA hR q3 n0 n1 n2 m0 m1 m2 m3
      go_upto_region 4 with (fail)
      refine wp_named ?_; intro w4 hw4
      have HB4 : Hid (Below w.heap.size w w4) := Lib.hid (by rw [hw4]; exact below_box HB3.out _)
      have HK4 : Hid (Blk w4 w.heap.size 26 [.int .u32 P, .slice ax nx cx, .slice ap np cp, .bool C]) := Lib.hid (by rw [hw4]; exact HK3.out.alloc _)
      have HX4 : Hid (Blk w4 w3.heap.size 26 [.int .u32 P2, .slice ax2 nx2 cx2, .slice ap2 np2 cp2, .bool C2]) := Lib.hid (by rw [hw4]; exact Blk.new w3 26 _)
      have HMA4 : Hid (MfAt w4 (.agg #[.int .u32 P2, .slice ax2 nx2 cx2, .slice ap2 np2 cp2, .bool C2]) A) := Lib.hid (by rw [hw4]; exact HMA.out.below (below_new1 w3 _))
      obtain ⟨g3, hg3⟩ : ∃ g, g = w3.heap.size := ⟨_, rfl⟩
      rw [← hg3] at HX4
      rw [← hg3]
      clear hw4 hg3 HMA HB3 HK3
      obtain ⟨m0, m1, m2, m3⟩ := HK4.out.four
      obtain ⟨x0, x1, x2, x3⟩ := HX4.out.four
      go_wp2_with fail
      refine (HSame.out HM1.out HM2.out _ _ HMA4.out (HAt.out _ HB4.out)).mono ?_; rintro e w5 ⟨rfl, q5⟩
      have HB5 := Lib.hid (below_call HB4.out q5)
      have HR5 : Hid (decide (A = m) = cov m ⟨k, n, q⟩) := Lib.hid (HCov.out HM1.out HM2.out)
      clear q5
      obtain ⟨bb, hbb⟩ : ∃ bb, bb = decide (A = m) := ⟨_, rfl⟩
      rw [← hbb] at HR5 ⊢
      clear hbb
      go_wp2_with fail
      go_ret
      exact ⟨ret_bool (by rw [HE.out, ← HR5.out]; rfl), HB5.out⟩
end Go.Proofs.Ytmfebmiigkmkbaa
