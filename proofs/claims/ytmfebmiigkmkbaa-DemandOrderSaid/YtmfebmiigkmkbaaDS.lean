/- The program's covers, Note. -/
import Derived.Test.YtmfebmiigkmkbaaDQ
set_option linter.unusedVariables false
set_option linter.unusedSimpArgs false
namespace Go.Proofs.Ytmfebmiigkmkbaa
open Go Go.RowKit Oj Dm

theorem spot_mem {α : Type} {f : α → Int} {d : α} {l : List α} {p : Int} {k : Nat} (hU : Up f l) (h : Spot f d l p k) {x : α} (hx : x ∈ l) (hp : f x = p) : k < l.length ∧ l.getD k d = x := by
  obtain ⟨j, hj, rfl⟩ := (mem_at d).1 hx
  have h1 : ¬ j < k := fun hjk => by have := h.2.1 j hjk; omega
  have h2 : k < l.length := by omega
  refine ⟨h2, ?_⟩
  by_cases he : k = j
  · rw [he]
  · have h3 := up_at d hU (show k < j by omega) hj
    have h4 := h.2.2 h2
    omega
theorem has_spot {l : List Xt} {i b : Int} {k : Nat} (hU : Up Xt.id l) (h : Spot Xt.id Xt.nought l i k) : hasX i b l ↔ (k < l.length ∧ (l.getD k Xt.nought).id = i) ∧ b ≤ (l.getD k Xt.nought).bl := by
  constructor
  · rintro ⟨x, hx, h1, h2⟩
    have h3 := spot_mem hU h hx h1
    rw [h3.2]
    exact ⟨⟨h3.1, h1⟩, h2⟩
  · rintro ⟨⟨h1, h2⟩, h3⟩
    exact ⟨_, (mem_at Xt.nought).2 ⟨k, h1, rfl⟩, h2, h3⟩
theorem mem_spot {l : List Int} {p : Int} {k : Nat} (hU : Up id l) (h : Spot id (0 : Int) l p k) : p ∈ l ↔ k < l.length ∧ l.getD k 0 = p := by
  constructor
  · intro hx
    exact spot_mem hU h hx rfl
  · rintro ⟨h1, h2⟩
    exact (mem_at (0 : Int)).2 ⟨k, h1, h2⟩

set_option maxHeartbeats 8000000 in
set_option maxRecDepth 100000 in
theorem covers1_any (v : Value) (m : Mf) (x : Nt) (w : World) (hA : MfAt w v m) (hf : mfFits m) (hok : mfOk m = true) (hx : noteOk x = true) (hfx : ntFits x) : Calls Try.prog 27 #[v, ntV x] w fun e w' => e = .returned (.bool (cov m x)) ∧ Below w.heap.size w w' := by
  have hfine := (hf.fine hok).1
  obtain ⟨k, n, q⟩ := x
  obtain ⟨⟨f0, f1⟩, ⟨f2, f3⟩, f4, f5⟩ := hfx
  simp only at f0 f1 f2 f3 f4 f5
  have hc := note_cases hx
  simp only at hc
  obtain ⟨vx, vp, rfl, hX, hP⟩ := hA
  have HFd := Lib.hid (fun W (hq : Below w.heap.size w W) => find_any vx m.ext n W (hX.below hq) hf.2.1 hfine.x0)
  have HBs := Lib.hid (fun W (hq : Below w.heap.size w W) => search_any vp m.ports n W (hP.below hq) hf.2.2.1 hfine.t0)
  obtain ⟨ax, cx, rfl, hXc⟩ := hX
  obtain ⟨ap, cp, hvp⟩ := slC_slice hP
  subst hvp
  obtain ⟨nx, hnx⟩ : ∃ n, n = m.ext.length := ⟨_, rfl⟩
  obtain ⟨np, hnp⟩ : ∃ n, n = m.ports.length := ⟨_, rfl⟩
  obtain ⟨P, hPg⟩ : ∃ P, P = m.pages := ⟨_, rfl⟩
  obtain ⟨C, hC⟩ : ∃ C, C = m.con := ⟨_, rfl⟩
  have g0 : 0 ≤ P := by rw [hPg]; exact hf.1.1
  have g1 : P < 4294967296 := by rw [hPg]; exact hf.1.2
  have hnxi : (nx : Int) ≤ 17592186044416 := by have := hf.2.1; omega
  have HFx := Lib.hid hf.2.2.2.1
  unfold mfV ntV
  simp only
  rw [← hPg, ← hC, ← hnx, ← hnp]
  rw [← hnx] at HFd hXc
  rw [← hnp] at HBs
  have HFine := Lib.hid hfine
  have HNx := Lib.hid hnx
  have HXc := Lib.hid hXc
  have HB0 := Lib.hid (below_new2 w (.cells #[.int .u32 P, .slice ax nx cx, .slice ap np cp, .bool C] 26) (.cells #[.int .u8 k, .int .u32 n, .int .u32 q] 28))
  have HK0 : Hid (Blk ((w.alloc (.cells #[.int .u32 P, .slice ax nx cx, .slice ap np cp, .bool C] 26)).alloc (.cells #[.int .u8 k, .int .u32 n, .int .u32 q] 28)) w.heap.size 26 [.int .u32 P, .slice ax nx cx, .slice ap np cp, .bool C]) := Lib.hid ((Blk.new w 26 _).alloc _)
  have HQ0 : Hid (Blk ((w.alloc (.cells #[.int .u32 P, .slice ax nx cx, .slice ap np cp, .bool C] 26)).alloc (.cells #[.int .u8 k, .int .u32 n, .int .u32 q] 28)) (w.heap.size + 1) 28 [.int .u8 k, .int .u32 n, .int .u32 q]) := Lib.hid (Blk.new2 w _ 28 _)
  have HPg := Lib.hid hPg
  have HC := Lib.hid hC
  clear hP hx hok hf hfine hnx hnp hPg hC hXc
  rcases hc with ⟨rfl, h1, rfl⟩ | ⟨rfl, h1, h2, h3⟩ | ⟨rfl, h1, h2, rfl⟩ | ⟨rfl, rfl, rfl⟩
  · have HE : Hid (cov m ⟨1, n, 0⟩ = decide (n ≤ P)) := Lib.hid (by rw [Bool.eq_iff_iff, cov_p rfl, decide_eq_true_eq, HPg.out])
    by_cases hle : n ≤ P
    · have HE2 : Hid (cov m ⟨1, n, 0⟩ = true) := Lib.hid (by rw [HE.out, decide_eq_true hle])
      clear HE
      go_enter Try.func27, Try.ntmps27
      go_wp2_with fail
      go_ret
      exact ⟨ret_bool (by rw [HE2.out]; first | done | (simp; done) | (simp; omega)), HB0.out⟩
    · have HE2 : Hid (cov m ⟨1, n, 0⟩ = false) := Lib.hid (by rw [HE.out, decide_eq_false hle])
      have hlt : P < n := by omega
      clear HE
      go_enter Try.func27, Try.ntmps27
      go_wp2_with fail
      go_ret
      exact ⟨ret_bool (by rw [HE2.out]; first | done | (simp; done) | (simp; omega)), HB0.out⟩
  · go_enter Try.func27, Try.ntmps27
    go_wp2_with fail
    refine (HFd.out _ HB0.out).mono ?_; rintro e w1 ⟨j, hSp, rfl, q1⟩
    have HE : Hid (cov m ⟨2, n, q⟩ = (spotB Xt.id Xt.nought m.ext n j && decide (q ≤ (m.ext.getD j Xt.nought).bl))) := Lib.hid (by
      rw [Bool.eq_iff_iff, cov_x rfl, has_spot HFine.out.x0 hSp, Bool.and_eq_true, decide_eq_true_eq]
      unfold spotB
      rw [decide_eq_true_eq])
    obtain ⟨b, hb⟩ : ∃ b, b = spotB Xt.id Xt.nought m.ext n j := ⟨_, rfl⟩
    have HB1 := Lib.hid (below_call HB0.out q1)
    have HK1 := Lib.hid (HK0.out.call q1)
    have HQ1 := Lib.hid (HQ0.out.call q1)
    unfold spotV
    rw [← hb]
    rw [← hb] at HE
    cases b with
    | false =>
      have HE2 : Hid (cov m ⟨2, n, q⟩ = false) := Lib.hid (by rw [HE.out, Bool.false_and])
      clear hSp hb q1 HE
      go_upto_region 6 with (fail)
      go_quiet (fail)
      go_wp2_with fail
      go_ret
      exact ⟨ret_bool HE2.out.symm, below_drew HB1.out _⟩
    | true =>
      have hjn : j < nx := by rw [HNx.out]; exact (of_decide_eq_true hb.symm).1
      obtain ⟨g, o, rfl, hgl, hcl⟩ := HXc.out (by omega)
      have cc := ((hcl j hjn).below HB1.out hgl).xt.2
      have hfj := (HFx.out j (by rw [← HNx.out]; exact hjn)).2
      obtain ⟨bl, hbl⟩ : ∃ bl, bl = (m.ext.getD j Xt.nought).bl := ⟨_, rfl⟩
      rw [← hbl] at cc hfj HE
      obtain ⟨hf0, hf1⟩ := hfj
      have b1 : w1.cell? ⟨w.heap.size, 1, none⟩ = some (.slice (some ⟨g, o, none⟩) nx cx) := HK1.out.cell 1
      have n2 : w1.cell? ⟨w.heap.size + 1, 2, none⟩ = some (.int .u32 q) := HQ1.out.cell 2
      have hd : decide (j < nx) = true := decide_eq_true hjn
      by_cases hle : q ≤ bl
      · have HE2 : Hid (cov m ⟨2, n, q⟩ = true) := Lib.hid (by rw [HE.out, decide_eq_true hle]; rfl)
        have hdl : decide (q ≤ bl) = true := decide_eq_true hle
        clear hSp hb q1 HE hcl hbl
        go_upto_region 6 with (fail)
        go_quiet (fail)
        go_wp2_with fail
        go_ret
        exact ⟨ret_bool HE2.out.symm, below_drew HB1.out _⟩
      · have HE2 : Hid (cov m ⟨2, n, q⟩ = false) := Lib.hid (by rw [HE.out, decide_eq_false hle]; rfl)
        have hdl : decide (q ≤ bl) = false := decide_eq_false hle
        clear hSp hb q1 HE hcl hbl
        go_upto_region 6 with (fail)
        go_quiet (fail)
        go_wp2_with fail
        go_ret
        exact ⟨ret_bool HE2.out.symm, below_drew HB1.out _⟩
  · go_enter Try.func27, Try.ntmps27
    go_wp2_with fail
    refine (HBs.out _ HB0.out).mono ?_; rintro e w1 ⟨j, hSp, rfl, rfl⟩
    have HE : Hid (cov m ⟨3, n, 0⟩ = spotB id (0 : Int) m.ports n j) := Lib.hid (by
      rw [Bool.eq_iff_iff, cov_t rfl, mem_spot HFine.out.t0 hSp]
      unfold spotB
      rw [decide_eq_true_eq]
      rfl)
    obtain ⟨b, hb⟩ : ∃ b, b = spotB id (0 : Int) m.ports n j := ⟨_, rfl⟩
    unfold spotV
    rw [← hb]
    rw [← hb] at HE
    clear hb hSp
    go_wp2_with fail
    go_ret
    exact ⟨ret_bool HE.out.symm, HB0.out⟩
  · have HE : Hid (cov m ⟨4, 0, 0⟩ = C) := Lib.hid (by rw [Bool.eq_iff_iff, cov_c rfl, HC.out])
    go_enter Try.func27, Try.ntmps27
    go_wp2_with fail
    go_ret
    exact ⟨ret_bool HE.out.symm, HB0.out⟩

set_option maxHeartbeats 8000000 in
set_option maxRecDepth 100000 in
theorem dnote_any (v : Value) (m : Mf) (x : Nt) (w : World) (hA : MfAt w v m) (hf : mfFits m) (hfx : ntFits x) : Calls Try.prog 12 #[v, ntV x] w fun e w' => e = .returned (.bool (noteR m x)) ∧ Below w.heap.size w w' := by
  have HC := Lib.hid (fun W (hq : Below w.heap.size w W) => check_any v m hf W (hA.below hq))
  have HO := Lib.hid (fun W => onote_any x hfx W)
  have HV := Lib.hid (fun (h1 : mfOk m = true) (h2 : noteOk x = true) W (hq : Below w.heap.size w W) => covers1_any v m x W (hA.below hq) hf h1 h2 hfx)
  obtain ⟨P, ax, nx, cx, ap, np, cp, C, hv⟩ := hA.open
  subst hv
  obtain ⟨k, n, q⟩ := x
  unfold ntV at HO HV ⊢
  simp only at HO HV ⊢
  have HB0 := Lib.hid (below_new2 w (.cells #[.int .u32 P, .slice ax nx cx, .slice ap np cp, .bool C] 26) (.cells #[.int .u8 k, .int .u32 n, .int .u32 q] 28))
  have HK0 : Hid (Blk ((w.alloc (.cells #[.int .u32 P, .slice ax nx cx, .slice ap np cp, .bool C] 26)).alloc (.cells #[.int .u8 k, .int .u32 n, .int .u32 q] 28)) w.heap.size 26 [.int .u32 P, .slice ax nx cx, .slice ap np cp, .bool C]) := Lib.hid ((Blk.new w 26 _).alloc _)
  have HQ0 : Hid (Blk ((w.alloc (.cells #[.int .u32 P, .slice ax nx cx, .slice ap np cp, .bool C] 26)).alloc (.cells #[.int .u8 k, .int .u32 n, .int .u32 q] 28)) (w.heap.size + 1) 28 [.int .u8 k, .int .u32 n, .int .u32 q]) := Lib.hid (Blk.new2 w _ 28 _)
  obtain ⟨b1, hb1⟩ : ∃ b, b = mfOk m := ⟨_, rfl⟩
  obtain ⟨b2, hb2⟩ : ∃ b, b = noteOk ⟨k, n, q⟩ := ⟨_, rfl⟩
  obtain ⟨b3, hb3⟩ : ∃ b, b = cov m ⟨k, n, q⟩ := ⟨_, rfl⟩
  have HM1 : Hid (mfOk m = b1) := Lib.hid hb1.symm
  have HM2 : Hid (noteOk ⟨k, n, q⟩ = b2) := Lib.hid hb2.symm
  have HE : Hid (noteR m ⟨k, n, q⟩ = (b1 && b2 && b3)) := Lib.hid (by unfold noteR; rw [hb1, hb2, hb3])
  rw [← hb1] at HC
  rw [← hb2] at HO
  rw [← hb3] at HV
  clear hb1 hb2 hb3 hA hf hfx
  cases b1 with
  | false =>
    rw [okI_f] at HC
    go_enter Try.func12, Try.ntmps12
    go_wp2_with fail
    refine (HC.out _ HB0.out).mono ?_; rintro e w1 ⟨rfl, q1⟩
    have HB1 := Lib.hid (below_call HB0.out q1)
    clear q1
    go_wp2_with fail
    go_ret
    exact ⟨ret_bool (by rw [HE.out]; rfl), HB1.out⟩
  | true =>
    rw [okI_t] at HC
    cases b2 with
    | false =>
      rw [okI_f] at HO
      go_enter Try.func12, Try.ntmps12
      go_wp2_with fail
      refine (HC.out _ HB0.out).mono ?_; rintro e w1 ⟨rfl, q1⟩
      have HB1 := Lib.hid (below_call HB0.out q1)
      obtain ⟨n0, n1, n2⟩ := (HQ0.out.call q1).three
      clear q1
      go_wp2_with fail
      refine (HO.out _).mono ?_; rintro e w2 ⟨rfl, q2⟩
      have HB2 := Lib.hid (below_call HB1.out q2)
      clear q2
      go_wp2_with fail
      go_ret
      exact ⟨ret_bool (by rw [HE.out]; rfl), HB2.out⟩
    | true =>
      rw [okI_t] at HO
      go_enter Try.func12, Try.ntmps12
      go_wp2_with fail
      refine (HC.out _ HB0.out).mono ?_; rintro e w1 ⟨rfl, q1⟩
      have HB1 := Lib.hid (below_call HB0.out q1)
      have HK1 := Lib.hid (HK0.out.call q1)
      have HQ1 := Lib.hid (HQ0.out.call q1)
      obtain ⟨n0, n1, n2⟩ := HQ1.out.three
      clear q1
      go_wp2_with fail
      refine (HO.out _).mono ?_; rintro e w2 ⟨rfl, q2⟩
      have HB2 := Lib.hid (below_call HB1.out q2)
      have HK2 := Lib.hid (HK1.out.call q2)
      have HQ2 := Lib.hid (HQ1.out.call q2)
      clear q2 n0 n1 n2
      obtain ⟨n0, n1, n2⟩ := HQ2.out.three
      obtain ⟨m0, m1, m2, m3⟩ := HK2.out.four
      go_wp2_with fail
      refine (HV.out HM1.out HM2.out _ HB2.out).mono ?_; rintro e w3 ⟨rfl, q3⟩
      have HB3 := Lib.hid (below_call HB2.out q3)
      clear q3
      go_wp2_with fail
      go_ret
      exact ⟨ret_bool (by rw [HE.out]; rfl), HB3.out⟩
end Go.Proofs.Ytmfebmiigkmkbaa
