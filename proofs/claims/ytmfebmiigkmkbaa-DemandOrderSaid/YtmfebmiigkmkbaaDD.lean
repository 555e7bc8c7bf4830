/- The program's Check; the document's May. -/
import Derived.Test.YtmfebmiigkmkbaaDC
set_option linter.unusedVariables false
set_option linter.unusedSimpArgs false
namespace Go.Proofs.Ytmfebmiigkmkbaa
open Go Go.RowKit Oj Dm

set_option maxHeartbeats 8000000 in
set_option maxRecDepth 100000 in
theorem check_any (v : Value) (m : Mf) (hf : mfFits m) (w : World) (hA : MfAt w v m) : Calls Try.prog 10 #[v] w fun e w' => e = .returned (.int .i64 (okI (mfOk m))) ∧ Below w.heap.size w w' := by
  obtain ⟨⟨f0, f1⟩, f2, f3, f4, f5⟩ := hf
  obtain ⟨vx, vp, rfl, hX, hP⟩ := hA
  have HX := Lib.hid (fun W (hq : Below w.heap.size w W) => areextents_any vx m.ext W (hX.below hq) f2 f4)
  have HP := Lib.hid (fun W (hq : Below w.heap.size w W) => areports_any vp m.ports W (hP.below hq) f3 f5)
  obtain ⟨ax, cx, hvx, _⟩ := hX
  obtain ⟨ap, cp, hvp, _⟩ := hP
  obtain ⟨nx, hnx⟩ : ∃ n, n = m.ext.length := ⟨_, rfl⟩
  obtain ⟨np, hnp⟩ : ∃ n, n = m.ports.length := ⟨_, rfl⟩
  obtain ⟨p, hp⟩ : ∃ p, p = m.pages := ⟨_, rfl⟩
  obtain ⟨cn, hcn⟩ : ∃ p, p = m.con := ⟨_, rfl⟩
  obtain ⟨b1, hb1⟩ : ∃ b, b = extOk m.ext := ⟨_, rfl⟩
  obtain ⟨b2, hb2⟩ : ∃ b, b = (ptsOk m.ports && decide (m.ports.length ≤ 16)) := ⟨_, rfl⟩
  have HM : Hid (mfOk m = (decide (p ≤ 1024) && b1 && b2)) := Lib.hid (by unfold mfOk; rw [hp, hb1, hb2])
  rw [← hnx] at hvx
  rw [← hnp] at hvp
  rw [← hb1] at HX
  rw [← hb2] at HP
  rw [← hp] at f0 f1
  unfold mfV
  rw [← hp, ← hcn]
  subst hvx hvp
  have HB0 := Lib.hid (below_new1 w (.cells #[.int .u32 p, .slice ax nx cx, .slice ap np cp, .bool cn] 26))
  have HK0 := Lib.hid (Blk.new w 26 [.int .u32 p, .slice ax nx cx, .slice ap np cp, .bool cn])
  clear hnx hnp hp hcn hb1 hb2 f2 f3 f4 f5
  by_cases g : p ≤ 1024
  · have HE : Hid (mfOk m = (b1 && b2)) := Lib.hid (by rw [HM.out, decide_eq_true g, Bool.true_and])
    clear HM
    cases b1 with
    | false =>
      go_enter Try.func10, Try.ntmps10
      go_wp2_with fail
      refine (HX.out _ HB0.out).mono ?_; rintro e w1 ⟨rfl, q1⟩
      have HB1 := Lib.hid (below_call HB0.out q1)
      clear q1
      go_wp2_with fail
      go_ret
      exact ⟨by rw [HE.out]; rfl, HB1.out⟩
    | true =>
      cases b2 with
      | false =>
        go_enter Try.func10, Try.ntmps10
        go_wp2_with fail
        refine (HX.out _ HB0.out).mono ?_; rintro e w1 ⟨rfl, q1⟩
        have HB1 := Lib.hid (below_call HB0.out q1)
        have b2 : w1.cell? ⟨w.heap.size, 2, none⟩ = some (.slice ap np cp) := (HK0.out.call q1).cell 2
        clear q1
        go_wp2_with fail
        refine (HP.out _ HB1.out).mono ?_; rintro e w2 ⟨rfl, rfl⟩
        go_wp2_with fail
        go_ret
        exact ⟨by rw [HE.out]; rfl, HB1.out⟩
      | true =>
        go_enter Try.func10, Try.ntmps10
        go_wp2_with fail
        refine (HX.out _ HB0.out).mono ?_; rintro e w1 ⟨rfl, q1⟩
        have HB1 := Lib.hid (below_call HB0.out q1)
        have b2 : w1.cell? ⟨w.heap.size, 2, none⟩ = some (.slice ap np cp) := (HK0.out.call q1).cell 2
        clear q1
        go_wp2_with fail
        refine (HP.out _ HB1.out).mono ?_; rintro e w2 ⟨rfl, rfl⟩
        go_wp2_with fail
        go_ret
        exact ⟨by rw [HE.out]; rfl, HB1.out⟩
  · have HE : Hid (mfOk m = false) := Lib.hid (by rw [HM.out, decide_eq_false g, Bool.false_and, Bool.false_and])
    have g2 : 1024 < p := by omega
    clear HM
    go_enter Try.func10, Try.ntmps10
    go_wp2_with fail
    go_ret
    exact ⟨by rw [HE.out]; rfl, HB0.out⟩
end Go.Proofs.Ytmfebmiigkmkbaa
