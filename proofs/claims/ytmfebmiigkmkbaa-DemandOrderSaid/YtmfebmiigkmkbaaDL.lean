/- The gatherer's gather. -/
import Derived.Test.YtmfebmiigkmkbaaDK
set_option linter.unusedVariables false
set_option linter.unusedSimpArgs false
namespace Go.Proofs.Ytmfebmiigkmkbaa
open Go Go.RowKit Oj Dm

theorem GPost.from {w w1 : World} {B p : Nat} {m : Mf} {e : Ending} {w' : World} (h : GPost w1 B p m e w') (hk : Keep B p w w1) : GPost w B p m e w' := by
  obtain ⟨h1, vx, vp, h2, h3⟩ := h
  exact ⟨h1, vx, vp, h2, hk.trans h3⟩
theorem GA.pages {w : World} {B p : Nat} {m : Mf} {vx vp : Value} (h : GA w B p m vx vp) (q : Int) : GA (w.setCell ⟨p, 0, none⟩ (.int .u32 q)) B p { m with pages := q } vx vp :=
  ⟨h.blk.set_ 0 _, World.ownsRow.kept h.x (grown_set w p 0 _) (row_or h.x h.lt), World.ownsRow.kept h.t (grown_set w p 0 _) (row_or h.t h.lt), h.lt⟩
theorem GA.con {w : World} {B p : Nat} {m : Mf} {vx vp : Value} (h : GA w B p m vx vp) : GA (w.setCell ⟨p, 3, none⟩ (.bool true)) B p { m with con := true } vx vp :=
  ⟨h.blk.set_ 3 _, World.ownsRow.kept h.x (grown_set w p 3 _) (row_or h.x h.lt), World.ownsRow.kept h.t (grown_set w p 3 _) (row_or h.t h.lt), h.lt⟩

set_option maxHeartbeats 8000000 in
set_option maxRecDepth 100000 in
theorem gather_any (B p : Nat) (m : Mf) (vx vp : Value) (x : Nt) (hx : noteOk x = true) (hf : ntFits x) (w : World) (hG : GA w B p m vx vp) (hB : B ≤ w.heap.size) (hm : Fine m) (hl : m.ext.length ≤ 1048574) (hl2 : m.ports.length ≤ 1048574) :
    Calls Try.prog 40 #[.pointer (some ⟨p, 0, none⟩), ntV x] w (GPost w B p (add m x)) := by
  obtain ⟨k, n, q⟩ := x
  obtain ⟨⟨f0, f1⟩, ⟨f2, f3⟩, f4, f5⟩ := hf
  simp only at f0 f1 f2 f3 f4 f5
  have hc := note_cases hx
  simp only at hc
  have HG := Lib.hid (hG.below (below_new1 w (.cells #[.int .u8 k, .int .u32 n, .int .u32 q] 28)))
  have HK := Lib.hid (Keep.of_below (B := B) (p := p) (below_new1 w (.cells #[.int .u8 k, .int .u32 n, .int .u32 q] 28)) hB)
  have HB : Hid (B ≤ (w.alloc (.cells #[.int .u8 k, .int .u32 n, .int .u32 q] 28)).heap.size) := Lib.hid (Nat.le_trans hB (by simp))
  have HM := Lib.hid hm
  have HL := Lib.hid (And.intro hl hl2)
  have hpl : p < w.heap.size := hG.blk.lt
  have m0 := hm.p0
  have m1 := hm.p1
  obtain ⟨P, hP⟩ : ∃ P, P = m.pages := ⟨_, rfl⟩
  rw [← hP] at m0 m1
  have c0 : w.cell? ⟨p, 0, none⟩ = some (.int .u32 P) := by rw [hP]; exact hG.blk.cell 0
  have c3 : w.cell? ⟨p, 3, none⟩ = some (.bool m.con) := hG.blk.cell 3
  have g0 : w.frozen? ⟨p, 0, none⟩ = false := hG.blk.frozen 0
  have g3 : w.frozen? ⟨p, 3, none⟩ = false := hG.blk.frozen 3
  have HP := Lib.hid hP
  unfold ntV
  simp only
  clear hG hB hm hl hl2 hx hP
  rcases hc with ⟨rfl, h1, rfl⟩ | ⟨rfl, h1, h2, h3⟩ | ⟨rfl, h1, h2, rfl⟩ | ⟨rfl, rfl, rfl⟩
  · have HF : Hid (∀ M, M = max P n → GA (((w.alloc (.cells #[.int .u8 1, .int .u32 n, .int .u32 0] 28)).setCell ⟨p, 0, none⟩ (.int .u32 M)).drew) B p (add m ⟨1, n, 0⟩) vx vp) := Lib.hid (by
      rintro M rfl
      rw [HP.out]
      exact (HG.out.pages (max m.pages n)).drew)
    have HKK : Hid (∀ M, Keep B p w (((w.alloc (.cells #[.int .u8 1, .int .u32 n, .int .u32 0] 28)).setCell ⟨p, 0, none⟩ (.int .u32 M)).drew)) := Lib.hid fun M => HK.out.trans ((keep_set HB.out 0 _).trans (Keep.of_drew _))
    have HNN := Lib.hid (Blk.new w 28 [.int .u8 1, .int .u32 n, .int .u32 0])
    clear c3 g3 c0 g0
    go_enter Try.func40, Try.ntmps40
    go_upto_region 3 with (fail)
    obtain ⟨wa, hwa⟩ : ∃ wa, wa = w.alloc (.cells #[.int .u8 1, .int .u32 n, .int .u32 0] 28) := ⟨_, rfl⟩
    have HNN2 : Hid (Blk wa w.heap.size 28 [.int .u8 1, .int .u32 n, .int .u32 0]) := Lib.hid (by rw [hwa]; exact HNN.out)
    rw [← hwa] at HF HKK HG ⊢
    clear hwa HNN
    have c0 : wa.cell? ⟨p, 0, none⟩ = some (.int .u32 P) := by rw [HP.out]; exact HG.out.blk.cell 0
    have g0 : wa.frozen? ⟨p, 0, none⟩ = false := HG.out.blk.frozen 0
    have p0 : p < wa.heap.size := HG.out.blk.lt
    have n1 : wa.cell? ⟨w.heap.size, 1, none⟩ = some (.int .u32 n) := HNN2.out.cell 1
    go_still_tail 12, (by kernel_rfl)
    go_wp2_with fail
    all_goals go_end0
    all_goals exact ⟨rfl, _, _, HF.out _ (by omega), HKK.out _⟩
  · have HC := Lib.hid (gextent_any B p m vx vp n q f2 f3 f4 f5 _ HG.out HB.out HM.out.x0 HL.out.1 (fun x hx => by have := HM.out.x1 x hx; omega))
    clear c0 c3 g0 g3 m0 m1
    go_enter Try.func40, Try.ntmps40
    go_wp2_with fail
    refine HC.out.mono ?_; rintro e w1 hq
    have HQ : Hid (GPost w B p (add m ⟨2, n, q⟩) e w1) := Lib.hid (hq.from HK.out)
    obtain ⟨rfl, _⟩ := hq
    go_wp2_with fail
    go_end0
    exact HQ.out
  · have HC := Lib.hid (gport_any B p m vx vp n f2 (by omega) _ HG.out HB.out HM.out.t0 (by have := HL.out.2; omega))
    clear c0 c3 g0 g3 m0 m1
    go_enter Try.func40, Try.ntmps40
    go_wp2_with fail
    refine HC.out.mono ?_; rintro e w1 hq
    have HQ : Hid (GPost w B p (add m ⟨3, n, 0⟩) e w1) := Lib.hid (hq.from HK.out)
    obtain ⟨rfl, _⟩ := hq
    go_wp2_with fail
    go_end0
    exact HQ.out
  · have HF : Hid (GA ((w.alloc (.cells #[.int .u8 4, .int .u32 0, .int .u32 0] 28)).setCell ⟨p, 3, none⟩ (.bool true)) B p (add m ⟨4, 0, 0⟩) vx vp) := Lib.hid HG.out.con
    have HKK : Hid (Keep B p w ((w.alloc (.cells #[.int .u8 4, .int .u32 0, .int .u32 0] 28)).setCell ⟨p, 3, none⟩ (.bool true))) := Lib.hid (HK.out.trans (keep_set HB.out 3 _))
    clear c0 g0 m0 m1 c3 g3
    go_enter Try.func40, Try.ntmps40
    go_upto_region 9 with (fail)
    obtain ⟨wa, hwa⟩ : ∃ wa, wa = w.alloc (.cells #[.int .u8 4, .int .u32 0, .int .u32 0] 28) := ⟨_, rfl⟩
    rw [← hwa] at HF HKK HG ⊢
    clear hwa
    have c3 : wa.cell? ⟨p, 3, none⟩ = some (.bool m.con) := HG.out.blk.cell 3
    have g3 : wa.frozen? ⟨p, 3, none⟩ = false := HG.out.blk.frozen 3
    have p3 : p < wa.heap.size := HG.out.blk.lt
    go_wp2_with fail
    go_end0
    exact ⟨rfl, _, _, HF.out, HKK.out⟩
end Go.Proofs.Ytmfebmiigkmkbaa
