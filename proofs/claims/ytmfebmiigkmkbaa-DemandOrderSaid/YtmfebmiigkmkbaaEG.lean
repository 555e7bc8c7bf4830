/- The statements' alive: the chapter's example. -/
import Derived.Test.YtmfebmiigkmkbaaDT
import Derived.Test.YtmfebmiigkmkbaaDU
import Derived.Test.YtmfebmiigkmkbaaDR
import Derived.Test.YtmfebmiigkmkbaaDY
import Derived.Test.YtmfebmiigkmkbaaEB
set_option linter.unusedVariables false
set_option linter.unusedSimpArgs false
namespace Go.Proofs.Ytmfebmiigkmkbaa
open Go Go.RowKit Oj Dm

def exL : List Nt := [⟨2, 2, 3⟩, ⟨3, 9, 0⟩, ⟨2, 2, 5⟩, ⟨3, 7, 0⟩]
def exM : Mf := ⟨0, [⟨2, 5⟩], [7, 9], false⟩
theorem ex_of : ofR exL = (exM, 0) := by decide +kernel
theorem ex_of0 : ofR [⟨0, 0, 0⟩] = (Mf.nought, 2) := by decide +kernel
theorem ex_ok : mfOk exM = true := by decide +kernel
theorem ex_note7 : noteR exM ⟨3, 7, 0⟩ = true := by decide +kernel
theorem ex_noteC : noteR exM ⟨4, 0, 0⟩ = false := by decide +kernel
theorem ex_cov : coversR exM exM = true := by decide +kernel
theorem ex_fits : mfFits exM := ⟨by decide, by decide, by decide, (fun j hj => by
  obtain rfl : j = 0 := by simp [exM] at hj; exact hj
  exact ⟨by decide, by decide⟩), (fun j hj => by
  have : j = 0 ∨ j = 1 := by simp [exM] at hj; omega
  rcases this with rfl | rfl <;> exact ⟨by decide, by decide⟩)⟩
theorem ex_nts : ntsFit exL := ⟨by decide, fun j hj => by
  have : j = 0 ∨ j = 1 ∨ j = 2 ∨ j = 3 := by simp [exL] at hj; omega
  rcases this with rfl | rfl | rfl | rfl <;> exact ⟨by decide, by decide, by decide⟩⟩
theorem ex_nts0 : ntsFit [⟨0, 0, 0⟩] := ⟨by decide, fun j hj => by
  obtain rfl : j = 0 := by simp at hj; exact hj
  exact ⟨by decide, by decide, by decide⟩⟩
theorem lit_notes (w : World) (l : List Nt) (hl : l.length ≤ maxLen) : NotesAt (w.alloc (.cells (l.flatMap ntCells).toArray 28)) (.slice (some ⟨w.heap.size, 0, none⟩) l.length l.length) l := by
  have h := World.ownsRow_lit (base := w.heap.size) (e := 28) (size := 3) w (l.flatMap ntCells).toArray l.length (Nat.le_refl _) hl (by simp [fm_len nt_len])
  exact OwnN.at (B := w.heap.size) h
theorem lit_exts (w : World) (l : List Xt) (hl : l.length ≤ maxLen) : XtsAt (w.alloc (.cells (l.flatMap xtCells).toArray 50)) (.slice (some ⟨w.heap.size, 0, none⟩) l.length l.length) l := by
  have h := World.ownsRow_lit (base := w.heap.size) (e := 50) (size := 2) w (l.flatMap xtCells).toArray l.length (Nat.le_refl _) hl (by simp [fm_len xt_len])
  exact OwnX.at (B := w.heap.size) h
theorem lit_ports (w : World) (l : List Int) (hl : l.length ≤ maxLen) : PtsAt (w.alloc (.cells (l.flatMap ptCells).toArray 51)) (.slice (some ⟨w.heap.size, 0, none⟩) l.length l.length) l := by
  have h := World.ownsRow_lit (base := w.heap.size) (e := 51) (size := 1) w (l.flatMap ptCells).toArray l.length (Nat.le_refl _) hl (by simp [fm_len pt_len])
  exact OwnP.at (B := w.heap.size) h

set_option maxHeartbeats 16000000 in
set_option maxRecDepth 100000 in
theorem dalive_any (w : World) : Calls Try.prog 8 #[] w fun e w' => e = .returned (.bool true) ∧ Below w.heap.size w w' := by
  have HL0 : Hid (NotesAt (w.alloc (.cells #[.int .u8 2, .int .u32 2, .int .u32 3, .int .u8 3, .int .u32 9, .int .u32 0, .int .u8 2, .int .u32 2, .int .u32 5, .int .u8 3, .int .u32 7, .int .u32 0] 28)) (.slice (some ⟨w.heap.size, 0, none⟩) 4 4) exL) := Lib.hid (lit_notes w exL (by decide))
  have HB0 := Lib.hid (below_new1 w (.cells #[.int .u8 2, .int .u32 2, .int .u32 3, .int .u8 3, .int .u32 9, .int .u32 0, .int .u8 2, .int .u32 2, .int .u32 5, .int .u8 3, .int .u32 7, .int .u32 0] 28))
  have HOf := Lib.hid (of_any _ exL _ HL0.out ex_nts (by decide))
  go_enter Try.func8, Try.ntmps8
  go_wp2_with fail
  refine HOf.out.mono ?_; rintro e w1 ⟨v1, rfl, hM, q1⟩
  rw [ex_of] at hM ⊢
  have HM1 := Lib.hid hM
  have HB1 := Lib.hid (below_call HB0.out q1)
  obtain ⟨P, ax, nx, cx, ap, np, cp, C, hv⟩ := hM.open
  subst hv
  clear hM q1
  go_upto_region 2 with (fail)
  refine wp_named ?_; intro w2 hw2
  obtain ⟨g, hg⟩ : ∃ g, g = w1.heap.size := ⟨_, rfl⟩
  have HX2 : Hid (Blk w2 g 26 [.int .u32 P, .slice ax nx cx, .slice ap np cp, .bool C]) := Lib.hid (by rw [hw2, hg]; exact Blk.new w1 26 _)
  have HM2 : Hid (MfAt w2 (.agg #[.int .u32 P, .slice ax nx cx, .slice ap np cp, .bool C]) exM) := Lib.hid (by rw [hw2]; exact HM1.out.at.below (below_new1 w1 _))
  have HB2 : Hid (Below w.heap.size w w2) := Lib.hid (by rw [hw2]; exact below_box HB1.out _)
  rw [← hg]
  clear hw2 hg HM1 HB1
  have HOf0 := Lib.hid (of_any (.slice (some ⟨w2.heap.size, 0, none⟩) 1 1) [⟨0, 0, 0⟩] (w2.alloc (.cells #[.int .u8 0, .int .u32 0, .int .u32 0] 28)) (lit_notes w2 [⟨0, 0, 0⟩] (by decide)) ex_nts0 (by decide))
  have HB2a := Lib.hid (below_box HB2.out (.cells #[.int .u8 0, .int .u32 0, .int .u32 0] 28))
  have HX2a := Lib.hid (HX2.out.alloc (.cells #[.int .u8 0, .int .u32 0, .int .u32 0] 28))
  have HM2a := Lib.hid (HM2.out.below (below_new1 w2 (.cells #[.int .u8 0, .int .u32 0, .int .u32 0] 28)))
  go_wp2_with fail
  refine HOf0.out.mono ?_; rintro e w3 ⟨v3, rfl, hM, q3⟩
  rw [ex_of0] at hM ⊢
  have HB3 := Lib.hid (below_call HB2a.out q3)
  have HX3 := Lib.hid (HX2a.out.call q3)
  have HM3 := Lib.hid (HM2a.out.below q3)
  obtain ⟨P3, ax3, nx3, cx3, ap3, np3, cp3, C3, hv⟩ := hM.open
  subst hv
  clear hM q3 HOf0 HB2a HX2a HM2a HB2 HX2 HM2 HOf HL0 HB0
  go_upto_region 3 with (fail)
  refine wp_named ?_; intro w4 hw4
  have HB4 : Hid (Below w.heap.size w w4) := Lib.hid (by rw [hw4]; exact below_box HB3.out _)
  have HX4 : Hid (Blk w4 g 26 [.int .u32 P, .slice ax nx cx, .slice ap np cp, .bool C]) := Lib.hid (by rw [hw4]; exact HX3.out.alloc _)
  have HM4 : Hid (MfAt w4 (.agg #[.int .u32 P, .slice ax nx cx, .slice ap np cp, .bool C]) exM) := Lib.hid (by rw [hw4]; exact HM3.out.below (below_new1 w3 _))
  clear hw4 HB3 HX3 HM3
  have HQ : Hid (MfAt ((w4.alloc (.cells #[.int .u32 2, .int .u32 5] 50)).alloc (.cells #[.int .u16 7, .int .u16 9] 51)) (.agg #[.int .u32 0, .slice (some ⟨w4.heap.size, 0, none⟩) 1 1, .slice (some ⟨w4.heap.size + 1, 0, none⟩) 2 2, .bool false]) exM) := Lib.hid (by
    refine ⟨.slice (some ⟨w4.heap.size, 0, none⟩) 1 1, .slice (some ⟨w4.heap.size + 1, 0, none⟩) 2 2, rfl, ?_, ?_⟩
    · exact XtsAt.below (lit_exts w4 [⟨2, 5⟩] (by decide)) (below_new1 _ _)
    · have h := lit_ports (w4.alloc (.cells #[.int .u32 2, .int .u32 5] 50)) [7, 9] (by decide)
      rwa [show (w4.alloc (.cells #[.int .u32 2, .int .u32 5] 50)).heap.size = w4.heap.size + 1 by simp] at h)
  have HB4b := Lib.hid (below_box (below_box HB4.out (.cells #[.int .u32 2, .int .u32 5] 50)) (.cells #[.int .u16 7, .int .u16 9] 51))
  have HX4b : Hid (Blk ((w4.alloc (.cells #[.int .u32 2, .int .u32 5] 50)).alloc (.cells #[.int .u16 7, .int .u16 9] 51)) g 26 [.int .u32 P, .slice ax nx cx, .slice ap np cp, .bool C]) := Lib.hid ((HX4.out.alloc _).alloc _)
  have HM4b : Hid (MfAt ((w4.alloc (.cells #[.int .u32 2, .int .u32 5] 50)).alloc (.cells #[.int .u16 7, .int .u16 9] 51)) (.agg #[.int .u32 P, .slice ax nx cx, .slice ap np cp, .bool C]) exM) := Lib.hid (HM4.out.below (below_new2 w4 _ _))
  have HSm := Lib.hid (rsame_any _ _ exM exM _ HM4b.out HQ.out ex_fits ex_fits)
  have hdec : decide (exM = exM) = true := decide_eq_true rfl
  rw [hdec] at HSm
  obtain ⟨d0, d1, d2, d3⟩ := HX4.out.four
  have hgl : g < w4.heap.size := HX4.out.lt
  clear hdec
  go_wp2_with fail
  refine HSm.out.mono ?_; rintro e w5 ⟨rfl, q5⟩
  have HB5 := Lib.hid (below_call HB4b.out q5)
  have HX5 := Lib.hid (HX4b.out.call q5)
  have HM5 := Lib.hid (HM4b.out.below q5)
  clear q5 d0 d1 d2 d3 hgl HSm HQ HB4 HX4 HM4 HB4b HX4b HM4b
  obtain ⟨d0, d1, d2, d3⟩ := HX5.out.four
  go_wp2_with fail
  refine (check_any _ exM ex_fits _ HM5.out).mono ?_; rintro e w6 ⟨rfl, q6⟩
  rw [ex_ok, okI_t]
  have HB6 := Lib.hid (below_call HB5.out q6)
  have HX6 := Lib.hid (HX5.out.call q6)
  have HM6 := Lib.hid (HM5.out.below q6)
  clear q6 d0 d1 d2 d3 HB5 HX5 HM5
  obtain ⟨d0, d1, d2, d3⟩ := HX6.out.four
  go_wp2_with fail
  refine (dnote_any _ exM ⟨3, 7, 0⟩ _ HM6.out ex_fits ⟨by decide, by decide, by decide⟩).mono ?_; rintro e w7 ⟨rfl, q7⟩
  rw [ex_note7]
  have HB7 := Lib.hid (below_call HB6.out q7)
  have HX7 := Lib.hid (HX6.out.call q7)
  have HM7 := Lib.hid (HM6.out.below q7)
  clear q7 d0 d1 d2 d3 HB6 HX6 HM6
  obtain ⟨d0, d1, d2, d3⟩ := HX7.out.four
  go_wp2_with fail
  refine (dnote_any _ exM ⟨4, 0, 0⟩ _ HM7.out ex_fits ⟨by decide, by decide, by decide⟩).mono ?_; rintro e w8 ⟨rfl, q8⟩
  rw [ex_noteC]
  have HB8 := Lib.hid (below_call HB7.out q8)
  have HX8 := Lib.hid (HX7.out.call q8)
  have HM8 := Lib.hid (HM7.out.below q8)
  clear q8 d0 d1 d2 d3 HB7 HX7 HM7
  obtain ⟨d0, d1, d2, d3⟩ := HX8.out.four
  go_wp2_with fail
  refine (dcovers_any _ _ exM exM _ HM8.out HM8.out ex_fits ex_fits).mono ?_; rintro e w9 ⟨rfl, q9⟩
  rw [ex_cov]
  have HB9 := Lib.hid (below_call HB8.out q9)
  clear q9 d0 d1 d2 d3 HB8 HX8 HM8
  go_wp2_with fail
  go_ret
  exact ⟨rfl, HB9.out⟩
end Go.Proofs.Ytmfebmiigkmkbaa
