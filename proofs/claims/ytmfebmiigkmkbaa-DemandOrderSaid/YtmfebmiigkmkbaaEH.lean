/- DemandMay, walked. (written by mk_eh.py) -/
import Derived.Test.YtmfebmiigkmkbaaEE
import Derived.Test.YtmfebmiigkmkbaaEF
import Derived.Test.YtmfebmiigkmkbaaEG
import Derived.Test.YtmfebmiigkmkbaaOY
import Derived.Deep.RegionHeld3
set_option linter.unusedVariables false
set_option linter.unusedSimpArgs false
namespace Go.Proofs.Ytmfebmiigkmkbaa
open Go Go.RowKit Oj Dm

theorem mf_len (t : Mf × Value × Value) : (mfCells t.1 t.2.1 t.2.2).length = 4 := rfl
theorem lit_mfs (w : World) (T : List (Mf × Value × Value)) (h : ∀ t ∈ T, XtsAt w t.2.1 t.1.ext ∧ PtsAt w t.2.2 t.1.ports) (hl : T.length ≤ maxLen) :
    MfsAt (w.alloc (.cells (T.flatMap fun t => mfCells t.1 t.2.1 t.2.2).toArray 26)) (.slice (some ⟨w.heap.size, 0, none⟩) T.length T.length) (T.map (·.1)) := by
  have h0 := World.ownsRow_lit (base := w.heap.size) (e := 26) (size := 4) w (T.flatMap fun t => mfCells t.1 t.2.1 t.2.2).toArray T.length (Nat.le_refl _) hl (by simp [fm_len mf_len])
  have h1 : SlC (w.alloc (.cells (T.flatMap fun t => mfCells t.1 t.2.1 t.2.2).toArray 26)) (.slice (some ⟨w.heap.size, 0, none⟩) T.length T.length) T.length 4 (fun j => mfCells (T.getD j (Mf.nought, undef, undef)).1 (T.getD j (Mf.nought, undef, undef)).2.1 (T.getD j (Mf.nought, undef, undef)).2.2) := by
    refine slC_of_row (B := w.heap.size) (e := 26) (fun j _ => rfl) ?_
    rw [flat_all' (fun t : Mf × Value × Value => mfCells t.1 t.2.1 t.2.2) (Mf.nought, undef, undef)]
    exact h0
  have hg : ∀ j, j < T.length → (T.map (·.1)).getD j Mf.nought = (T.getD j (Mf.nought, undef, undef)).1 := fun j hj => by
    rw [List.getD_eq_getElem?_getD, List.getD_eq_getElem?_getD, List.getElem?_map, List.getElem?_eq_getElem hj]
    rfl
  refine ⟨fun j => (T.getD j (Mf.nought, undef, undef)).2.1, fun j => (T.getD j (Mf.nought, undef, undef)).2.2, ?_, fun j hj => ?_⟩
  · rw [List.length_map]
    exact h1.congr fun j hj => by rw [hg j hj]
  · rw [List.length_map] at hj
    rw [hg j hj]
    have hm := h _ ((mem_at (Mf.nought, undef, undef)).2 ⟨j, hj, rfl⟩)
    exact ⟨hm.1.below (below_new1 w _), hm.2.below (below_new1 w _)⟩
theorem notes_rows {w : World} {a : Option Addr} {N : Nat} {c : Nat} {l : List Nt} (h : NotesAt w (.slice a N c) l) (hN : N = l.length) : 0 < N → ∃ b o, a = some ⟨b, o, none⟩ ∧ b < w.heap.size ∧ ∀ j, j < N → LieC w b (o + j * 3) (ntCells (l.getD j Nt.nought)) := by
  obtain ⟨a', c', he, h3⟩ := h
  injection he with e1 e2 e3
  subst e1
  rw [← hN] at h3
  exact h3
/-! operations of a quiet region that are guarded -/
section
variable {P : Program} {ops : Array Oper} {C : World → Prop} {Q : Act → Prop} {a : Act} {o : Oper} {rest : List Oper}
theorem qg_by (hw : Region.wanted o (yielded ops a.tmps) = true) (v : Value) (h : ∀ w, C w → (execOp a.eval o).run P w = .ok (.value v) w) (hk : wpQuiet P ops C Q rest (a.put o.dst v)) : wpQuiet P ops C Q (o :: rest) a :=
  wpQuiet_step fun K hK => by
    rw [if_pos hw]
    exact ⟨v, fun w hw => by unfold Oper.quietAt; rw [h w hw]; exact ⟨rfl, rfl⟩, hK _ hk⟩
theorem qg_call (hw : Region.wanted o (yielded ops a.tmps) = true) (f : FuncId) (args : Array Value) (v : Value) (h : ∀ w, C w → (execOp a.eval o).run P w = .ok (.enter f args) w) (hc : ∀ w, C w → Calls P f args w fun e w' => e = .returned v ∧ C w')
    (hk : wpQuiet P ops C Q rest (a.put o.dst v)) : wpQuiet P ops C Q (o :: rest) a :=
  wpQuiet_step fun K hK => by
    rw [if_pos hw]
    exact ⟨v, fun w hw => by unfold Oper.quietAt; rw [h w hw]; exact ⟨rfl, hc w hw⟩, hK _ hk⟩
end

set_option maxHeartbeats 64000000 in
set_option maxRecDepth 100000 in
theorem may_any (vm vn : Value) (m n : Mf) (x : Nt) (w : World) (hA : MfAt w vm m) (hA2 : MfAt w vn n) (hW : MfWf vm) (hf : mfFits m) (hf2 : mfFits n) (hfx : ntFits x) : Calls Try.prog 3 #[vm, vn, ntV x] w fun e w' => e = .returned (.bool true) ∧ Below w.heap.size w w' := by
  have HAm := Lib.hid (fun W (hq : Below w.heap.size w W) => (hA.below hq : MfAt W vm m))
  have HAn := Lib.hid (fun W (hq : Below w.heap.size w W) => (hA2.below hq : MfAt W vn n))
  have HW := Lib.hid hW
  have HF := Lib.hid hf
  have HF2 := Lib.hid hf2
  have HFx := Lib.hid hfx
  have HLg : Hid (∀ W, Below w.heap.size w W → MfsAt (W.alloc (.cells (([(m, vm), (n, vn)] : List (Mf × Value)).flatMap fun t => match t.2 with | .agg cs => cs.toList | _ => []).toArray 26)) (.slice (some ⟨W.heap.size, 0, none⟩) 2 2) [m, n]) := Lib.hid fun W hq => by
    obtain ⟨vx, vp, rfl, h1, h2⟩ := hA.below hq
    obtain ⟨vx2, vp2, rfl, h3, h4⟩ := hA2.below hq
    exact lit_mfs W [(m, vx, vp), (n, vx2, vp2)] (fun t ht => by
      simp only [List.mem_cons, List.not_mem_nil, or_false] at ht
      rcases ht with rfl | rfl
      · exact ⟨h1, h2⟩
      · exact ⟨h3, h4⟩) (show 2 ≤ maxLen by simp [maxLen])
  have HFs : Hid (mfsFit [m, n]) := Lib.hid ⟨by simp, fun j hj => by
    have : j = 0 ∨ j = 1 := by simp at hj; omega
    rcases this with rfl | rfl
    · exact hf
    · exact hf2⟩
  obtain ⟨P, ax, nx, cx, ap, np, cp, C, hv⟩ := hA.open
  obtain ⟨P2, ax2, nx2, cx2, ap2, np2, cp2, C2, hv2⟩ := hA2.open
  subst hv hv2
  simp only [List.flatMap_cons, List.flatMap_nil, List.append_nil] at HLg
  obtain ⟨x0, x1, x2⟩ := x
  unfold ntV
  simp only
  have HB0 := Lib.hid (below_box (below_new2 w (.cells #[.int .u32 P, .slice ax nx cx, .slice ap np cp, .bool C] 26) (.cells #[.int .u32 P2, .slice ax2 nx2 cx2, .slice ap2 np2 cp2, .bool C2] 26)) (.cells #[.int .u8 x0, .int .u32 x1, .int .u32 x2] 28))
  have HM0 : Hid (Blk (((w.alloc (.cells #[.int .u32 P, .slice ax nx cx, .slice ap np cp, .bool C] 26)).alloc (.cells #[.int .u32 P2, .slice ax2 nx2 cx2, .slice ap2 np2 cp2, .bool C2] 26)).alloc (.cells #[.int .u8 x0, .int .u32 x1, .int .u32 x2] 28)) w.heap.size 26 [.int .u32 P, .slice ax nx cx, .slice ap np cp, .bool C]) := Lib.hid (((Blk.new w 26 _).alloc _).alloc _)
  have HN0 : Hid (Blk (((w.alloc (.cells #[.int .u32 P, .slice ax nx cx, .slice ap np cp, .bool C] 26)).alloc (.cells #[.int .u32 P2, .slice ax2 nx2 cx2, .slice ap2 np2 cp2, .bool C2] 26)).alloc (.cells #[.int .u8 x0, .int .u32 x1, .int .u32 x2] 28)) (w.heap.size + 1) 26 [.int .u32 P2, .slice ax2 nx2 cx2, .slice ap2 np2 cp2, .bool C2]) := Lib.hid ((Blk.new2 w _ 26 _).alloc _)
  have HX0 : Hid (Blk (((w.alloc (.cells #[.int .u32 P, .slice ax nx cx, .slice ap np cp, .bool C] 26)).alloc (.cells #[.int .u32 P2, .slice ax2 nx2 cx2, .slice ap2 np2 cp2, .bool C2] 26)).alloc (.cells #[.int .u8 x0, .int .u32 x1, .int .u32 x2] 28)) (w.heap.size + 2) 28 [.int .u8 x0, .int .u32 x1, .int .u32 x2]) := Lib.hid (by
    have h := Blk.new ((w.alloc (.cells #[.int .u32 P, .slice ax nx cx, .slice ap np cp, .bool C] 26)).alloc (.cells #[.int .u32 P2, .slice ax2 nx2 cx2, .slice ap2 np2 cp2, .bool C2] 26)) 28 [.int .u8 x0, .int .u32 x1, .int .u32 x2]
    rwa [show ((w.alloc (.cells #[.int .u32 P, .slice ax nx cx, .slice ap np cp, .bool C] 26)).alloc (.cells #[.int .u32 P2, .slice ax2 nx2 cx2, .slice ap2 np2 cp2, .bool C2] 26)).heap.size = w.heap.size + 2 by simp] at h)
  clear hA hA2 hW hf hf2 hfx
  go_enter Try.func3, Try.ntmps3
  go_upto_region 1 with (fail)
  refine wp_named ?_; intro wa hwa
  rw [← hwa] at HB0 HM0 HN0 HX0
  clear hwa
  obtain ⟨m0, m1, m2, m3⟩ := HM0.out.four
  obtain ⟨n0, n1, n2, n3⟩ := HN0.out.four
  have HLc := Lib.hid (large_any _ _ _ (HLg.out wa HB0.out) HFs.out)
  have HBl : Hid (Below w.heap.size w (wa.alloc (.cells #[.int .u32 P, .slice ax nx cx, .slice ap np cp, .bool C, .int .u32 P2, .slice ax2 nx2 cx2, .slice ap2 np2 cp2, .bool C2] 26))) := Lib.hid (below_box HB0.out _)
  have HMl : Hid (Blk (wa.alloc (.cells #[.int .u32 P, .slice ax nx cx, .slice ap np cp, .bool C, .int .u32 P2, .slice ax2 nx2 cx2, .slice ap2 np2 cp2, .bool C2] 26)) w.heap.size 26 [.int .u32 P, .slice ax nx cx, .slice ap np cp, .bool C]) := Lib.hid (HM0.out.alloc _)
  have HNl : Hid (Blk (wa.alloc (.cells #[.int .u32 P, .slice ax nx cx, .slice ap np cp, .bool C, .int .u32 P2, .slice ax2 nx2 cx2, .slice ap2 np2 cp2, .bool C2] 26)) (w.heap.size + 1) 26 [.int .u32 P2, .slice ax2 nx2 cx2, .slice ap2 np2 cp2, .bool C2]) := Lib.hid (HN0.out.alloc _)
  have HXl : Hid (Blk (wa.alloc (.cells #[.int .u32 P, .slice ax nx cx, .slice ap np cp, .bool C, .int .u32 P2, .slice ax2 nx2 cx2, .slice ap2 np2 cp2, .bool C2] 26)) (w.heap.size + 2) 28 [.int .u8 x0, .int .u32 x1, .int .u32 x2]) := Lib.hid (HX0.out.alloc _)
  go_wp2_with fail
  refine HLc.out.mono ?_; rintro e wb ⟨b, rfl, _, q1⟩
  have HBb := Lib.hid (below_call HBl.out q1)
  have HMb := Lib.hid (HMl.out.call q1)
  have HNb := Lib.hid (HNl.out.call q1)
  have HXb := Lib.hid (HXl.out.call q1)
  clear q1 m0 m1 m2 m3 n0 n1 n2 n3 HB0 HM0 HN0 HX0 HBl HMl HNl HXl HLc HLg HFs
  cases b with
  | true =>
    go_wp2_with fail
    refine (dalive_any _).mono ?_; rintro e wc ⟨rfl, q2⟩
    have HBc := Lib.hid (below_call HBb.out q2)
    clear q2
    go_wp2_with fail
    go_ret
    exact ⟨rfl, HBc.out⟩
  | false =>
    obtain ⟨m0, m1, m2, m3⟩ := HMb.out.four
    go_wp2_with fail
    refine (rcopy_any _ m HF.out _ (HAm.out _ HBb.out)).mono ?_; rintro e wc ⟨v3, rfl, hO, q2⟩
    have HBc := Lib.hid (below_call HBb.out q2)
    have HMc := Lib.hid (HMb.out.call q2)
    have HNc := Lib.hid (HNb.out.call q2)
    have HXc := Lib.hid (HXb.out.call q2)
    obtain ⟨P3, ax3, nx3, cx3, ap3, np3, cp3, C3, hv3⟩ := hO.open
    subst hv3
    have HOc := Lib.hid hO.at
    clear q2 m0 m1 m2 m3 HBb HMb HNb HXb hO
    go_upto_region 4 with (fail)
    refine wp_named ?_; intro wd hwd
    obtain ⟨g, hg⟩ : ∃ g, g = wc.heap.size := ⟨_, rfl⟩
    have HBd : Hid (Below w.heap.size w wd) := Lib.hid (by rw [hwd]; exact below_box HBc.out _)
    have HMd : Hid (Blk wd w.heap.size 26 [.int .u32 P, .slice ax nx cx, .slice ap np cp, .bool C]) := Lib.hid (by rw [hwd]; exact HMc.out.alloc _)
    have HNd : Hid (Blk wd (w.heap.size + 1) 26 [.int .u32 P2, .slice ax2 nx2 cx2, .slice ap2 np2 cp2, .bool C2]) := Lib.hid (by rw [hwd]; exact HNc.out.alloc _)
    have HXd : Hid (Blk wd (w.heap.size + 2) 28 [.int .u8 x0, .int .u32 x1, .int .u32 x2]) := Lib.hid (by rw [hwd]; exact HXc.out.alloc _)
    have HGd : Hid (Blk wd g 26 [.int .u32 P3, .slice ax3 nx3 cx3, .slice ap3 np3 cp3, .bool C3]) := Lib.hid (by rw [hwd, hg]; exact Blk.new wc 26 _)
    have HOd : Hid (MfAt wd (.agg #[.int .u32 P3, .slice ax3 nx3 cx3, .slice ap3 np3 cp3, .bool C3]) m) := Lib.hid (by rw [hwd]; exact HOc.out.below (below_new1 wc _))
    rw [← hg]
    clear hwd hg HBc HMc HNc HXc HOc
    obtain ⟨g0, g1, g2, g3⟩ := HGd.out.four
    go_wp2_with fail
    refine (check_any _ m HF.out _ HOd.out).mono ?_; rintro e wr ⟨rfl, q3⟩
    have HB := Lib.hid (below_call HBd.out q3)
    have HM := Lib.hid (HMd.out.call q3)
    have HN := Lib.hid (HNd.out.call q3)
    have HX := Lib.hid (HXd.out.call q3)
    have HG := Lib.hid (HGd.out.call q3)
    have HO := Lib.hid (HOd.out.below q3)
    clear q3 g0 g1 g2 g3 HBd HMd HNd HXd HGd HOd
    have HCb : Hid (∀ W, Below wr.heap.size wr W → ((W.cell? ⟨w.heap.size, 0, none⟩ = some (.int .u32 P) ∧ W.cell? ⟨w.heap.size, 1, none⟩ = some (.slice ax nx cx) ∧ W.cell? ⟨w.heap.size, 2, none⟩ = some (.slice ap np cp) ∧ W.cell? ⟨w.heap.size, 3, none⟩ = some (.bool C)) ∧
        (W.cell? ⟨w.heap.size + 1, 0, none⟩ = some (.int .u32 P2) ∧ W.cell? ⟨w.heap.size + 1, 1, none⟩ = some (.slice ax2 nx2 cx2) ∧ W.cell? ⟨w.heap.size + 1, 2, none⟩ = some (.slice ap2 np2 cp2) ∧ W.cell? ⟨w.heap.size + 1, 3, none⟩ = some (.bool C2)) ∧
        (W.cell? ⟨w.heap.size + 2, 0, none⟩ = some (.int .u8 x0) ∧ W.cell? ⟨w.heap.size + 2, 1, none⟩ = some (.int .u32 x1) ∧ W.cell? ⟨w.heap.size + 2, 2, none⟩ = some (.int .u32 x2)) ∧
        (W.cell? ⟨g, 0, none⟩ = some (.int .u32 P3) ∧ W.cell? ⟨g, 1, none⟩ = some (.slice ax3 nx3 cx3) ∧ W.cell? ⟨g, 2, none⟩ = some (.slice ap3 np3 cp3) ∧ W.cell? ⟨g, 3, none⟩ = some (.bool C3)))) := Lib.hid (fun W hW => ⟨(HM.out.call hW).four, (HN.out.call hW).four, (HX.out.call hW).three, (HG.out.call hW).four⟩)
    obtain ⟨b1, hb1⟩ : ∃ b, b = mfOk m := ⟨_, rfl⟩
    obtain ⟨qn, hqn⟩ : ∃ b, b = noteR m ⟨x0, x1, x2⟩ := ⟨_, rfl⟩
    obtain ⟨qc, hqc⟩ : ∃ b, b = coversR m n := ⟨_, rfl⟩
    obtain ⟨qs, hqs⟩ : ∃ b, b = decide (m = n) := ⟨_, rfl⟩
    have H11 : Hid (∀ W, Below wr.heap.size wr W → Calls Try.prog 11 #[.agg #[.int .u32 P, .slice ax nx cx, .slice ap np cp, .bool C]] W fun e w' => e = .returned (.bool b1) ∧ Below wr.heap.size wr w') := Lib.hid (fun W hW => (rmay_any _ m HF.out W (HAm.out W (below_call HB.out hW))).mono fun e w' ⟨h1, h2⟩ => ⟨by rw [h1, hb1], below_call hW h2⟩)
    have H12 : Hid (∀ W, Below wr.heap.size wr W → Calls Try.prog 12 #[.agg #[.int .u32 P3, .slice ax3 nx3 cx3, .slice ap3 np3 cp3, .bool C3], .agg #[.int .u8 x0, .int .u32 x1, .int .u32 x2]] W fun e w' => e = .returned (.bool qn) ∧ Below wr.heap.size wr w') := Lib.hid (fun W hW => (dnote_any _ m ⟨x0, x1, x2⟩ W (HO.out.below hW) HF.out HFx.out).mono fun e w' ⟨h1, h2⟩ => ⟨by rw [h1, hqn], below_call hW h2⟩)
    have H13 : Hid (∀ W, Below wr.heap.size wr W → Calls Try.prog 13 #[.agg #[.int .u32 P, .slice ax nx cx, .slice ap np cp, .bool C], .agg #[.int .u8 x0, .int .u32 x1, .int .u32 x2]] W fun e w' => e = .returned (.bool qn) ∧ Below wr.heap.size wr w') := Lib.hid (fun W hW => (rmnote_any _ m ⟨x0, x1, x2⟩ W (HAm.out W (below_call HB.out hW)) HW.out HF.out HFx.out).mono fun e w' ⟨h1, h2⟩ => ⟨by rw [h1, hqn], below_call hW h2⟩)
    have H14 : Hid (∀ W, Below wr.heap.size wr W → Calls Try.prog 14 #[.agg #[.int .u32 P3, .slice ax3 nx3 cx3, .slice ap3 np3 cp3, .bool C3], .agg #[.int .u32 P2, .slice ax2 nx2 cx2, .slice ap2 np2 cp2, .bool C2]] W fun e w' => e = .returned (.bool qc) ∧ Below wr.heap.size wr w') := Lib.hid (fun W hW => (dcovers_any _ _ m n W (HO.out.below hW) (HAn.out W (below_call HB.out hW)) HF.out HF2.out).mono fun e w' ⟨h1, h2⟩ => ⟨by rw [h1, hqc], below_call hW h2⟩)
    have H15 : Hid (∀ W, Below wr.heap.size wr W → Calls Try.prog 15 #[.agg #[.int .u32 P, .slice ax nx cx, .slice ap np cp, .bool C], .agg #[.int .u32 P2, .slice ax2 nx2 cx2, .slice ap2 np2 cp2, .bool C2]] W fun e w' => e = .returned (.bool qc) ∧ Below wr.heap.size wr w') := Lib.hid (fun W hW => (rcovers_any _ _ m n W (HAm.out W (below_call HB.out hW)) (HAn.out W (below_call HB.out hW)) HW.out HF.out HF2.out).mono fun e w' ⟨h1, h2⟩ => ⟨by rw [h1, hqc], below_call hW h2⟩)
    have H16 : Hid (∀ W, Below wr.heap.size wr W → Calls Try.prog 16 #[.agg #[.int .u32 P3, .slice ax3 nx3 cx3, .slice ap3 np3 cp3, .bool C3], .agg #[.int .u32 P2, .slice ax2 nx2 cx2, .slice ap2 np2 cp2, .bool C2]] W fun e w' => e = .returned (.bool qs) ∧ Below wr.heap.size wr w') := Lib.hid (fun W hW => (same_any _ _ m n W (HO.out.below hW) (HAn.out W (below_call HB.out hW)) HF.out HF2.out).mono fun e w' ⟨h1, h2⟩ => ⟨by rw [h1, hqs], below_call hW h2⟩)
    have H17 : Hid (∀ W, Below wr.heap.size wr W → Calls Try.prog 17 #[.agg #[.int .u32 P, .slice ax nx cx, .slice ap np cp, .bool C], .agg #[.int .u32 P2, .slice ax2 nx2 cx2, .slice ap2 np2 cp2, .bool C2]] W fun e w' => e = .returned (.bool qs) ∧ Below wr.heap.size wr w') := Lib.hid (fun W hW => (rsame_any _ _ m n W (HAm.out W (below_call HB.out hW)) (HAn.out W (below_call HB.out hW)) HF.out HF2.out).mono fun e w' ⟨h1, h2⟩ => ⟨by rw [h1, hqs], below_call hW h2⟩)
    have H16b : Hid (∀ W, Below wr.heap.size wr W → Calls Try.prog 16 #[.agg #[.int .u32 P3, .slice ax3 nx3 cx3, .slice ap3 np3 cp3, .bool C3], .agg #[.int .u32 P, .slice ax nx cx, .slice ap np cp, .bool C]] W fun e w' => e = .returned (.bool true) ∧ Below wr.heap.size wr w') := Lib.hid (fun W hW => (same_any _ _ m m W (HO.out.below hW) (HAm.out W (below_call HB.out hW)) HF.out HF.out).mono fun e w' ⟨h1, h2⟩ => ⟨by rw [h1]; simp, below_call hW h2⟩)
    rw [← hb1]
    clear hb1 hqn hqc hqs
    cases b1 with
    | true =>
      rw [okI_t]
      go_upto_region 5 with (fail)
      refine qy_region (C := fun W => Below wr.heap.size wr W) (by kernel_rfl) (by kernel_rfl) (Below.refl _ _).drew ?_
      refine qy_by rfl (.int .i64 0) (fun W _ => by simp [go_sem]) ?_
      simp only [Act.put, List.setIfInBounds_toArray, List.set_cons_zero, List.set_cons_succ]
      refine qy_by rfl (.bool true) (fun W _ => by simp [go_sem]) ?_
      simp only [Act.put, List.setIfInBounds_toArray, List.set_cons_zero, List.set_cons_succ]
      refine qy_by rfl (.agg #[.int .u32 P, .slice ax nx cx, .slice ap np cp, .bool C]) (fun W hW => by simp [go_sem, (HCb.out W hW).1.1, (HCb.out W hW).1.2.1, (HCb.out W hW).1.2.2.1, (HCb.out W hW).1.2.2.2]) ?_
      simp only [Act.put, List.setIfInBounds_toArray, List.set_cons_zero, List.set_cons_succ]
      refine qy_call rfl 11 #[.agg #[.int .u32 P, .slice ax nx cx, .slice ap np cp, .bool C]] (.bool true) (fun W _ => by simp [go_sem]) (fun W hW => H11.out W hW) ?_
      simp only [Act.put, List.setIfInBounds_toArray, List.set_cons_zero, List.set_cons_succ]
      refine qy_by rfl (.bool false) (fun W _ => by simp [go_sem]) ?_
      simp only [Act.put, List.setIfInBounds_toArray, List.set_cons_zero, List.set_cons_succ]
      refine qy_by rfl (.bool false) (fun W _ => by simp [go_sem]) ?_
      simp only [Act.put, List.setIfInBounds_toArray, List.set_cons_zero, List.set_cons_succ]
      refine qg_by (by rfl) (.int .i64 0) (fun W _ => by simp [go_sem]) ?_
      simp only [Act.put, List.setIfInBounds_toArray, List.set_cons_zero, List.set_cons_succ]
      refine qg_by (by rfl) (.bool false) (fun W _ => by simp [go_sem]) ?_
      simp only [Act.put, List.setIfInBounds_toArray, List.set_cons_zero, List.set_cons_succ]
      refine qg_by (by rfl) (.bool false) (fun W _ => by simp [go_sem]) ?_
      simp only [Act.put, List.setIfInBounds_toArray, List.set_cons_zero, List.set_cons_succ]
      refine BigFrame.wpQuiet_skip (by rfl) ?_
      simp only [Act.put, List.setIfInBounds_toArray, List.set_cons_zero, List.set_cons_succ]
      refine BigFrame.wpQuiet_skip (by rfl) ?_
      simp only [Act.put, List.setIfInBounds_toArray, List.set_cons_zero, List.set_cons_succ]
      refine qg_by (by rfl) (.bool false) (fun W _ => by simp [go_sem]) ?_
      simp only [Act.put, List.setIfInBounds_toArray, List.set_cons_zero, List.set_cons_succ]
      refine qy_by rfl (.bool false) (fun W _ => by simp [go_sem]) ?_
      simp only [Act.put, List.setIfInBounds_toArray, List.set_cons_zero, List.set_cons_succ]
      refine qy_by rfl (.bool false) (fun W _ => by simp [go_sem]) ?_
      simp only [Act.put, List.setIfInBounds_toArray, List.set_cons_zero, List.set_cons_succ]
      refine qg_by (by rfl) (.agg #[.int .u32 P3, .slice ax3 nx3 cx3, .slice ap3 np3 cp3, .bool C3]) (fun W hW => by simp [go_sem, (HCb.out W hW).2.2.2.1, (HCb.out W hW).2.2.2.2.1, (HCb.out W hW).2.2.2.2.2.1, (HCb.out W hW).2.2.2.2.2.2]) ?_
      simp only [Act.put, List.setIfInBounds_toArray, List.set_cons_zero, List.set_cons_succ]
      refine qg_by (by rfl) (.agg #[.int .u8 x0, .int .u32 x1, .int .u32 x2]) (fun W hW => by simp [go_sem, (HCb.out W hW).2.2.1.1, (HCb.out W hW).2.2.1.2.1, (HCb.out W hW).2.2.1.2.2]) ?_
      simp only [Act.put, List.setIfInBounds_toArray, List.set_cons_zero, List.set_cons_succ]
      refine qg_call (by rfl) 12 #[.agg #[.int .u32 P3, .slice ax3 nx3 cx3, .slice ap3 np3 cp3, .bool C3], .agg #[.int .u8 x0, .int .u32 x1, .int .u32 x2]] (.bool qn) (fun W _ => by simp [go_sem]) (fun W hW => H12.out W hW) ?_
      simp only [Act.put, List.setIfInBounds_toArray, List.set_cons_zero, List.set_cons_succ]
      refine qg_by (by rfl) (.agg #[.int .u32 P, .slice ax nx cx, .slice ap np cp, .bool C]) (fun W hW => by simp [go_sem, (HCb.out W hW).1.1, (HCb.out W hW).1.2.1, (HCb.out W hW).1.2.2.1, (HCb.out W hW).1.2.2.2]) ?_
      simp only [Act.put, List.setIfInBounds_toArray, List.set_cons_zero, List.set_cons_succ]
      refine qg_by (by rfl) (.agg #[.int .u8 x0, .int .u32 x1, .int .u32 x2]) (fun W hW => by simp [go_sem, (HCb.out W hW).2.2.1.1, (HCb.out W hW).2.2.1.2.1, (HCb.out W hW).2.2.1.2.2]) ?_
      simp only [Act.put, List.setIfInBounds_toArray, List.set_cons_zero, List.set_cons_succ]
      refine qg_call (by rfl) 13 #[.agg #[.int .u32 P, .slice ax nx cx, .slice ap np cp, .bool C], .agg #[.int .u8 x0, .int .u32 x1, .int .u32 x2]] (.bool qn) (fun W _ => by simp [go_sem]) (fun W hW => H13.out W hW) ?_
      simp only [Act.put, List.setIfInBounds_toArray, List.set_cons_zero, List.set_cons_succ]
      refine qg_by (by rfl) (.bool false) (fun W _ => by simp [go_sem]) ?_
      simp only [Act.put, List.setIfInBounds_toArray, List.set_cons_zero, List.set_cons_succ]
      refine qy_by rfl (.bool false) (fun W _ => by simp [go_sem]) ?_
      simp only [Act.put, List.setIfInBounds_toArray, List.set_cons_zero, List.set_cons_succ]
      refine qy_by rfl (.bool false) (fun W _ => by simp [go_sem]) ?_
      simp only [Act.put, List.setIfInBounds_toArray, List.set_cons_zero, List.set_cons_succ]
      refine qg_by (by rfl) (.agg #[.int .u32 P3, .slice ax3 nx3 cx3, .slice ap3 np3 cp3, .bool C3]) (fun W hW => by simp [go_sem, (HCb.out W hW).2.2.2.1, (HCb.out W hW).2.2.2.2.1, (HCb.out W hW).2.2.2.2.2.1, (HCb.out W hW).2.2.2.2.2.2]) ?_
      simp only [Act.put, List.setIfInBounds_toArray, List.set_cons_zero, List.set_cons_succ]
      refine qg_by (by rfl) (.agg #[.int .u32 P2, .slice ax2 nx2 cx2, .slice ap2 np2 cp2, .bool C2]) (fun W hW => by simp [go_sem, (HCb.out W hW).2.1.1, (HCb.out W hW).2.1.2.1, (HCb.out W hW).2.1.2.2.1, (HCb.out W hW).2.1.2.2.2]) ?_
      simp only [Act.put, List.setIfInBounds_toArray, List.set_cons_zero, List.set_cons_succ]
      refine qg_call (by rfl) 14 #[.agg #[.int .u32 P3, .slice ax3 nx3 cx3, .slice ap3 np3 cp3, .bool C3], .agg #[.int .u32 P2, .slice ax2 nx2 cx2, .slice ap2 np2 cp2, .bool C2]] (.bool qc) (fun W _ => by simp [go_sem]) (fun W hW => H14.out W hW) ?_
      simp only [Act.put, List.setIfInBounds_toArray, List.set_cons_zero, List.set_cons_succ]
      refine qg_by (by rfl) (.agg #[.int .u32 P, .slice ax nx cx, .slice ap np cp, .bool C]) (fun W hW => by simp [go_sem, (HCb.out W hW).1.1, (HCb.out W hW).1.2.1, (HCb.out W hW).1.2.2.1, (HCb.out W hW).1.2.2.2]) ?_
      simp only [Act.put, List.setIfInBounds_toArray, List.set_cons_zero, List.set_cons_succ]
      refine qg_by (by rfl) (.agg #[.int .u32 P2, .slice ax2 nx2 cx2, .slice ap2 np2 cp2, .bool C2]) (fun W hW => by simp [go_sem, (HCb.out W hW).2.1.1, (HCb.out W hW).2.1.2.1, (HCb.out W hW).2.1.2.2.1, (HCb.out W hW).2.1.2.2.2]) ?_
      simp only [Act.put, List.setIfInBounds_toArray, List.set_cons_zero, List.set_cons_succ]
      refine qg_call (by rfl) 15 #[.agg #[.int .u32 P, .slice ax nx cx, .slice ap np cp, .bool C], .agg #[.int .u32 P2, .slice ax2 nx2 cx2, .slice ap2 np2 cp2, .bool C2]] (.bool qc) (fun W _ => by simp [go_sem]) (fun W hW => H15.out W hW) ?_
      simp only [Act.put, List.setIfInBounds_toArray, List.set_cons_zero, List.set_cons_succ]
      refine qg_by (by rfl) (.bool false) (fun W _ => by simp [go_sem]) ?_
      simp only [Act.put, List.setIfInBounds_toArray, List.set_cons_zero, List.set_cons_succ]
      refine qy_by rfl (.bool false) (fun W _ => by simp [go_sem]) ?_
      simp only [Act.put, List.setIfInBounds_toArray, List.set_cons_zero, List.set_cons_succ]
      refine qy_by rfl (.bool false) (fun W _ => by simp [go_sem]) ?_
      simp only [Act.put, List.setIfInBounds_toArray, List.set_cons_zero, List.set_cons_succ]
      refine qg_by (by rfl) (.agg #[.int .u32 P3, .slice ax3 nx3 cx3, .slice ap3 np3 cp3, .bool C3]) (fun W hW => by simp [go_sem, (HCb.out W hW).2.2.2.1, (HCb.out W hW).2.2.2.2.1, (HCb.out W hW).2.2.2.2.2.1, (HCb.out W hW).2.2.2.2.2.2]) ?_
      simp only [Act.put, List.setIfInBounds_toArray, List.set_cons_zero, List.set_cons_succ]
      refine qg_by (by rfl) (.agg #[.int .u32 P2, .slice ax2 nx2 cx2, .slice ap2 np2 cp2, .bool C2]) (fun W hW => by simp [go_sem, (HCb.out W hW).2.1.1, (HCb.out W hW).2.1.2.1, (HCb.out W hW).2.1.2.2.1, (HCb.out W hW).2.1.2.2.2]) ?_
      simp only [Act.put, List.setIfInBounds_toArray, List.set_cons_zero, List.set_cons_succ]
      refine qg_call (by rfl) 16 #[.agg #[.int .u32 P3, .slice ax3 nx3 cx3, .slice ap3 np3 cp3, .bool C3], .agg #[.int .u32 P2, .slice ax2 nx2 cx2, .slice ap2 np2 cp2, .bool C2]] (.bool qs) (fun W _ => by simp [go_sem]) (fun W hW => H16.out W hW) ?_
      simp only [Act.put, List.setIfInBounds_toArray, List.set_cons_zero, List.set_cons_succ]
      refine qg_by (by rfl) (.agg #[.int .u32 P, .slice ax nx cx, .slice ap np cp, .bool C]) (fun W hW => by simp [go_sem, (HCb.out W hW).1.1, (HCb.out W hW).1.2.1, (HCb.out W hW).1.2.2.1, (HCb.out W hW).1.2.2.2]) ?_
      simp only [Act.put, List.setIfInBounds_toArray, List.set_cons_zero, List.set_cons_succ]
      refine qg_by (by rfl) (.agg #[.int .u32 P2, .slice ax2 nx2 cx2, .slice ap2 np2 cp2, .bool C2]) (fun W hW => by simp [go_sem, (HCb.out W hW).2.1.1, (HCb.out W hW).2.1.2.1, (HCb.out W hW).2.1.2.2.1, (HCb.out W hW).2.1.2.2.2]) ?_
      simp only [Act.put, List.setIfInBounds_toArray, List.set_cons_zero, List.set_cons_succ]
      refine qg_call (by rfl) 17 #[.agg #[.int .u32 P, .slice ax nx cx, .slice ap np cp, .bool C], .agg #[.int .u32 P2, .slice ax2 nx2 cx2, .slice ap2 np2 cp2, .bool C2]] (.bool qs) (fun W _ => by simp [go_sem]) (fun W hW => H17.out W hW) ?_
      simp only [Act.put, List.setIfInBounds_toArray, List.set_cons_zero, List.set_cons_succ]
      refine qg_by (by rfl) (.bool false) (fun W _ => by simp [go_sem]) ?_
      simp only [Act.put, List.setIfInBounds_toArray, List.set_cons_zero, List.set_cons_succ]
      refine qy_by rfl (.bool false) (fun W _ => by simp [go_sem]) ?_
      simp only [Act.put, List.setIfInBounds_toArray, List.set_cons_zero, List.set_cons_succ]
      refine qy_by rfl (.bool false) (fun W _ => by simp [go_sem]) ?_
      simp only [Act.put, List.setIfInBounds_toArray, List.set_cons_zero, List.set_cons_succ]
      refine qg_by (by rfl) (.agg #[.int .u32 P3, .slice ax3 nx3 cx3, .slice ap3 np3 cp3, .bool C3]) (fun W hW => by simp [go_sem, (HCb.out W hW).2.2.2.1, (HCb.out W hW).2.2.2.2.1, (HCb.out W hW).2.2.2.2.2.1, (HCb.out W hW).2.2.2.2.2.2]) ?_
      simp only [Act.put, List.setIfInBounds_toArray, List.set_cons_zero, List.set_cons_succ]
      refine qg_by (by rfl) (.agg #[.int .u32 P, .slice ax nx cx, .slice ap np cp, .bool C]) (fun W hW => by simp [go_sem, (HCb.out W hW).1.1, (HCb.out W hW).1.2.1, (HCb.out W hW).1.2.2.1, (HCb.out W hW).1.2.2.2]) ?_
      simp only [Act.put, List.setIfInBounds_toArray, List.set_cons_zero, List.set_cons_succ]
      refine qg_call (by rfl) 16 #[.agg #[.int .u32 P3, .slice ax3 nx3 cx3, .slice ap3 np3 cp3, .bool C3], .agg #[.int .u32 P, .slice ax nx cx, .slice ap np cp, .bool C]] (.bool true) (fun W _ => by simp [go_sem]) (fun W hW => H16b.out W hW) ?_
      simp only [Act.put, List.setIfInBounds_toArray, List.set_cons_zero, List.set_cons_succ]
      refine qg_by (by rfl) (.bool false) (fun W _ => by simp [go_sem]) ?_
      simp only [Act.put, List.setIfInBounds_toArray, List.set_cons_zero, List.set_cons_succ]
      refine qy_by rfl (.bool false) (fun W _ => by simp [go_sem]) ?_
      simp only [Act.put, List.setIfInBounds_toArray, List.set_cons_zero, List.set_cons_succ]
      refine wpQuiet_nil ?_
      intro w4 q4
      clear H11 H12 H13 H14 H15 H16 H17 H16b
      have HB4 := Lib.hid (below_call HB.out q4)
      have HM4 := Lib.hid (HM.out.call q4)
      have HG4 := Lib.hid (HG.out.call q4)
      have HO4 := Lib.hid (HO.out.below q4)
      clear q4 HCb HB HM HN HX HG HO
      obtain ⟨N, hN⟩ : ∃ N, N = (notesR m).length := ⟨_, rfl⟩
      have HN := Lib.hid hN
      have HD : Hid (∀ W, Below w4.heap.size w4 W → Calls Try.prog 18 #[.agg #[.int .u32 P3, .slice ax3 nx3 cx3, .slice ap3 np3 cp3, .bool C3]] W fun e w' => ∃ a c, e = .returned (.slice a N c) ∧ NotesAt w' (.slice a N c) (notesR m) ∧ Below w4.heap.size w4 w' ∧ Below W.heap.size W w') := Lib.hid (fun W hW => (dnotes_any _ m W (HO4.out.below hW) HF.out).mono fun e w' ⟨v', h1, h2, h3⟩ => by
        have h4 := h2.at
        obtain ⟨a, c, rfl, _⟩ := h2.at
        rw [← hN] at h1 h4
        exact ⟨a, c, h1, h4, below_call hW h3, h3⟩)
      have HE : Hid (∀ W, Below w4.heap.size w4 W → Calls Try.prog 19 #[.agg #[.int .u32 P, .slice ax nx cx, .slice ap np cp, .bool C]] W fun e w' => ∃ a c, e = .returned (.slice a N c) ∧ NotesAt w' (.slice a N c) (notesR m) ∧ Below w4.heap.size w4 w' ∧ Below W.heap.size W w') := Lib.hid (fun W hW => (rnotes_any _ m W (HAm.out _ (below_call HB4.out hW)) HF.out).mono fun e w' ⟨v', h1, h2, h3⟩ => by
        have h4 := h2.at
        obtain ⟨a, c, rfl, _⟩ := h2.at
        rw [← hN] at h1 h4
        exact ⟨a, c, h1, h4, below_call hW h3, h3⟩)
      have HLe : Hid ((N : Int) ≤ 2 + 17592186044416 + 70368744177664) := Lib.hid (by
        have h1 := notes_len m
        have h2 := HF.out.2.1
        have h3 := HF.out.2.2.1
        have h4 : (notesR m).length ≤ (notesOf m).length := by unfold notesR; split <;> simp
        omega)
      have hNi := HLe.out
      have HK4 : Hid (∀ W, Below w4.heap.size w4 W → (W.cell? ⟨w.heap.size, 0, none⟩ = some (.int .u32 P) ∧ W.cell? ⟨w.heap.size, 1, none⟩ = some (.slice ax nx cx) ∧ W.cell? ⟨w.heap.size, 2, none⟩ = some (.slice ap np cp) ∧ W.cell? ⟨w.heap.size, 3, none⟩ = some (.bool C)) ∧
        (W.cell? ⟨g, 0, none⟩ = some (.int .u32 P3) ∧ W.cell? ⟨g, 1, none⟩ = some (.slice ax3 nx3 cx3) ∧ W.cell? ⟨g, 2, none⟩ = some (.slice ap3 np3 cp3) ∧ W.cell? ⟨g, 3, none⟩ = some (.bool C3))) := Lib.hid (fun W hW => ⟨(HM4.out.call hW).four, (HG4.out.call hW).four⟩)
      have K0 := HK4.out _ (Below.refl _ _).drew
      clear hN
      go_upto_region 7 with (fail)
      go_cut [9, 10] (fun s9 s10 wx => ∃ a c a' c', s9 = .slice a N c ∧ s10 = .slice a' N c' ∧ Hid (NotesAt wx (.slice a N c) (notesR m)) ∧ Hid (NotesAt wx (.slice a' N c') (notesR m)) ∧ Hid (Below w4.heap.size w4 wx))
      case first =>
        go_region_held3 (fun w' => (w'.cell? ⟨w.heap.size, 0, none⟩ = some (.int .u32 P) ∧ w'.cell? ⟨w.heap.size, 1, none⟩ = some (.slice ax nx cx) ∧ w'.cell? ⟨w.heap.size, 2, none⟩ = some (.slice ap np cp) ∧ w'.cell? ⟨w.heap.size, 3, none⟩ = some (.bool C)) ∧ (w'.cell? ⟨g, 0, none⟩ = some (.int .u32 P3) ∧ w'.cell? ⟨g, 1, none⟩ = some (.slice ax3 nx3 cx3) ∧ w'.cell? ⟨g, 2, none⟩ = some (.slice ap3 np3 cp3) ∧ w'.cell? ⟨g, 3, none⟩ = some (.bool C3)))
          (first | exact K0 | exact K1 | exact K2)
          ((first
            | (go_at_call 18; refine (HD.out _ Hb1.out).mono ?_; rintro e w6 ⟨a, c, rfl, hn, hq, hs⟩; have Hb2 := Lib.hid hq; have Hn2 := Lib.hid hn; have Hn1' := Lib.hid (Hn1.out.below hs); have K2 := HK4.out _ hq; clear hn hq hs HD Hb1 Hn1 K0 K1)
            | (go_at_call 18; refine (HD.out _ (Below.refl _ _).drew).mono ?_; rintro e w5 ⟨a, c, rfl, hn, hq, hs⟩; have Hb1 := Lib.hid hq; have Hn1 := Lib.hid hn; have K1 := HK4.out _ hq; clear hn hq hs HD)
            | (go_at_call 19; refine (HE.out _ Hb1.out).mono ?_; rintro e w6 ⟨a, c, rfl, hn, hq, hs⟩; have Hb2 := Lib.hid hq; have Hn2 := Lib.hid hn; have Hn1' := Lib.hid (Hn1.out.below hs); have K2 := HK4.out _ hq; clear hn hq hs HE Hb1 Hn1 K0 K1)
            | (go_at_call 19; refine (HE.out _ (Below.refl _ _).drew).mono ?_; rintro e w5 ⟨a, c, rfl, hn, hq, hs⟩; have Hb1 := Lib.hid hq; have Hn1 := Lib.hid hn; have K1 := HK4.out _ hq; clear hn hq hs HE)))
        all_goals go_wp2_with fail
        all_goals go_meet
        all_goals exact ⟨_, _, _, _, rfl, rfl, by first | exact Hn1' | exact Hn2, by first | exact Hn2 | exact Hn1', Hb2⟩
      case rest =>
        obtain ⟨a1, c1, a2, c2, rfl, rfl, HN1, HN2, HB5⟩ := hcut
        clear HD HE K0
        go_wp2_with fail
        go_loopw [11] (fun i wr => ∃ k : Nat, (k : Int) ≤ N ∧ i = .int .i64 k ∧ Hid (NotesAt wr (.slice a1 N c1) (notesR m)) ∧ Hid (NotesAt wr (.slice a2 N c2) (notesR m)) ∧ Hid (Below w4.heap.size w4 wr)) (fun i _ => N - (intOf i).toNat)
        case atStart => exact ⟨0, by omega, rfl, HN1, HN2, HB5⟩
        case round =>
          clear HN1 HN2 HB5
          obtain ⟨k, hk, rfl, HN1, HN2, HB⟩ := hrel
          by_cases hlt : k < N
          · have hd : decide (k < N) = true := decide_eq_true hlt
            obtain ⟨b, o, rfl, _, hcl⟩ := notes_rows HN1.out HN.out (by omega)
            obtain ⟨b2, o2, rfl, _, hcl2⟩ := notes_rows HN2.out HN.out (by omega)
            obtain ⟨c0, c1, c2⟩ := (hcl k hlt).nt
            obtain ⟨e0, e1, e2⟩ := (hcl2 k hlt).nt
            obtain ⟨y0, h0⟩ : ∃ y, y = ((notesR m).getD k Nt.nought).kind := ⟨_, rfl⟩
            obtain ⟨y1, h1⟩ : ∃ y, y = ((notesR m).getD k Nt.nought).n := ⟨_, rfl⟩
            obtain ⟨y2, h2⟩ : ∃ y, y = ((notesR m).getD k Nt.nought).m := ⟨_, rfl⟩
            rw [← h0] at c0 e0
            rw [← h1] at c1 e1
            rw [← h2] at c2 e2
            clear hcl hcl2 h0 h1 h2
            go_upto_region 13 with (fail)
            go_quiet (fail)
            go_wp2_with fail
            clear c0 c1 c2 e0 e1 e2
            go_roundw
            case rel => exact ⟨k + 1, by omega, by go_num, Lib.hid (HN1.out.below (below_drewN _ _)), Lib.hid (HN2.out.below (below_drewN _ _)), Lib.hid (below_drew HB.out _)⟩
            case measure => simp [intOf]; omega
          · have hd : decide (k < N) = false := decide_eq_false hlt
            clear hlt
            obtain ⟨⟨m0, m1, m2, m3⟩, ⟨g0, g1, g2, g3⟩⟩ := HK4.out _ HB.out
            go_wp2_with fail
            refine (rsame_any _ _ m m _ (HO4.out.below HB.out) (HAm.out _ (below_call HB4.out HB.out)) HF.out HF.out).mono ?_; rintro e w7 ⟨h7, q7⟩
            rw [decide_eq_true rfl] at h7
            subst h7
            have HB7 := Lib.hid (below_call HB.out q7)
            clear q7 m0 m1 m2 m3 g0 g1 g2 g3
            go_wp2_with fail
            refine (dalive_any _).mono ?_; rintro e w8 ⟨rfl, q8⟩
            have HB8 := Lib.hid (below_call HB4.out (below_call HB7.out q8))
            clear q8
            go_wp2_with fail
            go_ret
            exact ⟨rfl, HB8.out⟩
    | false =>
      rw [okI_f]
      go_upto_region 5 with (fail)
      refine qy_region (C := fun W => Below wr.heap.size wr W) (by kernel_rfl) (by kernel_rfl) (Below.refl _ _).drew ?_
      refine qy_by rfl (.int .i64 2) (fun W _ => by simp [go_sem]) ?_
      simp only [Act.put, List.setIfInBounds_toArray, List.set_cons_zero, List.set_cons_succ]
      refine qy_by rfl (.bool false) (fun W _ => by simp [go_sem]) ?_
      simp only [Act.put, List.setIfInBounds_toArray, List.set_cons_zero, List.set_cons_succ]
      refine qy_by rfl (.agg #[.int .u32 P, .slice ax nx cx, .slice ap np cp, .bool C]) (fun W hW => by simp [go_sem, (HCb.out W hW).1.1, (HCb.out W hW).1.2.1, (HCb.out W hW).1.2.2.1, (HCb.out W hW).1.2.2.2]) ?_
      simp only [Act.put, List.setIfInBounds_toArray, List.set_cons_zero, List.set_cons_succ]
      refine qy_call rfl 11 #[.agg #[.int .u32 P, .slice ax nx cx, .slice ap np cp, .bool C]] (.bool false) (fun W _ => by simp [go_sem]) (fun W hW => H11.out W hW) ?_
      simp only [Act.put, List.setIfInBounds_toArray, List.set_cons_zero, List.set_cons_succ]
      refine qy_by rfl (.bool false) (fun W _ => by simp [go_sem]) ?_
      simp only [Act.put, List.setIfInBounds_toArray, List.set_cons_zero, List.set_cons_succ]
      refine qy_by rfl (.bool false) (fun W _ => by simp [go_sem]) ?_
      simp only [Act.put, List.setIfInBounds_toArray, List.set_cons_zero, List.set_cons_succ]
      refine qg_by (by rfl) (.int .i64 2) (fun W _ => by simp [go_sem]) ?_
      simp only [Act.put, List.setIfInBounds_toArray, List.set_cons_zero, List.set_cons_succ]
      refine qg_by (by rfl) (.bool true) (fun W _ => by simp [go_sem]) ?_
      simp only [Act.put, List.setIfInBounds_toArray, List.set_cons_zero, List.set_cons_succ]
      refine qg_by (by rfl) (.bool true) (fun W _ => by simp [go_sem]) ?_
      simp only [Act.put, List.setIfInBounds_toArray, List.set_cons_zero, List.set_cons_succ]
      refine qg_by (by rfl) (.int .i64 2) (fun W _ => by simp [go_sem]) ?_
      simp only [Act.put, List.setIfInBounds_toArray, List.set_cons_zero, List.set_cons_succ]
      refine qg_by (by rfl) (.bool false) (fun W _ => by simp [go_sem]) ?_
      simp only [Act.put, List.setIfInBounds_toArray, List.set_cons_zero, List.set_cons_succ]
      refine qg_by (by rfl) (.bool false) (fun W _ => by simp [go_sem]) ?_
      simp only [Act.put, List.setIfInBounds_toArray, List.set_cons_zero, List.set_cons_succ]
      refine qy_by rfl (.bool false) (fun W _ => by simp [go_sem]) ?_
      simp only [Act.put, List.setIfInBounds_toArray, List.set_cons_zero, List.set_cons_succ]
      refine qy_by rfl (.bool false) (fun W _ => by simp [go_sem]) ?_
      simp only [Act.put, List.setIfInBounds_toArray, List.set_cons_zero, List.set_cons_succ]
      refine qg_by (by rfl) (.agg #[.int .u32 P3, .slice ax3 nx3 cx3, .slice ap3 np3 cp3, .bool C3]) (fun W hW => by simp [go_sem, (HCb.out W hW).2.2.2.1, (HCb.out W hW).2.2.2.2.1, (HCb.out W hW).2.2.2.2.2.1, (HCb.out W hW).2.2.2.2.2.2]) ?_
      simp only [Act.put, List.setIfInBounds_toArray, List.set_cons_zero, List.set_cons_succ]
      refine qg_by (by rfl) (.agg #[.int .u8 x0, .int .u32 x1, .int .u32 x2]) (fun W hW => by simp [go_sem, (HCb.out W hW).2.2.1.1, (HCb.out W hW).2.2.1.2.1, (HCb.out W hW).2.2.1.2.2]) ?_
      simp only [Act.put, List.setIfInBounds_toArray, List.set_cons_zero, List.set_cons_succ]
      refine qg_call (by rfl) 12 #[.agg #[.int .u32 P3, .slice ax3 nx3 cx3, .slice ap3 np3 cp3, .bool C3], .agg #[.int .u8 x0, .int .u32 x1, .int .u32 x2]] (.bool qn) (fun W _ => by simp [go_sem]) (fun W hW => H12.out W hW) ?_
      simp only [Act.put, List.setIfInBounds_toArray, List.set_cons_zero, List.set_cons_succ]
      refine qg_by (by rfl) (.agg #[.int .u32 P, .slice ax nx cx, .slice ap np cp, .bool C]) (fun W hW => by simp [go_sem, (HCb.out W hW).1.1, (HCb.out W hW).1.2.1, (HCb.out W hW).1.2.2.1, (HCb.out W hW).1.2.2.2]) ?_
      simp only [Act.put, List.setIfInBounds_toArray, List.set_cons_zero, List.set_cons_succ]
      refine qg_by (by rfl) (.agg #[.int .u8 x0, .int .u32 x1, .int .u32 x2]) (fun W hW => by simp [go_sem, (HCb.out W hW).2.2.1.1, (HCb.out W hW).2.2.1.2.1, (HCb.out W hW).2.2.1.2.2]) ?_
      simp only [Act.put, List.setIfInBounds_toArray, List.set_cons_zero, List.set_cons_succ]
      refine qg_call (by rfl) 13 #[.agg #[.int .u32 P, .slice ax nx cx, .slice ap np cp, .bool C], .agg #[.int .u8 x0, .int .u32 x1, .int .u32 x2]] (.bool qn) (fun W _ => by simp [go_sem]) (fun W hW => H13.out W hW) ?_
      simp only [Act.put, List.setIfInBounds_toArray, List.set_cons_zero, List.set_cons_succ]
      refine qg_by (by rfl) (.bool false) (fun W _ => by simp [go_sem]) ?_
      simp only [Act.put, List.setIfInBounds_toArray, List.set_cons_zero, List.set_cons_succ]
      refine qy_by rfl (.bool false) (fun W _ => by simp [go_sem]) ?_
      simp only [Act.put, List.setIfInBounds_toArray, List.set_cons_zero, List.set_cons_succ]
      refine qy_by rfl (.bool false) (fun W _ => by simp [go_sem]) ?_
      simp only [Act.put, List.setIfInBounds_toArray, List.set_cons_zero, List.set_cons_succ]
      refine qg_by (by rfl) (.agg #[.int .u32 P3, .slice ax3 nx3 cx3, .slice ap3 np3 cp3, .bool C3]) (fun W hW => by simp [go_sem, (HCb.out W hW).2.2.2.1, (HCb.out W hW).2.2.2.2.1, (HCb.out W hW).2.2.2.2.2.1, (HCb.out W hW).2.2.2.2.2.2]) ?_
      simp only [Act.put, List.setIfInBounds_toArray, List.set_cons_zero, List.set_cons_succ]
      refine qg_by (by rfl) (.agg #[.int .u32 P2, .slice ax2 nx2 cx2, .slice ap2 np2 cp2, .bool C2]) (fun W hW => by simp [go_sem, (HCb.out W hW).2.1.1, (HCb.out W hW).2.1.2.1, (HCb.out W hW).2.1.2.2.1, (HCb.out W hW).2.1.2.2.2]) ?_
      simp only [Act.put, List.setIfInBounds_toArray, List.set_cons_zero, List.set_cons_succ]
      refine qg_call (by rfl) 14 #[.agg #[.int .u32 P3, .slice ax3 nx3 cx3, .slice ap3 np3 cp3, .bool C3], .agg #[.int .u32 P2, .slice ax2 nx2 cx2, .slice ap2 np2 cp2, .bool C2]] (.bool qc) (fun W _ => by simp [go_sem]) (fun W hW => H14.out W hW) ?_
      simp only [Act.put, List.setIfInBounds_toArray, List.set_cons_zero, List.set_cons_succ]
      refine qg_by (by rfl) (.agg #[.int .u32 P, .slice ax nx cx, .slice ap np cp, .bool C]) (fun W hW => by simp [go_sem, (HCb.out W hW).1.1, (HCb.out W hW).1.2.1, (HCb.out W hW).1.2.2.1, (HCb.out W hW).1.2.2.2]) ?_
      simp only [Act.put, List.setIfInBounds_toArray, List.set_cons_zero, List.set_cons_succ]
      refine qg_by (by rfl) (.agg #[.int .u32 P2, .slice ax2 nx2 cx2, .slice ap2 np2 cp2, .bool C2]) (fun W hW => by simp [go_sem, (HCb.out W hW).2.1.1, (HCb.out W hW).2.1.2.1, (HCb.out W hW).2.1.2.2.1, (HCb.out W hW).2.1.2.2.2]) ?_
      simp only [Act.put, List.setIfInBounds_toArray, List.set_cons_zero, List.set_cons_succ]
      refine qg_call (by rfl) 15 #[.agg #[.int .u32 P, .slice ax nx cx, .slice ap np cp, .bool C], .agg #[.int .u32 P2, .slice ax2 nx2 cx2, .slice ap2 np2 cp2, .bool C2]] (.bool qc) (fun W _ => by simp [go_sem]) (fun W hW => H15.out W hW) ?_
      simp only [Act.put, List.setIfInBounds_toArray, List.set_cons_zero, List.set_cons_succ]
      refine qg_by (by rfl) (.bool false) (fun W _ => by simp [go_sem]) ?_
      simp only [Act.put, List.setIfInBounds_toArray, List.set_cons_zero, List.set_cons_succ]
      refine qy_by rfl (.bool false) (fun W _ => by simp [go_sem]) ?_
      simp only [Act.put, List.setIfInBounds_toArray, List.set_cons_zero, List.set_cons_succ]
      refine qy_by rfl (.bool false) (fun W _ => by simp [go_sem]) ?_
      simp only [Act.put, List.setIfInBounds_toArray, List.set_cons_zero, List.set_cons_succ]
      refine qg_by (by rfl) (.agg #[.int .u32 P3, .slice ax3 nx3 cx3, .slice ap3 np3 cp3, .bool C3]) (fun W hW => by simp [go_sem, (HCb.out W hW).2.2.2.1, (HCb.out W hW).2.2.2.2.1, (HCb.out W hW).2.2.2.2.2.1, (HCb.out W hW).2.2.2.2.2.2]) ?_
      simp only [Act.put, List.setIfInBounds_toArray, List.set_cons_zero, List.set_cons_succ]
      refine qg_by (by rfl) (.agg #[.int .u32 P2, .slice ax2 nx2 cx2, .slice ap2 np2 cp2, .bool C2]) (fun W hW => by simp [go_sem, (HCb.out W hW).2.1.1, (HCb.out W hW).2.1.2.1, (HCb.out W hW).2.1.2.2.1, (HCb.out W hW).2.1.2.2.2]) ?_
      simp only [Act.put, List.setIfInBounds_toArray, List.set_cons_zero, List.set_cons_succ]
      refine qg_call (by rfl) 16 #[.agg #[.int .u32 P3, .slice ax3 nx3 cx3, .slice ap3 np3 cp3, .bool C3], .agg #[.int .u32 P2, .slice ax2 nx2 cx2, .slice ap2 np2 cp2, .bool C2]] (.bool qs) (fun W _ => by simp [go_sem]) (fun W hW => H16.out W hW) ?_
      simp only [Act.put, List.setIfInBounds_toArray, List.set_cons_zero, List.set_cons_succ]
      refine qg_by (by rfl) (.agg #[.int .u32 P, .slice ax nx cx, .slice ap np cp, .bool C]) (fun W hW => by simp [go_sem, (HCb.out W hW).1.1, (HCb.out W hW).1.2.1, (HCb.out W hW).1.2.2.1, (HCb.out W hW).1.2.2.2]) ?_
      simp only [Act.put, List.setIfInBounds_toArray, List.set_cons_zero, List.set_cons_succ]
      refine qg_by (by rfl) (.agg #[.int .u32 P2, .slice ax2 nx2 cx2, .slice ap2 np2 cp2, .bool C2]) (fun W hW => by simp [go_sem, (HCb.out W hW).2.1.1, (HCb.out W hW).2.1.2.1, (HCb.out W hW).2.1.2.2.1, (HCb.out W hW).2.1.2.2.2]) ?_
      simp only [Act.put, List.setIfInBounds_toArray, List.set_cons_zero, List.set_cons_succ]
      refine qg_call (by rfl) 17 #[.agg #[.int .u32 P, .slice ax nx cx, .slice ap np cp, .bool C], .agg #[.int .u32 P2, .slice ax2 nx2 cx2, .slice ap2 np2 cp2, .bool C2]] (.bool qs) (fun W _ => by simp [go_sem]) (fun W hW => H17.out W hW) ?_
      simp only [Act.put, List.setIfInBounds_toArray, List.set_cons_zero, List.set_cons_succ]
      refine qg_by (by rfl) (.bool false) (fun W _ => by simp [go_sem]) ?_
      simp only [Act.put, List.setIfInBounds_toArray, List.set_cons_zero, List.set_cons_succ]
      refine qy_by rfl (.bool false) (fun W _ => by simp [go_sem]) ?_
      simp only [Act.put, List.setIfInBounds_toArray, List.set_cons_zero, List.set_cons_succ]
      refine qy_by rfl (.bool false) (fun W _ => by simp [go_sem]) ?_
      simp only [Act.put, List.setIfInBounds_toArray, List.set_cons_zero, List.set_cons_succ]
      refine qg_by (by rfl) (.agg #[.int .u32 P3, .slice ax3 nx3 cx3, .slice ap3 np3 cp3, .bool C3]) (fun W hW => by simp [go_sem, (HCb.out W hW).2.2.2.1, (HCb.out W hW).2.2.2.2.1, (HCb.out W hW).2.2.2.2.2.1, (HCb.out W hW).2.2.2.2.2.2]) ?_
      simp only [Act.put, List.setIfInBounds_toArray, List.set_cons_zero, List.set_cons_succ]
      refine qg_by (by rfl) (.agg #[.int .u32 P, .slice ax nx cx, .slice ap np cp, .bool C]) (fun W hW => by simp [go_sem, (HCb.out W hW).1.1, (HCb.out W hW).1.2.1, (HCb.out W hW).1.2.2.1, (HCb.out W hW).1.2.2.2]) ?_
      simp only [Act.put, List.setIfInBounds_toArray, List.set_cons_zero, List.set_cons_succ]
      refine qg_call (by rfl) 16 #[.agg #[.int .u32 P3, .slice ax3 nx3 cx3, .slice ap3 np3 cp3, .bool C3], .agg #[.int .u32 P, .slice ax nx cx, .slice ap np cp, .bool C]] (.bool true) (fun W _ => by simp [go_sem]) (fun W hW => H16b.out W hW) ?_
      simp only [Act.put, List.setIfInBounds_toArray, List.set_cons_zero, List.set_cons_succ]
      refine qg_by (by rfl) (.bool false) (fun W _ => by simp [go_sem]) ?_
      simp only [Act.put, List.setIfInBounds_toArray, List.set_cons_zero, List.set_cons_succ]
      refine qy_by rfl (.bool false) (fun W _ => by simp [go_sem]) ?_
      simp only [Act.put, List.setIfInBounds_toArray, List.set_cons_zero, List.set_cons_succ]
      refine wpQuiet_nil ?_
      intro w4 q4
      clear H11 H12 H13 H14 H15 H16 H17 H16b
      have HB4 := Lib.hid (below_call HB.out q4)
      have HM4 := Lib.hid (HM.out.call q4)
      have HG4 := Lib.hid (HG.out.call q4)
      have HO4 := Lib.hid (HO.out.below q4)
      clear q4 HCb HB HM HN HX HG HO
      obtain ⟨N, hN⟩ : ∃ N, N = (notesR m).length := ⟨_, rfl⟩
      have HN := Lib.hid hN
      have HD : Hid (∀ W, Below w4.heap.size w4 W → Calls Try.prog 18 #[.agg #[.int .u32 P3, .slice ax3 nx3 cx3, .slice ap3 np3 cp3, .bool C3]] W fun e w' => ∃ a c, e = .returned (.slice a N c) ∧ NotesAt w' (.slice a N c) (notesR m) ∧ Below w4.heap.size w4 w' ∧ Below W.heap.size W w') := Lib.hid (fun W hW => (dnotes_any _ m W (HO4.out.below hW) HF.out).mono fun e w' ⟨v', h1, h2, h3⟩ => by
        have h4 := h2.at
        obtain ⟨a, c, rfl, _⟩ := h2.at
        rw [← hN] at h1 h4
        exact ⟨a, c, h1, h4, below_call hW h3, h3⟩)
      have HE : Hid (∀ W, Below w4.heap.size w4 W → Calls Try.prog 19 #[.agg #[.int .u32 P, .slice ax nx cx, .slice ap np cp, .bool C]] W fun e w' => ∃ a c, e = .returned (.slice a N c) ∧ NotesAt w' (.slice a N c) (notesR m) ∧ Below w4.heap.size w4 w' ∧ Below W.heap.size W w') := Lib.hid (fun W hW => (rnotes_any _ m W (HAm.out _ (below_call HB4.out hW)) HF.out).mono fun e w' ⟨v', h1, h2, h3⟩ => by
        have h4 := h2.at
        obtain ⟨a, c, rfl, _⟩ := h2.at
        rw [← hN] at h1 h4
        exact ⟨a, c, h1, h4, below_call hW h3, h3⟩)
      have HLe : Hid ((N : Int) ≤ 2 + 17592186044416 + 70368744177664) := Lib.hid (by
        have h1 := notes_len m
        have h2 := HF.out.2.1
        have h3 := HF.out.2.2.1
        have h4 : (notesR m).length ≤ (notesOf m).length := by unfold notesR; split <;> simp
        omega)
      have hNi := HLe.out
      have HK4 : Hid (∀ W, Below w4.heap.size w4 W → (W.cell? ⟨w.heap.size, 0, none⟩ = some (.int .u32 P) ∧ W.cell? ⟨w.heap.size, 1, none⟩ = some (.slice ax nx cx) ∧ W.cell? ⟨w.heap.size, 2, none⟩ = some (.slice ap np cp) ∧ W.cell? ⟨w.heap.size, 3, none⟩ = some (.bool C)) ∧
        (W.cell? ⟨g, 0, none⟩ = some (.int .u32 P3) ∧ W.cell? ⟨g, 1, none⟩ = some (.slice ax3 nx3 cx3) ∧ W.cell? ⟨g, 2, none⟩ = some (.slice ap3 np3 cp3) ∧ W.cell? ⟨g, 3, none⟩ = some (.bool C3))) := Lib.hid (fun W hW => ⟨(HM4.out.call hW).four, (HG4.out.call hW).four⟩)
      have K0 := HK4.out _ (Below.refl _ _).drew
      clear hN
      go_upto_region 7 with (fail)
      go_cut [9, 10] (fun s9 s10 wx => ∃ a c a' c', s9 = .slice a N c ∧ s10 = .slice a' N c' ∧ Hid (NotesAt wx (.slice a N c) (notesR m)) ∧ Hid (NotesAt wx (.slice a' N c') (notesR m)) ∧ Hid (Below w4.heap.size w4 wx))
      case first =>
        go_region_held3 (fun w' => (w'.cell? ⟨w.heap.size, 0, none⟩ = some (.int .u32 P) ∧ w'.cell? ⟨w.heap.size, 1, none⟩ = some (.slice ax nx cx) ∧ w'.cell? ⟨w.heap.size, 2, none⟩ = some (.slice ap np cp) ∧ w'.cell? ⟨w.heap.size, 3, none⟩ = some (.bool C)) ∧ (w'.cell? ⟨g, 0, none⟩ = some (.int .u32 P3) ∧ w'.cell? ⟨g, 1, none⟩ = some (.slice ax3 nx3 cx3) ∧ w'.cell? ⟨g, 2, none⟩ = some (.slice ap3 np3 cp3) ∧ w'.cell? ⟨g, 3, none⟩ = some (.bool C3)))
          (first | exact K0 | exact K1 | exact K2)
          ((first
            | (go_at_call 18; refine (HD.out _ Hb1.out).mono ?_; rintro e w6 ⟨a, c, rfl, hn, hq, hs⟩; have Hb2 := Lib.hid hq; have Hn2 := Lib.hid hn; have Hn1' := Lib.hid (Hn1.out.below hs); have K2 := HK4.out _ hq; clear hn hq hs HD Hb1 Hn1 K0 K1)
            | (go_at_call 18; refine (HD.out _ (Below.refl _ _).drew).mono ?_; rintro e w5 ⟨a, c, rfl, hn, hq, hs⟩; have Hb1 := Lib.hid hq; have Hn1 := Lib.hid hn; have K1 := HK4.out _ hq; clear hn hq hs HD)
            | (go_at_call 19; refine (HE.out _ Hb1.out).mono ?_; rintro e w6 ⟨a, c, rfl, hn, hq, hs⟩; have Hb2 := Lib.hid hq; have Hn2 := Lib.hid hn; have Hn1' := Lib.hid (Hn1.out.below hs); have K2 := HK4.out _ hq; clear hn hq hs HE Hb1 Hn1 K0 K1)
            | (go_at_call 19; refine (HE.out _ (Below.refl _ _).drew).mono ?_; rintro e w5 ⟨a, c, rfl, hn, hq, hs⟩; have Hb1 := Lib.hid hq; have Hn1 := Lib.hid hn; have K1 := HK4.out _ hq; clear hn hq hs HE)))
        all_goals go_wp2_with fail
        all_goals go_meet
        all_goals exact ⟨_, _, _, _, rfl, rfl, by first | exact Hn1' | exact Hn2, by first | exact Hn2 | exact Hn1', Hb2⟩
      case rest =>
        obtain ⟨a1, c1, a2, c2, rfl, rfl, HN1, HN2, HB5⟩ := hcut
        clear HD HE K0
        go_wp2_with fail
        go_loopw [11] (fun i wr => ∃ k : Nat, (k : Int) ≤ N ∧ i = .int .i64 k ∧ Hid (NotesAt wr (.slice a1 N c1) (notesR m)) ∧ Hid (NotesAt wr (.slice a2 N c2) (notesR m)) ∧ Hid (Below w4.heap.size w4 wr)) (fun i _ => N - (intOf i).toNat)
        case atStart => exact ⟨0, by omega, rfl, HN1, HN2, HB5⟩
        case round =>
          clear HN1 HN2 HB5
          obtain ⟨k, hk, rfl, HN1, HN2, HB⟩ := hrel
          by_cases hlt : k < N
          · have hd : decide (k < N) = true := decide_eq_true hlt
            obtain ⟨b, o, rfl, _, hcl⟩ := notes_rows HN1.out HN.out (by omega)
            obtain ⟨b2, o2, rfl, _, hcl2⟩ := notes_rows HN2.out HN.out (by omega)
            obtain ⟨c0, c1, c2⟩ := (hcl k hlt).nt
            obtain ⟨e0, e1, e2⟩ := (hcl2 k hlt).nt
            obtain ⟨y0, h0⟩ : ∃ y, y = ((notesR m).getD k Nt.nought).kind := ⟨_, rfl⟩
            obtain ⟨y1, h1⟩ : ∃ y, y = ((notesR m).getD k Nt.nought).n := ⟨_, rfl⟩
            obtain ⟨y2, h2⟩ : ∃ y, y = ((notesR m).getD k Nt.nought).m := ⟨_, rfl⟩
            rw [← h0] at c0 e0
            rw [← h1] at c1 e1
            rw [← h2] at c2 e2
            clear hcl hcl2 h0 h1 h2
            go_upto_region 13 with (fail)
            go_quiet (fail)
            go_wp2_with fail
            clear c0 c1 c2 e0 e1 e2
            go_roundw
            case rel => exact ⟨k + 1, by omega, by go_num, Lib.hid (HN1.out.below (below_drewN _ _)), Lib.hid (HN2.out.below (below_drewN _ _)), Lib.hid (below_drew HB.out _)⟩
            case measure => simp [intOf]; omega
          · have hd : decide (k < N) = false := decide_eq_false hlt
            clear hlt
            obtain ⟨⟨m0, m1, m2, m3⟩, ⟨g0, g1, g2, g3⟩⟩ := HK4.out _ HB.out
            go_wp2_with fail
            refine (rsame_any _ _ m m _ (HO4.out.below HB.out) (HAm.out _ (below_call HB4.out HB.out)) HF.out HF.out).mono ?_; rintro e w7 ⟨h7, q7⟩
            rw [decide_eq_true rfl] at h7
            subst h7
            have HB7 := Lib.hid (below_call HB.out q7)
            clear q7 m0 m1 m2 m3 g0 g1 g2 g3
            go_wp2_with fail
            refine (dalive_any _).mono ?_; rintro e w8 ⟨rfl, q8⟩
            have HB8 := Lib.hid (below_call HB4.out (below_call HB7.out q8))
            clear q8
            go_wp2_with fail
            go_ret
            exact ⟨rfl, HB8.out⟩
end Go.Proofs.Ytmfebmiigkmkbaa
