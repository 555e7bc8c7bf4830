/- DemandOrder with no notes at all; and in all. (written by mk_el.py) -/
import Derived.Test.YtmfebmiigkmkbaaEL
set_option linter.unusedVariables false
set_option linter.unusedSimpArgs false
namespace Go.Proofs.Ytmfebmiigkmkbaa
open Go Go.RowKit Oj Dm

theorem of_nil : ofR [] = (Mf.nought, 0) := by decide
theorem nts_nil : ntsFit [] := ⟨by simp, fun j hj => absurd hj (by simp)⟩
theorem union_nil : unionR [Mf.nought, Mf.nought, Mf.nought] = (Mf.nought, 0) := of_union nts_nil nts_nil nts_nil of_nil of_nil of_nil (fun _ h => h) (fun _ h => h)
theorem notes_nought : notesR Mf.nought = [] := by decide
theorem fits_nought : mfFits Mf.nought := fine_mf ⟨fine_nought, by decide⟩
theorem notes_any0 {w : World} {a : Option Addr} {c : Nat} : NotesAt w (.slice a 0 c) [] := slC_any0

set_option maxHeartbeats 64000000 in
set_option maxRecDepth 100000 in
theorem order_nil (a : Option Addr) (c A T : Nat) (hA8 : A < 256) (hT8 : T < 256) (w : World) (hW : Wf (.slice a 0 c)) : Calls Try.prog 6 #[.slice a 0 c, .int .u8 A, .int .u8 T] w fun e w' => e = .returned (.bool true) ∧ Below w.heap.size w w' := by
  obtain ⟨i0, hi, hz0, hz1, hz2⟩ := info_parts infoNote
  have HI := Lib.hid (And.intro hi (And.intro hz0 (And.intro hz1 hz2)))
  have HFU := Lib.hid fits_nought
  have HOf := Lib.hid (fun (W : World) (a : Option Addr) (c : Nat) => of_any _ [] W (notes_any0 (a := a) (c := c)) nts_nil (by simp))
  have HV : Hid (∀ (W : World) v, NotesAt W v [] → Calls Try.prog 20 #[v] W (MPost W (ofR []))) := Lib.hid (fun W v h => of_any _ [] W h nts_nil (by simp))
  unfold MPost at HOf HV
  rw [of_nil] at HOf HV
  have hcase : (a = none ∧ c = 0) ∨ (∃ b o sp, a = some ⟨b, o, sp⟩) := by
    rcases hW with h | ⟨ad, n, c', h, _⟩
    · injection h with h1 h2 h3; exact .inl ⟨h1, h3⟩
    · injection h with h1 h2 h3; exact .inr ⟨ad.block, ad.off, ad.spot, h1⟩
  clear hi hz0 hz1 hz2 hW
  rcases hcase with ⟨rfl, rfl⟩ | ⟨b, o, sp, rfl⟩
  case' inl => have hc0 : True := trivial
  case' inr => rcases Nat.eq_zero_or_pos c with hc0 | hc0
  all_goals
    try (obtain rfl := hc0)
    go_enter Try.func6, Try.ntmps6
    go_wp2_with fail
    refine (HOf.out _ _ _).mono ?_; rintro e w3 ⟨vU, rfl, hO, q3⟩
    have HB3 := Lib.hid q3
    have HU3 := Lib.hid hO.at
    obtain ⟨P, ax, nx, cx, ap, np, cp, C, hvU⟩ := hO.open
    subst hvU
    clear q3 hO
    go_upto_region 4 with (fail)
    refine wp_named ?_; intro w4 hw4
    obtain ⟨g, hg⟩ : ∃ g, g = w3.heap.size := ⟨_, rfl⟩
    have HG4 : Hid (Blk w4 g 26 [.int .u32 P, .slice ax nx cx, .slice ap np cp, .bool C]) := Lib.hid (by rw [hw4, hg]; exact Blk.new w3 26 _)
    have HB34 : Hid (Below w3.heap.size w3 w4) := Lib.hid (by rw [hw4]; exact below_new1 w3 _)
    have HB4 : Hid (Below w.heap.size w w4) := Lib.hid (below_call HB3.out HB34.out)
    have HU4 := Lib.hid (HU3.out.below HB34.out)
    rw [← hg]
    clear hw4 hg HB3 HB34 HU3
    go_wp2_with fail
    go_loopw [9, 10] (fun s i wr => s = .slice none 0 0 ∧ i = .int .i64 0 ∧ Hid (Below w4.heap.size w4 wr)) (fun _ _ _ => 0)
    case atStart => exact ⟨rfl, rfl, Lib.hid (Below.refl _ _)⟩
    case round =>
      obtain ⟨rfl, rfl, HB⟩ := hrel
      have HB_0 : Hid (Below w.heap.size w wr) := Lib.hid (below_call HB4.out HB.out)
      have HGa_0 := Lib.hid (HG4.out.call HB.out)
      have HMa_0 := Lib.hid (HU4.out.below HB.out)
      clear HB HU4 HG4 HB4
      go_wp2_with (at_builtin; refine wpList_append_all rfl _ _ 37 rfl wr.heap.size 28 i0 (.agg #[.int .u8 0, .int .u32 0, .int .u32 0]) 3 12 Try.underlying37 HI.out.1 HI.out.2.1 HI.out.2.2.1 HI.out.2.2.2 rfl (by decide) rfl _ 0 (fun _ => []) rfl slC_any0 (fun _ h => absurd h (by omega)) (fun _ h => absurd h (by omega)) (by unfold maxLen; omega) (by omega) (Nat.le_refl _) ?_; intro v5 w5 h6 h7)
      have HQq : Hid (Below wr.heap.size wr w5) := Lib.hid (grown_none h7)
      have HN5 : Hid (NotesAt w5 v5 []) := Lib.hid (slC_of_row (B := wr.heap.size) (e := 28) (fun _ h => absurd h (by simp)) h6)
      have HB_1 := Lib.hid (below_call HB_0.out (HQq.out))
      have HGa_1 := Lib.hid (HGa_0.out.call (HQq.out))
      have HMa_1 := Lib.hid (HMa_0.out.below (HQq.out))
      clear HB_0 HGa_0 HMa_0
      obtain ⟨a5, c5, rfl⟩ := row_sl h6
      clear h6 h7 HQq
      go_wp2_with fail
      refine (HV.out _ _ (by exact HN5.out)).mono ?_; rintro e w6 ⟨vb, rfl, hO, q⟩
      have HB_2 := Lib.hid (below_call HB_1.out (q))
      have HGa_2 := Lib.hid (HGa_1.out.call (q))
      have HMa_2 := Lib.hid (HMa_1.out.below (q))
      clear HB_1 HGa_1 HMa_1
      have HMb_2 := Lib.hid hO.at
      clear q HN5
      obtain ⟨P2, ax2, nx2, cx2, ap2, np2, cp2, C2, hv2⟩ := hO.open
      subst hv2
      clear hO
      go_upto_region 10 with (fail)
      refine wp_named ?_; intro w7 hw7
      obtain ⟨g2, hg2⟩ : ∃ g, g = w6.heap.size := ⟨_, rfl⟩
      have HQb : Hid (Blk w7 g2 26 [.int .u32 P2, .slice ax2 nx2 cx2, .slice ap2 np2 cp2, .bool C2]) := Lib.hid (by rw [hw7, hg2]; exact Blk.new w6 26 _)
      have HQq : Hid (Below w6.heap.size w6 w7) := Lib.hid (by rw [hw7]; exact below_new1 w6 _)
      rw [← hg2]
      clear hw7 hg2
      have HB_3 := Lib.hid (below_call HB_2.out (HQq.out))
      have HGa_3 := Lib.hid (HGa_2.out.call (HQq.out))
      have HMa_3 := Lib.hid (HMa_2.out.below (HQq.out))
      have HMb_3 := Lib.hid (HMb_2.out.below (HQq.out))
      clear HB_2 HGa_2 HMa_2 HMb_2
      have HGb_3 := HQb
      clear HQq HQb
      obtain ⟨s0, s1, s2, s3⟩ := HGa_3.out.four
      obtain ⟨t0, t1, t2, t3⟩ := HGb_3.out.four
      go_wp2_with fail
      refine (same_any _ _ Mf.nought Mf.nought _ HMa_3.out HMb_3.out HFU.out HFU.out).mono ?_; rintro e w8 ⟨h8, q8⟩
      rw [decide_eq_true rfl] at h8
      subst h8
      clear s0 s1 s2 s3 t0 t1 t2 t3
      have HB_4 := Lib.hid (below_call HB_3.out (q8))
      have HGa_4 := Lib.hid (HGa_3.out.call (q8))
      have HMa_4 := Lib.hid (HMa_3.out.below (q8))
      have HMb_4 := Lib.hid (HMb_3.out.below (q8))
      have HGb_4 := Lib.hid (HGb_3.out.call (q8))
      clear HB_3 HGa_3 HMa_3 HMb_3 HGb_3
      clear q8 HMb_4 HGb_4
      go_wp2_with fail
      refine (HV.out _ _ (by exact notes_any0)).mono ?_; rintro e w9 ⟨vc, rfl, hO, q⟩
      have HB_5 := Lib.hid (below_call HB_4.out (q))
      have HGa_5 := Lib.hid (HGa_4.out.call (q))
      have HMa_5 := Lib.hid (HMa_4.out.below (q))
      clear HB_4 HGa_4 HMa_4
      have HMc_5 := Lib.hid hO.at
      clear q
      obtain ⟨P3, ax3, nx3, cx3, ap3, np3, cp3, C3, hv3⟩ := hO.open
      subst hv3
      clear hO
      go_upto_region 18 with (fail)
      refine wp_named ?_; intro w10 hw10
      obtain ⟨g3, hg3⟩ : ∃ g, g = w9.heap.size := ⟨_, rfl⟩
      have HQb : Hid (Blk w10 g3 26 [.int .u32 P3, .slice ax3 nx3 cx3, .slice ap3 np3 cp3, .bool C3]) := Lib.hid (by rw [hw10, hg3]; exact Blk.new w9 26 _)
      have HQq : Hid (Below w9.heap.size w9 w10) := Lib.hid (by rw [hw10]; exact below_new1 w9 _)
      rw [← hg3]
      clear hw10 hg3
      have HB_6 := Lib.hid (below_call HB_5.out (HQq.out))
      have HGa_6 := Lib.hid (HGa_5.out.call (HQq.out))
      have HMa_6 := Lib.hid (HMa_5.out.below (HQq.out))
      have HMc_6 := Lib.hid (HMc_5.out.below (HQq.out))
      clear HB_5 HGa_5 HMa_5 HMc_5
      have HGc_6 := HQb
      clear HQq HQb
      go_wp2_with fail
      refine (HV.out _ _ (by exact notes_any0)).mono ?_; rintro e w11 ⟨vd, rfl, hO, q⟩
      have HB_7 := Lib.hid (below_call HB_6.out (q))
      have HGa_7 := Lib.hid (HGa_6.out.call (q))
      have HMa_7 := Lib.hid (HMa_6.out.below (q))
      have HMc_7 := Lib.hid (HMc_6.out.below (q))
      have HGc_7 := Lib.hid (HGc_6.out.call (q))
      clear HB_6 HGa_6 HMa_6 HMc_6 HGc_6
      have HMd_7 := Lib.hid hO.at
      clear q
      obtain ⟨P4, ax4, nx4, cx4, ap4, np4, cp4, C4, hv4⟩ := hO.open
      subst hv4
      clear hO
      go_upto_region 19 with (fail)
      refine wp_named ?_; intro w12 hw12
      obtain ⟨g4, hg4⟩ : ∃ g, g = w11.heap.size := ⟨_, rfl⟩
      have HQb : Hid (Blk w12 g4 26 [.int .u32 P4, .slice ax4 nx4 cx4, .slice ap4 np4 cp4, .bool C4]) := Lib.hid (by rw [hw12, hg4]; exact Blk.new w11 26 _)
      have HQq : Hid (Below w11.heap.size w11 w12) := Lib.hid (by rw [hw12]; exact below_new1 w11 _)
      rw [← hg4]
      clear hw12 hg4
      have HB_8 := Lib.hid (below_call HB_7.out (HQq.out))
      have HGa_8 := Lib.hid (HGa_7.out.call (HQq.out))
      have HMa_8 := Lib.hid (HMa_7.out.below (HQq.out))
      have HMc_8 := Lib.hid (HMc_7.out.below (HQq.out))
      have HGc_8 := Lib.hid (HGc_7.out.call (HQq.out))
      have HMd_8 := Lib.hid (HMd_7.out.below (HQq.out))
      clear HB_7 HGa_7 HMa_7 HMc_7 HGc_7 HMd_7
      have HGd_8 := HQb
      clear HQq HQb
      obtain ⟨s0, s1, s2, s3⟩ := HGa_8.out.four
      obtain ⟨t0, t1, t2, t3⟩ := HGc_8.out.four
      obtain ⟨u0, u1, u2, u3⟩ := HGd_8.out.four
      have HLt : Hid (MfsAt (w12.alloc (.cells #[.int .u32 P4, .slice ax4 nx4 cx4, .slice ap4 np4 cp4, .bool C4, .int .u32 P3, .slice ax3 nx3 cx3, .slice ap3 np3 cp3, .bool C3, .int .u32 P, .slice ax nx cx, .slice ap np cp, .bool C] 26)) (.slice (some ⟨w12.heap.size, 0, none⟩) 3 3) [Mf.nought, Mf.nought, Mf.nought]) := Lib.hid (lit_agg3 HMd_8.out HMc_8.out HMa_8.out)
      have HFs : Hid (mfsFit [Mf.nought, Mf.nought, Mf.nought]) := Lib.hid ⟨by simp, fun j hj => by
        have : j = 0 ∨ j = 1 ∨ j = 2 := by simp at hj; omega
        rcases this with rfl | rfl | rfl <;> exact HFU.out⟩
      have HQl : Hid (Below w12.heap.size w12 (w12.alloc (.cells #[.int .u32 P4, .slice ax4 nx4 cx4, .slice ap4 np4 cp4, .bool C4, .int .u32 P3, .slice ax3 nx3 cx3, .slice ap3 np3 cp3, .bool C3, .int .u32 P, .slice ax nx cx, .slice ap np cp, .bool C] 26))) := Lib.hid (below_new1 w12 _)
      go_wp2_with fail
      refine (union_any _ [Mf.nought, Mf.nought, Mf.nought] _ HLt.out HFs.out (by simp)).mono ?_; rintro e w13 ⟨vu, he, hO, q13⟩
      rw [union_nil] at he hO
      simp only at he hO
      subst he
      have HQ13 : Hid (Below w12.heap.size w12 w13) := Lib.hid (HQl.out.trans (q13.mono HQl.out.size))
      clear s0 s1 s2 s3 t0 t1 t2 t3 u0 u1 u2 u3
      clear HMc_8
      clear HGc_8
      clear HMd_8
      clear HGd_8
      have HB_9 := Lib.hid (below_call HB_8.out (HQ13.out))
      have HGa_9 := Lib.hid (HGa_8.out.call (HQ13.out))
      have HMa_9 := Lib.hid (HMa_8.out.below (HQ13.out))
      clear HB_8 HGa_8 HMa_8
      have HMu_9 := Lib.hid hO.at
      clear q13 HQ13 HQl HLt HFs
      obtain ⟨P5, ax5, nx5, cx5, ap5, np5, cp5, C5, hv5⟩ := hO.open
      subst hv5
      clear hO
      go_upto_region 20 with (fail)
      refine wp_named ?_; intro w14 hw14
      obtain ⟨g5, hg5⟩ : ∃ g, g = w13.heap.size := ⟨_, rfl⟩
      have HQb : Hid (Blk w14 g5 26 [.int .u32 P5, .slice ax5 nx5 cx5, .slice ap5 np5 cp5, .bool C5]) := Lib.hid (by rw [hw14, hg5]; exact Blk.new w13 26 _)
      have HQq : Hid (Below w13.heap.size w13 w14) := Lib.hid (by rw [hw14]; exact below_new1 w13 _)
      rw [← hg5]
      clear hw14 hg5
      have HB_10 := Lib.hid (below_call HB_9.out (HQq.out))
      have HGa_10 := Lib.hid (HGa_9.out.call (HQq.out))
      have HMa_10 := Lib.hid (HMa_9.out.below (HQq.out))
      have HMu_10 := Lib.hid (HMu_9.out.below (HQq.out))
      clear HB_9 HGa_9 HMa_9 HMu_9
      have HGu_10 := HQb
      clear HQq HQb
      obtain ⟨s0, s1, s2, s3⟩ := HGa_10.out.four
      go_wp2_with fail
      refine (dnotes_any _ Mf.nought _ HMa_10.out HFU.out).mono ?_; rintro e w15 ⟨vn, rfl, hOn, q15⟩
      obtain ⟨an, cn, rfl⟩ := row_sl hOn
      have HB_11 := Lib.hid (below_call HB_10.out (q15))
      have HGa_11 := Lib.hid (HGa_10.out.call (q15))
      have HMa_11 := Lib.hid (HMa_10.out.below (q15))
      have HMu_11 := Lib.hid (HMu_10.out.below (q15))
      have HGu_11 := Lib.hid (HGu_10.out.call (q15))
      clear HB_10 HGa_10 HMa_10 HMu_10 HGu_10
      have HNn := Lib.hid hOn.at
      rw [notes_nought] at HNn
      clear q15 hOn s0 s1 s2 s3
      go_wp2_with fail
      refine (of_any _ [] _ HNn.out nts_nil (by simp)).mono ?_; rintro e w16 ⟨vz, he, hO, q16⟩
      rw [of_nil] at he hO
      simp only at he hO
      subst he
      have HB_12 := Lib.hid (below_call HB_11.out (q16))
      have HGa_12 := Lib.hid (HGa_11.out.call (q16))
      have HMa_12 := Lib.hid (HMa_11.out.below (q16))
      have HMu_12 := Lib.hid (HMu_11.out.below (q16))
      have HGu_12 := Lib.hid (HGu_11.out.call (q16))
      clear HB_11 HGa_11 HMa_11 HMu_11 HGu_11
      have HMz_12 := Lib.hid hO.at
      clear q16 HNn
      obtain ⟨P6, ax6, nx6, cx6, ap6, np6, cp6, C6, hv6⟩ := hO.open
      subst hv6
      clear hO
      go_upto_region 21 with (fail)
      refine wp_named ?_; intro w17 hw17
      obtain ⟨g6, hg6⟩ : ∃ g, g = w16.heap.size := ⟨_, rfl⟩
      have HQb : Hid (Blk w17 g6 26 [.int .u32 P6, .slice ax6 nx6 cx6, .slice ap6 np6 cp6, .bool C6]) := Lib.hid (by rw [hw17, hg6]; exact Blk.new w16 26 _)
      have HQq : Hid (Below w16.heap.size w16 w17) := Lib.hid (by rw [hw17]; exact below_new1 w16 _)
      rw [← hg6]
      clear hw17 hg6
      have HB_13 := Lib.hid (below_call HB_12.out (HQq.out))
      have HGa_13 := Lib.hid (HGa_12.out.call (HQq.out))
      have HMa_13 := Lib.hid (HMa_12.out.below (HQq.out))
      have HMu_13 := Lib.hid (HMu_12.out.below (HQq.out))
      have HGu_13 := Lib.hid (HGu_12.out.call (HQq.out))
      have HMz_13 := Lib.hid (HMz_12.out.below (HQq.out))
      clear HB_12 HGa_12 HMa_12 HMu_12 HGu_12 HMz_12
      have HGz_13 := HQb
      clear HQq HQb
      obtain ⟨s0, s1, s2, s3⟩ := HGa_13.out.four
      obtain ⟨t0, t1, t2, t3⟩ := HGu_13.out.four
      go_wp2_with fail
      refine (same_any _ _ Mf.nought Mf.nought _ HMu_13.out HMa_13.out HFU.out HFU.out).mono ?_; rintro e w18 ⟨h18, q18⟩
      rw [decide_eq_true rfl] at h18
      subst h18
      clear s0 s1 s2 s3 t0 t1 t2 t3
      have HB_14 := Lib.hid (below_call HB_13.out (q18))
      have HGa_14 := Lib.hid (HGa_13.out.call (q18))
      have HMa_14 := Lib.hid (HMa_13.out.below (q18))
      have HMu_14 := Lib.hid (HMu_13.out.below (q18))
      have HGu_14 := Lib.hid (HGu_13.out.call (q18))
      have HMz_14 := Lib.hid (HMz_13.out.below (q18))
      have HGz_14 := Lib.hid (HGz_13.out.call (q18))
      clear HB_13 HGa_13 HMa_13 HMu_13 HGu_13 HMz_13 HGz_13
      clear q18
      obtain ⟨s0, s1, s2, s3⟩ := HGa_14.out.four
      obtain ⟨t0, t1, t2, t3⟩ := HGz_14.out.four
      go_wp2_with fail
      refine (same_any _ _ Mf.nought Mf.nought _ HMz_14.out HMa_14.out HFU.out HFU.out).mono ?_; rintro e w19 ⟨h19, q19⟩
      rw [decide_eq_true rfl] at h19
      subst h19
      clear s0 s1 s2 s3 t0 t1 t2 t3
      have HB_15 := Lib.hid (below_call HB_14.out (q19))
      have HGa_15 := Lib.hid (HGa_14.out.call (q19))
      have HMa_15 := Lib.hid (HMa_14.out.below (q19))
      have HMu_15 := Lib.hid (HMu_14.out.below (q19))
      have HGu_15 := Lib.hid (HGu_14.out.call (q19))
      have HMz_15 := Lib.hid (HMz_14.out.below (q19))
      have HGz_15 := Lib.hid (HGz_14.out.call (q19))
      clear HB_14 HGa_14 HMa_14 HMu_14 HGu_14 HMz_14 HGz_14
      clear q19
      go_wp2_with fail
      refine (dalive_any _).mono ?_; rintro e w20 ⟨rfl, q20⟩
      have HBz := Lib.hid (below_call HB_15.out q20)
      clear q20
      go_wp2_with fail
      go_ret
      exact ⟨rfl, HBz.out⟩
theorem order_any (vl : Value) (l : List Nt) (A T : Nat) (hA8 : A < 256) (hT8 : T < 256) (w : World) (hA : NotesAt w vl l) (hW : Wf vl) (hf : ntsFit l) : Calls Try.prog 6 #[vl, .int .u8 A, .int .u8 T] w fun e w' => e = .returned (.bool true) ∧ Below w.heap.size w w' := by
  by_cases h100 : l.length ≤ 100
  · by_cases h0 : 0 < l.length
    · exact order_pos vl l A T hA8 hT8 w hA hW hf h0 h100
    · obtain rfl : l = [] := List.length_eq_zero_iff.1 (by omega)
      obtain ⟨a, c, rfl, _⟩ := hA
      exact order_nil a c A T hA8 hT8 w hW
  · obtain ⟨a, c, rfl, _⟩ := hA
    obtain ⟨n, hn⟩ : ∃ n, n = l.length := ⟨_, rfl⟩
    rw [← hn] at h100 ⊢
    have hni : (100 : Int) < (n : Int) := by omega
    have hni2 : (n : Int) ≤ 11728124029611 := by have := hf.1; omega
    have HB := Lib.hid (Below.refl w.heap.size w)
    clear h100 hn hf hW
    go_enter Try.func6, Try.ntmps6
    go_wp2_with fail
    refine (dalive_any _).mono ?_; rintro e w1 ⟨rfl, q1⟩
    have HB1 := Lib.hid q1
    clear q1
    go_wp2_with fail
    go_ret
    exact ⟨rfl, HB1.out⟩
end Go.Proofs.Ytmfebmiigkmkbaa
