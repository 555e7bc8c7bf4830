/- DemandUnions, walked. -/
import Derived.Test.YtmfebmiigkmkbaaEH
import Derived.Test.YtmfebmiigkmkbaaEI
set_option linter.unusedVariables false
set_option linter.unusedSimpArgs false
namespace Go.Proofs.Ytmfebmiigkmkbaa
open Go Go.RowKit Oj Dm

/-- An own row of manifests whose rows lie elsewhere. -/
theorem mfs_of_row {w : World} {B : Nat} {v : Value} {l : List Mf} {X P : Nat → Value} (h : w.ownsRow B 26 4 v l.length (flat (fun j => mfCells (l.getD j Mf.nought) (X j) (P j)) l.length)) (h2 : ∀ j, j < l.length → XtsAt w (X j) (l.getD j Mf.nought).ext ∧ PtsAt w (P j) (l.getD j Mf.nought).ports) : MfsAt w v l :=
  ⟨X, P, slC_of_row (B := B) (e := 26) (fun j _ => rfl) h, h2⟩
theorem mf_one {m : Mf} {vx vp : Value} {w : World} (h1 : XtsAt w vx m.ext) (h2 : PtsAt w vp m.ports) : ∀ u ∈ mfCells m vx vp, u.oneCell' = true := by
  obtain ⟨ax, cx, rfl⟩ := slC_slice h1
  obtain ⟨ap, cp, rfl⟩ := slC_slice h2
  intro u hu
  simp only [mfCells, List.mem_cons, List.not_mem_nil, or_false] at hu
  rcases hu with rfl | rfl | rfl | rfl <;> rfl

set_option maxHeartbeats 16000000 in
set_option maxRecDepth 100000 in
theorem unions_any (vl vm : Value) (l : List Nt) (ms : List Mf) (w : World) (hA : NotesAt w vl l) (hf : ntsFit l) (hM : MfsAt w vm ms) (hfm : mfsFit ms) : Calls Try.prog 4 #[vl, vm] w fun e w' => e = .returned (.bool true) ∧ Below w.heap.size w w' := by
  obtain ⟨iN, hiN, hzN, hsN, hbN⟩ := info_parts infoNote
  obtain ⟨iM, hiM, hzM, hsM, hbM⟩ := info_parts infoMan'
  have HI := Lib.hid (And.intro (And.intro hiN (And.intro hzN (And.intro hsN hbN))) (And.intro hiM (And.intro hzM (And.intro hsM hbM))))
  have HA := Lib.hid (fun W (hq : Below w.heap.size w W) => (hA.below hq : NotesAt W vl l))
  have HM := Lib.hid (fun W (hq : Below w.heap.size w W) => (hM.below hq : MfsAt W vm ms))
  have HLg := Lib.hid (large_any vm ms w hM hfm)
  have HF := Lib.hid hf
  have HFM := Lib.hid hfm
  obtain ⟨al, cl, hvl⟩ := slC_slice hA
  obtain ⟨am, cm, hvm, _⟩ := hM.get
  obtain ⟨n, hn⟩ : ∃ n, n = l.length := ⟨_, rfl⟩
  obtain ⟨k, hk⟩ : ∃ k, k = ms.length := ⟨_, rfl⟩
  have hni : (n : Int) ≤ 11728124029611 := by have := hf.1; omega
  have hki : (k : Int) ≤ 2199023255552 := by have := hfm.1; omega
  rw [← hn] at hvl
  rw [← hk] at hvm
  subst hvl hvm
  have HN := Lib.hid hn
  have HK := Lib.hid hk
  clear hA hf hM hfm hn hk hiN hzN hsN hbN hiM hzM hsM hbM
  go_enter Try.func4, Try.ntmps4
  go_wp2_with fail
  refine HLg.out.mono ?_; rintro e w1 ⟨b, rfl, hb, q1⟩
  have HB1 := Lib.hid q1
  have HLe := Lib.hid hb
  clear q1 hb HLg
  cases b with
  | true =>
    go_wp2_with fail
    refine (dalive_any _).mono ?_; rintro e w2 ⟨rfl, q2⟩
    have HB2 := Lib.hid (below_call HB1.out q2)
    clear q2
    go_wp2_with fail
    go_ret
    exact ⟨rfl, HB2.out⟩
  | false =>
    have hk6 : (k : Int) ≤ 600 := by have := HLe.out rfl; have := HK.out; omega
    by_cases h200 : 200 < n
    case pos =>
      have h200i : (200 : Int) < n := by omega
      clear h200
      go_wp2_with fail
      refine (dalive_any _).mono ?_; rintro e w2 ⟨rfl, q2⟩
      have HB2 := Lib.hid (below_call HB1.out q2)
      clear q2
      go_wp2_with fail
      go_ret
      exact ⟨rfl, HB2.out⟩
    have h200i : (n : Int) ≤ 200 := by omega
    have HL : Hid (n ≤ maxLen ∧ n * 12 ≤ 140737488355328) := Lib.hid (by unfold maxLen; omega)
    have HLk : Hid (k ≤ maxLen ∧ k * 64 ≤ 140737488355328) := Lib.hid (by unfold maxLen; omega)
    clear h200
    go_wp2_with (at_builtin; refine wpList_append_all rfl _ _ 37 rfl w.heap.size 28 iN (.agg #[.int .u8 0, .int .u32 0, .int .u32 0]) 3 12 Try.underlying37 HI.out.1.1 HI.out.1.2.1 HI.out.1.2.2.1 HI.out.1.2.2.2 rfl (by decide) rfl (.slice al n cl) n (fun j => ntCells (l.getD j Nt.nought)) rfl (by have h := HA.out _ HB1.out; unfold NotesAt at h; rw [← HN.out] at h; exact h) (fun _ _ => rfl) (fun _ _ u hu => by simp only [ntCells, List.mem_cons, List.not_mem_nil, or_false] at hu; rcases hu with rfl | rfl | rfl <;> rfl) HL.out.1 HL.out.2 HB1.out.size ?_)
    intro v1 w2 h6 h7
    have HB2 := Lib.hid (below_call HB1.out (grown_none h7))
    obtain ⟨a1, c1, rfl⟩ := row_sl h6
    have HO2 : Hid (NotesAt w2 (.slice a1 n c1) l) := Lib.hid (by
      have h := slC_of_row (B := w.heap.size) (e := 28) (cs := fun j => ntCells (l.getD j Nt.nought)) (fun j _ => rfl) h6
      rw [HN.out] at h ⊢
      exact h)
    clear h6 h7 HB1
    go_wp2_with fail
    refine (of_any _ l _ HO2.out HF.out (by have := HN.out; omega)).mono ?_; rintro e w3 ⟨vA, rfl, hO, q3⟩
    have HB3 := Lib.hid (below_call HB2.out q3)
    have HO3 := Lib.hid (HO2.out.below q3)
    have HA3 := Lib.hid hO.at
    obtain ⟨P, ax, nx, cx, ap, np, cp, C, hvA⟩ := hO.open
    subst hvA
    clear q3 hO HB2 HO2
    go_upto_region 5 with (fail)
    refine wp_named ?_; intro w4 hw4
    obtain ⟨g, hg⟩ : ∃ g, g = w3.heap.size := ⟨_, rfl⟩
    have HG4 : Hid (Blk w4 g 26 [.int .u32 P, .slice ax nx cx, .slice ap np cp, .bool C]) := Lib.hid (by rw [hw4, hg]; exact Blk.new w3 26 _)
    have HB34 : Hid (Below w3.heap.size w3 w4) := Lib.hid (by rw [hw4]; exact below_new1 w3 _)
    have HB4 : Hid (Below w.heap.size w w4) := Lib.hid (below_call HB3.out HB34.out)
    have HO4 := Lib.hid (HO3.out.below HB34.out)
    have HA4 := Lib.hid (HA3.out.below HB34.out)
    rw [← hg]
    clear hw4 hg HB3 HB34 HO3 HA3
    go_wp2_with fail
    refine (rof_any _ l _ (HA.out _ HB4.out) HF.out (by have := HN.out; omega)).mono ?_; rintro e w5 ⟨vB, rfl, hO, q5⟩
    have HB5 := Lib.hid (below_call HB4.out q5)
    have HO5 := Lib.hid (HO4.out.below q5)
    have HA5 := Lib.hid (HA4.out.below q5)
    have HG5 := Lib.hid (HG4.out.call q5)
    have HR5 := Lib.hid hO.at
    obtain ⟨P2, ax2, nx2, cx2, ap2, np2, cp2, C2, hvB⟩ := hO.open
    subst hvB
    clear q5 hO HB4 HO4 HA4 HG4
    go_upto_region 6 with (fail)
    refine wp_named ?_; intro w6 hw6
    obtain ⟨g2, hg2⟩ : ∃ g, g = w5.heap.size := ⟨_, rfl⟩
    have HQ6 : Hid (Blk w6 g2 26 [.int .u32 P2, .slice ax2 nx2 cx2, .slice ap2 np2 cp2, .bool C2]) := Lib.hid (by rw [hw6, hg2]; exact Blk.new w5 26 _)
    have HB56 : Hid (Below w5.heap.size w5 w6) := Lib.hid (by rw [hw6]; exact below_new1 w5 _)
    have HB6 : Hid (Below w.heap.size w w6) := Lib.hid (below_call HB5.out HB56.out)
    have HO6 := Lib.hid (HO5.out.below HB56.out)
    have HA6 := Lib.hid (HA5.out.below HB56.out)
    have HG6 := Lib.hid (HG5.out.call HB56.out)
    have HR6 := Lib.hid (HR5.out.below HB56.out)
    have HL6 := Lib.hid (HA.out _ HB6.out)
    rw [← hg2]
    clear hw6 hg2 HB5 HB56 HO5 HA5 HG5 HR5
    go_wp2_with fail
    go_loopw [10] (fun i wr => ∃ k : Nat, (k : Int) ≤ n ∧ i = .int .i64 k ∧ Hid (NotesAt wr (.slice a1 n c1) l) ∧ Hid (NotesAt wr (.slice al n cl) l) ∧ Hid (Below w6.heap.size w6 wr)) (fun i _ => n - (intOf i).toNat)
    case atStart => exact ⟨0, by omega, rfl, HO6, HL6, Lib.hid (Below.refl _ _)⟩
    case round =>
      obtain ⟨j, hj, rfl, HN1, HN2, HB⟩ := hrel
      by_cases hlt : j < n
      · have hd : decide (j < n) = true := decide_eq_true hlt
        obtain ⟨b, o, rfl, _, hcl⟩ := notes_rows HN1.out HN.out (by omega)
        obtain ⟨b2, o2, rfl, _, hcl2⟩ := notes_rows HN2.out HN.out (by omega)
        obtain ⟨c0, c1, c2⟩ := (hcl j hlt).nt
        obtain ⟨e0, e1, e2⟩ := (hcl2 j hlt).nt
        obtain ⟨y0, h0⟩ : ∃ y, y = (l.getD j Nt.nought).kind := ⟨_, rfl⟩
        obtain ⟨y1, h1⟩ : ∃ y, y = (l.getD j Nt.nought).n := ⟨_, rfl⟩
        obtain ⟨y2, h2⟩ : ∃ y, y = (l.getD j Nt.nought).m := ⟨_, rfl⟩
        rw [← h0] at c0 e0
        rw [← h1] at c1 e1
        rw [← h2] at c2 e2
        clear hcl hcl2 h0 h1 h2
        go_upto_region 9 with (fail)
        go_quiet (fail)
        go_wp2_with fail
        clear c0 c1 c2 e0 e1 e2
        go_roundw
        case rel => exact ⟨j + 1, by omega, by go_num, Lib.hid (HN1.out.below (below_drewN _ _)), Lib.hid (HN2.out.below (below_drewN _ _)), Lib.hid (below_drew HB.out _)⟩
        case measure => simp [intOf]; omega
      · have hd : decide (j < n) = false := decide_eq_false hlt
        have HBr := Lib.hid (below_call HB6.out HB.out)
        have HGr := Lib.hid (HG6.out.call HB.out)
        have HQr := Lib.hid (HQ6.out.call HB.out)
        have HAr := Lib.hid (HA6.out.below HB.out)
        have HRr := Lib.hid (HR6.out.below HB.out)
        obtain ⟨X, PP, hs, hat⟩ := HM.out _ HBr.out
        have HS := Lib.hid hs
        have HAT := Lib.hid hat
        clear hlt hs hat HN1 HN2 HB HO6 HA6 HG6 HR6 HL6 HQ6
        go_wp2_with (at_builtin; refine wpList_append_all rfl _ _ 40 rfl w.heap.size 26 iM (.agg #[.int .u32 0, .slice none 0 0, .slice none 0 0, .bool false]) 4 64 Try.underlying40 HI.out.2.1 HI.out.2.2.1 HI.out.2.2.2.1 HI.out.2.2.2.2 rfl (by decide) rfl (.slice am k cm) k (fun j => mfCells (ms.getD j Mf.nought) (X j) (PP j)) rfl (by have h := HS.out; rw [← HK.out] at h; exact h) (fun _ _ => rfl) (fun j hj u hu => mf_one (HAT.out j (by rw [← HK.out]; exact hj)).1 (HAT.out j (by rw [← HK.out]; exact hj)).2 u hu) HLk.out.1 HLk.out.2 HBr.out.size ?_)
        intro v7 w7 h6 h7
        have q7 := grown_none h7
        have HB7 := Lib.hid (below_call HBr.out q7)
        have HG7 := Lib.hid (HGr.out.call q7)
        have HQ7 := Lib.hid (HQr.out.call q7)
        have HA7 := Lib.hid (HAr.out.below q7)
        have HR7 := Lib.hid (HRr.out.below q7)
        obtain ⟨a7, c7, rfl⟩ := row_sl h6
        have HM7 : Hid (MfsAt w7 (.slice a7 k c7) ms) := Lib.hid (by
          rw [HK.out] at h6
          rw [HK.out]
          exact mfs_of_row h6 (fun j hj => ⟨(HAT.out j hj).1.below q7, (HAT.out j hj).2.below q7⟩))
        clear h6 h7 q7 HBr HGr HQr HAr HRr HS HAT
        go_wp2_with fail
        refine (union_any _ ms _ HM7.out HFM.out (by have := HK.out; omega)).mono ?_; rintro e w8 ⟨vC, rfl, hO, q8⟩
        have HB8 := Lib.hid (below_call HB7.out q8)
        have HG8 := Lib.hid (HG7.out.call q8)
        have HQ8 := Lib.hid (HQ7.out.call q8)
        have HA8 := Lib.hid (HA7.out.below q8)
        have HR8 := Lib.hid (HR7.out.below q8)
        have HC8 := Lib.hid hO.at
        obtain ⟨P3, ax3, nx3, cx3, ap3, np3, cp3, C3, hvC⟩ := hO.open
        subst hvC
        clear q8 hO HB7 HG7 HQ7 HA7 HR7 HM7
        go_upto_region 12 with (fail)
        refine wp_named ?_; intro w9 hw9
        obtain ⟨g3, hg3⟩ : ∃ g, g = w8.heap.size := ⟨_, rfl⟩
        have HU9 : Hid (Blk w9 g3 26 [.int .u32 P3, .slice ax3 nx3 cx3, .slice ap3 np3 cp3, .bool C3]) := Lib.hid (by rw [hw9, hg3]; exact Blk.new w8 26 _)
        have HB89 : Hid (Below w8.heap.size w8 w9) := Lib.hid (by rw [hw9]; exact below_new1 w8 _)
        have HB9 := Lib.hid (below_call HB8.out HB89.out)
        have HG9 := Lib.hid (HG8.out.call HB89.out)
        have HQ9 := Lib.hid (HQ8.out.call HB89.out)
        have HA9 := Lib.hid (HA8.out.below HB89.out)
        have HR9 := Lib.hid (HR8.out.below HB89.out)
        have HC9 := Lib.hid (HC8.out.below HB89.out)
        rw [← hg3]
        clear hw9 hg3 HB8 HG8 HQ8 HA8 HR8 HC8 HB89
        go_wp2_with fail
        refine (runion_any _ ms _ (HM.out _ HB9.out) HFM.out (by have := HK.out; omega)).mono ?_; rintro e w10 ⟨vD, rfl, hO, q10⟩
        have HB10 := Lib.hid (below_call HB9.out q10)
        have HG10 := Lib.hid (HG9.out.call q10)
        have HQ10 := Lib.hid (HQ9.out.call q10)
        have HU10 := Lib.hid (HU9.out.call q10)
        have HA10 := Lib.hid (HA9.out.below q10)
        have HR10 := Lib.hid (HR9.out.below q10)
        have HC10 := Lib.hid (HC9.out.below q10)
        have HD10 := Lib.hid hO.at
        obtain ⟨P4, ax4, nx4, cx4, ap4, np4, cp4, C4, hvD⟩ := hO.open
        subst hvD
        clear q10 hO HB9 HG9 HQ9 HU9 HA9 HR9 HC9
        go_upto_region 13 with (fail)
        refine wp_named ?_; intro w11 hw11
        obtain ⟨g4, hg4⟩ : ∃ g, g = w10.heap.size := ⟨_, rfl⟩
        have HV : Hid (Blk w11 g4 26 [.int .u32 P4, .slice ax4 nx4 cx4, .slice ap4 np4 cp4, .bool C4]) := Lib.hid (by rw [hw11, hg4]; exact Blk.new w10 26 _)
        have HB1011 : Hid (Below w10.heap.size w10 w11) := Lib.hid (by rw [hw11]; exact below_new1 w10 _)
        have HBz := Lib.hid (below_call HB10.out HB1011.out)
        have HGz := Lib.hid (HG10.out.call HB1011.out)
        have HQz := Lib.hid (HQ10.out.call HB1011.out)
        have HUz := Lib.hid (HU10.out.call HB1011.out)
        have HAz := Lib.hid (HA10.out.below HB1011.out)
        have HRz := Lib.hid (HR10.out.below HB1011.out)
        have HCz := Lib.hid (HC10.out.below HB1011.out)
        have HDz := Lib.hid (HD10.out.below HB1011.out)
        rw [← hg4]
        clear hw11 hg4 HB10 HB1011 HG10 HQ10 HU10 HA10 HR10 HC10 HD10
        obtain ⟨s0, s1, s2, s3⟩ := HGz.out.four
        obtain ⟨t0, t1, t2, t3⟩ := HQz.out.four
        go_wp2_with fail
        refine (rsame_any _ _ _ _ _ HAz.out HRz.out (of_fits HF.out) (of_fits HF.out)).mono ?_; rintro e w12 ⟨h12, q12⟩
        rw [decide_eq_true rfl] at h12
        subst h12
        have HBy := Lib.hid (below_call HBz.out q12)
        obtain ⟨u0, u1, u2, u3⟩ := (HUz.out.call q12).four
        obtain ⟨y0, y1, y2, y3⟩ := (HV.out.call q12).four
        have HCy := Lib.hid (HCz.out.below q12)
        have HDy := Lib.hid (HDz.out.below q12)
        clear q12 s0 s1 s2 s3 t0 t1 t2 t3 HGz HQz HUz HV HAz HRz HCz HDz HBz
        go_wp2_with fail
        refine (rsame_any _ _ _ _ _ HCy.out HDy.out (union_fits HFM.out) (union_fits HFM.out)).mono ?_; rintro e w13 ⟨h13, q13⟩
        rw [decide_eq_true rfl] at h13
        subst h13
        have HBx := Lib.hid (below_call HBy.out q13)
        clear q13 u0 u1 u2 u3 y0 y1 y2 y3
        go_wp2_with fail
        refine (dalive_any _).mono ?_; rintro e w14 ⟨rfl, q14⟩
        have HBw := Lib.hid (below_call HBx.out q14)
        clear q14
        go_wp2_with fail
        go_ret
        exact ⟨rfl, HBw.out⟩
end Go.Proofs.Ytmfebmiigkmkbaa
