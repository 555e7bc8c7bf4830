/- DemandLeast, walked. (written by mk_ek.py) -/
import Derived.Test.YtmfebmiigkmkbaaEJ
set_option linter.unusedVariables false
set_option linter.unusedSimpArgs false
namespace Go.Proofs.Ytmfebmiigkmkbaa
open Go Go.RowKit Oj Dm

theorem lit_mf1 (w : World) (m : Mf) (vx vp : Value) (h1 : XtsAt w vx m.ext) (h2 : PtsAt w vp m.ports) : MfsAt (w.alloc (.cells #[.int .u32 m.pages, vx, vp, .bool m.con] 26)) (.slice (some ⟨w.heap.size, 0, none⟩) 1 1) [m] :=
  lit_mfs w [(m, vx, vp)] (fun t ht => by
    simp only [List.mem_cons, List.not_mem_nil, or_false] at ht
    subst ht
    exact ⟨h1, h2⟩) (show 1 ≤ maxLen by simp [maxLen])
theorem fits_one {m : Mf} (h : mfFits m) : mfsFit [m] := ⟨by simp, fun j hj => by
  have : j = 0 := by simp at hj; omega
  subst this
  exact h⟩

set_option maxHeartbeats 32000000 in
set_option maxRecDepth 100000 in
theorem least_any (vl vx : Value) (l : List Mf) (x : Mf) (w : World) (hA : MfsAt w vl l) (hf : mfsFit l) (hX : MfAt w vx x) (hfx : mfFits x) : Calls Try.prog 5 #[vl, vx] w fun e w' => e = .returned (.bool true) ∧ Below w.heap.size w w' := by
  have HA := Lib.hid (fun W (hq : Below w.heap.size w W) => (hA.below hq : MfsAt W vl l))
  have HX := Lib.hid (fun W (hq : Below w.heap.size w W) => (hX.below hq : MfAt W vx x))
  have HF := Lib.hid hf
  have HFX := Lib.hid hfx
  have HL1 : Hid (∀ W, Below w.heap.size w W → MfsAt (W.alloc (.cells (match vx with | .agg cs => cs | _ => #[]) 26)) (.slice (some ⟨W.heap.size, 0, none⟩) 1 1) [x]) := Lib.hid fun W hq => by
    obtain ⟨v1, v2, rfl, h1, h2⟩ := hX.below hq
    exact lit_mf1 W x v1 v2 h1 h2
  obtain ⟨al, cl, hvl, _⟩ := hA.get
  obtain ⟨P, ax, nx, cx, ap, np, cp, C, hvx⟩ := hX.open
  obtain ⟨n, hn⟩ : ∃ n, n = l.length := ⟨_, rfl⟩
  have hni : (n : Int) ≤ 2199023255552 := by have := hf.1; omega
  rw [← hn] at hvl
  subst hvl hvx
  simp only at HL1
  have HN := Lib.hid hn
  have HB0 := Lib.hid (below_new1 w (.cells #[.int .u32 P, .slice ax nx cx, .slice ap np cp, .bool C] 26))
  have HK0 : Hid (Blk (w.alloc (.cells #[.int .u32 P, .slice ax nx cx, .slice ap np cp, .bool C] 26)) w.heap.size 26 [.int .u32 P, .slice ax nx cx, .slice ap np cp, .bool C]) := Lib.hid (Blk.new w 26 _)
  clear hA hf hX hfx hn
  go_enter Try.func5, Try.ntmps5
  go_wp2_with fail
  refine (large_any _ l _ (HA.out _ HB0.out) HF.out).mono ?_; rintro e w1 ⟨b, rfl, hb, q1⟩
  have HB1 := Lib.hid (below_call HB0.out q1)
  have HK1 := Lib.hid (HK0.out.call q1)
  have HLe := Lib.hid hb
  clear q1 hb HB0 HK0
  cases b with
  | true =>
    go_wp2_with fail
    refine (dalive_any _).mono ?_; rintro e w2 ⟨rfl, q2⟩
    have HB2 := Lib.hid (below_call HB1.out q2)
    clear q2
    go_wp2_with fail
    go_ret
    exact ⟨rfl, HB2.out⟩
  | false =>
    obtain ⟨m0, m1, m2, m3⟩ := HK1.out.four
    have HK1b : Hid (Blk (w1.alloc (.cells #[.int .u32 P, .slice ax nx cx, .slice ap np cp, .bool C] 26)) w.heap.size 26 [.int .u32 P, .slice ax nx cx, .slice ap np cp, .bool C]) := Lib.hid (HK1.out.alloc _)
    have HB1b : Hid (Below w.heap.size w (w1.alloc (.cells #[.int .u32 P, .slice ax nx cx, .slice ap np cp, .bool C] 26))) := Lib.hid (below_box HB1.out _)
    go_wp2_with fail
    refine (large_any _ [x] _ (HL1.out _ HB1.out) (fits_one HFX.out)).mono ?_; rintro e w2 ⟨b2, rfl, _, q2⟩
    have HB2 := Lib.hid (below_call HB1b.out q2)
    have HK2 := Lib.hid (HK1b.out.call q2)
    clear q2 HB1b HK1b HB1 HK1 m0 m1 m2 m3 HL1
    cases b2 with
    | true =>
      go_wp2_with fail
      refine (dalive_any _).mono ?_; rintro e w3 ⟨rfl, q3⟩
      have HB3 := Lib.hid (below_call HB2.out q3)
      clear q3
      go_wp2_with fail
      go_ret
      exact ⟨rfl, HB3.out⟩
    | false =>
      obtain ⟨U, hU⟩ : ∃ U, U = (unionR l).1 := ⟨_, rfl⟩
      obtain ⟨E, hE⟩ : ∃ E, E = (unionR l).2 := ⟨_, rfl⟩
      have HUE : Hid (unionR l = (U, E)) := Lib.hid (by rw [hU, hE])
      have HFU : Hid (mfFits U) := Lib.hid (by rw [hU]; exact union_fits HF.out)
      go_wp2_with fail
      refine (union_any _ l _ (HA.out _ HB2.out) HF.out (HLe.out (by simp))).mono ?_; rintro e w3 ⟨vU, he, hO, q3⟩
      rw [← hE] at he
      rw [← hU] at hO
      subst he
      have HB3 := Lib.hid (below_call HB2.out q3)
      have HK3 := Lib.hid (HK2.out.call q3)
      have HU3 := Lib.hid hO.at
      obtain ⟨P2, ax2, nx2, cx2, ap2, np2, cp2, C2, hvU⟩ := hO.open
      subst hvU
      clear q3 hO HB2 HK2 hU hE
      go_upto_region 4 with (fail)
      refine wp_named ?_; intro w4 hw4
      obtain ⟨g, hg⟩ : ∃ g, g = w3.heap.size := ⟨_, rfl⟩
      have HG4 : Hid (Blk w4 g 26 [.int .u32 P2, .slice ax2 nx2 cx2, .slice ap2 np2 cp2, .bool C2]) := Lib.hid (by rw [hw4, hg]; exact Blk.new w3 26 _)
      have HB34 : Hid (Below w3.heap.size w3 w4) := Lib.hid (by rw [hw4]; exact below_new1 w3 _)
      have HB4 : Hid (Below w.heap.size w w4) := Lib.hid (below_call HB3.out HB34.out)
      have HK4 := Lib.hid (HK3.out.call HB34.out)
      have HU4 := Lib.hid (HU3.out.below HB34.out)
      rw [← hg]
      clear hw4 hg HB3 HB34 HK3 HU3
      by_cases hE0 : E = 0
      case neg =>
        have hne : (E != 0) = true := bne_iff_ne.2 hE0
        have hne2 : (E == 0) = false := beq_eq_false_iff_ne.2 hE0
        go_wp2_with fail
        refine (dalive_any _).mono ?_; rintro e w5 ⟨rfl, q5⟩
        have HB5 := Lib.hid (below_call HB4.out q5)
        clear q5
        go_wp2_with fail
        go_ret
        exact ⟨rfl, HB5.out⟩
      subst hE0
      have HE1 := Lib.hid (least_each HF.out HUE.out)
      have HE2 := Lib.hid (fun ho => least_all HF.out HFX.out HUE.out ho)
      go_wp2_with fail
      go_loopw [7, 8] (fun s i wr => ∃ (k : Nat) (b : Bool), (k : Int) ≤ n ∧ i = .int .i64 k ∧ s = .bool b ∧ Hid (b = true ↔ ∀ j, j < k → coversR x (l.getD j Mf.nought) = true) ∧ Hid (Below w4.heap.size w4 wr)) (fun _ i _ => n - (intOf i).toNat)
      case atStart => exact ⟨0, true, by omega, rfl, rfl, Lib.hid ⟨fun _ j hj => absurd hj (by omega), fun _ => rfl⟩, Lib.hid (Below.refl _ _)⟩
      case round =>
        obtain ⟨k, b, hk, rfl, rfl, HBb, HB⟩ := hrel
        by_cases hlt : k < n
        · have hd : decide (k < n) = true := decide_eq_true hlt
          have HBw : Hid (Below w.heap.size w wr) := Lib.hid (below_call HB4.out HB.out)
          obtain ⟨a', c', he', hcl0⟩ := (HA.out _ HBw.out).get
          rw [← HN.out] at he' hcl0
          injection he' with e1 e2 e3
          subst e1
          obtain ⟨b0, o0, rfl, hbl, hcl⟩ := hcl0 (by omega)
          obtain ⟨v1, v2, hL, h1, h2⟩ := hcl k hlt
          obtain ⟨L, hLk⟩ : ∃ L, L = l.getD k Mf.nought := ⟨_, rfl⟩
          rw [← hLk] at hL h1 h2
          have hLA : MfAt wr (mfV L v1 v2) L := ⟨v1, v2, rfl, h1, h2⟩
          obtain ⟨ax3, cx3, rfl⟩ := slC_slice h1
          obtain ⟨ap3, cp3, rfl⟩ := slC_slice h2
          obtain ⟨nx3, hnx3⟩ : ∃ n, n = L.ext.length := ⟨_, rfl⟩
          obtain ⟨np3, hnp3⟩ : ∃ n, n = L.ports.length := ⟨_, rfl⟩
          obtain ⟨P3, hP3⟩ : ∃ n, n = L.pages := ⟨_, rfl⟩
          obtain ⟨C3, hC3⟩ : ∃ n, n = L.con := ⟨_, rfl⟩
          unfold mfV at hLA
          have hm4 := fun W (hW : Below wr.heap.size wr W) => (hL.below hW hbl).mf
          rw [← hnx3, ← hnp3, ← hP3, ← hC3] at hLA hm4
          have HFL : mfFits L := by rw [hLk]; exact HF.out.2 k (by rw [← HN.out]; exact hlt)
          obtain ⟨q, hq⟩ : ∃ q, q = coversR x L := ⟨_, rfl⟩
          have HCb : Hid (∀ W, Below wr.heap.size wr W → (W.cell? ⟨w.heap.size, 0, none⟩ = some (.int .u32 P) ∧ W.cell? ⟨w.heap.size, 1, none⟩ = some (.slice ax nx cx) ∧ W.cell? ⟨w.heap.size, 2, none⟩ = some (.slice ap np cp) ∧ W.cell? ⟨w.heap.size, 3, none⟩ = some (.bool C)) ∧
            (W.cell? ⟨g, 0, none⟩ = some (.int .u32 P2) ∧ W.cell? ⟨g, 1, none⟩ = some (.slice ax2 nx2 cx2) ∧ W.cell? ⟨g, 2, none⟩ = some (.slice ap2 np2 cp2) ∧ W.cell? ⟨g, 3, none⟩ = some (.bool C2)) ∧
            (W.cell? ⟨b0, o0 + k * 4, none⟩ = some (.int .u32 P3) ∧ W.cell? ⟨b0, o0 + k * 4 + 1, none⟩ = some (.slice ax3 nx3 cx3) ∧ W.cell? ⟨b0, o0 + k * 4 + 2, none⟩ = some (.slice ap3 np3 cp3) ∧ W.cell? ⟨b0, o0 + k * 4 + 3, none⟩ = some (.bool C3))) := Lib.hid (fun W hW => ⟨((HK4.out.call HB.out).call hW).four, ((HG4.out.call HB.out).call hW).four, hm4 W hW⟩)
          have H1 : Hid (∀ W, Below wr.heap.size wr W → Calls Try.prog 14 #[.agg #[.int .u32 P2, .slice ax2 nx2 cx2, .slice ap2 np2 cp2, .bool C2], .agg #[.int .u32 P3, .slice ax3 nx3 cx3, .slice ap3 np3 cp3, .bool C3]] W fun e w' => e = .returned (.bool true) ∧ Below wr.heap.size wr w') := Lib.hid (fun W hW => (dcovers_any _ _ U L W ((HU4.out.below HB.out).below hW) (hLA.below hW) HFU.out HFL).mono fun e w' ⟨h1, h2⟩ => ⟨by rw [h1, hLk, HE1.out.2 k (by rw [← HN.out]; exact hlt)], below_call hW h2⟩)
          have H2 : Hid (∀ W, Below wr.heap.size wr W → Calls Try.prog 14 #[.agg #[.int .u32 P, .slice ax nx cx, .slice ap np cp, .bool C], .agg #[.int .u32 P3, .slice ax3 nx3 cx3, .slice ap3 np3 cp3, .bool C3]] W fun e w' => e = .returned (.bool q) ∧ Below wr.heap.size wr w') := Lib.hid (fun W hW => (dcovers_any _ _ x L W (HX.out W (below_call HBw.out hW)) (hLA.below hW) HFX.out HFL).mono fun e w' ⟨h1, h2⟩ => ⟨by rw [h1, hq], below_call hW h2⟩)
          have HQ : Hid (coversR x (l.getD k Mf.nought) = q) := Lib.hid (by rw [← hLk, hq])
          clear hcl0 hcl hL h1 h2 hLk hLA hnx3 hnp3 hP3 hC3 hm4 HFL hq hbl
          go_upto_region 10 with (fail)
          refine qy_region (C := fun W => Below wr.heap.size wr W) (by kernel_rfl) (by kernel_rfl) (Below.refl _ _).drew ?_
          refine qy_by rfl (.agg #[.int .u32 P2, .slice ax2 nx2 cx2, .slice ap2 np2 cp2, .bool C2]) (fun W hW => by simp [go_sem, (HCb.out W hW).2.1.1, (HCb.out W hW).2.1.2.1, (HCb.out W hW).2.1.2.2.1, (HCb.out W hW).2.1.2.2.2]) ?_
          simp only [Act.put, List.setIfInBounds_toArray, List.set_cons_zero, List.set_cons_succ]
          refine qy_by rfl (.slice (some ⟨b0, o0, none⟩) n cl) (fun W _ => by simp [go_sem]) ?_
          simp only [Act.put, List.setIfInBounds_toArray, List.set_cons_zero, List.set_cons_succ]
          refine qy_by rfl (.int .i64 (k : Int)) (fun W _ => by simp [go_sem]) ?_
          simp only [Act.put, List.setIfInBounds_toArray, List.set_cons_zero, List.set_cons_succ]
          refine qy_by rfl (.pointer (some ⟨b0, o0 + k * 4, none⟩)) (fun W _ => by simp [go_sem, hlt]) ?_
          simp only [Act.put, List.setIfInBounds_toArray, List.set_cons_zero, List.set_cons_succ]
          refine qy_by rfl (.agg #[.int .u32 P3, .slice ax3 nx3 cx3, .slice ap3 np3 cp3, .bool C3]) (fun W hW => by simp [go_sem, (HCb.out W hW).2.2.1, (HCb.out W hW).2.2.2.1, (HCb.out W hW).2.2.2.2.1, (HCb.out W hW).2.2.2.2.2]) ?_
          simp only [Act.put, List.setIfInBounds_toArray, List.set_cons_zero, List.set_cons_succ]
          refine qy_call rfl 14 #[.agg #[.int .u32 P2, .slice ax2 nx2 cx2, .slice ap2 np2 cp2, .bool C2], .agg #[.int .u32 P3, .slice ax3 nx3 cx3, .slice ap3 np3 cp3, .bool C3]] (.bool true) (fun W _ => by simp [go_sem]) (fun W hW => H1.out W hW) ?_
          simp only [Act.put, List.setIfInBounds_toArray, List.set_cons_zero, List.set_cons_succ]
          refine qy_by rfl (.bool false) (fun W _ => by simp [go_sem]) ?_
          simp only [Act.put, List.setIfInBounds_toArray, List.set_cons_zero, List.set_cons_succ]
          refine wpQuiet_nil ?_
          intro w7 q7
          cases b with
          | true =>
            go_upto_region 12 with (fail)
            refine qy_region (C := fun W => Below wr.heap.size wr W) (by kernel_rfl) (by kernel_rfl) q7.drew ?_
            refine qy_by rfl (.bool true) (fun W _ => by simp [go_sem]) ?_
            simp only [Act.put, List.setIfInBounds_toArray, List.set_cons_zero, List.set_cons_succ]
            refine qy_by rfl (.bool true) (fun W _ => by simp [go_sem]) ?_
            simp only [Act.put, List.setIfInBounds_toArray, List.set_cons_zero, List.set_cons_succ]
            refine qg_by (by rfl) (.agg #[.int .u32 P, .slice ax nx cx, .slice ap np cp, .bool C]) (fun W hW => by simp [go_sem, (HCb.out W hW).1.1, (HCb.out W hW).1.2.1, (HCb.out W hW).1.2.2.1, (HCb.out W hW).1.2.2.2]) ?_
            simp only [Act.put, List.setIfInBounds_toArray, List.set_cons_zero, List.set_cons_succ]
            refine qg_by (by rfl) (.slice (some ⟨b0, o0, none⟩) n cl) (fun W _ => by simp [go_sem]) ?_
            simp only [Act.put, List.setIfInBounds_toArray, List.set_cons_zero, List.set_cons_succ]
            refine qg_by (by rfl) (.int .i64 (k : Int)) (fun W _ => by simp [go_sem]) ?_
            simp only [Act.put, List.setIfInBounds_toArray, List.set_cons_zero, List.set_cons_succ]
            refine qg_by (by rfl) (.pointer (some ⟨b0, o0 + k * 4, none⟩)) (fun W _ => by simp [go_sem, hlt]) ?_
            simp only [Act.put, List.setIfInBounds_toArray, List.set_cons_zero, List.set_cons_succ]
            refine qg_by (by rfl) (.agg #[.int .u32 P3, .slice ax3 nx3 cx3, .slice ap3 np3 cp3, .bool C3]) (fun W hW => by simp [go_sem, (HCb.out W hW).2.2.1, (HCb.out W hW).2.2.2.1, (HCb.out W hW).2.2.2.2.1, (HCb.out W hW).2.2.2.2.2]) ?_
            simp only [Act.put, List.setIfInBounds_toArray, List.set_cons_zero, List.set_cons_succ]
            refine qg_call (by rfl) 14 #[.agg #[.int .u32 P, .slice ax nx cx, .slice ap np cp, .bool C], .agg #[.int .u32 P3, .slice ax3 nx3 cx3, .slice ap3 np3 cp3, .bool C3]] (.bool q) (fun W _ => by simp [go_sem]) (fun W hW => H2.out W hW) ?_
            simp only [Act.put, List.setIfInBounds_toArray, List.set_cons_zero, List.set_cons_succ]
            refine qy_by rfl (.bool q) (fun W _ => by simp [go_sem]) ?_
            simp only [Act.put, List.setIfInBounds_toArray, List.set_cons_zero, List.set_cons_succ]
            refine qy_by rfl (.bool q) (fun W _ => by simp [go_sem]) ?_
            simp only [Act.put, List.setIfInBounds_toArray, List.set_cons_zero, List.set_cons_succ]
            refine wpQuiet_nil ?_
            intro w8 q8
            have HB2 : Hid (Below w4.heap.size w4 w8) := Lib.hid (below_call HB.out q8)
            have HBc : Hid (q = true ↔ ∀ j, j < k + 1 → coversR x (l.getD j Mf.nought) = true) := Lib.hid ⟨fun h j hj => by
              by_cases hj2 : j = k
              · subst hj2; rw [HQ.out, h]
              · exact HBb.out.1 rfl j (by omega), fun h => by rw [← HQ.out]; exact h k (by omega)⟩
            clear q7 q8 HCb H1 H2 HB HBw HBb
            go_wp2_with fail
            go_roundw
            case rel => exact ⟨k + 1, q, by omega, by go_num, rfl, HBc, HB2⟩
            case measure => simp [intOf]; omega
          | false =>
            go_upto_region 12 with (fail)
            refine qy_region (C := fun W => Below wr.heap.size wr W) (by kernel_rfl) (by kernel_rfl) q7.drew ?_
            refine qy_by rfl (.bool false) (fun W _ => by simp [go_sem]) ?_
            simp only [Act.put, List.setIfInBounds_toArray, List.set_cons_zero, List.set_cons_succ]
            refine qy_by rfl (.bool false) (fun W _ => by simp [go_sem]) ?_
            simp only [Act.put, List.setIfInBounds_toArray, List.set_cons_zero, List.set_cons_succ]
            refine BigFrame.wpQuiet_skip (by rfl) ?_
            simp only [Act.put, List.setIfInBounds_toArray, List.set_cons_zero, List.set_cons_succ]
            refine BigFrame.wpQuiet_skip (by rfl) ?_
            simp only [Act.put, List.setIfInBounds_toArray, List.set_cons_zero, List.set_cons_succ]
            refine BigFrame.wpQuiet_skip (by rfl) ?_
            simp only [Act.put, List.setIfInBounds_toArray, List.set_cons_zero, List.set_cons_succ]
            refine BigFrame.wpQuiet_skip (by rfl) ?_
            simp only [Act.put, List.setIfInBounds_toArray, List.set_cons_zero, List.set_cons_succ]
            refine BigFrame.wpQuiet_skip (by rfl) ?_
            simp only [Act.put, List.setIfInBounds_toArray, List.set_cons_zero, List.set_cons_succ]
            refine BigFrame.wpQuiet_skip (by rfl) ?_
            simp only [Act.put, List.setIfInBounds_toArray, List.set_cons_zero, List.set_cons_succ]
            refine qy_by rfl (.bool false) (fun W _ => by simp [go_sem]) ?_
            simp only [Act.put, List.setIfInBounds_toArray, List.set_cons_zero, List.set_cons_succ]
            refine qy_by rfl (.bool false) (fun W _ => by simp [go_sem]) ?_
            simp only [Act.put, List.setIfInBounds_toArray, List.set_cons_zero, List.set_cons_succ]
            refine wpQuiet_nil ?_
            intro w8 q8
            have HB2 : Hid (Below w4.heap.size w4 w8) := Lib.hid (below_call HB.out q8)
            have HBc : Hid (false = true ↔ ∀ j, j < k + 1 → coversR x (l.getD j Mf.nought) = true) := Lib.hid ⟨fun h => absurd h (by decide), fun h => HBb.out.2 fun j hj => h j (by omega)⟩
            clear q7 q8 HCb H1 H2 HB HBw HBb
            go_wp2_with fail
            go_roundw
            case rel => exact ⟨k + 1, false, by omega, by go_num, rfl, HBc, HB2⟩
            case measure => simp [intOf]; omega
        · have hd : decide (k < n) = false := decide_eq_false hlt
          have HBw : Hid (Below w.heap.size w wr) := Lib.hid (below_call HB4.out HB.out)
          have HKw := Lib.hid (HK4.out.call HB.out)
          have HGw := Lib.hid (HG4.out.call HB.out)
          have HUw := Lib.hid (HU4.out.below HB.out)
          have HBQ : Hid (mfOk x = true → coversR x U = b) := Lib.hid fun ho => by
            have h1 := HE2.out ho
            have h2 := HBb.out
            have h3 : k = l.length := by have := HN.out; omega
            rw [h3] at h2
            have h4 : b = true ↔ coversR x U = true := h2.trans h1
            cases b with
            | true => exact h4.1 rfl
            | false =>
              cases hc : coversR x U with
              | true => exact absurd (h4.2 hc) (by decide)
              | false => rfl
          obtain ⟨m0, m1, m2, m3⟩ := HKw.out.four
          clear hlt HB HBb HK4 HG4 HU4 HB4
          obtain ⟨ox, hox⟩ : ∃ b, b = mfOk x := ⟨_, rfl⟩
          go_wp2_with fail
          refine (check_any _ x HFX.out _ (HX.out _ HBw.out)).mono ?_; rintro e w7 ⟨he7, q7⟩
          rw [← hox] at he7
          rw [← hox] at HBQ
          have HB7 := Lib.hid (below_call HBw.out q7)
          have HK7 := Lib.hid (HKw.out.call q7)
          have HG7 := Lib.hid (HGw.out.call q7)
          have HU7 := Lib.hid (HUw.out.below q7)
          clear q7 HBw HKw HGw HUw m0 m1 m2 m3 hox
          cases ox with
          | true =>
            rw [okI_t] at he7
            subst he7
            have HBQ2 := Lib.hid (HBQ.out rfl)
            obtain ⟨m0, m1, m2, m3⟩ := HK7.out.four
            obtain ⟨g0, g1, g2, g3⟩ := HG7.out.four
            go_wp2_with fail
            refine (dcovers_any _ _ x U _ (HX.out _ HB7.out) HU7.out HFX.out HFU.out).mono ?_; rintro e w8 ⟨he8, q8⟩
            rw [HBQ2.out] at he8
            subst he8
            have HB8 := Lib.hid (below_call HB7.out q8)
            have HG8 := Lib.hid (HG7.out.call q8)
            have HU8 := Lib.hid (HU7.out.below q8)
            clear q8 m0 m1 m2 m3 g0 g1 g2 g3 HB7 HK7 HG7 HU7
            cases b with
            | true =>
              obtain ⟨g0, g1, g2, g3⟩ := HG8.out.four
              go_wp2_with fail
              refine (check_any _ U HFU.out _ HU8.out).mono ?_; rintro e w9 ⟨he9, q9⟩
              rw [HE1.out.1, okI_t] at he9
              subst he9
              have HB9 := Lib.hid (below_call HB8.out q9)
              clear q9 g0 g1 g2 g3
              go_wp2_with fail
              refine (dalive_any _).mono ?_; rintro e w10 ⟨rfl, q10⟩
              have HB10 := Lib.hid (below_call HB9.out q10)
              clear q10
              go_wp2_with fail
              go_ret
              exact ⟨rfl, HB10.out⟩
            | false =>
              obtain ⟨g0, g1, g2, g3⟩ := HG8.out.four
              go_wp2_with fail
              refine (check_any _ U HFU.out _ HU8.out).mono ?_; rintro e w9 ⟨he9, q9⟩
              rw [HE1.out.1, okI_t] at he9
              subst he9
              have HB9 := Lib.hid (below_call HB8.out q9)
              clear q9 g0 g1 g2 g3
              go_wp2_with fail
              refine (dalive_any _).mono ?_; rintro e w10 ⟨rfl, q10⟩
              have HB10 := Lib.hid (below_call HB9.out q10)
              clear q10
              go_wp2_with fail
              go_ret
              exact ⟨rfl, HB10.out⟩
          | false =>
            rw [okI_f] at he7
            subst he7
            clear HK7
            obtain ⟨g0, g1, g2, g3⟩ := HG7.out.four
            go_wp2_with fail
            refine (check_any _ U HFU.out _ HU7.out).mono ?_; rintro e w9 ⟨he9, q9⟩
            rw [HE1.out.1, okI_t] at he9
            subst he9
            have HB9 := Lib.hid (below_call HB7.out q9)
            clear q9 g0 g1 g2 g3
            go_wp2_with fail
            refine (dalive_any _).mono ?_; rintro e w10 ⟨rfl, q10⟩
            have HB10 := Lib.hid (below_call HB9.out q10)
            clear q10
            go_wp2_with fail
            go_ret
            exact ⟨rfl, HB10.out⟩
end Go.Proofs.Ytmfebmiigkmkbaa
