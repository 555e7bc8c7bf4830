/- The document's Covers. -/
import Derived.Test.YtmfebmiigkmkbaaEB
import Derived.Test.YtmfebmiigkmkbaaDT
import Derived.Test.YtmfebmiigkmkbaaQV
set_option linter.unusedVariables false
set_option linter.unusedSimpArgs false
namespace Go.Proofs.Ytmfebmiigkmkbaa
open Go Go.RowKit Oj Dm

set_option maxHeartbeats 16000000 in
set_option maxRecDepth 100000 in
theorem rcovers_any (v u : Value) (m n : Mf) (w : World) (hA : MfAt w v m) (hA2 : MfAt w u n) (hW : MfWf v) (hf : mfFits m) (hf2 : mfFits n) : Calls Try.prog 15 #[v, u] w fun e w' => e = .returned (.bool (coversR m n)) ∧ Below w.heap.size w w' := by
  have HC := Lib.hid (fun W (hq : Below w.heap.size w W) => rmay_any v m hf W (hA.below hq))
  have HC2 := Lib.hid (fun W (hq : Below w.heap.size w W) => rmay_any u n hf2 W (hA2.below hq))
  have HNt := Lib.hid (fun W (hq : Below w.heap.size w W) => rnotes_any u n W (hA2.below hq) hf2)
  have HV := Lib.hid (fun x (h3 : ntFits x) W (hq : Below w.heap.size w W) => rmnote_any v m x W (hA.below hq) hW hf h3)
  have HGd : Hid (ntsFit (notesR n) ∧ (notesR n).length ≤ 34) := Lib.hid (by
    unfold notesR
    split
    · rename_i h1
      have h2 := hf2.fine h1
      have h3 := notes_len n
      have h4 := ext16 h2.1
      have h5 := good_notes h2.1
      exact ⟨good_fits h5 (by omega), by omega⟩
    · exact ⟨⟨by simp, fun j hj => by simp at hj⟩, by simp⟩)
  have HNo : Hid (∀ j, j < (notesR n).length → noteR m ((notesR n).getD j Nt.nought) = false → coversR m n = false) := Lib.hid fun j hj h => by
    unfold coversR
    by_cases h1 : mfOk m = true
    · by_cases h2 : mfOk n = true
      · have h3 : notesR n = notesOf n := by unfold notesR; rw [if_pos h2]
        rw [h3] at hj h
        have h4 := good_notes (hf2.fine h2).1 _ ((mem_at Nt.nought).2 ⟨j, hj, rfl⟩)
        unfold noteR at h
        rw [h1, h4.1, Bool.true_and, Bool.true_and] at h
        rw [all_false Nt.nought hj h, Bool.and_false]
      · rw [Bool.eq_false_iff.2 h2, Bool.and_false, Bool.false_and]
    · rw [Bool.eq_false_iff.2 h1, Bool.false_and, Bool.false_and]
  have HYes : Hid ((∀ j, j < (notesR n).length → noteR m ((notesR n).getD j Nt.nought) = true) → coversR m n = (mfOk m && mfOk n)) := Lib.hid fun h => by
    unfold coversR
    by_cases h2 : mfOk n = true
    · have h3 : notesR n = notesOf n := by unfold notesR; rw [if_pos h2]
      rw [h3] at h
      rw [all_true Nt.nought fun j hj => ?_, Bool.and_true]
      have h4 := h j hj
      unfold noteR at h4
      simp only [Bool.and_eq_true] at h4
      exact h4.2
    · rw [Bool.eq_false_iff.2 h2, Bool.and_false, Bool.false_and]
  obtain ⟨P, ax, nx, cx, ap, np, cp, C, hv⟩ := hA.open
  obtain ⟨P2, ax2, nx2, cx2, ap2, np2, cp2, C2, hv2⟩ := hA2.open
  subst hv hv2
  have HB0 := Lib.hid (below_new2 w (.cells #[.int .u32 P, .slice ax nx cx, .slice ap np cp, .bool C] 26) (.cells #[.int .u32 P2, .slice ax2 nx2 cx2, .slice ap2 np2 cp2, .bool C2] 26))
  have HK0 : Hid (Blk ((w.alloc (.cells #[.int .u32 P, .slice ax nx cx, .slice ap np cp, .bool C] 26)).alloc (.cells #[.int .u32 P2, .slice ax2 nx2 cx2, .slice ap2 np2 cp2, .bool C2] 26)) w.heap.size 26 [.int .u32 P, .slice ax nx cx, .slice ap np cp, .bool C]) := Lib.hid ((Blk.new w 26 _).alloc _)
  have HQ0 : Hid (Blk ((w.alloc (.cells #[.int .u32 P, .slice ax nx cx, .slice ap np cp, .bool C] 26)).alloc (.cells #[.int .u32 P2, .slice ax2 nx2 cx2, .slice ap2 np2 cp2, .bool C2] 26)) (w.heap.size + 1) 26 [.int .u32 P2, .slice ax2 nx2 cx2, .slice ap2 np2 cp2, .bool C2]) := Lib.hid (Blk.new2 w _ 26 _)
  obtain ⟨b1, hb1⟩ : ∃ b, b = mfOk m := ⟨_, rfl⟩
  obtain ⟨b2, hb2⟩ : ∃ b, b = mfOk n := ⟨_, rfl⟩
  rw [← hb1] at HC
  rw [← hb2] at HC2
  rw [← hb1, ← hb2] at HYes
  obtain ⟨L, hL⟩ : ∃ L, L = notesR n := ⟨_, rfl⟩
  rw [← hL] at HGd HNo HYes HNt
  clear hb1 hb2 hA hA2 hf hf2 hW hL
  go_enter Try.func15, Try.ntmps15
  go_wp2_with fail
  refine (HNt.out _ HB0.out).mono ?_; rintro e w3 ⟨v3, rfl, hO, q3⟩
  have HB3 := Lib.hid (below_call HB0.out q3)
  have HK3 := Lib.hid (HK0.out.call q3)
  have HQ3 := Lib.hid (HQ0.out.call q3)
  obtain ⟨a3, c3, hv3, hcl⟩ := hO.at
  obtain ⟨n', hn⟩ : ∃ n, n = L.length := ⟨_, rfl⟩
  rw [← hn] at hv3 hcl
  subst hv3
  have hni : (n' : Int) ≤ 34 := by have := HGd.out.2; omega
  have HN := Lib.hid hn
  have HCl := Lib.hid hcl
  clear q3 hO hn hcl HB0 HK0 HQ0
  go_wp2_with fail
  go_loopw [6] (fun i wr => ∃ k : Nat, (k : Int) ≤ n' ∧ i = .int .i64 k ∧ Hid (∀ j, j < k → noteR m (L.getD j Nt.nought) = true) ∧ Hid (Below w.heap.size w wr) ∧ Hid (Below w3.heap.size w3 wr)) (fun i _ => n' - (intOf i).toNat)
  case atStart => exact ⟨0, by omega, rfl, Lib.hid fun j hj => absurd hj (by omega), HB3, Lib.hid (Below.refl _ _)⟩
  case round =>
    clear HB3
    obtain ⟨k, hk, rfl, HK, HB, HB3⟩ := hrel
    have HMw : Hid (Blk wr w.heap.size 26 [.int .u32 P, .slice ax nx cx, .slice ap np cp, .bool C]) := Lib.hid (HK3.out.call HB3.out)
    have HQw : Hid (Blk wr (w.heap.size + 1) 26 [.int .u32 P2, .slice ax2 nx2 cx2, .slice ap2 np2 cp2, .bool C2]) := Lib.hid (HQ3.out.call HB3.out)
    by_cases hlt : k < n'
    · have hd : decide (k < n') = true := decide_eq_true hlt
      obtain ⟨b, o, rfl, hbl, hcl⟩ := HCl.out (by omega)
      obtain ⟨x, hx⟩ : ∃ x, x = L.getD k Nt.nought := ⟨_, rfl⟩
      have hfx := HGd.out.1.2 k (by rw [← HN.out]; exact hlt)
      have hLx := hcl k hlt
      rw [← hx] at hLx hfx
      have hbr : b < wr.heap.size := Nat.lt_of_lt_of_le hbl HB3.out.size
      have HVx := Lib.hid (fun W hq => HV.out x hfx W hq)
      obtain ⟨x0, h0⟩ : ∃ y, y = x.kind := ⟨_, rfl⟩
      obtain ⟨x1, h1⟩ : ∃ y, y = x.n := ⟨_, rfl⟩
      obtain ⟨x2, h2⟩ : ∃ y, y = x.m := ⟨_, rfl⟩
      obtain ⟨q, hq⟩ : ∃ q, q = noteR m x := ⟨_, rfl⟩
      unfold ntV at HVx
      rw [← h0, ← h1, ← h2, ← hq] at HVx
      have HCb : Hid (∀ W, Below wr.heap.size wr W → (W.cell? ⟨w.heap.size, 0, none⟩ = some (.int .u32 P) ∧ W.cell? ⟨w.heap.size, 1, none⟩ = some (.slice ax nx cx) ∧ W.cell? ⟨w.heap.size, 2, none⟩ = some (.slice ap np cp) ∧ W.cell? ⟨w.heap.size, 3, none⟩ = some (.bool C)) ∧
          (W.cell? ⟨b, o + k * 3, none⟩ = some (.int .u8 x0) ∧ W.cell? ⟨b, o + k * 3 + 1, none⟩ = some (.int .u32 x1) ∧ W.cell? ⟨b, o + k * 3 + 2, none⟩ = some (.int .u32 x2))) := Lib.hid (fun W hW => ⟨(HMw.out.call hW).four, by
        rw [h0, h1, h2]; exact ((hLx.below HB3.out hbl).below hW hbr).nt⟩)
      have HFk : Hid (∀ W, Below wr.heap.size wr W → Calls Try.prog 13 #[.agg #[.int .u32 P, .slice ax nx cx, .slice ap np cp, .bool C], .agg #[.int .u8 x0, .int .u32 x1, .int .u32 x2]] W fun e w' => e = .returned (.bool q) ∧ Below wr.heap.size wr w') := Lib.hid (fun W hW => (HVx.out W (below_call HB.out hW)).mono fun e w' ⟨h1, h2⟩ => ⟨h1, below_call hW h2⟩)
      have HQ : Hid (noteR m (L.getD k Nt.nought) = q) := Lib.hid (by rw [← hx, hq])
      clear hLx hfx hx h0 h1 h2 hq hcl HVx
      go_upto_region 5 with (fail)
      refine qy_region (C := fun W => Below wr.heap.size wr W) (by kernel_rfl) (by kernel_rfl) (Below.refl _ _).drew ?_
      refine qy_by rfl (.agg #[.int .u32 P, .slice ax nx cx, .slice ap np cp, .bool C]) (fun W hW => by simp [go_sem, (HCb.out W hW).1.1, (HCb.out W hW).1.2.1, (HCb.out W hW).1.2.2.1, (HCb.out W hW).1.2.2.2]) ?_
      simp only [Act.put, List.setIfInBounds_toArray, List.set_cons_zero, List.set_cons_succ]
      refine qy_by rfl (.slice (some ⟨b, o, none⟩) n' c3) (fun W _ => by simp [go_sem]) ?_
      simp only [Act.put, List.setIfInBounds_toArray, List.set_cons_zero, List.set_cons_succ]
      refine qy_by rfl (.int .i64 (k : Int)) (fun W _ => by simp [go_sem]) ?_
      simp only [Act.put, List.setIfInBounds_toArray, List.set_cons_zero, List.set_cons_succ]
      refine qy_by rfl (.pointer (some ⟨b, o + k * 3, none⟩)) (fun W _ => by simp [go_sem, hlt]) ?_
      simp only [Act.put, List.setIfInBounds_toArray, List.set_cons_zero, List.set_cons_succ]
      refine qy_by rfl (.agg #[.int .u8 x0, .int .u32 x1, .int .u32 x2]) (fun W hW => by simp [go_sem, (HCb.out W hW).2.1, (HCb.out W hW).2.2.1, (HCb.out W hW).2.2.2]) ?_
      simp only [Act.put, List.setIfInBounds_toArray, List.set_cons_zero, List.set_cons_succ]
      refine qy_call rfl 13 #[.agg #[.int .u32 P, .slice ax nx cx, .slice ap np cp, .bool C], .agg #[.int .u8 x0, .int .u32 x1, .int .u32 x2]] (.bool q) (fun W _ => by simp [go_sem]) (fun W hW => HFk.out W hW) ?_
      simp only [Act.put, List.setIfInBounds_toArray, List.set_cons_zero, List.set_cons_succ]
      refine qy_by rfl (.bool (!q)) (fun W _ => by simp [go_sem]) ?_
      simp only [Act.put, List.setIfInBounds_toArray, List.set_cons_zero, List.set_cons_succ]
      refine wpQuiet_nil ?_
      intro w4 q4
      have HB4 := Lib.hid (below_call HB.out q4)
      have HB5 := Lib.hid (below_call HB3.out q4)
      clear q4 HCb HFk
      cases q with
      | true =>
        have HK2 : Hid (∀ j, j < k + 1 → noteR m (L.getD j Nt.nought) = true) := Lib.hid fun j hj => by
          by_cases he : j = k
          · subst he; exact HQ.out
          · exact HK.out j (by omega)
        clear HK HB HB3 HMw HQw
        go_wp2_with fail
        go_roundw
        case rel => exact ⟨k + 1, by omega, by go_num, HK2, HB4, HB5⟩
        case measure => simp [intOf]; omega
      | false =>
        have HR9 : Hid (coversR m n = false) := Lib.hid (HNo.out k (by rw [← HN.out]; exact hlt) HQ.out)
        clear HK
        go_wp2_with fail
        go_ret
        exact ⟨ret_bool HR9.out.symm, HB4.out⟩
    · have hd : decide (k < n') = false := decide_eq_false hlt
      have HR9 : Hid (coversR m n = (b1 && b2)) := Lib.hid (HYes.out fun j hj => HK.out j (by rw [← HN.out] at hj; omega))
      obtain ⟨m0, m1, m2, m3⟩ := HMw.out.four
      clear hlt HK HYes
      cases b1 with
      | false =>
        go_wp2_with fail
        refine (HC.out _ HB.out).mono ?_; rintro e w4 ⟨rfl, q4⟩
        have HB4 := Lib.hid (below_call HB.out q4)
        clear q4 m0 m1 m2 m3
        go_wp2_with fail
        go_ret
        exact ⟨ret_bool (by rw [HR9.out]; rfl), HB4.out⟩
      | true =>
        go_wp2_with fail
        refine (HC.out _ HB.out).mono ?_; rintro e w4 ⟨rfl, q4⟩
        have HB4 := Lib.hid (below_call HB.out q4)
        obtain ⟨n0, n1, n2, n3⟩ := (HQw.out.call q4).four
        clear q4 m0 m1 m2 m3
        go_wp2_with fail
        refine (HC2.out _ HB4.out).mono ?_; rintro e w5 ⟨rfl, q5⟩
        have HB5 := Lib.hid (below_call HB4.out q5)
        clear q5 n0 n1 n2 n3
        go_wp2_with fail
        go_ret
        exact ⟨ret_bool (by rw [HR9.out]; rfl), HB5.out⟩
end Go.Proofs.Ytmfebmiigkmkbaa
