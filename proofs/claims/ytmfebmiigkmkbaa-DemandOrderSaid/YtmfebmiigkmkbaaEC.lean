/- The document's Of. -/
import Derived.Test.YtmfebmiigkmkbaaEB
import Derived.Test.YtmfebmiigkmkbaaDR
set_option linter.unusedVariables false
set_option linter.unusedSimpArgs false
namespace Go.Proofs.Ytmfebmiigkmkbaa
open Go Go.RowKit Oj Dm

/-- The manifest that Of makes, in its block. -/
def MBlk (w : World) (B g : Nat) (m : Mf) : Prop := ∃ vx vp, Blk w g 26 [.int .u32 m.pages, vx, vp, .bool m.con] ∧ OwnX w B vx m.ext ∧ OwnP w B vp m.ports
theorem MBlk.below {w w' : World} {B g : Nat} {m : Mf} (h : MBlk w B g m) (hb : Below w.heap.size w w') : MBlk w' B g m := by
  obtain ⟨vx, vp, h1, h2, h3⟩ := h
  exact ⟨vx, vp, h1.call hb, row_below h2 hb, row_below h3 hb⟩

set_option maxHeartbeats 16000000 in
set_option maxRecDepth 100000 in
theorem rof_any (v : Value) (l : List Nt) (w : World) (hA : NotesAt w v l) (hf : ntsFit l) (hl : l.length ≤ 1048574) : Calls Try.prog 21 #[v] w (MPost w (ofR l)) := by
  obtain ⟨a, c, rfl, h3⟩ := hA
  obtain ⟨n, hn⟩ : ∃ n, n = l.length := ⟨_, rfl⟩
  have hni : (n : Int) ≤ 1048574 := by omega
  rw [← hn] at h3 ⊢
  have HN := Lib.hid hn
  have H3 := Lib.hid h3
  have HF := Lib.hid hf.2
  have HB0 := Lib.hid (below_new2 w (.cells #[.int .u32 0, .slice none 0 0, .slice none 0 0, .bool false] 26) (.cells #[.int .u32 0, .slice none 0 0, .slice none 0 0, .bool false] 26))
  have HR0 : Hid (Blk ((w.alloc (.cells #[.int .u32 0, .slice none 0 0, .slice none 0 0, .bool false] 26)).alloc (.cells #[.int .u32 0, .slice none 0 0, .slice none 0 0, .bool false] 26)) w.heap.size 26 zM) := Lib.hid ((Blk.new w 26 zM).alloc _)
  have HM0 : Hid (MBlk ((w.alloc (.cells #[.int .u32 0, .slice none 0 0, .slice none 0 0, .bool false] 26)).alloc (.cells #[.int .u32 0, .slice none 0 0, .slice none 0 0, .bool false] 26)) w.heap.size (w.heap.size + 1) (gat (l.take 0))) := Lib.hid ⟨.slice none 0 0, .slice none 0 0, Blk.new2 w _ 26 zM, World.ownsRow_nil _ _ _ _, World.ownsRow_nil _ _ _ _⟩
  clear hn h3 hf hl
  go_enter Try.func21, Try.ntmps21
  go_wp2_with fail
  go_loopw [5] (fun i wr => ∃ k : Nat, (k : Int) ≤ n ∧ i = .int .i64 k ∧ Hid (∀ j, j < k → noteOk (l.getD j Nt.nought) = true) ∧ Hid (Below w.heap.size w wr) ∧ Hid (Blk wr w.heap.size 26 zM) ∧ Hid (MBlk wr w.heap.size (w.heap.size + 1) (gat (l.take 0)))) (fun i _ => n - (intOf i).toNat)
  case atStart => exact ⟨0, by omega, rfl, Lib.hid fun j hj => absurd hj (by omega), HB0, HR0, HM0⟩
  case round =>
    clear HB0 HR0 HM0
    obtain ⟨k, hk, rfl, HK, HB, HR, HM⟩ := hrel
    by_cases hlt : k < n
    · have hd : decide (k < n) = true := decide_eq_true hlt
      obtain ⟨b, o, rfl, hbl, hcl⟩ := H3.out (by omega)
      obtain ⟨x, hx⟩ : ∃ x, x = l.getD k Nt.nought := ⟨_, rfl⟩
      have hL := (hcl k hlt).below HB.out hbl
      have hfx := HF.out k (by rw [← HN.out]; exact hlt)
      rw [← hx] at hL hfx
      obtain ⟨c0, c1, c2⟩ := hL.nt
      have HC := Lib.hid (fun W => rnote_any x hfx W)
      obtain ⟨x0, h0⟩ : ∃ y, y = x.kind := ⟨_, rfl⟩
      obtain ⟨x1, h1⟩ : ∃ y, y = x.n := ⟨_, rfl⟩
      obtain ⟨x2, h2⟩ : ∃ y, y = x.m := ⟨_, rfl⟩
      obtain ⟨q, hq⟩ : ∃ q, q = noteOk x := ⟨_, rfl⟩
      unfold ntV at HC
      rw [← h0, ← h1, ← h2, ← hq] at HC
      rw [← h0] at c0
      rw [← h1] at c1
      rw [← h2] at c2
      have HQ : Hid (noteOk (l.getD k Nt.nought) = q) := Lib.hid (by rw [← hx, hq])
      clear hL hfx hx h0 h1 h2 hq hcl
      cases q with
      | true =>
        have HK2 : Hid (∀ j, j < k + 1 → noteOk (l.getD j Nt.nought) = true) := Lib.hid fun j hj => by
          by_cases he : j = k
          · subst he; exact HQ.out
          · exact HK.out j (by omega)
        clear HK
        go_wp2_with fail
        refine (HC.out _).mono ?_; rintro e w2 ⟨rfl, q2⟩
        have HB2 := Lib.hid (below_call HB.out q2)
        have HR2 := Lib.hid (HR.out.call q2)
        have HM2 := Lib.hid (HM.out.below q2)
        clear q2 c0 c1 c2
        go_wp2_with fail
        go_roundw
        case rel => exact ⟨k + 1, by omega, by go_num, HK2, HB2, HR2, HM2⟩
        case measure => simp [intOf]; omega
      | false =>
        have HR9 : Hid (ofR l = (Mf.nought, 2)) := Lib.hid (by
          unfold ofR allNotes
          rw [allN_false (k := k) (by rw [← HN.out]; exact hlt) HQ.out, if_neg (by decide)])
        clear HK
        go_wp2_with fail
        refine (HC.out _).mono ?_; rintro e w2 ⟨rfl, q2⟩
        have HB2 := Lib.hid (below_call HB.out q2)
        have HR2 := Lib.hid (HR.out.call q2)
        obtain ⟨e0, e1, e2, e3⟩ := HR2.out.four
        have f0 := HR2.out.frozen 0
        have f1 := HR2.out.frozen 1
        have f2 := HR2.out.frozen 2
        have f3 := HR2.out.frozen 3
        have hrl := HR2.out.lt
        clear q2 c0 c1 c2
        go_wp2_with fail
        refine bodyPost_ret (res_mf_tmp Try.results21 _ _ w.heap.size _ _ _ _ _ rfl rfl (HR2.out.put4 _ _ _ _)) rfl ⟨.agg #[.int .u32 0, .slice none 0 0, .slice none 0 0, .bool false], by rw [HR9.out]; rfl, by rw [HR9.out]; exact mf_zero _ _, below_put4 HB2.out (Nat.le_refl _) _ _ _ _⟩
    · have hd : decide (k < n) = false := decide_eq_false hlt
      have hall : allNotes l = true := allN_true fun j hj => HK.out j (by rw [← HN.out] at hj; omega)
      have HR9 : Hid (ofR l = full (gat l)) := Lib.hid (by unfold ofR; rw [if_pos hall])
      have HGd : Hid (Dm.Good l) := Lib.hid fun y hy => by
        obtain ⟨j, hj, rfl⟩ := (mem_at Nt.nought).1 hy
        exact ⟨allN_at hall hj, (HF.out j hj).2.1.1⟩
      clear hlt HK hall
      go_wp2_with fail
      go_loopw [6] (fun i wr => ∃ k : Nat, (k : Int) ≤ n ∧ i = .int .i64 k ∧ Hid (Below w.heap.size w wr) ∧ Hid (Blk wr w.heap.size 26 zM) ∧ Hid (MBlk wr w.heap.size (w.heap.size + 1) (gat (l.take k)))) (fun i _ => n - (intOf i).toNat)
      case atStart => exact ⟨0, by omega, rfl, HB, HR, HM⟩
      case round =>
        clear HB HR HM
        obtain ⟨k, hk, rfl, HB, HR, HM⟩ := hrel
        by_cases hlt : k < n
        · have hd : decide (k < n) = true := decide_eq_true hlt
          obtain ⟨b, o, rfl, hbl, hcl⟩ := H3.out (by omega)
          obtain ⟨x, hx⟩ : ∃ x, x = l.getD k Nt.nought := ⟨_, rfl⟩
          have hL := (hcl k hlt).below HB.out hbl
          have hfx := HF.out k (by rw [← HN.out]; exact hlt)
          have hgx := (HGd.out _ ((mem_at Nt.nought).2 ⟨k, by rw [← HN.out]; exact hlt, rfl⟩)).1
          rw [← hx] at hL hfx hgx
          obtain ⟨c0, c1, c2⟩ := hL.nt
          have hsucc := gat_succ (l := l) (k := k) (by rw [← HN.out]; exact hlt)
          rw [← hx] at hsucc
          obtain ⟨M, hM⟩ : ∃ M, M = gat (l.take k) := ⟨_, rfl⟩
          have hMf : Fine M := by rw [hM]; exact fine_gat (fun y hy => HGd.out y (List.mem_of_mem_take hy))
          have hlen := len_gat (l.take k)
          rw [← hM, List.length_take, ← HN.out] at hlen
          rw [← hM] at hsucc HM
          obtain ⟨vx, vp, hbk, hox, hop⟩ := HM.out
          have HAdd := Lib.hid (fun W (hq : Below wr.heap.size wr W) => radd_any vx vp M x hgx hfx (fine_fits hMf (by omega) (by omega)) (by omega) (by omega) (row_wf hox) (row_wf hop) W (hox.at.below hq) (hop.at.below hq))
          have HOX := Lib.hid hox
          have HOP := Lib.hid hop
          have HBk := Lib.hid hbk
          have HSucc := Lib.hid hsucc
          obtain ⟨ax, cx, hvx⟩ := row_sl hox
          obtain ⟨ap, cp, hvp⟩ := row_sl hop
          obtain ⟨nx, hnx⟩ : ∃ n, n = M.ext.length := ⟨_, rfl⟩
          obtain ⟨np, hnp⟩ : ∃ n, n = M.ports.length := ⟨_, rfl⟩
          obtain ⟨P, hPg⟩ : ∃ P, P = M.pages := ⟨_, rfl⟩
          obtain ⟨C, hC⟩ : ∃ C, C = M.con := ⟨_, rfl⟩
          obtain ⟨A, hA⟩ : ∃ A, A = add M x := ⟨_, rfl⟩
          rw [← hnx] at hvx
          rw [← hnp] at hvp
          unfold mfV ntV at HAdd
          rw [← hPg, ← hC, ← hA] at HAdd
          rw [← hA] at HSucc
          rw [← hPg, ← hC] at HBk
          obtain ⟨x0, h0⟩ : ∃ y, y = x.kind := ⟨_, rfl⟩
          obtain ⟨x1, h1⟩ : ∃ y, y = x.n := ⟨_, rfl⟩
          obtain ⟨x2, h2⟩ : ∃ y, y = x.m := ⟨_, rfl⟩
          rw [← h0, ← h1, ← h2] at HAdd
          rw [← h0] at c0
          rw [← h1] at c1
          rw [← h2] at c2
          subst hvx hvp
          obtain ⟨d0, d1, d2, d3⟩ := HBk.out.four
          have HWs : Hid (w.heap.size ≤ wr.heap.size) := Lib.hid HB.out.size
          clear hL hfx hgx hx h0 h1 h2 hcl hsucc hM hMf hlen hbk hox hop hnx hnp hPg hC hA HM
          go_upto_region 10 with (fail)
          go_still_tail 5, (by kernel_rfl)
          refine wpl_named ?_; intro wd hwd
          have HBd : Hid (Below wr.heap.size wr wd) := Lib.hid (by rw [hwd]; exact below_drewN wr 1)
          clear hwd c0 c1 c2 d0 d1 d2 d3
          go_wp2_with fail
          refine (HAdd.out _ HBd.out).mono ?_; rintro e w2 ⟨v', rfl, hR, q2⟩
          have hbw : Below wr.heap.size wr w2 := below_call HBd.out q2
          have hown := hR.own (B := w.heap.size) q2 (Nat.le_trans HWs.out HBd.out.size) (row_below HOX.out HBd.out) (row_below HOP.out HBd.out)
          have HOwn := Lib.hid hown
          have HB2 := Lib.hid (below_call HB.out hbw)
          have HR2 := Lib.hid (HR.out.call hbw)
          have HBk2 := Lib.hid (HBk.out.call hbw)
          obtain ⟨P2, ax2, nx2, cx2, ap2, np2, cp2, C2, hv2⟩ := hown.open
          subst hv2
          obtain ⟨d0, d1, d2, d3⟩ := HBk2.out.four
          have f0 := HBk2.out.frozen 0
          have f1 := HBk2.out.frozen 1
          have f2 := HBk2.out.frozen 2
          have f3 := HBk2.out.frozen 3
          have hrl := HBk2.out.lt
          clear hR q2 hown hbw
          go_wp2_with fail
          go_roundw
          case rel =>
            refine ⟨k + 1, by omega, by go_num, Lib.hid (below_put4 HB2.out (Nat.le_succ _) _ _ _ _), Lib.hid (HR2.out.grown (grown_put4 _ _ _ _ _ _) (by simp)), Lib.hid ?_⟩
            obtain ⟨vx3, vp3, e3, o3, p3⟩ := HOwn.out
            unfold mfV at e3
            injection e3 with e3
            simp only [Array.mk.injEq, List.cons.injEq, Value.int.injEq, Value.bool.injEq, and_true, true_and] at e3
            obtain ⟨g0, g1, g2, g3⟩ := e3
            rw [HSucc.out]
            refine ⟨vx3, vp3, ?_, row_new o3 HBk2.out (by decide) (grown_put4 _ _ _ _ _ _), row_new p3 HBk2.out (by decide) (grown_put4 _ _ _ _ _ _)⟩
            rw [← g0, ← g1, ← g2, ← g3]
            exact HBk2.out.put4 _ _ _ _
          case measure => simp [intOf]; omega
        · have hd : decide (k < n) = false := decide_eq_false hlt
          have hkl : l.take k = l := List.take_of_length_le (by rw [← HN.out]; omega)
          rw [hkl] at HM
          obtain ⟨vx, vp, hbk, hox, hop⟩ := HM.out
          obtain ⟨M, hM⟩ : ∃ M, M = gat l := ⟨_, rfl⟩
          rw [← hM] at hbk hox hop HR9
          obtain ⟨ax, cx, hvx⟩ := row_sl hox
          obtain ⟨ap, cp, hvp⟩ := row_sl hop
          obtain ⟨nx, hnx⟩ : ∃ n, n = M.ext.length := ⟨_, rfl⟩
          obtain ⟨np, hnp⟩ : ∃ n, n = M.ports.length := ⟨_, rfl⟩
          have hnp2 : (np : Int) ≤ 1048574 := by
            have h1 := len_gat l
            rw [← hM, ← HN.out] at h1
            omega
          obtain ⟨P, hPg⟩ : ∃ P, P = M.pages := ⟨_, rfl⟩
          obtain ⟨C, hC⟩ : ∃ C, C = M.con := ⟨_, rfl⟩
          rw [← hnx] at hvx
          rw [← hnp] at hvp
          rw [← hPg, ← hC] at hbk
          subst hvx hvp
          have HOwn : Hid (MfOwn wr w.heap.size (.agg #[.int .u32 P, .slice ax nx cx, .slice ap np cp, .bool C]) M) := Lib.hid ⟨_, _, by unfold mfV; rw [hPg, hC], hox, hop⟩
          obtain ⟨d0, d1, d2, d3⟩ := hbk.four
          obtain ⟨e0, e1, e2, e3⟩ := HR.out.four
          have f0 := HR.out.frozen 0
          have f1 := HR.out.frozen 1
          have f2 := HR.out.frozen 2
          have f3 := HR.out.frozen 3
          have hrl := HR.out.lt
          have hml := hbk.lt
          by_cases h16 : np ≤ 16
          · have hi16 : (np : Int) ≤ 16 := by omega
            have HFull : Hid (full M = (M, 0)) := Lib.hid (by unfold full; rw [if_pos (by rw [← hnp]; exact h16)])
            clear hlt hkl HM hM hnx hnp hPg hC hox hop hbk h16
            go_wp2_with fail
            refine bodyPost_ret (res_mf_tmp Try.results21 _ _ w.heap.size _ _ _ _ _ rfl rfl (HR.out.put4 _ _ _ _)) rfl ⟨.agg #[.int .u32 P, .slice ax nx cx, .slice ap np cp, .bool C], by rw [HR9.out, HFull.out]; rfl, ?_, below_put4 HB.out (Nat.le_refl _) _ _ _ _⟩
            rw [HR9.out, HFull.out]
            exact HOwn.out.grown HR.out (by decide) (by decide) (grown_put4 _ _ _ _ _ _)
          · have hi16 : (16 : Int) < np := by omega
            have HFull : Hid (full M = (Mf.nought, 4)) := Lib.hid (by unfold full; rw [if_neg (by rw [← hnp]; exact h16)])
            clear hlt hkl HM hM hnx hnp hPg hC hox hop hbk h16
            go_wp2_with fail
            refine bodyPost_ret (res_mf_tmp Try.results21 _ _ w.heap.size _ _ _ _ _ rfl rfl (HR.out.put4 _ _ _ _)) rfl ⟨.agg #[.int .u32 0, .slice none 0 0, .slice none 0 0, .bool false], by rw [HR9.out, HFull.out]; rfl, by rw [HR9.out, HFull.out]; exact mf_zero _ _, below_put4 HB.out (Nat.le_refl _) _ _ _ _⟩
end Go.Proofs.Ytmfebmiigkmkbaa
