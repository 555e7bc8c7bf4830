/- The program's Of. -/
import Derived.Test.YtmfebmiigkmkbaaDO
set_option linter.unusedVariables false
set_option linter.unusedSimpArgs false
namespace Go.Proofs.Ytmfebmiigkmkbaa
open Go Go.RowKit Oj Dm

theorem slC_slice {w : World} {v : Value} {n z : Nat} {cs : Nat → List Value} (h : SlC w v n z cs) : ∃ a c, v = .slice a n c := by
  obtain ⟨a, c, h, _⟩ := h
  exact ⟨a, c, h⟩
/-- What a manifest of a call's own looks like, with letters. -/
theorem MfOwn.open {w : World} {B : Nat} {v : Value} {m : Mf} (h : MfOwn w B v m) : ∃ (P : Int) (ax : Option Addr) (nx cx : Nat) (ap : Option Addr) (np cp : Nat) (C : Bool), v = .agg #[.int .u32 P, .slice ax nx cx, .slice ap np cp, .bool C] := by
  obtain ⟨vx, vp, rfl, h2, h3⟩ := h
  obtain ⟨ax, cx, rfl⟩ := row_sl h2
  obtain ⟨ap, cp, rfl⟩ := row_sl h3
  exact ⟨_, _, _, _, _, _, _, _, rfl⟩
theorem MfAt.open {w : World} {v : Value} {m : Mf} (h : MfAt w v m) : ∃ (P : Int) (ax : Option Addr) (nx cx : Nat) (ap : Option Addr) (np cp : Nat) (C : Bool), v = .agg #[.int .u32 P, .slice ax nx cx, .slice ap np cp, .bool C] := by
  obtain ⟨vx, vp, rfl, h2, h3⟩ := h
  obtain ⟨ax, cx, rfl⟩ := slC_slice h2
  obtain ⟨ap, cp, rfl⟩ := slC_slice h3
  exact ⟨_, _, _, _, _, _, _, _, rfl⟩
set_option maxHeartbeats 8000000 in
set_option maxRecDepth 100000 in
theorem of_any (v : Value) (l : List Nt) (w : World) (hA : NotesAt w v l) (hf : ntsFit l) (hl : l.length ≤ 1048574) : Calls Try.prog 20 #[v] w (MPost w (ofR l)) := by
  have HCall := Lib.hid (fun (hg : Dm.Good l) W (hq : Below w.heap.size w W) => gathered_any v l W (hA.below hq) hg hf hl)
  obtain ⟨a, c, rfl, h3⟩ := hA
  obtain ⟨n, hn⟩ : ∃ n, n = l.length := ⟨_, rfl⟩
  have hni : (n : Int) ≤ 1048574 := by omega
  rw [← hn] at h3 HCall ⊢
  have HN := Lib.hid hn
  have H3 := Lib.hid h3
  have HF := Lib.hid hf.2
  have HB0 := Lib.hid (below_new1 w (.cells #[.int .u32 0, .slice none 0 0, .slice none 0 0, .bool false] 26))
  have HR0 : Hid (Blk (w.alloc (.cells #[.int .u32 0, .slice none 0 0, .slice none 0 0, .bool false] 26)) w.heap.size 26 zM) := Lib.hid (Blk.new w 26 zM)
  clear hn h3 hf hl
  go_enter Try.func20, Try.ntmps20
  go_wp2_with fail
  go_loopw [9] (fun i wr => ∃ k : Nat, (k : Int) ≤ n ∧ i = .int .i64 k ∧ Hid (∀ j, j < k → noteOk (l.getD j Nt.nought) = true) ∧ Hid (Below w.heap.size w wr) ∧ Hid (Blk wr w.heap.size 26 zM)) (fun i _ => n - (intOf i).toNat)
  case atStart => exact ⟨0, by omega, rfl, Lib.hid fun j hj => absurd hj (by omega), HB0, HR0⟩
  case round =>
    clear HB0 HR0
    obtain ⟨k, hk, rfl, HK, HB, HR⟩ := hrel
    by_cases hlt : k < n
    · have hd : decide (k < n) = true := decide_eq_true hlt
      obtain ⟨b, o, rfl, hbl, hcl⟩ := H3.out (by omega)
      obtain ⟨x, hx⟩ : ∃ x, x = l.getD k Nt.nought := ⟨_, rfl⟩
      have hL := (hcl k hlt).below HB.out hbl
      have hfx := HF.out k (by rw [← HN.out]; exact hlt)
      rw [← hx] at hL hfx
      obtain ⟨c0, c1, c2⟩ := hL.nt
      have hbr : b < wr.heap.size := Nat.lt_of_lt_of_le hbl HB.out.size
      have HC := Lib.hid (fun W => onote_any x hfx W)
      obtain ⟨x0, h0⟩ : ∃ y, y = x.kind := ⟨_, rfl⟩
      obtain ⟨x1, h1⟩ : ∃ y, y = x.n := ⟨_, rfl⟩
      obtain ⟨x2, h2⟩ : ∃ y, y = x.m := ⟨_, rfl⟩
      obtain ⟨q, hq⟩ : ∃ q, q = noteOk x := ⟨_, rfl⟩
      unfold ntV at HC
      rw [← h0, ← h1, ← h2, ← hq] at HC
      rw [← h0] at c0
      rw [← h1] at c1
      rw [← h2] at c2
      have HQ : Hid (noteOk (l.getD k Nt.nought) = q) := Lib.hid (by rw [← hx, hq])
      have HBa := Lib.hid (below_box HB.out (.cells #[.int .u8 x0, .int .u32 x1, .int .u32 x2] 28))
      have HRa := Lib.hid (HR.out.alloc (.cells #[.int .u8 x0, .int .u32 x1, .int .u32 x2] 28))
      clear hL hfx hx h0 h1 h2 hq hcl
      cases q with
      | true =>
        rw [okI_t] at HC
        have HK2 : Hid (∀ j, j < k + 1 → noteOk (l.getD j Nt.nought) = true) := Lib.hid fun j hj => by
          by_cases he : j = k
          · subst he; exact HQ.out
          · exact HK.out j (by omega)
        clear HK
        go_wp2_with fail
        refine (HC.out _).mono ?_; rintro e w2 ⟨rfl, q2⟩
        have HB2 := Lib.hid (below_call HBa.out q2)
        have HR2 := Lib.hid (HRa.out.call q2)
        clear q2 c0 c1 c2
        go_wp2_with fail
        go_roundw
        case rel => exact ⟨k + 1, by omega, by go_num, HK2, HB2, HR2⟩
        case measure => simp [intOf]; omega
      | false =>
        rw [okI_f] at HC
        have HR9 : Hid (ofR l = (Mf.nought, 2)) := Lib.hid (by
          unfold ofR allNotes
          rw [allN_false (k := k) (by rw [← HN.out]; exact hlt) HQ.out, if_neg (by decide)])
        clear HK
        go_wp2_with fail
        refine (HC.out _).mono ?_; rintro e w2 ⟨rfl, q2⟩
        have HB2 := Lib.hid (below_call HBa.out q2)
        have HR2 := Lib.hid (HRa.out.call q2)
        obtain ⟨e0, e1, e2, e3⟩ := HR2.out.four
        have f0 := HR2.out.frozen 0
        have f1 := HR2.out.frozen 1
        have f2 := HR2.out.frozen 2
        have f3 := HR2.out.frozen 3
        have hrl := HR2.out.lt
        clear q2 c0 c1 c2
        go_wp2_with fail
        refine bodyPost_ret (res_mf_tmp Try.results20 _ _ w.heap.size _ _ _ _ _ rfl rfl (HR2.out.put4 _ _ _ _)) rfl ⟨.agg #[.int .u32 0, .slice none 0 0, .slice none 0 0, .bool false], by rw [HR9.out]; rfl, by rw [HR9.out]; exact mf_zero _ _, below_put4 HB2.out (Nat.le_refl _) _ _ _ _⟩
    · have hd : decide (k < n) = false := decide_eq_false hlt
      have hall : allNotes l = true := allN_true fun j hj => HK.out j (by rw [← HN.out] at hj; omega)
      have HR9 : Hid (ofR l = full (gat l)) := Lib.hid (by unfold ofR; rw [if_pos hall])
      have hgd : Dm.Good l := fun y hy => by
        obtain ⟨j, hj, rfl⟩ := (mem_at Nt.nought).1 hy
        exact ⟨allN_at hall hj, (HF.out j hj).2.1.1⟩
      have HC := Lib.hid (HCall.out hgd wr HB.out)
      clear hlt HK hall hgd
      go_wp2_with fail
      refine HC.out.mono ?_; rintro e w2 ⟨v', rfl, hM, q2⟩
      obtain ⟨E, hE⟩ : ∃ E, E = (full (gat l)).2 := ⟨_, rfl⟩
      have HM : Hid (MfOwn w2 wr.heap.size v' (full (gat l)).1) := Lib.hid hM
      obtain ⟨P, ax, nx, cx, ap, np, cp, C, hv⟩ := hM.open
      subst hv
      rw [← hE]
      have HE := Lib.hid hE
      have HB2 := Lib.hid (below_call HB.out q2)
      have HR2 := Lib.hid (HR.out.call q2)
      have HBw : Hid (w.heap.size ≤ wr.heap.size) := Lib.hid HB.out.size
      obtain ⟨e0, e1, e2, e3⟩ := HR2.out.four
      have f0 := HR2.out.frozen 0
      have f1 := HR2.out.frozen 1
      have f2 := HR2.out.frozen 2
      have f3 := HR2.out.frozen 3
      have hrl := HR2.out.lt
      clear q2 hM hE
      go_wp2_with fail
      refine bodyPost_ret (res_mf_tmp Try.results20 _ _ w.heap.size _ _ _ _ _ rfl rfl (HR2.out.put4 _ _ _ _)) rfl ⟨.agg #[.int .u32 P, .slice ax nx cx, .slice ap np cp, .bool C], by rw [HR9.out, ← HE.out]; rfl, ?_, below_put4 HB2.out (Nat.le_refl _) _ _ _ _⟩
      rw [HR9.out]
      exact (HM.out.grown HR2.out (by decide) (by decide) (grown_put4 _ w.heap.size _ _ _ _)).base HBw.out
end Go.Proofs.Ytmfebmiigkmkbaa
