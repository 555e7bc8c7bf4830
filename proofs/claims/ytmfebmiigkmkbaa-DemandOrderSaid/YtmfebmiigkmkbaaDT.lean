/- The program's Covers. -/
import Derived.Test.YtmfebmiigkmkbaaDS
import Derived.Test.YtmfebmiigkmkbaaDR
set_option linter.unusedVariables false
set_option linter.unusedSimpArgs false
namespace Go.Proofs.Ytmfebmiigkmkbaa
open Go Go.RowKit Oj Dm

theorem all_true {α : Type} {p : α → Bool} (d : α) {l : List α} (h : ∀ j, j < l.length → p (l.getD j d) = true) : l.all p = true := by
  rw [List.all_eq_true]
  intro x hx
  obtain ⟨j, hj, rfl⟩ := (mem_at d).1 hx
  exact h j hj
theorem all_false {α : Type} {p : α → Bool} (d : α) {l : List α} {j : Nat} (hj : j < l.length) (h : p (l.getD j d) = false) : l.all p = false := by
  rw [List.all_eq_false]
  exact ⟨_, (mem_at d).2 ⟨j, hj, rfl⟩, by rw [h]; decide⟩

set_option maxHeartbeats 8000000 in
set_option maxRecDepth 100000 in
theorem dcovers_any (v u : Value) (m n : Mf) (w : World) (hA : MfAt w v m) (hA2 : MfAt w u n) (hf : mfFits m) (hf2 : mfFits n) : Calls Try.prog 14 #[v, u] w fun e w' => e = .returned (.bool (coversR m n)) ∧ Below w.heap.size w w' := by
  have HC := Lib.hid (fun W (hq : Below w.heap.size w W) => check_any v m hf W (hA.below hq))
  have HC2 := Lib.hid (fun W (hq : Below w.heap.size w W) => check_any u n hf2 W (hA2.below hq))
  have HNt := Lib.hid (fun (h1 : mfOk n = true) W (hq : Below w.heap.size w W) => notes_any u n W (hA2.below hq) hf2 (by have := ext16 (hf2.fine h1).1; omega) (by have := (hf2.fine h1).2; omega))
  have HV := Lib.hid (fun (h1 : mfOk m = true) x (h2 : noteOk x = true) (h3 : ntFits x) W (hq : Below w.heap.size w W) => covers1_any v m x W (hA.below hq) hf h1 h2 h3)
  have HGd : Hid (mfOk n = true → Dm.Good (notesOf n) ∧ ntsFit (notesOf n) ∧ (notesOf n).length ≤ 34) := Lib.hid fun h1 => by
    have h2 := hf2.fine h1
    have h3 := notes_len n
    have h4 := ext16 h2.1
    have h5 := good_notes h2.1
    exact ⟨h5, good_fits h5 (by omega), by omega⟩
  obtain ⟨P, ax, nx, cx, ap, np, cp, C, hv⟩ := hA.open
  obtain ⟨P2, ax2, nx2, cx2, ap2, np2, cp2, C2, hv2⟩ := hA2.open
  subst hv hv2
  have HB0 := Lib.hid (below_new2 w (.cells #[.int .u32 P, .slice ax nx cx, .slice ap np cp, .bool C] 26) (.cells #[.int .u32 P2, .slice ax2 nx2 cx2, .slice ap2 np2 cp2, .bool C2] 26))
  have HK0 : Hid (Blk ((w.alloc (.cells #[.int .u32 P, .slice ax nx cx, .slice ap np cp, .bool C] 26)).alloc (.cells #[.int .u32 P2, .slice ax2 nx2 cx2, .slice ap2 np2 cp2, .bool C2] 26)) w.heap.size 26 [.int .u32 P, .slice ax nx cx, .slice ap np cp, .bool C]) := Lib.hid ((Blk.new w 26 _).alloc _)
  have HQ0 : Hid (Blk ((w.alloc (.cells #[.int .u32 P, .slice ax nx cx, .slice ap np cp, .bool C] 26)).alloc (.cells #[.int .u32 P2, .slice ax2 nx2 cx2, .slice ap2 np2 cp2, .bool C2] 26)) (w.heap.size + 1) 26 [.int .u32 P2, .slice ax2 nx2 cx2, .slice ap2 np2 cp2, .bool C2]) := Lib.hid (Blk.new2 w _ 26 _)
  obtain ⟨b1, hb1⟩ : ∃ b, b = mfOk m := ⟨_, rfl⟩
  obtain ⟨b2, hb2⟩ : ∃ b, b = mfOk n := ⟨_, rfl⟩
  have HM1 : Hid (mfOk m = b1) := Lib.hid hb1.symm
  have HM2 : Hid (mfOk n = b2) := Lib.hid hb2.symm
  have HE : Hid (coversR m n = (b1 && b2 && (notesOf n).all (cov m))) := Lib.hid (by unfold coversR; rw [hb1, hb2])
  rw [← hb1] at HC
  rw [← hb2] at HC2
  clear hb1 hb2 hA hA2 hf hf2
  cases b1 with
  | false =>
    rw [okI_f] at HC
    go_enter Try.func14, Try.ntmps14
    go_wp2_with fail
    refine (HC.out _ HB0.out).mono ?_; rintro e w1 ⟨rfl, q1⟩
    have HB1 := Lib.hid (below_call HB0.out q1)
    clear q1
    go_wp2_with fail
    go_ret
    exact ⟨ret_bool (by rw [HE.out]; rfl), HB1.out⟩
  | true =>
    rw [okI_t] at HC
    cases b2 with
    | false =>
      rw [okI_f] at HC2
      go_enter Try.func14, Try.ntmps14
      go_wp2_with fail
      refine (HC.out _ HB0.out).mono ?_; rintro e w1 ⟨rfl, q1⟩
      have HB1 := Lib.hid (below_call HB0.out q1)
      obtain ⟨n0, n1, n2, n3⟩ := (HQ0.out.call q1).four
      clear q1
      go_wp2_with fail
      refine (HC2.out _ HB1.out).mono ?_; rintro e w2 ⟨rfl, q2⟩
      have HB2 := Lib.hid (below_call HB1.out q2)
      clear q2
      go_wp2_with fail
      go_ret
      exact ⟨ret_bool (by rw [HE.out]; rfl), HB2.out⟩
    | true =>
      rw [okI_t] at HC2
      obtain ⟨L, hL⟩ : ∃ L, L = notesOf n := ⟨_, rfl⟩
      rw [← hL] at HE HGd HNt
      have HE2 : Hid (coversR m n = L.all (cov m)) := Lib.hid (by rw [HE.out]; rfl)
      clear hL HE
      go_enter Try.func14, Try.ntmps14
      go_wp2_with fail
      refine (HC.out _ HB0.out).mono ?_; rintro e w1 ⟨rfl, q1⟩
      have HB1 := Lib.hid (below_call HB0.out q1)
      have HK1 := Lib.hid (HK0.out.call q1)
      have HQ1 := Lib.hid (HQ0.out.call q1)
      obtain ⟨n0, n1, n2, n3⟩ := HQ1.out.four
      clear q1
      go_wp2_with fail
      refine (HC2.out _ HB1.out).mono ?_; rintro e w2 ⟨rfl, q2⟩
      have HB2 := Lib.hid (below_call HB1.out q2)
      have HK2 := Lib.hid (HK1.out.call q2)
      have HQ2 := Lib.hid (HQ1.out.call q2)
      clear q2 n0 n1 n2 n3
      obtain ⟨n0, n1, n2, n3⟩ := HQ2.out.four
      go_wp2_with fail
      refine (HNt.out HM2.out _ HB2.out).mono ?_; rintro e w3 ⟨v3, rfl, hO, q3⟩
      have HB3 := Lib.hid (below_call HB2.out q3)
      have HK3 := Lib.hid (HK2.out.call q3)
      obtain ⟨a3, c3, hv3, hcl⟩ := hO.at
      obtain ⟨n, hn⟩ : ∃ n, n = L.length := ⟨_, rfl⟩
      rw [← hn] at hv3 hcl
      subst hv3
      have hni : (n : Int) ≤ 34 := by have := (HGd.out HM2.out).2.2; omega
      have HN := Lib.hid hn
      have HCl := Lib.hid hcl
      clear q3 n0 n1 n2 n3 hO hn hcl HB0 HB1 HB2 HK0 HK1 HK2 HQ0 HQ1 HQ2
      go_wp2_with fail
      go_loopw [18] (fun i wr => ∃ k : Nat, (k : Int) ≤ n ∧ i = .int .i64 k ∧ Hid (∀ j, j < k → cov m (L.getD j Nt.nought) = true) ∧ Hid (Below w.heap.size w wr) ∧ Hid (Below w3.heap.size w3 wr)) (fun i _ => n - (intOf i).toNat)
      case atStart => exact ⟨0, by omega, rfl, Lib.hid fun j hj => absurd hj (by omega), HB3, Lib.hid (Below.refl _ _)⟩
      case round =>
        clear HB3
        obtain ⟨k, hk, rfl, HK, HB, HB3⟩ := hrel
        by_cases hlt : k < n
        · have hd : decide (k < n) = true := decide_eq_true hlt
          obtain ⟨b, o, rfl, hbl, hcl⟩ := HCl.out (by omega)
          obtain ⟨x, hx⟩ : ∃ x, x = L.getD k Nt.nought := ⟨_, rfl⟩
          have hLx := (hcl k hlt).below HB3.out hbl
          have hfx := (HGd.out HM2.out).2.1.2 k (by rw [← HN.out]; exact hlt)
          have hgx := ((HGd.out HM2.out).1 _ ((mem_at Nt.nought).2 ⟨k, by rw [← HN.out]; exact hlt, rfl⟩)).1
          rw [← hx] at hLx hfx hgx
          obtain ⟨c0, c1, c2⟩ := hLx.nt
          have hbr : b < wr.heap.size := Nat.lt_of_lt_of_le hbl HB3.out.size
          have HVx := Lib.hid (fun W hq => HV.out HM1.out x hgx hfx W hq)
          obtain ⟨x0, h0⟩ : ∃ y, y = x.kind := ⟨_, rfl⟩
          obtain ⟨x1, h1⟩ : ∃ y, y = x.n := ⟨_, rfl⟩
          obtain ⟨x2, h2⟩ : ∃ y, y = x.m := ⟨_, rfl⟩
          obtain ⟨q, hq⟩ : ∃ q, q = cov m x := ⟨_, rfl⟩
          unfold ntV at HVx
          rw [← h0, ← h1, ← h2, ← hq] at HVx
          rw [← h0] at c0
          rw [← h1] at c1
          rw [← h2] at c2
          have HQ : Hid (cov m (L.getD k Nt.nought) = q) := Lib.hid (by rw [← hx, hq])
          have hmw : Blk wr w.heap.size 26 [.int .u32 P, .slice ax nx cx, .slice ap np cp, .bool C] := HK3.out.call HB3.out
          obtain ⟨m0, m1, m2, m3⟩ := hmw.four
          have hwr : w.heap.size < wr.heap.size := hmw.lt
          have HBa := Lib.hid (below_box HB.out (.cells #[.int .u8 x0, .int .u32 x1, .int .u32 x2] 28))
          have HBb := Lib.hid (below_box HB3.out (.cells #[.int .u8 x0, .int .u32 x1, .int .u32 x2] 28))
          clear hLx hfx hgx hx h0 h1 h2 hq hcl hmw
          cases q with
          | true =>
            have HK2 : Hid (∀ j, j < k + 1 → cov m (L.getD j Nt.nought) = true) := Lib.hid fun j hj => by
              by_cases he : j = k
              · subst he; exact HQ.out
              · exact HK.out j (by omega)
            clear HK
            go_wp2_with fail
            refine (HVx.out _ HBa.out).mono ?_; rintro e w4 ⟨rfl, q4⟩
            have HB4 := Lib.hid (below_call HBa.out q4)
            have HB5 := Lib.hid (below_call HBb.out q4)
            clear q4 c0 c1 c2 m0 m1 m2 m3
            go_wp2_with fail
            go_roundw
            case rel => exact ⟨k + 1, by omega, by go_num, HK2, HB4, HB5⟩
            case measure => simp [intOf]; omega
          | false =>
            have HR9 : Hid (L.all (cov m) = false) := Lib.hid (all_false Nt.nought (j := k) (by rw [← HN.out]; exact hlt) HQ.out)
            clear HK
            go_wp2_with fail
            refine (HVx.out _ HBa.out).mono ?_; rintro e w4 ⟨rfl, q4⟩
            have HB4 := Lib.hid (below_call HBa.out q4)
            clear q4 c0 c1 c2 m0 m1 m2 m3
            go_wp2_with fail
            go_ret
            exact ⟨ret_bool (by rw [HE2.out, HR9.out]), HB4.out⟩
        · have hd : decide (k < n) = false := decide_eq_false hlt
          have HR9 : Hid (L.all (cov m) = true) := Lib.hid (all_true Nt.nought fun j hj => HK.out j (by rw [← HN.out] at hj; omega))
          clear hlt HK
          go_wp2_with fail
          go_ret
          exact ⟨ret_bool (by rw [HE2.out, HR9.out]), HB.out⟩
end Go.Proofs.Ytmfebmiigkmkbaa
