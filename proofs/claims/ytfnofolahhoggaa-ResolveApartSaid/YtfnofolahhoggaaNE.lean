/- The program's refers: a symbol's relocations. -/
import Derived.Test.YtfnofolahhoggaaND
set_option linter.unusedVariables false
set_option linter.unusedSimpArgs false
namespace Go.Proofs.Ytfnofolahhoggaa
open Go Go.RowKit Oj

set_option maxHeartbeats 8000000 in
set_option maxRecDepth 100000 in
theorem refers_any (s : Sy) (h : syFits s) (vr vn : Value) (w : World) (hA : RelsAt w vr s.rels) : Calls Try.prog 54 #[syV s vr vn] w fun e w' => e = .returned (.bool (relsOk s.bytes.length s.rels)) ∧ Below w.heap.size w w' := by
  obtain ⟨name, bind, k0, z, bytes, l, notes⟩ := s
  obtain ⟨_, _, _, _, hby, h1, _, h2, _⟩ := h
  simp only at h1 h2 hA hby
  unfold syV
  simp only
  obtain ⟨a, c, rfl, h3⟩ := hA
  obtain ⟨n, hn⟩ : ∃ n, n = l.length := ⟨_, rfl⟩
  obtain ⟨T, hT⟩ : ∃ T, T = tx bytes := ⟨_, rfl⟩
  obtain ⟨N, hN⟩ : ∃ N : Int, N = (bytes.length : Int) := ⟨_, rfl⟩
  obtain ⟨M, hM⟩ : ∃ M, M = tx name := ⟨_, rfl⟩
  have hTs : (T.size : Int) = N := by rw [hT, tx_size, hN]
  have hN2 : N ≤ 140737488355328 := by omega
  have hN0 : 0 ≤ N := by omega
  rw [← hn] at h3 ⊢
  rw [← hT, ← hN, ← hM]
  have HN := Lib.hid hn
  by_cases hb : n ≤ 1024
  · have hni : (n : Int) ≤ 1024 := by omega
    have H2 := Lib.hid h2
    have H3 := Lib.hid h3
    clear hn h1 h2 h3 hb hT hN hby hM
    go_enter Try.func54, Try.ntmps54
    go_wp2_with fail
    go_loopw [3, 17] (fun f i wr => ∃ k : Nat, (k : Int) ≤ n ∧ i = .int .i64 k ∧ ∃ F : Int, f = .int .u64 F ∧ 0 ≤ F ∧ F ≤ 8589934592 ∧ Hid (F = endAt l k) ∧ Hid (∀ j, j < k → relOk N (endAt l j) (l.getD j Rl.nought) = true) ∧ Hid (Below w.heap.size w wr) ∧ Hid (Blk wr w.heap.size 95 [.string M, .int .u8 bind, .int .u8 k0, .int .u32 z, .string T, .slice a n c, vn])) (fun _ i _ => n - (intOf i).toNat)
    case atStart => exact ⟨0, by omega, rfl, 0, rfl, by omega, by omega, Lib.hid rfl, Lib.hid fun j hj => absurd hj (by omega), Lib.hid ((Below.refl _ _).alloc (Nat.le_refl _) _), Lib.hid (Blk.new _ _ _)⟩
    case round =>
      obtain ⟨k, hk, rfl, F, rfl, hF0, hF1, HF, HK, HB, HS⟩ := hrel
      by_cases hlt : k < n
      · obtain ⟨b, o, rfl, hbl, hcl⟩ := H3.out (by omega)
        obtain ⟨x, hx⟩ : ∃ x, x = l.getD k Rl.nought := ⟨_, rfl⟩
        have hL := ((hcl k hlt).below HB.out hbl)
        rw [← hx] at hL
        obtain ⟨c0, c1, c2, c3⟩ := hL.rl
        have hfit := H2.out k (by rw [← HN.out]; exact hlt)
        rw [← hx] at hfit
        obtain ⟨⟨f1, f2⟩, ⟨f3, f4⟩, ⟨f5, f6⟩, f7⟩ := hfit
        have hbr : b < wr.heap.size := Nat.lt_of_lt_of_le hbl HB.out.size
        obtain ⟨of, hof⟩ : ∃ of, of = x.off := ⟨_, rfl⟩
        obtain ⟨kk, hkk⟩ : ∃ kk, kk = x.kind := ⟨_, rfl⟩
        obtain ⟨ad, had⟩ : ∃ ad, ad = x.add := ⟨_, rfl⟩
        obtain ⟨U, hU⟩ : ∃ U, U = tx x.name := ⟨_, rfl⟩
        rw [← hof] at c0 f1 f2
        rw [← hkk] at c1 f3 f4
        rw [← hU] at c2
        rw [← had] at c3
        have HW := Lib.hid (fun W => relsize_any kk f3 f4 W)
        obtain ⟨wi, hwi⟩ : ∃ wi, wi = width kk := ⟨_, rfl⟩
        have hw1 := width_le kk
        have hw2 := @width_pos kk
        rw [← hwi] at HW hw1 hw2
        obtain ⟨hw0, hw4⟩ := hw1
        have HI := Lib.hid (fun W => isname_any U (by rw [hU, tx_size]; exact f7) W)
        have hbU : by' U = x.name := by rw [hU, by_tx]
        rw [hbU] at HI
        obtain ⟨nb, hnb⟩ : ∃ nb, nb = nameOk x.name := ⟨_, rfl⟩
        rw [← hnb] at HI
        have HR : Hid (relOk N (endAt l k) (l.getD k Rl.nought) = (decide (wi ≠ 0 ∧ F ≤ of ∧ of + wi ≤ N) && nb)) := Lib.hid (by
          rw [← hx]; unfold relOk placeOk; rw [← hof, ← hkk, ← hwi, ← hnb, HF.out])
        have HE : Hid (endAt l (k + 1) = of + wi) := Lib.hid (by show (l.getD k Rl.nought).off + width (l.getD k Rl.nought).kind = _; rw [← hx, ← hof, ← hkk, ← hwi])
        have hd : decide (k < n) = true := decide_eq_true hlt
        have hcT : (wr.alloc (.cells #[.int .u32 of, .int .u8 kk, .string U, .int .u32 ad] 54)).cell? ⟨w.heap.size, 4, none⟩ = some (.string T) := (HS.out.alloc _).cell 4
        have HP : Hid (wi ≠ 0 → 2 ≤ wi ∧ wi ≤ 4) := Lib.hid hw2
        clear hcl hL hx hof hkk had hU hbU hnb hwi hw2 f7 HF
        have hcase : ((wi == 0) = true ∨ ((wi == 0) = false ∧ of < F) ∨ ((wi == 0) = false ∧ F ≤ of ∧ N < of + wi)) ∨ ((wi == 0) = false ∧ F ≤ of ∧ of + wi ≤ N) := by
          by_cases g1 : wi = 0
          · exact .inl (.inl (by simp [g1]))
          · have g1' : (wi == 0) = false := by simpa using g1
            rcases Int.lt_or_le of F with g2 | g2
            · exact .inl (.inr (.inl ⟨g1', g2⟩))
            · rcases Int.lt_or_le N (of + wi) with g3 | g3
              · exact .inl (.inr (.inr ⟨g1', g2, g3⟩))
              · exact .inr ⟨g1', g2, g3⟩
        rcases hcase with hbad | ⟨g1, g2, g3⟩
        · have HF2 : Hid (relsOk N l = false) := Lib.hid (by
            unfold relsOk
            rw [allN_false (k := k) (by rw [← HN.out]; exact hlt) (by
              rw [HR.out, decide_eq_false, Bool.false_and]
              rintro ⟨q1, q2, q3⟩
              rcases hbad with g | ⟨g, g'⟩ | ⟨g, g', g''⟩
              · exact q1 (by simpa using g)
              · omega
              · omega), Bool.and_false])
          clear HK HR HE HP
          rcases hbad with g | ⟨g, g'⟩ | ⟨g, g', g''⟩
          all_goals
            go_wp2_with fail
            go_quiet ((go_at_call 56; exact quiet_left (HW.out _)))
            go_wp2_with fail
            go_ret
            exact ⟨ret_bool HF2.out.symm, below_boxN HB.out _ _⟩
        · cases nb with
          | true =>
            have HK2 : Hid (∀ j, j < k + 1 → relOk N (endAt l j) (l.getD j Rl.nought) = true) := Lib.hid fun j hj => by
              by_cases he : j = k
              · subst he; rw [HR.out, Bool.and_true]; exact decide_eq_true ⟨by simpa using g1, g2, g3⟩
              · exact HK.out j (by omega)
            clear HK HR
            go_wp2_with fail
            go_quiet ((go_at_call 56; exact quiet_left (HW.out _)))
            go_wp2_with fail
            refine (HI.out _).mono ?_; rintro e w2 ⟨rfl, q2⟩
            have HB2 := Lib.hid (below_call (below_boxN HB.out _ _) q2)
            have HQ := Lib.hid q2
            clear q2
            have HS2 : Hid (Blk w2 w.heap.size 95 [.string M, .int .u8 bind, .int .u8 k0, .int .u32 z, .string T, .slice (some ⟨b, o, none⟩) n c, vn]) := Lib.hid ((HS.out.boxN _ _).call HQ.out)
            clear HQ hcT
            have hp2 : wi ≤ 4 := hw4
            go_wp2_with fail
            go_roundw
            case rel => exact ⟨k + 1, by omega, by go_num, of + wi, rfl, by omega, by omega, Lib.hid HE.out.symm, HK2, HB2, HS2⟩
            case measure => simp [intOf]; omega
          | false =>
            have HF2 : Hid (relsOk N l = false) := Lib.hid (by
              unfold relsOk
              rw [allN_false (k := k) (by rw [← HN.out]; exact hlt) (by rw [HR.out, Bool.and_false]), Bool.and_false])
            clear HK HR HE HP
            go_wp2_with fail
            go_quiet ((go_at_call 56; exact quiet_left (HW.out _)))
            go_wp2_with fail
            refine (HI.out _).mono ?_; rintro e w2 ⟨rfl, q2⟩
            have HB2 := Lib.hid (below_call (below_boxN HB.out _ _) q2)
            clear q2
            go_wp2_with fail
            go_ret
            exact ⟨ret_bool HF2.out.symm, HB2.out⟩
      · have hd : decide (k < n) = false := decide_eq_false hlt
        have HR : Hid (relsOk N l = true) := Lib.hid (by
          unfold relsOk
          rw [allN_true (fun j hj => HK.out j (by rw [← HN.out] at hj; omega)), Bool.and_true, decide_eq_true (by rw [← HN.out]; omega)])
        clear hlt HK
        go_wp2
        go_ret
        exact ⟨ret_bool HR.out.symm, HB.out⟩
  · have HR : Hid (relsOk N l = false) := Lib.hid (by unfold relsOk; rw [decide_eq_false (by rw [← hn]; exact hb), Bool.false_and])
    have hb8 : (1024 : Int) < (n : Int) := by omega
    have hni : (n : Int) * 32 ≤ 140737488355328 := by omega
    clear hn h1 h2 h3 hb HN hN hT hM hby
    go_enter Try.func54, Try.ntmps54
    go_wp2
    go_ret
    exact ⟨ret_bool HR.out.symm, below_new1 _ _⟩
end Go.Proofs.Ytfnofolahhoggaa
