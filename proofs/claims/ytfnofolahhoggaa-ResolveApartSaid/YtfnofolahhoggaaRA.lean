/- The document's rels: a symbol's relocations. -/
import Derived.Test.YtfnofolahhoggaaNF
set_option linter.unusedVariables false
set_option linter.unusedSimpArgs false
namespace Go.Proofs.Ytfnofolahhoggaa
open Go Go.RowKit Oj

set_option maxHeartbeats 8000000 in
set_option maxRecDepth 100000 in
theorem rrels_any (s : Sy) (h : syFits s) (h8 : s.bytes.length ≤ 8192) (vr vn : Value) (hvn : ∃ an nn cn, vn = .slice an nn cn) (w : World) (hA : RelsAt w vr s.rels) : Calls Try.prog 45 #[syV s vr vn] w fun e w' => e = .returned (.bool (relsOk s.bytes.length s.rels)) ∧ Below w.heap.size w w' := by
  obtain ⟨name, bind, k0, z, bytes, l, notes⟩ := s
  obtain ⟨_, _, _, _, hby, h1, _, h2, _⟩ := h
  obtain ⟨an, nn, cn, rfl⟩ := hvn
  simp only at h1 h2 hA hby h8
  unfold syV
  simp only
  obtain ⟨a, c, rfl, h3⟩ := hA
  obtain ⟨n, hn⟩ : ∃ n, n = l.length := ⟨_, rfl⟩
  obtain ⟨T, hT⟩ : ∃ T, T = tx bytes := ⟨_, rfl⟩
  obtain ⟨N, hN⟩ : ∃ N : Int, N = (bytes.length : Int) := ⟨_, rfl⟩
  obtain ⟨M, hM⟩ : ∃ M, M = tx name := ⟨_, rfl⟩
  have hTs : (T.size : Int) = N := by rw [hT, tx_size, hN]
  have hN2 : N ≤ 8192 := by omega
  have hN0 : 0 ≤ N := by omega
  have hni : (n : Int) ≤ 4398046511104 := by omega
  rw [← hn] at h3 ⊢
  rw [← hT, ← hN, ← hM]
  have HN := Lib.hid hn
  have H2 := Lib.hid h2
  have H3 := Lib.hid h3
  have HX0 := Lib.hid (Blk.new w 50 [.string M, .int .u8 bind, .int .u8 k0, .int .u32 z, .string T, .slice a n c, .slice an nn cn])
  have HB0 := Lib.hid (below_new1 w (.cells #[.string M, .int .u8 bind, .int .u8 k0, .int .u32 z, .string T, .slice a n c, .slice an nn cn] 50))
  clear hn h1 h2 h3 hT hN hby hM h8
  go_enter Try.func45, Try.ntmps45
  go_wp2_with fail
  go_loopw [3, 4] (fun f i wr => ∃ k : Nat, (k : Int) ≤ n ∧ i = .int .i64 k ∧ ∃ F : Int, f = .int .i64 F ∧ 0 ≤ F ∧ F ≤ 8589934592 ∧ Hid (F = endAt l k) ∧ Hid (∀ j, j < k → relOk N (endAt l j) (l.getD j Rl.nought) = true) ∧ Hid (Below w.heap.size w wr) ∧ Hid (Blk wr w.heap.size 50 [.string M, .int .u8 bind, .int .u8 k0, .int .u32 z, .string T, .slice a n c, .slice an nn cn])) (fun _ i _ => n - (intOf i).toNat)
  case atStart => exact ⟨0, by omega, rfl, 0, rfl, by omega, by omega, Lib.hid rfl, Lib.hid fun j hj => absurd hj (by omega), HB0, HX0⟩
  case round =>
    clear HB0 HX0
    obtain ⟨k, hk, rfl, F, rfl, hF0, hF1, HF, HK, HB, HS⟩ := hrel
    have b5 : wr.cell? ⟨w.heap.size, 5, none⟩ = some (.slice a n c) := HS.out.cell 5
    by_cases hlt : k < n
    · obtain ⟨b, o, rfl, hbl, hcl⟩ := H3.out (by omega)
      obtain ⟨x, hx⟩ : ∃ x, x = l.getD k Rl.nought := ⟨_, rfl⟩
      have hL := ((hcl k hlt).below HB.out hbl)
      rw [← hx] at hL
      obtain ⟨c0, c1, c2, c3⟩ := hL.rl
      have hfit := H2.out k (by rw [← HN.out]; exact hlt)
      rw [← hx] at hfit
      obtain ⟨⟨f1, f2⟩, ⟨f3, f4⟩, ⟨f5, f6⟩, f7⟩ := hfit
      have hbr : b < wr.heap.size := Nat.lt_of_lt_of_le hbl HB.out.size
      obtain ⟨of, hof⟩ : ∃ of, of = x.off := ⟨_, rfl⟩
      obtain ⟨kk, hkk⟩ : ∃ kk, kk = x.kind := ⟨_, rfl⟩
      obtain ⟨ad, had⟩ : ∃ ad, ad = x.add := ⟨_, rfl⟩
      obtain ⟨U, hU⟩ : ∃ U, U = tx x.name := ⟨_, rfl⟩
      rw [← hof] at c0 f1 f2
      rw [← hkk] at c1 f3 f4
      rw [← hU] at c2
      rw [← had] at c3
      have HW := Lib.hid (fun W => rwidth_any kk f3 f4 W)
      obtain ⟨wi, hwi⟩ : ∃ wi, wi = width kk := ⟨_, rfl⟩
      have hw1 := width_le kk
      rw [← hwi] at HW hw1
      obtain ⟨hw0, hw4⟩ := hw1
      have HI := Lib.hid (fun W => rname_any U (by rw [hU, tx_size]; exact f7) W)
      have hbU : by' U = x.name := by rw [hU, by_tx]
      rw [hbU] at HI
      obtain ⟨nb, hnb⟩ : ∃ nb, nb = nameOk x.name := ⟨_, rfl⟩
      rw [← hnb] at HI
      have HR : Hid (relOk N (endAt l k) (l.getD k Rl.nought) = (decide (wi ≠ 0 ∧ F ≤ of ∧ of + wi ≤ N) && nb)) := Lib.hid (by
        rw [← hx]; unfold relOk placeOk; rw [← hof, ← hkk, ← hwi, ← hnb, HF.out])
      have HE : Hid (endAt l (k + 1) = of + wi) := Lib.hid (by show (l.getD k Rl.nought).off + width (l.getD k Rl.nought).kind = _; rw [← hx, ← hof, ← hkk, ← hwi])
      have hd : decide (k < n) = true := decide_eq_true hlt
      have HBa := Lib.hid (below_box HB.out (.cells #[.int .u32 of, .int .u8 kk, .string U, .int .u32 ad] 54))
      have HSa := Lib.hid (HS.out.alloc (.cells #[.int .u32 of, .int .u8 kk, .string U, .int .u32 ad] 54))
      have hcT : (wr.alloc (.cells #[.int .u32 of, .int .u8 kk, .string U, .int .u32 ad] 54)).cell? ⟨w.heap.size, 4, none⟩ = some (.string T) := HSa.out.cell 4
      clear hcl hL hx hof hkk had hU hbU hnb hwi f7 HF
      have hcase : ((wi == 0) = true ∨ ((wi == 0) = false ∧ nb = false) ∨ ((wi == 0) = false ∧ nb = true ∧ 8192 < of) ∨ ((wi == 0) = false ∧ nb = true ∧ of ≤ 8192 ∧ of < F) ∨ ((wi == 0) = false ∧ nb = true ∧ of ≤ 8192 ∧ F ≤ of ∧ N < of + wi)) ∨ ((wi == 0) = false ∧ nb = true ∧ of ≤ 8192 ∧ F ≤ of ∧ of + wi ≤ N) := by
        by_cases g1 : wi = 0
        · exact .inl (.inl (by simp [g1]))
        · have g1' : (wi == 0) = false := by simpa using g1
          cases nb with
          | false => exact .inl (.inr (.inl ⟨g1', rfl⟩))
          | true =>
            rcases Int.lt_or_le 8192 of with g2 | g2
            · exact .inl (.inr (.inr (.inl ⟨g1', rfl, g2⟩)))
            · rcases Int.lt_or_le of F with g3 | g3
              · exact .inl (.inr (.inr (.inr (.inl ⟨g1', rfl, g2, g3⟩))))
              · rcases Int.lt_or_le N (of + wi) with g4 | g4
                · exact .inl (.inr (.inr (.inr (.inr ⟨g1', rfl, g2, g3, g4⟩))))
                · exact .inr ⟨g1', rfl, g2, g3, g4⟩
      rcases hcase with hbad | ⟨g1, rfl, g2, g3, g4⟩
      · have HF2 : Hid (relsOk N l = false) := Lib.hid (by
          unfold relsOk
          rw [allN_false (k := k) (by rw [← HN.out]; exact hlt) (by
            rw [HR.out]
            rcases hbad with g | ⟨g, rfl⟩ | ⟨g, rfl, g2⟩ | ⟨g, rfl, g2, g3⟩ | ⟨g, rfl, g2, g3, g4⟩
            · rw [decide_eq_false, Bool.false_and]
              rintro ⟨q1, q2, q3⟩
              exact q1 (by simpa using g)
            · rw [Bool.and_false]
            · rw [decide_eq_false, Bool.false_and]
              omega
            · rw [decide_eq_false, Bool.false_and]
              omega
            · rw [decide_eq_false, Bool.false_and]
              omega), Bool.and_false])
        clear HK HR HE
        rcases hbad with g | ⟨g, rfl⟩ | ⟨g, rfl, g2⟩ | ⟨g, rfl, g2, g3⟩ | ⟨g, rfl, g2, g3, g4⟩
        · go_wp2_with fail
          refine (HW.out _).mono ?_; rintro e w2 ⟨rfl, rfl⟩
          go_wp2_with fail
          go_ret
          exact ⟨ret_bool HF2.out.symm, HBa.out⟩
        all_goals
          go_wp2_with fail
          refine (HW.out _).mono ?_; rintro e w2 ⟨rfl, rfl⟩
          go_wp2_with fail
          refine (HI.out _).mono ?_; rintro e w2 ⟨rfl, rfl⟩
          go_wp2_with fail
          go_ret
          exact ⟨ret_bool HF2.out.symm, HBa.out⟩
      · have HK2 : Hid (∀ j, j < k + 1 → relOk N (endAt l j) (l.getD j Rl.nought) = true) := Lib.hid fun j hj => by
          by_cases he : j = k
          · subst he; rw [HR.out, Bool.and_true]; exact decide_eq_true ⟨by simpa using g1, g3, g4⟩
          · exact HK.out j (by omega)
        clear HK HR
        go_wp2_with fail
        refine (HW.out _).mono ?_; rintro e w2 ⟨rfl, rfl⟩
        go_wp2_with fail
        refine (HI.out _).mono ?_; rintro e w2 ⟨rfl, rfl⟩
        go_wp2_with fail
        clear b5 hcT
        go_roundw
        case rel => exact ⟨k + 1, by omega, by go_num, of + wi, rfl, by omega, by omega, Lib.hid HE.out.symm, HK2, HBa, HSa⟩
        case measure => simp [intOf]; omega
    · have hd : decide (k < n) = false := decide_eq_false hlt
      have HA : Hid (allN l.length (fun k => relOk N (endAt l k) (l.getD k Rl.nought)) = true) := Lib.hid (allN_true fun j hj => HK.out j (by rw [← HN.out] at hj; omega))
      clear hlt HK
      by_cases hb : n ≤ 1024
      · have hb2 : (n : Int) ≤ 1024 := by omega
        have HR : Hid (relsOk N l = true) := Lib.hid (by unfold relsOk; rw [HA.out, decide_eq_true (by rw [← HN.out]; exact hb)]; rfl)
        clear hb
        go_wp2
        go_ret
        exact ⟨ret_bool HR.out.symm, HB.out⟩
      · have hb2 : (1024 : Int) < (n : Int) := by omega
        have HR : Hid (relsOk N l = false) := Lib.hid (by unfold relsOk; rw [decide_eq_false (by rw [← HN.out]; exact hb)]; rfl)
        clear hb
        go_wp2
        go_ret
        exact ⟨ret_bool ((decide_eq_false (by omega)).trans HR.out.symm), HB.out⟩
end Go.Proofs.Ytfnofolahhoggaa
