/- Some texts of one proof, one behind the other; each has its own head below. -/
import Derived.Test.YtbpdoiikleaidaaX14
/- The program's isKind, isSized, demands: a symbol, part by part. -/
section
set_option linter.unusedVariables false
set_option linter.unusedSimpArgs false
namespace Go.Proofs.Ytbpdoiikleaidaa
open Go Go.RowKit Oj

set_option maxHeartbeats 4000000 in
set_option maxRecDepth 100000 in
theorem iskind_any (s : Sy) (h : syFits s) (vr vn : Value) (w : World) : Calls Try.prog 71 #[syV s vr vn] w fun e w' => e = .returned (.bool (sykOk s.kind)) ∧ Below w.heap.size w w' := by
  obtain ⟨name, bind, k, size, bytes, rels, notes⟩ := s
  obtain ⟨_, _, ⟨h1, h2⟩, _⟩ := h
  simp only at h1 h2
  unfold syV
  simp only
  obtain ⟨E, hE⟩ : ∃ E, E = sykOk k := ⟨_, rfl⟩
  rw [← hE]
  have HE := Lib.hid hE
  clear hE
  go_enter Try.func71, Try.ntmps71
  go_wp2
  all_goals (go_ret; refine ⟨ret_bool ?_, (Below.refl _ _).alloc (Nat.le_refl _) _⟩; rw [HE.out]; unfold sykOk; rw [Bool.eq_iff_iff]; simp only [decide_eq_true_eq, Bool.or_eq_true, Bool.false_eq_true, false_iff, true_iff, beq_iff_eq, beq_eq_false_iff_ne, ne_eq] at *; omega)
set_option maxHeartbeats 4000000 in
set_option maxRecDepth 100000 in
theorem issized_any (s : Sy) (h : syFits s) (vr vn : Value) (w : World) : Calls Try.prog 72 #[syV s vr vn] w fun e w' => e = .returned (.bool (sizeOk s.kind s.size s.bytes.length)) ∧ Below w.heap.size w w' := by
  obtain ⟨name, bind, k, z, bytes, rels, notes⟩ := s
  obtain ⟨_, _, ⟨h1, h2⟩, ⟨h3, h4⟩, h5, _⟩ := h
  simp only at h1 h2 h3 h4 h5
  unfold syV
  simp only
  obtain ⟨T, hT⟩ : ∃ T, T = tx bytes := ⟨_, rfl⟩
  have hTs : (T.size : Int) = (bytes.length : Int) := by rw [hT, tx_size]
  obtain ⟨E, hE⟩ : ∃ E, E = sizeOk k z bytes.length := ⟨_, rfl⟩
  have hT2 : (T.size : Int) ≤ 140737488355328 := by omega
  rw [← hE, ← hT]
  have HE : Hid (E = decide ((1 ≤ z ∧ z ≤ 8192 ∧ (T.size : Int) ≤ z) ∧ (k = 1 → z = T.size ∧ z % 8 = 0))) := Lib.hid (by rw [hE]; unfold sizeOk; rw [hTs])
  clear hE hT hTs h5
  go_enter Try.func72, Try.ntmps72
  go_wp2_with fail
  go_quiet (fail)
  go_wp2
  all_goals (go_ret; refine ⟨ret_bool ?_, (((Below.refl _ _).alloc (Nat.le_refl _) _)).trans ((below_drewN _ _).mono (by simp))⟩; rw [HE.out, Bool.eq_iff_iff]; simp only [decide_eq_true_eq, Bool.or_eq_true, Bool.and_eq_true, Bool.false_eq_true, false_iff, true_iff, beq_iff_eq, beq_eq_false_iff_ne, ne_eq, bne_iff_ne, bne_eq_false_iff_eq] at *; omega)

theorem ntV_eq (x : Nt) : ntV x = .agg #[.int .u8 x.kind, .int .u32 x.n, .int .u32 x.m] := rfl
set_option maxHeartbeats 4000000 in
set_option maxRecDepth 100000 in
theorem demands_any (s : Sy) (h : syFits s) (vr vn : Value) (w : World) (hA : NotesAt w vn s.notes) : Calls Try.prog 74 #[syV s vr vn] w fun e w' => e = .returned (.bool (notesOk s.notes)) ∧ Below w.heap.size w w' := by
  obtain ⟨name, bind, k, z, bytes, rels, l⟩ := s
  obtain ⟨_, _, _, _, _, _, h1, _, h2⟩ := h
  simp only at h1 h2 hA
  unfold syV
  simp only
  obtain ⟨a, c, rfl, h3⟩ := hA
  obtain ⟨n, hn⟩ : ∃ n, n = l.length := ⟨_, rfl⟩
  rw [← hn] at h3 ⊢
  have HN := Lib.hid hn
  by_cases hb : n ≤ 8
  · have hni : (n : Int) ≤ 8 := by omega
    have H2 := Lib.hid h2
    have H3 := Lib.hid h3
    clear hn h1 h2 h3 hb
    go_enter Try.func74, Try.ntmps74
    go_wp2_with fail
    go_loopw [14] (fun i wr => ∃ k : Nat, (k : Int) ≤ n ∧ i = .int .i64 k ∧ Hid (∀ j, j < k → noteOk (l.getD j Nt.nought) = true) ∧ Hid (Below w.heap.size w wr)) (fun i _ => n - (intOf i).toNat)
    case atStart => exact ⟨0, by omega, rfl, Lib.hid fun j hj => absurd hj (by omega), Lib.hid ((Below.refl _ _).alloc (Nat.le_refl _) _)⟩
    case round =>
      obtain ⟨k, hk, rfl, HK, HB⟩ := hrel
      by_cases hlt : k < n
      · obtain ⟨b, o, rfl, hbl, hcl⟩ := H3.out (by omega)
        obtain ⟨x, hx⟩ : ∃ x, x = l.getD k Nt.nought := ⟨_, rfl⟩
        have hL := ((hcl k hlt).below HB.out hbl)
        rw [← hx] at hL
        obtain ⟨c0, c1, c2⟩ := hL.nt
        have HI := Lib.hid (fun W => isnote_any x (by rw [hx]; exact H2.out k (by rw [← HN.out]; exact hlt)) W)
        have hbr : b < wr.heap.size := Nat.lt_of_lt_of_le hbl HB.out.size
        obtain ⟨kk, hkk⟩ : ∃ kk, kk = x.kind := ⟨_, rfl⟩
        obtain ⟨nn, hnn⟩ : ∃ nn, nn = x.n := ⟨_, rfl⟩
        obtain ⟨mm, hmm⟩ : ∃ mm, mm = x.m := ⟨_, rfl⟩
        rw [ntV_eq, ← hkk, ← hnn, ← hmm] at HI
        rw [← hkk] at c0
        rw [← hnn] at c1
        rw [← hmm] at c2
        clear hcl hL hkk hnn hmm
        have hd : decide (k < n) = true := decide_eq_true hlt
        by_cases hb : noteOk x = true
        · have HK2 : Hid (∀ j, j < k + 1 → noteOk (l.getD j Nt.nought) = true) := Lib.hid fun j hj => by
            by_cases he : j = k
            · subst he; rw [← hx]; exact hb
            · exact HK.out j (by omega)
          rw [hb] at HI
          clear hb HK hx
          go_wp2_with fail
          refine (HI.out _).mono ?_; rintro e w2 ⟨rfl, q2⟩
          have HB2 : Hid (Below w.heap.size w w2) := Lib.hid ((HB.out.alloc HB.out.size _).trans (q2.mono (Nat.le_trans HB.out.size (by simp))))
          clear q2
          go_wp2
          go_roundw
          case rel => exact ⟨k + 1, by omega, by go_num, HK2, HB2⟩
          case measure => simp [intOf]; omega
        · have hb := Bool.eq_false_iff.2 hb
          have HR : Hid (notesOk l = false) := Lib.hid (by
            unfold notesOk
            rw [allN_false (k := k) (by rw [← HN.out]; exact hlt) (by rw [← hx]; exact hb), Bool.and_false])
          rw [hb] at HI
          clear hb HK hx
          go_wp2_with fail
          refine (HI.out _).mono ?_; rintro e w2 ⟨rfl, q2⟩
          have HB2 : Hid (Below w.heap.size w w2) := Lib.hid ((HB.out.alloc HB.out.size _).trans (q2.mono (Nat.le_trans HB.out.size (by simp))))
          clear q2
          go_wp2
          go_ret
          exact ⟨ret_bool HR.out.symm, HB2.out⟩
      · have hd : decide (k < n) = false := decide_eq_false hlt
        have HR : Hid (notesOk l = true) := Lib.hid (by
          unfold notesOk
          rw [allN_true (fun j hj => HK.out j (by rw [← HN.out] at hj; omega)), Bool.and_true, decide_eq_true (by rw [← HN.out]; omega)])
        clear hlt HK
        go_wp2
        go_ret
        exact ⟨ret_bool HR.out.symm, HB.out⟩
  · have HR : Hid (notesOk l = false) := Lib.hid (by unfold notesOk; rw [decide_eq_false (by rw [← hn]; exact hb), Bool.false_and])
    have hb8 : (8 : Int) < (n : Int) := by omega
    have hni : (n : Int) * 12 ≤ 140737488355328 := by omega
    clear hn h1 h2 h3 hb HN
    go_enter Try.func74, Try.ntmps74
    go_wp2
    go_ret
    exact ⟨ret_bool HR.out.symm, (Below.refl _ _).alloc (Nat.le_refl _) _⟩
end Go.Proofs.Ytbpdoiikleaidaa
end

/- The program's refers: a symbol's relocations. -/
section
set_option linter.unusedVariables false
set_option linter.unusedSimpArgs false
namespace Go.Proofs.Ytbpdoiikleaidaa
open Go Go.RowKit Oj

set_option maxHeartbeats 8000000 in
set_option maxRecDepth 100000 in
theorem refers_any (s : Sy) (h : syFits s) (vr vn : Value) (w : World) (hA : RelsAt w vr s.rels) : Calls Try.prog 73 #[syV s vr vn] w fun e w' => e = .returned (.bool (relsOk s.bytes.length s.rels)) ∧ Below w.heap.size w w' := by
  obtain ⟨name, bind, k0, z, bytes, l, notes⟩ := s
  obtain ⟨_, _, _, _, hby, h1, _, h2, _⟩ := h
  simp only at h1 h2 hA hby
  unfold syV
  simp only
  obtain ⟨a, c, rfl, h3⟩ := hA
  obtain ⟨n, hn⟩ : ∃ n, n = l.length := ⟨_, rfl⟩
  obtain ⟨T, hT⟩ : ∃ T, T = tx bytes := ⟨_, rfl⟩
  obtain ⟨N, hN⟩ : ∃ N : Int, N = (bytes.length : Int) := ⟨_, rfl⟩
  obtain ⟨M, hM⟩ : ∃ M, M = tx name := ⟨_, rfl⟩
  have hTs : (T.size : Int) = N := by rw [hT, tx_size, hN]
  have hN2 : N ≤ 140737488355328 := by omega
  have hN0 : 0 ≤ N := by omega
  rw [← hn] at h3 ⊢
  rw [← hT, ← hN, ← hM]
  have HN := Lib.hid hn
  by_cases hb : n ≤ 1024
  · have hni : (n : Int) ≤ 1024 := by omega
    have H2 := Lib.hid h2
    have H3 := Lib.hid h3
    clear hn h1 h2 h3 hb hT hN hby hM
    go_enter Try.func73, Try.ntmps73
    go_wp2_with fail
    go_loopw [3, 17] (fun f i wr => ∃ k : Nat, (k : Int) ≤ n ∧ i = .int .i64 k ∧ ∃ F : Int, f = .int .u64 F ∧ 0 ≤ F ∧ F ≤ 8589934592 ∧ Hid (F = endAt l k) ∧ Hid (∀ j, j < k → relOk N (endAt l j) (l.getD j Rl.nought) = true) ∧ Hid (Below w.heap.size w wr) ∧ Hid (Blk wr w.heap.size 121 [.string M, .int .u8 bind, .int .u8 k0, .int .u32 z, .string T, .slice a n c, vn])) (fun _ i _ => n - (intOf i).toNat)
    case atStart => exact ⟨0, by omega, rfl, 0, rfl, by omega, by omega, Lib.hid rfl, Lib.hid fun j hj => absurd hj (by omega), Lib.hid ((Below.refl _ _).alloc (Nat.le_refl _) _), Lib.hid (Blk.new _ _ _)⟩
    case round =>
      obtain ⟨k, hk, rfl, F, rfl, hF0, hF1, HF, HK, HB, HS⟩ := hrel
      by_cases hlt : k < n
      · obtain ⟨b, o, rfl, hbl, hcl⟩ := H3.out (by omega)
        obtain ⟨x, hx⟩ : ∃ x, x = l.getD k Rl.nought := ⟨_, rfl⟩
        have hL := ((hcl k hlt).below HB.out hbl)
        rw [← hx] at hL
        obtain ⟨c0, c1, c2, c3⟩ := hL.rl
        have hfit := H2.out k (by rw [← HN.out]; exact hlt)
        rw [← hx] at hfit
        obtain ⟨⟨f1, f2⟩, ⟨f3, f4⟩, ⟨f5, f6⟩, f7⟩ := hfit
        have hbr : b < wr.heap.size := Nat.lt_of_lt_of_le hbl HB.out.size
        obtain ⟨of, hof⟩ : ∃ of, of = x.off := ⟨_, rfl⟩
        obtain ⟨kk, hkk⟩ : ∃ kk, kk = x.kind := ⟨_, rfl⟩
        obtain ⟨ad, had⟩ : ∃ ad, ad = x.add := ⟨_, rfl⟩
        obtain ⟨U, hU⟩ : ∃ U, U = tx x.name := ⟨_, rfl⟩
        rw [← hof] at c0 f1 f2
        rw [← hkk] at c1 f3 f4
        rw [← hU] at c2
        rw [← had] at c3
        have HW := Lib.hid (fun W => relsize_any kk f3 f4 W)
        obtain ⟨wi, hwi⟩ : ∃ wi, wi = width kk := ⟨_, rfl⟩
        have hw1 := width_le kk
        have hw2 := @width_pos kk
        rw [← hwi] at HW hw1 hw2
        obtain ⟨hw0, hw4⟩ := hw1
        have HI := Lib.hid (fun W => isname_any U (by rw [hU, tx_size]; exact f7) W)
        have hbU : by' U = x.name := by rw [hU, by_tx]
        rw [hbU] at HI
        obtain ⟨nb, hnb⟩ : ∃ nb, nb = nameOk x.name := ⟨_, rfl⟩
        rw [← hnb] at HI
        have HR : Hid (relOk N (endAt l k) (l.getD k Rl.nought) = (decide (wi ≠ 0 ∧ F ≤ of ∧ of + wi ≤ N) && nb)) := Lib.hid (by
          rw [← hx]; unfold relOk placeOk; rw [← hof, ← hkk, ← hwi, ← hnb, HF.out])
        have HE : Hid (endAt l (k + 1) = of + wi) := Lib.hid (by show (l.getD k Rl.nought).off + width (l.getD k Rl.nought).kind = _; rw [← hx, ← hof, ← hkk, ← hwi])
        have hd : decide (k < n) = true := decide_eq_true hlt
        have hcT : (wr.alloc (.cells #[.int .u32 of, .int .u8 kk, .string U, .int .u32 ad] 49)).cell? ⟨w.heap.size, 4, none⟩ = some (.string T) := (HS.out.alloc _).cell 4
        have HP : Hid (wi ≠ 0 → 2 ≤ wi ∧ wi ≤ 4) := Lib.hid hw2
        clear hcl hL hx hof hkk had hU hbU hnb hwi hw2 f7 HF
        have hcase : ((wi == 0) = true ∨ ((wi == 0) = false ∧ of < F) ∨ ((wi == 0) = false ∧ F ≤ of ∧ N < of + wi)) ∨ ((wi == 0) = false ∧ F ≤ of ∧ of + wi ≤ N) := by
          by_cases g1 : wi = 0
          · exact .inl (.inl (by simp [g1]))
          · have g1' : (wi == 0) = false := by simpa using g1
            rcases Int.lt_or_le of F with g2 | g2
            · exact .inl (.inr (.inl ⟨g1', g2⟩))
            · rcases Int.lt_or_le N (of + wi) with g3 | g3
              · exact .inl (.inr (.inr ⟨g1', g2, g3⟩))
              · exact .inr ⟨g1', g2, g3⟩
        rcases hcase with hbad | ⟨g1, g2, g3⟩
        · have HF2 : Hid (relsOk N l = false) := Lib.hid (by
            unfold relsOk
            rw [allN_false (k := k) (by rw [← HN.out]; exact hlt) (by
              rw [HR.out, decide_eq_false, Bool.false_and]
              rintro ⟨q1, q2, q3⟩
              rcases hbad with g | ⟨g, g'⟩ | ⟨g, g', g''⟩
              · exact q1 (by simpa using g)
              · omega
              · omega), Bool.and_false])
          clear HK HR HE HP
          rcases hbad with g | ⟨g, g'⟩ | ⟨g, g', g''⟩
          all_goals
            go_wp2_with fail
            go_quiet ((go_at_call 82; exact quiet_left (HW.out _)))
            go_wp2_with fail
            go_ret
            exact ⟨ret_bool HF2.out.symm, below_boxN HB.out _ _⟩
        · cases nb with
          | true =>
            have HK2 : Hid (∀ j, j < k + 1 → relOk N (endAt l j) (l.getD j Rl.nought) = true) := Lib.hid fun j hj => by
              by_cases he : j = k
              · subst he; rw [HR.out, Bool.and_true]; exact decide_eq_true ⟨by simpa using g1, g2, g3⟩
              · exact HK.out j (by omega)
            clear HK HR
            go_wp2_with fail
            go_quiet ((go_at_call 82; exact quiet_left (HW.out _)))
            go_wp2_with fail
            refine (HI.out _).mono ?_; rintro e w2 ⟨rfl, q2⟩
            have HB2 := Lib.hid (below_call (below_boxN HB.out _ _) q2)
            have HQ := Lib.hid q2
            clear q2
            have HS2 : Hid (Blk w2 w.heap.size 121 [.string M, .int .u8 bind, .int .u8 k0, .int .u32 z, .string T, .slice (some ⟨b, o, none⟩) n c, vn]) := Lib.hid ((HS.out.boxN _ _).call HQ.out)
            clear HQ hcT
            have hp2 : wi ≤ 4 := hw4
            go_wp2_with fail
            go_roundw
            case rel => exact ⟨k + 1, by omega, by go_num, of + wi, rfl, by omega, by omega, Lib.hid HE.out.symm, HK2, HB2, HS2⟩
            case measure => simp [intOf]; omega
          | false =>
            have HF2 : Hid (relsOk N l = false) := Lib.hid (by
              unfold relsOk
              rw [allN_false (k := k) (by rw [← HN.out]; exact hlt) (by rw [HR.out, Bool.and_false]), Bool.and_false])
            clear HK HR HE HP
            go_wp2_with fail
            go_quiet ((go_at_call 82; exact quiet_left (HW.out _)))
            go_wp2_with fail
            refine (HI.out _).mono ?_; rintro e w2 ⟨rfl, q2⟩
            have HB2 := Lib.hid (below_call (below_boxN HB.out _ _) q2)
            clear q2
            go_wp2_with fail
            go_ret
            exact ⟨ret_bool HF2.out.symm, HB2.out⟩
      · have hd : decide (k < n) = false := decide_eq_false hlt
        have HR : Hid (relsOk N l = true) := Lib.hid (by
          unfold relsOk
          rw [allN_true (fun j hj => HK.out j (by rw [← HN.out] at hj; omega)), Bool.and_true, decide_eq_true (by rw [← HN.out]; omega)])
        clear hlt HK
        go_wp2
        go_ret
        exact ⟨ret_bool HR.out.symm, HB.out⟩
  · have HR : Hid (relsOk N l = false) := Lib.hid (by unfold relsOk; rw [decide_eq_false (by rw [← hn]; exact hb), Bool.false_and])
    have hb8 : (1024 : Int) < (n : Int) := by omega
    have hni : (n : Int) * 32 ≤ 140737488355328 := by omega
    clear hn h1 h2 h3 hb HN hN hT hM hby
    go_enter Try.func73, Try.ntmps73
    go_wp2
    go_ret
    exact ⟨ret_bool HR.out.symm, below_new1 _ _⟩
end Go.Proofs.Ytbpdoiikleaidaa
end
