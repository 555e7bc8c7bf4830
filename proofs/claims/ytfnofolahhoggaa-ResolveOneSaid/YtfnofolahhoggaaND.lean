/- The program's isKind, isSized, demands: a symbol, part by part. -/
import Derived.Test.YtfnofolahhoggaaNC
set_option linter.unusedVariables false
set_option linter.unusedSimpArgs false
namespace Go.Proofs.Ytfnofolahhoggaa
open Go Go.RowKit Oj

set_option maxHeartbeats 4000000 in
set_option maxRecDepth 100000 in
theorem iskind_any (s : Sy) (h : syFits s) (vr vn : Value) (w : World) : Calls Try.prog 52 #[syV s vr vn] w fun e w' => e = .returned (.bool (sykOk s.kind)) ∧ Below w.heap.size w w' := by
  obtain ⟨name, bind, k, size, bytes, rels, notes⟩ := s
  obtain ⟨_, _, ⟨h1, h2⟩, _⟩ := h
  simp only at h1 h2
  unfold syV
  simp only
  obtain ⟨E, hE⟩ : ∃ E, E = sykOk k := ⟨_, rfl⟩
  rw [← hE]
  have HE := Lib.hid hE
  clear hE
  go_enter Try.func52, Try.ntmps52
  go_wp2
  all_goals (go_ret; refine ⟨ret_bool ?_, (Below.refl _ _).alloc (Nat.le_refl _) _⟩; rw [HE.out]; unfold sykOk; rw [Bool.eq_iff_iff]; simp only [decide_eq_true_eq, Bool.or_eq_true, Bool.false_eq_true, false_iff, true_iff, beq_iff_eq, beq_eq_false_iff_ne, ne_eq] at *; omega)
set_option maxHeartbeats 4000000 in
set_option maxRecDepth 100000 in
theorem issized_any (s : Sy) (h : syFits s) (vr vn : Value) (w : World) : Calls Try.prog 53 #[syV s vr vn] w fun e w' => e = .returned (.bool (sizeOk s.kind s.size s.bytes.length)) ∧ Below w.heap.size w w' := by
  obtain ⟨name, bind, k, z, bytes, rels, notes⟩ := s
  obtain ⟨_, _, ⟨h1, h2⟩, ⟨h3, h4⟩, h5, _⟩ := h
  simp only at h1 h2 h3 h4 h5
  unfold syV
  simp only
  obtain ⟨T, hT⟩ : ∃ T, T = tx bytes := ⟨_, rfl⟩
  have hTs : (T.size : Int) = (bytes.length : Int) := by rw [hT, tx_size]
  obtain ⟨E, hE⟩ : ∃ E, E = sizeOk k z bytes.length := ⟨_, rfl⟩
  have hT2 : (T.size : Int) ≤ 140737488355328 := by omega
  rw [← hE, ← hT]
  have HE : Hid (E = decide ((1 ≤ z ∧ z ≤ 8192 ∧ (T.size : Int) ≤ z) ∧ (k = 1 → z = T.size ∧ z % 8 = 0))) := Lib.hid (by rw [hE]; unfold sizeOk; rw [hTs])
  clear hE hT hTs h5
  go_enter Try.func53, Try.ntmps53
  go_wp2_with fail
  go_quiet (fail)
  go_wp2
  all_goals (go_ret; refine ⟨ret_bool ?_, (((Below.refl _ _).alloc (Nat.le_refl _) _)).trans ((below_drewN _ _).mono (by simp))⟩; rw [HE.out, Bool.eq_iff_iff]; simp only [decide_eq_true_eq, Bool.or_eq_true, Bool.and_eq_true, Bool.false_eq_true, false_iff, true_iff, beq_iff_eq, beq_eq_false_iff_ne, ne_eq, bne_iff_ne, bne_eq_false_iff_eq] at *; omega)

theorem ntV_eq (x : Nt) : ntV x = .agg #[.int .u8 x.kind, .int .u32 x.n, .int .u32 x.m] := rfl
set_option maxHeartbeats 4000000 in
set_option maxRecDepth 100000 in
theorem demands_any (s : Sy) (h : syFits s) (vr vn : Value) (w : World) (hA : NotesAt w vn s.notes) : Calls Try.prog 55 #[syV s vr vn] w fun e w' => e = .returned (.bool (notesOk s.notes)) ∧ Below w.heap.size w w' := by
  obtain ⟨name, bind, k, z, bytes, rels, l⟩ := s
  obtain ⟨_, _, _, _, _, _, h1, _, h2⟩ := h
  simp only at h1 h2 hA
  unfold syV
  simp only
  obtain ⟨a, c, rfl, h3⟩ := hA
  obtain ⟨n, hn⟩ : ∃ n, n = l.length := ⟨_, rfl⟩
  rw [← hn] at h3 ⊢
  have HN := Lib.hid hn
  by_cases hb : n ≤ 8
  · have hni : (n : Int) ≤ 8 := by omega
    have H2 := Lib.hid h2
    have H3 := Lib.hid h3
    clear hn h1 h2 h3 hb
    go_enter Try.func55, Try.ntmps55
    go_wp2_with fail
    go_loopw [14] (fun i wr => ∃ k : Nat, (k : Int) ≤ n ∧ i = .int .i64 k ∧ Hid (∀ j, j < k → noteOk (l.getD j Nt.nought) = true) ∧ Hid (Below w.heap.size w wr)) (fun i _ => n - (intOf i).toNat)
    case atStart => exact ⟨0, by omega, rfl, Lib.hid fun j hj => absurd hj (by omega), Lib.hid ((Below.refl _ _).alloc (Nat.le_refl _) _)⟩
    case round =>
      obtain ⟨k, hk, rfl, HK, HB⟩ := hrel
      by_cases hlt : k < n
      · obtain ⟨b, o, rfl, hbl, hcl⟩ := H3.out (by omega)
        obtain ⟨x, hx⟩ : ∃ x, x = l.getD k Nt.nought := ⟨_, rfl⟩
        have hL := ((hcl k hlt).below HB.out hbl)
        rw [← hx] at hL
        obtain ⟨c0, c1, c2⟩ := hL.nt
        have HI := Lib.hid (fun W => isnote_any x (by rw [hx]; exact H2.out k (by rw [← HN.out]; exact hlt)) W)
        have hbr : b < wr.heap.size := Nat.lt_of_lt_of_le hbl HB.out.size
        obtain ⟨kk, hkk⟩ : ∃ kk, kk = x.kind := ⟨_, rfl⟩
        obtain ⟨nn, hnn⟩ : ∃ nn, nn = x.n := ⟨_, rfl⟩
        obtain ⟨mm, hmm⟩ : ∃ mm, mm = x.m := ⟨_, rfl⟩
        rw [ntV_eq, ← hkk, ← hnn, ← hmm] at HI
        rw [← hkk] at c0
        rw [← hnn] at c1
        rw [← hmm] at c2
        clear hcl hL hkk hnn hmm
        have hd : decide (k < n) = true := decide_eq_true hlt
        by_cases hb : noteOk x = true
        · have HK2 : Hid (∀ j, j < k + 1 → noteOk (l.getD j Nt.nought) = true) := Lib.hid fun j hj => by
            by_cases he : j = k
            · subst he; rw [← hx]; exact hb
            · exact HK.out j (by omega)
          rw [hb] at HI
          clear hb HK hx
          go_wp2_with fail
          refine (HI.out _).mono ?_; rintro e w2 ⟨rfl, q2⟩
          have HB2 : Hid (Below w.heap.size w w2) := Lib.hid ((HB.out.alloc HB.out.size _).trans (q2.mono (Nat.le_trans HB.out.size (by simp))))
          clear q2
          go_wp2
          go_roundw
          case rel => exact ⟨k + 1, by omega, by go_num, HK2, HB2⟩
          case measure => simp [intOf]; omega
        · have hb := Bool.eq_false_iff.2 hb
          have HR : Hid (notesOk l = false) := Lib.hid (by
            unfold notesOk
            rw [allN_false (k := k) (by rw [← HN.out]; exact hlt) (by rw [← hx]; exact hb), Bool.and_false])
          rw [hb] at HI
          clear hb HK hx
          go_wp2_with fail
          refine (HI.out _).mono ?_; rintro e w2 ⟨rfl, q2⟩
          have HB2 : Hid (Below w.heap.size w w2) := Lib.hid ((HB.out.alloc HB.out.size _).trans (q2.mono (Nat.le_trans HB.out.size (by simp))))
          clear q2
          go_wp2
          go_ret
          exact ⟨ret_bool HR.out.symm, HB2.out⟩
      · have hd : decide (k < n) = false := decide_eq_false hlt
        have HR : Hid (notesOk l = true) := Lib.hid (by
          unfold notesOk
          rw [allN_true (fun j hj => HK.out j (by rw [← HN.out] at hj; omega)), Bool.and_true, decide_eq_true (by rw [← HN.out]; omega)])
        clear hlt HK
        go_wp2
        go_ret
        exact ⟨ret_bool HR.out.symm, HB.out⟩
  · have HR : Hid (notesOk l = false) := Lib.hid (by unfold notesOk; rw [decide_eq_false (by rw [← hn]; exact hb), Bool.false_and])
    have hb8 : (8 : Int) < (n : Int) := by omega
    have hni : (n : Int) * 12 ≤ 140737488355328 := by omega
    clear hn h1 h2 h3 hb HN
    go_enter Try.func55, Try.ntmps55
    go_wp2
    go_ret
    exact ⟨ret_bool HR.out.symm, (Below.refl _ _).alloc (Nat.le_refl _) _⟩
end Go.Proofs.Ytfnofolahhoggaa
