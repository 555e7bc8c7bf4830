/- The document's reader: Num, Text, End, whatever its state. -/
import Derived.Test.YtijfdnaolgbpmaaPF
set_option linter.unusedVariables false
namespace Go.Proofs.Ytijfdnaolgbpmaa
open Go Go.RowKit Pk

section
variable {w w' : World} {g : Nat} {r : Rd}
set_option maxHeartbeats 1000000 in
set_option maxRecDepth 100000 in
theorem rdnum_bad (n : Int) (w : World) (h : RdAt w g r) (hE : r.E = 0) (hn : n < 1 ∨ 4 < n) :
    Calls Try.prog 20 #[.pointer (some ⟨g, 0, none⟩), .int .i64 n] w (RdPost w g (.int .u32 0) ⟨r.S, 2⟩) := by
  obtain ⟨c0, c1, f0, f1⟩ := h.cells
  rw [hE] at c1
  have H := Lib.hid h
  rcases hn with hn | hn
  · clear h hE
    go_enter Try.func20, Try.ntmps20
    go_wp2_with fail
    refine (fails_any 2 _ H.out).mono ?_; rintro x w1 ⟨rfl, h1, g1⟩
    have HH := Lib.hid (And.intro h1 g1)
    clear h1 g1
    go_wp2
    go_ret2
    exact ⟨rfl, HH.out.1, HH.out.2⟩
  · have h1 : ¬ n < 1 := by omega
    clear h hE
    go_enter Try.func20, Try.ntmps20
    go_wp2_with fail
    refine (fails_any 2 _ H.out).mono ?_; rintro x w1 ⟨rfl, h1, g1⟩
    have HH := Lib.hid (And.intro h1 g1)
    clear h1 g1
    go_wp2
    go_ret2
    exact ⟨rfl, HH.out.1, HH.out.2⟩
theorem rdnum_any (n : Int) (w : World) (h : RdAt w g r) (hS : r.S.length ≤ 140737488355328) :
    Calls Try.prog 20 #[.pointer (some ⟨g, 0, none⟩), .int .i64 n] w (RdPost w g (.int .u32 ((num r n).1 : Nat)) (num r n).2) := by
  unfold num
  by_cases hc : r.E = 0 ∧ (n < 1 ∨ 4 < n)
  · rw [if_pos hc]
    exact rdnum_bad n w h hc.1 hc.2
  · rw [if_neg hc]
    refine rdnum_go n w h hS ?_
    by_cases hE : r.E = 0
    · right; exact ⟨beq_iff_eq.2 hE, by omega, by omega⟩
    · left; exact beq_eq_false_iff_ne.2 hE
theorem take_len (n : Int) : (take r n).2.S.length ≤ r.S.length := by
  unfold take
  split
  · exact Nat.le_refl _
  · split
    · exact Nat.le_refl _
    · split
      · exact Nat.le_refl _
      · simp only [List.length_drop]; omega
theorem num_len (n : Int) : (num r n).2.S.length ≤ r.S.length := by
  unfold num
  split
  · exact Nat.le_refl _
  · exact take_len n
theorem num_E0 (n : Int) (h : (num r n).2.E = 0) : r.E = 0 := by
  unfold num take at h
  by_cases h0 : r.E = 0
  · exact h0
  · rw [if_neg (by omega), if_pos h0] at h; exact h
theorem text_len : (text r).2.S.length ≤ r.S.length := by
  unfold text
  split
  · exact num_len 2
  · split
    · exact Nat.le_refl _
    · exact Nat.le_trans (take_len _) (num_len 2)

set_option maxHeartbeats 1000000 in
set_option maxRecDepth 100000 in
theorem rdtext_any (w : World) (h : RdAt w g r) (hS : r.S.length ≤ 140737488355328) :
    Calls Try.prog 22 #[.pointer (some ⟨g, 0, none⟩)] w (RdPost w g (.string (tx (text r).1)) (text r).2) := by
  obtain ⟨c0, c1, f0, f1⟩ := h.cells
  have HN := Lib.hid (rdnum_any 2 w h hS)
  have hlen := num_len (r := r) 2
  have hE0 := num_E0 (r := r) 2
  have hback := fun (h0 : r.E = 0) (h1 : (num r 2).2.E = 0) => (num2_back h0 h1).2
  unfold text
  obtain ⟨N, hN⟩ : ∃ N, N = (num r 2).1 := ⟨_, rfl⟩
  obtain ⟨r2, hr2⟩ : ∃ r2, r2 = (num r 2).2 := ⟨_, rfl⟩
  rw [← hN] at HN hback ⊢
  rw [← hr2] at HN hlen hback hE0 ⊢
  obtain ⟨T, hT⟩ : ∃ T, T = tx r.S := ⟨_, rfl⟩
  rw [← hT] at c0
  have HTT := Lib.hid hT
  unfold RdPost at HN
  by_cases h1 : r2.E = 0
  · have hNl := hback (hE0 h1) h1
    rw [if_neg (by simp [h1])]
    have HTk := Lib.hid (fun w1 (q : RdAt w1 g r2) => rdtake_any (N : Int) w1 q (by omega))
    have htf := take_fault (r := r2) (n := (N : Int))
    obtain ⟨L, hL⟩ : ∃ L, L = (take r2 (N : Int)).1 := ⟨_, rfl⟩
    obtain ⟨r3, hr3⟩ : ∃ r3, r3 = (take r2 (N : Int)).2 := ⟨_, rfl⟩
    rw [← hL, ← hr3] at HTk htf
    rw [← hr3]
    have hpair : take r2 (N : Int) = (L, r3) := by rw [hL, hr3]
    rw [hpair]
    rw [h1] at HN
    have hNi : (N : Int) < 4294967296 := by omega
    obtain ⟨E3, hE3⟩ : ∃ E3, E3 = r3.E := ⟨_, rfl⟩
    unfold RdPost at HTk
    rw [← hE3] at HTk htf
    have HE3 := Lib.hid hE3
    by_cases h3 : E3 = 0
    · rw [← hE3, if_neg (by simp [h3])]
      have hb : (E3 != 0) = false := by simp [h3]
      clear hback hE0 hlen hNl htf hL hr3 hpair hE3 h3 hN hr2 h1 hT hS h
      go_enter Try.func22, Try.ntmps22
      go_wp2_with fail
      refine HN.out.mono ?_; rintro x w1 ⟨rfl, q1, g1⟩
      have HH := Lib.hid (And.intro q1 g1)
      clear q1 g1 HN
      go_wp2_with fail
      refine (HTk.out _ HH.out.1).mono ?_; rintro x w2 ⟨rfl, q2, g2⟩
      have HH2 := Lib.hid (And.intro q2 (HH.out.2.trans g2))
      clear q2 g2 HTk HH
      go_wp2
      go_ret2
      exact ⟨by rw [HE3.out]; rfl, HH2.out.1, HH2.out.2⟩
    · obtain ⟨t1, t2⟩ := htf h3
      rw [← hE3, if_pos h3]
      have hb : (E3 != 0) = true := by rw [bne_iff_ne]; exact h3
      rw [t1] at HTk
      clear hback hE0 hlen hNl htf hL hr3 hpair h3 hN hr2 h1 hT hS h
      go_enter Try.func22, Try.ntmps22
      go_wp2_with fail
      refine HN.out.mono ?_; rintro x w1 ⟨rfl, q1, g1⟩
      have HH := Lib.hid (And.intro q1 g1)
      clear q1 g1 HN
      go_wp2_with fail
      refine (HTk.out _ HH.out.1).mono ?_; rintro x w2 ⟨rfl, q2, g2⟩
      have HH2 := Lib.hid (And.intro q2 (HH.out.2.trans g2))
      obtain ⟨c0, c1, f0, f1⟩ := q2.cells
      have HF := Lib.hid (q2.setS r.S)
      rw [← HTT.out, ← hE3] at HF
      clear q2 g2 HTk HH hE3
      go_wp2
      go_ret2
      exact ⟨rfl, HF.out, HH2.out.2.trans (grown_set _ _ _ _)⟩
  · rw [if_pos h1]
    obtain ⟨E2, hE2⟩ : ∃ E2, E2 = r2.E := ⟨_, rfl⟩
    rw [← hE2] at HN h1
    have HE2 := Lib.hid hE2
    have hb : (E2 != 0) = true := by rw [bne_iff_ne]; exact h1
    clear hback hE0 hlen h1 hN hr2 hE2 hT hS h
    go_enter Try.func22, Try.ntmps22
    go_wp2_with fail
    refine HN.out.mono ?_; rintro x w1 ⟨rfl, q1, g1⟩
    have HH := Lib.hid (And.intro q1 g1)
    clear q1 g1 HN
    go_wp2
    go_ret2
    exact ⟨by rw [← HE2.out]; rfl, HH.out.1, HH.out.2⟩
end
end Go.Proofs.Ytijfdnaolgbpmaa
