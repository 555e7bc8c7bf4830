/- Some texts of one proof, one behind the other; each has its own head below. -/
import Derived.Test.YtbpdoiikleaidaaX06
/- The document's reader: Num, Text, End. -/
section
set_option linter.unusedVariables false
namespace Go.Proofs.Ytbpdoiikleaidaa
open Go Go.RowKit Pk

theorem run_index (l : List UInt8) (i : Int) (k : Nat) (hi : (k : Int) = i) (h : k < l.length) (c : Int) (hc : c = ((l[k].toNat : Nat) : Int)) (W : World) : (Instr.index 9 (.string (tx l)) (.int .i64 i)).run Try.prog W = .ok (.int .u8 c) W := by
  subst hi
  have hs : k < (tx l).size := by rw [tx_size]; exact h
  have hk : (k : Int) < ((tx l).size : Int) := by omega
  have e : c = ((((tx l)[k]'hs).toNat : Nat) : Int) := by rw [hc]; rfl
  rw [e]
  simp [go_sem, hk]
theorem unle_drop (l : List UInt8) (k : Nat) (h : k < l.length) : Wd.unle (l.drop k) = 256 * Wd.unle (l.drop (k + 1)) + l[k].toNat := by
  rw [List.drop_eq_getElem_cons h]
  show l[k].toNat + 256 * _ = _
  omega
section
variable {w w' : World} {g : Nat} {r : Rd}
theorem take_short (n : Int) (h : r.E ≠ 0 ∨ (1 ≤ n ∧ n ≤ 4)) : (take r n).1.length ≤ 4 := by
  unfold take
  split
  · simp
  · split
    · simp
    · split
      · simp
      · rename_i h1 _ _
        rw [List.length_take]
        rcases h with h | h
        · exact absurd h h1
        · omega
set_option maxHeartbeats 1000000 in
set_option maxRecDepth 100000 in
/-- The bytes that were taken, as a number. -/
theorem rdnum_go (n : Int) (w : World) (h : RdAt w g r) (hS : r.S.length ≤ 140737488355328) (hg : (r.E == 0) = false ∨ ((r.E == 0) = true ∧ 1 ≤ n ∧ n ≤ 4)) :
    Calls Try.prog 51 #[.pointer (some ⟨g, 0, none⟩), .int .i64 n] w (RdPost w g (.int .u32 (Wd.unle (take r n).1 : Nat)) (take r n).2) := by
  obtain ⟨c0, c1, f0, f1⟩ := h.cells
  have HT := Lib.hid (rdtake_any n w h hS)
  have hsh := take_short (r := r) n (by
    rcases hg with h1 | h1
    · left; exact beq_eq_false_iff_ne.1 h1
    · right; exact h1.2)
  obtain ⟨L, hL⟩ : ∃ L, L = (take r n).1 := ⟨_, rfl⟩
  obtain ⟨r2, hr2⟩ : ∃ r2, r2 = (take r n).2 := ⟨_, rfl⟩
  obtain ⟨E2, hE2⟩ : ∃ E2, E2 = r2.E := ⟨_, rfl⟩
  obtain ⟨T, hT⟩ : ∃ T, T = tx L := ⟨_, rfl⟩
  rw [← hL] at hsh HT ⊢
  rw [← hr2] at HT ⊢
  rw [← hT] at HT
  have hTs : T.size = L.length := by rw [hT, tx_size]
  have hTi : (T.size : Int) ≤ 4 := by omega
  have HTT := Lib.hid hT
  have HTs := Lib.hid hTs
  have HSH := Lib.hid hsh
  unfold RdPost at HT
  have key : ∀ wr, RdAt wr g r2 → w.grownBy wr (some g) → ∀ (k : Nat), k ≤ L.length → Hid (RdAt wr g r2 ∧ w.grownBy wr (some g)) := fun wr h1 h2 _ _ => Lib.hid ⟨h1, h2⟩
  clear key
  rcases hg with he | ⟨he, hn1, hn4⟩
  all_goals (
    clear hL hr2 hT hTs hsh hS h
    go_enter Try.func51, Try.ntmps51
    go_wp2_with fail
    refine HT.out.mono ?_; rintro x w1 ⟨rfl, h1, g1⟩
    have HH := Lib.hid (And.intro h1 g1)
    clear h1 g1 HT
    go_wp2_with fail
    go_loopw [8, 9] (fun v i wr => ∃ (k : Nat) (V I : Int), Hid (k ≤ L.length ∧ I = (k : Int) - 1) ∧ i = .int .i64 I ∧ v = .int .u32 V ∧ -1 ≤ I ∧ I ≤ 3 ∧ Hid (V = (Wd.unle (L.drop k) : Nat)) ∧ wr = w1) (fun _ i _ => (intOf i + 1).toNat)
    case atStart => exact ⟨L.length, 0, (T.size : Int) - 1, Lib.hid ⟨Nat.le_refl _, by rw [HTs.out]⟩, rfl, rfl, by omega, by omega, Lib.hid (by simp [Wd.unle]), rfl⟩
    case round =>
      obtain ⟨k, V, I, HK, rfl, rfl, hi0, hi3, HV, rfl⟩ := hrel
      have hV0 : 0 ≤ V := by rw [HV.out]; omega
      by_cases hz : 0 ≤ I
      · obtain ⟨j, hjk⟩ : ∃ j, k = j + 1 := ⟨k - 1, by have := HK.out.2; omega⟩
        have hj : j < L.length := by have := HK.out.1; omega
        obtain ⟨c, hc⟩ : ∃ c : Int, c = ((L[j].toNat : Nat) : Int) := ⟨_, rfl⟩
        have hix := run_index L I j (by have := HK.out.2; omega) hj c hc
        rw [← HTT.out] at hix
        have hlt := Wd.unle_lt32 (L.drop j) (by rw [List.length_drop]; have := HSH.out; omega)
        have hun := unle_drop L j hj
        have hv := HV.out
        rw [hjk] at hv
        have hc0 : 0 ≤ c := by rw [hc]; omega
        have hVc : 256 * V + c ≤ 4294967295 := by rw [hv, hc]; omega
        have HV2 : Hid (256 * V + c = (Wd.unle (L.drop j) : Nat)) := Lib.hid (by rw [hun, hv, hc]; omega)
        have HK2 : Hid (j ≤ L.length ∧ I - 1 = (j : Int) - 1) := Lib.hid ⟨by omega, by have := HK.out.2; omega⟩
        clear hlt hun hc HV hv hjk hj HK
        go_wp2
        go_roundw
        case rel => exact ⟨j, 256 * V + c, I - 1, HK2, rfl, rfl, by omega, by omega, HV2, trivial⟩
        case measure => simp [intOf]; omega
      · have HV2 : Hid (V = (Wd.unle L : Nat)) := Lib.hid (by
          have hk0 : k = 0 := by have := HK.out.2; omega
          have hv := HV.out
          rw [hk0, List.drop_zero] at hv
          exact hv)
        clear HV
        go_wp2
        go_ret2
        exact ⟨by rw [HV2.out]; rfl, HH.out.1, HH.out.2⟩)
end
end Go.Proofs.Ytbpdoiikleaidaa
end

/- The document's reader: Num, Text, End, whatever its state. -/
section
set_option linter.unusedVariables false
namespace Go.Proofs.Ytbpdoiikleaidaa
open Go Go.RowKit Pk

section
variable {w w' : World} {g : Nat} {r : Rd}
set_option maxHeartbeats 1000000 in
set_option maxRecDepth 100000 in
theorem rdnum_bad (n : Int) (w : World) (h : RdAt w g r) (hE : r.E = 0) (hn : n < 1 ∨ 4 < n) :
    Calls Try.prog 51 #[.pointer (some ⟨g, 0, none⟩), .int .i64 n] w (RdPost w g (.int .u32 0) ⟨r.S, 2⟩) := by
  obtain ⟨c0, c1, f0, f1⟩ := h.cells
  rw [hE] at c1
  have H := Lib.hid h
  rcases hn with hn | hn
  · clear h hE
    go_enter Try.func51, Try.ntmps51
    go_wp2_with fail
    refine (fails_any 2 _ H.out).mono ?_; rintro x w1 ⟨rfl, h1, g1⟩
    have HH := Lib.hid (And.intro h1 g1)
    clear h1 g1
    go_wp2
    go_ret2
    exact ⟨rfl, HH.out.1, HH.out.2⟩
  · have h1 : ¬ n < 1 := by omega
    clear h hE
    go_enter Try.func51, Try.ntmps51
    go_wp2_with fail
    refine (fails_any 2 _ H.out).mono ?_; rintro x w1 ⟨rfl, h1, g1⟩
    have HH := Lib.hid (And.intro h1 g1)
    clear h1 g1
    go_wp2
    go_ret2
    exact ⟨rfl, HH.out.1, HH.out.2⟩
theorem rdnum_any (n : Int) (w : World) (h : RdAt w g r) (hS : r.S.length ≤ 140737488355328) :
    Calls Try.prog 51 #[.pointer (some ⟨g, 0, none⟩), .int .i64 n] w (RdPost w g (.int .u32 ((num r n).1 : Nat)) (num r n).2) := by
  unfold num
  by_cases hc : r.E = 0 ∧ (n < 1 ∨ 4 < n)
  · rw [if_pos hc]
    exact rdnum_bad n w h hc.1 hc.2
  · rw [if_neg hc]
    refine rdnum_go n w h hS ?_
    by_cases hE : r.E = 0
    · right; exact ⟨beq_iff_eq.2 hE, by omega, by omega⟩
    · left; exact beq_eq_false_iff_ne.2 hE
theorem take_len (n : Int) : (take r n).2.S.length ≤ r.S.length := by
  unfold take
  split
  · exact Nat.le_refl _
  · split
    · exact Nat.le_refl _
    · split
      · exact Nat.le_refl _
      · simp only [List.length_drop]; omega
theorem num_len (n : Int) : (num r n).2.S.length ≤ r.S.length := by
  unfold num
  split
  · exact Nat.le_refl _
  · exact take_len n
theorem num_E0 (n : Int) (h : (num r n).2.E = 0) : r.E = 0 := by
  unfold num take at h
  by_cases h0 : r.E = 0
  · exact h0
  · rw [if_neg (by omega), if_pos h0] at h; exact h
theorem text_len : (text r).2.S.length ≤ r.S.length := by
  unfold text
  split
  · exact num_len 2
  · split
    · exact Nat.le_refl _
    · exact Nat.le_trans (take_len _) (num_len 2)

set_option maxHeartbeats 1000000 in
set_option maxRecDepth 100000 in
theorem rdtext_any (w : World) (h : RdAt w g r) (hS : r.S.length ≤ 140737488355328) :
    Calls Try.prog 50 #[.pointer (some ⟨g, 0, none⟩)] w (RdPost w g (.string (tx (text r).1)) (text r).2) := by
  obtain ⟨c0, c1, f0, f1⟩ := h.cells
  have HN := Lib.hid (rdnum_any 2 w h hS)
  have hlen := num_len (r := r) 2
  have hE0 := num_E0 (r := r) 2
  have hback := fun (h0 : r.E = 0) (h1 : (num r 2).2.E = 0) => (num2_back h0 h1).2
  unfold text
  obtain ⟨N, hN⟩ : ∃ N, N = (num r 2).1 := ⟨_, rfl⟩
  obtain ⟨r2, hr2⟩ : ∃ r2, r2 = (num r 2).2 := ⟨_, rfl⟩
  rw [← hN] at HN hback ⊢
  rw [← hr2] at HN hlen hback hE0 ⊢
  obtain ⟨T, hT⟩ : ∃ T, T = tx r.S := ⟨_, rfl⟩
  rw [← hT] at c0
  have HTT := Lib.hid hT
  unfold RdPost at HN
  by_cases h1 : r2.E = 0
  · have hNl := hback (hE0 h1) h1
    rw [if_neg (by simp [h1])]
    have HTk := Lib.hid (fun w1 (q : RdAt w1 g r2) => rdtake_any (N : Int) w1 q (by omega))
    have htf := take_fault (r := r2) (n := (N : Int))
    obtain ⟨L, hL⟩ : ∃ L, L = (take r2 (N : Int)).1 := ⟨_, rfl⟩
    obtain ⟨r3, hr3⟩ : ∃ r3, r3 = (take r2 (N : Int)).2 := ⟨_, rfl⟩
    rw [← hL, ← hr3] at HTk htf
    rw [← hr3]
    have hpair : take r2 (N : Int) = (L, r3) := by rw [hL, hr3]
    rw [hpair]
    rw [h1] at HN
    have hNi : (N : Int) < 4294967296 := by omega
    obtain ⟨E3, hE3⟩ : ∃ E3, E3 = r3.E := ⟨_, rfl⟩
    unfold RdPost at HTk
    rw [← hE3] at HTk htf
    have HE3 := Lib.hid hE3
    by_cases h3 : E3 = 0
    · rw [← hE3, if_neg (by simp [h3])]
      have hb : (E3 != 0) = false := by simp [h3]
      clear hback hE0 hlen hNl htf hL hr3 hpair hE3 h3 hN hr2 h1 hT hS h
      go_enter Try.func50, Try.ntmps50
      go_wp2_with fail
      refine HN.out.mono ?_; rintro x w1 ⟨rfl, q1, g1⟩
      have HH := Lib.hid (And.intro q1 g1)
      clear q1 g1 HN
      go_wp2_with fail
      refine (HTk.out _ HH.out.1).mono ?_; rintro x w2 ⟨rfl, q2, g2⟩
      have HH2 := Lib.hid (And.intro q2 (HH.out.2.trans g2))
      clear q2 g2 HTk HH
      go_wp2
      go_ret2
      exact ⟨by rw [HE3.out]; rfl, HH2.out.1, HH2.out.2⟩
    · obtain ⟨t1, t2⟩ := htf h3
      rw [← hE3, if_pos h3]
      have hb : (E3 != 0) = true := by rw [bne_iff_ne]; exact h3
      rw [t1] at HTk
      clear hback hE0 hlen hNl htf hL hr3 hpair h3 hN hr2 h1 hT hS h
      go_enter Try.func50, Try.ntmps50
      go_wp2_with fail
      refine HN.out.mono ?_; rintro x w1 ⟨rfl, q1, g1⟩
      have HH := Lib.hid (And.intro q1 g1)
      clear q1 g1 HN
      go_wp2_with fail
      refine (HTk.out _ HH.out.1).mono ?_; rintro x w2 ⟨rfl, q2, g2⟩
      have HH2 := Lib.hid (And.intro q2 (HH.out.2.trans g2))
      obtain ⟨c0, c1, f0, f1⟩ := q2.cells
      have HF := Lib.hid (q2.setS r.S)
      rw [← HTT.out, ← hE3] at HF
      clear q2 g2 HTk HH hE3
      go_wp2
      go_ret2
      exact ⟨rfl, HF.out, HH2.out.2.trans (grown_set _ _ _ _)⟩
  · rw [if_pos h1]
    obtain ⟨E2, hE2⟩ : ∃ E2, E2 = r2.E := ⟨_, rfl⟩
    rw [← hE2] at HN h1
    have HE2 := Lib.hid hE2
    have hb : (E2 != 0) = true := by rw [bne_iff_ne]; exact h1
    clear hback hE0 hlen h1 hN hr2 hE2 hT hS h
    go_enter Try.func50, Try.ntmps50
    go_wp2_with fail
    refine HN.out.mono ?_; rintro x w1 ⟨rfl, q1, g1⟩
    have HH := Lib.hid (And.intro q1 g1)
    clear q1 g1 HN
    go_wp2
    go_ret2
    exact ⟨by rw [← HE2.out]; rfl, HH.out.1, HH.out.2⟩
end
end Go.Proofs.Ytbpdoiikleaidaa
end
