/- The document's Find. -/
import Derived.Test.YtfnofolahhoggaaVC
set_option linter.unusedVariables false
set_option linter.unusedSimpArgs false
namespace Go.Proofs.Ytfnofolahhoggaa
open Go Go.RowKit Go.Maps Oj Rv

set_option maxHeartbeats 8000000 in
set_option maxRecDepth 100000 in
theorem dFind_any (l : List Ob) (v : Value) (fr : Int) (nm : ByteArray) (hf : obsFit l) (w : World) (hA : ObsAt w v l) :
    Calls Try.prog 12 #[v, .int .i64 fr, .string nm] w fun e w' => e = .returned (.tuple #[plV (some (fndL l fr (by' nm)).1), .int .i64 (fndL l fr (by' nm)).2]) ∧ Below w.heap.size w w' := by
  have HO := Lib.hid (fun W (hq : Below w.heap.size w W) => dCheck_any l v hf W (hA.below hq))
  have HS := Lib.hid (fun W (hq : Below w.heap.size w W) => hA.below hq)
  obtain ⟨S, ⟨a, c, rfl, _⟩, _⟩ := hA
  obtain ⟨n, hn⟩ : ∃ n, n = l.length := ⟨_, rfl⟩
  have hni : (n : Int) ≤ 3518437208884 := by have := hf.1; omega
  rw [← hn] at HO HS ⊢
  have HN := Lib.hid hn
  have HF := Lib.hid hf
  have HB0 := Lib.hid (below_new1 w (.cells #[.int .i64 0, .int .i64 0] 24))
  have HX0 := Lib.hid (Blk.new w 24 [.int .i64 0, .int .i64 0])
  obtain ⟨N, hN⟩ : ∃ N, N = tx (checkL l).1 := ⟨_, rfl⟩
  obtain ⟨E, hE⟩ : ∃ E, E = (checkL l).2 := ⟨_, rfl⟩
  obtain ⟨R, hR⟩ : ∃ R, R = fndL l fr (by' nm) := ⟨_, rfl⟩
  have HR1 : Hid (E ≠ 0 → R = ((0, 0), E)) := Lib.hid (fun h => by rw [hR]; unfold fndL; rw [← hE, if_pos h])
  have HR2 : Hid (E = 0 → outL l fr = true → R = ((0, 0), 2)) := Lib.hid (fun h h2 => by rw [hR]; unfold fndL; rw [← hE, if_neg (fun hn => hn h), if_pos h2])
  have HR3 : Hid (E = 0 → outL l fr = false → R = match findL l fr (by' nm) with | none => ((0, 0), 121) | some p => (p, 0)) := Lib.hid (fun h h2 => by rw [hR]; unfold fndL; rw [← hE, if_neg (fun hn => hn h), if_neg (by rw [h2]; simp)]; cases findL l fr (by' nm) <;> rfl)
  rw [← hN, ← hE] at HO
  rw [← hR]
  clear hn hf hN hE hR
  go_enter Try.func12, Try.ntmps12
  go_wp2_with fail
  refine (HO.out _ HB0.out).mono ?_; rintro e w2 ⟨rfl, q2⟩
  have HB3 := Lib.hid (below_call HB0.out q2)
  have HX3 := Lib.hid (HX0.out.call q2)
  clear q2 HO HB0 HX0
  by_cases h0 : E = 0
  · subst h0
    by_cases h1 : fr < -1
    · have HR : Hid (R = ((0, 0), 2)) := Lib.hid (HR2.out rfl (by unfold outL; rw [decide_eq_true h1]; rfl))
      clear HR1 HR2 HR3
      obtain ⟨e0, e1, f0, f1, hl2⟩ := HX3.out.st2
      go_wp2_with fail
      refine bodyPost_ret (res_pl_tmp Try.results12 _ _ w.heap.size _ _ _ rfl rfl (HX3.out.put2 _ _)) rfl ⟨by rw [HR.out]; rfl, below_put2 HB3.out (Nat.le_refl _) _ _⟩
    · have h1' : -1 ≤ fr := by omega
      by_cases h2 : (n : Int) ≤ fr
      · have HR : Hid (R = ((0, 0), 2)) := Lib.hid (HR2.out rfl (by unfold outL; rw [← HN.out, decide_eq_true h2, Bool.or_true]))
        clear HR1 HR2 HR3
        obtain ⟨e0, e1, f0, f1, hl2⟩ := HX3.out.st2
        go_wp2_with fail
        refine bodyPost_ret (res_pl_tmp Try.results12 _ _ w.heap.size _ _ _ rfl rfl (HX3.out.put2 _ _)) rfl ⟨by rw [HR.out]; rfl, below_put2 HB3.out (Nat.le_refl _) _ _⟩
      · have h2' : fr < (n : Int) := by omega
        have HR : Hid (R = match findL l fr (by' nm) with | none => ((0, 0), 121) | some p => (p, 0)) := Lib.hid (HR3.out rfl (by unfold outL; rw [← HN.out, decide_eq_false h2, decide_eq_false h1]; rfl))
        have HFd := Lib.hid (dfind_any l (.slice a n c) fr nm HF.out (by rw [← HN.out]; omega) _ (HS.out _ HB3.out))
        obtain ⟨x, y, B, hp, hp2, hB, -⟩ := plT_parts (findL l fr (by' nm))
        rw [hp] at HFd
        have HP2 := Lib.hid hp2
        have HPB := Lib.hid hB
        clear hp hp2 hB HR1 HR2 HR3
        clear h1 h2
        go_wp2_with fail
        refine HFd.out.mono ?_; rintro e w4 ⟨rfl, q4⟩
        have HB4 := Lib.hid (below_box (below_call HB3.out q4) (.cells #[.int .i64 x, .int .i64 y] 24))
        have HX4 := Lib.hid ((HX3.out.call q4).alloc (.cells #[.int .i64 x, .int .i64 y] 24))
        clear q4 HFd
        obtain ⟨e0, e1, f0, f1, hl2⟩ := HX4.out.st2
        cases B with
        | false =>
          have HRR : Hid (R = ((0, 0), 121)) := Lib.hid (by
            have := HPB.out
            rw [HR.out]
            cases h : findL l fr (by' nm) with
            | none => rfl
            | some p => rw [h] at this; cases this)
          clear HP2 HPB HR
          go_wp2_with fail
          refine bodyPost_ret (res_pl_tmp Try.results12 _ _ w.heap.size _ _ _ rfl rfl (HX4.out.put2 _ _)) rfl ⟨by rw [HRR.out]; rfl, below_put2 HB4.out (Nat.le_refl _) _ _⟩
        | true =>
          have HRR : Hid (plV (some R.1) = .agg #[.int .i64 x, .int .i64 y] ∧ R.2 = 0) := Lib.hid (by
            have := HPB.out
            have h2 := HP2.out
            rw [HR.out]
            cases h : findL l fr (by' nm) with
            | none => rw [h] at this; cases this
            | some p => rw [h] at h2; exact ⟨h2, rfl⟩)
          clear HP2 HPB HR
          go_wp2_with fail
          refine bodyPost_ret (res_pl_tmp Try.results12 _ _ w.heap.size _ _ _ rfl rfl (HX4.out.put2 _ _)) rfl ⟨by rw [HRR.out.1, HRR.out.2]; rfl, below_put2 HB4.out (Nat.le_refl _) _ _⟩
  · have hb : (E != 0) = true := by rw [bne_iff_ne]; exact h0
    have hd : decide (E = 0) = false := decide_eq_false h0
    have HR : Hid (R = ((0, 0), E)) := Lib.hid (HR1.out h0)
    clear HR1 HR2 HR3 h0
    obtain ⟨e0, e1, f0, f1, hl2⟩ := HX3.out.st2
    go_wp2_with fail
    refine bodyPost_ret (res_pl_tmp Try.results12 _ _ w.heap.size _ _ _ rfl rfl (HX3.out.put2 _ _)) rfl ⟨by rw [HR.out]; rfl, below_put2 HB3.out (Nat.le_refl _) _ _⟩
end Go.Proofs.Ytfnofolahhoggaa
