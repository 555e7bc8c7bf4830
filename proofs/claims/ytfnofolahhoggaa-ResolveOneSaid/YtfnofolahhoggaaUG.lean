/- The program's Check and Find. -/
import Derived.Test.YtfnofolahhoggaaUF
set_option linter.unusedVariables false
set_option linter.unusedSimpArgs false
namespace Go.Proofs.Ytfnofolahhoggaa
open Go Go.RowKit Go.Maps Oj Rv

/-- What of answers, as Check's answer and a resolver. -/
def OfP (w : World) (l : List Ob) (v : Value) (e : Ending) (w' : World) : Prop := Below w.heap.size w w' ∧ ∃ (o : Option Nat) (ra : Option Addr) (rn rc : Nat), e = .returned (.tuple #[.agg #[.map o, .slice ra rn rc], .string (tx (checkL l).1), .int .i64 (checkL l).2]) ∧
  ((checkL l).2 = 0 → .slice ra rn rc = v ∧ ∃ b n, o = some b ∧ EntIs w' b n (entB l (allP l)))
theorem check_link {l : List Ob} (h : linkOk l = false) : checkL l = ([], 2) := by unfold checkL; rw [h, if_neg (by simp)]
theorem check_dup {l : List Ob} {p : Nat × Nat} (h : linkOk l = true) (h2 : dupL l = some p) : checkL l = ((symP l p).name, 120) := by unfold checkL; rw [h, if_pos rfl, h2]
theorem check_ok {l : List Ob} (h : linkOk l = true) (h2 : dupL l = none) : checkL l = ([], 0) := by unfold checkL; rw [h, if_pos rfl, h2]
theorem check_link_of {l : List Ob} (h : (checkL l).2 = 0) : linkOk l = true ∧ dupL l = none := by
  cases hl : linkOk l with
  | false => rw [check_link hl] at h; exact absurd h (by decide)
  | true =>
    cases hd : dupL l with
    | some p => rw [check_dup hl hd] at h; exact absurd h (show ¬ ((120 : Int) = 0) by decide)
    | none => exact ⟨rfl, rfl⟩
theorem ofp_any (l : List Ob) (v : Value) (hf : obsFit l) (w : World) (hA : ObsAt w v l) : Calls Try.prog 21 #[v] w (OfP w l v) := by
  refine (of_any l v hf w hA).mono ?_
  rintro e w' ⟨hb, h⟩
  refine ⟨hb, ?_⟩
  rcases h with ⟨h1, rfl⟩ | ⟨h1, p, h2, rfl⟩ | ⟨h1, h2, b, n, h3, rfl⟩
  · rw [check_link h1]
    exact ⟨none, none, 0, 0, rfl, fun h => absurd h (by decide)⟩
  · rw [check_dup h1 h2]
    exact ⟨none, none, 0, 0, rfl, fun h => absurd h (show ¬ ((120 : Int) = 0) by decide)⟩
  · rw [check_ok h1 h2]
    obtain ⟨S, ⟨a, c, rfl, _⟩, _⟩ := hA
    exact ⟨some b, a, l.length, c, rfl, fun _ => ⟨rfl, b, n, rfl, h3⟩⟩

set_option maxHeartbeats 4000000 in
set_option maxRecDepth 100000 in
theorem vcheck_any (l : List Ob) (v : Value) (hf : obsFit l) (w : World) (hA : ObsAt w v l) : Calls Try.prog 9 #[v] w fun e w' => e = .returned (.tuple #[.string (tx (checkL l).1), .int .i64 (checkL l).2]) ∧ Below w.heap.size w w' := by
  have HO := Lib.hid (ofp_any l v hf w hA)
  obtain ⟨S, ⟨a, c, rfl, _⟩, _⟩ := hA
  obtain ⟨n, hn⟩ : ∃ n, n = l.length := ⟨_, rfl⟩
  rw [← hn] at HO ⊢
  obtain ⟨N, hN⟩ : ∃ N, N = tx (checkL l).1 := ⟨_, rfl⟩
  obtain ⟨E, hE⟩ : ∃ E, E = (checkL l).2 := ⟨_, rfl⟩
  have HO := Lib.hid (show Calls Try.prog 21 #[.slice a n c] w (fun e w' => Below w.heap.size w w' ∧ ∃ (o : Option Nat) (ra : Option Addr) (rn rc : Nat), e = .returned (.tuple #[.agg #[.map o, .slice ra rn rc], .string N, .int .i64 E])) from HO.out.mono (fun e w' h => by
    obtain ⟨h1, o, ra, rn, rc, h2, _⟩ := h
    rw [← hN, ← hE] at h2
    exact ⟨h1, o, ra, rn, rc, h2⟩))
  rw [← hN, ← hE]
  clear hn hf hN hE
  go_enter Try.func9, Try.ntmps9
  go_wp2_with fail
  refine HO.out.mono ?_; rintro e w2 ⟨hb, o, ra, rn, rc, rfl⟩
  have HB := Lib.hid hb
  clear hb HO
  go_wp2_with fail
  go_ret2
  exact ⟨rfl, HB.out⟩

set_option maxHeartbeats 8000000 in
set_option maxRecDepth 100000 in
theorem vFind_any (l : List Ob) (v : Value) (fr : Int) (nm : ByteArray) (hf : obsFit l) (ht : nm.size ≤ 140737488355328) (w : World) (hA : ObsAt w v l) :
    Calls Try.prog 11 #[v, .int .i64 fr, .string nm] w fun e w' => e = .returned (.tuple #[plV (some (fndL l fr (by' nm)).1), .int .i64 (fndL l fr (by' nm)).2]) ∧ Below w.heap.size w w' := by
  have HO := Lib.hid (fun W (hq : Below w.heap.size w W) => ofp_any l v hf W (hA.below hq))
  have HS := Lib.hid (fun W (hq : Below w.heap.size w W) => hA.below hq)
  obtain ⟨S, ⟨a, c, rfl, _⟩, _⟩ := hA
  obtain ⟨n, hn⟩ : ∃ n, n = l.length := ⟨_, rfl⟩
  have hni : (n : Int) ≤ 3518437208884 := by have := hf.1; omega
  rw [← hn] at HO HS ⊢
  have HN := Lib.hid hn
  have HF := Lib.hid hf
  have HB0 := Lib.hid (below_new1 w (.cells #[.int .i64 0, .int .i64 0] 24))
  have HX0 := Lib.hid (Blk.new w 24 [.int .i64 0, .int .i64 0])
  obtain ⟨N, hN⟩ : ∃ N, N = tx (checkL l).1 := ⟨_, rfl⟩
  obtain ⟨E, hE⟩ : ∃ E, E = (checkL l).2 := ⟨_, rfl⟩
  obtain ⟨R, hR⟩ : ∃ R, R = fndL l fr (by' nm) := ⟨_, rfl⟩
  have HR1 : Hid (E ≠ 0 → R = ((0, 0), E)) := Lib.hid (fun h => by rw [hR]; unfold fndL; rw [← hE, if_pos h])
  have HR2 : Hid (E = 0 → outL l fr = true → R = ((0, 0), 2)) := Lib.hid (fun h h2 => by rw [hR]; unfold fndL; rw [← hE, if_neg (fun hn => hn h), if_pos h2])
  have HR3 : Hid (E = 0 → outL l fr = false → R = match findL l fr (by' nm) with | none => ((0, 0), 121) | some p => (p, 0)) := Lib.hid (fun h h2 => by rw [hR]; unfold fndL; rw [← hE, if_neg (fun hn => hn h), if_neg (by rw [h2]; simp)]; cases findL l fr (by' nm) <;> rfl)
  have HOE := Lib.hid (fun W (hq : Below w.heap.size w W) => show Calls Try.prog 21 #[.slice a n c] W (fun e w' => Below W.heap.size W w' ∧ ∃ (o : Option Nat) (ra : Option Addr) (rn rc : Nat), e = .returned (.tuple #[.agg #[.map o, .slice ra rn rc], .string N, .int .i64 E]) ∧ (E = 0 → Value.slice ra rn rc = Value.slice a n c ∧ ∃ b m, o = some b ∧ EntIs w' b m (entB l (allP l)))) from (HO.out W hq).mono (fun e w' h => by unfold OfP at h; rw [← hN, ← hE] at h; exact h))
  rw [← hR]
  clear hn hf hN hE hR HO
  go_enter Try.func11, Try.ntmps11
  go_wp2_with fail
  refine (HOE.out _ HB0.out).mono ?_; rintro e w2 ⟨q2, o, ra, rn, rc, rfl, hok⟩
  have HB2 := Lib.hid (below_call HB0.out q2)
  have HX2 := Lib.hid (HX0.out.call q2)
  have HOK := Lib.hid hok
  clear q2 hok HOE HB0 HX0
  have HB3 := Lib.hid (below_box HB2.out (.cells #[.map o, .slice ra rn rc] 60))
  have HX3 := Lib.hid (HX2.out.alloc (.cells #[.map o, .slice ra rn rc] 60))
  have HY3 := Lib.hid (Blk.new w2 60 [.map o, .slice ra rn rc])
  by_cases h0 : E = 0
  · have HE0 := Lib.hid h0
    subst h0
    obtain ⟨hv, b, m, rfl, hEn⟩ := HOK.out rfl
    cases hv
    have HEn := Lib.hid (hEn.below (below_new1 w2 (.cells #[.map (some b), .slice a n c] 60)))
    clear hEn HOK
    by_cases h1 : fr < -1
    · have HR : Hid (R = ((0, 0), 2)) := Lib.hid (HR2.out rfl (by unfold outL; rw [decide_eq_true h1]; rfl))
      clear HR1 HR2 HR3 HY3
      obtain ⟨e0, e1, f0, f1, hl2⟩ := HX3.out.st2
      go_wp2_with fail
      refine bodyPost_ret (res_pl_tmp Try.results11 _ _ w.heap.size _ _ _ rfl rfl (HX3.out.put2 _ _)) rfl ⟨by rw [HR.out]; rfl, below_put2 HB3.out (Nat.le_refl _) _ _⟩
    · have h1' : -1 ≤ fr := by omega
      by_cases h2 : (n : Int) ≤ fr
      · have HR : Hid (R = ((0, 0), 2)) := Lib.hid (HR2.out rfl (by unfold outL; rw [← HN.out, decide_eq_true h2, Bool.or_true]))
        clear HR1 HR2 HR3 HY3
        obtain ⟨e0, e1, f0, f1, hl2⟩ := HX3.out.st2
        go_wp2_with fail
        refine bodyPost_ret (res_pl_tmp Try.results11 _ _ w.heap.size _ _ _ rfl rfl (HX3.out.put2 _ _)) rfl ⟨by rw [HR.out]; rfl, below_put2 HB3.out (Nat.le_refl _) _ _⟩
      · have h2' : fr < (n : Int) := by omega
        have HR : Hid (R = match findL l fr (by' nm) with | none => ((0, 0), 121) | some p => (p, 0)) := Lib.hid (HR3.out rfl (by unfold outL; rw [← HN.out, decide_eq_false h2, decide_eq_false h1]; rfl))
        have HFd := Lib.hid (vfind_any l b m (.slice a n c) fr nm HF.out (by rw [← HN.out]; omega) ht _ HEn.out ((HS.out _ HB3.out)))
        obtain ⟨x, y, B, hp, hp2, hB, -⟩ := plT_parts (findL l fr (by' nm))
        rw [hp] at HFd
        have HP2 := Lib.hid hp2
        have HPB := Lib.hid hB
        clear hp hp2 hB HR1 HR2 HR3
        obtain ⟨z0, z1, -⟩ := HY3.out.st2
        clear h1 h2
        go_wp2_with fail
        refine HFd.out.mono ?_; rintro e w4 ⟨rfl, q4⟩
        have HB4 := Lib.hid (below_box (below_call HB3.out q4) (.cells #[.int .i64 x, .int .i64 y] 24))
        have HX4 := Lib.hid ((HX3.out.call q4).alloc (.cells #[.int .i64 x, .int .i64 y] 24))
        clear q4 z0 z1 HFd
        obtain ⟨e0, e1, f0, f1, hl2⟩ := HX4.out.st2
        cases B with
        | false =>
          have HRR : Hid (R = ((0, 0), 121)) := Lib.hid (by
            have := HPB.out
            rw [HR.out]
            cases h : findL l fr (by' nm) with
            | none => rfl
            | some p => rw [h] at this; cases this)
          clear HP2 HPB HR
          go_wp2_with fail
          refine bodyPost_ret (res_pl_tmp Try.results11 _ _ w.heap.size _ _ _ rfl rfl (HX4.out.put2 _ _)) rfl ⟨by rw [HRR.out]; rfl, below_put2 HB4.out (Nat.le_refl _) _ _⟩
        | true =>
          have HRR : Hid (plV (some R.1) = .agg #[.int .i64 x, .int .i64 y] ∧ R.2 = 0) := Lib.hid (by
            have := HPB.out
            have h2 := HP2.out
            rw [HR.out]
            cases h : findL l fr (by' nm) with
            | none => rw [h] at this; cases this
            | some p => rw [h] at h2; exact ⟨h2, rfl⟩)
          clear HP2 HPB HR
          go_wp2_with fail
          refine bodyPost_ret (res_pl_tmp Try.results11 _ _ w.heap.size _ _ _ rfl rfl (HX4.out.put2 _ _)) rfl ⟨by rw [HRR.out.1, HRR.out.2]; rfl, below_put2 HB4.out (Nat.le_refl _) _ _⟩
  · have hb : (E != 0) = true := by rw [bne_iff_ne]; exact h0
    have hd : decide (E = 0) = false := decide_eq_false h0
    have HR : Hid (R = ((0, 0), E)) := Lib.hid (HR1.out h0)
    clear HR1 HR2 HR3 HOK HY3 h0
    obtain ⟨e0, e1, f0, f1, hl2⟩ := HX3.out.st2
    go_wp2_with fail
    refine bodyPost_ret (res_pl_tmp Try.results11 _ _ w.heap.size _ _ _ rfl rfl (HX3.out.put2 _ _)) rfl ⟨by rw [HR.out]; rfl, below_put2 HB3.out (Nat.le_refl _) _ _⟩
end Go.Proofs.Ytfnofolahhoggaa
