/- Step and Run of the program's cpu. -/
import Derived.Test.YtgdbhmlmioihpaaDoorX46
import Derived.LoopTactic
set_option linter.unusedVariables false
namespace Go.Proofs.YtgdbhmlmioihpaaDoor
open Go Go.RowKit Go.Maps

/-- A step, or many, under way: the stop so far, the table. -/
structure Sl (w0 : World) (p b e n g k6 : Nat) (c : Cp) (A : As) (y0 y1 y2 : Value) (w : World) : Prop where
  cpu : CAt w p c
  sp : SpaceAt w b e n A
  act : ActAt w g
  r : Blk w k6 30 [y0, y1, y2]
  lo : w0.heap.size ≤ k6
  gt : w0.heap.size ≤ g
  hi : e ≤ w0.heap.size
  dt : DT w0 w b e p
section
variable {w0 w w' : World} {p b e n g k6 : Nat} {c c2 : Cp} {A A2 : As} {y0 y1 y2 : Value}
theorem Sl.start (hc : CAt w p c) (hs : SpaceAt w b e n A) (w1 : World) (hg : ActAt w1 (w.heap.size + 1)) (hb : Below (w.heap.size + 1) (w.alloc (.cells #[.int .u8 0, .int .u32 0, .int .i64 0] 30)) w1) :
    Sl w p b e n (w.heap.size + 1) w.heap.size c A (.int .u8 0) (.int .u32 0) (.int .i64 0) w1 := by
  have h1 : Below w.heap.size w (w.alloc (.cells #[.int .u8 0, .int .u32 0, .int .i64 0] 30)) := (Below.refl _ _).alloc (Nat.le_refl _) _
  have h2 : Below w.heap.size w w1 := h1.trans (hb.mono (by omega))
  have h3 := Blk.new w 30 [.int .u8 0, .int .u32 0, .int .i64 0]
  exact ⟨hc.below h2, hs.below h2 hs.hi, hg, h3.below hb (by omega), Nat.le_refl _, by omega, hs.hi, DT.ofBelow h2 b e p⟩
theorem act_ne (h : ActAt w g) {j : Nat} {t : TypeId} {ds : List Value} (hd : Blk w j t ds) : g ≠ j := by
  rintro rfl
  obtain ⟨es, k, hm, _⟩ := h
  unfold Blk at hd
  rw [hm] at hd
  cases hd
theorem Sl.turn (t : Sl w0 p b e n g k6 c A y0 y1 y2 w) (hc : CAt w' p c2) (hs : SpaceAt w' b e n A2) (hd : DT w w' b e p) : Sl w0 p b e n g k6 c2 A2 y0 y1 y2 w' := by
  have hc0 : Blk w p 47 (ccs c) := t.cpu
  have hb := t.sp.lo
  have hh := t.hi
  have hg := t.gt
  refine ⟨hc, hs, FnsAt.same t.act (hd.block g (FnsAt.lt t.act) (act_ne t.act hc0) ?_), hd.keep t.sp t.cpu t.r (by decide) (by decide), t.lo, t.gt, t.hi, t.dt.trans hd⟩
  rintro (rfl | ⟨h1, h2, _⟩) <;> omega
theorem Sl.below (t : Sl w0 p b e n g k6 c A y0 y1 y2 w) (hb : Below w.heap.size w w') : Sl w0 p b e n g k6 c A y0 y1 y2 w' :=
  ⟨t.cpu.below hb, t.sp.below hb t.sp.hi, FnsAt.below t.act hb, t.r.below hb t.r.lt, t.lo, t.gt, t.hi, t.dt.trans (DT.ofBelow hb b e p)⟩
/-- The stop is laid anew. -/
theorem Sl.laid (t : Sl w0 p b e n g k6 c A y0 y1 y2 w) (v0 v1 v2 : Value) : Sl w0 p b e n g k6 c A v0 v1 v2 (((w.setCell ⟨k6, 0, none⟩ v0).setCell ⟨k6, 1, none⟩ v1).setCell ⟨k6, 2, none⟩ v2) := by
  have hf := stop_laid t.r t.lo t.cpu t.sp t.dt v0 v1 v2
  refine ⟨hf.cpu, hf.sp, ?_, hf.r, t.lo, t.gt, t.hi, hf.dt⟩
  refine FnsAt.same t.act ?_
  have hne := act_ne t.act t.r
  rw [Below.heap_setCell _ _ _ _ (by exact hne), Below.heap_setCell _ _ _ _ (by exact hne), Below.heap_setCell _ _ _ _ (by exact hne)]
theorem tabled_dt (ht : I.Tabled w) (hd : DT w w' b e p) (h1 : 0 < b) (h2 : 0 < p) : I.Tabled w' := by
  have hb := hd.block 0 ht.1 (by omega) (by rintro (h | ⟨h, _⟩) <;> omega)
  refine ⟨Nat.lt_of_lt_of_le ht.1 hd.size, fun j hj => ?_⟩
  rw [← ht.2 j hj]
  simp only [World.cell?, hb]

set_option maxHeartbeats 4000000 in
set_option maxRecDepth 100000 in
theorem stepOK : StepOK := by
  intro w p b e n c A hc ht hcp hs
  obtain ⟨k6, hk6⟩ : ∃ k6, k6 = w.heap.size := ⟨_, rfl⟩
  obtain ⟨g, hg⟩ : ∃ g, g = w.heap.size + 1 := ⟨_, rfl⟩
  obtain ⟨wa, hwa⟩ : ∃ wa, wa = w.alloc (.cells #[.int .u8 0, .int .u32 0, .int .i64 0] 30) := ⟨_, rfl⟩
  have hza : wa.heap.size = g := by rw [hwa, hg]; simp
  obtain ⟨OO, hO⟩ : ∃ OO, OO = stepO c A := ⟨_, rfl⟩
  obtain ⟨K, NU, WY, c2, A2⟩ := OO
  have HAc : Hid (Calls Tryd.prog 16 #[] wa fun r w' => r = .returned (.map (some g)) ∧ Sl w p b e n g k6 c A (.int .u8 0) (.int .u32 0) (.int .i64 0) w' ∧ I.Tabled w') := Lib.hid (by
    have := actions_any wa
    rw [hza] at this
    refine this.mono ?_
    rintro r w' ⟨h1, h2, h3⟩
    rw [hg, hwa] at h3
    rw [hg] at h2
    refine ⟨h1, by rw [hg, hk6]; exact Sl.start hcp hs w' h2 h3, ?_⟩
    exact ht.below (((Below.refl w.heap.size w).alloc (Nat.le_refl _) _).trans (h3.mono (by omega))))
  have HSt : Hid (∀ w1, Sl w p b e n g k6 c A (.int .u8 0) (.int .u32 0) (.int .i64 0) w1 → I.Tabled w1 → Calls Tryd.prog 15 #[.pointer (some ⟨p, 0, none⟩), .pointer (some ⟨b + 1, 0, none⟩), .map (some g)] w1 fun r w' => r = .returned (.agg #[.int .u8 K, .int .u32 NU, .int .i64 WY]) ∧ Sl w p b e n g k6 c2 A2 (.int .u8 0) (.int .u32 0) (.int .i64 0) w') := Lib.hid fun w1 h1 h2 => by
    have := cstep_any hc w1 h2 h1.cpu h1.sp h1.act
    rw [← hO] at this
    refine this.mono ?_
    rintro r w' ⟨q1, q2, q3, q4⟩
    exact ⟨q1, h1.turn q2 q3 q4⟩
  rw [← hO]
  have HK := Lib.hid hk6
  have HW := Lib.hid hwa
  clear hk6 hg hwa hza hO hc ht hcp hs
  go_enter Tryd.func6, Tryd.ntmps6
  go_upto_region 1 with (fail)
  rw [← HW.out, ← HK.out]
  clear HW HK
  go_wp2_with fail
  refine HAc.out.mono ?_; rintro r w1 ⟨rfl, t1, tb1⟩
  have T1 := Lib.hid t1
  have TB := Lib.hid tb1
  clear t1 tb1 HAc
  go_wp2_with fail
  refine (HSt.out _ T1.out TB.out).mono ?_; rintro r w2 ⟨rfl, t2⟩
  have T2 := Lib.hid t2
  clear t2 T1 TB HSt
  obtain ⟨⟨z0, z1, z2⟩, f0, f1, f2⟩ := T2.out.r.three
  have FF := Lib.hid (T2.out.laid (.int .u8 K) (.int .u32 NU) (.int .i64 WY))
  go_wp2
  refine bodyPost_ret (v := .agg #[.int .u8 K, .int .u32 NU, .int .i64 WY]) (res_stop Tryd.results6 _ _ k6 _ _ _ rfl FF.out.r) rfl ⟨rfl, FF.out.cpu, FF.out.sp, FF.out.dt⟩

theorem exec_zero (x : Xn) (c : Cp) (A : As) (h : (execO x c A).k = 0) : (execO x c A).num = 0 ∧ (execO x c A).why = 0 := by
  unfold execO at h ⊢
  repeat' split
  all_goals first
    | exact ⟨rfl, rfl⟩
    | (simp_all [flt])
theorem step_zero (c : Cp) (A : As) (h : (stepO c A).k = 0) : (stepO c A).num = 0 ∧ (stepO c A).why = 0 := by
  unfold stepO at h ⊢
  split
  · rename_i h1
    rw [if_pos h1] at h
    split
    · rename_i h2
      rw [if_pos h2] at h
      exact exec_zero _ _ _ h
    · rename_i h2
      rw [if_neg h2] at h
      exact absurd h (show ¬ (2 : Int) = 0 by decide)
  · rename_i h1
    rw [if_neg h1] at h
    exact absurd h (show ¬ (2 : Int) = 0 by decide)
def kOf (v : Option Value) : Int := match v with | some (.int _ k) => k | _ => 0
set_option maxHeartbeats 4000000 in
set_option maxRecDepth 100000 in
theorem runOK : RunOK := by
  intro w p b e n c A N hN hc ht hub hup hcp hs
  obtain ⟨k6, hk6⟩ : ∃ k6, k6 = w.heap.size := ⟨_, rfl⟩
  obtain ⟨g, hg⟩ : ∃ g, g = w.heap.size + 1 := ⟨_, rfl⟩
  obtain ⟨wa, hwa⟩ : ∃ wa, wa = w.alloc (.cells #[.int .u8 0, .int .u32 0, .int .i64 0] 30) := ⟨_, rfl⟩
  have hza : wa.heap.size = g := by rw [hwa, hg]; simp
  have HAc : Hid (Calls Tryd.prog 16 #[] wa fun r w' => r = .returned (.map (some g)) ∧ Sl w p b e n g k6 c A (.int .u8 0) (.int .u32 0) (.int .i64 0) w') := Lib.hid (by
    have := actions_any wa
    rw [hza] at this
    refine this.mono ?_
    rintro r w' ⟨h1, h2, h3⟩
    rw [hg, hwa] at h3
    rw [hg] at h2
    exact ⟨h1, by rw [hg, hk6]; exact Sl.start hcp hs w' h2 h3⟩)
  have HSt : Hid (∀ w1 c1 A1 v0 v1 v2, c1.Ok → Sl w p b e n g k6 c1 A1 v0 v1 v2 w1 → Calls Tryd.prog 15 #[.pointer (some ⟨p, 0, none⟩), .pointer (some ⟨b + 1, 0, none⟩), .map (some g)] w1 fun r w' => r = .returned (stopV (stepO c1 A1)) ∧ Sl w p b e n g k6 (stepO c1 A1).c (stepO c1 A1).A v0 v1 v2 w') := Lib.hid fun w1 c1 A1 v0 v1 v2 hc1 h1 => by
    refine (cstep_any hc1 w1 (tabled_dt ht h1.dt hub hup) h1.cpu h1.sp h1.act).mono ?_
    rintro r w' ⟨q1, q2, q3, q4⟩
    exact ⟨q1, h1.turn q2 q3 q4⟩
  obtain ⟨R, hR⟩ : ∃ R, R = runO N c A := ⟨_, rfl⟩
  have HC : Hid c.Ok := Lib.hid hc
  have HRR : Hid (R = runO N c A) := Lib.hid hR
  have HNN : Hid (N ≤ 1000000) := Lib.hid hN
  have HN1 : Hid (∀ k : Nat, (k : Int) < (N : Int) ↔ k < N) := Lib.hid fun k => by omega
  rw [← hR]
  have HK := Lib.hid hk6
  have HW := Lib.hid hwa
  clear hk6 hg hwa hza hc ht hcp hs hub hup hR hN
  go_enter Tryd.func7, Tryd.ntmps7
  go_upto_region 1 with (fail)
  rw [← HW.out, ← HK.out]
  clear HW HK
  go_wp2_with fail
  refine HAc.out.mono ?_; rintro r w1 ⟨rfl, t1⟩
  have T1 := Lib.hid t1
  clear t1 HAc
  go_wp2_with fail
  go_loopw [7] (fun v wr => ∃ (k : Nat) (K NU WY : Int) (c1 : Cp) (A1 : As), v = .int .i64 k ∧ Hid (k ≤ N) ∧ Hid c1.Ok ∧ Hid (Sl w p b e n g k6 c1 A1 (.int .u8 K) (.int .u32 NU) (.int .i64 WY) wr) ∧ Hid ((K = 0 ∧ NU = 0 ∧ WY = 0 ∧ R = ((runO (N - k) c1 A1).1, k + (runO (N - k) c1 A1).2)) ∨ ((K = 1 ∨ K = 2) ∧ R = (⟨K, NU, WY, c1, A1⟩, k)))) (fun v wr => 2 * (N - (intOf v).toNat) + (1 - (kOf (wr.cell? ⟨k6, 0, none⟩)).toNat))
  case atStart =>
    refine ⟨0, 0, 0, 0, c, A, rfl, Lib.hid (Nat.zero_le _), HC, T1, Lib.hid (.inl ⟨rfl, rfl, rfl, ?_⟩)⟩
    rw [HRR.out, Nat.sub_zero, Nat.zero_add]
  case round =>
    obtain ⟨k, K, NU, WY, c1, A1, rfl, HK, HO, HT, HQ⟩ := hrel
    clear T1 HC HRR
    have hQ := HQ.out
    clear HQ
    rcases hQ with ⟨rfl, rfl, rfl, hq⟩ | ⟨hk12, hq⟩
    · by_cases hlt : (k : Int) < (N : Int)
      · have hk : k < N := (HN1.out k).1 hlt
        have hw64 : IntKind.i64.wrap ((k : Int) + 1) = (k : Int) + 1 := by rw [IntKind.wrap_i64]; have := HNN.out; omega
        have HK2 : Hid (k + 1 ≤ N) := Lib.hid hk
        obtain ⟨o, ho⟩ : ∃ o, o = stepO c1 A1 := ⟨_, rfl⟩
        have HC1 : Hid (Calls Tryd.prog 15 #[.pointer (some ⟨p, 0, none⟩), .pointer (some ⟨b + 1, 0, none⟩), .map (some g)] wr fun r w' => r = .returned (.agg #[.int .u8 o.k, .int .u32 o.num, .int .i64 o.why]) ∧ Sl w p b e n g k6 o.c o.A (.int .u8 0) (.int .u32 0) (.int .i64 0) w') := Lib.hid (by
          have := HSt.out wr c1 A1 _ _ _ HO.out HT.out
          rw [← ho] at this
          exact this)
        have HO2 : Hid o.c.Ok := Lib.hid (by rw [ho]; exact step_ok HO.out A1)
        have HE : Hid ((o.k = 0 → o.num = 0 ∧ o.why = 0 ∧ R = ((runO (N - (k + 1)) o.c o.A).1, (k + 1) + (runO (N - (k + 1)) o.c o.A).2)) ∧ (o.k = 1 → R = (o, k + 1)) ∧ (o.k = 2 → R = (o, k))) := Lib.hid (by
          have e : N - k = (N - (k + 1)) + 1 := by omega
          rw [e] at hq
          refine ⟨fun h0 => ?_, fun h1 => ?_, fun h2 => ?_⟩
          · rw [run_go _ (by rw [← ho]; exact h0), ← ho] at hq
            rw [hq]
            have hz := step_zero c1 A1
            rw [← ho] at hz
            refine ⟨(hz h0).1, (hz h0).2, ?_⟩
            simp only [Prod.mk.injEq, true_and]
            omega
          · rw [run_end _ (by rw [← ho]; omega), ← ho, if_neg (by omega)] at hq
            exact hq
          · rw [run_end _ (by rw [← ho]; omega), ← ho, if_pos h2] at hq
            exact hq)
        have hk3 : o.k = 0 ∨ o.k = 1 ∨ o.k = 2 := by rw [ho]; rcases step_k c1 A1 with h | h | h <;> simp [h]
        obtain ⟨K, NU, WY, c2, A2⟩ := o
        simp only at HC1 HO2 HE hk3
        obtain ⟨⟨z0, z1, z2⟩, f0, f1, f2⟩ := HT.out.r.three
        have HZ := Lib.hid z0
        clear hk ho HO hq z1 z2 f0 f1 f2 HSt
        go_wp2_with fail
        refine HC1.out.mono ?_; rintro r w2 ⟨rfl, s2⟩
        have HT2 := Lib.hid s2
        clear s2 HC1 HT z0
        obtain ⟨⟨z0, z1, z2⟩, f0, f1, f2⟩ := HT2.out.r.three
        have HT3 := Lib.hid (HT2.out.laid (.int .u8 K) (.int .u32 NU) (.int .i64 WY))
        go_upto_region 4 with (fail)
        obtain ⟨w4, hw4⟩ : ∃ w4, w4 = ((w2.setCell ⟨k6, 0, none⟩ (.int .u8 K)).setCell ⟨k6, 1, none⟩ (.int .u32 NU)).setCell ⟨k6, 2, none⟩ (.int .i64 WY) := ⟨_, rfl⟩
        rw [← hw4] at HT3 ⊢
        clear hw4 z0 z1 z2 f0 f1 f2 HT2
        obtain ⟨⟨z0, z1, z2⟩, f0, f1, f2⟩ := HT3.out.r.three
        have HZ4 := Lib.hid z0
        clear z1 z2 f0 f1 f2
        rcases hk3 with rfl | rfl | rfl
        · have HE0 := Lib.hid (HE.out.1 rfl)
          clear HE
          go_wp2_with fail
          go_roundw
          case rel => exact ⟨k + 1, 0, NU, WY, c2, A2, by go_num, HK2, HO2, HT3, Lib.hid (.inl ⟨rfl, HE0.out.1, HE0.out.2.1, HE0.out.2.2⟩)⟩
          case measure => rw [HZ4.out, HZ.out]; simp [intOf, kOf]; have := HK2.out; omega
        · have HE1 := Lib.hid (HE.out.2.1 rfl)
          clear HE
          go_wp2_with fail
          go_roundw
          case rel => exact ⟨k + 1, 1, NU, WY, c2, A2, by go_num, HK2, HO2, HT3, Lib.hid (.inr ⟨.inl rfl, HE1.out⟩)⟩
          case measure => rw [HZ4.out, HZ.out]; simp [intOf, kOf]; have := HK2.out; omega
        · have HE1 := Lib.hid (HE.out.2.2 rfl)
          clear HE
          go_wp2_with fail
          go_roundw
          case rel => exact ⟨k, 2, NU, WY, c2, A2, rfl, HK, HO2, HT3, Lib.hid (.inr ⟨.inr rfl, HE1.out⟩)⟩
          case measure => rw [HZ4.out, HZ.out]; simp [intOf, kOf]
      · have HE : Hid (R = (⟨0, 0, 0, c1, A1⟩, k)) := Lib.hid (by
          have h1 : N - k = 0 := by
            have h2 : ¬ k < N := fun h => hlt ((HN1.out k).2 h)
            omega
          rw [h1, run_zero] at hq
          exact hq)
        clear hq HSt
        obtain ⟨⟨z0, z1, z2⟩, f0, f1, f2⟩ := HT.out.r.three
        have FF := Lib.hid (HT.out.laid (.int .u8 0) (.int .u32 0) (.int .i64 0))
        go_wp2_with fail
        refine bodyPost_ret (v := .tuple #[.agg #[.int .u8 0, .int .u32 0, .int .i64 0], .int .i64 (k : Int)]) (res_stop_tmp Tryd.results7 _ _ k6 _ _ _ _ rfl rfl FF.out.r) rfl ?_
        rw [HE.out]
        exact ⟨rfl, FF.out.cpu, FF.out.sp, FF.out.dt⟩
    · have HE := Lib.hid hq
      clear hq HSt
      by_cases hlt : (k : Int) < (N : Int)
      · rcases hk12 with rfl | rfl
        · obtain ⟨⟨z0, z1, z2⟩, f0, f1, f2⟩ := HT.out.r.three
          have FF := Lib.hid (HT.out.laid (.int .u8 1) (.int .u32 NU) (.int .i64 WY))
          go_wp2_with fail
          refine bodyPost_ret (v := .tuple #[.agg #[.int .u8 1, .int .u32 NU, .int .i64 WY], .int .i64 (k : Int)]) (res_stop_tmp Tryd.results7 _ _ k6 _ _ _ _ rfl rfl FF.out.r) rfl ?_
          rw [HE.out]
          exact ⟨rfl, FF.out.cpu, FF.out.sp, FF.out.dt⟩
        · obtain ⟨⟨z0, z1, z2⟩, f0, f1, f2⟩ := HT.out.r.three
          have FF := Lib.hid (HT.out.laid (.int .u8 2) (.int .u32 NU) (.int .i64 WY))
          go_wp2_with fail
          refine bodyPost_ret (v := .tuple #[.agg #[.int .u8 2, .int .u32 NU, .int .i64 WY], .int .i64 (k : Int)]) (res_stop_tmp Tryd.results7 _ _ k6 _ _ _ _ rfl rfl FF.out.r) rfl ?_
          rw [HE.out]
          exact ⟨rfl, FF.out.cpu, FF.out.sp, FF.out.dt⟩
      · rcases hk12 with rfl | rfl
        · obtain ⟨⟨z0, z1, z2⟩, f0, f1, f2⟩ := HT.out.r.three
          have FF := Lib.hid (HT.out.laid (.int .u8 1) (.int .u32 NU) (.int .i64 WY))
          go_wp2_with fail
          refine bodyPost_ret (v := .tuple #[.agg #[.int .u8 1, .int .u32 NU, .int .i64 WY], .int .i64 (k : Int)]) (res_stop_tmp Tryd.results7 _ _ k6 _ _ _ _ rfl rfl FF.out.r) rfl ?_
          rw [HE.out]
          exact ⟨rfl, FF.out.cpu, FF.out.sp, FF.out.dt⟩
        · obtain ⟨⟨z0, z1, z2⟩, f0, f1, f2⟩ := HT.out.r.three
          have FF := Lib.hid (HT.out.laid (.int .u8 2) (.int .u32 NU) (.int .i64 WY))
          go_wp2_with fail
          refine bodyPost_ret (v := .tuple #[.agg #[.int .u8 2, .int .u32 NU, .int .i64 WY], .int .i64 (k : Int)]) (res_stop_tmp Tryd.results7 _ _ k6 _ _ _ _ rfl rfl FF.out.r) rfl ?_
          rw [HE.out]
          exact ⟨rfl, FF.out.cpu, FF.out.sp, FF.out.dt⟩
end
end Go.Proofs.YtgdbhmlmioihpaaDoor
