/- The jumps, and the system's call. -/
import Derived.Test.YtgdbhmlmioihpaaDoorX37
set_option linter.unusedVariables false
namespace Go.Proofs.YtgdbhmlmioihpaaDoor
open Go Go.RowKit Go.Maps

section
variable {q b e n k4 : Nat} {c : Cp} {x : Xn} {A : As}
def jmp (bv : Bool) (c : Cp) (x : Xn) : Cp := if bv = true then setPc c x.im else c

set_option maxHeartbeats 2000000 in
set_option maxRecDepth 100000 in
theorem jumpIf_any (w : World) (s : Do q b e n c x A w) (bv : Bool) :
    Calls Tryd.prog 50 #[.pointer (some ⟨q, 0, none⟩), .bool bv] w fun r w' => r = .returned (.agg #[.int .u8 0, .int .u32 0, .int .i64 0]) ∧ Do q b e n (jmp bv c x) x A w' ∧ DT w w' b e q := by
  obtain ⟨k4, hk4⟩ : ∃ k4, k4 = w.heap.size := ⟨_, rfl⟩
  obtain ⟨wa, hwa⟩ : ∃ wa, wa = w.alloc (.cells #[.int .u8 0, .int .u32 0, .int .i64 0] 30) := ⟨_, rfl⟩
  have T0 : Hid (Dr w q b e n k4 c x A wa) := Lib.hid (by rw [hk4, hwa]; exact Dr.start s)
  obtain ⟨c17, c18, c19, c20, c21, c22⟩ := T0.out.s.six
  have c16 := T0.out.s.pcc
  have f16 : wa.frozen? ⟨q, 16, none⟩ = false := T0.out.s.blk.frozen 16
  have HK := Lib.hid hk4
  have HW := Lib.hid hwa
  cases bv with
  | false =>
    rw [show jmp false c x = c from rfl]
    clear s hk4 hwa c17 c18 c19 c20 c21 c22 c16 f16
    go_enter Tryd.func50, Tryd.ntmps50
    go_upto_region 3 with (fail)
    rw [← HW.out, ← HK.out]
    clear HW HK
    obtain ⟨⟨z0, z1, z2⟩, f0, f1, f2⟩ := T0.out.r.three
    have FF := Lib.hid (T0.out.stop3 (.int .u8 0) (.int .u32 0) (.int .i64 0))
    go_wp2
    refine bodyPost_ret (v := .agg #[.int .u8 0, .int .u32 0, .int .i64 0]) (res_stop Tryd.results50 _ _ k4 _ _ _ rfl FF.out.r) rfl ⟨rfl, FF.out.s, FF.out.dt⟩
  | true =>
    rw [show jmp true c x = setPc c x.im from rfl]
    clear s hk4 hwa c17 c18 c19 c20 c22
    go_enter Tryd.func50, Tryd.ntmps50
    go_upto_region 1 with (fail)
    rw [← HW.out, ← HK.out]
    clear HW HK
    go_upto_region 3 with (fail)
    have T1 := Lib.hid (T0.out.setPc x.im)
    clear T0 c21 c16 f16
    obtain ⟨⟨z0, z1, z2⟩, f0, f1, f2⟩ := T1.out.r.three
    have FF := Lib.hid (T1.out.stop3 (.int .u8 0) (.int .u32 0) (.int .i64 0))
    go_wp2
    refine bodyPost_ret (v := .agg #[.int .u8 0, .int .u32 0, .int .i64 0]) (res_stop Tryd.results50 _ _ k4 _ _ _ rfl FF.out.r) rfl ⟨rfl, FF.out.s, FF.out.dt⟩

set_option maxHeartbeats 2000000 in
set_option maxRecDepth 100000 in
theorem jump_any (w : World) (s : Do q b e n c x A w) :
    Calls Tryd.prog 29 #[.pointer (some ⟨q, 0, none⟩)] w fun r w' => r = .returned (.agg #[.int .u8 0, .int .u32 0, .int .i64 0]) ∧ Do q b e n (setPc c x.im) x A w' ∧ DT w w' b e q := by
  obtain ⟨k4, hk4⟩ : ∃ k4, k4 = w.heap.size := ⟨_, rfl⟩
  obtain ⟨wa, hwa⟩ : ∃ wa, wa = w.alloc (.cells #[.int .u8 0, .int .u32 0, .int .i64 0] 30) := ⟨_, rfl⟩
  have T0 : Hid (Dr w q b e n k4 c x A wa) := Lib.hid (by rw [hk4, hwa]; exact Dr.start s)
  have HB : Hid (∀ w1, Do q b e n c x A w1 → Calls Tryd.prog 50 #[.pointer (some ⟨q, 0, none⟩), .bool true] w1 fun r w' => r = .returned (.agg #[.int .u8 0, .int .u32 0, .int .i64 0]) ∧ Do q b e n (setPc c x.im) x A w' ∧ DT w1 w' b e q) := Lib.hid fun w1 h1 => jumpIf_any w1 h1 true
  have HK := Lib.hid hk4
  have HW := Lib.hid hwa
  clear s hk4 hwa
  go_enter Tryd.func29, Tryd.ntmps29
  go_upto_region 1 with (fail)
  rw [← HW.out, ← HK.out]
  clear HW HK
  go_wp2_with fail
  refine (HB.out _ T0.out.s).mono ?_; rintro r w3 ⟨rfl, s3, t3⟩
  have T2 := Lib.hid (T0.out.call s3 t3)
  clear s3 t3 T0 HB
  obtain ⟨⟨z0, z1, z2⟩, f0, f1, f2⟩ := T2.out.r.three
  have FF := Lib.hid (T2.out.stop3 (.int .u8 0) (.int .u32 0) (.int .i64 0))
  go_wp2
  refine bodyPost_ret (v := .agg #[.int .u8 0, .int .u32 0, .int .i64 0]) (res_stop Tryd.results29 _ _ k4 _ _ _ rfl FF.out.r) rfl ⟨rfl, FF.out.s, FF.out.dt⟩

set_option maxHeartbeats 2000000 in
set_option maxRecDepth 100000 in
theorem jumpAndLink_any (w : World) (s : Do q b e n c x A w) (hd : x.d < 16) :
    Calls Tryd.prog 30 #[.pointer (some ⟨q, 0, none⟩)] w fun r w' => r = .returned (.agg #[.int .u8 0, .int .u32 0, .int .i64 0]) ∧ Do q b e n (setPc (setR c x.d c.pc) x.im) x A w' ∧ DT w w' b e q := by
  obtain ⟨k4, hk4⟩ : ∃ k4, k4 = w.heap.size := ⟨_, rfl⟩
  obtain ⟨wa, hwa⟩ : ∃ wa, wa = w.alloc (.cells #[.int .u8 0, .int .u32 0, .int .i64 0] 30) := ⟨_, rfl⟩
  have T0 : Hid (Dr w q b e n k4 c x A wa) := Lib.hid (by rw [hk4, hwa]; exact Dr.start s)
  have HB : Hid (∀ w1 c1, Do q b e n c1 x A w1 → Calls Tryd.prog 29 #[.pointer (some ⟨q, 0, none⟩)] w1 fun r w' => r = .returned (.agg #[.int .u8 0, .int .u32 0, .int .i64 0]) ∧ Do q b e n (setPc c1 x.im) x A w' ∧ DT w1 w' b e q) := Lib.hid fun w1 c1 h1 => jump_any w1 h1
  obtain ⟨c17, c18, c19, c20, c21, c22⟩ := T0.out.s.six
  have c16 := T0.out.s.pcc
  obtain ⟨D, hD⟩ : ∃ D, D = x.d := ⟨_, rfl⟩
  obtain ⟨V, hV⟩ : ∃ V, V = c.pc := ⟨_, rfl⟩
  rw [← hD] at c18
  rw [← hV] at c16
  have d16 : (D : Int) < 16 := by omega
  have HP : Hid (∀ w1, Do q b e n c x A w1 → Calls Tryd.prog 17 #[.pointer (some ⟨q, 0, none⟩), .int .u8 (D : Int), .int .u32 V] w1 fun r w' => r = .returned (.tuple #[]) ∧ Do q b e n (setR c D V) x A w' ∧ DT w1 w' b e q) := Lib.hid fun w1 h1 => by
    refine (pset_any q 70 (dcs c x b) D (by omega) V _ (dcs_reg c x b D (by omega)) w1 h1.blk).mono ?_
    rintro r w' ⟨q1, q2, q3⟩
    rw [dcs_pset c x b D (by omega) V] at q2
    exact ⟨q1, h1.grown q3 q2, DT.grown q3 b e⟩
  rw [← hD, ← hV]
  have HK := Lib.hid hk4
  have HW := Lib.hid hwa
  clear hD hV hd s hk4 hwa c17 c19 c20 c21 c22
  go_enter Tryd.func30, Tryd.ntmps30
  go_upto_region 1 with (fail)
  rw [← HW.out, ← HK.out]
  clear HW HK
  refine wp_region_quiet_tail 13 (by kernel_rfl) (by kernel_rfl) ?_
  simp only [List.take_succ_cons, List.take_zero, List.drop_succ_cons, List.drop_zero]
  repeat (go_big_quiet_step (fail))
  refine wpQuiet_nil ?_
  intro _ hw'
  obtain ⟨nq, hw''⟩ := hw'
  subst hw''
  have T1 := Lib.hid (T0.out.below (below_drewN _ nq))
  clear T0 c18 c16 d16
  go_wp2_with fail
  refine (HP.out _ T1.out.s).mono ?_; rintro r w1 ⟨rfl, s1, t1⟩
  have T2 := Lib.hid (T1.out.call s1 t1)
  clear s1 t1 T1 HP
  go_wp2_with fail
  refine (HB.out _ _ T2.out.s).mono ?_; rintro r w3 ⟨rfl, s3, t3⟩
  have T3 := Lib.hid (T2.out.call s3 t3)
  clear s3 t3 T2 HB
  obtain ⟨⟨z0, z1, z2⟩, f0, f1, f2⟩ := T3.out.r.three
  have FF := Lib.hid (T3.out.stop3 (.int .u8 0) (.int .u32 0) (.int .i64 0))
  go_wp2
  refine bodyPost_ret (v := .agg #[.int .u8 0, .int .u32 0, .int .i64 0]) (res_stop Tryd.results30 _ _ k4 _ _ _ rfl FF.out.r) rfl ⟨rfl, FF.out.s, FF.out.dt⟩

set_option maxHeartbeats 2000000 in
set_option maxRecDepth 100000 in
theorem jumpToRegister_any (w : World) (s : Do q b e n c x A w) (ha : x.a < 16) :
    Calls Tryd.prog 31 #[.pointer (some ⟨q, 0, none⟩)] w fun r w' => r = .returned (.agg #[.int .u8 0, .int .u32 0, .int .i64 0]) ∧ Do q b e n (setPc c (c.r x.a)) x A w' ∧ DT w w' b e q := by
  obtain ⟨k4, hk4⟩ : ∃ k4, k4 = w.heap.size := ⟨_, rfl⟩
  obtain ⟨wa, hwa⟩ : ∃ wa, wa = w.alloc (.cells #[.int .u8 0, .int .u32 0, .int .i64 0] 30) := ⟨_, rfl⟩
  have T0 : Hid (Dr w q b e n k4 c x A wa) := Lib.hid (by rw [hk4, hwa]; exact Dr.start s)
  obtain ⟨c17, c18, c19, c20, c21, c22⟩ := T0.out.s.six
  have c16 := T0.out.s.pcc
  have ca := T0.out.s.reg x.a ha
  obtain ⟨X, hX⟩ : ∃ X, X = c.r x.a := ⟨_, rfl⟩
  obtain ⟨a, ha'⟩ : ∃ a, a = x.a := ⟨_, rfl⟩
  have a16 : (a : Int) < 16 := by omega
  rw [← hX, ← ha'] at ca
  rw [← ha'] at c19
  rw [← hX]
  have HK := Lib.hid hk4
  have HW := Lib.hid hwa
  clear hX ha' ha s hk4 hwa c17 c18 c20 c21 c22
  go_enter Tryd.func31, Tryd.ntmps31
  go_upto_region 1 with (fail)
  rw [← HW.out, ← HK.out]
  clear HW HK
  refine wp_region_quiet_tail 15 (by kernel_rfl) (by kernel_rfl) ?_
  simp only [List.take_succ_cons, List.take_zero, List.drop_succ_cons, List.drop_zero]
  repeat (go_big_quiet_step (fail))
  refine wpQuiet_nil ?_
  intro _ hw'
  obtain ⟨nq, hw''⟩ := hw'
  subst hw''
  have T1 := Lib.hid (T0.out.below (below_drewN _ nq))
  clear c19 ca a16 c16
  have c16 := T1.out.s.pcc
  have f16 := T1.out.s.blk.frozen 16
  clear T0
  go_upto_region 2 with (fail)
  have T2 := Lib.hid (T1.out.setPc X)
  clear T1 c16 f16
  obtain ⟨⟨z0, z1, z2⟩, f0, f1, f2⟩ := T2.out.r.three
  have FF := Lib.hid (T2.out.stop3 (.int .u8 0) (.int .u32 0) (.int .i64 0))
  go_wp2
  refine bodyPost_ret (v := .agg #[.int .u8 0, .int .u32 0, .int .i64 0]) (res_stop Tryd.results31 _ _ k4 _ _ _ rfl FF.out.r) rfl ⟨rfl, FF.out.s, FF.out.dt⟩

set_option maxHeartbeats 2000000 in
set_option maxRecDepth 100000 in
theorem jumpIfEqual_any (w : World) (s : Do q b e n c x A w) (ha : x.a < 16) (hb : x.b < 16) :
    Calls Tryd.prog 32 #[.pointer (some ⟨q, 0, none⟩)] w fun r w' => r = .returned (.agg #[.int .u8 0, .int .u32 0, .int .i64 0]) ∧ Do q b e n (jmp (c.r x.a == c.r x.b) c x) x A w' ∧ DT w w' b e q := by
  obtain ⟨k4, hk4⟩ : ∃ k4, k4 = w.heap.size := ⟨_, rfl⟩
  obtain ⟨wa, hwa⟩ : ∃ wa, wa = w.alloc (.cells #[.int .u8 0, .int .u32 0, .int .i64 0] 30) := ⟨_, rfl⟩
  have T0 : Hid (Dr w q b e n k4 c x A wa) := Lib.hid (by rw [hk4, hwa]; exact Dr.start s)
  have HB : Hid (∀ w1 bv, Do q b e n c x A w1 → Calls Tryd.prog 50 #[.pointer (some ⟨q, 0, none⟩), .bool bv] w1 fun r w' => r = .returned (.agg #[.int .u8 0, .int .u32 0, .int .i64 0]) ∧ Do q b e n (jmp bv c x) x A w' ∧ DT w1 w' b e q) := Lib.hid fun w1 bv h1 => jumpIf_any w1 h1 bv
  obtain ⟨c17, c18, c19, c20, c21, c22⟩ := T0.out.s.six
  have ca := T0.out.s.reg x.a ha
  have cb := T0.out.s.reg x.b hb
  obtain ⟨X, hX⟩ : ∃ X, X = c.r x.a := ⟨_, rfl⟩
  obtain ⟨Y, hY⟩ : ∃ Y, Y = c.r x.b := ⟨_, rfl⟩
  obtain ⟨a, ha'⟩ : ∃ a, a = x.a := ⟨_, rfl⟩
  obtain ⟨bb, hb'⟩ : ∃ bb, bb = x.b := ⟨_, rfl⟩
  have a16 : (a : Int) < 16 := by omega
  have b16 : (bb : Int) < 16 := by omega
  rw [← hX, ← ha'] at ca
  rw [← hY, ← hb'] at cb
  rw [← ha'] at c19
  rw [← hb'] at c20
  rw [← hX, ← hY]
  have HK := Lib.hid hk4
  have HW := Lib.hid hwa
  clear hX hY ha' hb' ha hb s hk4 hwa c17 c18 c21 c22
  go_enter Tryd.func32, Tryd.ntmps32
  go_upto_region 1 with (fail)
  rw [← HW.out, ← HK.out]
  clear HW HK
  refine wp_region_quiet_tail 24 (by kernel_rfl) (by kernel_rfl) ?_
  simp only [List.take_succ_cons, List.take_zero, List.drop_succ_cons, List.drop_zero]
  repeat (go_big_quiet_step (fail))
  refine wpQuiet_nil ?_
  intro _ hw'
  obtain ⟨nq, hw''⟩ := hw'
  subst hw''
  have T1 := Lib.hid (T0.out.below (below_drewN _ nq))
  clear c19 c20 ca cb a16 b16 T0
  go_wp2_with fail
  refine (HB.out _ _ T1.out.s).mono ?_; rintro r w3 ⟨rfl, s3, t3⟩
  have T2 := Lib.hid (T1.out.call s3 t3)
  clear s3 t3 T1 HB
  obtain ⟨⟨z0, z1, z2⟩, f0, f1, f2⟩ := T2.out.r.three
  have FF := Lib.hid (T2.out.stop3 (.int .u8 0) (.int .u32 0) (.int .i64 0))
  go_wp2
  refine bodyPost_ret (v := .agg #[.int .u8 0, .int .u32 0, .int .i64 0]) (res_stop Tryd.results32 _ _ k4 _ _ _ rfl FF.out.r) rfl ⟨rfl, FF.out.s, FF.out.dt⟩

set_option maxHeartbeats 2000000 in
set_option maxRecDepth 100000 in
theorem jumpIfOther_any (w : World) (s : Do q b e n c x A w) (ha : x.a < 16) (hb : x.b < 16) :
    Calls Tryd.prog 33 #[.pointer (some ⟨q, 0, none⟩)] w fun r w' => r = .returned (.agg #[.int .u8 0, .int .u32 0, .int .i64 0]) ∧ Do q b e n (jmp (c.r x.a != c.r x.b) c x) x A w' ∧ DT w w' b e q := by
  obtain ⟨k4, hk4⟩ : ∃ k4, k4 = w.heap.size := ⟨_, rfl⟩
  obtain ⟨wa, hwa⟩ : ∃ wa, wa = w.alloc (.cells #[.int .u8 0, .int .u32 0, .int .i64 0] 30) := ⟨_, rfl⟩
  have T0 : Hid (Dr w q b e n k4 c x A wa) := Lib.hid (by rw [hk4, hwa]; exact Dr.start s)
  have HB : Hid (∀ w1 bv, Do q b e n c x A w1 → Calls Tryd.prog 50 #[.pointer (some ⟨q, 0, none⟩), .bool bv] w1 fun r w' => r = .returned (.agg #[.int .u8 0, .int .u32 0, .int .i64 0]) ∧ Do q b e n (jmp bv c x) x A w' ∧ DT w1 w' b e q) := Lib.hid fun w1 bv h1 => jumpIf_any w1 h1 bv
  obtain ⟨c17, c18, c19, c20, c21, c22⟩ := T0.out.s.six
  have ca := T0.out.s.reg x.a ha
  have cb := T0.out.s.reg x.b hb
  obtain ⟨X, hX⟩ : ∃ X, X = c.r x.a := ⟨_, rfl⟩
  obtain ⟨Y, hY⟩ : ∃ Y, Y = c.r x.b := ⟨_, rfl⟩
  obtain ⟨a, ha'⟩ : ∃ a, a = x.a := ⟨_, rfl⟩
  obtain ⟨bb, hb'⟩ : ∃ bb, bb = x.b := ⟨_, rfl⟩
  have a16 : (a : Int) < 16 := by omega
  have b16 : (bb : Int) < 16 := by omega
  rw [← hX, ← ha'] at ca
  rw [← hY, ← hb'] at cb
  rw [← ha'] at c19
  rw [← hb'] at c20
  rw [← hX, ← hY]
  have HK := Lib.hid hk4
  have HW := Lib.hid hwa
  clear hX hY ha' hb' ha hb s hk4 hwa c17 c18 c21 c22
  go_enter Tryd.func33, Tryd.ntmps33
  go_upto_region 1 with (fail)
  rw [← HW.out, ← HK.out]
  clear HW HK
  refine wp_region_quiet_tail 24 (by kernel_rfl) (by kernel_rfl) ?_
  simp only [List.take_succ_cons, List.take_zero, List.drop_succ_cons, List.drop_zero]
  repeat (go_big_quiet_step (fail))
  refine wpQuiet_nil ?_
  intro _ hw'
  obtain ⟨nq, hw''⟩ := hw'
  subst hw''
  have T1 := Lib.hid (T0.out.below (below_drewN _ nq))
  clear c19 c20 ca cb a16 b16 T0
  go_wp2_with fail
  refine (HB.out _ _ T1.out.s).mono ?_; rintro r w3 ⟨rfl, s3, t3⟩
  have T2 := Lib.hid (T1.out.call s3 t3)
  clear s3 t3 T1 HB
  obtain ⟨⟨z0, z1, z2⟩, f0, f1, f2⟩ := T2.out.r.three
  have FF := Lib.hid (T2.out.stop3 (.int .u8 0) (.int .u32 0) (.int .i64 0))
  go_wp2
  refine bodyPost_ret (v := .agg #[.int .u8 0, .int .u32 0, .int .i64 0]) (res_stop Tryd.results33 _ _ k4 _ _ _ rfl FF.out.r) rfl ⟨rfl, FF.out.s, FF.out.dt⟩

set_option maxHeartbeats 2000000 in
set_option maxRecDepth 100000 in
theorem jumpIfLess_any (w : World) (s : Do q b e n c x A w) (ha : x.a < 16) (hb : x.b < 16) :
    Calls Tryd.prog 34 #[.pointer (some ⟨q, 0, none⟩)] w fun r w' => r = .returned (.agg #[.int .u8 0, .int .u32 0, .int .i64 0]) ∧ Do q b e n (jmp (decide (c.r x.a < c.r x.b)) c x) x A w' ∧ DT w w' b e q := by
  obtain ⟨k4, hk4⟩ : ∃ k4, k4 = w.heap.size := ⟨_, rfl⟩
  obtain ⟨wa, hwa⟩ : ∃ wa, wa = w.alloc (.cells #[.int .u8 0, .int .u32 0, .int .i64 0] 30) := ⟨_, rfl⟩
  have T0 : Hid (Dr w q b e n k4 c x A wa) := Lib.hid (by rw [hk4, hwa]; exact Dr.start s)
  have HB : Hid (∀ w1 bv, Do q b e n c x A w1 → Calls Tryd.prog 50 #[.pointer (some ⟨q, 0, none⟩), .bool bv] w1 fun r w' => r = .returned (.agg #[.int .u8 0, .int .u32 0, .int .i64 0]) ∧ Do q b e n (jmp bv c x) x A w' ∧ DT w1 w' b e q) := Lib.hid fun w1 bv h1 => jumpIf_any w1 h1 bv
  obtain ⟨c17, c18, c19, c20, c21, c22⟩ := T0.out.s.six
  have ca := T0.out.s.reg x.a ha
  have cb := T0.out.s.reg x.b hb
  obtain ⟨X, hX⟩ : ∃ X, X = c.r x.a := ⟨_, rfl⟩
  obtain ⟨Y, hY⟩ : ∃ Y, Y = c.r x.b := ⟨_, rfl⟩
  obtain ⟨a, ha'⟩ : ∃ a, a = x.a := ⟨_, rfl⟩
  obtain ⟨bb, hb'⟩ : ∃ bb, bb = x.b := ⟨_, rfl⟩
  have a16 : (a : Int) < 16 := by omega
  have b16 : (bb : Int) < 16 := by omega
  rw [← hX, ← ha'] at ca
  rw [← hY, ← hb'] at cb
  rw [← ha'] at c19
  rw [← hb'] at c20
  rw [← hX, ← hY]
  have HK := Lib.hid hk4
  have HW := Lib.hid hwa
  clear hX hY ha' hb' ha hb s hk4 hwa c17 c18 c21 c22
  go_enter Tryd.func34, Tryd.ntmps34
  go_upto_region 1 with (fail)
  rw [← HW.out, ← HK.out]
  clear HW HK
  refine wp_region_quiet_tail 24 (by kernel_rfl) (by kernel_rfl) ?_
  simp only [List.take_succ_cons, List.take_zero, List.drop_succ_cons, List.drop_zero]
  repeat (go_big_quiet_step (fail))
  refine wpQuiet_nil ?_
  intro _ hw'
  obtain ⟨nq, hw''⟩ := hw'
  subst hw''
  have T1 := Lib.hid (T0.out.below (below_drewN _ nq))
  clear c19 c20 ca cb a16 b16 T0
  go_wp2_with fail
  refine (HB.out _ _ T1.out.s).mono ?_; rintro r w3 ⟨rfl, s3, t3⟩
  have T2 := Lib.hid (T1.out.call s3 t3)
  clear s3 t3 T1 HB
  obtain ⟨⟨z0, z1, z2⟩, f0, f1, f2⟩ := T2.out.r.three
  have FF := Lib.hid (T2.out.stop3 (.int .u8 0) (.int .u32 0) (.int .i64 0))
  go_wp2
  refine bodyPost_ret (v := .agg #[.int .u8 0, .int .u32 0, .int .i64 0]) (res_stop Tryd.results34 _ _ k4 _ _ _ rfl FF.out.r) rfl ⟨rfl, FF.out.s, FF.out.dt⟩

set_option maxHeartbeats 2000000 in
set_option maxRecDepth 100000 in
theorem jumpIfNotLess_any (w : World) (s : Do q b e n c x A w) (ha : x.a < 16) (hb : x.b < 16) :
    Calls Tryd.prog 35 #[.pointer (some ⟨q, 0, none⟩)] w fun r w' => r = .returned (.agg #[.int .u8 0, .int .u32 0, .int .i64 0]) ∧ Do q b e n (jmp (decide (c.r x.a ≥ c.r x.b)) c x) x A w' ∧ DT w w' b e q := by
  obtain ⟨k4, hk4⟩ : ∃ k4, k4 = w.heap.size := ⟨_, rfl⟩
  obtain ⟨wa, hwa⟩ : ∃ wa, wa = w.alloc (.cells #[.int .u8 0, .int .u32 0, .int .i64 0] 30) := ⟨_, rfl⟩
  have T0 : Hid (Dr w q b e n k4 c x A wa) := Lib.hid (by rw [hk4, hwa]; exact Dr.start s)
  have HB : Hid (∀ w1 bv, Do q b e n c x A w1 → Calls Tryd.prog 50 #[.pointer (some ⟨q, 0, none⟩), .bool bv] w1 fun r w' => r = .returned (.agg #[.int .u8 0, .int .u32 0, .int .i64 0]) ∧ Do q b e n (jmp bv c x) x A w' ∧ DT w1 w' b e q) := Lib.hid fun w1 bv h1 => jumpIf_any w1 h1 bv
  obtain ⟨c17, c18, c19, c20, c21, c22⟩ := T0.out.s.six
  have ca := T0.out.s.reg x.a ha
  have cb := T0.out.s.reg x.b hb
  obtain ⟨X, hX⟩ : ∃ X, X = c.r x.a := ⟨_, rfl⟩
  obtain ⟨Y, hY⟩ : ∃ Y, Y = c.r x.b := ⟨_, rfl⟩
  obtain ⟨a, ha'⟩ : ∃ a, a = x.a := ⟨_, rfl⟩
  obtain ⟨bb, hb'⟩ : ∃ bb, bb = x.b := ⟨_, rfl⟩
  have a16 : (a : Int) < 16 := by omega
  have b16 : (bb : Int) < 16 := by omega
  rw [← hX, ← ha'] at ca
  rw [← hY, ← hb'] at cb
  rw [← ha'] at c19
  rw [← hb'] at c20
  rw [← hX, ← hY]
  have HK := Lib.hid hk4
  have HW := Lib.hid hwa
  clear hX hY ha' hb' ha hb s hk4 hwa c17 c18 c21 c22
  go_enter Tryd.func35, Tryd.ntmps35
  go_upto_region 1 with (fail)
  rw [← HW.out, ← HK.out]
  clear HW HK
  refine wp_region_quiet_tail 24 (by kernel_rfl) (by kernel_rfl) ?_
  simp only [List.take_succ_cons, List.take_zero, List.drop_succ_cons, List.drop_zero]
  repeat (go_big_quiet_step (fail))
  refine wpQuiet_nil ?_
  intro _ hw'
  obtain ⟨nq, hw''⟩ := hw'
  subst hw''
  have T1 := Lib.hid (T0.out.below (below_drewN _ nq))
  clear c19 c20 ca cb a16 b16 T0
  go_wp2_with fail
  refine (HB.out _ _ T1.out.s).mono ?_; rintro r w3 ⟨rfl, s3, t3⟩
  have T2 := Lib.hid (T1.out.call s3 t3)
  clear s3 t3 T1 HB
  obtain ⟨⟨z0, z1, z2⟩, f0, f1, f2⟩ := T2.out.r.three
  have FF := Lib.hid (T2.out.stop3 (.int .u8 0) (.int .u32 0) (.int .i64 0))
  go_wp2
  refine bodyPost_ret (v := .agg #[.int .u8 0, .int .u32 0, .int .i64 0]) (res_stop Tryd.results35 _ _ k4 _ _ _ rfl FF.out.r) rfl ⟨rfl, FF.out.s, FF.out.dt⟩

set_option maxHeartbeats 2000000 in
set_option maxRecDepth 100000 in
theorem system_any (w : World) (s : Do q b e n c x A w) :
    Calls Tryd.prog 36 #[.pointer (some ⟨q, 0, none⟩)] w fun r w' => r = .returned (.agg #[.int .u8 1, .int .u32 x.im, .int .i64 0]) ∧ Do q b e n c x A w' ∧ DT w w' b e q := by
  obtain ⟨k4, hk4⟩ : ∃ k4, k4 = w.heap.size := ⟨_, rfl⟩
  obtain ⟨wa, hwa⟩ : ∃ wa, wa = w.alloc (.cells #[.int .u8 0, .int .u32 0, .int .i64 0] 30) := ⟨_, rfl⟩
  have T0 : Hid (Dr w q b e n k4 c x A wa) := Lib.hid (by rw [hk4, hwa]; exact Dr.start s)
  obtain ⟨c17, c18, c19, c20, c21, c22⟩ := T0.out.s.six
  have HK := Lib.hid hk4
  have HW := Lib.hid hwa
  clear s hk4 hwa c17 c18 c19 c20 c22
  go_enter Tryd.func36, Tryd.ntmps36
  go_upto_region 1 with (fail)
  rw [← HW.out, ← HK.out]
  clear HW HK
  obtain ⟨⟨z0, z1, z2⟩, f0, f1, f2⟩ := T0.out.r.three
  have FF := Lib.hid (T0.out.stop3 (.int .u8 1) (.int .u32 x.im) (.int .i64 0))
  go_wp2
  refine bodyPost_ret (v := .agg #[.int .u8 1, .int .u32 x.im, .int .i64 0]) (res_stop Tryd.results36 _ _ k4 _ _ _ rfl FF.out.r) rfl ⟨rfl, FF.out.s, FF.out.dt⟩
end
end Go.Proofs.YtgdbhmlmioihpaaDoor
