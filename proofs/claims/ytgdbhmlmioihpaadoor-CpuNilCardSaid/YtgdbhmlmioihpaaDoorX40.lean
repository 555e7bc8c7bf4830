/- The operations, on two registers, or on one and a number. -/
import Derived.Test.YtgdbhmlmioihpaaDoorX37
import Derived.Test.YtgdbhmlmioihpaaDoorX39
set_option linter.unusedVariables false
namespace Go.Proofs.YtgdbhmlmioihpaaDoor
open Go Go.RowKit Go.Maps

section
variable {q b e n k4 : Nat} {c : Cp} {x : Xn} {A : As}

set_option maxHeartbeats 4000000 in
set_option maxRecDepth 100000 in
theorem operate_any (w : World) (s : Do q b e n c x A w) (hc : c.Ok) (hx : x.Ok) (hop : 1 ≤ x.op ∧ x.op ≤ 14) :
    Calls Tryd.prog 22 #[.pointer (some ⟨q, 0, none⟩)] w fun r w' => r = .returned (.agg #[.int .u8 0, .int .u32 0, .int .i64 0]) ∧ Do q b e n (setR c x.d (O.opI x.op (c.r x.a) (c.r x.b))) x A w' ∧ DT w w' b e q := by
  obtain ⟨hd, ha, hb⟩ := hx.regs
  obtain ⟨k4, hk4⟩ : ∃ k4, k4 = w.heap.size := ⟨_, rfl⟩
  obtain ⟨wa, hwa⟩ : ∃ wa, wa = w.alloc (.cells #[.int .u8 0, .int .u32 0, .int .i64 0] 30) := ⟨_, rfl⟩
  have T0 : Hid (Dr w q b e n k4 c x A wa) := Lib.hid (by rw [hk4, hwa]; exact Dr.start s)
  have HB : Hid (∀ w1 v, Do q b e n c x A w1 → Calls Tryd.prog 47 #[.pointer (some ⟨q, 0, none⟩), .int .u32 v] w1 fun r w' => r = .returned (.agg #[.int .u8 0, .int .u32 0, .int .i64 0]) ∧ Do q b e n (setR c x.d v) x A w' ∧ DT w1 w' b e q) := Lib.hid fun w1 v h1 => become_any w1 h1 hd v
  obtain ⟨X, hX⟩ : ∃ X, X = c.r x.a := ⟨_, rfl⟩
  obtain ⟨Y, hY⟩ : ∃ Y, Y = c.r x.b := ⟨_, rfl⟩
  obtain ⟨V, hV⟩ : ∃ V, V = O.opI x.op X Y := ⟨_, rfl⟩
  have HO : Hid (∀ w1, Calls Tryd.prog 46 #[.int .u8 x.op, .int .u32 X, .int .u32 Y] w1 fun r w' => r = .returned (.tuple #[.int .u32 V, .int .i64 0]) ∧ Below w1.heap.size w1 w') := Lib.hid fun w1 => by
    rw [hV, hX, hY]; exact O.op_any x.op _ _ hop.1 hop.2 (hc.lo _) (hc.hi _) (hc.lo _) (hc.hi _) w1
  rw [← hX, ← hY, ← hV]
  obtain ⟨op, hop'⟩ : ∃ op, op = x.op := ⟨_, rfl⟩
  obtain ⟨a, ha'⟩ : ∃ a, a = x.a := ⟨_, rfl⟩
  obtain ⟨bb, hb'⟩ : ∃ bb, bb = x.b := ⟨_, rfl⟩
  have a16 : (a : Int) < 16 := by omega
  have b16 : (bb : Int) < 16 := by omega
  have HC : Hid (∀ w1, Do q b e n c x A w1 → w1.cell? ⟨q, 17, none⟩ = some (.int .u8 op) ∧ w1.cell? ⟨q, 19, none⟩ = some (.int .u8 (a : Int)) ∧ w1.cell? ⟨q, 20, none⟩ = some (.int .u8 (bb : Int)) ∧ w1.cell? ⟨q, a, none⟩ = some (.int .u32 X) ∧ w1.cell? ⟨q, bb, none⟩ = some (.int .u32 Y)) := Lib.hid fun w1 h1 => by
    obtain ⟨c17, c18, c19, c20, c21, c22⟩ := h1.six
    exact ⟨by rw [hop']; exact c17, by rw [ha']; exact c19, by rw [hb']; exact c20, by rw [hX, ha']; exact h1.reg _ ha, by rw [hY, hb']; exact h1.reg _ hb⟩
  rw [← hop'] at HO
  have HK := Lib.hid hk4
  have HW := Lib.hid hwa
  clear hX hY hV hop' ha' hb' hd ha hb s hc hx hop hk4 hwa
  replace T0 := Lib.hid T0.out.drew
  have hS1 := HC.out _ T0.out.s
  go_enter Tryd.func22, Tryd.ntmps22
  go_upto_region 1 with (fail)
  rw [← HW.out, ← HK.out]
  clear HW HK
  go_region_held3 (fun w' => w'.cell? ⟨q, 17, none⟩ = some (.int .u8 op) ∧ w'.cell? ⟨q, 19, none⟩ = some (.int .u8 (a : Int)) ∧ w'.cell? ⟨q, 20, none⟩ = some (.int .u8 (bb : Int)) ∧ w'.cell? ⟨q, a, none⟩ = some (.int .u32 X) ∧ w'.cell? ⟨q, bb, none⟩ = some (.int .u32 Y))
    (first | exact hS1 | exact hS2)
    ((first
      | (go_at_call 46; refine (HO.out _).mono ?_; rintro r w2 ⟨rfl, q2⟩; have T1 := Lib.hid (T0.out.below q2); have hS2 := HC.out _ T1.out.s; clear q2)))
  clear hS1 HC HO a16 b16 T0
  go_wp2_with fail
  refine (HB.out _ V T1.out.s).mono ?_; rintro r w3 ⟨rfl, s3, t3⟩
  have T2 := Lib.hid (T1.out.call s3 t3)
  clear s3 t3 T1 HB hS2
  obtain ⟨⟨z0, z1, z2⟩, f0, f1, f2⟩ := T2.out.r.three
  have FF := Lib.hid (T2.out.stop3 (.int .u8 0) (.int .u32 0) (.int .i64 0))
  go_wp2
  refine bodyPost_ret (v := .agg #[.int .u8 0, .int .u32 0, .int .i64 0]) (res_stop Tryd.results22 _ _ k4 _ _ _ rfl FF.out.r) rfl ⟨rfl, FF.out.s, FF.out.dt⟩

set_option maxHeartbeats 4000000 in
set_option maxRecDepth 100000 in
theorem operateOnNumber_any (w : World) (s : Do q b e n c x A w) (hc : c.Ok) (hx : x.Ok) (hop : 17 ≤ x.op ∧ x.op ≤ 30) :
    Calls Tryd.prog 23 #[.pointer (some ⟨q, 0, none⟩)] w fun r w' => r = .returned (.agg #[.int .u8 0, .int .u32 0, .int .i64 0]) ∧ Do q b e n (setR c x.d (O.opI (x.op - 16) (c.r x.a) x.im)) x A w' ∧ DT w w' b e q := by
  obtain ⟨hd, ha, hb⟩ := hx.regs
  obtain ⟨k4, hk4⟩ : ∃ k4, k4 = w.heap.size := ⟨_, rfl⟩
  obtain ⟨wa, hwa⟩ : ∃ wa, wa = w.alloc (.cells #[.int .u8 0, .int .u32 0, .int .i64 0] 30) := ⟨_, rfl⟩
  have T0 : Hid (Dr w q b e n k4 c x A wa) := Lib.hid (by rw [hk4, hwa]; exact Dr.start s)
  have HB : Hid (∀ w1 v, Do q b e n c x A w1 → Calls Tryd.prog 47 #[.pointer (some ⟨q, 0, none⟩), .int .u32 v] w1 fun r w' => r = .returned (.agg #[.int .u8 0, .int .u32 0, .int .i64 0]) ∧ Do q b e n (setR c x.d v) x A w' ∧ DT w1 w' b e q) := Lib.hid fun w1 v h1 => become_any w1 h1 hd v
  obtain ⟨X, hX⟩ : ∃ X, X = c.r x.a := ⟨_, rfl⟩
  obtain ⟨Y, hY⟩ : ∃ Y, Y = x.im := ⟨_, rfl⟩
  obtain ⟨OP, hOP⟩ : ∃ OP, OP = x.op - 16 := ⟨_, rfl⟩
  have hwr : IntKind.u8.wrap (x.op - 16) = OP := by rw [IntKind.wrap_u8, hOP]; omega
  obtain ⟨V, hV⟩ : ∃ V, V = O.opI OP X Y := ⟨_, rfl⟩
  have HO : Hid (∀ w1, Calls Tryd.prog 46 #[.int .u8 OP, .int .u32 X, .int .u32 Y] w1 fun r w' => r = .returned (.tuple #[.int .u32 V, .int .i64 0]) ∧ Below w1.heap.size w1 w') := Lib.hid fun w1 => by
    rw [hV, hX, hY]; exact O.op_any OP _ _ (by omega) (by omega) (hc.lo _) (hc.hi _) hx.i0 hx.i1 w1
  rw [← hX, ← hY, ← hOP, ← hV]
  obtain ⟨op, hop'⟩ : ∃ op, op = x.op := ⟨_, rfl⟩
  obtain ⟨a, ha'⟩ : ∃ a, a = x.a := ⟨_, rfl⟩
  have a16 : (a : Int) < 16 := by omega
  have HC : Hid (∀ w1, Do q b e n c x A w1 → w1.cell? ⟨q, 17, none⟩ = some (.int .u8 op) ∧ w1.cell? ⟨q, 19, none⟩ = some (.int .u8 (a : Int)) ∧ w1.cell? ⟨q, 21, none⟩ = some (.int .u32 Y) ∧ w1.cell? ⟨q, a, none⟩ = some (.int .u32 X)) := Lib.hid fun w1 h1 => by
    obtain ⟨c17, c18, c19, c20, c21, c22⟩ := h1.six
    exact ⟨by rw [hop']; exact c17, by rw [ha']; exact c19, by rw [hY]; exact c21, by rw [hX, ha']; exact h1.reg _ ha⟩
  rw [← hop'] at hwr
  have op0 : 17 ≤ op := by omega
  have op1 : op ≤ 30 := by omega
  have HK := Lib.hid hk4
  have HW := Lib.hid hwa
  clear hX hY hV hop' ha' hOP hd ha hb s hc hx hop hk4 hwa
  replace T0 := Lib.hid T0.out.drew
  have hS1 := HC.out _ T0.out.s
  go_enter Tryd.func23, Tryd.ntmps23
  go_upto_region 1 with (fail)
  rw [← HW.out, ← HK.out]
  clear HW HK
  go_region_held3 (fun w' => w'.cell? ⟨q, 17, none⟩ = some (.int .u8 op) ∧ w'.cell? ⟨q, 19, none⟩ = some (.int .u8 (a : Int)) ∧ w'.cell? ⟨q, 21, none⟩ = some (.int .u32 Y) ∧ w'.cell? ⟨q, a, none⟩ = some (.int .u32 X))
    (first | exact hS1 | exact hS2)
    ((first
      | (go_at_call 46; refine (HO.out _).mono ?_; rintro r w2 ⟨rfl, q2⟩; have T1 := Lib.hid (T0.out.below q2); have hS2 := HC.out _ T1.out.s; clear q2)))
  clear hS1 HC HO a16 T0 hwr op0 op1
  go_wp2_with fail
  refine (HB.out _ V T1.out.s).mono ?_; rintro r w3 ⟨rfl, s3, t3⟩
  have T2 := Lib.hid (T1.out.call s3 t3)
  clear s3 t3 T1 HB hS2
  obtain ⟨⟨z0, z1, z2⟩, f0, f1, f2⟩ := T2.out.r.three
  have FF := Lib.hid (T2.out.stop3 (.int .u8 0) (.int .u32 0) (.int .i64 0))
  go_wp2
  refine bodyPost_ret (v := .agg #[.int .u8 0, .int .u32 0, .int .i64 0]) (res_stop Tryd.results23 _ _ k4 _ _ _ rfl FF.out.r) rfl ⟨rfl, FF.out.s, FF.out.dt⟩

set_option maxHeartbeats 4000000 in
set_option maxRecDepth 100000 in
theorem takeNumber_any (w : World) (s : Do q b e n c x A w) (hd : x.d < 16) :
    Calls Tryd.prog 24 #[.pointer (some ⟨q, 0, none⟩)] w fun r w' => r = .returned (.agg #[.int .u8 0, .int .u32 0, .int .i64 0]) ∧ Do q b e n (setR c x.d x.im) x A w' ∧ DT w w' b e q := by
  obtain ⟨k4, hk4⟩ : ∃ k4, k4 = w.heap.size := ⟨_, rfl⟩
  obtain ⟨wa, hwa⟩ : ∃ wa, wa = w.alloc (.cells #[.int .u8 0, .int .u32 0, .int .i64 0] 30) := ⟨_, rfl⟩
  have T0 : Hid (Dr w q b e n k4 c x A wa) := Lib.hid (by rw [hk4, hwa]; exact Dr.start s)
  have HB : Hid (∀ w1 v, Do q b e n c x A w1 → Calls Tryd.prog 47 #[.pointer (some ⟨q, 0, none⟩), .int .u32 v] w1 fun r w' => r = .returned (.agg #[.int .u8 0, .int .u32 0, .int .i64 0]) ∧ Do q b e n (setR c x.d v) x A w' ∧ DT w1 w' b e q) := Lib.hid fun w1 v h1 => become_any w1 h1 hd v
  obtain ⟨c17, c18, c19, c20, c21, c22⟩ := T0.out.s.six
  have HK := Lib.hid hk4
  have HW := Lib.hid hwa
  clear hd s hk4 hwa c17 c18 c19 c20 c22
  go_enter Tryd.func24, Tryd.ntmps24
  go_upto_region 1 with (fail)
  rw [← HW.out, ← HK.out]
  clear HW HK
  go_wp2_with fail
  refine (HB.out _ _ T0.out.s).mono ?_; rintro r w3 ⟨rfl, s3, t3⟩
  have T2 := Lib.hid (T0.out.call s3 t3)
  clear s3 t3 T0 HB c21
  obtain ⟨⟨z0, z1, z2⟩, f0, f1, f2⟩ := T2.out.r.three
  have FF := Lib.hid (T2.out.stop3 (.int .u8 0) (.int .u32 0) (.int .i64 0))
  go_wp2
  refine bodyPost_ret (v := .agg #[.int .u8 0, .int .u32 0, .int .i64 0]) (res_stop Tryd.results24 _ _ k4 _ _ _ rfl FF.out.r) rfl ⟨rfl, FF.out.s, FF.out.dt⟩
end
end Go.Proofs.YtgdbhmlmioihpaaDoor
