/- What an instruction does that is being done: what it reads, and how it sets D. -/
import Derived.Test.YtgdbhmlmioihpaaDoorX36
import Derived.Test.YtgdbhmlmioihpaaDoorQT
import Derived.BigQuiet
import Derived.Deep.RegionHeld3
set_option linter.unusedVariables false
namespace Go.Proofs.YtgdbhmlmioihpaaDoor
open Go Go.RowKit Go.Maps

section
variable {q b e n k4 : Nat} {c : Cp} {x : Xn} {A : As}

theorem Dr.drew {w0 w : World} (t : Dr w0 q b e n k4 c x A w) : Dr w0 q b e n k4 c x A w.drew := t.below ⟨rfl, rfl, rfl, Nat.le_refl _, fun _ _ => rfl⟩
set_option maxHeartbeats 1000000 in
set_option maxRecDepth 100000 in
theorem place_any (w : World) (s : Do q b e n c x A w) (ha : x.a < 16) : Calls Tryd.prog 66 #[.pointer (some ⟨q, 0, none⟩)] w fun r w' => r = .returned (.int .u32 (adr x c : Int)) ∧ ∃ m, w' = w.drewN m := by
  obtain ⟨c17, c18, c19, c20, c21, c22⟩ := s.six
  have ca := s.reg x.a ha
  have a16 : (x.a : Int) < 16 := by omega
  have hwr : IntKind.u32.wrap (c.r x.a + x.im) = (adr x c : Int) := by rw [u32_mod]; unfold adr; omega
  obtain ⟨X, hX⟩ : ∃ X, X = c.r x.a := ⟨_, rfl⟩
  obtain ⟨a, ha2⟩ : ∃ a, a = x.a := ⟨_, rfl⟩
  obtain ⟨im, him⟩ : ∃ im, im = x.im := ⟨_, rfl⟩
  obtain ⟨AD, hAD⟩ : ∃ AD, AD = adr x c := ⟨_, rfl⟩
  rw [← hX, ← him, ← hAD] at hwr
  rw [← hX, ← ha2] at ca
  rw [← ha2] at c19 a16
  rw [← him] at c21
  rw [← hAD]
  clear hX ha2 him hAD s ha c17 c18 c20 c22
  go_enter Tryd.func66, Tryd.ntmps66
  go_upto_region 1 with (fail)
  go_quiet (fail)
  go_wp2
  go_ret
  exact ⟨rfl, _, rfl⟩

set_option maxHeartbeats 2000000 in
set_option maxRecDepth 100000 in
theorem become_any (w : World) (s : Do q b e n c x A w) (hd : x.d < 16) (v : Int) :
    Calls Tryd.prog 47 #[.pointer (some ⟨q, 0, none⟩), .int .u32 v] w fun r w' => r = .returned (.agg #[.int .u8 0, .int .u32 0, .int .i64 0]) ∧ Do q b e n (setR c x.d v) x A w' ∧ DT w w' b e q := by
  obtain ⟨k4, hk4⟩ : ∃ k4, k4 = w.heap.size := ⟨_, rfl⟩
  obtain ⟨wa, hwa⟩ : ∃ wa, wa = w.alloc (.cells #[.int .u8 0, .int .u32 0, .int .i64 0] 30) := ⟨_, rfl⟩
  have T0 : Hid (Dr w q b e n k4 c x A wa) := Lib.hid (by rw [hk4, hwa]; exact Dr.start s)
  obtain ⟨c17, c18, c19, c20, c21, c22⟩ := T0.out.s.six
  obtain ⟨D, hD⟩ : ∃ D, D = x.d := ⟨_, rfl⟩
  rw [← hD] at c18
  have d16 : (D : Int) < 16 := by omega
  have HP : Hid (∀ w1, Do q b e n c x A w1 → Calls Tryd.prog 17 #[.pointer (some ⟨q, 0, none⟩), .int .u8 (D : Int), .int .u32 v] w1 fun r w' => r = .returned (.tuple #[]) ∧ Do q b e n (setR c D v) x A w' ∧ DT w1 w' b e q) := Lib.hid fun w1 h1 => by
    refine (pset_any q 70 (dcs c x b) D (by omega) v _ (dcs_reg c x b D (by omega)) w1 h1.blk).mono ?_
    rintro r w' ⟨q1, q2, q3⟩
    rw [dcs_pset c x b D (by omega) v] at q2
    exact ⟨q1, h1.grown q3 q2, DT.grown q3 b e⟩
  rw [← hD]
  have HK := Lib.hid hk4
  have HW := Lib.hid hwa
  clear hD hd s hk4 hwa c17 c19 c20 c21 c22
  go_enter Tryd.func47, Tryd.ntmps47
  go_upto_region 1 with (fail)
  rw [← HW.out, ← HK.out]
  clear HW HK
  refine wp_region_quiet_tail 9 (by kernel_rfl) (by kernel_rfl) ?_
  simp only [List.take_succ_cons, List.take_zero, List.drop_succ_cons, List.drop_zero]
  repeat (go_big_quiet_step (fail))
  refine wpQuiet_nil ?_
  intro _ hw'
  obtain ⟨nq, hw''⟩ := hw'
  subst hw''
  have T1 := Lib.hid (T0.out.below (below_drewN _ nq))
  clear T0 c18 d16
  go_wp2_with fail
  refine (HP.out _ T1.out.s).mono ?_; rintro r w1 ⟨rfl, s1, t1⟩
  have T2 := Lib.hid (T1.out.call s1 t1)
  clear s1 t1 T1 HP
  obtain ⟨⟨z0, z1, z2⟩, f0, f1, f2⟩ := T2.out.r.three
  have FF := Lib.hid (T2.out.stop3 (.int .u8 0) (.int .u32 0) (.int .i64 0))
  go_wp2
  refine bodyPost_ret (v := .agg #[.int .u8 0, .int .u32 0, .int .i64 0]) (res_stop Tryd.results47 _ _ k4 _ _ _ rfl FF.out.r) rfl ⟨rfl, FF.out.s, FF.out.dt⟩
end
end Go.Proofs.YtgdbhmlmioihpaaDoor
