/- Some texts of one proof, one behind the other; each has its own head below. -/
import Derived.Test.YtgdbhmlmioihpaaGreatDoorX27
import Derived.Test.YtgdbhmlmioihpaaGreatDoorX21
import Derived.Test.YtgdbhmlmioihpaaGreatDoorX25
import Derived.BigQuiet
/- A step of the document's cpu: OpLi, OpJr, OpSys, jumps and branches. -/
section
set_option linter.unusedVariables false
namespace Go.Proofs.YtgdbhmlmioihpaaGreatDoor
open Go Go.RowKit Go.Maps

set_option maxHeartbeats 4000000 in
set_option maxRecDepth 100000 in
theorem kstep_li {B g h : Nat} {A : As} {c : Cp} (hc : c.Ok) (x : Xn) (hx : x.Ok) (hop : x.op = 32) (S : ByteArray) (P : Nat) (w : World) (s : KS w B g h A c w)
    (hP : c.pc = (P : Int))
    (HG : Hid (∀ w', KS w B g h A c w' → Calls Tryz.prog 33 #[.pointer (some ⟨g, 0, none⟩), .int .u32 (P : Int), .int .i64 8, .int .u8 4] w' fun r w2 => r = .returned (.tuple #[.string S, .int .i64 0]) ∧ Below w'.heap.size w' w2))
    (HD0 : Hid (∀ w', Calls Tryz.prog 35 #[.string S] w' fun r w2 => r = .returned (.tuple #[xv x, .int .i64 0]) ∧ Below w'.heap.size w' w2)) :
    Calls Tryz.prog 10 #[.pointer (some ⟨h, 0, none⟩), .pointer (some ⟨g, 0, none⟩)] w fun r w' => r = .returned (stopV (execO x c A)) ∧ KS w B g h (execO x c A).A (execO x c A).c w' := by
  obtain ⟨OUT, hOUT⟩ : ∃ OUT, OUT = execO x c A := ⟨_, rfl⟩
  have hO := hOUT
  unfold execO at hO
  rw [if_neg (by omega), if_neg (by omega), if_pos hop] at hO
  rw [← hOUT]
  subst hO
  clear hOUT
  obtain ⟨hd, ha, hb⟩ := hx.regs
  have him0 := hx.i0
  have him1 := hx.i1
  have hops := hx.ops
  obtain ⟨op, d, a, b, im⟩ := x
  simp only at hop hd ha hb him0 him1 hops
  have HD : Hid (∀ w', Calls Tryz.prog 35 #[.string S] w' fun r w2 => r = .returned (.tuple #[.agg #[.int .u8 op, .int .u8 (d : Int), .int .u8 (a : Int), .int .u8 (b : Int), .int .u32 im], .int .i64 0]) ∧ Below w'.heap.size w' w2) := Lib.hid HD0.out
  clear HD0
  obtain ⟨NX, hNX⟩ : ∃ NX, NX = nx c := ⟨_, rfl⟩
  have hnx : IntKind.u32.wrap ((P : Int) + 8) = NX := by rw [u32_mod, hNX, ← hP]; rfl
  have hnx0 : 0 ≤ NX := by rw [hNX]; exact nx_lo c
  have hnx1 : NX < 4294967296 := by rw [hNX]; exact nx_hi c
  have hS := s
  have hP2 := hP
  have e42 : True := trivial
  clear e42
  obtain ⟨V, hV⟩ : ∃ V, V = im := ⟨_, rfl⟩
  simp only [ran, stopV]
  rw [← hNX]
  have HPut : Hid (∀ w1, KS w1 B g h A c w1 → Calls Tryz.prog 36 #[.pointer (some ⟨h, 0, none⟩), .int .u8 (d : Int), .int .u32 im] w1 fun r w' => r = .returned (.tuple #[]) ∧ KS w1 B g h A (setR c d im) w') := Lib.hid fun w1 h1 => kput_any d hd im w1 h1
  have HBr : Hid (∀ w1, KAt w1 h (setR c d im) → Calls Tryz.prog 39 #[.pointer (some ⟨h, 0, none⟩), .agg #[.int .u8 op, .int .u8 (d : Int), .int .u8 (a : Int), .int .u8 (b : Int), .int .u32 im]] w1 fun r w' => r = .returned (.bool false) ∧ Below w1.heap.size w1 w') := Lib.hid fun w1 h1 => by
    have := kbranches_any h (setR c d im) op im d a b ha hb w1 h1
    rw [goes_no _ _ _ (by omega)] at this
    exact this
  clear hV ha hb hd
  subst hop
  obtain ⟨wa, hwa⟩ : ∃ wa, wa = w.alloc (.cells #[.int .u8 0, .int .u32 0, .int .i64 0] 39) := ⟨_, rfl⟩
  obtain ⟨k4, hk4⟩ : ∃ k4, k4 = w.heap.size := ⟨_, rfl⟩
  have sa : KS w B g h A c wa := by rw [hwa]; exact hS.alloc _
  have ra : Blk wa k4 39 [.int .u8 0, .int .u32 0, .int .i64 0] := by rw [hwa, hk4]; exact Blk.new _ _ _
  have cp := sa.k.pcc
  rw [hP2] at cp
  have HSA := Lib.hid sa
  have HRA := Lib.hid ra
  have HWA := Lib.hid hwa
  have HK4 := Lib.hid hk4
  have HPc := Lib.hid hP2
  clear s hP hS hP2 sa ra hwa hk4 hc hx hnx0 hnx1 him0 him1 hNX hops
  go_enter Tryz.func10, Tryz.ntmps10
  go_upto_region 1 with (fail)
  rw [← HWA.out, ← HK4.out]
  go_wp2_with fail
  refine (HG.out _ HSA.out).mono ?_; rintro r w2 ⟨rfl, q2⟩
  have HS2 := Lib.hid (HSA.out.below q2)
  have HR2 := Lib.hid (HRA.out.below q2 HRA.out.lt)
  clear q2 HSA HRA cp HWA
  go_wp2_with fail
  refine (HD.out _).mono ?_; rintro r w3 ⟨rfl, q3⟩
  obtain ⟨wi, hwi⟩ : ∃ wi, wi = w3.alloc (.cells #[.int .u8 32, .int .u8 (d : Int), .int .u8 (a : Int), .int .u8 (b : Int), .int .u32 im] 61) := ⟨_, rfl⟩
  obtain ⟨k7, hk7⟩ : ∃ k7, k7 = w3.heap.size := ⟨_, rfl⟩
  have T0 : Hid (KT w B g h A c k4 k7 ⟨32, d, a, b, im⟩ wi) := by
    refine Lib.hid ⟨?_, ?_, ?_, ?_⟩
    · rw [hwi]; exact (HS2.out.below q3).alloc _
    · rw [hwi]; exact Blk.alloc (HR2.out.below q3 HR2.out.lt) _
    · rw [hwi, hk7]; exact Blk.new _ _ _
    · rw [HK4.out]; exact Nat.le_refl _
  have HWI := Lib.hid hwi
  have HK7 := Lib.hid hk7
  clear q3 HS2 HR2 hwi hk7
  go_upto_region 5 with (fail)
  rw [← HWI.out, ← HK7.out]
  clear HWI HK7 HK4
  obtain ⟨c0, c1, c2, c3, c4⟩ := T0.out.five
  have cpc := T0.out.s.k.pcc
  rw [HPc.out] at cpc
  have T1 := T0
  go_wp2_with fail
  refine (HPut.out _ T1.out.s.self).mono ?_; rintro r w4 ⟨rfl, s4⟩
  have T2 := Lib.hid (T1.out.call s4)
  clear s4 T1
  obtain ⟨c0, c1, c2, c3, c4⟩ := T2.out.five
  go_wp2_with fail
  refine (HBr.out _ T2.out.s.k).mono ?_; rintro r w5 ⟨rfl, q5⟩
  have T3 := Lib.hid (T2.out.below q5)
  clear q5 T2 c0 c1 c2 c3 c4
  go_upto_region 28 with (fail)
  have cpc2 := T3.out.s.k.pcc
  have cfz : World.frozen? _ ⟨h, 16, none⟩ = false := Blk.frozen T3.out.s.k 16
  have T9 := Lib.hid (T3.out.setPc NX)
  go_upto_region 29 with (fail)
  obtain ⟨wz, hwz⟩ : ∃ wz, wz = World.setCell w5 ⟨h, 16, none⟩ (.int .u32 NX) := ⟨_, rfl⟩
  rw [← hwz] at T9 ⊢
  clear hwz
  obtain ⟨⟨z0, z1, z2⟩, f0, f1, f2⟩ := T9.out.r.three
  have FF := Lib.hid (T9.out.s.stop3 T9.out.r T9.out.lo (.int .u8 0) (.int .u32 0) (.int .i64 0))
  go_wp2
  refine bodyPost_ret (v := .agg #[.int .u8 0, .int .u32 0, .int .i64 0]) (res_stop Tryz.results10 _ _ k4 _ _ _ rfl FF.out.2) rfl ⟨rfl, FF.out.1⟩

set_option maxHeartbeats 4000000 in
set_option maxRecDepth 100000 in
theorem kstep_jr {B g h : Nat} {A : As} {c : Cp} (hc : c.Ok) (x : Xn) (hx : x.Ok) (hop : x.op = 42) (S : ByteArray) (P : Nat) (w : World) (s : KS w B g h A c w)
    (hP : c.pc = (P : Int))
    (HG : Hid (∀ w', KS w B g h A c w' → Calls Tryz.prog 33 #[.pointer (some ⟨g, 0, none⟩), .int .u32 (P : Int), .int .i64 8, .int .u8 4] w' fun r w2 => r = .returned (.tuple #[.string S, .int .i64 0]) ∧ Below w'.heap.size w' w2))
    (HD0 : Hid (∀ w', Calls Tryz.prog 35 #[.string S] w' fun r w2 => r = .returned (.tuple #[xv x, .int .i64 0]) ∧ Below w'.heap.size w' w2)) :
    Calls Tryz.prog 10 #[.pointer (some ⟨h, 0, none⟩), .pointer (some ⟨g, 0, none⟩)] w fun r w' => r = .returned (stopV (execO x c A)) ∧ KS w B g h (execO x c A).A (execO x c A).c w' := by
  obtain ⟨OUT, hOUT⟩ : ∃ OUT, OUT = execO x c A := ⟨_, rfl⟩
  have hO := hOUT
  unfold execO at hO
  rw [if_neg (by omega), if_neg (by omega), if_neg (by omega), if_neg (by omega), if_neg (by omega), if_pos hop] at hO
  rw [← hOUT]
  subst hO
  clear hOUT
  obtain ⟨hd, ha, hb⟩ := hx.regs
  have him0 := hx.i0
  have him1 := hx.i1
  have hops := hx.ops
  obtain ⟨op, d, a, b, im⟩ := x
  simp only at hop hd ha hb him0 him1 hops
  have HD : Hid (∀ w', Calls Tryz.prog 35 #[.string S] w' fun r w2 => r = .returned (.tuple #[.agg #[.int .u8 op, .int .u8 (d : Int), .int .u8 (a : Int), .int .u8 (b : Int), .int .u32 im], .int .i64 0]) ∧ Below w'.heap.size w' w2) := Lib.hid HD0.out
  clear HD0
  obtain ⟨NX, hNX⟩ : ∃ NX, NX = nx c := ⟨_, rfl⟩
  have hnx : IntKind.u32.wrap ((P : Int) + 8) = NX := by rw [u32_mod, hNX, ← hP]; rfl
  have hnx0 : 0 ≤ NX := by rw [hNX]; exact nx_lo c
  have hnx1 : NX < 4294967296 := by rw [hNX]; exact nx_hi c
  have hS := s
  have hP2 := hP
  simp only [ran, stopV]
  obtain ⟨X, hX⟩ : ∃ X, X = c.r a := ⟨_, rfl⟩
  rw [← hX]
  have a16 : (a : Int) < 16 := by omega
  have HA : Hid (∀ w1, KAt w1 h c → w1.cell? ⟨h, a, none⟩ = some (.int .u32 X)) := Lib.hid fun w1 h1 => by rw [hX]; exact h1.reg a ha
  clear hX ha hb hd hnx
  subst hop
  obtain ⟨wa, hwa⟩ : ∃ wa, wa = w.alloc (.cells #[.int .u8 0, .int .u32 0, .int .i64 0] 39) := ⟨_, rfl⟩
  obtain ⟨k4, hk4⟩ : ∃ k4, k4 = w.heap.size := ⟨_, rfl⟩
  have sa : KS w B g h A c wa := by rw [hwa]; exact hS.alloc _
  have ra : Blk wa k4 39 [.int .u8 0, .int .u32 0, .int .i64 0] := by rw [hwa, hk4]; exact Blk.new _ _ _
  have cp := sa.k.pcc
  rw [hP2] at cp
  have HSA := Lib.hid sa
  have HRA := Lib.hid ra
  have HWA := Lib.hid hwa
  have HK4 := Lib.hid hk4
  have HPc := Lib.hid hP2
  clear s hP hS hP2 sa ra hwa hk4 hc hx hnx0 hnx1 him0 him1 hNX hops
  go_enter Tryz.func10, Tryz.ntmps10
  go_upto_region 1 with (fail)
  rw [← HWA.out, ← HK4.out]
  go_wp2_with fail
  refine (HG.out _ HSA.out).mono ?_; rintro r w2 ⟨rfl, q2⟩
  have HS2 := Lib.hid (HSA.out.below q2)
  have HR2 := Lib.hid (HRA.out.below q2 HRA.out.lt)
  clear q2 HSA HRA cp HWA
  go_wp2_with fail
  refine (HD.out _).mono ?_; rintro r w3 ⟨rfl, q3⟩
  obtain ⟨wi, hwi⟩ : ∃ wi, wi = w3.alloc (.cells #[.int .u8 42, .int .u8 (d : Int), .int .u8 (a : Int), .int .u8 (b : Int), .int .u32 im] 61) := ⟨_, rfl⟩
  obtain ⟨k7, hk7⟩ : ∃ k7, k7 = w3.heap.size := ⟨_, rfl⟩
  have T0 : Hid (KT w B g h A c k4 k7 ⟨42, d, a, b, im⟩ wi) := by
    refine Lib.hid ⟨?_, ?_, ?_, ?_⟩
    · rw [hwi]; exact (HS2.out.below q3).alloc _
    · rw [hwi]; exact Blk.alloc (HR2.out.below q3 HR2.out.lt) _
    · rw [hwi, hk7]; exact Blk.new _ _ _
    · rw [HK4.out]; exact Nat.le_refl _
  have HWI := Lib.hid hwi
  have HK7 := Lib.hid hk7
  clear q3 HS2 HR2 hwi hk7
  go_upto_region 5 with (fail)
  rw [← HWI.out, ← HK7.out]
  clear HWI HK7 HK4
  obtain ⟨c0, c1, c2, c3, c4⟩ := T0.out.five
  have cpc := T0.out.s.k.pcc
  rw [HPc.out] at cpc
  have ca := HA.out _ T0.out.s.k
  go_upto_region 19 with (fail)
  refine wp_region_quiet_tail 10 (by kernel_rfl) (by kernel_rfl) ?_
  simp only [List.take_succ_cons, List.take_zero, List.drop_succ_cons, List.drop_zero]
  repeat (go_big_quiet_step (fail))
  refine wpQuiet_nil ?_
  intro _ hw'
  obtain ⟨nq, hw''⟩ := hw'
  subst hw''
  have T1 := Lib.hid (T0.out.below (below_drewN _ nq))
  clear T0 c0 c1 c2 c3 c4 cpc
  clear ca HA a16
  have cpc2 := T1.out.s.k.pcc
  have cfz : World.frozen? _ ⟨h, 16, none⟩ = false := Blk.frozen T1.out.s.k 16
  have T9 := Lib.hid (T1.out.setPc X)
  go_upto_region 20 with (fail)
  obtain ⟨wz, hwz⟩ : ∃ wz, wz = World.setCell (wi.drewN nq) ⟨h, 16, none⟩ (.int .u32 X) := ⟨_, rfl⟩
  rw [← hwz] at T9 ⊢
  clear hwz
  obtain ⟨⟨z0, z1, z2⟩, f0, f1, f2⟩ := T9.out.r.three
  have FF := Lib.hid (T9.out.s.stop3 T9.out.r T9.out.lo (.int .u8 0) (.int .u32 0) (.int .i64 0))
  go_wp2
  refine bodyPost_ret (v := .agg #[.int .u8 0, .int .u32 0, .int .i64 0]) (res_stop Tryz.results10 _ _ k4 _ _ _ rfl FF.out.2) rfl ⟨rfl, FF.out.1⟩

set_option maxHeartbeats 4000000 in
set_option maxRecDepth 100000 in
theorem kstep_sys {B g h : Nat} {A : As} {c : Cp} (hc : c.Ok) (x : Xn) (hx : x.Ok) (hop : x.op = 50) (S : ByteArray) (P : Nat) (w : World) (s : KS w B g h A c w)
    (hP : c.pc = (P : Int))
    (HG : Hid (∀ w', KS w B g h A c w' → Calls Tryz.prog 33 #[.pointer (some ⟨g, 0, none⟩), .int .u32 (P : Int), .int .i64 8, .int .u8 4] w' fun r w2 => r = .returned (.tuple #[.string S, .int .i64 0]) ∧ Below w'.heap.size w' w2))
    (HD0 : Hid (∀ w', Calls Tryz.prog 35 #[.string S] w' fun r w2 => r = .returned (.tuple #[xv x, .int .i64 0]) ∧ Below w'.heap.size w' w2)) :
    Calls Tryz.prog 10 #[.pointer (some ⟨h, 0, none⟩), .pointer (some ⟨g, 0, none⟩)] w fun r w' => r = .returned (stopV (execO x c A)) ∧ KS w B g h (execO x c A).A (execO x c A).c w' := by
  obtain ⟨OUT, hOUT⟩ : ∃ OUT, OUT = execO x c A := ⟨_, rfl⟩
  have hO := hOUT
  unfold execO at hO
  rw [if_neg (by omega), if_neg (by omega), if_neg (by omega), if_neg (by omega), if_neg (by omega), if_neg (by omega), if_pos hop] at hO
  rw [← hOUT]
  subst hO
  clear hOUT
  obtain ⟨hd, ha, hb⟩ := hx.regs
  have him0 := hx.i0
  have him1 := hx.i1
  have hops := hx.ops
  obtain ⟨op, d, a, b, im⟩ := x
  simp only at hop hd ha hb him0 him1 hops
  have HD : Hid (∀ w', Calls Tryz.prog 35 #[.string S] w' fun r w2 => r = .returned (.tuple #[.agg #[.int .u8 op, .int .u8 (d : Int), .int .u8 (a : Int), .int .u8 (b : Int), .int .u32 im], .int .i64 0]) ∧ Below w'.heap.size w' w2) := Lib.hid HD0.out
  clear HD0
  obtain ⟨NX, hNX⟩ : ∃ NX, NX = nx c := ⟨_, rfl⟩
  have hnx : IntKind.u32.wrap ((P : Int) + 8) = NX := by rw [u32_mod, hNX, ← hP]; rfl
  have hnx0 : 0 ≤ NX := by rw [hNX]; exact nx_lo c
  have hnx1 : NX < 4294967296 := by rw [hNX]; exact nx_hi c
  have hS := s
  have hP2 := hP
  simp only [stopV]
  rw [← hNX]
  clear ha hb hd
  subst hop
  obtain ⟨wa, hwa⟩ : ∃ wa, wa = w.alloc (.cells #[.int .u8 0, .int .u32 0, .int .i64 0] 39) := ⟨_, rfl⟩
  obtain ⟨k4, hk4⟩ : ∃ k4, k4 = w.heap.size := ⟨_, rfl⟩
  have sa : KS w B g h A c wa := by rw [hwa]; exact hS.alloc _
  have ra : Blk wa k4 39 [.int .u8 0, .int .u32 0, .int .i64 0] := by rw [hwa, hk4]; exact Blk.new _ _ _
  have cp := sa.k.pcc
  rw [hP2] at cp
  have HSA := Lib.hid sa
  have HRA := Lib.hid ra
  have HWA := Lib.hid hwa
  have HK4 := Lib.hid hk4
  have HPc := Lib.hid hP2
  clear s hP hS hP2 sa ra hwa hk4 hc hx hnx0 hnx1 him0 him1 hNX hops
  go_enter Tryz.func10, Tryz.ntmps10
  go_upto_region 1 with (fail)
  rw [← HWA.out, ← HK4.out]
  go_wp2_with fail
  refine (HG.out _ HSA.out).mono ?_; rintro r w2 ⟨rfl, q2⟩
  have HS2 := Lib.hid (HSA.out.below q2)
  have HR2 := Lib.hid (HRA.out.below q2 HRA.out.lt)
  clear q2 HSA HRA cp HWA
  go_wp2_with fail
  refine (HD.out _).mono ?_; rintro r w3 ⟨rfl, q3⟩
  obtain ⟨wi, hwi⟩ : ∃ wi, wi = w3.alloc (.cells #[.int .u8 50, .int .u8 (d : Int), .int .u8 (a : Int), .int .u8 (b : Int), .int .u32 im] 61) := ⟨_, rfl⟩
  obtain ⟨k7, hk7⟩ : ∃ k7, k7 = w3.heap.size := ⟨_, rfl⟩
  have T0 : Hid (KT w B g h A c k4 k7 ⟨50, d, a, b, im⟩ wi) := by
    refine Lib.hid ⟨?_, ?_, ?_, ?_⟩
    · rw [hwi]; exact (HS2.out.below q3).alloc _
    · rw [hwi]; exact Blk.alloc (HR2.out.below q3 HR2.out.lt) _
    · rw [hwi, hk7]; exact Blk.new _ _ _
    · rw [HK4.out]; exact Nat.le_refl _
  have HWI := Lib.hid hwi
  have HK7 := Lib.hid hk7
  clear q3 HS2 HR2 hwi hk7
  go_upto_region 5 with (fail)
  rw [← HWI.out, ← HK7.out]
  clear HWI HK7 HK4
  obtain ⟨c0, c1, c2, c3, c4⟩ := T0.out.five
  have cpc := T0.out.s.k.pcc
  rw [HPc.out] at cpc
  go_upto_region 22 with (fail)
  have cfz : World.frozen? _ ⟨h, 16, none⟩ = false := Blk.frozen T0.out.s.k 16
  have T9 := Lib.hid (T0.out.setPc NX)
  go_upto_region 23 with (fail)
  obtain ⟨wz, hwz⟩ : ∃ wz, wz = World.setCell wi ⟨h, 16, none⟩ (.int .u32 NX) := ⟨_, rfl⟩
  rw [← hwz] at T9 ⊢
  clear hwz c0 c1 c2 c3 c4 cpc cfz T0
  obtain ⟨_, _, _, _, c4⟩ := T9.out.five
  obtain ⟨⟨z0, z1, z2⟩, f0, f1, f2⟩ := T9.out.r.three
  have FF := Lib.hid (T9.out.s.stop3 T9.out.r T9.out.lo (.int .u8 1) (.int .u32 im) (.int .i64 0))
  go_wp2
  refine bodyPost_ret (v := .agg #[.int .u8 1, .int .u32 im, .int .i64 0]) (res_stop Tryz.results10 _ _ k4 _ _ _ rfl FF.out.2) rfl ⟨rfl, FF.out.1⟩

set_option maxHeartbeats 4000000 in
set_option maxRecDepth 100000 in
theorem kstep_brno {B g h : Nat} {A : As} {c : Cp} (hc : c.Ok) (x : Xn) (hx : x.Ok) (hop : ¬ x.op ≤ 36 ∧ x.op ≠ 42 ∧ x.op ≠ 50) (hgo : goes x.op (c.r x.a) (c.r x.b) = false) (S : ByteArray) (P : Nat) (w : World) (s : KS w B g h A c w)
    (hP : c.pc = (P : Int))
    (HG : Hid (∀ w', KS w B g h A c w' → Calls Tryz.prog 33 #[.pointer (some ⟨g, 0, none⟩), .int .u32 (P : Int), .int .i64 8, .int .u8 4] w' fun r w2 => r = .returned (.tuple #[.string S, .int .i64 0]) ∧ Below w'.heap.size w' w2))
    (HD0 : Hid (∀ w', Calls Tryz.prog 35 #[.string S] w' fun r w2 => r = .returned (.tuple #[xv x, .int .i64 0]) ∧ Below w'.heap.size w' w2)) :
    Calls Tryz.prog 10 #[.pointer (some ⟨h, 0, none⟩), .pointer (some ⟨g, 0, none⟩)] w fun r w' => r = .returned (stopV (execO x c A)) ∧ KS w B g h (execO x c A).A (execO x c A).c w' := by
  obtain ⟨OUT, hOUT⟩ : ∃ OUT, OUT = execO x c A := ⟨_, rfl⟩
  have hO := hOUT
  unfold execO at hO
  rw [if_neg (by omega), if_neg (by omega), if_neg (by omega), if_neg (by omega), if_neg (by omega), if_neg (by omega), if_neg (by omega), if_neg (by rw [hgo]; decide)] at hO
  rw [← hOUT]
  subst hO
  clear hOUT
  obtain ⟨hd, ha, hb⟩ := hx.regs
  have him0 := hx.i0
  have him1 := hx.i1
  have hops := hx.ops
  obtain ⟨op, d, a, b, im⟩ := x
  simp only at hop hd ha hb him0 him1 hops
  have HD : Hid (∀ w', Calls Tryz.prog 35 #[.string S] w' fun r w2 => r = .returned (.tuple #[.agg #[.int .u8 op, .int .u8 (d : Int), .int .u8 (a : Int), .int .u8 (b : Int), .int .u32 im], .int .i64 0]) ∧ Below w'.heap.size w' w2) := Lib.hid HD0.out
  clear HD0
  obtain ⟨NX, hNX⟩ : ∃ NX, NX = nx c := ⟨_, rfl⟩
  have hnx : IntKind.u32.wrap ((P : Int) + 8) = NX := by rw [u32_mod, hNX, ← hP]; rfl
  have hnx0 : 0 ≤ NX := by rw [hNX]; exact nx_lo c
  have hnx1 : NX < 4294967296 := by rw [hNX]; exact nx_hi c
  have hS := s
  have hP2 := hP
  simp only [ran, stopV]
  rw [← hNX]
  simp only at hgo
  have HBr : Hid (∀ w1, KAt w1 h c → Calls Tryz.prog 39 #[.pointer (some ⟨h, 0, none⟩), .agg #[.int .u8 op, .int .u8 (d : Int), .int .u8 (a : Int), .int .u8 (b : Int), .int .u32 im]] w1 fun r w' => r = .returned (.bool false) ∧ Below w1.heap.size w1 w') := Lib.hid fun w1 h1 => by
    have := kbranches_any h c op im d a b ha hb w1 h1
    rw [hgo] at this
    exact this
  have l14 : ¬ op ≤ 14 := by omega
  have l30 : ¬ op ≤ 30 := by omega
  have e32 : (op == 32) = false := by rw [beq_eq_false_iff_ne]; omega
  have l36 : ¬ op ≤ 36 := by omega
  have e42 : (op == 42) = false := by rw [beq_eq_false_iff_ne]; omega
  have e50 : (op == 50) = false := by rw [beq_eq_false_iff_ne]; omega
  clear ha hb hd hop hgo
  obtain ⟨wa, hwa⟩ : ∃ wa, wa = w.alloc (.cells #[.int .u8 0, .int .u32 0, .int .i64 0] 39) := ⟨_, rfl⟩
  obtain ⟨k4, hk4⟩ : ∃ k4, k4 = w.heap.size := ⟨_, rfl⟩
  have sa : KS w B g h A c wa := by rw [hwa]; exact hS.alloc _
  have ra : Blk wa k4 39 [.int .u8 0, .int .u32 0, .int .i64 0] := by rw [hwa, hk4]; exact Blk.new _ _ _
  have cp := sa.k.pcc
  rw [hP2] at cp
  have HSA := Lib.hid sa
  have HRA := Lib.hid ra
  have HWA := Lib.hid hwa
  have HK4 := Lib.hid hk4
  have HPc := Lib.hid hP2
  clear s hP hS hP2 sa ra hwa hk4 hc hx hnx0 hnx1 him0 him1 hNX hops
  go_enter Tryz.func10, Tryz.ntmps10
  go_upto_region 1 with (fail)
  rw [← HWA.out, ← HK4.out]
  go_wp2_with fail
  refine (HG.out _ HSA.out).mono ?_; rintro r w2 ⟨rfl, q2⟩
  have HS2 := Lib.hid (HSA.out.below q2)
  have HR2 := Lib.hid (HRA.out.below q2 HRA.out.lt)
  clear q2 HSA HRA cp HWA
  go_wp2_with fail
  refine (HD.out _).mono ?_; rintro r w3 ⟨rfl, q3⟩
  obtain ⟨wi, hwi⟩ : ∃ wi, wi = w3.alloc (.cells #[.int .u8 op, .int .u8 (d : Int), .int .u8 (a : Int), .int .u8 (b : Int), .int .u32 im] 61) := ⟨_, rfl⟩
  obtain ⟨k7, hk7⟩ : ∃ k7, k7 = w3.heap.size := ⟨_, rfl⟩
  have T0 : Hid (KT w B g h A c k4 k7 ⟨op, d, a, b, im⟩ wi) := by
    refine Lib.hid ⟨?_, ?_, ?_, ?_⟩
    · rw [hwi]; exact (HS2.out.below q3).alloc _
    · rw [hwi]; exact Blk.alloc (HR2.out.below q3 HR2.out.lt) _
    · rw [hwi, hk7]; exact Blk.new _ _ _
    · rw [HK4.out]; exact Nat.le_refl _
  have HWI := Lib.hid hwi
  have HK7 := Lib.hid hk7
  clear q3 HS2 HR2 hwi hk7
  go_upto_region 5 with (fail)
  rw [← HWI.out, ← HK7.out]
  clear HWI HK7 HK4
  obtain ⟨c0, c1, c2, c3, c4⟩ := T0.out.five
  have cpc := T0.out.s.k.pcc
  rw [HPc.out] at cpc
  have T2 := T0
  clear T0
  go_wp2_with fail
  refine (HBr.out _ T2.out.s.k).mono ?_; rintro r w5 ⟨rfl, q5⟩
  have T3 := Lib.hid (T2.out.below q5)
  clear q5 T2 c0 c1 c2 c3 c4
  go_upto_region 28 with (fail)
  have cpc2 := T3.out.s.k.pcc
  have cfz : World.frozen? _ ⟨h, 16, none⟩ = false := Blk.frozen T3.out.s.k 16
  have T9 := Lib.hid (T3.out.setPc NX)
  go_upto_region 29 with (fail)
  obtain ⟨wz, hwz⟩ : ∃ wz, wz = World.setCell w5 ⟨h, 16, none⟩ (.int .u32 NX) := ⟨_, rfl⟩
  rw [← hwz] at T9 ⊢
  clear hwz
  obtain ⟨⟨z0, z1, z2⟩, f0, f1, f2⟩ := T9.out.r.three
  have FF := Lib.hid (T9.out.s.stop3 T9.out.r T9.out.lo (.int .u8 0) (.int .u32 0) (.int .i64 0))
  go_wp2
  refine bodyPost_ret (v := .agg #[.int .u8 0, .int .u32 0, .int .i64 0]) (res_stop Tryz.results10 _ _ k4 _ _ _ rfl FF.out.2) rfl ⟨rfl, FF.out.1⟩

set_option maxHeartbeats 4000000 in
set_option maxRecDepth 100000 in
theorem kstep_bryes {B g h : Nat} {A : As} {c : Cp} (hc : c.Ok) (x : Xn) (hx : x.Ok) (hop : ¬ x.op ≤ 36 ∧ x.op ≠ 42 ∧ x.op ≠ 50) (hgo : goes x.op (c.r x.a) (c.r x.b) = true) (h41 : x.op ≠ 41) (S : ByteArray) (P : Nat) (w : World) (s : KS w B g h A c w)
    (hP : c.pc = (P : Int))
    (HG : Hid (∀ w', KS w B g h A c w' → Calls Tryz.prog 33 #[.pointer (some ⟨g, 0, none⟩), .int .u32 (P : Int), .int .i64 8, .int .u8 4] w' fun r w2 => r = .returned (.tuple #[.string S, .int .i64 0]) ∧ Below w'.heap.size w' w2))
    (HD0 : Hid (∀ w', Calls Tryz.prog 35 #[.string S] w' fun r w2 => r = .returned (.tuple #[xv x, .int .i64 0]) ∧ Below w'.heap.size w' w2)) :
    Calls Tryz.prog 10 #[.pointer (some ⟨h, 0, none⟩), .pointer (some ⟨g, 0, none⟩)] w fun r w' => r = .returned (stopV (execO x c A)) ∧ KS w B g h (execO x c A).A (execO x c A).c w' := by
  obtain ⟨OUT, hOUT⟩ : ∃ OUT, OUT = execO x c A := ⟨_, rfl⟩
  have hO := hOUT
  unfold execO at hO
  rw [if_neg (by omega), if_neg (by omega), if_neg (by omega), if_neg (by omega), if_neg (by omega), if_neg (by omega), if_neg (by omega), if_pos hgo, if_neg h41] at hO
  rw [← hOUT]
  subst hO
  clear hOUT
  obtain ⟨hd, ha, hb⟩ := hx.regs
  have him0 := hx.i0
  have him1 := hx.i1
  have hops := hx.ops
  obtain ⟨op, d, a, b, im⟩ := x
  simp only at hop hd ha hb him0 him1 hops
  have HD : Hid (∀ w', Calls Tryz.prog 35 #[.string S] w' fun r w2 => r = .returned (.tuple #[.agg #[.int .u8 op, .int .u8 (d : Int), .int .u8 (a : Int), .int .u8 (b : Int), .int .u32 im], .int .i64 0]) ∧ Below w'.heap.size w' w2) := Lib.hid HD0.out
  clear HD0
  obtain ⟨NX, hNX⟩ : ∃ NX, NX = nx c := ⟨_, rfl⟩
  have hnx : IntKind.u32.wrap ((P : Int) + 8) = NX := by rw [u32_mod, hNX, ← hP]; rfl
  have hnx0 : 0 ≤ NX := by rw [hNX]; exact nx_lo c
  have hnx1 : NX < 4294967296 := by rw [hNX]; exact nx_hi c
  have hS := s
  have hP2 := hP
  simp only [ran, stopV]
  simp only at hgo h41
  have HBr : Hid (∀ w1, KAt w1 h c → Calls Tryz.prog 39 #[.pointer (some ⟨h, 0, none⟩), .agg #[.int .u8 op, .int .u8 (d : Int), .int .u8 (a : Int), .int .u8 (b : Int), .int .u32 im]] w1 fun r w' => r = .returned (.bool true) ∧ Below w1.heap.size w1 w') := Lib.hid fun w1 h1 => by
    have := kbranches_any h c op im d a b ha hb w1 h1
    rw [hgo] at this
    exact this
  have l14 : ¬ op ≤ 14 := by omega
  have l30 : ¬ op ≤ 30 := by omega
  have e32 : (op == 32) = false := by rw [beq_eq_false_iff_ne]; omega
  have l36 : ¬ op ≤ 36 := by omega
  have e42 : (op == 42) = false := by rw [beq_eq_false_iff_ne]; omega
  have e50 : (op == 50) = false := by rw [beq_eq_false_iff_ne]; omega
  have e41 : (op == 41) = false := by rw [beq_eq_false_iff_ne]; omega
  clear ha hb hd hop hgo h41
  obtain ⟨wa, hwa⟩ : ∃ wa, wa = w.alloc (.cells #[.int .u8 0, .int .u32 0, .int .i64 0] 39) := ⟨_, rfl⟩
  obtain ⟨k4, hk4⟩ : ∃ k4, k4 = w.heap.size := ⟨_, rfl⟩
  have sa : KS w B g h A c wa := by rw [hwa]; exact hS.alloc _
  have ra : Blk wa k4 39 [.int .u8 0, .int .u32 0, .int .i64 0] := by rw [hwa, hk4]; exact Blk.new _ _ _
  have cp := sa.k.pcc
  rw [hP2] at cp
  have HSA := Lib.hid sa
  have HRA := Lib.hid ra
  have HWA := Lib.hid hwa
  have HK4 := Lib.hid hk4
  have HPc := Lib.hid hP2
  clear s hP hS hP2 sa ra hwa hk4 hc hx hnx0 hnx1 him0 him1 hNX hops
  go_enter Tryz.func10, Tryz.ntmps10
  go_upto_region 1 with (fail)
  rw [← HWA.out, ← HK4.out]
  go_wp2_with fail
  refine (HG.out _ HSA.out).mono ?_; rintro r w2 ⟨rfl, q2⟩
  have HS2 := Lib.hid (HSA.out.below q2)
  have HR2 := Lib.hid (HRA.out.below q2 HRA.out.lt)
  clear q2 HSA HRA cp HWA
  go_wp2_with fail
  refine (HD.out _).mono ?_; rintro r w3 ⟨rfl, q3⟩
  obtain ⟨wi, hwi⟩ : ∃ wi, wi = w3.alloc (.cells #[.int .u8 op, .int .u8 (d : Int), .int .u8 (a : Int), .int .u8 (b : Int), .int .u32 im] 61) := ⟨_, rfl⟩
  obtain ⟨k7, hk7⟩ : ∃ k7, k7 = w3.heap.size := ⟨_, rfl⟩
  have T0 : Hid (KT w B g h A c k4 k7 ⟨op, d, a, b, im⟩ wi) := by
    refine Lib.hid ⟨?_, ?_, ?_, ?_⟩
    · rw [hwi]; exact (HS2.out.below q3).alloc _
    · rw [hwi]; exact Blk.alloc (HR2.out.below q3 HR2.out.lt) _
    · rw [hwi, hk7]; exact Blk.new _ _ _
    · rw [HK4.out]; exact Nat.le_refl _
  have HWI := Lib.hid hwi
  have HK7 := Lib.hid hk7
  clear q3 HS2 HR2 hwi hk7
  go_upto_region 5 with (fail)
  rw [← HWI.out, ← HK7.out]
  clear HWI HK7 HK4
  obtain ⟨c0, c1, c2, c3, c4⟩ := T0.out.five
  have cpc := T0.out.s.k.pcc
  rw [HPc.out] at cpc
  go_wp2_with fail
  refine (HBr.out _ T0.out.s.k).mono ?_; rintro r w5 ⟨rfl, q5⟩
  have T3 := Lib.hid (T0.out.below q5)
  clear q5 T0 c0 c1 c2 c3 c4 cpc
  obtain ⟨c0, c1, c2, c3, c4⟩ := T3.out.five
  go_upto_region 28 with (fail)
  have cpc2 := T3.out.s.k.pcc
  have cfz : World.frozen? _ ⟨h, 16, none⟩ = false := Blk.frozen T3.out.s.k 16
  have T9 := Lib.hid (T3.out.setPc im)
  go_upto_region 29 with (fail)
  obtain ⟨wz, hwz⟩ : ∃ wz, wz = World.setCell w5 ⟨h, 16, none⟩ (.int .u32 im) := ⟨_, rfl⟩
  rw [← hwz] at T9 ⊢
  clear hwz
  obtain ⟨⟨z0, z1, z2⟩, f0, f1, f2⟩ := T9.out.r.three
  have FF := Lib.hid (T9.out.s.stop3 T9.out.r T9.out.lo (.int .u8 0) (.int .u32 0) (.int .i64 0))
  go_wp2
  refine bodyPost_ret (v := .agg #[.int .u8 0, .int .u32 0, .int .i64 0]) (res_stop Tryz.results10 _ _ k4 _ _ _ rfl FF.out.2) rfl ⟨rfl, FF.out.1⟩

set_option maxHeartbeats 4000000 in
set_option maxRecDepth 100000 in
theorem kstep_jal {B g h : Nat} {A : As} {c : Cp} (hc : c.Ok) (x : Xn) (hx : x.Ok) (hop : ¬ x.op ≤ 36 ∧ x.op ≠ 42 ∧ x.op ≠ 50) (hgo : goes x.op (c.r x.a) (c.r x.b) = true) (h41 : x.op = 41) (S : ByteArray) (P : Nat) (w : World) (s : KS w B g h A c w)
    (hP : c.pc = (P : Int))
    (HG : Hid (∀ w', KS w B g h A c w' → Calls Tryz.prog 33 #[.pointer (some ⟨g, 0, none⟩), .int .u32 (P : Int), .int .i64 8, .int .u8 4] w' fun r w2 => r = .returned (.tuple #[.string S, .int .i64 0]) ∧ Below w'.heap.size w' w2))
    (HD0 : Hid (∀ w', Calls Tryz.prog 35 #[.string S] w' fun r w2 => r = .returned (.tuple #[xv x, .int .i64 0]) ∧ Below w'.heap.size w' w2)) :
    Calls Tryz.prog 10 #[.pointer (some ⟨h, 0, none⟩), .pointer (some ⟨g, 0, none⟩)] w fun r w' => r = .returned (stopV (execO x c A)) ∧ KS w B g h (execO x c A).A (execO x c A).c w' := by
  obtain ⟨OUT, hOUT⟩ : ∃ OUT, OUT = execO x c A := ⟨_, rfl⟩
  have hO := hOUT
  unfold execO at hO
  rw [if_neg (by omega), if_neg (by omega), if_neg (by omega), if_neg (by omega), if_neg (by omega), if_neg (by omega), if_neg (by omega), if_pos hgo, if_pos h41] at hO
  rw [← hOUT]
  subst hO
  clear hOUT
  obtain ⟨hd, ha, hb⟩ := hx.regs
  have him0 := hx.i0
  have him1 := hx.i1
  have hops := hx.ops
  obtain ⟨op, d, a, b, im⟩ := x
  simp only at hop hd ha hb him0 him1 hops
  have HD : Hid (∀ w', Calls Tryz.prog 35 #[.string S] w' fun r w2 => r = .returned (.tuple #[.agg #[.int .u8 op, .int .u8 (d : Int), .int .u8 (a : Int), .int .u8 (b : Int), .int .u32 im], .int .i64 0]) ∧ Below w'.heap.size w' w2) := Lib.hid HD0.out
  clear HD0
  obtain ⟨NX, hNX⟩ : ∃ NX, NX = nx c := ⟨_, rfl⟩
  have hnx : IntKind.u32.wrap ((P : Int) + 8) = NX := by rw [u32_mod, hNX, ← hP]; rfl
  have hnx0 : 0 ≤ NX := by rw [hNX]; exact nx_lo c
  have hnx1 : NX < 4294967296 := by rw [hNX]; exact nx_hi c
  have hS := s
  have hP2 := hP
  simp only [ran, stopV]
  rw [← hNX]
  simp only at hgo h41
  have HBr : Hid (∀ w1, KAt w1 h c → Calls Tryz.prog 39 #[.pointer (some ⟨h, 0, none⟩), .agg #[.int .u8 op, .int .u8 (d : Int), .int .u8 (a : Int), .int .u8 (b : Int), .int .u32 im]] w1 fun r w' => r = .returned (.bool true) ∧ Below w1.heap.size w1 w') := Lib.hid fun w1 h1 => by
    have := kbranches_any h c op im d a b ha hb w1 h1
    rw [hgo] at this
    exact this
  have HPut : Hid (∀ w1, KS w1 B g h A c w1 → Calls Tryz.prog 36 #[.pointer (some ⟨h, 0, none⟩), .int .u8 (d : Int), .int .u32 NX] w1 fun r w' => r = .returned (.tuple #[]) ∧ KS w1 B g h A (setR c d NX) w') := Lib.hid fun w1 h1 => kput_any d hd NX w1 h1
  clear ha hb hd hop hgo
  subst h41
  obtain ⟨wa, hwa⟩ : ∃ wa, wa = w.alloc (.cells #[.int .u8 0, .int .u32 0, .int .i64 0] 39) := ⟨_, rfl⟩
  obtain ⟨k4, hk4⟩ : ∃ k4, k4 = w.heap.size := ⟨_, rfl⟩
  have sa : KS w B g h A c wa := by rw [hwa]; exact hS.alloc _
  have ra : Blk wa k4 39 [.int .u8 0, .int .u32 0, .int .i64 0] := by rw [hwa, hk4]; exact Blk.new _ _ _
  have cp := sa.k.pcc
  rw [hP2] at cp
  have HSA := Lib.hid sa
  have HRA := Lib.hid ra
  have HWA := Lib.hid hwa
  have HK4 := Lib.hid hk4
  have HPc := Lib.hid hP2
  clear s hP hS hP2 sa ra hwa hk4 hc hx hnx0 hnx1 him0 him1 hNX hops
  go_enter Tryz.func10, Tryz.ntmps10
  go_upto_region 1 with (fail)
  rw [← HWA.out, ← HK4.out]
  go_wp2_with fail
  refine (HG.out _ HSA.out).mono ?_; rintro r w2 ⟨rfl, q2⟩
  have HS2 := Lib.hid (HSA.out.below q2)
  have HR2 := Lib.hid (HRA.out.below q2 HRA.out.lt)
  clear q2 HSA HRA cp HWA
  go_wp2_with fail
  refine (HD.out _).mono ?_; rintro r w3 ⟨rfl, q3⟩
  obtain ⟨wi, hwi⟩ : ∃ wi, wi = w3.alloc (.cells #[.int .u8 41, .int .u8 (d : Int), .int .u8 (a : Int), .int .u8 (b : Int), .int .u32 im] 61) := ⟨_, rfl⟩
  obtain ⟨k7, hk7⟩ : ∃ k7, k7 = w3.heap.size := ⟨_, rfl⟩
  have T0 : Hid (KT w B g h A c k4 k7 ⟨41, d, a, b, im⟩ wi) := by
    refine Lib.hid ⟨?_, ?_, ?_, ?_⟩
    · rw [hwi]; exact (HS2.out.below q3).alloc _
    · rw [hwi]; exact Blk.alloc (HR2.out.below q3 HR2.out.lt) _
    · rw [hwi, hk7]; exact Blk.new _ _ _
    · rw [HK4.out]; exact Nat.le_refl _
  have HWI := Lib.hid hwi
  have HK7 := Lib.hid hk7
  clear q3 HS2 HR2 hwi hk7
  go_upto_region 5 with (fail)
  rw [← HWI.out, ← HK7.out]
  clear HWI HK7 HK4
  obtain ⟨c0, c1, c2, c3, c4⟩ := T0.out.five
  have cpc := T0.out.s.k.pcc
  rw [HPc.out] at cpc
  go_wp2_with fail
  refine (HBr.out _ T0.out.s.k).mono ?_; rintro r w5 ⟨rfl, q5⟩
  have T1 := Lib.hid (T0.out.below q5)
  clear q5 T0 c0 c1 c2 c3 c4 cpc
  obtain ⟨c0, c1, c2, c3, c4⟩ := T1.out.five
  go_wp2_with fail
  refine (HPut.out _ T1.out.s.self).mono ?_; rintro r w4 ⟨rfl, s4⟩
  have T2 := Lib.hid (T1.out.call s4)
  clear s4 T1
  clear c0 c1 c2 c3 c4
  obtain ⟨c0, c1, c2, c3, c4⟩ := T2.out.five
  go_upto_region 28 with (fail)
  have cpc2 := T2.out.s.k.pcc
  have cfz : World.frozen? _ ⟨h, 16, none⟩ = false := Blk.frozen T2.out.s.k 16
  have T9 := Lib.hid (T2.out.setPc im)
  go_upto_region 29 with (fail)
  obtain ⟨wz, hwz⟩ : ∃ wz, wz = World.setCell w4 ⟨h, 16, none⟩ (.int .u32 im) := ⟨_, rfl⟩
  rw [← hwz] at T9 ⊢
  clear hwz
  obtain ⟨⟨z0, z1, z2⟩, f0, f1, f2⟩ := T9.out.r.three
  have FF := Lib.hid (T9.out.s.stop3 T9.out.r T9.out.lo (.int .u8 0) (.int .u32 0) (.int .i64 0))
  go_wp2
  refine bodyPost_ret (v := .agg #[.int .u8 0, .int .u32 0, .int .i64 0]) (res_stop Tryz.results10 _ _ k4 _ _ _ rfl FF.out.2) rfl ⟨rfl, FF.out.1⟩
end Go.Proofs.YtgdbhmlmioihpaaGreatDoor
end

/- A step of the document's cpu, whatever lies at its pc. -/
section
set_option linter.unusedVariables false
namespace Go.Proofs.YtgdbhmlmioihpaaGreatDoor
open Go Go.RowKit Go.Maps

set_option maxHeartbeats 4000000 in
set_option maxRecDepth 100000 in
theorem kstep_fetch {B g h : Nat} {A : As} {c : Cp} (S : ByteArray) (P : Nat) (w : World) (s : KS w B g h A c w) (hP : c.pc = (P : Int))
    (HG : Hid (∀ w', KS w B g h A c w' → Calls Tryz.prog 33 #[.pointer (some ⟨g, 0, none⟩), .int .u32 (P : Int), .int .i64 8, .int .u8 4] w' fun r w2 => r = .returned (.tuple #[.string S, .int .i64 50]) ∧ Below w'.heap.size w' w2)) :
    Calls Tryz.prog 10 #[.pointer (some ⟨h, 0, none⟩), .pointer (some ⟨g, 0, none⟩)] w fun r w' => r = .returned (stopV (flt 50 c A)) ∧ KS w B g h A c w' := by
  simp only [flt, stopV]
  obtain ⟨wa, hwa⟩ : ∃ wa, wa = w.alloc (.cells #[.int .u8 0, .int .u32 0, .int .i64 0] 39) := ⟨_, rfl⟩
  obtain ⟨k4, hk4⟩ : ∃ k4, k4 = w.heap.size := ⟨_, rfl⟩
  have sa : KS w B g h A c wa := by rw [hwa]; exact s.alloc _
  have ra : Blk wa k4 39 [.int .u8 0, .int .u32 0, .int .i64 0] := by rw [hwa, hk4]; exact Blk.new _ _ _
  have cp := sa.k.pcc
  rw [hP] at cp
  have HSA := Lib.hid sa
  have HRA := Lib.hid ra
  have HWA := Lib.hid hwa
  have HK4 := Lib.hid hk4
  clear s hP sa ra hwa hk4
  go_enter Tryz.func10, Tryz.ntmps10
  go_upto_region 1 with (fail)
  rw [← HWA.out, ← HK4.out]
  go_wp2_with fail
  refine (HG.out _ HSA.out).mono ?_; rintro r w2 ⟨rfl, q2⟩
  have HS2 := Lib.hid (HSA.out.below q2)
  have HR2 := Lib.hid (HRA.out.below q2 HRA.out.lt)
  clear q2 HSA HRA cp HWA
  go_wp2_with fail
  refine (kfault_any 50 _).mono ?_; rintro r w5 ⟨rfl, q5⟩
  have HS5 := Lib.hid (HS2.out.below q5)
  have HR5 := Lib.hid (HR2.out.below q5 HR2.out.lt)
  clear q5 HS2 HR2
  obtain ⟨⟨z0, z1, z2⟩, f0, f1, f2⟩ := HR5.out.three
  have FF := Lib.hid (HS5.out.stop3 HR5.out (by rw [HK4.out]; exact Nat.le_refl _) (.int .u8 2) (.int .u32 0) (.int .i64 50))
  go_wp2
  refine bodyPost_ret (v := .agg #[.int .u8 2, .int .u32 0, .int .i64 50]) (res_stop Tryz.results10 _ _ k4 _ _ _ rfl FF.out.2) rfl ⟨rfl, FF.out.1⟩

set_option maxHeartbeats 4000000 in
set_option maxRecDepth 100000 in
theorem kstep_form {B g h : Nat} {A : As} {c : Cp} (S : ByteArray) (P : Nat) (w : World) (s : KS w B g h A c w) (hP : c.pc = (P : Int))
    (HG : Hid (∀ w', KS w B g h A c w' → Calls Tryz.prog 33 #[.pointer (some ⟨g, 0, none⟩), .int .u32 (P : Int), .int .i64 8, .int .u8 4] w' fun r w2 => r = .returned (.tuple #[.string S, .int .i64 0]) ∧ Below w'.heap.size w' w2))
    (HD : Hid (∀ w', Calls Tryz.prog 35 #[.string S] w' fun r w2 => r = .returned (.tuple #[.agg #[.int .u8 0, .int .u8 0, .int .u8 0, .int .u8 0, .int .u32 0], .int .i64 7]) ∧ Below w'.heap.size w' w2)) :
    Calls Tryz.prog 10 #[.pointer (some ⟨h, 0, none⟩), .pointer (some ⟨g, 0, none⟩)] w fun r w' => r = .returned (stopV (flt 7 c A)) ∧ KS w B g h A c w' := by
  simp only [flt, stopV]
  obtain ⟨wa, hwa⟩ : ∃ wa, wa = w.alloc (.cells #[.int .u8 0, .int .u32 0, .int .i64 0] 39) := ⟨_, rfl⟩
  obtain ⟨k4, hk4⟩ : ∃ k4, k4 = w.heap.size := ⟨_, rfl⟩
  have sa : KS w B g h A c wa := by rw [hwa]; exact s.alloc _
  have ra : Blk wa k4 39 [.int .u8 0, .int .u32 0, .int .i64 0] := by rw [hwa, hk4]; exact Blk.new _ _ _
  have cp := sa.k.pcc
  rw [hP] at cp
  have HSA := Lib.hid sa
  have HRA := Lib.hid ra
  have HWA := Lib.hid hwa
  have HK4 := Lib.hid hk4
  clear s hP sa ra hwa hk4
  go_enter Tryz.func10, Tryz.ntmps10
  go_upto_region 1 with (fail)
  rw [← HWA.out, ← HK4.out]
  go_wp2_with fail
  refine (HG.out _ HSA.out).mono ?_; rintro r w2 ⟨rfl, q2⟩
  have HS2 := Lib.hid (HSA.out.below q2)
  have HR2 := Lib.hid (HRA.out.below q2 HRA.out.lt)
  clear q2 HSA HRA cp HWA
  go_wp2_with fail
  refine (HD.out _).mono ?_; rintro r w3 ⟨rfl, q3⟩
  have HS3 := Lib.hid (HS2.out.below q3)
  have HR3 := Lib.hid (HR2.out.below q3 HR2.out.lt)
  clear q3 HS2 HR2
  go_upto_region 5 with (fail)
  have HS4 := Lib.hid (HS3.out.alloc (.cells #[.int .u8 0, .int .u8 0, .int .u8 0, .int .u8 0, .int .u32 0] 61))
  have HR4 := Lib.hid (Blk.alloc HR3.out (.cells #[.int .u8 0, .int .u8 0, .int .u8 0, .int .u8 0, .int .u32 0] 61))
  clear HS3 HR3
  go_wp2_with fail
  refine (kfault_any 7 _).mono ?_; rintro r w5 ⟨rfl, q5⟩
  have HS5 := Lib.hid (HS4.out.below q5)
  have HR5 := Lib.hid (HR4.out.below q5 HR4.out.lt)
  clear q5 HS4 HR4
  obtain ⟨⟨z0, z1, z2⟩, f0, f1, f2⟩ := HR5.out.three
  have FF := Lib.hid (HS5.out.stop3 HR5.out (by rw [HK4.out]; exact Nat.le_refl _) (.int .u8 2) (.int .u32 0) (.int .i64 7))
  go_wp2
  refine bodyPost_ret (v := .agg #[.int .u8 2, .int .u32 0, .int .i64 7]) (res_stop Tryz.results10 _ _ k4 _ _ _ rfl FF.out.2) rfl ⟨rfl, FF.out.1⟩

theorem decV_in {S : ByteArray} (h : I.Ix.decOk (I.bt S) = true) : I.decV S = xv (inOf (I.bt S)) := by
  rw [I.decV_yes S h]
  have d0 : 0 ≤ I.Ix.dD (I.bt S) := by unfold I.Ix.dD; have := I.Ix.byteAt_lo (I.bt S) 1; omega
  have a0 : 0 ≤ I.Ix.dA (I.bt S) := by unfold I.Ix.dA; have := I.Ix.byteAt_lo (I.bt S) 1; omega
  have b0 : 0 ≤ I.Ix.dB (I.bt S) := I.Ix.byteAt_lo (I.bt S) 2
  unfold xv inOf
  simp only
  rw [Int.toNat_of_nonneg d0, Int.toNat_of_nonneg a0, Int.toNat_of_nonneg b0]
  rfl

/-- A step. -/
theorem kstep_any {B g h : Nat} {A : As} {c : Cp} (hc : c.Ok) (w : World) (s : KS w B g h A c w) :
    Calls Tryz.prog 10 #[.pointer (some ⟨h, 0, none⟩), .pointer (some ⟨g, 0, none⟩)] w fun r w' => r = .returned (stopV (stepO c A)) ∧ KS w B g h (stepO c A).A (stepO c A).c w' := by
  have hP : c.pc = (c.pc.toNat : Int) := (Int.toNat_of_nonneg hc.plo).symm
  have hPl : c.pc.toNat < 4294967296 := by have := hc.phi; have := hc.plo; omega
  have HG : ∀ w', KS w B g h A c w' → Calls Tryz.prog 33 #[.pointer (some ⟨g, 0, none⟩), .int .u32 (c.pc.toNat : Int), .int .i64 8, .int .u8 4] w' fun r w2 => r = .returned (.tuple #[.string (getS A 4 c.pc.toNat 8), .int .i64 (getE A 4 c.pc.toNat 8)]) ∧ Below w'.heap.size w' w2 :=
    fun w' h' => rget_any B g A c.pc.toNat 8 4 hPl (by decide) w' h'.rf
  rcases getE_two A 4 c.pc.toNat 8 (by decide) with hE | hE
  · have hE' : getE A 4 c.pc.toNat 8 = 0 := hE
    rw [hE'] at HG
    unfold stepO
    rw [if_pos hE']
    by_cases hd : I.Ix.decOk (I.bt (getS A 4 c.pc.toNat 8)) = true
    · rw [if_pos hd]
      have hx := inOf_ok hd
      have HD : Hid (∀ w', Calls Tryz.prog 35 #[.string (getS A 4 c.pc.toNat 8)] w' fun r w2 => r = .returned (.tuple #[xv (inOf (I.bt (getS A 4 c.pc.toNat 8))), .int .i64 0]) ∧ Below w'.heap.size w' w2) := Lib.hid fun w' => by
        have := I.rdecode_any (getS A 4 c.pc.toNat 8) w'
        rw [decV_in hd, I.decE_yes _ hd] at this
        exact this
      obtain ⟨x, hxx⟩ : ∃ x, x = inOf (I.bt (getS A 4 c.pc.toNat 8)) := ⟨_, rfl⟩
      rw [← hxx] at hx HD ⊢
      have ho := hx.ops
      by_cases h1 : x.op ≤ 14
      · exact kstep_alu hc x hx h1 _ _ w s hP (Lib.hid HG) HD
      by_cases h2 : x.op ≤ 30
      · exact kstep_alui hc x hx ⟨h1, h2⟩ _ _ w s hP (Lib.hid HG) HD
      by_cases h3 : x.op = 32
      · exact kstep_li hc x hx h3 _ _ w s hP (Lib.hid HG) HD
      by_cases h4 : x.op ≤ 34
      · have hop : (x.op = 33 ∧ memN x.op = 1) ∨ (x.op = 34 ∧ memN x.op = 4) := by unfold memN; by_cases h5 : x.op = 34 <;> simp [h5] <;> omega
        rcases getE_two A 1 (adr x c) (memN x.op) (by unfold memN; split <;> decide) with hE | hE
        · exact kstep_load0 hc x hx hop hE _ _ w s hP (Lib.hid HG) HD
        · exact kstep_load1 hc x hx hop hE _ _ w s hP (Lib.hid HG) HD
      by_cases h5 : x.op ≤ 36
      · have hop : (x.op = 35 ∧ memN x.op = 1) ∨ (x.op = 36 ∧ memN x.op = 4) := by unfold memN; by_cases h5 : x.op = 36 <;> simp [h5] <;> omega
        rcases putE_two A 2 (adr x c) (memT x c) with hE | hE
        · exact kstep_store0 hc x hx hop hE _ _ w s hP (Lib.hid HG) HD
        · exact kstep_store1 hc x hx hop hE _ _ w s hP (Lib.hid HG) HD
      by_cases h6 : x.op = 42
      · exact kstep_jr hc x hx h6 _ _ w s hP (Lib.hid HG) HD
      by_cases h7 : x.op = 50
      · exact kstep_sys hc x hx h7 _ _ w s hP (Lib.hid HG) HD
      by_cases hgo : goes x.op (c.r x.a) (c.r x.b) = true
      · by_cases h41 : x.op = 41
        · exact kstep_jal hc x hx ⟨h5, h6, h7⟩ hgo h41 _ _ w s hP (Lib.hid HG) HD
        · exact kstep_bryes hc x hx ⟨h5, h6, h7⟩ hgo h41 _ _ w s hP (Lib.hid HG) HD
      · exact kstep_brno hc x hx ⟨h5, h6, h7⟩ (by simpa using hgo) _ _ w s hP (Lib.hid HG) HD
    · have hd' : I.Ix.decOk (I.bt (getS A 4 c.pc.toNat 8)) = false := by simpa using hd
      rw [if_neg hd]
      refine kstep_form _ _ w s hP (Lib.hid HG) (Lib.hid fun w' => ?_)
      have := I.rdecode_any (getS A 4 c.pc.toNat 8) w'
      rw [I.decV_no _ hd', I.decE_no _ hd'] at this
      exact this
  · have hE' : getE A 4 c.pc.toNat 8 = 50 := hE
    rw [hE'] at HG
    unfold stepO
    rw [if_neg (by rw [hE']; decide)]
    exact kstep_fetch _ _ w s hP (Lib.hid HG)
end Go.Proofs.YtgdbhmlmioihpaaGreatDoor
end
