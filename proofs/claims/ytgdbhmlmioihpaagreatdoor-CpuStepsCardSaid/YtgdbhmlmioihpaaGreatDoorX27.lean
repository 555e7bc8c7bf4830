/- Some texts of one proof, one behind the other; each has its own head below. -/
import Derived.Test.YtgdbhmlmioihpaaGreatDoorX26
import Derived.Test.YtgdbhmlmioihpaaGreatDoorX21
import Derived.Laws.Tables
import Derived.Laws.Rows
import Derived.BigQuiet
/- What a step of the document's cpu keeps beside it: the stop that it answers, and the instruction. -/
section
set_option linter.unusedVariables false
namespace Go.Proofs.YtgdbhmlmioihpaaGreatDoor
open Go Go.RowKit Go.Maps

def xcs (x : Xn) : List Value := [.int .u8 x.op, .int .u8 (x.d : Int), .int .u8 (x.a : Int), .int .u8 (x.b : Int), .int .u32 x.im]
structure KT (w0 : World) (B g h : Nat) (A : As) (c : Cp) (k4 k7 : Nat) (x : Xn) (w : World) : Prop where
  s : KS w0 B g h A c w
  r : Blk w k4 39 [.int .u8 0, .int .u32 0, .int .i64 0]
  i : Blk w k7 61 (xcs x)
  lo : w0.heap.size ≤ k4
section
variable {w0 w w' : World} {B g h k4 k7 : Nat} {A A2 : As} {c c2 : Cp} {x : Xn}
theorem KS.self (t : KS w0 B g h A c w) : KS w B g h A c w := ⟨t.rf, t.k, t.bh, FT.refl _ _⟩
theorem KS.join (t : KS w0 B g h A c w) (s : KS w B g h A2 c2 w') : KS w0 B g h A2 c2 w' := ⟨s.rf, s.k, s.bh, t.turn.trans s.turn⟩
theorem KT.call (t : KT w0 B g h A c k4 k7 x w) (s : KS w B g h A2 c2 w') : KT w0 B g h A2 c2 k4 k7 x w' :=
  ⟨t.s.join s, s.turn.keep t.r (by decide) (by decide) (by decide), s.turn.keep t.i (by decide) (by decide) (by decide), t.lo⟩
theorem KT.below (t : KT w0 B g h A c k4 k7 x w) (hb : Below w.heap.size w w') : KT w0 B g h A c k4 k7 x w' := t.call (t.s.self.below hb)
theorem KT.setPc (t : KT w0 B g h A c k4 k7 x w) (p : Int) : KT w0 B g h A (setPc c p) k4 k7 x (w.setCell ⟨h, 16, none⟩ (.int .u32 p)) := t.call (t.s.self.setPc p)
theorem KS.far (t : KS w0 B g h A c w) (hr : ∃ cs, Blk w k4 39 cs) (hlo : w0.heap.size ≤ k4) (i : Nat) (v : Value) : KS w0 B g h A c (w.setCell ⟨k4, i, none⟩ v) := by
  obtain ⟨os, hr⟩ := hr
  have hfar : ∀ j t ds, Blk w j t ds → t ≠ 39 → Blk (w.setCell ⟨k4, i, none⟩ v) j t ds := fun j t ds hb ht => hb.far (p := ⟨k4, i, none⟩) (hb.ne hr ht) _
  obtain ⟨a, cp, L, hrf⟩ := t.rf
  refine ⟨⟨a, cp, L, hrf.same fun j t ds h1 h2 => hfar j t ds h1 (by rcases h2 with rfl | rfl | rfl | rfl <;> decide)⟩, hfar _ _ _ t.k (by decide), t.bh, ⟨t.turn.os, t.turn.tape, t.turn.output, by simpa using t.turn.size, fun j hj hc => ?_⟩⟩
  rw [Below.heap_setCell w ⟨k4, i, none⟩ v j (show j ≠ k4 by omega)]
  exact t.turn.block j hj hc
/-- A stop is laid into its three cells. -/
theorem KS.stop3 {z0 z1 z2 : Value} (t : KS w0 B g h A c w) (hr : Blk w k4 39 [z0, z1, z2]) (hlo : w0.heap.size ≤ k4) (y0 y1 y2 : Value) :
    KS w0 B g h A c (((w.setCell ⟨k4, 0, none⟩ y0).setCell ⟨k4, 1, none⟩ y1).setCell ⟨k4, 2, none⟩ y2) ∧ Blk (((w.setCell ⟨k4, 0, none⟩ y0).setCell ⟨k4, 1, none⟩ y1).setCell ⟨k4, 2, none⟩ y2) k4 39 [y0, y1, y2] := by
  have b0 := hr.set_ 0 y0
  have b1 := b0.set_ 1 y1
  have b2 := b1.set_ 2 y2
  exact ⟨((t.far ⟨_, hr⟩ hlo 0 y0).far ⟨_, b0⟩ hlo 1 y1).far ⟨_, b1⟩ hlo 2 y2, b2⟩
theorem KT.five (t : KT w0 B g h A c k4 k7 x w) : w.cell? ⟨k7, 0, none⟩ = some (.int .u8 x.op) ∧ w.cell? ⟨k7, 1, none⟩ = some (.int .u8 (x.d : Int)) ∧ w.cell? ⟨k7, 2, none⟩ = some (.int .u8 (x.a : Int)) ∧ w.cell? ⟨k7, 3, none⟩ = some (.int .u8 (x.b : Int)) ∧ w.cell? ⟨k7, 4, none⟩ = some (.int .u32 x.im) := by
  refine ⟨?_, ?_, ?_, ?_, ?_⟩ <;> (rw [t.i.cell]; rfl)
theorem infoStop : (Tryz.prog.info? 39).map (·.size) = some 3 := by kernel_rfl
/-- What a function hands back out of a variable that holds a stop. -/
theorem res_stop {fn : Func} {p : Tmp} (h : fn.results = #[.cell p 39]) (tmps : Array Value) (w : World) (k : Nat) (a b d : Value) (hp : tmps.getD p undef = .pointer (some ⟨k, 0, none⟩)) (hb : Blk w k 39 [a, b, d]) :
    (results fn tmps).run Tryz.prog w = .ok (.agg #[a, b, d]) w :=
  results_cell_row h tmps w k 39 _ (0, 0) _ hp hb Tryz.underlying39 rfl infoStop
end
end Go.Proofs.YtgdbhmlmioihpaaGreatDoor
end

/- A step of the document's cpu: functions of two registers, or of one and a number. -/
section
set_option linter.unusedVariables false
namespace Go.Proofs.YtgdbhmlmioihpaaGreatDoor
open Go Go.RowKit Go.Maps

set_option maxHeartbeats 4000000 in
set_option maxRecDepth 100000 in
theorem kstep_alu {B g h : Nat} {A : As} {c : Cp} (hc : c.Ok) (x : Xn) (hx : x.Ok) (hop : x.op ≤ 14) (S : ByteArray) (P : Nat) (w : World) (s : KS w B g h A c w)
    (hP : c.pc = (P : Int))
    (HG : Hid (∀ w', KS w B g h A c w' → Calls Tryz.prog 33 #[.pointer (some ⟨g, 0, none⟩), .int .u32 (P : Int), .int .i64 8, .int .u8 4] w' fun r w2 => r = .returned (.tuple #[.string S, .int .i64 0]) ∧ Below w'.heap.size w' w2))
    (HD0 : Hid (∀ w', Calls Tryz.prog 35 #[.string S] w' fun r w2 => r = .returned (.tuple #[xv x, .int .i64 0]) ∧ Below w'.heap.size w' w2)) :
    Calls Tryz.prog 10 #[.pointer (some ⟨h, 0, none⟩), .pointer (some ⟨g, 0, none⟩)] w fun r w' => r = .returned (stopV (execO x c A)) ∧ KS w B g h (execO x c A).A (execO x c A).c w' := by
  obtain ⟨OUT, hOUT⟩ : ∃ OUT, OUT = execO x c A := ⟨_, rfl⟩
  have hO := hOUT
  unfold execO at hO
  rw [if_pos hop] at hO
  rw [← hOUT]
  subst hO
  clear hOUT
  obtain ⟨hd, ha, hb⟩ := hx.regs
  have him0 := hx.i0
  have him1 := hx.i1
  have hops := hx.ops
  obtain ⟨op, d, a, b, im⟩ := x
  simp only at hop hd ha hb him0 him1 hops
  have HD : Hid (∀ w', Calls Tryz.prog 35 #[.string S] w' fun r w2 => r = .returned (.tuple #[.agg #[.int .u8 op, .int .u8 (d : Int), .int .u8 (a : Int), .int .u8 (b : Int), .int .u32 im], .int .i64 0]) ∧ Below w'.heap.size w' w2) := Lib.hid HD0.out
  clear HD0
  obtain ⟨NX, hNX⟩ : ∃ NX, NX = nx c := ⟨_, rfl⟩
  have hnx : IntKind.u32.wrap ((P : Int) + 8) = NX := by rw [u32_mod, hNX, ← hP]; rfl
  have hnx0 : 0 ≤ NX := by rw [hNX]; exact nx_lo c
  have hnx1 : NX < 4294967296 := by rw [hNX]; exact nx_hi c
  have hS := s
  have hP2 := hP
  have HK : Hid (∀ w1, Calls Tryz.prog 37 #[.int .u8 op, .int .u32 (c.r a), .int .u32 (c.r b)] w1 fun e w' => e = .returned (.int .u32 (O.opI op (c.r a) (c.r b))) ∧ w' = w1) := Lib.hid fun w1 => kop_any op (c.r a) (c.r b) (by omega) hop (hc.lo _) (hc.hi _) (hc.lo _) (hc.hi _) w1
  obtain ⟨V, hV⟩ : ∃ V, V = O.opI op (c.r a) (c.r b) := ⟨_, rfl⟩
  simp only [ran, stopV]
  rw [← hV] at HK ⊢
  rw [← hNX]
  have HPut : Hid (∀ w1, KS w1 B g h A c w1 → Calls Tryz.prog 36 #[.pointer (some ⟨h, 0, none⟩), .int .u8 (d : Int), .int .u32 V] w1 fun r w' => r = .returned (.tuple #[]) ∧ KS w1 B g h A (setR c d V) w') := Lib.hid fun w1 h1 => kput_any d hd V w1 h1
  have HBr : Hid (∀ w1, KAt w1 h (setR c d V) → Calls Tryz.prog 39 #[.pointer (some ⟨h, 0, none⟩), .agg #[.int .u8 op, .int .u8 (d : Int), .int .u8 (a : Int), .int .u8 (b : Int), .int .u32 im]] w1 fun r w' => r = .returned (.bool false) ∧ Below w1.heap.size w1 w') := Lib.hid fun w1 h1 => by
    have := kbranches_any h (setR c d V) op im d a b ha hb w1 h1
    rw [goes_no _ _ _ (by omega)] at this
    exact this
  obtain ⟨X, hX⟩ : ∃ X, X = c.r a := ⟨_, rfl⟩
  obtain ⟨Y, hY⟩ : ∃ Y, Y = c.r b := ⟨_, rfl⟩
  rw [← hX, ← hY] at HK
  have a16 : (a : Int) < 16 := by omega
  have b16 : (b : Int) < 16 := by omega
  have HA : Hid (∀ w1, KAt w1 h c → w1.cell? ⟨h, a, none⟩ = some (.int .u32 X) ∧ w1.cell? ⟨h, b, none⟩ = some (.int .u32 Y)) := Lib.hid fun w1 h1 => ⟨by rw [hX]; exact h1.reg a ha, by rw [hY]; exact h1.reg b hb⟩
  clear hV hX hY ha hb hd
  obtain ⟨wa, hwa⟩ : ∃ wa, wa = w.alloc (.cells #[.int .u8 0, .int .u32 0, .int .i64 0] 39) := ⟨_, rfl⟩
  obtain ⟨k4, hk4⟩ : ∃ k4, k4 = w.heap.size := ⟨_, rfl⟩
  have sa : KS w B g h A c wa := by rw [hwa]; exact hS.alloc _
  have ra : Blk wa k4 39 [.int .u8 0, .int .u32 0, .int .i64 0] := by rw [hwa, hk4]; exact Blk.new _ _ _
  have cp := sa.k.pcc
  rw [hP2] at cp
  have HSA := Lib.hid sa
  have HRA := Lib.hid ra
  have HWA := Lib.hid hwa
  have HK4 := Lib.hid hk4
  have HPc := Lib.hid hP2
  clear s hP hS hP2 sa ra hwa hk4 hc hx hnx0 hnx1 him0 him1 hNX hops
  go_enter Tryz.func10, Tryz.ntmps10
  go_upto_region 1 with (fail)
  rw [← HWA.out, ← HK4.out]
  go_wp2_with fail
  refine (HG.out _ HSA.out).mono ?_; rintro r w2 ⟨rfl, q2⟩
  have HS2 := Lib.hid (HSA.out.below q2)
  have HR2 := Lib.hid (HRA.out.below q2 HRA.out.lt)
  clear q2 HSA HRA cp HWA
  go_wp2_with fail
  refine (HD.out _).mono ?_; rintro r w3 ⟨rfl, q3⟩
  obtain ⟨wi, hwi⟩ : ∃ wi, wi = w3.alloc (.cells #[.int .u8 op, .int .u8 (d : Int), .int .u8 (a : Int), .int .u8 (b : Int), .int .u32 im] 61) := ⟨_, rfl⟩
  obtain ⟨k7, hk7⟩ : ∃ k7, k7 = w3.heap.size := ⟨_, rfl⟩
  have T0 : Hid (KT w B g h A c k4 k7 ⟨op, d, a, b, im⟩ wi) := by
    refine Lib.hid ⟨?_, ?_, ?_, ?_⟩
    · rw [hwi]; exact (HS2.out.below q3).alloc _
    · rw [hwi]; exact Blk.alloc (HR2.out.below q3 HR2.out.lt) _
    · rw [hwi, hk7]; exact Blk.new _ _ _
    · rw [HK4.out]; exact Nat.le_refl _
  have HWI := Lib.hid hwi
  have HK7 := Lib.hid hk7
  clear q3 HS2 HR2 hwi hk7
  go_upto_region 5 with (fail)
  rw [← HWI.out, ← HK7.out]
  clear HWI HK7 HK4
  obtain ⟨c0, c1, c2, c3, c4⟩ := T0.out.five
  have cpc := T0.out.s.k.pcc
  rw [HPc.out] at cpc
  obtain ⟨ca, cb⟩ := HA.out _ T0.out.s.k
  go_upto_region 9 with (fail)
  refine wp_region_quiet_tail 20 (by kernel_rfl) (by kernel_rfl) ?_
  simp only [List.take_succ_cons, List.take_zero, List.drop_succ_cons, List.drop_zero]
  repeat (go_big_quiet_step ((go_at_call 37; exact Calls.quiet_of_same (HK.out _))))
  refine wpQuiet_nil ?_
  intro _ hw'
  obtain ⟨nq, hw''⟩ := hw'
  subst hw''
  have T1 := Lib.hid (T0.out.below (below_drewN _ nq))
  clear T0 c0 c1 c2 c3 c4 cpc
  clear ca cb HA HK a16 b16
  go_wp2_with fail
  refine (HPut.out _ T1.out.s.self).mono ?_; rintro r w4 ⟨rfl, s4⟩
  have T2 := Lib.hid (T1.out.call s4)
  clear s4 T1
  obtain ⟨c0, c1, c2, c3, c4⟩ := T2.out.five
  go_wp2_with fail
  refine (HBr.out _ T2.out.s.k).mono ?_; rintro r w5 ⟨rfl, q5⟩
  have T3 := Lib.hid (T2.out.below q5)
  clear q5 T2 c0 c1 c2 c3 c4
  go_upto_region 28 with (fail)
  have cpc2 := T3.out.s.k.pcc
  have cfz : World.frozen? _ ⟨h, 16, none⟩ = false := Blk.frozen T3.out.s.k 16
  have T9 := Lib.hid (T3.out.setPc NX)
  go_upto_region 29 with (fail)
  obtain ⟨wz, hwz⟩ : ∃ wz, wz = World.setCell w5 ⟨h, 16, none⟩ (.int .u32 NX) := ⟨_, rfl⟩
  rw [← hwz] at T9 ⊢
  clear hwz
  obtain ⟨⟨z0, z1, z2⟩, f0, f1, f2⟩ := T9.out.r.three
  have FF := Lib.hid (T9.out.s.stop3 T9.out.r T9.out.lo (.int .u8 0) (.int .u32 0) (.int .i64 0))
  go_wp2
  refine bodyPost_ret (v := .agg #[.int .u8 0, .int .u32 0, .int .i64 0]) (res_stop Tryz.results10 _ _ k4 _ _ _ rfl FF.out.2) rfl ⟨rfl, FF.out.1⟩

set_option maxHeartbeats 4000000 in
set_option maxRecDepth 100000 in
theorem kstep_alui {B g h : Nat} {A : As} {c : Cp} (hc : c.Ok) (x : Xn) (hx : x.Ok) (hop : ¬ x.op ≤ 14 ∧ x.op ≤ 30) (S : ByteArray) (P : Nat) (w : World) (s : KS w B g h A c w)
    (hP : c.pc = (P : Int))
    (HG : Hid (∀ w', KS w B g h A c w' → Calls Tryz.prog 33 #[.pointer (some ⟨g, 0, none⟩), .int .u32 (P : Int), .int .i64 8, .int .u8 4] w' fun r w2 => r = .returned (.tuple #[.string S, .int .i64 0]) ∧ Below w'.heap.size w' w2))
    (HD0 : Hid (∀ w', Calls Tryz.prog 35 #[.string S] w' fun r w2 => r = .returned (.tuple #[xv x, .int .i64 0]) ∧ Below w'.heap.size w' w2)) :
    Calls Tryz.prog 10 #[.pointer (some ⟨h, 0, none⟩), .pointer (some ⟨g, 0, none⟩)] w fun r w' => r = .returned (stopV (execO x c A)) ∧ KS w B g h (execO x c A).A (execO x c A).c w' := by
  obtain ⟨OUT, hOUT⟩ : ∃ OUT, OUT = execO x c A := ⟨_, rfl⟩
  have hO := hOUT
  unfold execO at hO
  rw [if_neg hop.1, if_pos hop.2] at hO
  rw [← hOUT]
  subst hO
  clear hOUT
  obtain ⟨hd, ha, hb⟩ := hx.regs
  have him0 := hx.i0
  have him1 := hx.i1
  have hops := hx.ops
  obtain ⟨op, d, a, b, im⟩ := x
  simp only at hop hd ha hb him0 him1 hops
  have HD : Hid (∀ w', Calls Tryz.prog 35 #[.string S] w' fun r w2 => r = .returned (.tuple #[.agg #[.int .u8 op, .int .u8 (d : Int), .int .u8 (a : Int), .int .u8 (b : Int), .int .u32 im], .int .i64 0]) ∧ Below w'.heap.size w' w2) := Lib.hid HD0.out
  clear HD0
  obtain ⟨NX, hNX⟩ : ∃ NX, NX = nx c := ⟨_, rfl⟩
  have hnx : IntKind.u32.wrap ((P : Int) + 8) = NX := by rw [u32_mod, hNX, ← hP]; rfl
  have hnx0 : 0 ≤ NX := by rw [hNX]; exact nx_lo c
  have hnx1 : NX < 4294967296 := by rw [hNX]; exact nx_hi c
  have hS := s
  have hP2 := hP
  have HK : Hid (∀ w1, Calls Tryz.prog 37 #[.int .u8 (op - 16), .int .u32 (c.r a), .int .u32 im] w1 fun e w' => e = .returned (.int .u32 (O.opI (op - 16) (c.r a) im)) ∧ w' = w1) := Lib.hid fun w1 => kop_any (op - 16) (c.r a) im (by omega) (by omega) (hc.lo _) (hc.hi _) him0 him1 w1
  obtain ⟨V, hV⟩ : ∃ V, V = O.opI (op - 16) (c.r a) im := ⟨_, rfl⟩
  obtain ⟨op2, hop2⟩ : ∃ op2, op2 = op - 16 := ⟨_, rfl⟩
  have hw8 : IntKind.u8.wrap (op - 16) = op2 := by rw [IntKind.wrap_u8]; omega
  simp only [ran, stopV]
  rw [← hV] at HK ⊢
  rw [← hop2] at HK
  rw [← hNX]
  have HPut : Hid (∀ w1, KS w1 B g h A c w1 → Calls Tryz.prog 36 #[.pointer (some ⟨h, 0, none⟩), .int .u8 (d : Int), .int .u32 V] w1 fun r w' => r = .returned (.tuple #[]) ∧ KS w1 B g h A (setR c d V) w') := Lib.hid fun w1 h1 => kput_any d hd V w1 h1
  have HBr : Hid (∀ w1, KAt w1 h (setR c d V) → Calls Tryz.prog 39 #[.pointer (some ⟨h, 0, none⟩), .agg #[.int .u8 op, .int .u8 (d : Int), .int .u8 (a : Int), .int .u8 (b : Int), .int .u32 im]] w1 fun r w' => r = .returned (.bool false) ∧ Below w1.heap.size w1 w') := Lib.hid fun w1 h1 => by
    have := kbranches_any h (setR c d V) op im d a b ha hb w1 h1
    rw [goes_no _ _ _ (by omega)] at this
    exact this
  obtain ⟨X, hX⟩ : ∃ X, X = c.r a := ⟨_, rfl⟩
  rw [← hX] at HK
  have a16 : (a : Int) < 16 := by omega
  have HA : Hid (∀ w1, KAt w1 h c → w1.cell? ⟨h, a, none⟩ = some (.int .u32 X)) := Lib.hid fun w1 h1 => by rw [hX]; exact h1.reg a ha
  obtain ⟨hop14, hop30⟩ := hop
  clear hV hX ha hb hd hop2
  obtain ⟨wa, hwa⟩ : ∃ wa, wa = w.alloc (.cells #[.int .u8 0, .int .u32 0, .int .i64 0] 39) := ⟨_, rfl⟩
  obtain ⟨k4, hk4⟩ : ∃ k4, k4 = w.heap.size := ⟨_, rfl⟩
  have sa : KS w B g h A c wa := by rw [hwa]; exact hS.alloc _
  have ra : Blk wa k4 39 [.int .u8 0, .int .u32 0, .int .i64 0] := by rw [hwa, hk4]; exact Blk.new _ _ _
  have cp := sa.k.pcc
  rw [hP2] at cp
  have HSA := Lib.hid sa
  have HRA := Lib.hid ra
  have HWA := Lib.hid hwa
  have HK4 := Lib.hid hk4
  have HPc := Lib.hid hP2
  clear s hP hS hP2 sa ra hwa hk4 hc hx hnx0 hnx1 him0 him1 hNX hops
  go_enter Tryz.func10, Tryz.ntmps10
  go_upto_region 1 with (fail)
  rw [← HWA.out, ← HK4.out]
  go_wp2_with fail
  refine (HG.out _ HSA.out).mono ?_; rintro r w2 ⟨rfl, q2⟩
  have HS2 := Lib.hid (HSA.out.below q2)
  have HR2 := Lib.hid (HRA.out.below q2 HRA.out.lt)
  clear q2 HSA HRA cp HWA
  go_wp2_with fail
  refine (HD.out _).mono ?_; rintro r w3 ⟨rfl, q3⟩
  obtain ⟨wi, hwi⟩ : ∃ wi, wi = w3.alloc (.cells #[.int .u8 op, .int .u8 (d : Int), .int .u8 (a : Int), .int .u8 (b : Int), .int .u32 im] 61) := ⟨_, rfl⟩
  obtain ⟨k7, hk7⟩ : ∃ k7, k7 = w3.heap.size := ⟨_, rfl⟩
  have T0 : Hid (KT w B g h A c k4 k7 ⟨op, d, a, b, im⟩ wi) := by
    refine Lib.hid ⟨?_, ?_, ?_, ?_⟩
    · rw [hwi]; exact (HS2.out.below q3).alloc _
    · rw [hwi]; exact Blk.alloc (HR2.out.below q3 HR2.out.lt) _
    · rw [hwi, hk7]; exact Blk.new _ _ _
    · rw [HK4.out]; exact Nat.le_refl _
  have HWI := Lib.hid hwi
  have HK7 := Lib.hid hk7
  clear q3 HS2 HR2 hwi hk7
  go_upto_region 5 with (fail)
  rw [← HWI.out, ← HK7.out]
  clear HWI HK7 HK4
  obtain ⟨c0, c1, c2, c3, c4⟩ := T0.out.five
  have cpc := T0.out.s.k.pcc
  rw [HPc.out] at cpc
  have ca := HA.out _ T0.out.s.k
  go_upto_region 11 with (fail)
  refine wp_region_quiet_tail 16 (by kernel_rfl) (by kernel_rfl) ?_
  simp only [List.take_succ_cons, List.take_zero, List.drop_succ_cons, List.drop_zero]
  repeat (go_big_quiet_step ((go_at_call 37; exact Calls.quiet_of_same (HK.out _))))
  refine wpQuiet_nil ?_
  intro _ hw'
  obtain ⟨nq, hw''⟩ := hw'
  subst hw''
  have T1 := Lib.hid (T0.out.below (below_drewN _ nq))
  clear T0 c0 c1 c2 c3 c4 cpc
  clear ca HA HK a16 hw8
  go_wp2_with fail
  refine (HPut.out _ T1.out.s.self).mono ?_; rintro r w4 ⟨rfl, s4⟩
  have T2 := Lib.hid (T1.out.call s4)
  clear s4 T1
  obtain ⟨c0, c1, c2, c3, c4⟩ := T2.out.five
  go_wp2_with fail
  refine (HBr.out _ T2.out.s.k).mono ?_; rintro r w5 ⟨rfl, q5⟩
  have T3 := Lib.hid (T2.out.below q5)
  clear q5 T2 c0 c1 c2 c3 c4
  go_upto_region 28 with (fail)
  have cpc2 := T3.out.s.k.pcc
  have cfz : World.frozen? _ ⟨h, 16, none⟩ = false := Blk.frozen T3.out.s.k 16
  have T9 := Lib.hid (T3.out.setPc NX)
  go_upto_region 29 with (fail)
  obtain ⟨wz, hwz⟩ : ∃ wz, wz = World.setCell w5 ⟨h, 16, none⟩ (.int .u32 NX) := ⟨_, rfl⟩
  rw [← hwz] at T9 ⊢
  clear hwz
  obtain ⟨⟨z0, z1, z2⟩, f0, f1, f2⟩ := T9.out.r.three
  have FF := Lib.hid (T9.out.s.stop3 T9.out.r T9.out.lo (.int .u8 0) (.int .u32 0) (.int .i64 0))
  go_wp2
  refine bodyPost_ret (v := .agg #[.int .u8 0, .int .u32 0, .int .i64 0]) (res_stop Tryz.results10 _ _ k4 _ _ _ rfl FF.out.2) rfl ⟨rfl, FF.out.1⟩
end Go.Proofs.YtgdbhmlmioihpaaGreatDoor
end

/- A step of the document's cpu: loads and stores. -/
section
set_option linter.unusedVariables false
namespace Go.Proofs.YtgdbhmlmioihpaaGreatDoor
open Go Go.RowKit Go.Maps

set_option maxHeartbeats 4000000 in
set_option maxRecDepth 100000 in
theorem kstep_load0 {B g h : Nat} {A : As} {c : Cp} (hc : c.Ok) (x : Xn) (hx : x.Ok) (hop : (x.op = 33 ∧ memN x.op = 1) ∨ (x.op = 34 ∧ memN x.op = 4)) (hE : getE A 1 (adr x c) (memN x.op) = 0) (S : ByteArray) (P : Nat) (w : World) (s : KS w B g h A c w)
    (hP : c.pc = (P : Int))
    (HG : Hid (∀ w', KS w B g h A c w' → Calls Tryz.prog 33 #[.pointer (some ⟨g, 0, none⟩), .int .u32 (P : Int), .int .i64 8, .int .u8 4] w' fun r w2 => r = .returned (.tuple #[.string S, .int .i64 0]) ∧ Below w'.heap.size w' w2))
    (HD0 : Hid (∀ w', Calls Tryz.prog 35 #[.string S] w' fun r w2 => r = .returned (.tuple #[xv x, .int .i64 0]) ∧ Below w'.heap.size w' w2)) :
    Calls Tryz.prog 10 #[.pointer (some ⟨h, 0, none⟩), .pointer (some ⟨g, 0, none⟩)] w fun r w' => r = .returned (stopV (execO x c A)) ∧ KS w B g h (execO x c A).A (execO x c A).c w' := by
  obtain ⟨OUT, hOUT⟩ : ∃ OUT, OUT = execO x c A := ⟨_, rfl⟩
  have hO := hOUT
  unfold execO at hO
  rw [if_neg (by omega), if_neg (by omega), if_neg (by omega), if_pos (by omega), if_pos hE] at hO
  rw [← hOUT]
  subst hO
  clear hOUT
  obtain ⟨hd, ha, hb⟩ := hx.regs
  have him0 := hx.i0
  have him1 := hx.i1
  have hops := hx.ops
  obtain ⟨op, d, a, b, im⟩ := x
  simp only at hop hd ha hb him0 him1 hops
  have HD : Hid (∀ w', Calls Tryz.prog 35 #[.string S] w' fun r w2 => r = .returned (.tuple #[.agg #[.int .u8 op, .int .u8 (d : Int), .int .u8 (a : Int), .int .u8 (b : Int), .int .u32 im], .int .i64 0]) ∧ Below w'.heap.size w' w2) := Lib.hid HD0.out
  clear HD0
  obtain ⟨NX, hNX⟩ : ∃ NX, NX = nx c := ⟨_, rfl⟩
  have hnx : IntKind.u32.wrap ((P : Int) + 8) = NX := by rw [u32_mod, hNX, ← hP]; rfl
  have hnx0 : 0 ≤ NX := by rw [hNX]; exact nx_lo c
  have hnx1 : NX < 4294967296 := by rw [hNX]; exact nx_hi c
  have hS := s
  have hP2 := hP
  have hM := fun (w1 : World) (h1 : KS w1 B g h A c w1) => kmem_load hc ⟨op, d, a, b, im⟩ hd ha hop w1 h1
  obtain ⟨V, hV⟩ : ∃ V, V = I.getV (getS A 1 (adr ⟨op, d, a, b, im⟩ c) (memN op)) := ⟨_, rfl⟩
  simp only [ran, stopV]
  try simp only at hM hE
  rw [hE, if_pos rfl, ← hV] at hM
  rw [← hV, ← hNX]
  have HM : Hid (∀ w1, KS w1 B g h A c w1 → Calls Tryz.prog 38 #[.pointer (some ⟨h, 0, none⟩), .pointer (some ⟨g, 0, none⟩), .agg #[.int .u8 op, .int .u8 (d : Int), .int .u8 (a : Int), .int .u8 (b : Int), .int .u32 im]] w1 fun r w' => r = .returned (.int .i64 0) ∧ KS w1 B g h A (setR c d V) w') := Lib.hid fun w1 h1 => by
    exact hM w1 h1
  have HBr : Hid (∀ w1, KAt w1 h (setR c d V) → Calls Tryz.prog 39 #[.pointer (some ⟨h, 0, none⟩), .agg #[.int .u8 op, .int .u8 (d : Int), .int .u8 (a : Int), .int .u8 (b : Int), .int .u32 im]] w1 fun r w' => r = .returned (.bool false) ∧ Below w1.heap.size w1 w') := Lib.hid fun w1 h1 => by
    have := kbranches_any h (setR c d V) op im d a b ha hb w1 h1
    rw [goes_no _ _ _ (by omega)] at this
    exact this
  have l14 : ¬ op ≤ 14 := by omega
  have l30 : ¬ op ≤ 30 := by omega
  have e32 : (op == 32) = false := by rw [beq_eq_false_iff_ne]; omega
  have l36 : op ≤ 36 := by omega
  clear hV ha hb hd hop hE hM
  obtain ⟨wa, hwa⟩ : ∃ wa, wa = w.alloc (.cells #[.int .u8 0, .int .u32 0, .int .i64 0] 39) := ⟨_, rfl⟩
  obtain ⟨k4, hk4⟩ : ∃ k4, k4 = w.heap.size := ⟨_, rfl⟩
  have sa : KS w B g h A c wa := by rw [hwa]; exact hS.alloc _
  have ra : Blk wa k4 39 [.int .u8 0, .int .u32 0, .int .i64 0] := by rw [hwa, hk4]; exact Blk.new _ _ _
  have cp := sa.k.pcc
  rw [hP2] at cp
  have HSA := Lib.hid sa
  have HRA := Lib.hid ra
  have HWA := Lib.hid hwa
  have HK4 := Lib.hid hk4
  have HPc := Lib.hid hP2
  clear s hP hS hP2 sa ra hwa hk4 hc hx hnx0 hnx1 him0 him1 hNX hops
  go_enter Tryz.func10, Tryz.ntmps10
  go_upto_region 1 with (fail)
  rw [← HWA.out, ← HK4.out]
  go_wp2_with fail
  refine (HG.out _ HSA.out).mono ?_; rintro r w2 ⟨rfl, q2⟩
  have HS2 := Lib.hid (HSA.out.below q2)
  have HR2 := Lib.hid (HRA.out.below q2 HRA.out.lt)
  clear q2 HSA HRA cp HWA
  go_wp2_with fail
  refine (HD.out _).mono ?_; rintro r w3 ⟨rfl, q3⟩
  obtain ⟨wi, hwi⟩ : ∃ wi, wi = w3.alloc (.cells #[.int .u8 op, .int .u8 (d : Int), .int .u8 (a : Int), .int .u8 (b : Int), .int .u32 im] 61) := ⟨_, rfl⟩
  obtain ⟨k7, hk7⟩ : ∃ k7, k7 = w3.heap.size := ⟨_, rfl⟩
  have T0 : Hid (KT w B g h A c k4 k7 ⟨op, d, a, b, im⟩ wi) := by
    refine Lib.hid ⟨?_, ?_, ?_, ?_⟩
    · rw [hwi]; exact (HS2.out.below q3).alloc _
    · rw [hwi]; exact Blk.alloc (HR2.out.below q3 HR2.out.lt) _
    · rw [hwi, hk7]; exact Blk.new _ _ _
    · rw [HK4.out]; exact Nat.le_refl _
  have HWI := Lib.hid hwi
  have HK7 := Lib.hid hk7
  clear q3 HS2 HR2 hwi hk7
  go_upto_region 5 with (fail)
  rw [← HWI.out, ← HK7.out]
  clear HWI HK7 HK4
  obtain ⟨c0, c1, c2, c3, c4⟩ := T0.out.five
  have cpc := T0.out.s.k.pcc
  rw [HPc.out] at cpc
  go_wp2_with fail
  refine (HM.out _ T0.out.s.self).mono ?_; rintro r w4 ⟨rfl, s4⟩
  have T2 := Lib.hid (T0.out.call s4)
  clear s4 T0 c0 c1 c2 c3 c4 cpc
  obtain ⟨c0, c1, c2, c3, c4⟩ := T2.out.five
  go_wp2_with fail
  refine (HBr.out _ T2.out.s.k).mono ?_; rintro r w5 ⟨rfl, q5⟩
  have T3 := Lib.hid (T2.out.below q5)
  clear q5 T2 c0 c1 c2 c3 c4
  go_upto_region 28 with (fail)
  have cpc2 := T3.out.s.k.pcc
  have cfz : World.frozen? _ ⟨h, 16, none⟩ = false := Blk.frozen T3.out.s.k 16
  have T9 := Lib.hid (T3.out.setPc NX)
  go_upto_region 29 with (fail)
  obtain ⟨wz, hwz⟩ : ∃ wz, wz = World.setCell w5 ⟨h, 16, none⟩ (.int .u32 NX) := ⟨_, rfl⟩
  rw [← hwz] at T9 ⊢
  clear hwz
  obtain ⟨⟨z0, z1, z2⟩, f0, f1, f2⟩ := T9.out.r.three
  have FF := Lib.hid (T9.out.s.stop3 T9.out.r T9.out.lo (.int .u8 0) (.int .u32 0) (.int .i64 0))
  go_wp2
  refine bodyPost_ret (v := .agg #[.int .u8 0, .int .u32 0, .int .i64 0]) (res_stop Tryz.results10 _ _ k4 _ _ _ rfl FF.out.2) rfl ⟨rfl, FF.out.1⟩

set_option maxHeartbeats 4000000 in
set_option maxRecDepth 100000 in
theorem kstep_load1 {B g h : Nat} {A : As} {c : Cp} (hc : c.Ok) (x : Xn) (hx : x.Ok) (hop : (x.op = 33 ∧ memN x.op = 1) ∨ (x.op = 34 ∧ memN x.op = 4)) (hE : getE A 1 (adr x c) (memN x.op) = 50) (S : ByteArray) (P : Nat) (w : World) (s : KS w B g h A c w)
    (hP : c.pc = (P : Int))
    (HG : Hid (∀ w', KS w B g h A c w' → Calls Tryz.prog 33 #[.pointer (some ⟨g, 0, none⟩), .int .u32 (P : Int), .int .i64 8, .int .u8 4] w' fun r w2 => r = .returned (.tuple #[.string S, .int .i64 0]) ∧ Below w'.heap.size w' w2))
    (HD0 : Hid (∀ w', Calls Tryz.prog 35 #[.string S] w' fun r w2 => r = .returned (.tuple #[xv x, .int .i64 0]) ∧ Below w'.heap.size w' w2)) :
    Calls Tryz.prog 10 #[.pointer (some ⟨h, 0, none⟩), .pointer (some ⟨g, 0, none⟩)] w fun r w' => r = .returned (stopV (execO x c A)) ∧ KS w B g h (execO x c A).A (execO x c A).c w' := by
  obtain ⟨OUT, hOUT⟩ : ∃ OUT, OUT = execO x c A := ⟨_, rfl⟩
  have hO := hOUT
  unfold execO at hO
  rw [if_neg (by omega), if_neg (by omega), if_neg (by omega), if_pos (by omega), if_neg (by omega)] at hO
  rw [← hOUT]
  subst hO
  clear hOUT
  obtain ⟨hd, ha, hb⟩ := hx.regs
  have him0 := hx.i0
  have him1 := hx.i1
  have hops := hx.ops
  obtain ⟨op, d, a, b, im⟩ := x
  simp only at hop hd ha hb him0 him1 hops
  have HD : Hid (∀ w', Calls Tryz.prog 35 #[.string S] w' fun r w2 => r = .returned (.tuple #[.agg #[.int .u8 op, .int .u8 (d : Int), .int .u8 (a : Int), .int .u8 (b : Int), .int .u32 im], .int .i64 0]) ∧ Below w'.heap.size w' w2) := Lib.hid HD0.out
  clear HD0
  obtain ⟨NX, hNX⟩ : ∃ NX, NX = nx c := ⟨_, rfl⟩
  have hnx : IntKind.u32.wrap ((P : Int) + 8) = NX := by rw [u32_mod, hNX, ← hP]; rfl
  have hnx0 : 0 ≤ NX := by rw [hNX]; exact nx_lo c
  have hnx1 : NX < 4294967296 := by rw [hNX]; exact nx_hi c
  have hS := s
  have hP2 := hP
  have hM := fun (w1 : World) (h1 : KS w1 B g h A c w1) => kmem_load hc ⟨op, d, a, b, im⟩ hd ha hop w1 h1
  simp only [flt, stopV]
  try simp only at hM hE
  rw [hE, if_neg (by decide)] at hM
  have HM : Hid (∀ w1, KS w1 B g h A c w1 → Calls Tryz.prog 38 #[.pointer (some ⟨h, 0, none⟩), .pointer (some ⟨g, 0, none⟩), .agg #[.int .u8 op, .int .u8 (d : Int), .int .u8 (a : Int), .int .u8 (b : Int), .int .u32 im]] w1 fun r w' => r = .returned (.int .i64 50) ∧ KS w1 B g h A c w') := Lib.hid fun w1 h1 => by
    exact hM w1 h1
  have l14 : ¬ op ≤ 14 := by omega
  have l30 : ¬ op ≤ 30 := by omega
  have e32 : (op == 32) = false := by rw [beq_eq_false_iff_ne]; omega
  have l36 : op ≤ 36 := by omega
  clear ha hb hd hop hE hM hnx
  obtain ⟨wa, hwa⟩ : ∃ wa, wa = w.alloc (.cells #[.int .u8 0, .int .u32 0, .int .i64 0] 39) := ⟨_, rfl⟩
  obtain ⟨k4, hk4⟩ : ∃ k4, k4 = w.heap.size := ⟨_, rfl⟩
  have sa : KS w B g h A c wa := by rw [hwa]; exact hS.alloc _
  have ra : Blk wa k4 39 [.int .u8 0, .int .u32 0, .int .i64 0] := by rw [hwa, hk4]; exact Blk.new _ _ _
  have cp := sa.k.pcc
  rw [hP2] at cp
  have HSA := Lib.hid sa
  have HRA := Lib.hid ra
  have HWA := Lib.hid hwa
  have HK4 := Lib.hid hk4
  have HPc := Lib.hid hP2
  clear s hP hS hP2 sa ra hwa hk4 hc hx hnx0 hnx1 him0 him1 hNX hops
  go_enter Tryz.func10, Tryz.ntmps10
  go_upto_region 1 with (fail)
  rw [← HWA.out, ← HK4.out]
  go_wp2_with fail
  refine (HG.out _ HSA.out).mono ?_; rintro r w2 ⟨rfl, q2⟩
  have HS2 := Lib.hid (HSA.out.below q2)
  have HR2 := Lib.hid (HRA.out.below q2 HRA.out.lt)
  clear q2 HSA HRA cp HWA
  go_wp2_with fail
  refine (HD.out _).mono ?_; rintro r w3 ⟨rfl, q3⟩
  obtain ⟨wi, hwi⟩ : ∃ wi, wi = w3.alloc (.cells #[.int .u8 op, .int .u8 (d : Int), .int .u8 (a : Int), .int .u8 (b : Int), .int .u32 im] 61) := ⟨_, rfl⟩
  obtain ⟨k7, hk7⟩ : ∃ k7, k7 = w3.heap.size := ⟨_, rfl⟩
  have T0 : Hid (KT w B g h A c k4 k7 ⟨op, d, a, b, im⟩ wi) := by
    refine Lib.hid ⟨?_, ?_, ?_, ?_⟩
    · rw [hwi]; exact (HS2.out.below q3).alloc _
    · rw [hwi]; exact Blk.alloc (HR2.out.below q3 HR2.out.lt) _
    · rw [hwi, hk7]; exact Blk.new _ _ _
    · rw [HK4.out]; exact Nat.le_refl _
  have HWI := Lib.hid hwi
  have HK7 := Lib.hid hk7
  clear q3 HS2 HR2 hwi hk7
  go_upto_region 5 with (fail)
  rw [← HWI.out, ← HK7.out]
  clear HWI HK7 HK4
  obtain ⟨c0, c1, c2, c3, c4⟩ := T0.out.five
  have cpc := T0.out.s.k.pcc
  rw [HPc.out] at cpc
  go_wp2_with fail
  refine (HM.out _ T0.out.s.self).mono ?_; rintro r w4 ⟨rfl, s4⟩
  have T2 := Lib.hid (T0.out.call s4)
  clear s4 T0 c0 c1 c2 c3 c4 cpc
  go_wp2_with fail
  refine (kfault_any 50 _).mono ?_; rintro r w5 ⟨rfl, q5⟩
  have T9 := Lib.hid (T2.out.below q5)
  clear q5 T2
  obtain ⟨⟨z0, z1, z2⟩, f0, f1, f2⟩ := T9.out.r.three
  have FF := Lib.hid (T9.out.s.stop3 T9.out.r T9.out.lo (.int .u8 2) (.int .u32 0) (.int .i64 50))
  go_wp2
  refine bodyPost_ret (v := .agg #[.int .u8 2, .int .u32 0, .int .i64 50]) (res_stop Tryz.results10 _ _ k4 _ _ _ rfl FF.out.2) rfl ⟨rfl, FF.out.1⟩

set_option maxHeartbeats 4000000 in
set_option maxRecDepth 100000 in
theorem kstep_store0 {B g h : Nat} {A : As} {c : Cp} (hc : c.Ok) (x : Xn) (hx : x.Ok) (hop : (x.op = 35 ∧ memN x.op = 1) ∨ (x.op = 36 ∧ memN x.op = 4)) (hE : putE A 2 (adr x c) (memT x c) = 0) (S : ByteArray) (P : Nat) (w : World) (s : KS w B g h A c w)
    (hP : c.pc = (P : Int))
    (HG : Hid (∀ w', KS w B g h A c w' → Calls Tryz.prog 33 #[.pointer (some ⟨g, 0, none⟩), .int .u32 (P : Int), .int .i64 8, .int .u8 4] w' fun r w2 => r = .returned (.tuple #[.string S, .int .i64 0]) ∧ Below w'.heap.size w' w2))
    (HD0 : Hid (∀ w', Calls Tryz.prog 35 #[.string S] w' fun r w2 => r = .returned (.tuple #[xv x, .int .i64 0]) ∧ Below w'.heap.size w' w2)) :
    Calls Tryz.prog 10 #[.pointer (some ⟨h, 0, none⟩), .pointer (some ⟨g, 0, none⟩)] w fun r w' => r = .returned (stopV (execO x c A)) ∧ KS w B g h (execO x c A).A (execO x c A).c w' := by
  obtain ⟨OUT, hOUT⟩ : ∃ OUT, OUT = execO x c A := ⟨_, rfl⟩
  have hO := hOUT
  unfold execO at hO
  rw [if_neg (by omega), if_neg (by omega), if_neg (by omega), if_neg (by omega), if_pos (by omega), if_pos hE] at hO
  rw [← hOUT]
  subst hO
  clear hOUT
  obtain ⟨hd, ha, hb⟩ := hx.regs
  have him0 := hx.i0
  have him1 := hx.i1
  have hops := hx.ops
  obtain ⟨op, d, a, b, im⟩ := x
  simp only at hop hd ha hb him0 him1 hops
  have HD : Hid (∀ w', Calls Tryz.prog 35 #[.string S] w' fun r w2 => r = .returned (.tuple #[.agg #[.int .u8 op, .int .u8 (d : Int), .int .u8 (a : Int), .int .u8 (b : Int), .int .u32 im], .int .i64 0]) ∧ Below w'.heap.size w' w2) := Lib.hid HD0.out
  clear HD0
  obtain ⟨NX, hNX⟩ : ∃ NX, NX = nx c := ⟨_, rfl⟩
  have hnx : IntKind.u32.wrap ((P : Int) + 8) = NX := by rw [u32_mod, hNX, ← hP]; rfl
  have hnx0 : 0 ≤ NX := by rw [hNX]; exact nx_lo c
  have hnx1 : NX < 4294967296 := by rw [hNX]; exact nx_hi c
  have hS := s
  have hP2 := hP
  have hM := fun (w1 : World) (h1 : KS w1 B g h A c w1) => kmem_store hc ⟨op, d, a, b, im⟩ ha hb hop w1 h1
  obtain ⟨A2, hA2⟩ : ∃ A2, A2 = putR A 2 (adr ⟨op, d, a, b, im⟩ c) (memT ⟨op, d, a, b, im⟩ c) := ⟨_, rfl⟩
  simp only [ran, stopV]
  try simp only at hM hE
  rw [hE, ← hA2] at hM
  rw [← hA2, ← hNX]
  have HM : Hid (∀ w1, KS w1 B g h A c w1 → Calls Tryz.prog 38 #[.pointer (some ⟨h, 0, none⟩), .pointer (some ⟨g, 0, none⟩), .agg #[.int .u8 op, .int .u8 (d : Int), .int .u8 (a : Int), .int .u8 (b : Int), .int .u32 im]] w1 fun r w' => r = .returned (.int .i64 0) ∧ KS w1 B g h A2 c w') := Lib.hid fun w1 h1 => by
    exact hM w1 h1
  have HBr : Hid (∀ w1, KAt w1 h c → Calls Tryz.prog 39 #[.pointer (some ⟨h, 0, none⟩), .agg #[.int .u8 op, .int .u8 (d : Int), .int .u8 (a : Int), .int .u8 (b : Int), .int .u32 im]] w1 fun r w' => r = .returned (.bool false) ∧ Below w1.heap.size w1 w') := Lib.hid fun w1 h1 => by
    have := kbranches_any h c op im d a b ha hb w1 h1
    rw [goes_no _ _ _ (by omega)] at this
    exact this
  have l14 : ¬ op ≤ 14 := by omega
  have l30 : ¬ op ≤ 30 := by omega
  have e32 : (op == 32) = false := by rw [beq_eq_false_iff_ne]; omega
  have l36 : op ≤ 36 := by omega
  clear hA2 ha hb hd hop hE hM
  obtain ⟨wa, hwa⟩ : ∃ wa, wa = w.alloc (.cells #[.int .u8 0, .int .u32 0, .int .i64 0] 39) := ⟨_, rfl⟩
  obtain ⟨k4, hk4⟩ : ∃ k4, k4 = w.heap.size := ⟨_, rfl⟩
  have sa : KS w B g h A c wa := by rw [hwa]; exact hS.alloc _
  have ra : Blk wa k4 39 [.int .u8 0, .int .u32 0, .int .i64 0] := by rw [hwa, hk4]; exact Blk.new _ _ _
  have cp := sa.k.pcc
  rw [hP2] at cp
  have HSA := Lib.hid sa
  have HRA := Lib.hid ra
  have HWA := Lib.hid hwa
  have HK4 := Lib.hid hk4
  have HPc := Lib.hid hP2
  clear s hP hS hP2 sa ra hwa hk4 hc hx hnx0 hnx1 him0 him1 hNX hops
  go_enter Tryz.func10, Tryz.ntmps10
  go_upto_region 1 with (fail)
  rw [← HWA.out, ← HK4.out]
  go_wp2_with fail
  refine (HG.out _ HSA.out).mono ?_; rintro r w2 ⟨rfl, q2⟩
  have HS2 := Lib.hid (HSA.out.below q2)
  have HR2 := Lib.hid (HRA.out.below q2 HRA.out.lt)
  clear q2 HSA HRA cp HWA
  go_wp2_with fail
  refine (HD.out _).mono ?_; rintro r w3 ⟨rfl, q3⟩
  obtain ⟨wi, hwi⟩ : ∃ wi, wi = w3.alloc (.cells #[.int .u8 op, .int .u8 (d : Int), .int .u8 (a : Int), .int .u8 (b : Int), .int .u32 im] 61) := ⟨_, rfl⟩
  obtain ⟨k7, hk7⟩ : ∃ k7, k7 = w3.heap.size := ⟨_, rfl⟩
  have T0 : Hid (KT w B g h A c k4 k7 ⟨op, d, a, b, im⟩ wi) := by
    refine Lib.hid ⟨?_, ?_, ?_, ?_⟩
    · rw [hwi]; exact (HS2.out.below q3).alloc _
    · rw [hwi]; exact Blk.alloc (HR2.out.below q3 HR2.out.lt) _
    · rw [hwi, hk7]; exact Blk.new _ _ _
    · rw [HK4.out]; exact Nat.le_refl _
  have HWI := Lib.hid hwi
  have HK7 := Lib.hid hk7
  clear q3 HS2 HR2 hwi hk7
  go_upto_region 5 with (fail)
  rw [← HWI.out, ← HK7.out]
  clear HWI HK7 HK4
  obtain ⟨c0, c1, c2, c3, c4⟩ := T0.out.five
  have cpc := T0.out.s.k.pcc
  rw [HPc.out] at cpc
  go_wp2_with fail
  refine (HM.out _ T0.out.s.self).mono ?_; rintro r w4 ⟨rfl, s4⟩
  have T2 := Lib.hid (T0.out.call s4)
  clear s4 T0 c0 c1 c2 c3 c4 cpc
  obtain ⟨c0, c1, c2, c3, c4⟩ := T2.out.five
  go_wp2_with fail
  refine (HBr.out _ T2.out.s.k).mono ?_; rintro r w5 ⟨rfl, q5⟩
  have T3 := Lib.hid (T2.out.below q5)
  clear q5 T2 c0 c1 c2 c3 c4
  go_upto_region 28 with (fail)
  have cpc2 := T3.out.s.k.pcc
  have cfz : World.frozen? _ ⟨h, 16, none⟩ = false := Blk.frozen T3.out.s.k 16
  have T9 := Lib.hid (T3.out.setPc NX)
  go_upto_region 29 with (fail)
  obtain ⟨wz, hwz⟩ : ∃ wz, wz = World.setCell w5 ⟨h, 16, none⟩ (.int .u32 NX) := ⟨_, rfl⟩
  rw [← hwz] at T9 ⊢
  clear hwz
  obtain ⟨⟨z0, z1, z2⟩, f0, f1, f2⟩ := T9.out.r.three
  have FF := Lib.hid (T9.out.s.stop3 T9.out.r T9.out.lo (.int .u8 0) (.int .u32 0) (.int .i64 0))
  go_wp2
  refine bodyPost_ret (v := .agg #[.int .u8 0, .int .u32 0, .int .i64 0]) (res_stop Tryz.results10 _ _ k4 _ _ _ rfl FF.out.2) rfl ⟨rfl, FF.out.1⟩

set_option maxHeartbeats 4000000 in
set_option maxRecDepth 100000 in
theorem kstep_store1 {B g h : Nat} {A : As} {c : Cp} (hc : c.Ok) (x : Xn) (hx : x.Ok) (hop : (x.op = 35 ∧ memN x.op = 1) ∨ (x.op = 36 ∧ memN x.op = 4)) (hE : putE A 2 (adr x c) (memT x c) = 50) (S : ByteArray) (P : Nat) (w : World) (s : KS w B g h A c w)
    (hP : c.pc = (P : Int))
    (HG : Hid (∀ w', KS w B g h A c w' → Calls Tryz.prog 33 #[.pointer (some ⟨g, 0, none⟩), .int .u32 (P : Int), .int .i64 8, .int .u8 4] w' fun r w2 => r = .returned (.tuple #[.string S, .int .i64 0]) ∧ Below w'.heap.size w' w2))
    (HD0 : Hid (∀ w', Calls Tryz.prog 35 #[.string S] w' fun r w2 => r = .returned (.tuple #[xv x, .int .i64 0]) ∧ Below w'.heap.size w' w2)) :
    Calls Tryz.prog 10 #[.pointer (some ⟨h, 0, none⟩), .pointer (some ⟨g, 0, none⟩)] w fun r w' => r = .returned (stopV (execO x c A)) ∧ KS w B g h (execO x c A).A (execO x c A).c w' := by
  obtain ⟨OUT, hOUT⟩ : ∃ OUT, OUT = execO x c A := ⟨_, rfl⟩
  have hO := hOUT
  unfold execO at hO
  rw [if_neg (by omega), if_neg (by omega), if_neg (by omega), if_neg (by omega), if_pos (by omega), if_neg (by omega)] at hO
  rw [← hOUT]
  subst hO
  clear hOUT
  obtain ⟨hd, ha, hb⟩ := hx.regs
  have him0 := hx.i0
  have him1 := hx.i1
  have hops := hx.ops
  obtain ⟨op, d, a, b, im⟩ := x
  simp only at hop hd ha hb him0 him1 hops
  have HD : Hid (∀ w', Calls Tryz.prog 35 #[.string S] w' fun r w2 => r = .returned (.tuple #[.agg #[.int .u8 op, .int .u8 (d : Int), .int .u8 (a : Int), .int .u8 (b : Int), .int .u32 im], .int .i64 0]) ∧ Below w'.heap.size w' w2) := Lib.hid HD0.out
  clear HD0
  obtain ⟨NX, hNX⟩ : ∃ NX, NX = nx c := ⟨_, rfl⟩
  have hnx : IntKind.u32.wrap ((P : Int) + 8) = NX := by rw [u32_mod, hNX, ← hP]; rfl
  have hnx0 : 0 ≤ NX := by rw [hNX]; exact nx_lo c
  have hnx1 : NX < 4294967296 := by rw [hNX]; exact nx_hi c
  have hS := s
  have hP2 := hP
  have hM := fun (w1 : World) (h1 : KS w1 B g h A c w1) => kmem_store hc ⟨op, d, a, b, im⟩ ha hb hop w1 h1
  simp only [flt, stopV]
  try simp only at hM hE
  rw [putR_no (by rw [hE]; decide), hE] at hM
  have HM : Hid (∀ w1, KS w1 B g h A c w1 → Calls Tryz.prog 38 #[.pointer (some ⟨h, 0, none⟩), .pointer (some ⟨g, 0, none⟩), .agg #[.int .u8 op, .int .u8 (d : Int), .int .u8 (a : Int), .int .u8 (b : Int), .int .u32 im]] w1 fun r w' => r = .returned (.int .i64 50) ∧ KS w1 B g h A c w') := Lib.hid fun w1 h1 => by
    exact hM w1 h1
  have l14 : ¬ op ≤ 14 := by omega
  have l30 : ¬ op ≤ 30 := by omega
  have e32 : (op == 32) = false := by rw [beq_eq_false_iff_ne]; omega
  have l36 : op ≤ 36 := by omega
  clear ha hb hd hop hE hM hnx
  obtain ⟨wa, hwa⟩ : ∃ wa, wa = w.alloc (.cells #[.int .u8 0, .int .u32 0, .int .i64 0] 39) := ⟨_, rfl⟩
  obtain ⟨k4, hk4⟩ : ∃ k4, k4 = w.heap.size := ⟨_, rfl⟩
  have sa : KS w B g h A c wa := by rw [hwa]; exact hS.alloc _
  have ra : Blk wa k4 39 [.int .u8 0, .int .u32 0, .int .i64 0] := by rw [hwa, hk4]; exact Blk.new _ _ _
  have cp := sa.k.pcc
  rw [hP2] at cp
  have HSA := Lib.hid sa
  have HRA := Lib.hid ra
  have HWA := Lib.hid hwa
  have HK4 := Lib.hid hk4
  have HPc := Lib.hid hP2
  clear s hP hS hP2 sa ra hwa hk4 hc hx hnx0 hnx1 him0 him1 hNX hops
  go_enter Tryz.func10, Tryz.ntmps10
  go_upto_region 1 with (fail)
  rw [← HWA.out, ← HK4.out]
  go_wp2_with fail
  refine (HG.out _ HSA.out).mono ?_; rintro r w2 ⟨rfl, q2⟩
  have HS2 := Lib.hid (HSA.out.below q2)
  have HR2 := Lib.hid (HRA.out.below q2 HRA.out.lt)
  clear q2 HSA HRA cp HWA
  go_wp2_with fail
  refine (HD.out _).mono ?_; rintro r w3 ⟨rfl, q3⟩
  obtain ⟨wi, hwi⟩ : ∃ wi, wi = w3.alloc (.cells #[.int .u8 op, .int .u8 (d : Int), .int .u8 (a : Int), .int .u8 (b : Int), .int .u32 im] 61) := ⟨_, rfl⟩
  obtain ⟨k7, hk7⟩ : ∃ k7, k7 = w3.heap.size := ⟨_, rfl⟩
  have T0 : Hid (KT w B g h A c k4 k7 ⟨op, d, a, b, im⟩ wi) := by
    refine Lib.hid ⟨?_, ?_, ?_, ?_⟩
    · rw [hwi]; exact (HS2.out.below q3).alloc _
    · rw [hwi]; exact Blk.alloc (HR2.out.below q3 HR2.out.lt) _
    · rw [hwi, hk7]; exact Blk.new _ _ _
    · rw [HK4.out]; exact Nat.le_refl _
  have HWI := Lib.hid hwi
  have HK7 := Lib.hid hk7
  clear q3 HS2 HR2 hwi hk7
  go_upto_region 5 with (fail)
  rw [← HWI.out, ← HK7.out]
  clear HWI HK7 HK4
  obtain ⟨c0, c1, c2, c3, c4⟩ := T0.out.five
  have cpc := T0.out.s.k.pcc
  rw [HPc.out] at cpc
  go_wp2_with fail
  refine (HM.out _ T0.out.s.self).mono ?_; rintro r w4 ⟨rfl, s4⟩
  have T2 := Lib.hid (T0.out.call s4)
  clear s4 T0 c0 c1 c2 c3 c4 cpc
  go_wp2_with fail
  refine (kfault_any 50 _).mono ?_; rintro r w5 ⟨rfl, q5⟩
  have T9 := Lib.hid (T2.out.below q5)
  clear q5 T2
  obtain ⟨⟨z0, z1, z2⟩, f0, f1, f2⟩ := T9.out.r.three
  have FF := Lib.hid (T9.out.s.stop3 T9.out.r T9.out.lo (.int .u8 2) (.int .u32 0) (.int .i64 50))
  go_wp2
  refine bodyPost_ret (v := .agg #[.int .u8 2, .int .u32 0, .int .i64 50]) (res_stop Tryz.results10 _ _ k4 _ _ _ rfl FF.out.2) rfl ⟨rfl, FF.out.1⟩
end Go.Proofs.YtgdbhmlmioihpaaGreatDoor
end
