/- What no cpu answers, a cpu in no space; SetReg and SetPc whatever they are asked. -/
import Derived.Test.YtgdbhmlmioihpaaDoorX47
set_option linter.unusedVariables false
namespace Go.Proofs.YtgdbhmlmioihpaaDoor
open Go Go.RowKit Go.Maps

/-- Nothing that was there has turned; the stop that is handed back. -/
structure Nr (w0 : World) (k6 : Nat) (w : World) : Prop where
  r : Blk w k6 30 [.int .u8 0, .int .u32 0, .int .i64 0]
  lo : w0.heap.size ≤ k6
  low : Below w0.heap.size w0 w
section
variable {w0 w w' : World} {k6 : Nat}
theorem Nr.start (w : World) : Nr w w.heap.size (w.alloc (.cells #[.int .u8 0, .int .u32 0, .int .i64 0] 30)) := ⟨Blk.new w 30 [.int .u8 0, .int .u32 0, .int .i64 0], Nat.le_refl _, (Below.refl _ _).alloc (Nat.le_refl _) _⟩
theorem Nr.below (t : Nr w0 k6 w) (hb : Below w.heap.size w w') : Nr w0 k6 w' := ⟨t.r.below hb t.r.lt, t.lo, t.low.trans (hb.mono t.low.size)⟩
theorem Nr.again {z0 z1 z2 y0 y1 y2 : Value} (hr : Blk w k6 30 [z0, z1, z2]) (hlo : w0.heap.size ≤ k6) (hlow : Below w0.heap.size w0 w) :
    Blk (((w.setCell ⟨k6, 0, none⟩ y0).setCell ⟨k6, 1, none⟩ y1).setCell ⟨k6, 2, none⟩ y2) k6 30 [y0, y1, y2] ∧ Below w0.heap.size w0 (((w.setCell ⟨k6, 0, none⟩ y0).setCell ⟨k6, 1, none⟩ y1).setCell ⟨k6, 2, none⟩ y2) :=
  ⟨((hr.set_ 0 y0).set_ 1 y1).set_ 2 y2, ((hlow.setCell (by exact hlo) _).setCell (by exact hlo) _).setCell (by exact hlo) _⟩
theorem Nr.stop3 (t : Nr w0 k6 w) (y0 y1 y2 : Value) : Blk (((w.setCell ⟨k6, 0, none⟩ y0).setCell ⟨k6, 1, none⟩ y1).setCell ⟨k6, 2, none⟩ y2) k6 30 [y0, y1, y2] ∧ Below w0.heap.size w0 (((w.setCell ⟨k6, 0, none⟩ y0).setCell ⟨k6, 1, none⟩ y1).setCell ⟨k6, 2, none⟩ y2) := Nr.again t.r t.lo t.low
end

set_option maxRecDepth 100000 in
theorem reg_nil (n : Int) (w : World) : Calls Tryd.prog 5 #[.pointer none, .int .i64 n] w fun r w' => r = .returned (.tuple #[.int .u32 0, .int .i64 1]) ∧ ∃ m, w' = w.drewN m := by
  go_enter Tryd.func5, Tryd.ntmps5
  go_wp2
  go_ret2
  exact ⟨rfl, 0, rfl⟩
set_option maxRecDepth 100000 in
theorem setreg_nil (n v : Int) (w : World) : Calls Tryd.prog 9 #[.pointer none, .int .i64 n, .int .u32 v] w fun r w' => r = .returned (.int .i64 1) ∧ ∃ m, w' = w.drewN m := by
  go_enter Tryd.func9, Tryd.ntmps9
  go_wp2
  go_ret
  exact ⟨rfl, 0, rfl⟩
set_option maxRecDepth 100000 in
theorem pc_nil (w : World) : Calls Tryd.prog 10 #[.pointer none] w fun r w' => r = .returned (.int .u32 0) ∧ ∃ m, w' = w.drewN m := by
  go_enter Tryd.func10, Tryd.ntmps10
  go_wp2
  go_ret
  exact ⟨rfl, 0, rfl⟩
set_option maxRecDepth 100000 in
theorem setpc_nil (v : Int) (w : World) : Calls Tryd.prog 11 #[.pointer none, .int .u32 v] w fun r w' => r = .returned (.int .i64 1) ∧ ∃ m, w' = w.drewN m := by
  go_enter Tryd.func11, Tryd.ntmps11
  go_wp2
  go_ret
  exact ⟨rfl, 0, rfl⟩
set_option maxRecDepth 100000 in
theorem ccopy_nil (w : World) : Calls Tryd.prog 12 #[.pointer none] w fun r w' => r = .returned (.pointer none) ∧ ∃ m, w' = w.drewN m := by
  go_enter Tryd.func12, Tryd.ntmps12
  go_wp2
  go_ret
  exact ⟨rfl, 0, rfl⟩
set_option maxHeartbeats 1000000 in
set_option maxRecDepth 100000 in
theorem cstep_nil (m : Option Addr) (g : Nat) (w : World) : Calls Tryd.prog 15 #[.pointer none, .pointer m, .map (some g)] w fun r w' => r = .returned (.agg #[.int .u8 2, .int .u32 0, .int .i64 1]) ∧ Below w.heap.size w w' := by
  obtain ⟨k6, hk6⟩ : ∃ k6, k6 = w.heap.size := ⟨_, rfl⟩
  obtain ⟨wa, hwa⟩ : ∃ wa, wa = w.alloc (.cells #[.int .u8 0, .int .u32 0, .int .i64 0] 30) := ⟨_, rfl⟩
  have T0 : Hid (Nr w k6 wa) := Lib.hid (by rw [hk6, hwa]; exact Nr.start w)
  have HK := Lib.hid hk6
  have HW := Lib.hid hwa
  clear hk6 hwa
  go_enter Tryd.func15, Tryd.ntmps15
  go_upto_region 1 with (fail)
  rw [← HW.out, ← HK.out]
  clear HW HK
  go_wp2_with fail
  refine (fault_any 1 _).mono ?_; rintro r w2 ⟨rfl, q2⟩
  have T2 := Lib.hid (T0.out.below q2)
  clear q2 T0
  obtain ⟨⟨z0, z1, z2⟩, f0, f1, f2⟩ := T2.out.r.three
  have FF := Lib.hid (T2.out.stop3 (.int .u8 2) (.int .u32 0) (.int .i64 1))
  go_wp2
  refine bodyPost_ret (v := .agg #[.int .u8 2, .int .u32 0, .int .i64 1]) (res_stop Tryd.results15 _ _ k6 _ _ _ rfl FF.out.1) rfl ⟨rfl, FF.out.2⟩
set_option maxHeartbeats 1000000 in
set_option maxRecDepth 100000 in
theorem cstep_none (p g : Nat) (w : World) : Calls Tryd.prog 15 #[.pointer (some ⟨p, 0, none⟩), .pointer none, .map (some g)] w fun r w' => r = .returned (.agg #[.int .u8 2, .int .u32 0, .int .i64 1]) ∧ Below w.heap.size w w' := by
  obtain ⟨k6, hk6⟩ : ∃ k6, k6 = w.heap.size := ⟨_, rfl⟩
  obtain ⟨wa, hwa⟩ : ∃ wa, wa = w.alloc (.cells #[.int .u8 0, .int .u32 0, .int .i64 0] 30) := ⟨_, rfl⟩
  have T0 : Hid (Nr w k6 wa) := Lib.hid (by rw [hk6, hwa]; exact Nr.start w)
  have HK := Lib.hid hk6
  have HW := Lib.hid hwa
  clear hk6 hwa
  go_enter Tryd.func15, Tryd.ntmps15
  go_upto_region 1 with (fail)
  rw [← HW.out, ← HK.out]
  clear HW HK
  go_wp2_with fail
  refine (fault_any 1 _).mono ?_; rintro r w2 ⟨rfl, q2⟩
  have T2 := Lib.hid (T0.out.below q2)
  clear q2 T0
  obtain ⟨⟨z0, z1, z2⟩, f0, f1, f2⟩ := T2.out.r.three
  have FF := Lib.hid (T2.out.stop3 (.int .u8 2) (.int .u32 0) (.int .i64 1))
  go_wp2
  refine bodyPost_ret (v := .agg #[.int .u8 2, .int .u32 0, .int .i64 1]) (res_stop Tryd.results15 _ _ k6 _ _ _ rfl FF.out.1) rfl ⟨rfl, FF.out.2⟩
set_option maxHeartbeats 1000000 in
set_option maxRecDepth 100000 in
theorem step_nil (m : Option Addr) (w : World) : Calls Tryd.prog 6 #[.pointer none, .pointer m] w fun r w' => r = .returned (.agg #[.int .u8 2, .int .u32 0, .int .i64 1]) ∧ Below w.heap.size w w' := by
  obtain ⟨k6, hk6⟩ : ∃ k6, k6 = w.heap.size := ⟨_, rfl⟩
  obtain ⟨wa, hwa⟩ : ∃ wa, wa = w.alloc (.cells #[.int .u8 0, .int .u32 0, .int .i64 0] 30) := ⟨_, rfl⟩
  obtain ⟨g, hg⟩ : ∃ g, g = wa.heap.size := ⟨_, rfl⟩
  have T0 : Hid (Nr w k6 wa) := Lib.hid (by rw [hk6, hwa]; exact Nr.start w)
  have HAc : Hid (Calls Tryd.prog 16 #[] wa fun r w' => r = .returned (.map (some g)) ∧ Below wa.heap.size wa w') := Lib.hid (by rw [hg]; exact (actions_any wa).mono fun r w' h => ⟨h.1, h.2.2⟩)
  have HK := Lib.hid hk6
  have HW := Lib.hid hwa
  clear hk6 hwa hg
  go_enter Tryd.func6, Tryd.ntmps6
  go_upto_region 1 with (fail)
  rw [← HW.out, ← HK.out]
  clear HW HK
  go_wp2_with fail
  refine HAc.out.mono ?_; rintro r w1 ⟨rfl, q1⟩
  have T1 := Lib.hid (T0.out.below q1)
  clear q1 T0 HAc
  go_wp2_with fail
  refine (cstep_nil m g _).mono ?_; rintro r w2 ⟨rfl, q2⟩
  have T2 := Lib.hid (T1.out.below q2)
  clear q2 T1
  obtain ⟨⟨z0, z1, z2⟩, f0, f1, f2⟩ := T2.out.r.three
  have FF := Lib.hid (T2.out.stop3 (.int .u8 2) (.int .u32 0) (.int .i64 1))
  go_wp2
  refine bodyPost_ret (v := .agg #[.int .u8 2, .int .u32 0, .int .i64 1]) (res_stop Tryd.results6 _ _ k6 _ _ _ rfl FF.out.1) rfl ⟨rfl, FF.out.2⟩
set_option maxHeartbeats 1000000 in
set_option maxRecDepth 100000 in
theorem step_none (p : Nat) (w : World) : Calls Tryd.prog 6 #[.pointer (some ⟨p, 0, none⟩), .pointer none] w fun r w' => r = .returned (.agg #[.int .u8 2, .int .u32 0, .int .i64 1]) ∧ Below w.heap.size w w' := by
  obtain ⟨k6, hk6⟩ : ∃ k6, k6 = w.heap.size := ⟨_, rfl⟩
  obtain ⟨wa, hwa⟩ : ∃ wa, wa = w.alloc (.cells #[.int .u8 0, .int .u32 0, .int .i64 0] 30) := ⟨_, rfl⟩
  obtain ⟨g, hg⟩ : ∃ g, g = wa.heap.size := ⟨_, rfl⟩
  have T0 : Hid (Nr w k6 wa) := Lib.hid (by rw [hk6, hwa]; exact Nr.start w)
  have HAc : Hid (Calls Tryd.prog 16 #[] wa fun r w' => r = .returned (.map (some g)) ∧ Below wa.heap.size wa w') := Lib.hid (by rw [hg]; exact (actions_any wa).mono fun r w' h => ⟨h.1, h.2.2⟩)
  have HK := Lib.hid hk6
  have HW := Lib.hid hwa
  clear hk6 hwa hg
  go_enter Tryd.func6, Tryd.ntmps6
  go_upto_region 1 with (fail)
  rw [← HW.out, ← HK.out]
  clear HW HK
  go_wp2_with fail
  refine HAc.out.mono ?_; rintro r w1 ⟨rfl, q1⟩
  have T1 := Lib.hid (T0.out.below q1)
  clear q1 T0 HAc
  go_wp2_with fail
  refine (cstep_none p g _).mono ?_; rintro r w2 ⟨rfl, q2⟩
  have T2 := Lib.hid (T1.out.below q2)
  clear q2 T1
  obtain ⟨⟨z0, z1, z2⟩, f0, f1, f2⟩ := T2.out.r.three
  have FF := Lib.hid (T2.out.stop3 (.int .u8 2) (.int .u32 0) (.int .i64 1))
  go_wp2
  refine bodyPost_ret (v := .agg #[.int .u8 2, .int .u32 0, .int .i64 1]) (res_stop Tryd.results6 _ _ k6 _ _ _ rfl FF.out.1) rfl ⟨rfl, FF.out.2⟩
set_option maxHeartbeats 2000000 in
set_option maxRecDepth 100000 in
theorem run_nil (m : Option Addr) (w : World) : Calls Tryd.prog 7 #[.pointer none, .pointer m, .int .i64 5] w fun r w' => r = .returned (.tuple #[.agg #[.int .u8 2, .int .u32 0, .int .i64 1], .int .i64 0]) ∧ Below w.heap.size w w' := by
  obtain ⟨k6, hk6⟩ : ∃ k6, k6 = w.heap.size := ⟨_, rfl⟩
  obtain ⟨wa, hwa⟩ : ∃ wa, wa = w.alloc (.cells #[.int .u8 0, .int .u32 0, .int .i64 0] 30) := ⟨_, rfl⟩
  obtain ⟨g, hg⟩ : ∃ g, g = wa.heap.size := ⟨_, rfl⟩
  have T0 : Hid (Nr w k6 wa) := Lib.hid (by rw [hk6, hwa]; exact Nr.start w)
  have HAc : Hid (Calls Tryd.prog 16 #[] wa fun r w' => r = .returned (.map (some g)) ∧ Below wa.heap.size wa w') := Lib.hid (by rw [hg]; exact (actions_any wa).mono fun r w' h => ⟨h.1, h.2.2⟩)
  have HK := Lib.hid hk6
  have HW := Lib.hid hwa
  clear hk6 hwa hg
  go_enter Tryd.func7, Tryd.ntmps7
  go_upto_region 1 with (fail)
  rw [← HW.out, ← HK.out]
  clear HW HK
  go_wp2_with fail
  refine HAc.out.mono ?_; rintro r w1 ⟨rfl, q1⟩
  have T1 := Lib.hid (T0.out.below q1)
  clear q1 T0 HAc
  go_wp2_with fail
  go_loopw [7] (fun v wr => v = .int .i64 0 ∧ Hid (Nr w k6 wr ∨ (Blk wr k6 30 [.int .u8 2, .int .u32 0, .int .i64 1] ∧ w.heap.size ≤ k6 ∧ Below w.heap.size w wr))) (fun v wr => 1 - (kOf (wr.cell? ⟨k6, 0, none⟩)).toNat)
  case atStart => exact ⟨rfl, Lib.hid (.inl T1.out)⟩
  case round =>
    obtain ⟨rfl, HT⟩ := hrel
    clear T1
    have hT := HT.out
    clear HT
    rcases hT with ht | ⟨hb, hlo, hlow⟩
    · have T2 := Lib.hid ht
      obtain ⟨⟨z0, z1, z2⟩, f0, f1, f2⟩ := T2.out.r.three
      have HZ := Lib.hid z0
      clear ht z1 z2 f0 f1 f2
      go_wp2_with fail
      refine (cstep_nil m g _).mono ?_; rintro r w2 ⟨rfl, q2⟩
      have T3 := Lib.hid (T2.out.below q2)
      clear q2 T2 z0
      obtain ⟨⟨z0, z1, z2⟩, f0, f1, f2⟩ := T3.out.r.three
      have FF := Lib.hid (T3.out.stop3 (.int .u8 2) (.int .u32 0) (.int .i64 1))
      have HL := Lib.hid T3.out.lo
      go_upto_region 4 with (fail)
      obtain ⟨w4, hw4⟩ : ∃ w4, w4 = ((w2.setCell ⟨k6, 0, none⟩ (.int .u8 2)).setCell ⟨k6, 1, none⟩ (.int .u32 0)).setCell ⟨k6, 2, none⟩ (.int .i64 1) := ⟨_, rfl⟩
      rw [← hw4] at FF ⊢
      clear hw4 z0 z1 z2 f0 f1 f2 T3
      obtain ⟨⟨z0, z1, z2⟩, f0, f1, f2⟩ := FF.out.1.three
      have HZ4 := Lib.hid z0
      clear z1 z2 f0 f1 f2
      go_wp2_with fail
      go_roundw
      case rel => exact ⟨rfl, Lib.hid (.inr ⟨FF.out.1, HL.out, FF.out.2⟩)⟩
      case measure => rw [HZ4.out, HZ.out]; simp [kOf]
    · obtain ⟨⟨z0, z1, z2⟩, f0, f1, f2⟩ := hb.three
      have FF := Lib.hid (Nr.again (y0 := .int .u8 2) (y1 := .int .u32 0) (y2 := .int .i64 1) hb hlo hlow)
      clear hb hlo hlow
      go_wp2_with fail
      refine bodyPost_ret (v := .tuple #[.agg #[.int .u8 2, .int .u32 0, .int .i64 1], .int .i64 0]) (res_stop_tmp Tryd.results7 _ _ k6 _ _ _ _ rfl rfl FF.out.1) rfl ⟨rfl, FF.out.2⟩
set_option maxHeartbeats 1000000 in
set_option maxRecDepth 100000 in
theorem setpc_any (p : Nat) (c : Cp) (v : Int) (w : World) (h : CAt w p c) :
    Calls Tryd.prog 11 #[.pointer (some ⟨p, 0, none⟩), .int .u32 v] w fun r w' => r = .returned (.int .i64 0) ∧ CAt w' p (setPc c v) ∧ w.grownBy w' (some p) := by
  have hb : Blk w p 47 (rcs c) := h
  have c0 : w.cell? ⟨p, 16, none⟩ = some (.int .u32 c.pc) := by rw [hb.cell, rcs_pc c]
  have f0 : w.frozen? ⟨p, 16, none⟩ = false := hb.frozen 16
  have HF : Hid (CAt (w.setCell ⟨p, 16, none⟩ (.int .u32 v)) p (setPc c v)) := Lib.hid (by
    have := hb.set_ 16 (.int .u32 v)
    rw [rcs_setPc c v] at this
    exact this)
  clear h hb
  go_enter Tryd.func11, Tryd.ntmps11
  go_wp2
  go_ret
  exact ⟨rfl, HF.out, ⟨rfl, rfl, rfl, by simp, fun j hj hr => Below.heap_setCell w ⟨p, 16, none⟩ _ j (by rintro rfl; exact hr rfl)⟩⟩
def f16 (n : Int) : Int := if n < 0 ∨ 16 ≤ n then 2 else 0
set_option maxHeartbeats 1000000 in
set_option maxRecDepth 100000 in
theorem setreg_all (p : Nat) (c : Cp) (n v : Int) (w : World) (h : CAt w p c) :
    Calls Tryd.prog 9 #[.pointer (some ⟨p, 0, none⟩), .int .i64 n, .int .u32 v] w fun r w' => r = .returned (.int .i64 (f16 n)) ∧ (∃ c2, CAt w' p c2 ∧ c2.pc = c.pc) ∧ w.grownBy w' (some p) := by
  by_cases h1 : n < 0
  · have hf : f16 n = 2 := by unfold f16; rw [if_pos (.inl h1)]
    have HH := Lib.hid h
    rw [hf]
    clear hf h
    have hI := isreg_low n h1 w
    go_enter Tryd.func9, Tryd.ntmps9
    go_wp2_with (go_at_call 14; refine hI.mono ?_; rintro e w1 ⟨rfl, rfl⟩)
    go_ret
    exact ⟨rfl, ⟨c, HH.out, rfl⟩, World.grownBy.refl _ _⟩
  · by_cases h2 : 16 ≤ n
    · have hf : f16 n = 2 := by unfold f16; rw [if_pos (.inr h2)]
      have HH := Lib.hid h
      rw [hf]
      clear hf h
      have hI := isreg_high n (by omega) h2 w
      go_enter Tryd.func9, Tryd.ntmps9
      go_wp2_with (go_at_call 14; refine hI.mono ?_; rintro e w1 ⟨rfl, rfl⟩)
      go_ret
      exact ⟨rfl, ⟨c, HH.out, rfl⟩, World.grownBy.refl _ _⟩
    · have hf : f16 n = 0 := by unfold f16; rw [if_neg (by omega)]
      obtain ⟨k, rfl⟩ : ∃ k : Nat, n = (k : Int) := ⟨n.toNat, by omega⟩
      rw [hf]
      refine (setreg_any p c k (by omega) v w h).mono ?_
      rintro r w' ⟨q1, q2, q3⟩
      exact ⟨q1, ⟨_, q2, rfl⟩, q3⟩
end Go.Proofs.YtgdbhmlmioihpaaDoor
