/- A step of the program's cpu that ends with a fault ahead of the instruction. -/
import Derived.Test.YtgdbhmlmioihpaaDoorX43
import Derived.Test.YtgdbhmlmioihpaaDoorX44
import Derived.Laws.Tables
set_option linter.unusedVariables false
namespace Go.Proofs.YtgdbhmlmioihpaaDoor
open Go Go.RowKit Go.Maps

/-- What stands while nothing that was there has turned. -/
structure Sr (w0 : World) (p b e n g k6 : Nat) (c : Cp) (A : As) (w : World) : Prop where
  cpu : CAt w p c
  sp : SpaceAt w b e n A
  act : ActAt w g
  r : Blk w k6 30 [.int .u8 0, .int .u32 0, .int .i64 0]
  lo : w0.heap.size ≤ k6
  low : Below w0.heap.size w0 w
/-- How a step ends: the stop is laid; who has turned. -/
structure Sf (w0 : World) (p b e n k6 : Nat) (c : Cp) (A : As) (y0 y1 y2 : Value) (w : World) : Prop where
  r : Blk w k6 30 [y0, y1, y2]
  cpu : CAt w p c
  sp : SpaceAt w b e n A
  dt : DT w0 w b e p
section
variable {w0 w w' : World} {p b e n g k6 : Nat} {c : Cp} {A : As}
theorem FnsAt.below {l : List (Int × Nat)} (h : FnsAt w g l) (hb : Below w.heap.size w w') : FnsAt w' g l := h.same (hb.block g h.lt)
theorem Sr.below (t : Sr w0 p b e n g k6 c A w) (hb : Below w.heap.size w w') : Sr w0 p b e n g k6 c A w' :=
  ⟨t.cpu.below hb, t.sp.below hb t.sp.hi, FnsAt.below t.act hb, t.r.below hb t.r.lt, t.lo, t.low.trans (hb.mono t.low.size)⟩
theorem Sr.start (hc : CAt w p c) (hs : SpaceAt w b e n A) (ha : ActAt w g) : Sr w p b e n g w.heap.size c A (w.alloc (.cells #[.int .u8 0, .int .u32 0, .int .i64 0] 30)) :=
  have hb : Below w.heap.size w (w.alloc (.cells #[.int .u8 0, .int .u32 0, .int .i64 0] 30)) := (Below.refl _ _).alloc (Nat.le_refl _) _
  ⟨hc.below hb, hs.below hb hs.hi, FnsAt.below ha hb, Blk.new w 30 [.int .u8 0, .int .u32 0, .int .i64 0], Nat.le_refl _, hb⟩
theorem CAt.far (hc : CAt w p c) {k : Nat} {cs : List Value} (hr : Blk w k 30 cs) (i : Nat) (v : Value) : CAt (w.setCell ⟨k, i, none⟩ v) p c := by
  have hc0 : Blk w p 47 (ccs c) := hc
  exact hc0.far (p := ⟨k, i, none⟩) (hc0.ne hr (by decide)) _
theorem space_far (hs : SpaceAt w b e n A) {k : Nat} {cs : List Value} (hr : Blk w k 30 cs) (i : Nat) (v : Value) : SpaceAt (w.setCell ⟨k, i, none⟩ v) b e n A :=
  hs.aside (grown_set w k i v) hr (by decide) (by decide)
theorem stop_laid {z0 z1 z2 : Value} (hr : Blk w k6 30 [z0, z1, z2]) (hlo : w0.heap.size ≤ k6) (hc : CAt w p c) (hs : SpaceAt w b e n A) (hd : DT w0 w b e p) (y0 y1 y2 : Value) :
    Sf w0 p b e n k6 c A y0 y1 y2 (((w.setCell ⟨k6, 0, none⟩ y0).setCell ⟨k6, 1, none⟩ y1).setCell ⟨k6, 2, none⟩ y2) := by
  have b0 := hr.set_ 0 y0
  have b1 := b0.set_ 1 y1
  have b2 := b1.set_ 2 y2
  exact ⟨b2, ((hc.far hr 0 y0).far b0 1 y1).far b1 2 y2, space_far (space_far (space_far hs hr 0 y0) b0 1 y1) b1 2 y2, ((hd.far hlo 0 y0).far hlo 1 y1).far hlo 2 y2⟩
theorem Sr.stop3 (t : Sr w0 p b e n g k6 c A w) (y0 y1 y2 : Value) : Sf w0 p b e n k6 c A y0 y1 y2 (((w.setCell ⟨k6, 0, none⟩ y0).setCell ⟨k6, 1, none⟩ y1).setCell ⟨k6, 2, none⟩ y2) :=
  stop_laid t.r t.lo t.cpu t.sp (DT.ofBelow t.low b e p) y0 y1 y2

def Sn (w : World) (p b e n : Nat) (o : Out) (r : Ending) (w' : World) : Prop := r = .returned (stopV o) ∧ CAt w' p o.c ∧ SpaceAt w' b e n o.A ∧ DT w w' b e p

set_option maxHeartbeats 4000000 in
set_option maxRecDepth 100000 in
theorem cstep_fetch (hc : c.Ok) (w : World) (hcp : CAt w p c) (hs : SpaceAt w b e n A) (ha : ActAt w g) (hE : getE A 4 c.pc.toNat 8 = 50) :
    Calls Tryd.prog 15 #[.pointer (some ⟨p, 0, none⟩), .pointer (some ⟨b + 1, 0, none⟩), .map (some g)] w (Sn w p b e n (flt 50 c A)) := by
  obtain ⟨k6, hk6⟩ : ∃ k6, k6 = w.heap.size := ⟨_, rfl⟩
  obtain ⟨wa, hwa⟩ : ∃ wa, wa = w.alloc (.cells #[.int .u8 0, .int .u32 0, .int .i64 0] 30) := ⟨_, rfl⟩
  have T0 : Hid (Sr w p b e n g k6 c A wa) := Lib.hid (by rw [hk6, hwa]; exact Sr.start hcp hs ha)
  obtain ⟨P, hP⟩ : ∃ P, P = c.pc.toNat := ⟨_, rfl⟩
  have hpl := hc.plo
  have hph := hc.phi
  have hPc : c.pc = (P : Int) := by omega
  have hPl : P < 4294967296 := by omega
  rw [← hP] at hE
  obtain ⟨S, hS⟩ : ∃ S, S = getS A 4 P 8 := ⟨_, rfl⟩
  have HFt : Hid (∀ w1, SpaceAt w1 b e n A → Calls Tryd.prog 20 #[.pointer (some ⟨b + 1, 0, none⟩), .int .u32 (P : Int)] w1 fun r w' => r = .returned (.tuple #[.string S, .int .i64 50]) ∧ Below w1.heap.size w1 w') := Lib.hid fun w1 h1 => by
    rw [hS, ← hE]
    exact fetch_any b e n A P hPl w1 h1
  have cpc : wa.cell? ⟨p, 16, none⟩ = some (.int .u32 (P : Int)) := by
    have hb : Blk wa p 47 (rcs c) := T0.out.cpu
    rw [hb.cell, rcs_pc c, hPc]
  have HK := Lib.hid hk6
  have HW := Lib.hid hwa
  clear hk6 hwa hP hpl hph hPc hPl hE hS hcp hs ha hc
  go_enter Tryd.func15, Tryd.ntmps15
  go_upto_region 1 with (fail)
  rw [← HW.out, ← HK.out]
  clear HW HK
  go_wp2_with fail
  refine (HFt.out _ T0.out.sp).mono ?_; rintro r w1 ⟨rfl, q1⟩
  have T1 := Lib.hid (T0.out.below q1)
  clear q1 T0 HFt cpc
  go_wp2_with fail
  refine (fault_any 50 _).mono ?_; rintro r w2 ⟨rfl, q2⟩
  have T2 := Lib.hid (T1.out.below q2)
  clear q2 T1
  obtain ⟨⟨z0, z1, z2⟩, f0, f1, f2⟩ := T2.out.r.three
  have FF := Lib.hid (T2.out.stop3 (.int .u8 2) (.int .u32 0) (.int .i64 50))
  go_wp2
  refine bodyPost_ret (v := .agg #[.int .u8 2, .int .u32 0, .int .i64 50]) (res_stop Tryd.results15 _ _ k6 _ _ _ rfl FF.out.r) rfl ⟨rfl, FF.out.cpu, FF.out.sp, FF.out.dt⟩

set_option maxHeartbeats 4000000 in
set_option maxRecDepth 100000 in
theorem cstep_form (hc : c.Ok) (w : World) (ht : I.Tabled w) (hcp : CAt w p c) (hs : SpaceAt w b e n A) (ha : ActAt w g) (hE : getE A 4 c.pc.toNat 8 = 0) (hD : I.Ix.decOk (I.bt (getS A 4 c.pc.toNat 8)) = false) :
    Calls Tryd.prog 15 #[.pointer (some ⟨p, 0, none⟩), .pointer (some ⟨b + 1, 0, none⟩), .map (some g)] w (Sn w p b e n (flt 7 c A)) := by
  obtain ⟨k6, hk6⟩ : ∃ k6, k6 = w.heap.size := ⟨_, rfl⟩
  obtain ⟨wa, hwa⟩ : ∃ wa, wa = w.alloc (.cells #[.int .u8 0, .int .u32 0, .int .i64 0] 30) := ⟨_, rfl⟩
  have T0 : Hid (Sr w p b e n g k6 c A wa) := Lib.hid (by rw [hk6, hwa]; exact Sr.start hcp hs ha)
  obtain ⟨P, hP⟩ : ∃ P, P = c.pc.toNat := ⟨_, rfl⟩
  have hpl := hc.plo
  have hph := hc.phi
  have hPc : c.pc = (P : Int) := by omega
  have hPl : P < 4294967296 := by omega
  rw [← hP] at hE hD
  obtain ⟨S, hS⟩ : ∃ S, S = getS A 4 P 8 := ⟨_, rfl⟩
  rw [← hS] at hD
  have HFt : Hid (∀ w1, SpaceAt w1 b e n A → Calls Tryd.prog 20 #[.pointer (some ⟨b + 1, 0, none⟩), .int .u32 (P : Int)] w1 fun r w' => r = .returned (.tuple #[.string S, .int .i64 0]) ∧ Below w1.heap.size w1 w') := Lib.hid fun w1 h1 => by
    rw [hS, ← hE]
    exact fetch_any b e n A P hPl w1 h1
  have HDe : Hid (∀ w1, Below w.heap.size w w1 → Calls Tryd.prog 21 #[.string S] w1 fun r w' => r = .returned (.tuple #[.agg #[.int .u8 0, .int .u8 0, .int .u8 0, .int .u8 0, .int .u32 0], .int .i64 7]) ∧ Below w1.heap.size w1 w') := Lib.hid fun w1 h1 => by
    have := I.idecode_any S w1 (ht.below h1)
    rw [I.decV_no S hD, I.decE_no S hD] at this
    exact this
  have cpc : wa.cell? ⟨p, 16, none⟩ = some (.int .u32 (P : Int)) := by
    have hb : Blk wa p 47 (rcs c) := T0.out.cpu
    rw [hb.cell, rcs_pc c, hPc]
  have HK := Lib.hid hk6
  have HW := Lib.hid hwa
  clear hk6 hwa hP hpl hph hPc hPl hE hD hS hcp hs ha hc ht
  go_enter Tryd.func15, Tryd.ntmps15
  go_upto_region 1 with (fail)
  rw [← HW.out, ← HK.out]
  clear HW HK
  go_wp2_with fail
  refine (HFt.out _ T0.out.sp).mono ?_; rintro r w1 ⟨rfl, q1⟩
  have T1 := Lib.hid (T0.out.below q1)
  clear q1 T0 HFt cpc
  go_wp2_with fail
  refine (HDe.out _ T1.out.low).mono ?_; rintro r w2 ⟨rfl, q2⟩
  have T2 := Lib.hid (T1.out.below q2)
  clear q2 T1 HDe
  obtain ⟨wi, hwi⟩ : ∃ wi, wi = w2.alloc (.cells #[.int .u8 0, .int .u8 0, .int .u8 0, .int .u8 0, .int .u32 0] 58) := ⟨_, rfl⟩
  have T3 : Hid (Sr w p b e n g k6 c A wi) := Lib.hid (by rw [hwi]; exact T2.out.below ((Below.refl _ _).alloc (Nat.le_refl _) _))
  clear T2
  have HWI := Lib.hid hwi
  clear hwi
  go_upto_region 7 with (fail)
  rw [← HWI.out]
  clear HWI
  go_wp2_with fail
  refine (fault_any 7 _).mono ?_; rintro r w4 ⟨rfl, q4⟩
  have T4 := Lib.hid (T3.out.below q4)
  clear q4 T3
  obtain ⟨⟨z0, z1, z2⟩, f0, f1, f2⟩ := T4.out.r.three
  have FF := Lib.hid (T4.out.stop3 (.int .u8 2) (.int .u32 0) (.int .i64 7))
  go_wp2
  refine bodyPost_ret (v := .agg #[.int .u8 2, .int .u32 0, .int .i64 7]) (res_stop Tryd.results15 _ _ k6 _ _ _ rfl FF.out.r) rfl ⟨rfl, FF.out.cpu, FF.out.sp, FF.out.dt⟩
end
end Go.Proofs.YtgdbhmlmioihpaaDoor
