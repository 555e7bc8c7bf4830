/- alive: the chapter's examples. -/
import Derived.Test.YtgdbhmlmioihpaaDoorX32
import Derived.Test.YtgdbhmlmioihpaaDoorX33
set_option linter.unusedVariables false
namespace Go.Proofs.YtgdbhmlmioihpaaDoor
open Go Go.RowKit Go.Maps

theorem lie_blk {w : World} {g : Nat} (l : List I.Ins) (h : Blk w g 58 (l.flatMap I.Ins.cells)) : I.Lie w g 0 l := by
  have key : ∀ (l : List I.Ins) (k j : Nat), k < l.length → j < 5 → (l.flatMap I.Ins.cells)[k * 5 + j]? = (l.getD k I.Ins.nought).cells[j]? := by
    intro l
    induction l with
    | nil => intro k j hk; exact absurd hk (by simp)
    | cons x l ih =>
      intro k j hk hj
      have hx : x.cells.length = 5 := rfl
      rw [List.flatMap_cons]
      cases k with
      | zero =>
        rw [List.getElem?_append_left (by omega)]
        simp
      | succ k =>
        rw [List.getElem?_append_right (by omega), hx, show (k + 1) * 5 + j - 5 = k * 5 + j by omega, ih k j (by simpa using hk) hj]
        simp
  intro k hk j v hv
  have hj : j < 5 := (List.getElem?_eq_some_iff.1 hv).1
  rw [h.cell, show 0 + k * 5 + j = k * 5 + j by omega, key l k j hk hj, hv]
def exQ (k n : Nat) : Plc := ⟨none, 0, some ⟨k, 0, none⟩, 1, some ⟨k + 1, 0, none⟩, n⟩
def exW (w : World) (l : List I.Ins) : World := (w.alloc (.cells #[.int .u8 4] 5)).alloc (.cells (l.flatMap I.Ins.cells).toArray 58)
theorem exW_below (w : World) (l : List I.Ins) : Below w.heap.size w (exW w l) := ((Below.refl _ _).alloc (Nat.le_refl _) _).alloc (by simp) _
theorem ex_lies (w : World) (l : List I.Ins) (n : Nat) (tx : ByteArray) : (Sta.mk [] 0 [4] 0 l 0 tx).lies (exQ w.heap.size n) (exW w l) := by
  refine ⟨fun i hi => absurd hi (by simp), fun i hi => ⟨w.heap.size, 0, rfl, by simp [exW]; omega, fun j hj => ?_⟩, fun k hk => ⟨w.heap.size + 1, 0, rfl, by simp [exW], ?_⟩⟩
  · have hj0 : j = 0 := by simpa using hj
    subst hj0
    have := Blk.alloc (Blk.new w 5 [.int .u8 4]) (.cells (l.flatMap I.Ins.cells).toArray 58)
    show World.cell? (exW w l) ⟨w.heap.size, 0 + 0, none⟩ = _
    exact (this.cell 0)
  · refine lie_blk l ?_
    have := Blk.new (w.alloc (.cells #[.int .u8 4] 5)) 58 (l.flatMap I.Ins.cells)
    have e : (w.alloc (.cells #[.int .u8 4] 5)).heap.size = w.heap.size + 1 := by simp
    rw [e] at this
    exact this
theorem ex1_fits : ex1.fits := by
  refine ⟨fun j hj => absurd hj (by simp [ex1]), by decide, fun j hj => ?_, by decide, fun k hk => ?_, by decide⟩
  · have : j = 0 := by simpa [ex1] using hj
    subst this; decide
  · have : k = 0 ∨ k = 1 ∨ k = 2 := by have : k < 3 := hk; omega
    rcases this with rfl | rfl | rfl <;> (unfold I.Ins.fits I.Fits; decide)
theorem ex2_fits : ex2.fits := by
  refine ⟨fun j hj => absurd hj (by simp [ex2]), by decide, fun j hj => ?_, by decide, fun k hk => ?_, by decide⟩
  · have : j = 0 := by simpa [ex2] using hj
    subst this; decide
  · have : k = 0 := by have : k < 1 := hk; omega
    subst this; unfold I.Ins.fits I.Fits; decide
def exP (w0 : World) (C : Cp) (A : As) (r : Ending) (w' : World) : Prop := ∃ p b e n h g : Nat, r = .returned (.tuple #[.pointer (some ⟨p, 0, none⟩), .pointer (some ⟨b + 1, 0, none⟩), .pointer (some ⟨h, 0, none⟩), .pointer (some ⟨g, 0, none⟩), .bool true]) ∧ Fr w0 w0.heap.size p b e n h g C A C A w'
theorem ex1_made (w : World) : Calls Tryd.prog 18 #[.agg #[.slice none 0 0, .int .u32 0, .slice (some ⟨w.heap.size, 0, none⟩) 1 1, .int .u16 0, .slice (some ⟨w.heap.size + 1, 0, none⟩) 3 3, .int .u16 0, .string ⟨#[]⟩]]
    ((w.alloc (.cells #[.int .u8 4] 5)).alloc (.cells #[.int .u8 32, .int .u8 1, .int .u8 0, .int .u8 0, .int .u32 5, .int .u8 17, .int .u8 0, .int .u8 1, .int .u8 0, .int .u32 1, .int .u8 50, .int .u8 0, .int .u8 0, .int .u8 0, .int .u32 9] 58)) (exP (exW w ex1.L) (madeC ex1) (madeA ex1)) :=
  (made_any ex1 (exQ w.heap.size 3) ex1_fits (by decide) (exW w ex1.L) (ex_lies w ex1.L 3 ⟨#[]⟩)).mono fun r w' ⟨p, b, e, n, h, g, h1, h2, _⟩ => ⟨p, b, e, n, h, g, h1, h2⟩
theorem ex2_made (w : World) : Calls Tryd.prog 18 #[.agg #[.slice none 0 0, .int .u32 0, .slice (some ⟨w.heap.size, 0, none⟩) 1 1, .int .u16 0, .slice (some ⟨w.heap.size + 1, 0, none⟩) 1 1, .int .u16 0, .string ⟨#[]⟩]]
    ((w.alloc (.cells #[.int .u8 4] 5)).alloc (.cells #[.int .u8 41, .int .u8 15, .int .u8 0, .int .u8 0, .int .u32 1048576] 58)) (exP (exW w ex2.L) (madeC ex2) (madeA ex2)) :=
  (made_any ex2 (exQ w.heap.size 1) ex2_fits (by decide) (exW w ex2.L) (ex_lies w ex2.L 1 ⟨#[]⟩)).mono fun r w' ⟨p, b, e, n, h, g, h1, h2, _⟩ => ⟨p, b, e, n, h, g, h1, h2⟩
theorem ex1_ok : (madeC ex1).Ok := cpR_ok ex1_fits.r (by decide) (by decide) _ (Nat.min_le_left _ _)
theorem ex2_ok : (madeC ex2).Ok := cpR_ok ex2_fits.r (by decide) (by decide) _ (Nat.min_le_left _ _)

/-- Both cpus, and the second space. -/
structure Al (w0 : World) (p1 p2 b2 e2 n2 : Nat) (c1 c2 : Cp) (A2 : As) (w : World) : Prop where
  c1 : CAt w p1 c1
  c2 : CAt w p2 c2
  sp : SpaceAt w b2 e2 n2 A2
  low : Below w0.heap.size w0 w
  ne : p1 ≠ p2
  gp : w0.heap.size ≤ p2
  gb : w0.heap.size ≤ b2
  gs : w0.heap.size ≤ w.heap.size
section
variable {w0 w w' : World} {p1 p2 b2 e2 n2 : Nat} {c1 c2 c3 : Cp} {A2 A3 : As}
theorem Al.below (a : Al w0 p1 p2 b2 e2 n2 c1 c2 A2 w) (hb : Below w.heap.size w w') : Al w0 p1 p2 b2 e2 n2 c1 c2 A2 w' :=
  ⟨a.c1.below hb, a.c2.below hb, a.sp.below hb a.sp.hi, a.low.trans (hb.mono a.gs), a.ne, a.gp, a.gb, Nat.le_trans a.gs hb.size⟩
theorem Al.dt (a : Al w0 p1 p2 b2 e2 n2 c1 c2 A2 w) (h : DT w w' b2 e2 p2) (hc : CAt w' p2 c3) (hs : SpaceAt w' b2 e2 n2 A3) : Al w0 p1 p2 b2 e2 n2 c1 c3 A3 w' :=
  ⟨h.cpu a.sp a.c1 a.ne, hc, hs, a.low.trans (h.below a.gp a.gb a.gs), a.ne, a.gp, a.gb, Nat.le_trans a.gs h.size⟩
end

set_option maxHeartbeats 4000000 in
set_option maxRecDepth 100000 in
theorem calive_any (hR : RunOK) (w : World) (hk : I.Tabled w) : Calls Tryd.prog 13 #[] w fun r w' => r = .returned (.bool true) ∧ Below w.heap.size w w' := by
  have HT := Lib.hid hk
  have HRR := Lib.hid hR
  clear hk hR
  go_enter Tryd.func13, Tryd.ntmps13
  go_wp2_with fail
  refine (ex1_made w).mono ?_; rintro r w1 ⟨p1, b1, e1, n1, h1, g1, rfl, f1⟩
  have F1 := Lib.hid f1
  clear f1
  go_wp2_with fail
  refine (ex2_made w1).mono ?_; rintro r w2 ⟨p2, b2, e2, n2, h2, g2, rfl, f2⟩
  have HB1 : Hid (Below w.heap.size w w1 ∧ w.heap.size ≤ w1.heap.size) := Lib.hid ⟨(exW_below w ex1.L).trans (F1.out.low.mono (exW_below w ex1.L).size), Nat.le_trans (exW_below w ex1.L).size F1.out.gs⟩
  have HB2 : Hid (Below w1.heap.size w1 w2) := Lib.hid ((exW_below w1 ex2.L).trans (f2.low.mono (exW_below w1 ex2.L).size))
  have F2 : Hid (CAt w2 p2 (madeC ex2) ∧ SpaceAt w2 b2 e2 n2 (madeA ex2) ∧ w1.heap.size ≤ p2 ∧ w1.heap.size ≤ b2) := Lib.hid ⟨f2.cpu, f2.sp, Nat.le_trans (exW_below w1 ex2.L).size f2.gp, Nat.le_trans (exW_below w1 ex2.L).size f2.gb⟩
  clear f2
  obtain ⟨x1, x2, x3, x4, x5, x6, x7⟩ := ex1_run
  obtain ⟨y1, y2, y3, y4, y5, y7⟩ := ex2_run
  obtain ⟨R1, hR1⟩ : ∃ R1, R1 = runO 9 (madeC ex1) (madeA ex1) := ⟨_, rfl⟩
  obtain ⟨R2, hR2⟩ : ∃ R2, R2 = runO 9 (madeC ex2) (madeA ex2) := ⟨_, rfl⟩
  rw [← hR1] at x1 x2 x3 x4 x5 x6 x7
  rw [← hR2] at y1 y2 y3 y4 y5 y7
  have HX := Lib.hid (And.intro x5 (And.intro x6 x7))
  have HY := Lib.hid (And.intro y5 y7)
  have HRun1 : Hid (Calls Tryd.prog 7 #[.pointer (some ⟨p1, 0, none⟩), .pointer (some ⟨b1 + 1, 0, none⟩), .int .i64 9] w2 fun r w' => r = .returned (.tuple #[.agg #[.int .u8 1, .int .u32 9, .int .i64 0], .int .i64 3]) ∧ Al w p1 p2 b2 e2 n2 R1.1.c (madeC ex2) (madeA ex2) w') := Lib.hid (by
    have f := F1.out.below HB2.out
    refine (f.run HRR.out ex1_ok rfl (HT.out.below (exW_below w ex1.L)) 9 (by decide)).mono ?_
    rintro r w' ⟨q1, q2, q3⟩
    rw [← hR1] at q1 q2
    obtain ⟨z1, z2, z3, z4⟩ := F2.out
    have hp1 : p1 < w1.heap.size := Blk.lt F1.out.cpu
    have he1 : e1 ≤ w1.heap.size := F1.out.sp.hi
    have hlo := F1.out.sp.lo
    have hw1 := (exW_below w ex1.L).size
    refine ⟨?_, q2.cpu, q3.cpu f.sp z1 (by omega), q3.space z2 (.inl (by omega)) (.inl (by omega)) (by omega), ?_, by omega, by have := HB1.out.2; omega, by have := HB1.out.2; omega, ?_⟩
    · rw [q1]
      unfold stopV
      rw [x1, x2, x3, x4]
      rfl
    · exact (HB1.out.1.trans (HB2.out.mono HB1.out.2)).trans (q3.below (Nat.le_trans hw1 F1.out.gp) (Nat.le_trans hw1 F1.out.gb) (Nat.le_trans HB1.out.2 HB2.out.size))
    · exact Nat.le_trans (Nat.le_trans HB1.out.2 HB2.out.size) q3.size)
  have HRun2 : Hid (∀ w', Al w p1 p2 b2 e2 n2 R1.1.c (madeC ex2) (madeA ex2) w' → Calls Tryd.prog 7 #[.pointer (some ⟨p2, 0, none⟩), .pointer (some ⟨b2 + 1, 0, none⟩), .int .i64 9] w' fun r w3 => r = .returned (.tuple #[.agg #[.int .u8 2, .int .u32 0, .int .i64 50], .int .i64 1]) ∧ Al w p1 p2 b2 e2 n2 R1.1.c R2.1.c R2.1.A w3 ∧ ∀ k, Blk w' k 30 [.int .u8 1, .int .u32 9, .int .i64 0] → Blk w3 k 30 [.int .u8 1, .int .u32 9, .int .i64 0]) := Lib.hid (fun w' a => by
    refine (HRR.out w' p2 b2 e2 n2 (madeC ex2) (madeA ex2) 9 (by decide) ex2_ok (HT.out.below a.low) (by have := HT.out.1; have := a.gb; omega) (by have := HT.out.1; have := a.gp; omega) a.c2 a.sp).mono ?_
    rintro r w3 ⟨q1, q2, q3, q4⟩
    rw [← hR2] at q1 q2 q3
    refine ⟨?_, a.dt q4 q2 q3, fun k hb => q4.keep a.sp a.c2 hb (by decide) (by decide)⟩
    rw [q1]
    unfold stopV
    rw [y1, y2, y3, y4]
    rfl)
  obtain ⟨c1, hc1⟩ : ∃ c1, c1 = R1.1.c := ⟨_, rfl⟩
  obtain ⟨c2, hc2⟩ : ∃ c2, c2 = R2.1.c := ⟨_, rfl⟩
  obtain ⟨A2, hA2⟩ : ∃ A2, A2 = R2.1.A := ⟨_, rfl⟩
  rw [← hc1] at HRun1 HRun2 HX
  rw [← hc2] at HRun2 HY
  rw [← hA2] at HRun2
  have HG1 : Hid (∀ w', CAt w' p1 c1 → Calls Tryd.prog 5 #[.pointer (some ⟨p1, 0, none⟩), .int .i64 1] w' fun r w2 => r = .returned (.tuple #[.int .u32 5, .int .i64 0]) ∧ ∃ m, w2 = w'.drewN m) := Lib.hid fun w' h => by
    have := reg_any p1 c1 1 (by decide) w' h
    rw [HX.out.1] at this
    exact this
  have HG0 : Hid (∀ w', CAt w' p1 c1 → Calls Tryd.prog 5 #[.pointer (some ⟨p1, 0, none⟩), .int .i64 0] w' fun r w2 => r = .returned (.tuple #[.int .u32 0, .int .i64 0]) ∧ ∃ m, w2 = w'.drewN m) := Lib.hid fun w' h => by
    have := reg_any p1 c1 0 (by decide) w' h
    rw [HX.out.2.1] at this
    exact this
  have HP1 : Hid (∀ w', CAt w' p1 c1 → Calls Tryd.prog 10 #[.pointer (some ⟨p1, 0, none⟩)] w' fun r w2 => r = .returned (.int .u32 24) ∧ ∃ m, w2 = w'.drewN m) := Lib.hid fun w' h => by
    have := pc_any p1 c1 w' h
    rw [HX.out.2.2] at this
    exact this
  have HG15 : Hid (∀ w', CAt w' p2 c2 → Calls Tryd.prog 5 #[.pointer (some ⟨p2, 0, none⟩), .int .i64 15] w' fun r w2 => r = .returned (.tuple #[.int .u32 8, .int .i64 0]) ∧ ∃ m, w2 = w'.drewN m) := Lib.hid fun w' h => by
    have := reg_any p2 c2 15 (by decide) w' h
    rw [HY.out.1] at this
    exact this
  have HP2 : Hid (∀ w', CAt w' p2 c2 → Calls Tryd.prog 10 #[.pointer (some ⟨p2, 0, none⟩)] w' fun r w2 => r = .returned (.int .u32 1048576) ∧ ∃ m, w2 = w'.drewN m) := Lib.hid fun w' h => by
    have := pc_any p2 c2 w' h
    rw [HY.out.2] at this
    exact this
  clear x1 x2 x3 x4 x5 x6 x7 y1 y2 y3 y4 y5 y7 hR1 hR2 hc1 hc2 hA2 HX HY F1 F2 HB1 HB2 HT HRR
  go_wp2_with fail
  refine HRun1.out.mono ?_; rintro r w3 ⟨rfl, a3⟩
  have A3 := Lib.hid (a3.below ((Below.refl _ _).alloc (Nat.le_refl _) (.cells #[.int .u8 1, .int .u32 9, .int .i64 0] 30)))
  have B3 := Lib.hid (Blk.new w3 30 [.int .u8 1, .int .u32 9, .int .i64 0])
  obtain ⟨w4, hw4⟩ : ∃ w4, w4 = w3.alloc (.cells #[.int .u8 1, .int .u32 9, .int .i64 0] 30) := ⟨_, rfl⟩
  obtain ⟨k1, hk1⟩ : ∃ k1, k1 = w3.heap.size := ⟨_, rfl⟩
  replace B3 : Hid (Blk w4 k1 30 [.int .u8 1, .int .u32 9, .int .i64 0]) := by rw [hw4, hk1]; exact B3
  replace A3 : Hid (Al w p1 p2 b2 e2 n2 c1 (madeC ex2) (madeA ex2) w4) := by rw [hw4]; exact A3
  have HW4 := Lib.hid hw4
  have HK1 := Lib.hid hk1
  clear a3 hw4 hk1 HRun1
  go_wp2_with fail
  rw [← HW4.out, ← HK1.out]
  clear HW4 HK1
  refine (HG1.out w4 A3.out.c1).mono ?_; rintro r w5 ⟨rfl, m5, hw5⟩
  have A5 : Hid (Al w p1 p2 b2 e2 n2 c1 (madeC ex2) (madeA ex2) w5) := Lib.hid (by rw [hw5]; exact A3.out.below (below_drewN _ _))
  have B5 : Hid (Blk w5 k1 30 [.int .u8 1, .int .u32 9, .int .i64 0]) := Lib.hid (by rw [hw5]; exact B3.out.below (below_drewN _ _) B3.out.lt)
  clear hw5 A3 B3 HG1
  go_wp2_with fail
  refine (HG0.out w5 A5.out.c1).mono ?_; rintro r w6 ⟨rfl, m6, hw6⟩
  have A6 : Hid (Al w p1 p2 b2 e2 n2 c1 (madeC ex2) (madeA ex2) w6) := Lib.hid (by rw [hw6]; exact A5.out.below (below_drewN _ _))
  have B6 : Hid (Blk w6 k1 30 [.int .u8 1, .int .u32 9, .int .i64 0]) := Lib.hid (by rw [hw6]; exact B5.out.below (below_drewN _ _) B5.out.lt)
  clear hw6 A5 B5 HG0
  go_wp2_with fail
  refine (HRun2.out w6 A6.out).mono ?_; rintro r w7 ⟨rfl, a7, b7⟩
  have A7 := Lib.hid (a7.below ((Below.refl _ _).alloc (Nat.le_refl _) (.cells #[.int .u8 2, .int .u32 0, .int .i64 50] 30)))
  have B7 := Lib.hid (Blk.alloc (b7 k1 B6.out) (.cells #[.int .u8 2, .int .u32 0, .int .i64 50] 30))
  have D7 := Lib.hid (Blk.new w7 30 [.int .u8 2, .int .u32 0, .int .i64 50])
  obtain ⟨w8, hw8⟩ : ∃ w8, w8 = w7.alloc (.cells #[.int .u8 2, .int .u32 0, .int .i64 50] 30) := ⟨_, rfl⟩
  obtain ⟨k2, hk2⟩ : ∃ k2, k2 = w7.heap.size := ⟨_, rfl⟩
  replace D7 : Hid (Blk w8 k2 30 [.int .u8 2, .int .u32 0, .int .i64 50]) := by rw [hw8, hk2]; exact D7
  replace A7 : Hid (Al w p1 p2 b2 e2 n2 c1 c2 A2 w8) := by rw [hw8]; exact A7
  replace B7 : Hid (Blk w8 k1 30 [.int .u8 1, .int .u32 9, .int .i64 0]) := by rw [hw8]; exact B7
  have HW8 := Lib.hid hw8
  have HK2 := Lib.hid hk2
  clear a7 b7 hw8 hk2 HRun2 A6 B6
  go_wp2_with fail
  rw [← HW8.out, ← HK2.out]
  clear HW8 HK2
  refine (HG15.out w8 A7.out.c2).mono ?_; rintro r w9 ⟨rfl, m9, hw9⟩
  have A9 : Hid (Al w p1 p2 b2 e2 n2 c1 c2 A2 w9) := Lib.hid (by rw [hw9]; exact A7.out.below (below_drewN _ _))
  have B9 : Hid (Blk w9 k1 30 [.int .u8 1, .int .u32 9, .int .i64 0]) := Lib.hid (by rw [hw9]; exact B7.out.below (below_drewN _ _) B7.out.lt)
  have D9 : Hid (Blk w9 k2 30 [.int .u8 2, .int .u32 0, .int .i64 50]) := Lib.hid (by rw [hw9]; exact D7.out.below (below_drewN _ _) D7.out.lt)
  clear hw9 A7 B7 D7 HG15
  go_wp2_with fail
  refine (reg_far p2 w9).mono ?_; rintro r wa ⟨rfl, ma, hwa⟩
  have Aa : Hid (Al w p1 p2 b2 e2 n2 c1 c2 A2 wa) := Lib.hid (by rw [hwa]; exact A9.out.below (below_drewN _ _))
  have Ba : Hid (Blk wa k1 30 [.int .u8 1, .int .u32 9, .int .i64 0]) := Lib.hid (by rw [hwa]; exact B9.out.below (below_drewN _ _) B9.out.lt)
  have Da : Hid (Blk wa k2 30 [.int .u8 2, .int .u32 0, .int .i64 50]) := Lib.hid (by rw [hwa]; exact D9.out.below (below_drewN _ _) D9.out.lt)
  clear hwa A9 B9 D9
  obtain ⟨⟨z0, z1, z2⟩, _⟩ := Ba.out.three
  obtain ⟨⟨v0, v1, v2⟩, _⟩ := Da.out.three
  go_wp2_with fail
  refine (HP1.out wa Aa.out.c1).mono ?_; rintro r wb ⟨rfl, mb, hwb⟩
  have Ab : Hid (Al w p1 p2 b2 e2 n2 c1 c2 A2 wb) := Lib.hid (by rw [hwb]; exact Aa.out.below (below_drewN _ _))
  have Db : Hid (Blk wb k2 30 [.int .u8 2, .int .u32 0, .int .i64 50]) := Lib.hid (by rw [hwb]; exact Da.out.below (below_drewN _ _) Da.out.lt)
  clear hwb Aa Ba Da HP1 z0 z1 z2 v0 v1 v2
  obtain ⟨⟨v0, v1, v2⟩, _⟩ := Db.out.three
  go_wp2_with fail
  refine (HP2.out wb Ab.out.c2).mono ?_; rintro r wc ⟨rfl, mc, hwc⟩
  have Ac : Hid (Al w p1 p2 b2 e2 n2 c1 c2 A2 wc) := Lib.hid (by rw [hwc]; exact Ab.out.below (below_drewN _ _))
  clear hwc Ab Db HP2 v0 v1 v2
  go_wp2_with fail
  go_ret
  exact ⟨rfl, Ac.out.low⟩
end Go.Proofs.YtgdbhmlmioihpaaDoor
