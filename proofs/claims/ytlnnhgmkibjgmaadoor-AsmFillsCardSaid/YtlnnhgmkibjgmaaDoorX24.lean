/- The program's plain, isLine. -/
import Derived.Test.YtlnnhgmkibjgmaaDoorX23
import Derived.Test.YtlnnhgmkibjgmaaDoorX15
set_option linter.unusedVariables false
set_option linter.unusedSimpArgs false
namespace Go.Proofs.YtlnnhgmkibjgmaaDoor
open Go Go.RowKit Oj Al

theorem store5 {w0 W : World} {g : Nat} {t : TypeId} {z0 z1 z2 z3 z4 : Value} (a0 a1 a2 a3 a4 : Value) (HB : Below w0.heap.size w0 W) (hg : w0.heap.size ≤ g) (HG : Blk W g t [z0, z1, z2, z3, z4]) :
    ∀ W', W' = (((((W.setCell ⟨g, 0, none⟩ a0).setCell ⟨g, 1, none⟩ a1).setCell ⟨g, 2, none⟩ a2).setCell ⟨g, 3, none⟩ a3).setCell ⟨g, 4, none⟩ a4) →
      Below w0.heap.size w0 W' ∧ Blk W' g t [a0, a1, a2, a3, a4] := by
  rintro W' rfl
  exact ⟨below_set (below_set (below_set (below_set (below_set HB hg _ _) hg _ _) hg _ _) hg _ _) hg _ _, ((((HG.set_ 0 a0).set_ 1 a1).set_ 2 a2).set_ 3 a3).set_ 4 a4⟩
theorem Blk.fiveC {w : World} {g : Nat} {t : TypeId} {a b c d e : Value} (H : Blk w g t [a, b, c, d, e]) :
    w.cell? ⟨g, 0, none⟩ = some a ∧ w.cell? ⟨g, 1, none⟩ = some b ∧ w.cell? ⟨g, 2, none⟩ = some c ∧ w.cell? ⟨g, 3, none⟩ = some d ∧ w.cell? ⟨g, 4, none⟩ = some e :=
  ⟨H.cell 0, H.cell 1, H.cell 2, H.cell 3, H.cell 4⟩
theorem Blk.free5 {w : World} {g : Nat} {t : TypeId} {cs : List Value} (H : Blk w g t cs) :
    w.frozen? ⟨g, 0, none⟩ = false ∧ w.frozen? ⟨g, 1, none⟩ = false ∧ w.frozen? ⟨g, 2, none⟩ = false ∧ w.frozen? ⟨g, 3, none⟩ = false ∧ w.frozen? ⟨g, 4, none⟩ = false ∧ g < w.heap.size :=
  ⟨H.frozen 0, H.frozen 1, H.frozen 2, H.frozen 3, H.frozen 4, H.lt⟩
set_option maxHeartbeats 4000000 in
set_option maxRecDepth 100000 in
theorem aplain_no (x : Ln) (hA : adr x = false) (w : World) : Calls Tryd.prog 52 #[lnV x] w fun e w' => e = .returned (inV x.op x.d x.a x.b x.im) ∧ Below w.heap.size w w' := by
  have HR := Lib.hid (arefers_any x)
  rw [hA] at HR
  obtain ⟨lb, op, d, a, b, im, dst, nm⟩ := x
  unfold lnV at HR ⊢
  unfold inV
  simp only at HR ⊢
  obtain ⟨L, hL⟩ : ∃ L, L = tx lb := ⟨_, rfl⟩
  obtain ⟨T, hT⟩ : ∃ L, L = tx dst := ⟨_, rfl⟩
  obtain ⟨N, hN⟩ : ∃ L, L = tx nm := ⟨_, rfl⟩
  rw [← hL, ← hT, ← hN] at HR ⊢
  have HR0 := Lib.hid (Blk.new2 w (.cells #[.string L, .int .u8 op, .int .u8 d, .int .u8 a, .int .u8 b, .int .u32 im, .string T, .string N] 42) 40 [.int .u8 0, .int .u8 0, .int .u8 0, .int .u8 0, .int .u32 0])
  have HB0 := Lib.hid (below_new2 w (.cells #[.string L, .int .u8 op, .int .u8 d, .int .u8 a, .int .u8 b, .int .u32 im, .string T, .string N] 42) (.cells #[.int .u8 0, .int .u8 0, .int .u8 0, .int .u8 0, .int .u32 0] 40))
  have HX0 := Lib.hid ((Blk.new w 42 [.string L, .int .u8 op, .int .u8 d, .int .u8 a, .int .u8 b, .int .u32 im, .string T, .string N]).alloc (.cells #[.int .u8 0, .int .u8 0, .int .u8 0, .int .u8 0, .int .u32 0] 40))
  clear hA hL hT hN
  go_enter Tryd.func52, Tryd.ntmps52
  go_upto_region 1 with (fail)
  obtain ⟨wb, hwb⟩ : ∃ wb, wb = (w.alloc (.cells #[.string L, .int .u8 op, .int .u8 d, .int .u8 a, .int .u8 b, .int .u32 im, .string T, .string N] 42)).alloc (.cells #[.int .u8 0, .int .u8 0, .int .u8 0, .int .u8 0, .int .u32 0] 40) := ⟨_, rfl⟩
  rw [← hwb] at HR0 HB0 HX0 ⊢
  clear hwb
  obtain ⟨c0, c1, c2, c3, c4, c5, c6, c7⟩ := HX0.out.eight
  go_upto_region 2 with (fail)
  obtain ⟨g3, hg3⟩ : ∃ t, t = wb.heap.size := ⟨_, rfl⟩
  have HG : Hid (w.heap.size + 1 ≠ g3) := Lib.hid (by have := HR0.out.lt; omega)
  have HG2 : Hid (w.heap.size ≤ g3) := Lib.hid (by have := HR0.out.lt; omega)
  have HI1 := Lib.hid (Blk.new wb 40 [.int .u8 op, .int .u8 d, .int .u8 a, .int .u8 b, .int .u32 im])
  have HR1 := Lib.hid (HR0.out.alloc (.cells #[.int .u8 op, .int .u8 d, .int .u8 a, .int .u8 b, .int .u32 im] 40))
  have HX1 := Lib.hid (HX0.out.alloc (.cells #[.int .u8 op, .int .u8 d, .int .u8 a, .int .u8 b, .int .u32 im] 40))
  have HB1 := Lib.hid (below_box HB0.out (.cells #[.int .u8 op, .int .u8 d, .int .u8 a, .int .u8 b, .int .u32 im] 40))
  obtain ⟨w3, hw3⟩ : ∃ t, t = wb.alloc (.cells #[.int .u8 op, .int .u8 d, .int .u8 a, .int .u8 b, .int .u32 im] 40) := ⟨_, rfl⟩
  rw [← hw3] at HI1 HR1 HX1 HB1 ⊢
  rw [← hg3] at HI1 ⊢
  clear hw3 hg3 HR0 HB0 HX0 c0 c1 c2 c3 c4 c5 c6 c7
  obtain ⟨c0, c1, c2, c3, c4, c5, c6, c7⟩ := HX1.out.eight
  clear HX1
  go_wp2_with fail
  refine (HR.out _).mono ?_; rintro e w4 ⟨rfl, q⟩
  have HI2 := Lib.hid (HI1.out.call q)
  have HR2 := Lib.hid (HR1.out.call q)
  have HB2 := Lib.hid (below_call HB1.out q)
  clear q HI1 HR1 HB1 HR c0 c1 c2 c3 c4 c5 c6 c7
  have HI3 := HI2
  have HR3 := HR2
  have HB3 := HB2
  clear HI2 HR2 HB2
  obtain ⟨y0, y1, y2, y3, y4⟩ := HI3.out.fiveC
  obtain ⟨x0, x1, x2, x3, x4⟩ := HR3.out.fiveC
  obtain ⟨f0, f1, f2, f3, f4, hlt⟩ := HR3.out.free5
  go_wp2_with fail
  obtain ⟨HB5, HX5⟩ := store5 (.int .u8 op) (.int .u8 d) (.int .u8 a) (.int .u8 b) (.int .u32 im) HB3.out (Nat.le_succ _) HR3.out _ rfl
  refine bodyPost_ret (v := .agg #[.int .u8 op, .int .u8 d, .int .u8 a, .int .u8 b, .int .u32 im]) (results_cell_row Tryd.results52 _ _ (w.heap.size + 1) 40 _ (0, 0) _ rfl HX5 Tryd.underlying40 rfl (by kernel_rfl)) rfl ⟨rfl, HB5⟩
set_option maxHeartbeats 4000000 in
set_option maxRecDepth 100000 in
theorem aplain_yes (x : Ln) (hA : adr x = true) (w : World) : Calls Tryd.prog 52 #[lnV x] w fun e w' => e = .returned (inV x.op x.d x.a x.b 0) ∧ Below w.heap.size w w' := by
  have HR := Lib.hid (arefers_any x)
  rw [hA] at HR
  obtain ⟨lb, op, d, a, b, im, dst, nm⟩ := x
  unfold lnV at HR ⊢
  unfold inV
  simp only at HR ⊢
  obtain ⟨L, hL⟩ : ∃ L, L = tx lb := ⟨_, rfl⟩
  obtain ⟨T, hT⟩ : ∃ L, L = tx dst := ⟨_, rfl⟩
  obtain ⟨N, hN⟩ : ∃ L, L = tx nm := ⟨_, rfl⟩
  rw [← hL, ← hT, ← hN] at HR ⊢
  have HR0 := Lib.hid (Blk.new2 w (.cells #[.string L, .int .u8 op, .int .u8 d, .int .u8 a, .int .u8 b, .int .u32 im, .string T, .string N] 42) 40 [.int .u8 0, .int .u8 0, .int .u8 0, .int .u8 0, .int .u32 0])
  have HB0 := Lib.hid (below_new2 w (.cells #[.string L, .int .u8 op, .int .u8 d, .int .u8 a, .int .u8 b, .int .u32 im, .string T, .string N] 42) (.cells #[.int .u8 0, .int .u8 0, .int .u8 0, .int .u8 0, .int .u32 0] 40))
  have HX0 := Lib.hid ((Blk.new w 42 [.string L, .int .u8 op, .int .u8 d, .int .u8 a, .int .u8 b, .int .u32 im, .string T, .string N]).alloc (.cells #[.int .u8 0, .int .u8 0, .int .u8 0, .int .u8 0, .int .u32 0] 40))
  clear hA hL hT hN
  go_enter Tryd.func52, Tryd.ntmps52
  go_upto_region 1 with (fail)
  obtain ⟨wb, hwb⟩ : ∃ wb, wb = (w.alloc (.cells #[.string L, .int .u8 op, .int .u8 d, .int .u8 a, .int .u8 b, .int .u32 im, .string T, .string N] 42)).alloc (.cells #[.int .u8 0, .int .u8 0, .int .u8 0, .int .u8 0, .int .u32 0] 40) := ⟨_, rfl⟩
  rw [← hwb] at HR0 HB0 HX0 ⊢
  clear hwb
  obtain ⟨c0, c1, c2, c3, c4, c5, c6, c7⟩ := HX0.out.eight
  go_upto_region 2 with (fail)
  obtain ⟨g3, hg3⟩ : ∃ t, t = wb.heap.size := ⟨_, rfl⟩
  have HG : Hid (w.heap.size + 1 ≠ g3) := Lib.hid (by have := HR0.out.lt; omega)
  have HG2 : Hid (w.heap.size ≤ g3) := Lib.hid (by have := HR0.out.lt; omega)
  have HI1 := Lib.hid (Blk.new wb 40 [.int .u8 op, .int .u8 d, .int .u8 a, .int .u8 b, .int .u32 im])
  have HR1 := Lib.hid (HR0.out.alloc (.cells #[.int .u8 op, .int .u8 d, .int .u8 a, .int .u8 b, .int .u32 im] 40))
  have HX1 := Lib.hid (HX0.out.alloc (.cells #[.int .u8 op, .int .u8 d, .int .u8 a, .int .u8 b, .int .u32 im] 40))
  have HB1 := Lib.hid (below_box HB0.out (.cells #[.int .u8 op, .int .u8 d, .int .u8 a, .int .u8 b, .int .u32 im] 40))
  obtain ⟨w3, hw3⟩ : ∃ t, t = wb.alloc (.cells #[.int .u8 op, .int .u8 d, .int .u8 a, .int .u8 b, .int .u32 im] 40) := ⟨_, rfl⟩
  rw [← hw3] at HI1 HR1 HX1 HB1 ⊢
  rw [← hg3] at HI1 ⊢
  clear hw3 hg3 HR0 HB0 HX0 c0 c1 c2 c3 c4 c5 c6 c7
  obtain ⟨c0, c1, c2, c3, c4, c5, c6, c7⟩ := HX1.out.eight
  clear HX1
  go_wp2_with fail
  refine (HR.out _).mono ?_; rintro e w4 ⟨rfl, q⟩
  have HI2 := Lib.hid (HI1.out.call q)
  have HR2 := Lib.hid (HR1.out.call q)
  have HB2 := Lib.hid (below_call HB1.out q)
  clear q HI1 HR1 HB1 HR c0 c1 c2 c3 c4 c5 c6 c7
  have j0 := HI2.out.cell 4
  simp only [List.getElem?_cons_zero, List.getElem?_cons_succ] at j0
  have j1 : w4.frozen? ⟨g3, 4, none⟩ = false := HI2.out.frozen 4
  have j2 : g3 < w4.heap.size := HI2.out.lt
  go_upto_region 4 with (fail)
  have HI3 : Hid (Blk (w4.setCell ⟨g3, 4, none⟩ (.int .u32 0)) g3 40 [.int .u8 op, .int .u8 d, .int .u8 a, .int .u8 b, .int .u32 0]) := Lib.hid (HI2.out.set_ 4 (.int .u32 0))
  have HR3 := Lib.hid (HR2.out.far (p := ⟨g3, 4, none⟩) HG.out (.int .u32 0))
  have HB3 := Lib.hid (HB2.out.setCell (p := ⟨g3, 4, none⟩) HG2.out (.int .u32 0))
  obtain ⟨wc, hwc⟩ : ∃ t, t = w4.setCell ⟨g3, 4, none⟩ (.int .u32 0) := ⟨_, rfl⟩
  rw [← hwc] at HI3 HR3 HB3 ⊢
  clear hwc j0 j1 j2 HI2 HR2 HB2
  obtain ⟨y0, y1, y2, y3, y4⟩ := HI3.out.fiveC
  obtain ⟨x0, x1, x2, x3, x4⟩ := HR3.out.fiveC
  obtain ⟨f0, f1, f2, f3, f4, hlt⟩ := HR3.out.free5
  go_wp2_with fail
  obtain ⟨HB5, HX5⟩ := store5 (.int .u8 op) (.int .u8 d) (.int .u8 a) (.int .u8 b) (.int .u32 0) HB3.out (Nat.le_succ _) HR3.out _ rfl
  refine bodyPost_ret (v := .agg #[.int .u8 op, .int .u8 d, .int .u8 a, .int .u8 b, .int .u32 0]) (results_cell_row Tryd.results52 _ _ (w.heap.size + 1) 40 _ (0, 0) _ rfl HX5 Tryd.underlying40 rfl (by kernel_rfl)) rfl ⟨rfl, HB5⟩
theorem aplain_any (x : Ln) (w : World) : Calls Tryd.prog 52 #[lnV x] w fun e w' => e = .returned (inV x.op x.d x.a x.b (im0 x)) ∧ Below w.heap.size w w' := by
  cases hA : adr x
  · have e : im0 x = x.im := by unfold im0; rw [if_neg (by rw [hA]; decide)]
    rw [e]
    exact aplain_no x hA w
  · have e : im0 x = 0 := by unfold im0; rw [if_pos hA]
    rw [e]
    exact aplain_yes x hA w
theorem lnOk_no1 {x : Ln} (h : nm0 x.label = false) : lnOk x = false := by unfold lnOk; rw [h]; simp
theorem lnOk_no2 {x : Ln} (h : nm0 x.to = false) : lnOk x = false := by unfold lnOk; rw [h]; simp
theorem lnOk_no3 {x : Ln} (h : nm0 x.name = false) : lnOk x = false := by unfold lnOk; rw [h]; simp
theorem lnOk_no4 {x : Ln} (h : x.to ≠ []) (h2 : x.name ≠ []) : lnOk x = false := by unfold lnOk; simp [h, h2]
theorem lnOk_bad {x : Ln} (h : I.Ix.insnOk x.op x.d x.a x.b (im0 x) = false) : lnOk x = false := by unfold lnOk; rw [h]; simp
/-- What is left of a line, behind its names. -/
theorem lnOk_rest {x : Ln} (h1 : nm0 x.label = true) (h2 : nm0 x.to = true) (h3 : nm0 x.name = true) (h4 : x.to = [] ∨ x.name = []) (h5 : I.Ix.insnOk x.op x.d x.a x.b (im0 x) = true) :
    lnOk x = (I.usesV x.op (I.Ix.uI x.op) || !adr x) := by
  obtain ⟨k1, k2, k3, k4, k5⟩ := I.Ix.ok_parts h5
  have h6 : (decide (x.to ≠ []) && decide (x.name ≠ [])) = false := by
    rcases h4 with h | h
    · rw [h]; rfl
    · rw [h]; simp
  have h7 : I.Ix.insnOk x.op x.d x.a x.b 4 = I.Ix.uI x.op := by
    unfold I.Ix.insnOk
    rw [k1, k2, k3, k4]
    cases I.Ix.uI x.op <;> rfl
  unfold lnOk
  rw [h1, h2, h3, h5, h6, h7]
  unfold I.usesV
  rw [k1]
  cases I.Ix.uI x.op <;> cases adr x <;> rfl
set_option maxHeartbeats 4000000 in
set_option maxRecDepth 100000 in
theorem isline_no1 (L T N : ByteArray) (op d a b im : Int) (w : World) (H1 : Hid (∀ W, Calls Tryd.prog 71 #[.string L] W fun e w' => e = .returned (.bool false) ∧ Below W.heap.size W w')) :
    Calls Tryd.prog 51 #[lnR L op d a b im T N] w fun e w' => e = .returned (.bool false) ∧ Below w.heap.size w w' := by
  have HX0 := Lib.hid (Blk.new w 42 [.string L, .int .u8 op, .int .u8 d, .int .u8 a, .int .u8 b, .int .u32 im, .string T, .string N])
  have HB0 := Lib.hid (below_new1 w (.cells #[.string L, .int .u8 op, .int .u8 d, .int .u8 a, .int .u8 b, .int .u32 im, .string T, .string N] 42))
  unfold lnR
  go_enter Tryd.func51, Tryd.ntmps51
  go_wp2_with fail
  refine (H1.out _).mono ?_; rintro e w1 ⟨rfl, q⟩
  have HX1 := Lib.hid (HX0.out.call q)
  have HB1 := Lib.hid (below_call HB0.out q)
  clear q HX0 HB0 
  obtain ⟨y0, y1, y2, y3, y4, y5, y6, y7⟩ := HX1.out.eight
  go_wp2_with fail
  go_ret
  exact ⟨rfl, HB1.out⟩
set_option maxHeartbeats 4000000 in
set_option maxRecDepth 100000 in
theorem isline_no2 (L T N : ByteArray) (op d a b im : Int) (w : World) (H1 : Hid (∀ W, Calls Tryd.prog 71 #[.string L] W fun e w' => e = .returned (.bool true) ∧ Below W.heap.size W w')) (H2 : Hid (∀ W, Calls Tryd.prog 71 #[.string T] W fun e w' => e = .returned (.bool false) ∧ Below W.heap.size W w')) :
    Calls Tryd.prog 51 #[lnR L op d a b im T N] w fun e w' => e = .returned (.bool false) ∧ Below w.heap.size w w' := by
  have HX0 := Lib.hid (Blk.new w 42 [.string L, .int .u8 op, .int .u8 d, .int .u8 a, .int .u8 b, .int .u32 im, .string T, .string N])
  have HB0 := Lib.hid (below_new1 w (.cells #[.string L, .int .u8 op, .int .u8 d, .int .u8 a, .int .u8 b, .int .u32 im, .string T, .string N] 42))
  unfold lnR
  go_enter Tryd.func51, Tryd.ntmps51
  go_wp2_with fail
  refine (H1.out _).mono ?_; rintro e w1 ⟨rfl, q⟩
  have HX1 := Lib.hid (HX0.out.call q)
  have HB1 := Lib.hid (below_call HB0.out q)
  clear q HX0 HB0 
  obtain ⟨y0, y1, y2, y3, y4, y5, y6, y7⟩ := HX1.out.eight
  go_wp2_with fail
  refine (H2.out _).mono ?_; rintro e w2 ⟨rfl, q⟩
  have HX2 := Lib.hid (HX1.out.call q)
  have HB2 := Lib.hid (below_call HB1.out q)
  clear q HX1 HB1 y0 y1 y2 y3 y4 y5 y6 y7
  obtain ⟨y0, y1, y2, y3, y4, y5, y6, y7⟩ := HX2.out.eight
  go_wp2_with fail
  go_ret
  exact ⟨rfl, HB2.out⟩
set_option maxHeartbeats 4000000 in
set_option maxRecDepth 100000 in
theorem isline_no3 (L T N : ByteArray) (op d a b im : Int) (w : World) (H1 : Hid (∀ W, Calls Tryd.prog 71 #[.string L] W fun e w' => e = .returned (.bool true) ∧ Below W.heap.size W w')) (H2 : Hid (∀ W, Calls Tryd.prog 71 #[.string T] W fun e w' => e = .returned (.bool true) ∧ Below W.heap.size W w')) (H3 : Hid (∀ W, Calls Tryd.prog 71 #[.string N] W fun e w' => e = .returned (.bool false) ∧ Below W.heap.size W w')) :
    Calls Tryd.prog 51 #[lnR L op d a b im T N] w fun e w' => e = .returned (.bool false) ∧ Below w.heap.size w w' := by
  have HX0 := Lib.hid (Blk.new w 42 [.string L, .int .u8 op, .int .u8 d, .int .u8 a, .int .u8 b, .int .u32 im, .string T, .string N])
  have HB0 := Lib.hid (below_new1 w (.cells #[.string L, .int .u8 op, .int .u8 d, .int .u8 a, .int .u8 b, .int .u32 im, .string T, .string N] 42))
  unfold lnR
  go_enter Tryd.func51, Tryd.ntmps51
  go_wp2_with fail
  refine (H1.out _).mono ?_; rintro e w1 ⟨rfl, q⟩
  have HX1 := Lib.hid (HX0.out.call q)
  have HB1 := Lib.hid (below_call HB0.out q)
  clear q HX0 HB0 
  obtain ⟨y0, y1, y2, y3, y4, y5, y6, y7⟩ := HX1.out.eight
  go_wp2_with fail
  refine (H2.out _).mono ?_; rintro e w2 ⟨rfl, q⟩
  have HX2 := Lib.hid (HX1.out.call q)
  have HB2 := Lib.hid (below_call HB1.out q)
  clear q HX1 HB1 y0 y1 y2 y3 y4 y5 y6 y7
  obtain ⟨y0, y1, y2, y3, y4, y5, y6, y7⟩ := HX2.out.eight
  go_wp2_with fail
  refine (H3.out _).mono ?_; rintro e w3 ⟨rfl, q⟩
  have HX3 := Lib.hid (HX2.out.call q)
  have HB3 := Lib.hid (below_call HB2.out q)
  clear q HX2 HB2 y0 y1 y2 y3 y4 y5 y6 y7
  obtain ⟨y0, y1, y2, y3, y4, y5, y6, y7⟩ := HX3.out.eight
  go_wp2_with fail
  go_ret
  exact ⟨rfl, HB3.out⟩
set_option maxHeartbeats 4000000 in
set_option maxRecDepth 100000 in
theorem isline_no4 (L T N : ByteArray) (op d a b im : Int) (w : World) (H1 : Hid (∀ W, Calls Tryd.prog 71 #[.string L] W fun e w' => e = .returned (.bool true) ∧ Below W.heap.size W w')) (H2 : Hid (∀ W, Calls Tryd.prog 71 #[.string T] W fun e w' => e = .returned (.bool true) ∧ Below W.heap.size W w')) (H3 : Hid (∀ W, Calls Tryd.prog 71 #[.string N] W fun e w' => e = .returned (.bool true) ∧ Below W.heap.size W w')) (h1 : (T.toList == []) = false) (h2 : (N.toList == []) = false) :
    Calls Tryd.prog 51 #[lnR L op d a b im T N] w fun e w' => e = .returned (.bool false) ∧ Below w.heap.size w w' := by
  have HX0 := Lib.hid (Blk.new w 42 [.string L, .int .u8 op, .int .u8 d, .int .u8 a, .int .u8 b, .int .u32 im, .string T, .string N])
  have HB0 := Lib.hid (below_new1 w (.cells #[.string L, .int .u8 op, .int .u8 d, .int .u8 a, .int .u8 b, .int .u32 im, .string T, .string N] 42))
  unfold lnR
  go_enter Tryd.func51, Tryd.ntmps51
  go_wp2_with fail
  refine (H1.out _).mono ?_; rintro e w1 ⟨rfl, q⟩
  have HX1 := Lib.hid (HX0.out.call q)
  have HB1 := Lib.hid (below_call HB0.out q)
  clear q HX0 HB0 
  obtain ⟨y0, y1, y2, y3, y4, y5, y6, y7⟩ := HX1.out.eight
  go_wp2_with fail
  refine (H2.out _).mono ?_; rintro e w2 ⟨rfl, q⟩
  have HX2 := Lib.hid (HX1.out.call q)
  have HB2 := Lib.hid (below_call HB1.out q)
  clear q HX1 HB1 y0 y1 y2 y3 y4 y5 y6 y7
  obtain ⟨y0, y1, y2, y3, y4, y5, y6, y7⟩ := HX2.out.eight
  go_wp2_with fail
  refine (H3.out _).mono ?_; rintro e w3 ⟨rfl, q⟩
  have HX3 := Lib.hid (HX2.out.call q)
  have HB3 := Lib.hid (below_call HB2.out q)
  clear q HX2 HB2 y0 y1 y2 y3 y4 y5 y6 y7
  obtain ⟨y0, y1, y2, y3, y4, y5, y6, y7⟩ := HX3.out.eight
  go_wp2_with fail
  go_ret
  exact ⟨rfl, HB3.out⟩
set_option maxHeartbeats 4000000 in
set_option maxRecDepth 100000 in
theorem isline_r1121 (L T N : ByteArray) (op d a b im : Int) (w : World) (J : Int) (H1 : Hid (∀ W, Calls Tryd.prog 71 #[.string L] W fun e w' => e = .returned (.bool true) ∧ Below W.heap.size W w')) (H2 : Hid (∀ W, Calls Tryd.prog 71 #[.string T] W fun e w' => e = .returned (.bool true) ∧ Below W.heap.size W w')) (H3 : Hid (∀ W, Calls Tryd.prog 71 #[.string N] W fun e w' => e = .returned (.bool true) ∧ Below W.heap.size W w')) (h1 : (T.toList == []) = true) (h2 : (N.toList == []) = true) (HU : Hid (∀ W, Below w.heap.size w W → Calls Tryd.prog 69 #[.int .u8 op] W fun e w' => ∃ v1 v2 v3 v5, e = .returned (.tuple #[v1, v2, v3, .bool true, v5]) ∧ W = w')) (HP : Hid (∀ W, Calls Tryd.prog 52 #[lnR L op d a b im T N] W fun e w' => e = .returned (inV op d a b J) ∧ Below W.heap.size W w')) (HK : Hid (∀ W, Below w.heap.size w W → Calls Tryd.prog 50 #[inV op d a b J] W fun e w' => e = .returned (.int .i64 2) ∧ Below W.heap.size W w')) :
    Calls Tryd.prog 51 #[lnR L op d a b im T N] w fun e w' => e = .returned (.bool false) ∧ Below w.heap.size w w' := by
  have HX0 := Lib.hid (Blk.new w 42 [.string L, .int .u8 op, .int .u8 d, .int .u8 a, .int .u8 b, .int .u32 im, .string T, .string N])
  have HB0 := Lib.hid (below_new1 w (.cells #[.string L, .int .u8 op, .int .u8 d, .int .u8 a, .int .u8 b, .int .u32 im, .string T, .string N] 42))
  unfold inV at HP HK
  unfold lnR at HP ⊢
  go_enter Tryd.func51, Tryd.ntmps51
  go_wp2_with fail
  refine (H1.out _).mono ?_; rintro e w1 ⟨rfl, q⟩
  have HX1 := Lib.hid (HX0.out.call q)
  have HB1 := Lib.hid (below_call HB0.out q)
  clear q HX0 HB0 
  obtain ⟨y0, y1, y2, y3, y4, y5, y6, y7⟩ := HX1.out.eight
  go_wp2_with fail
  refine (H2.out _).mono ?_; rintro e w2 ⟨rfl, q⟩
  have HX2 := Lib.hid (HX1.out.call q)
  have HB2 := Lib.hid (below_call HB1.out q)
  clear q HX1 HB1 y0 y1 y2 y3 y4 y5 y6 y7
  obtain ⟨y0, y1, y2, y3, y4, y5, y6, y7⟩ := HX2.out.eight
  go_wp2_with fail
  refine (H3.out _).mono ?_; rintro e w3 ⟨rfl, q⟩
  have HX3 := Lib.hid (HX2.out.call q)
  have HB3 := Lib.hid (below_call HB2.out q)
  clear q HX2 HB2 y0 y1 y2 y3 y4 y5 y6 y7
  obtain ⟨y0, y1, y2, y3, y4, y5, y6, y7⟩ := HX3.out.eight
  go_wp2_with fail
  refine (HU.out _ HB3.out).mono ?_; rintro e w4 ⟨v1, v2, v3, v5, rfl, rfl⟩
  go_wp2_with fail
  refine (HP.out _).mono ?_; rintro e w4 ⟨rfl, q⟩
  have HX4 := Lib.hid (HX3.out.call q)
  have HB4 := Lib.hid (below_call HB3.out q)
  clear q HX3 HB3 y0 y1 y2 y3 y4 y5 y6 y7
  obtain ⟨y0, y1, y2, y3, y4, y5, y6, y7⟩ := HX4.out.eight
  go_wp2_with fail
  refine (HK.out _ HB4.out).mono ?_; rintro e w5 ⟨rfl, q⟩
  have HX5 := Lib.hid (HX4.out.call q)
  have HB5 := Lib.hid (below_call HB4.out q)
  clear q HX4 HB4 y0 y1 y2 y3 y4 y5 y6 y7
  obtain ⟨y0, y1, y2, y3, y4, y5, y6, y7⟩ := HX5.out.eight
  go_wp2_with fail
  go_ret
  exact ⟨rfl, HB5.out⟩
set_option maxHeartbeats 4000000 in
set_option maxRecDepth 100000 in
theorem isline_r1120 (L T N : ByteArray) (op d a b im : Int) (w : World) (J : Int) (H1 : Hid (∀ W, Calls Tryd.prog 71 #[.string L] W fun e w' => e = .returned (.bool true) ∧ Below W.heap.size W w')) (H2 : Hid (∀ W, Calls Tryd.prog 71 #[.string T] W fun e w' => e = .returned (.bool true) ∧ Below W.heap.size W w')) (H3 : Hid (∀ W, Calls Tryd.prog 71 #[.string N] W fun e w' => e = .returned (.bool true) ∧ Below W.heap.size W w')) (h1 : (T.toList == []) = true) (h2 : (N.toList == []) = true) (HU : Hid (∀ W, Below w.heap.size w W → Calls Tryd.prog 69 #[.int .u8 op] W fun e w' => ∃ v1 v2 v3 v5, e = .returned (.tuple #[v1, v2, v3, .bool false, v5]) ∧ W = w')) (HP : Hid (∀ W, Calls Tryd.prog 52 #[lnR L op d a b im T N] W fun e w' => e = .returned (inV op d a b J) ∧ Below W.heap.size W w')) (HK : Hid (∀ W, Below w.heap.size w W → Calls Tryd.prog 50 #[inV op d a b J] W fun e w' => e = .returned (.int .i64 2) ∧ Below W.heap.size W w')) :
    Calls Tryd.prog 51 #[lnR L op d a b im T N] w fun e w' => e = .returned (.bool false) ∧ Below w.heap.size w w' := by
  have HX0 := Lib.hid (Blk.new w 42 [.string L, .int .u8 op, .int .u8 d, .int .u8 a, .int .u8 b, .int .u32 im, .string T, .string N])
  have HB0 := Lib.hid (below_new1 w (.cells #[.string L, .int .u8 op, .int .u8 d, .int .u8 a, .int .u8 b, .int .u32 im, .string T, .string N] 42))
  unfold inV at HP HK
  unfold lnR at HP ⊢
  go_enter Tryd.func51, Tryd.ntmps51
  go_wp2_with fail
  refine (H1.out _).mono ?_; rintro e w1 ⟨rfl, q⟩
  have HX1 := Lib.hid (HX0.out.call q)
  have HB1 := Lib.hid (below_call HB0.out q)
  clear q HX0 HB0 
  obtain ⟨y0, y1, y2, y3, y4, y5, y6, y7⟩ := HX1.out.eight
  go_wp2_with fail
  refine (H2.out _).mono ?_; rintro e w2 ⟨rfl, q⟩
  have HX2 := Lib.hid (HX1.out.call q)
  have HB2 := Lib.hid (below_call HB1.out q)
  clear q HX1 HB1 y0 y1 y2 y3 y4 y5 y6 y7
  obtain ⟨y0, y1, y2, y3, y4, y5, y6, y7⟩ := HX2.out.eight
  go_wp2_with fail
  refine (H3.out _).mono ?_; rintro e w3 ⟨rfl, q⟩
  have HX3 := Lib.hid (HX2.out.call q)
  have HB3 := Lib.hid (below_call HB2.out q)
  clear q HX2 HB2 y0 y1 y2 y3 y4 y5 y6 y7
  obtain ⟨y0, y1, y2, y3, y4, y5, y6, y7⟩ := HX3.out.eight
  go_wp2_with fail
  refine (HU.out _ HB3.out).mono ?_; rintro e w4 ⟨v1, v2, v3, v5, rfl, rfl⟩
  go_wp2_with fail
  refine (HP.out _).mono ?_; rintro e w4 ⟨rfl, q⟩
  have HX4 := Lib.hid (HX3.out.call q)
  have HB4 := Lib.hid (below_call HB3.out q)
  clear q HX3 HB3 y0 y1 y2 y3 y4 y5 y6 y7
  obtain ⟨y0, y1, y2, y3, y4, y5, y6, y7⟩ := HX4.out.eight
  go_wp2_with fail
  refine (HK.out _ HB4.out).mono ?_; rintro e w5 ⟨rfl, q⟩
  have HX5 := Lib.hid (HX4.out.call q)
  have HB5 := Lib.hid (below_call HB4.out q)
  clear q HX4 HB4 y0 y1 y2 y3 y4 y5 y6 y7
  obtain ⟨y0, y1, y2, y3, y4, y5, y6, y7⟩ := HX5.out.eight
  go_wp2_with fail
  go_ret
  exact ⟨rfl, HB5.out⟩
set_option maxHeartbeats 4000000 in
set_option maxRecDepth 100000 in
theorem isline_r1101 (L T N : ByteArray) (op d a b im : Int) (w : World) (J : Int) (H1 : Hid (∀ W, Calls Tryd.prog 71 #[.string L] W fun e w' => e = .returned (.bool true) ∧ Below W.heap.size W w')) (H2 : Hid (∀ W, Calls Tryd.prog 71 #[.string T] W fun e w' => e = .returned (.bool true) ∧ Below W.heap.size W w')) (H3 : Hid (∀ W, Calls Tryd.prog 71 #[.string N] W fun e w' => e = .returned (.bool true) ∧ Below W.heap.size W w')) (h1 : (T.toList == []) = true) (h2 : (N.toList == []) = true) (HU : Hid (∀ W, Below w.heap.size w W → Calls Tryd.prog 69 #[.int .u8 op] W fun e w' => ∃ v1 v2 v3 v5, e = .returned (.tuple #[v1, v2, v3, .bool true, v5]) ∧ W = w')) (HP : Hid (∀ W, Calls Tryd.prog 52 #[lnR L op d a b im T N] W fun e w' => e = .returned (inV op d a b J) ∧ Below W.heap.size W w')) (HK : Hid (∀ W, Below w.heap.size w W → Calls Tryd.prog 50 #[inV op d a b J] W fun e w' => e = .returned (.int .i64 0) ∧ Below W.heap.size W w')) :
    Calls Tryd.prog 51 #[lnR L op d a b im T N] w fun e w' => e = .returned (.bool true) ∧ Below w.heap.size w w' := by
  have HX0 := Lib.hid (Blk.new w 42 [.string L, .int .u8 op, .int .u8 d, .int .u8 a, .int .u8 b, .int .u32 im, .string T, .string N])
  have HB0 := Lib.hid (below_new1 w (.cells #[.string L, .int .u8 op, .int .u8 d, .int .u8 a, .int .u8 b, .int .u32 im, .string T, .string N] 42))
  unfold inV at HP HK
  unfold lnR at HP ⊢
  go_enter Tryd.func51, Tryd.ntmps51
  go_wp2_with fail
  refine (H1.out _).mono ?_; rintro e w1 ⟨rfl, q⟩
  have HX1 := Lib.hid (HX0.out.call q)
  have HB1 := Lib.hid (below_call HB0.out q)
  clear q HX0 HB0 
  obtain ⟨y0, y1, y2, y3, y4, y5, y6, y7⟩ := HX1.out.eight
  go_wp2_with fail
  refine (H2.out _).mono ?_; rintro e w2 ⟨rfl, q⟩
  have HX2 := Lib.hid (HX1.out.call q)
  have HB2 := Lib.hid (below_call HB1.out q)
  clear q HX1 HB1 y0 y1 y2 y3 y4 y5 y6 y7
  obtain ⟨y0, y1, y2, y3, y4, y5, y6, y7⟩ := HX2.out.eight
  go_wp2_with fail
  refine (H3.out _).mono ?_; rintro e w3 ⟨rfl, q⟩
  have HX3 := Lib.hid (HX2.out.call q)
  have HB3 := Lib.hid (below_call HB2.out q)
  clear q HX2 HB2 y0 y1 y2 y3 y4 y5 y6 y7
  obtain ⟨y0, y1, y2, y3, y4, y5, y6, y7⟩ := HX3.out.eight
  go_wp2_with fail
  refine (HU.out _ HB3.out).mono ?_; rintro e w4 ⟨v1, v2, v3, v5, rfl, rfl⟩
  go_wp2_with fail
  refine (HP.out _).mono ?_; rintro e w4 ⟨rfl, q⟩
  have HX4 := Lib.hid (HX3.out.call q)
  have HB4 := Lib.hid (below_call HB3.out q)
  clear q HX3 HB3 y0 y1 y2 y3 y4 y5 y6 y7
  obtain ⟨y0, y1, y2, y3, y4, y5, y6, y7⟩ := HX4.out.eight
  go_wp2_with fail
  refine (HK.out _ HB4.out).mono ?_; rintro e w5 ⟨rfl, q⟩
  have HX5 := Lib.hid (HX4.out.call q)
  have HB5 := Lib.hid (below_call HB4.out q)
  clear q HX4 HB4 y0 y1 y2 y3 y4 y5 y6 y7
  obtain ⟨y0, y1, y2, y3, y4, y5, y6, y7⟩ := HX5.out.eight
  go_wp2_with fail
  go_ret
  exact ⟨rfl, HB5.out⟩
set_option maxHeartbeats 4000000 in
set_option maxRecDepth 100000 in
theorem isline_r1100 (L T N : ByteArray) (op d a b im : Int) (w : World) (J : Int) (H1 : Hid (∀ W, Calls Tryd.prog 71 #[.string L] W fun e w' => e = .returned (.bool true) ∧ Below W.heap.size W w')) (H2 : Hid (∀ W, Calls Tryd.prog 71 #[.string T] W fun e w' => e = .returned (.bool true) ∧ Below W.heap.size W w')) (H3 : Hid (∀ W, Calls Tryd.prog 71 #[.string N] W fun e w' => e = .returned (.bool true) ∧ Below W.heap.size W w')) (h1 : (T.toList == []) = true) (h2 : (N.toList == []) = true) (HU : Hid (∀ W, Below w.heap.size w W → Calls Tryd.prog 69 #[.int .u8 op] W fun e w' => ∃ v1 v2 v3 v5, e = .returned (.tuple #[v1, v2, v3, .bool false, v5]) ∧ W = w')) (HP : Hid (∀ W, Calls Tryd.prog 52 #[lnR L op d a b im T N] W fun e w' => e = .returned (inV op d a b J) ∧ Below W.heap.size W w')) (HK : Hid (∀ W, Below w.heap.size w W → Calls Tryd.prog 50 #[inV op d a b J] W fun e w' => e = .returned (.int .i64 0) ∧ Below W.heap.size W w')) (HR : Hid (∀ W, Calls Tryd.prog 55 #[lnR L op d a b im T N] W fun e w' => e = .returned (.bool false) ∧ Below W.heap.size W w')) :
    Calls Tryd.prog 51 #[lnR L op d a b im T N] w fun e w' => e = .returned (.bool true) ∧ Below w.heap.size w w' := by
  have HX0 := Lib.hid (Blk.new w 42 [.string L, .int .u8 op, .int .u8 d, .int .u8 a, .int .u8 b, .int .u32 im, .string T, .string N])
  have HB0 := Lib.hid (below_new1 w (.cells #[.string L, .int .u8 op, .int .u8 d, .int .u8 a, .int .u8 b, .int .u32 im, .string T, .string N] 42))
  unfold inV at HP HK
  unfold lnR at HP HR ⊢
  go_enter Tryd.func51, Tryd.ntmps51
  go_wp2_with fail
  refine (H1.out _).mono ?_; rintro e w1 ⟨rfl, q⟩
  have HX1 := Lib.hid (HX0.out.call q)
  have HB1 := Lib.hid (below_call HB0.out q)
  clear q HX0 HB0 
  obtain ⟨y0, y1, y2, y3, y4, y5, y6, y7⟩ := HX1.out.eight
  go_wp2_with fail
  refine (H2.out _).mono ?_; rintro e w2 ⟨rfl, q⟩
  have HX2 := Lib.hid (HX1.out.call q)
  have HB2 := Lib.hid (below_call HB1.out q)
  clear q HX1 HB1 y0 y1 y2 y3 y4 y5 y6 y7
  obtain ⟨y0, y1, y2, y3, y4, y5, y6, y7⟩ := HX2.out.eight
  go_wp2_with fail
  refine (H3.out _).mono ?_; rintro e w3 ⟨rfl, q⟩
  have HX3 := Lib.hid (HX2.out.call q)
  have HB3 := Lib.hid (below_call HB2.out q)
  clear q HX2 HB2 y0 y1 y2 y3 y4 y5 y6 y7
  obtain ⟨y0, y1, y2, y3, y4, y5, y6, y7⟩ := HX3.out.eight
  go_wp2_with fail
  refine (HU.out _ HB3.out).mono ?_; rintro e w4 ⟨v1, v2, v3, v5, rfl, rfl⟩
  go_wp2_with fail
  refine (HP.out _).mono ?_; rintro e w4 ⟨rfl, q⟩
  have HX4 := Lib.hid (HX3.out.call q)
  have HB4 := Lib.hid (below_call HB3.out q)
  clear q HX3 HB3 y0 y1 y2 y3 y4 y5 y6 y7
  obtain ⟨y0, y1, y2, y3, y4, y5, y6, y7⟩ := HX4.out.eight
  go_wp2_with fail
  refine (HK.out _ HB4.out).mono ?_; rintro e w5 ⟨rfl, q⟩
  have HX5 := Lib.hid (HX4.out.call q)
  have HB5 := Lib.hid (below_call HB4.out q)
  clear q HX4 HB4 y0 y1 y2 y3 y4 y5 y6 y7
  obtain ⟨y0, y1, y2, y3, y4, y5, y6, y7⟩ := HX5.out.eight
  go_wp2_with fail
  refine (HR.out _).mono ?_; rintro e w6 ⟨rfl, q⟩
  have HX6 := Lib.hid (HX5.out.call q)
  have HB6 := Lib.hid (below_call HB5.out q)
  clear q HX5 HB5 y0 y1 y2 y3 y4 y5 y6 y7
  obtain ⟨y0, y1, y2, y3, y4, y5, y6, y7⟩ := HX6.out.eight
  go_wp2_with fail
  go_ret
  exact ⟨rfl, HB6.out⟩
set_option maxHeartbeats 4000000 in
set_option maxRecDepth 100000 in
theorem isline_r1021 (L T N : ByteArray) (op d a b im : Int) (w : World) (J : Int) (H1 : Hid (∀ W, Calls Tryd.prog 71 #[.string L] W fun e w' => e = .returned (.bool true) ∧ Below W.heap.size W w')) (H2 : Hid (∀ W, Calls Tryd.prog 71 #[.string T] W fun e w' => e = .returned (.bool true) ∧ Below W.heap.size W w')) (H3 : Hid (∀ W, Calls Tryd.prog 71 #[.string N] W fun e w' => e = .returned (.bool true) ∧ Below W.heap.size W w')) (h1 : (T.toList == []) = true) (h2 : (N.toList == []) = false) (HU : Hid (∀ W, Below w.heap.size w W → Calls Tryd.prog 69 #[.int .u8 op] W fun e w' => ∃ v1 v2 v3 v5, e = .returned (.tuple #[v1, v2, v3, .bool true, v5]) ∧ W = w')) (HP : Hid (∀ W, Calls Tryd.prog 52 #[lnR L op d a b im T N] W fun e w' => e = .returned (inV op d a b J) ∧ Below W.heap.size W w')) (HK : Hid (∀ W, Below w.heap.size w W → Calls Tryd.prog 50 #[inV op d a b J] W fun e w' => e = .returned (.int .i64 2) ∧ Below W.heap.size W w')) :
    Calls Tryd.prog 51 #[lnR L op d a b im T N] w fun e w' => e = .returned (.bool false) ∧ Below w.heap.size w w' := by
  have HX0 := Lib.hid (Blk.new w 42 [.string L, .int .u8 op, .int .u8 d, .int .u8 a, .int .u8 b, .int .u32 im, .string T, .string N])
  have HB0 := Lib.hid (below_new1 w (.cells #[.string L, .int .u8 op, .int .u8 d, .int .u8 a, .int .u8 b, .int .u32 im, .string T, .string N] 42))
  unfold inV at HP HK
  unfold lnR at HP ⊢
  go_enter Tryd.func51, Tryd.ntmps51
  go_wp2_with fail
  refine (H1.out _).mono ?_; rintro e w1 ⟨rfl, q⟩
  have HX1 := Lib.hid (HX0.out.call q)
  have HB1 := Lib.hid (below_call HB0.out q)
  clear q HX0 HB0 
  obtain ⟨y0, y1, y2, y3, y4, y5, y6, y7⟩ := HX1.out.eight
  go_wp2_with fail
  refine (H2.out _).mono ?_; rintro e w2 ⟨rfl, q⟩
  have HX2 := Lib.hid (HX1.out.call q)
  have HB2 := Lib.hid (below_call HB1.out q)
  clear q HX1 HB1 y0 y1 y2 y3 y4 y5 y6 y7
  obtain ⟨y0, y1, y2, y3, y4, y5, y6, y7⟩ := HX2.out.eight
  go_wp2_with fail
  refine (H3.out _).mono ?_; rintro e w3 ⟨rfl, q⟩
  have HX3 := Lib.hid (HX2.out.call q)
  have HB3 := Lib.hid (below_call HB2.out q)
  clear q HX2 HB2 y0 y1 y2 y3 y4 y5 y6 y7
  obtain ⟨y0, y1, y2, y3, y4, y5, y6, y7⟩ := HX3.out.eight
  go_wp2_with fail
  refine (HU.out _ HB3.out).mono ?_; rintro e w4 ⟨v1, v2, v3, v5, rfl, rfl⟩
  go_wp2_with fail
  refine (HP.out _).mono ?_; rintro e w4 ⟨rfl, q⟩
  have HX4 := Lib.hid (HX3.out.call q)
  have HB4 := Lib.hid (below_call HB3.out q)
  clear q HX3 HB3 y0 y1 y2 y3 y4 y5 y6 y7
  obtain ⟨y0, y1, y2, y3, y4, y5, y6, y7⟩ := HX4.out.eight
  go_wp2_with fail
  refine (HK.out _ HB4.out).mono ?_; rintro e w5 ⟨rfl, q⟩
  have HX5 := Lib.hid (HX4.out.call q)
  have HB5 := Lib.hid (below_call HB4.out q)
  clear q HX4 HB4 y0 y1 y2 y3 y4 y5 y6 y7
  obtain ⟨y0, y1, y2, y3, y4, y5, y6, y7⟩ := HX5.out.eight
  go_wp2_with fail
  go_ret
  exact ⟨rfl, HB5.out⟩
set_option maxHeartbeats 4000000 in
set_option maxRecDepth 100000 in
theorem isline_r1020 (L T N : ByteArray) (op d a b im : Int) (w : World) (J : Int) (H1 : Hid (∀ W, Calls Tryd.prog 71 #[.string L] W fun e w' => e = .returned (.bool true) ∧ Below W.heap.size W w')) (H2 : Hid (∀ W, Calls Tryd.prog 71 #[.string T] W fun e w' => e = .returned (.bool true) ∧ Below W.heap.size W w')) (H3 : Hid (∀ W, Calls Tryd.prog 71 #[.string N] W fun e w' => e = .returned (.bool true) ∧ Below W.heap.size W w')) (h1 : (T.toList == []) = true) (h2 : (N.toList == []) = false) (HU : Hid (∀ W, Below w.heap.size w W → Calls Tryd.prog 69 #[.int .u8 op] W fun e w' => ∃ v1 v2 v3 v5, e = .returned (.tuple #[v1, v2, v3, .bool false, v5]) ∧ W = w')) (HP : Hid (∀ W, Calls Tryd.prog 52 #[lnR L op d a b im T N] W fun e w' => e = .returned (inV op d a b J) ∧ Below W.heap.size W w')) (HK : Hid (∀ W, Below w.heap.size w W → Calls Tryd.prog 50 #[inV op d a b J] W fun e w' => e = .returned (.int .i64 2) ∧ Below W.heap.size W w')) :
    Calls Tryd.prog 51 #[lnR L op d a b im T N] w fun e w' => e = .returned (.bool false) ∧ Below w.heap.size w w' := by
  have HX0 := Lib.hid (Blk.new w 42 [.string L, .int .u8 op, .int .u8 d, .int .u8 a, .int .u8 b, .int .u32 im, .string T, .string N])
  have HB0 := Lib.hid (below_new1 w (.cells #[.string L, .int .u8 op, .int .u8 d, .int .u8 a, .int .u8 b, .int .u32 im, .string T, .string N] 42))
  unfold inV at HP HK
  unfold lnR at HP ⊢
  go_enter Tryd.func51, Tryd.ntmps51
  go_wp2_with fail
  refine (H1.out _).mono ?_; rintro e w1 ⟨rfl, q⟩
  have HX1 := Lib.hid (HX0.out.call q)
  have HB1 := Lib.hid (below_call HB0.out q)
  clear q HX0 HB0 
  obtain ⟨y0, y1, y2, y3, y4, y5, y6, y7⟩ := HX1.out.eight
  go_wp2_with fail
  refine (H2.out _).mono ?_; rintro e w2 ⟨rfl, q⟩
  have HX2 := Lib.hid (HX1.out.call q)
  have HB2 := Lib.hid (below_call HB1.out q)
  clear q HX1 HB1 y0 y1 y2 y3 y4 y5 y6 y7
  obtain ⟨y0, y1, y2, y3, y4, y5, y6, y7⟩ := HX2.out.eight
  go_wp2_with fail
  refine (H3.out _).mono ?_; rintro e w3 ⟨rfl, q⟩
  have HX3 := Lib.hid (HX2.out.call q)
  have HB3 := Lib.hid (below_call HB2.out q)
  clear q HX2 HB2 y0 y1 y2 y3 y4 y5 y6 y7
  obtain ⟨y0, y1, y2, y3, y4, y5, y6, y7⟩ := HX3.out.eight
  go_wp2_with fail
  refine (HU.out _ HB3.out).mono ?_; rintro e w4 ⟨v1, v2, v3, v5, rfl, rfl⟩
  go_wp2_with fail
  refine (HP.out _).mono ?_; rintro e w4 ⟨rfl, q⟩
  have HX4 := Lib.hid (HX3.out.call q)
  have HB4 := Lib.hid (below_call HB3.out q)
  clear q HX3 HB3 y0 y1 y2 y3 y4 y5 y6 y7
  obtain ⟨y0, y1, y2, y3, y4, y5, y6, y7⟩ := HX4.out.eight
  go_wp2_with fail
  refine (HK.out _ HB4.out).mono ?_; rintro e w5 ⟨rfl, q⟩
  have HX5 := Lib.hid (HX4.out.call q)
  have HB5 := Lib.hid (below_call HB4.out q)
  clear q HX4 HB4 y0 y1 y2 y3 y4 y5 y6 y7
  obtain ⟨y0, y1, y2, y3, y4, y5, y6, y7⟩ := HX5.out.eight
  go_wp2_with fail
  go_ret
  exact ⟨rfl, HB5.out⟩
set_option maxHeartbeats 4000000 in
set_option maxRecDepth 100000 in
theorem isline_r1001 (L T N : ByteArray) (op d a b im : Int) (w : World) (J : Int) (H1 : Hid (∀ W, Calls Tryd.prog 71 #[.string L] W fun e w' => e = .returned (.bool true) ∧ Below W.heap.size W w')) (H2 : Hid (∀ W, Calls Tryd.prog 71 #[.string T] W fun e w' => e = .returned (.bool true) ∧ Below W.heap.size W w')) (H3 : Hid (∀ W, Calls Tryd.prog 71 #[.string N] W fun e w' => e = .returned (.bool true) ∧ Below W.heap.size W w')) (h1 : (T.toList == []) = true) (h2 : (N.toList == []) = false) (HU : Hid (∀ W, Below w.heap.size w W → Calls Tryd.prog 69 #[.int .u8 op] W fun e w' => ∃ v1 v2 v3 v5, e = .returned (.tuple #[v1, v2, v3, .bool true, v5]) ∧ W = w')) (HP : Hid (∀ W, Calls Tryd.prog 52 #[lnR L op d a b im T N] W fun e w' => e = .returned (inV op d a b J) ∧ Below W.heap.size W w')) (HK : Hid (∀ W, Below w.heap.size w W → Calls Tryd.prog 50 #[inV op d a b J] W fun e w' => e = .returned (.int .i64 0) ∧ Below W.heap.size W w')) :
    Calls Tryd.prog 51 #[lnR L op d a b im T N] w fun e w' => e = .returned (.bool true) ∧ Below w.heap.size w w' := by
  have HX0 := Lib.hid (Blk.new w 42 [.string L, .int .u8 op, .int .u8 d, .int .u8 a, .int .u8 b, .int .u32 im, .string T, .string N])
  have HB0 := Lib.hid (below_new1 w (.cells #[.string L, .int .u8 op, .int .u8 d, .int .u8 a, .int .u8 b, .int .u32 im, .string T, .string N] 42))
  unfold inV at HP HK
  unfold lnR at HP ⊢
  go_enter Tryd.func51, Tryd.ntmps51
  go_wp2_with fail
  refine (H1.out _).mono ?_; rintro e w1 ⟨rfl, q⟩
  have HX1 := Lib.hid (HX0.out.call q)
  have HB1 := Lib.hid (below_call HB0.out q)
  clear q HX0 HB0 
  obtain ⟨y0, y1, y2, y3, y4, y5, y6, y7⟩ := HX1.out.eight
  go_wp2_with fail
  refine (H2.out _).mono ?_; rintro e w2 ⟨rfl, q⟩
  have HX2 := Lib.hid (HX1.out.call q)
  have HB2 := Lib.hid (below_call HB1.out q)
  clear q HX1 HB1 y0 y1 y2 y3 y4 y5 y6 y7
  obtain ⟨y0, y1, y2, y3, y4, y5, y6, y7⟩ := HX2.out.eight
  go_wp2_with fail
  refine (H3.out _).mono ?_; rintro e w3 ⟨rfl, q⟩
  have HX3 := Lib.hid (HX2.out.call q)
  have HB3 := Lib.hid (below_call HB2.out q)
  clear q HX2 HB2 y0 y1 y2 y3 y4 y5 y6 y7
  obtain ⟨y0, y1, y2, y3, y4, y5, y6, y7⟩ := HX3.out.eight
  go_wp2_with fail
  refine (HU.out _ HB3.out).mono ?_; rintro e w4 ⟨v1, v2, v3, v5, rfl, rfl⟩
  go_wp2_with fail
  refine (HP.out _).mono ?_; rintro e w4 ⟨rfl, q⟩
  have HX4 := Lib.hid (HX3.out.call q)
  have HB4 := Lib.hid (below_call HB3.out q)
  clear q HX3 HB3 y0 y1 y2 y3 y4 y5 y6 y7
  obtain ⟨y0, y1, y2, y3, y4, y5, y6, y7⟩ := HX4.out.eight
  go_wp2_with fail
  refine (HK.out _ HB4.out).mono ?_; rintro e w5 ⟨rfl, q⟩
  have HX5 := Lib.hid (HX4.out.call q)
  have HB5 := Lib.hid (below_call HB4.out q)
  clear q HX4 HB4 y0 y1 y2 y3 y4 y5 y6 y7
  obtain ⟨y0, y1, y2, y3, y4, y5, y6, y7⟩ := HX5.out.eight
  go_wp2_with fail
  go_ret
  exact ⟨rfl, HB5.out⟩
set_option maxHeartbeats 4000000 in
set_option maxRecDepth 100000 in
theorem isline_r1000 (L T N : ByteArray) (op d a b im : Int) (w : World) (J : Int) (H1 : Hid (∀ W, Calls Tryd.prog 71 #[.string L] W fun e w' => e = .returned (.bool true) ∧ Below W.heap.size W w')) (H2 : Hid (∀ W, Calls Tryd.prog 71 #[.string T] W fun e w' => e = .returned (.bool true) ∧ Below W.heap.size W w')) (H3 : Hid (∀ W, Calls Tryd.prog 71 #[.string N] W fun e w' => e = .returned (.bool true) ∧ Below W.heap.size W w')) (h1 : (T.toList == []) = true) (h2 : (N.toList == []) = false) (HU : Hid (∀ W, Below w.heap.size w W → Calls Tryd.prog 69 #[.int .u8 op] W fun e w' => ∃ v1 v2 v3 v5, e = .returned (.tuple #[v1, v2, v3, .bool false, v5]) ∧ W = w')) (HP : Hid (∀ W, Calls Tryd.prog 52 #[lnR L op d a b im T N] W fun e w' => e = .returned (inV op d a b J) ∧ Below W.heap.size W w')) (HK : Hid (∀ W, Below w.heap.size w W → Calls Tryd.prog 50 #[inV op d a b J] W fun e w' => e = .returned (.int .i64 0) ∧ Below W.heap.size W w')) (HR : Hid (∀ W, Calls Tryd.prog 55 #[lnR L op d a b im T N] W fun e w' => e = .returned (.bool true) ∧ Below W.heap.size W w')) :
    Calls Tryd.prog 51 #[lnR L op d a b im T N] w fun e w' => e = .returned (.bool false) ∧ Below w.heap.size w w' := by
  have HX0 := Lib.hid (Blk.new w 42 [.string L, .int .u8 op, .int .u8 d, .int .u8 a, .int .u8 b, .int .u32 im, .string T, .string N])
  have HB0 := Lib.hid (below_new1 w (.cells #[.string L, .int .u8 op, .int .u8 d, .int .u8 a, .int .u8 b, .int .u32 im, .string T, .string N] 42))
  unfold inV at HP HK
  unfold lnR at HP HR ⊢
  go_enter Tryd.func51, Tryd.ntmps51
  go_wp2_with fail
  refine (H1.out _).mono ?_; rintro e w1 ⟨rfl, q⟩
  have HX1 := Lib.hid (HX0.out.call q)
  have HB1 := Lib.hid (below_call HB0.out q)
  clear q HX0 HB0 
  obtain ⟨y0, y1, y2, y3, y4, y5, y6, y7⟩ := HX1.out.eight
  go_wp2_with fail
  refine (H2.out _).mono ?_; rintro e w2 ⟨rfl, q⟩
  have HX2 := Lib.hid (HX1.out.call q)
  have HB2 := Lib.hid (below_call HB1.out q)
  clear q HX1 HB1 y0 y1 y2 y3 y4 y5 y6 y7
  obtain ⟨y0, y1, y2, y3, y4, y5, y6, y7⟩ := HX2.out.eight
  go_wp2_with fail
  refine (H3.out _).mono ?_; rintro e w3 ⟨rfl, q⟩
  have HX3 := Lib.hid (HX2.out.call q)
  have HB3 := Lib.hid (below_call HB2.out q)
  clear q HX2 HB2 y0 y1 y2 y3 y4 y5 y6 y7
  obtain ⟨y0, y1, y2, y3, y4, y5, y6, y7⟩ := HX3.out.eight
  go_wp2_with fail
  refine (HU.out _ HB3.out).mono ?_; rintro e w4 ⟨v1, v2, v3, v5, rfl, rfl⟩
  go_wp2_with fail
  refine (HP.out _).mono ?_; rintro e w4 ⟨rfl, q⟩
  have HX4 := Lib.hid (HX3.out.call q)
  have HB4 := Lib.hid (below_call HB3.out q)
  clear q HX3 HB3 y0 y1 y2 y3 y4 y5 y6 y7
  obtain ⟨y0, y1, y2, y3, y4, y5, y6, y7⟩ := HX4.out.eight
  go_wp2_with fail
  refine (HK.out _ HB4.out).mono ?_; rintro e w5 ⟨rfl, q⟩
  have HX5 := Lib.hid (HX4.out.call q)
  have HB5 := Lib.hid (below_call HB4.out q)
  clear q HX4 HB4 y0 y1 y2 y3 y4 y5 y6 y7
  obtain ⟨y0, y1, y2, y3, y4, y5, y6, y7⟩ := HX5.out.eight
  go_wp2_with fail
  refine (HR.out _).mono ?_; rintro e w6 ⟨rfl, q⟩
  have HX6 := Lib.hid (HX5.out.call q)
  have HB6 := Lib.hid (below_call HB5.out q)
  clear q HX5 HB5 y0 y1 y2 y3 y4 y5 y6 y7
  obtain ⟨y0, y1, y2, y3, y4, y5, y6, y7⟩ := HX6.out.eight
  go_wp2_with fail
  go_ret
  exact ⟨rfl, HB6.out⟩
set_option maxHeartbeats 4000000 in
set_option maxRecDepth 100000 in
theorem isline_r0121 (L T N : ByteArray) (op d a b im : Int) (w : World) (J : Int) (H1 : Hid (∀ W, Calls Tryd.prog 71 #[.string L] W fun e w' => e = .returned (.bool true) ∧ Below W.heap.size W w')) (H2 : Hid (∀ W, Calls Tryd.prog 71 #[.string T] W fun e w' => e = .returned (.bool true) ∧ Below W.heap.size W w')) (H3 : Hid (∀ W, Calls Tryd.prog 71 #[.string N] W fun e w' => e = .returned (.bool true) ∧ Below W.heap.size W w')) (h1 : (T.toList == []) = false) (h2 : (N.toList == []) = true) (HU : Hid (∀ W, Below w.heap.size w W → Calls Tryd.prog 69 #[.int .u8 op] W fun e w' => ∃ v1 v2 v3 v5, e = .returned (.tuple #[v1, v2, v3, .bool true, v5]) ∧ W = w')) (HP : Hid (∀ W, Calls Tryd.prog 52 #[lnR L op d a b im T N] W fun e w' => e = .returned (inV op d a b J) ∧ Below W.heap.size W w')) (HK : Hid (∀ W, Below w.heap.size w W → Calls Tryd.prog 50 #[inV op d a b J] W fun e w' => e = .returned (.int .i64 2) ∧ Below W.heap.size W w')) :
    Calls Tryd.prog 51 #[lnR L op d a b im T N] w fun e w' => e = .returned (.bool false) ∧ Below w.heap.size w w' := by
  have HX0 := Lib.hid (Blk.new w 42 [.string L, .int .u8 op, .int .u8 d, .int .u8 a, .int .u8 b, .int .u32 im, .string T, .string N])
  have HB0 := Lib.hid (below_new1 w (.cells #[.string L, .int .u8 op, .int .u8 d, .int .u8 a, .int .u8 b, .int .u32 im, .string T, .string N] 42))
  unfold inV at HP HK
  unfold lnR at HP ⊢
  go_enter Tryd.func51, Tryd.ntmps51
  go_wp2_with fail
  refine (H1.out _).mono ?_; rintro e w1 ⟨rfl, q⟩
  have HX1 := Lib.hid (HX0.out.call q)
  have HB1 := Lib.hid (below_call HB0.out q)
  clear q HX0 HB0 
  obtain ⟨y0, y1, y2, y3, y4, y5, y6, y7⟩ := HX1.out.eight
  go_wp2_with fail
  refine (H2.out _).mono ?_; rintro e w2 ⟨rfl, q⟩
  have HX2 := Lib.hid (HX1.out.call q)
  have HB2 := Lib.hid (below_call HB1.out q)
  clear q HX1 HB1 y0 y1 y2 y3 y4 y5 y6 y7
  obtain ⟨y0, y1, y2, y3, y4, y5, y6, y7⟩ := HX2.out.eight
  go_wp2_with fail
  refine (H3.out _).mono ?_; rintro e w3 ⟨rfl, q⟩
  have HX3 := Lib.hid (HX2.out.call q)
  have HB3 := Lib.hid (below_call HB2.out q)
  clear q HX2 HB2 y0 y1 y2 y3 y4 y5 y6 y7
  obtain ⟨y0, y1, y2, y3, y4, y5, y6, y7⟩ := HX3.out.eight
  go_wp2_with fail
  refine (HU.out _ HB3.out).mono ?_; rintro e w4 ⟨v1, v2, v3, v5, rfl, rfl⟩
  go_wp2_with fail
  refine (HP.out _).mono ?_; rintro e w4 ⟨rfl, q⟩
  have HX4 := Lib.hid (HX3.out.call q)
  have HB4 := Lib.hid (below_call HB3.out q)
  clear q HX3 HB3 y0 y1 y2 y3 y4 y5 y6 y7
  obtain ⟨y0, y1, y2, y3, y4, y5, y6, y7⟩ := HX4.out.eight
  go_wp2_with fail
  refine (HK.out _ HB4.out).mono ?_; rintro e w5 ⟨rfl, q⟩
  have HX5 := Lib.hid (HX4.out.call q)
  have HB5 := Lib.hid (below_call HB4.out q)
  clear q HX4 HB4 y0 y1 y2 y3 y4 y5 y6 y7
  obtain ⟨y0, y1, y2, y3, y4, y5, y6, y7⟩ := HX5.out.eight
  go_wp2_with fail
  go_ret
  exact ⟨rfl, HB5.out⟩
set_option maxHeartbeats 4000000 in
set_option maxRecDepth 100000 in
theorem isline_r0120 (L T N : ByteArray) (op d a b im : Int) (w : World) (J : Int) (H1 : Hid (∀ W, Calls Tryd.prog 71 #[.string L] W fun e w' => e = .returned (.bool true) ∧ Below W.heap.size W w')) (H2 : Hid (∀ W, Calls Tryd.prog 71 #[.string T] W fun e w' => e = .returned (.bool true) ∧ Below W.heap.size W w')) (H3 : Hid (∀ W, Calls Tryd.prog 71 #[.string N] W fun e w' => e = .returned (.bool true) ∧ Below W.heap.size W w')) (h1 : (T.toList == []) = false) (h2 : (N.toList == []) = true) (HU : Hid (∀ W, Below w.heap.size w W → Calls Tryd.prog 69 #[.int .u8 op] W fun e w' => ∃ v1 v2 v3 v5, e = .returned (.tuple #[v1, v2, v3, .bool false, v5]) ∧ W = w')) (HP : Hid (∀ W, Calls Tryd.prog 52 #[lnR L op d a b im T N] W fun e w' => e = .returned (inV op d a b J) ∧ Below W.heap.size W w')) (HK : Hid (∀ W, Below w.heap.size w W → Calls Tryd.prog 50 #[inV op d a b J] W fun e w' => e = .returned (.int .i64 2) ∧ Below W.heap.size W w')) :
    Calls Tryd.prog 51 #[lnR L op d a b im T N] w fun e w' => e = .returned (.bool false) ∧ Below w.heap.size w w' := by
  have HX0 := Lib.hid (Blk.new w 42 [.string L, .int .u8 op, .int .u8 d, .int .u8 a, .int .u8 b, .int .u32 im, .string T, .string N])
  have HB0 := Lib.hid (below_new1 w (.cells #[.string L, .int .u8 op, .int .u8 d, .int .u8 a, .int .u8 b, .int .u32 im, .string T, .string N] 42))
  unfold inV at HP HK
  unfold lnR at HP ⊢
  go_enter Tryd.func51, Tryd.ntmps51
  go_wp2_with fail
  refine (H1.out _).mono ?_; rintro e w1 ⟨rfl, q⟩
  have HX1 := Lib.hid (HX0.out.call q)
  have HB1 := Lib.hid (below_call HB0.out q)
  clear q HX0 HB0 
  obtain ⟨y0, y1, y2, y3, y4, y5, y6, y7⟩ := HX1.out.eight
  go_wp2_with fail
  refine (H2.out _).mono ?_; rintro e w2 ⟨rfl, q⟩
  have HX2 := Lib.hid (HX1.out.call q)
  have HB2 := Lib.hid (below_call HB1.out q)
  clear q HX1 HB1 y0 y1 y2 y3 y4 y5 y6 y7
  obtain ⟨y0, y1, y2, y3, y4, y5, y6, y7⟩ := HX2.out.eight
  go_wp2_with fail
  refine (H3.out _).mono ?_; rintro e w3 ⟨rfl, q⟩
  have HX3 := Lib.hid (HX2.out.call q)
  have HB3 := Lib.hid (below_call HB2.out q)
  clear q HX2 HB2 y0 y1 y2 y3 y4 y5 y6 y7
  obtain ⟨y0, y1, y2, y3, y4, y5, y6, y7⟩ := HX3.out.eight
  go_wp2_with fail
  refine (HU.out _ HB3.out).mono ?_; rintro e w4 ⟨v1, v2, v3, v5, rfl, rfl⟩
  go_wp2_with fail
  refine (HP.out _).mono ?_; rintro e w4 ⟨rfl, q⟩
  have HX4 := Lib.hid (HX3.out.call q)
  have HB4 := Lib.hid (below_call HB3.out q)
  clear q HX3 HB3 y0 y1 y2 y3 y4 y5 y6 y7
  obtain ⟨y0, y1, y2, y3, y4, y5, y6, y7⟩ := HX4.out.eight
  go_wp2_with fail
  refine (HK.out _ HB4.out).mono ?_; rintro e w5 ⟨rfl, q⟩
  have HX5 := Lib.hid (HX4.out.call q)
  have HB5 := Lib.hid (below_call HB4.out q)
  clear q HX4 HB4 y0 y1 y2 y3 y4 y5 y6 y7
  obtain ⟨y0, y1, y2, y3, y4, y5, y6, y7⟩ := HX5.out.eight
  go_wp2_with fail
  go_ret
  exact ⟨rfl, HB5.out⟩
set_option maxHeartbeats 4000000 in
set_option maxRecDepth 100000 in
theorem isline_r0101 (L T N : ByteArray) (op d a b im : Int) (w : World) (J : Int) (H1 : Hid (∀ W, Calls Tryd.prog 71 #[.string L] W fun e w' => e = .returned (.bool true) ∧ Below W.heap.size W w')) (H2 : Hid (∀ W, Calls Tryd.prog 71 #[.string T] W fun e w' => e = .returned (.bool true) ∧ Below W.heap.size W w')) (H3 : Hid (∀ W, Calls Tryd.prog 71 #[.string N] W fun e w' => e = .returned (.bool true) ∧ Below W.heap.size W w')) (h1 : (T.toList == []) = false) (h2 : (N.toList == []) = true) (HU : Hid (∀ W, Below w.heap.size w W → Calls Tryd.prog 69 #[.int .u8 op] W fun e w' => ∃ v1 v2 v3 v5, e = .returned (.tuple #[v1, v2, v3, .bool true, v5]) ∧ W = w')) (HP : Hid (∀ W, Calls Tryd.prog 52 #[lnR L op d a b im T N] W fun e w' => e = .returned (inV op d a b J) ∧ Below W.heap.size W w')) (HK : Hid (∀ W, Below w.heap.size w W → Calls Tryd.prog 50 #[inV op d a b J] W fun e w' => e = .returned (.int .i64 0) ∧ Below W.heap.size W w')) :
    Calls Tryd.prog 51 #[lnR L op d a b im T N] w fun e w' => e = .returned (.bool true) ∧ Below w.heap.size w w' := by
  have HX0 := Lib.hid (Blk.new w 42 [.string L, .int .u8 op, .int .u8 d, .int .u8 a, .int .u8 b, .int .u32 im, .string T, .string N])
  have HB0 := Lib.hid (below_new1 w (.cells #[.string L, .int .u8 op, .int .u8 d, .int .u8 a, .int .u8 b, .int .u32 im, .string T, .string N] 42))
  unfold inV at HP HK
  unfold lnR at HP ⊢
  go_enter Tryd.func51, Tryd.ntmps51
  go_wp2_with fail
  refine (H1.out _).mono ?_; rintro e w1 ⟨rfl, q⟩
  have HX1 := Lib.hid (HX0.out.call q)
  have HB1 := Lib.hid (below_call HB0.out q)
  clear q HX0 HB0 
  obtain ⟨y0, y1, y2, y3, y4, y5, y6, y7⟩ := HX1.out.eight
  go_wp2_with fail
  refine (H2.out _).mono ?_; rintro e w2 ⟨rfl, q⟩
  have HX2 := Lib.hid (HX1.out.call q)
  have HB2 := Lib.hid (below_call HB1.out q)
  clear q HX1 HB1 y0 y1 y2 y3 y4 y5 y6 y7
  obtain ⟨y0, y1, y2, y3, y4, y5, y6, y7⟩ := HX2.out.eight
  go_wp2_with fail
  refine (H3.out _).mono ?_; rintro e w3 ⟨rfl, q⟩
  have HX3 := Lib.hid (HX2.out.call q)
  have HB3 := Lib.hid (below_call HB2.out q)
  clear q HX2 HB2 y0 y1 y2 y3 y4 y5 y6 y7
  obtain ⟨y0, y1, y2, y3, y4, y5, y6, y7⟩ := HX3.out.eight
  go_wp2_with fail
  refine (HU.out _ HB3.out).mono ?_; rintro e w4 ⟨v1, v2, v3, v5, rfl, rfl⟩
  go_wp2_with fail
  refine (HP.out _).mono ?_; rintro e w4 ⟨rfl, q⟩
  have HX4 := Lib.hid (HX3.out.call q)
  have HB4 := Lib.hid (below_call HB3.out q)
  clear q HX3 HB3 y0 y1 y2 y3 y4 y5 y6 y7
  obtain ⟨y0, y1, y2, y3, y4, y5, y6, y7⟩ := HX4.out.eight
  go_wp2_with fail
  refine (HK.out _ HB4.out).mono ?_; rintro e w5 ⟨rfl, q⟩
  have HX5 := Lib.hid (HX4.out.call q)
  have HB5 := Lib.hid (below_call HB4.out q)
  clear q HX4 HB4 y0 y1 y2 y3 y4 y5 y6 y7
  obtain ⟨y0, y1, y2, y3, y4, y5, y6, y7⟩ := HX5.out.eight
  go_wp2_with fail
  go_ret
  exact ⟨rfl, HB5.out⟩
set_option maxHeartbeats 4000000 in
set_option maxRecDepth 100000 in
theorem isline_r0100 (L T N : ByteArray) (op d a b im : Int) (w : World) (J : Int) (H1 : Hid (∀ W, Calls Tryd.prog 71 #[.string L] W fun e w' => e = .returned (.bool true) ∧ Below W.heap.size W w')) (H2 : Hid (∀ W, Calls Tryd.prog 71 #[.string T] W fun e w' => e = .returned (.bool true) ∧ Below W.heap.size W w')) (H3 : Hid (∀ W, Calls Tryd.prog 71 #[.string N] W fun e w' => e = .returned (.bool true) ∧ Below W.heap.size W w')) (h1 : (T.toList == []) = false) (h2 : (N.toList == []) = true) (HU : Hid (∀ W, Below w.heap.size w W → Calls Tryd.prog 69 #[.int .u8 op] W fun e w' => ∃ v1 v2 v3 v5, e = .returned (.tuple #[v1, v2, v3, .bool false, v5]) ∧ W = w')) (HP : Hid (∀ W, Calls Tryd.prog 52 #[lnR L op d a b im T N] W fun e w' => e = .returned (inV op d a b J) ∧ Below W.heap.size W w')) (HK : Hid (∀ W, Below w.heap.size w W → Calls Tryd.prog 50 #[inV op d a b J] W fun e w' => e = .returned (.int .i64 0) ∧ Below W.heap.size W w')) (HR : Hid (∀ W, Calls Tryd.prog 55 #[lnR L op d a b im T N] W fun e w' => e = .returned (.bool true) ∧ Below W.heap.size W w')) :
    Calls Tryd.prog 51 #[lnR L op d a b im T N] w fun e w' => e = .returned (.bool false) ∧ Below w.heap.size w w' := by
  have HX0 := Lib.hid (Blk.new w 42 [.string L, .int .u8 op, .int .u8 d, .int .u8 a, .int .u8 b, .int .u32 im, .string T, .string N])
  have HB0 := Lib.hid (below_new1 w (.cells #[.string L, .int .u8 op, .int .u8 d, .int .u8 a, .int .u8 b, .int .u32 im, .string T, .string N] 42))
  unfold inV at HP HK
  unfold lnR at HP HR ⊢
  go_enter Tryd.func51, Tryd.ntmps51
  go_wp2_with fail
  refine (H1.out _).mono ?_; rintro e w1 ⟨rfl, q⟩
  have HX1 := Lib.hid (HX0.out.call q)
  have HB1 := Lib.hid (below_call HB0.out q)
  clear q HX0 HB0 
  obtain ⟨y0, y1, y2, y3, y4, y5, y6, y7⟩ := HX1.out.eight
  go_wp2_with fail
  refine (H2.out _).mono ?_; rintro e w2 ⟨rfl, q⟩
  have HX2 := Lib.hid (HX1.out.call q)
  have HB2 := Lib.hid (below_call HB1.out q)
  clear q HX1 HB1 y0 y1 y2 y3 y4 y5 y6 y7
  obtain ⟨y0, y1, y2, y3, y4, y5, y6, y7⟩ := HX2.out.eight
  go_wp2_with fail
  refine (H3.out _).mono ?_; rintro e w3 ⟨rfl, q⟩
  have HX3 := Lib.hid (HX2.out.call q)
  have HB3 := Lib.hid (below_call HB2.out q)
  clear q HX2 HB2 y0 y1 y2 y3 y4 y5 y6 y7
  obtain ⟨y0, y1, y2, y3, y4, y5, y6, y7⟩ := HX3.out.eight
  go_wp2_with fail
  refine (HU.out _ HB3.out).mono ?_; rintro e w4 ⟨v1, v2, v3, v5, rfl, rfl⟩
  go_wp2_with fail
  refine (HP.out _).mono ?_; rintro e w4 ⟨rfl, q⟩
  have HX4 := Lib.hid (HX3.out.call q)
  have HB4 := Lib.hid (below_call HB3.out q)
  clear q HX3 HB3 y0 y1 y2 y3 y4 y5 y6 y7
  obtain ⟨y0, y1, y2, y3, y4, y5, y6, y7⟩ := HX4.out.eight
  go_wp2_with fail
  refine (HK.out _ HB4.out).mono ?_; rintro e w5 ⟨rfl, q⟩
  have HX5 := Lib.hid (HX4.out.call q)
  have HB5 := Lib.hid (below_call HB4.out q)
  clear q HX4 HB4 y0 y1 y2 y3 y4 y5 y6 y7
  obtain ⟨y0, y1, y2, y3, y4, y5, y6, y7⟩ := HX5.out.eight
  go_wp2_with fail
  refine (HR.out _).mono ?_; rintro e w6 ⟨rfl, q⟩
  have HX6 := Lib.hid (HX5.out.call q)
  have HB6 := Lib.hid (below_call HB5.out q)
  clear q HX5 HB5 y0 y1 y2 y3 y4 y5 y6 y7
  obtain ⟨y0, y1, y2, y3, y4, y5, y6, y7⟩ := HX6.out.eight
  go_wp2_with fail
  go_ret
  exact ⟨rfl, HB6.out⟩
/-- isLine, whatever line it is. -/
theorem aisline_any (x : Ln) (hf : lnFits x) (w : World) (hT : I.Tabled w) : Calls Tryd.prog 51 #[lnV x] w fun e w' => e = .returned (.bool (lnOk x)) ∧ Below w.heap.size w w' := by
  obtain ⟨g1, ⟨o0, o1⟩, ⟨d0, d1⟩, ⟨a0, a1⟩, ⟨b0, b1⟩, ⟨i0, i1⟩, g7, g8⟩ := hf
  have N1 := fun W => amayname_any (tx x.label) g1 W
  have N2 := fun W => amayname_any (tx x.to) g7 W
  have N3 := fun W => amayname_any (tx x.name) g8 W
  rw [by_tx] at N1 N2 N3
  have E1 := empty_eq (tx x.to)
  have E2 := empty_eq (tx x.name)
  rw [by_tx] at E1 E2
  cases h1 : nm0 x.label
  · rw [h1] at N1; rw [lnOk_no1 h1]; exact isline_no1 _ _ _ _ _ _ _ _ w (Lib.hid N1)
  cases h2 : nm0 x.to
  · rw [h1] at N1; rw [h2] at N2; rw [lnOk_no2 h2]; exact isline_no2 _ _ _ _ _ _ _ _ w (Lib.hid N1) (Lib.hid N2)
  cases h3 : nm0 x.name
  · rw [h1] at N1; rw [h2] at N2; rw [h3] at N3; rw [lnOk_no3 h3]; exact isline_no3 _ _ _ _ _ _ _ _ w (Lib.hid N1) (Lib.hid N2) (Lib.hid N3)
  rw [h1] at N1; rw [h2] at N2; rw [h3] at N3
  have HP := Lib.hid (fun W => aplain_any x W)
  have HU : ∀ u, I.usesV x.op (I.Ix.uI x.op) = u → Hid (∀ W, Below w.heap.size w W → Calls Tryd.prog 69 #[.int .u8 x.op] W fun e w' => ∃ v1 v2 v3 v5, e = .returned (.tuple #[v1, v2, v3, .bool u, v5]) ∧ W = w') := fun u hu => Lib.hid (fun W hW => (I.uses_any x.op o0 o1 W (hT.below hW)).mono (by rintro e w' ⟨rfl, rfl⟩; rw [hu]; exact ⟨_, _, _, _, rfl, rfl⟩))
  have j0 : 0 ≤ im0 x := by unfold im0; split <;> omega
  have j1 : im0 x < 4294967296 := by unfold im0; split <;> omega
  have HK : ∀ k, I.errI x.op x.d x.a x.b (im0 x) = k → Hid (∀ W, Below w.heap.size w W → Calls Tryd.prog 50 #[inV x.op x.d x.a x.b (im0 x)] W fun e w' => e = .returned (.int .i64 k) ∧ Below W.heap.size W w') := fun k hk => Lib.hid (fun W hW => by rw [← hk]; exact I.icheck_any x.op x.d x.a x.b (im0 x) o0 o1 d0 d1 a0 a1 b0 b1 W (hT.below hW))
  have HR := fun W => arefers_any x W
  have hadr : adr x = (decide (x.to ≠ []) || decide (x.name ≠ [])) := rfl
  by_cases e1 : x.to = []
  · by_cases e2 : x.name = []
    · have hA : adr x = false := by rw [hadr]; simp [e1, e2]
      rw [hA] at HR
      have h4 : x.to = [] ∨ x.name = [] := by exact .inl e1
      have f1 : ((tx x.to).toList == []) = true := by rw [E1]; exact decide_eq_true e1
      have f2 : ((tx x.name).toList == []) = true := by rw [E2]; exact decide_eq_true e2
      cases h5 : I.Ix.insnOk x.op x.d x.a x.b (im0 x)
      · rw [lnOk_bad h5]
        have hk : I.errI x.op x.d x.a x.b (im0 x) = 2 := by unfold I.errI I.Ix.err; rw [h5]; rfl
        cases hu : I.usesV x.op (I.Ix.uI x.op)
        · exact isline_r1120 _ _ _ _ _ _ _ _ w _ (Lib.hid N1) (Lib.hid N2) (Lib.hid N3) f1 f2 (HU _ hu) HP (HK _ hk)
        · exact isline_r1121 _ _ _ _ _ _ _ _ w _ (Lib.hid N1) (Lib.hid N2) (Lib.hid N3) f1 f2 (HU _ hu) HP (HK _ hk)
      · rw [lnOk_rest h1 h2 h3 h4 h5, hA]
        have hk : I.errI x.op x.d x.a x.b (im0 x) = 0 := by unfold I.errI I.Ix.err; rw [h5]; rfl
        cases hu : I.usesV x.op (I.Ix.uI x.op)
        · exact isline_r1100 _ _ _ _ _ _ _ _ w _ (Lib.hid N1) (Lib.hid N2) (Lib.hid N3) f1 f2 (HU _ hu) HP (HK _ hk) (Lib.hid HR)
        · exact isline_r1101 _ _ _ _ _ _ _ _ w _ (Lib.hid N1) (Lib.hid N2) (Lib.hid N3) f1 f2 (HU _ hu) HP (HK _ hk)
    · have hA : adr x = true := by rw [hadr]; simp [e1, e2]
      rw [hA] at HR
      have h4 : x.to = [] ∨ x.name = [] := by exact .inl e1
      have f1 : ((tx x.to).toList == []) = true := by rw [E1]; exact decide_eq_true e1
      have f2 : ((tx x.name).toList == []) = false := by rw [E2]; exact decide_eq_false e2
      cases h5 : I.Ix.insnOk x.op x.d x.a x.b (im0 x)
      · rw [lnOk_bad h5]
        have hk : I.errI x.op x.d x.a x.b (im0 x) = 2 := by unfold I.errI I.Ix.err; rw [h5]; rfl
        cases hu : I.usesV x.op (I.Ix.uI x.op)
        · exact isline_r1020 _ _ _ _ _ _ _ _ w _ (Lib.hid N1) (Lib.hid N2) (Lib.hid N3) f1 f2 (HU _ hu) HP (HK _ hk)
        · exact isline_r1021 _ _ _ _ _ _ _ _ w _ (Lib.hid N1) (Lib.hid N2) (Lib.hid N3) f1 f2 (HU _ hu) HP (HK _ hk)
      · rw [lnOk_rest h1 h2 h3 h4 h5, hA]
        have hk : I.errI x.op x.d x.a x.b (im0 x) = 0 := by unfold I.errI I.Ix.err; rw [h5]; rfl
        cases hu : I.usesV x.op (I.Ix.uI x.op)
        · exact isline_r1000 _ _ _ _ _ _ _ _ w _ (Lib.hid N1) (Lib.hid N2) (Lib.hid N3) f1 f2 (HU _ hu) HP (HK _ hk) (Lib.hid HR)
        · exact isline_r1001 _ _ _ _ _ _ _ _ w _ (Lib.hid N1) (Lib.hid N2) (Lib.hid N3) f1 f2 (HU _ hu) HP (HK _ hk)
  · by_cases e2 : x.name = []
    · have hA : adr x = true := by rw [hadr]; simp [e1, e2]
      rw [hA] at HR
      have h4 : x.to = [] ∨ x.name = [] := by exact .inr e2
      have f1 : ((tx x.to).toList == []) = false := by rw [E1]; exact decide_eq_false e1
      have f2 : ((tx x.name).toList == []) = true := by rw [E2]; exact decide_eq_true e2
      cases h5 : I.Ix.insnOk x.op x.d x.a x.b (im0 x)
      · rw [lnOk_bad h5]
        have hk : I.errI x.op x.d x.a x.b (im0 x) = 2 := by unfold I.errI I.Ix.err; rw [h5]; rfl
        cases hu : I.usesV x.op (I.Ix.uI x.op)
        · exact isline_r0120 _ _ _ _ _ _ _ _ w _ (Lib.hid N1) (Lib.hid N2) (Lib.hid N3) f1 f2 (HU _ hu) HP (HK _ hk)
        · exact isline_r0121 _ _ _ _ _ _ _ _ w _ (Lib.hid N1) (Lib.hid N2) (Lib.hid N3) f1 f2 (HU _ hu) HP (HK _ hk)
      · rw [lnOk_rest h1 h2 h3 h4 h5, hA]
        have hk : I.errI x.op x.d x.a x.b (im0 x) = 0 := by unfold I.errI I.Ix.err; rw [h5]; rfl
        cases hu : I.usesV x.op (I.Ix.uI x.op)
        · exact isline_r0100 _ _ _ _ _ _ _ _ w _ (Lib.hid N1) (Lib.hid N2) (Lib.hid N3) f1 f2 (HU _ hu) HP (HK _ hk) (Lib.hid HR)
        · exact isline_r0101 _ _ _ _ _ _ _ _ w _ (Lib.hid N1) (Lib.hid N2) (Lib.hid N3) f1 f2 (HU _ hu) HP (HK _ hk)
    · have f1 : ((tx x.to).toList == []) = false := by rw [E1]; exact decide_eq_false e1
      have f2 : ((tx x.name).toList == []) = false := by rw [E2]; exact decide_eq_false e2
      rw [lnOk_no4 e1 e2]
      exact isline_no4 _ _ _ _ _ _ _ _ w (Lib.hid N1) (Lib.hid N2) (Lib.hid N3) f1 f2
end Go.Proofs.YtlnnhgmkibjgmaaDoor
