/- CpuNil: what no cpu answers, and a cpu in no space. -/
import Derived.Test.YtgdbhmlmioihpaaDoorX34
import Derived.Test.YtgdbhmlmioihpaaDoorX48
import Derived.Test.YtgdbhmlmioihpaaDoorX01
set_option linter.unusedVariables false
namespace Go.Proofs.YtgdbhmlmioihpaaDoor
open Go Go.RowKit Go.Maps

/-- The cpu, and four stops. -/
structure Ni (w0 : World) (p k9 k10 k13 k14 : Nat) (c : Cp) (w : World) : Prop where
  cpu : CAt w p c
  b9 : Blk w k9 30 [.int .u8 2, .int .u32 0, .int .i64 1]
  b10 : Blk w k10 30 [.int .u8 2, .int .u32 0, .int .i64 1]
  b13 : Blk w k13 30 [.int .u8 2, .int .u32 0, .int .i64 1]
  b14 : Blk w k14 30 [.int .u8 2, .int .u32 0, .int .i64 1]
  low : Below w0.heap.size w0 w
  gp : w0.heap.size ≤ p
  gs : w0.heap.size ≤ w.heap.size
theorem Ni.below {w0 w w' : World} {p k9 k10 k13 k14 : Nat} {c : Cp} (n : Ni w0 p k9 k10 k13 k14 c w) (hb : Below w.heap.size w w') : Ni w0 p k9 k10 k13 k14 c w' :=
  ⟨n.cpu.below hb, n.b9.below hb n.b9.lt, n.b10.below hb n.b10.lt, n.b13.below hb n.b13.lt, n.b14.below hb n.b14.lt, n.low.trans (hb.mono n.gs), n.gp, Nat.le_trans n.gs hb.size⟩
theorem Ni.turn {w0 w w' : World} {p k9 k10 k13 k14 : Nat} {c c2 : Cp} (n : Ni w0 p k9 k10 k13 k14 c w) (hg : w.grownBy w' (some p)) (hc : CAt w' p c2) : Ni w0 p k9 k10 k13 k14 c2 w' := by
  have hc0 : Blk w p 47 (ccs c) := n.cpu
  have hk : ∀ k cs, Blk w k 30 cs → Blk w' k 30 cs := fun k cs hb => hb.grown hg (by intro he; cases he; exact hb.ne hc0 (by decide) rfl)
  exact ⟨hc, hk _ _ n.b9, hk _ _ n.b10, hk _ _ n.b13, hk _ _ n.b14, n.low.grown hg n.gs (fun j hj => by cases hj; exact n.gp), n.gp, Nat.le_trans n.gs hg.size⟩

set_option maxHeartbeats 8000000 in
set_option maxRecDepth 100000 in
theorem nil_any (hR : RunOK) (n v : Int) (w : World) (hk : I.Tabled w) :
    Calls Tryd.prog 3 #[.int .i64 n, .int .u32 v] w fun r w' => r = .returned (.bool true) ∧ Below w.heap.size w w' := by
  have HAl : Hid (∀ w', Below w.heap.size w w' → Calls Tryd.prog 13 #[] w' fun r w2 => r = .returned (.bool true) ∧ Below w'.heap.size w' w2) := Lib.hid fun w' hb => calive_any hR w' (hk.below hb)
  obtain ⟨V1, hV1⟩ : ∃ V1, V1 = IntKind.u32.wrap (v + 1) := ⟨_, rfl⟩
  have u1 := hV1.symm
  have vv : (v == v) = true := by simp
  have vv1 : (V1 == V1) = true := by simp
  obtain ⟨Q, hQ⟩ : ∃ Q, Q = f16 n := ⟨_, rfl⟩
  have hcase : (n < 0 ∧ Q = 2) ∨ (¬ n < 0 ∧ 16 ≤ n ∧ Q = 2) ∨ (¬ n < 0 ∧ ¬ 16 ≤ n ∧ Q = 0) := by
    rw [hQ]; unfold f16
    by_cases h1 : n < 0
    · left; exact ⟨h1, by rw [if_pos (.inl h1)]⟩
    · by_cases h2 : 16 ≤ n
      · right; left; exact ⟨h1, h2, by rw [if_pos (.inr h2)]⟩
      · right; right; exact ⟨h1, h2, by rw [if_neg (by omega)]⟩
  have HQ := Lib.hid hQ
  have HCS := Lib.hid hcase
  clear hV1 hQ hcase hk
  go_enter Tryd.func3, Tryd.ntmps3
  go_wp2_with fail
  refine (new_any w).mono ?_; rintro r w1 ⟨rfl, hs1, q1, hsz1⟩
  have HB1 : Hid (Below w.heap.size w w1 ∧ w.heap.size ≤ w1.heap.size) := Lib.hid ⟨q1, q1.size⟩
  clear hs1 q1 hsz1
  go_wp2_with fail
  refine (reg_nil n w1).mono ?_; rintro r w2 ⟨rfl, m2, hw2⟩
  have HB2 : Hid (Below w.heap.size w w2 ∧ w.heap.size ≤ w2.heap.size) := Lib.hid (by rw [hw2]; exact ⟨HB1.out.1.trans ((below_drewN _ _).mono HB1.out.2), HB1.out.2⟩)
  clear hw2 HB1
  go_wp2_with fail
  refine (step_nil _ w2).mono ?_; rintro r w3 ⟨rfl, q3⟩
  have HB3 : Hid (Below w.heap.size w w3 ∧ w.heap.size ≤ w3.heap.size) := Lib.hid ⟨HB2.out.1.trans (q3.mono HB2.out.2), Nat.le_trans HB2.out.2 q3.size⟩
  clear q3 HB2
  obtain ⟨w4, hw4⟩ : ∃ w4, w4 = w3.alloc (.cells #[.int .u8 2, .int .u32 0, .int .i64 1] 30) := ⟨_, rfl⟩
  obtain ⟨k9, hk9⟩ : ∃ k9, k9 = w3.heap.size := ⟨_, rfl⟩
  have B9 : Hid (Blk w4 k9 30 [.int .u8 2, .int .u32 0, .int .i64 1]) := Lib.hid (by rw [hw4, hk9]; exact Blk.new _ _ _)
  have HB4 : Hid (Below w.heap.size w w4 ∧ w.heap.size ≤ w4.heap.size) := Lib.hid (by rw [hw4]; exact ⟨HB3.out.1.alloc HB3.out.2 _, by have := HB3.out.2; simp; omega⟩)
  have HW4 := Lib.hid hw4
  have HK9 := Lib.hid hk9
  clear hw4 hk9 HB3
  go_wp2_with fail
  rw [← HW4.out, ← HK9.out]
  refine (run_nil _ w4).mono ?_; rintro r w5 ⟨rfl, q5⟩
  have HB5 : Hid (Below w.heap.size w w5 ∧ w.heap.size ≤ w5.heap.size) := Lib.hid ⟨HB4.out.1.trans (q5.mono HB4.out.2), Nat.le_trans HB4.out.2 q5.size⟩
  replace B9 := Lib.hid (B9.out.below q5 B9.out.lt)
  clear q5 HB4 HW4 HK9
  obtain ⟨w6, hw6⟩ : ∃ w6, w6 = w5.alloc (.cells #[.int .u8 2, .int .u32 0, .int .i64 1] 30) := ⟨_, rfl⟩
  obtain ⟨k10, hk10⟩ : ∃ k10, k10 = w5.heap.size := ⟨_, rfl⟩
  have B10 : Hid (Blk w6 k10 30 [.int .u8 2, .int .u32 0, .int .i64 1]) := Lib.hid (by rw [hw6, hk10]; exact Blk.new _ _ _)
  replace B9 : Hid (Blk w6 k9 30 [.int .u8 2, .int .u32 0, .int .i64 1]) := Lib.hid (by rw [hw6]; exact Blk.alloc B9.out _)
  have HB6 : Hid (Below w.heap.size w w6 ∧ w.heap.size ≤ w6.heap.size) := Lib.hid (by rw [hw6]; exact ⟨HB5.out.1.alloc HB5.out.2 _, by have := HB5.out.2; simp; omega⟩)
  have HW6 := Lib.hid hw6
  have HK10 := Lib.hid hk10
  clear hw6 hk10 HB5
  go_wp2_with fail
  rw [← HW6.out, ← HK10.out]
  refine (cnew_any v w6).mono ?_; rintro r w7 ⟨rfl, hc7, q7⟩
  obtain ⟨p, hp⟩ : ∃ p, p = w6.heap.size := ⟨_, rfl⟩
  rw [← hp] at hc7 ⊢
  have HN7 : Hid (CAt w7 p ⟨fun _ => 0, v⟩ ∧ Blk w7 k9 30 [.int .u8 2, .int .u32 0, .int .i64 1] ∧ Blk w7 k10 30 [.int .u8 2, .int .u32 0, .int .i64 1] ∧ Below w.heap.size w w7 ∧ w.heap.size ≤ w7.heap.size ∧ w.heap.size ≤ p) :=
    Lib.hid ⟨hc7, B9.out.below q7 B9.out.lt, B10.out.below q7 B10.out.lt, HB6.out.1.trans (q7.mono HB6.out.2), Nat.le_trans HB6.out.2 q7.size, by rw [hp]; exact HB6.out.2⟩
  clear hc7 q7 hp B9 B10 HB6 HW6 HK10
  go_wp2_with fail
  refine (step_none p w7).mono ?_; rintro r w8 ⟨rfl, q8⟩
  obtain ⟨w9, hw9⟩ : ∃ w9, w9 = (w8.alloc (.cells #[.int .u8 2, .int .u32 0, .int .i64 1] 30)).alloc (.cells #[.int .u8 2, .int .u32 0, .int .i64 1] 30) := ⟨_, rfl⟩
  obtain ⟨k13, hk13⟩ : ∃ k13, k13 = w8.heap.size := ⟨_, rfl⟩
  have HN : Hid (Ni w p k9 k10 k13 (k13 + 1) ⟨fun _ => 0, v⟩ w9) := Lib.hid (by
    obtain ⟨x1, x2, x3, x4, x5, x6⟩ := HN7.out
    have hb : Below w7.heap.size w7 w9 := by rw [hw9]; exact (q8.alloc q8.size _).alloc (by have := q8.size; simp; omega) _
    refine ⟨x1.below hb, x2.below hb x2.lt, x3.below hb x3.lt, ?_, ?_, x4.trans (hb.mono x5), x6, Nat.le_trans x5 hb.size⟩
    · rw [hw9, hk13]; exact Blk.alloc (Blk.new _ _ _) _
    · rw [hw9, hk13]
      have := Blk.new (w8.alloc (.cells #[.int .u8 2, .int .u32 0, .int .i64 1] 30)) 30 [.int .u8 2, .int .u32 0, .int .i64 1]
      have e1 : (w8.alloc (.cells #[.int .u8 2, .int .u32 0, .int .i64 1] 30)).heap.size = w8.heap.size + 1 := by simp
      rw [e1] at this
      exact this)
  have HW9 := Lib.hid hw9
  have HK13 := Lib.hid hk13
  clear hw9 hk13 q8 HN7
  have HSR : Hid (∀ w1 c1, CAt w1 p c1 → Calls Tryd.prog 9 #[.pointer (some ⟨p, 0, none⟩), .int .i64 n, .int .u32 v] w1 fun r w' => r = .returned (.int .i64 Q) ∧ (∃ c2, CAt w' p c2 ∧ c2.pc = c1.pc) ∧ w1.grownBy w' (some p)) := Lib.hid fun w1 c1 h => by rw [HQ.out]; exact setreg_all p c1 n v w1 h
  clear HQ
  go_upto_region 9 with (fail)
  rw [← HW9.out, ← HK13.out]
  clear HW9 HK13
  rcases HCS.out with ⟨h1, rfl⟩ | ⟨h1, h2, rfl⟩ | ⟨h1, h2, rfl⟩
  all_goals (
    go_wp2_with fail
    refine (setreg_nil n v _).mono ?_; rintro r a1 ⟨rfl, m1, e1⟩
    have N1 : Hid (Ni w p k9 k10 k13 (k13 + 1) ⟨fun _ => 0, v⟩ a1) := Lib.hid (by rw [e1]; exact HN.out.below (below_drewN _ _))
    clear e1 HN
    go_wp2_with fail
    refine (pc_nil _).mono ?_; rintro r a2 ⟨rfl, m2, e2⟩
    have N2 : Hid (Ni w p k9 k10 k13 (k13 + 1) ⟨fun _ => 0, v⟩ a2) := Lib.hid (by rw [e2]; exact N1.out.below (below_drewN _ _))
    clear e2 N1
    go_wp2_with fail
    refine (setpc_nil v _).mono ?_; rintro r a3 ⟨rfl, m3, e3⟩
    have N3 : Hid (Ni w p k9 k10 k13 (k13 + 1) ⟨fun _ => 0, v⟩ a3) := Lib.hid (by rw [e3]; exact N2.out.below (below_drewN _ _))
    clear e3 N2
    obtain ⟨⟨x0, x1, x2⟩, _, _, _⟩ := N3.out.b9.three
    obtain ⟨⟨y0, y1, y2⟩, _, _, _⟩ := N3.out.b10.three
    obtain ⟨⟨z0, z1, z2⟩, _, _, _⟩ := N3.out.b14.three
    go_wp2_with fail
    refine (ccopy_nil _).mono ?_; rintro r a4 ⟨rfl, m4, e4⟩
    have N4 : Hid (Ni w p k9 k10 k13 (k13 + 1) ⟨fun _ => 0, v⟩ a4) := Lib.hid (by rw [e4]; exact N3.out.below (below_drewN _ _))
    clear e4 N3 x0 x1 x2 y0 y1 y2 z0 z1 z2
    obtain ⟨⟨x0, x1, x2⟩, _, _, _⟩ := N4.out.b13.three
    obtain ⟨⟨z0, z1, z2⟩, _, _, _⟩ := N4.out.b14.three
    go_wp2_with fail
    refine (pc_any p _ _ N4.out.cpu).mono ?_; rintro r a5 ⟨rfl, m5, e5⟩
    have N5 : Hid (Ni w p k9 k10 k13 (k13 + 1) ⟨fun _ => 0, v⟩ a5) := Lib.hid (by rw [e5]; exact N4.out.below (below_drewN _ _))
    clear e5 N4 x0 x1 x2 z0 z1 z2
    go_wp2_with fail
    refine (HSR.out _ _ N5.out.cpu).mono ?_; rintro r a6 ⟨rfl, ⟨c2, hc2, hp2⟩, g6⟩
    have N6 : Hid (Ni w p k9 k10 k13 (k13 + 1) c2 a6) := Lib.hid (N5.out.turn g6 hc2)
    clear hp2 hc2 g6 N5 HSR
    go_wp2_with fail
    refine (setpc_any p c2 _ _ N6.out.cpu).mono ?_; rintro r a7 ⟨rfl, hc7, g7⟩
    have N7 : Hid (Ni w p k9 k10 k13 (k13 + 1) (setPc c2 V1) a7) := Lib.hid (N6.out.turn g7 hc7)
    clear hc7 g7 N6
    go_wp2_with fail
    refine (pc_any p _ _ N7.out.cpu).mono ?_; rintro r a8 ⟨rfl, m8, e8⟩
    have N8 : Hid (Ni w p k9 k10 k13 (k13 + 1) (setPc c2 V1) a8) := Lib.hid (by rw [e8]; exact N7.out.below (below_drewN _ _))
    clear e8 N7
    rw [show (setPc c2 V1).pc = V1 from rfl]
    go_wp2_with fail
    refine (HAl.out _ N8.out.low).mono ?_; rintro r a9 ⟨rfl, q9⟩
    have HF := Lib.hid (N8.out.low.trans (q9.mono N8.out.gs))
    clear q9 N8
    go_wp2
    go_ret
    exact ⟨rfl, HF.out⟩)
end Go.Proofs.YtgdbhmlmioihpaaDoor
