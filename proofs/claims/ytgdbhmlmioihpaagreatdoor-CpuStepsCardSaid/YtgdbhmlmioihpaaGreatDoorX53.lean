/- So many steps and then more are as many at once, a copy goes the same way, and the count is right: CpuSteps answers true, for every state and any two numbers. No condition. -/
import Derived.Test.YtgdbhmlmioihpaaGreatDoorX24
import Derived.Test.YtgdbhmlmioihpaaGreatDoorX19
import Derived.Test.YtgdbhmlmioihpaaGreatDoorX52
import Derived.Test.YtgdbhmlmioihpaaGreatDoorX39
import Derived.Test.YtgdbhmlmioihpaaGreatDoorX40
import Derived.Test.YtgdbhmlmioihpaaGreatDoorX50
import Derived.Test.YtgdbhmlmioihpaaGreatDoorCards
import Derived.Test.YtgdbhmlmioihpaaGreatDoorTie
import Derived.SevenTiedAt
import Derived.ChangeMaps5
/- CpuSteps: so many steps and then more are as many at once; a copy goes the same way. -/
section
set_option linter.unusedVariables false
namespace Go.Proofs.YtgdbhmlmioihpaaGreatDoor
open Go Go.RowKit Go.Maps

set_option maxHeartbeats 8000000 in
set_option maxRecDepth 100000 in
theorem steps_heavy (hR : RunOK) (s : Sta) (q : Plc) (hs : s.fits) (hH : heavyS s = true) (a0 b0 : Int) (w : World) (hk : I.Tabled w) (hl : s.lies q w) :
    Calls Tryz.prog 4 #[.agg (s.cells q).toArray, .int .u16 a0, .int .u16 b0] w fun r w' => r = .returned (.bool true) ∧ Below w.heap.size w w' := by
  obtain ⟨R, pc, P, at3, L, wh, tx⟩ := s
  obtain ⟨aR, cR, aP, cP, aL, cL⟩ := q
  obtain ⟨s, hs0⟩ : ∃ s, s = Sta.mk R pc P at3 L wh tx := ⟨_, rfl⟩
  obtain ⟨q, hq0⟩ : ∃ q, q = Plc.mk aR cR aP cP aL cL := ⟨_, rfl⟩
  have hcs : s.cells q = [.slice aR R.length cR, .int .u32 pc, .slice aP P.length cP, .int .u16 at3, .slice aL L.length cL, .int .u16 wh, .string tx] := by rw [hs0, hq0]; rfl
  rw [← hs0] at hs hl hH
  rw [← hq0] at hl
  rw [← hs0, ← hq0, hcs]
  obtain ⟨nR, hnR⟩ : ∃ n, n = R.length := ⟨_, rfl⟩
  obtain ⟨nP, hnP⟩ : ∃ n, n = P.length := ⟨_, rfl⟩
  obtain ⟨nL, hnL⟩ : ∃ n, n = L.length := ⟨_, rfl⟩
  rw [← hnR, ← hnP, ← hnL] at hcs ⊢
  obtain ⟨k0, hk0⟩ : ∃ k0, k0 = w.heap.size := ⟨_, rfl⟩
  obtain ⟨wb, hwb⟩ : ∃ wb, wb = w.alloc (.cells #[.slice aR nR cR, .int .u32 pc, .slice aP nP cP, .int .u16 at3, .slice aL nL cL, .int .u16 wh, .string tx] 28) := ⟨_, rfl⟩
  have hbx : Blk wb k0 28 (s.cells q) := by rw [hwb, hk0, hcs]; exact Blk.new _ _ _
  have hlo : Below w.heap.size w wb := by rw [hwb]; exact (Below.refl _ _).alloc (Nat.le_refl _) _
  have HC7 : Hid (∀ w', Blk w' k0 28 (s.cells q) → w'.cell? ⟨k0, 0, none⟩ = some (.slice aR nR cR) ∧ w'.cell? ⟨k0, 1, none⟩ = some (.int .u32 pc) ∧ w'.cell? ⟨k0, 2, none⟩ = some (.slice aP nP cP) ∧ w'.cell? ⟨k0, 3, none⟩ = some (.int .u16 at3) ∧ w'.cell? ⟨k0, 4, none⟩ = some (.slice aL nL cL) ∧ w'.cell? ⟨k0, 5, none⟩ = some (.int .u16 wh) ∧ w'.cell? ⟨k0, 6, none⟩ = some (.string tx)) :=
    Lib.hid fun w' hb => by rw [hcs] at hb; exact ⟨by rw [hb.cell]; rfl, by rw [hb.cell]; rfl, by rw [hb.cell]; rfl, by rw [hb.cell]; rfl, by rw [hb.cell]; rfl, by rw [hb.cell]; rfl, by rw [hb.cell]; rfl⟩
  have HHv : Hid (∀ w', Calls Tryz.prog 6 #[.agg #[.slice aR nR cR, .int .u32 pc, .slice aP nP cP, .int .u16 at3, .slice aL nL cL, .int .u16 wh, .string tx]] w' fun r w2 => r = .returned (.bool (heavyS s)) ∧ Below w'.heap.size w' w2) := Lib.hid fun w' => by
    have := cheavy_any s q w'
    rw [hcs] at this
    exact this
  rw [hH] at HHv
  have HAl : Hid (∀ w', Below w.heap.size w w' → Calls Tryz.prog 7 #[] w' fun r w2 => r = .returned (.bool true) ∧ Below w'.heap.size w' w2) := Lib.hid fun w' hb => calive_any hR w' (hk.below hb)
  have HBX := Lib.hid hbx
  have HLO := Lib.hid hlo
  have HWB := Lib.hid hwb
  have HK0 := Lib.hid hk0
  have HT := Lib.hid hk
  clear hs0 hq0 hcs hs hl hH hnR hnP hnL hk0 hwb hbx hlo hk
  go_enter Tryz.func4, Tryz.ntmps4
  go_upto_region 1 with (fail)
  rw [← HWB.out, ← HK0.out]
  obtain ⟨c0, c1, c2, c3, c4, c5, c6⟩ := HC7.out _ HBX.out
  go_wp2_with fail
  refine (HHv.out _).mono ?_; rintro r w1 ⟨rfl, q1⟩
  have HBX1 := Lib.hid (HBX.out.below q1 HBX.out.lt)
  have HLO1 : Hid (Below w.heap.size w w1) := Lib.hid (HLO.out.trans (q1.mono HLO.out.size))
  clear q1 HBX HLO HWB HHv c0 c1 c2 c3 c4 c5 c6
  go_wp2_with fail
  refine (HAl.out w1 HLO1.out).mono ?_; rintro r wz ⟨rfl, qz⟩
  go_wp2
  go_ret
  exact ⟨rfl, HLO1.out.trans (qz.mono HLO1.out.size)⟩

set_option maxHeartbeats 8000000 in
set_option maxRecDepth 100000 in
theorem steps_light (hC : CopyOK) (hR : RunOK) (s : Sta) (q : Plc) (hs : s.fits) (hH : heavyS s = false) (a0 b0 : Int) (ha0 : 0 ≤ a0) (ha1 : a0 < 65536) (hb0 : 0 ≤ b0) (hb1 : b0 < 65536) (w : World) (hk : I.Tabled w) (hl : s.lies q w) :
    Calls Tryz.prog 4 #[.agg (s.cells q).toArray, .int .u16 a0, .int .u16 b0] w fun r w' => r = .returned (.bool true) ∧ Below w.heap.size w w' := by
  obtain ⟨R, pc, P, at3, L, wh, tx⟩ := s
  obtain ⟨aR, cR, aP, cP, aL, cL⟩ := q
  obtain ⟨s, hs0⟩ : ∃ s, s = Sta.mk R pc P at3 L wh tx := ⟨_, rfl⟩
  obtain ⟨q, hq0⟩ : ∃ q, q = Plc.mk aR cR aP cP aL cL := ⟨_, rfl⟩
  have hcs : s.cells q = [.slice aR R.length cR, .int .u32 pc, .slice aP P.length cP, .int .u16 at3, .slice aL L.length cL, .int .u16 wh, .string tx] := by rw [hs0, hq0]; rfl
  rw [← hs0] at hs hl hH
  rw [← hq0] at hl
  rw [← hs0, ← hq0, hcs]
  obtain ⟨nR, hnR⟩ : ∃ n, n = R.length := ⟨_, rfl⟩
  obtain ⟨nP, hnP⟩ : ∃ n, n = P.length := ⟨_, rfl⟩
  obtain ⟨nL, hnL⟩ : ∃ n, n = L.length := ⟨_, rfl⟩
  rw [← hnR, ← hnP, ← hnL] at hcs ⊢
  obtain ⟨k0, hk0⟩ : ∃ k0, k0 = w.heap.size := ⟨_, rfl⟩
  obtain ⟨wb, hwb⟩ : ∃ wb, wb = w.alloc (.cells #[.slice aR nR cR, .int .u32 pc, .slice aP nP cP, .int .u16 at3, .slice aL nL cL, .int .u16 wh, .string tx] 28) := ⟨_, rfl⟩
  have hbx : Blk wb k0 28 (s.cells q) := by rw [hwb, hk0, hcs]; exact Blk.new _ _ _
  have hlo : Below w.heap.size w wb := by rw [hwb]; exact (Below.refl _ _).alloc (Nat.le_refl _) _
  have HC7 : Hid (∀ w', Blk w' k0 28 (s.cells q) → w'.cell? ⟨k0, 0, none⟩ = some (.slice aR nR cR) ∧ w'.cell? ⟨k0, 1, none⟩ = some (.int .u32 pc) ∧ w'.cell? ⟨k0, 2, none⟩ = some (.slice aP nP cP) ∧ w'.cell? ⟨k0, 3, none⟩ = some (.int .u16 at3) ∧ w'.cell? ⟨k0, 4, none⟩ = some (.slice aL nL cL) ∧ w'.cell? ⟨k0, 5, none⟩ = some (.int .u16 wh) ∧ w'.cell? ⟨k0, 6, none⟩ = some (.string tx)) :=
    Lib.hid fun w' hb => by rw [hcs] at hb; exact ⟨by rw [hb.cell]; rfl, by rw [hb.cell]; rfl, by rw [hb.cell]; rfl, by rw [hb.cell]; rfl, by rw [hb.cell]; rfl, by rw [hb.cell]; rfl, by rw [hb.cell]; rfl⟩
  have HHv : Hid (∀ w', Calls Tryz.prog 6 #[.agg #[.slice aR nR cR, .int .u32 pc, .slice aP nP cP, .int .u16 at3, .slice aL nL cL, .int .u16 wh, .string tx]] w' fun r w2 => r = .returned (.bool (heavyS s)) ∧ Below w'.heap.size w' w2) := Lib.hid fun w' => by
    have := cheavy_any s q w'
    rw [hcs] at this
    exact this
  rw [hH] at HHv
  have HAl : Hid (∀ w', Below w.heap.size w w' → Calls Tryz.prog 7 #[] w' fun r w2 => r = .returned (.bool true) ∧ Below w'.heap.size w' w2) := Lib.hid fun w' hb => calive_any hR w' (hk.below hb)
  have HMd : Hid (∀ w', Below w.heap.size w w' → Calls Tryz.prog 8 #[.agg #[.slice aR nR cR, .int .u32 pc, .slice aP nP cP, .int .u16 at3, .slice aL nL cL, .int .u16 wh, .string tx]] w' fun r w2 => ∃ p b e n h g : Nat, r = .returned (.tuple #[.pointer (some ⟨p, 0, none⟩), .pointer (some ⟨b + 1, 0, none⟩), .pointer (some ⟨h, 0, none⟩), .pointer (some ⟨g, 0, none⟩), .bool true]) ∧
      Fr w' w'.heap.size p b e n h g (madeC s) (madeA s) (madeC s) (madeA s) w2 ∧ n ≤ 16) := Lib.hid fun w' hb => by
    have := made_any s q hs hH w' (hl.below hb rfl)
    rw [hcs] at this
    exact this
  have HOK : Hid (madeC s).Ok := Lib.hid (cpR_ok hs.r hs.pc.1 hs.pc.2 _ (Nat.min_le_left _ _))
  obtain ⟨C0, hC0⟩ : ∃ C0, C0 = madeC s := ⟨_, rfl⟩
  obtain ⟨A0, hA0⟩ : ∃ A0, A0 = madeA s := ⟨_, rfl⟩
  rw [← hC0, ← hA0] at HMd
  rw [← hC0] at HOK
  have u1 : IntKind.i64.wrap a0 = a0 := by rw [IntKind.wrap_i64]; omega
  have u2 : IntKind.i64.wrap b0 = b0 := by rw [IntKind.wrap_i64]; omega
  obtain ⟨AA, hAA⟩ : ∃ AA, AA = (a0 % 500).toNat := ⟨_, rfl⟩
  obtain ⟨BB, hBB⟩ : ∃ BB, BB = (b0 % 500).toNat := ⟨_, rfl⟩
  have t1 : a0.tmod 500 = (AA : Int) := by rw [Int.tmod_eq_emod_of_nonneg ha0]; omega
  have t2 : b0.tmod 500 = (BB : Int) := by rw [Int.tmod_eq_emod_of_nonneg hb0]; omega
  have HAB : Hid (AA < 500 ∧ BB < 500) := Lib.hid (by omega)
  have HRun := Lib.hid hR
  have HCopy := Lib.hid hC
  have HBX := Lib.hid hbx
  have HLO := Lib.hid hlo
  have HWB := Lib.hid hwb
  have HK0 := Lib.hid hk0
  have HT := Lib.hid hk
  clear hs0 hq0 hcs hs hl hH hnR hnP hnL hk0 hwb hbx hlo hk ha0 ha1 hb0 hb1 hAA hBB hC0 hA0 hR hC
  go_enter Tryz.func4, Tryz.ntmps4
  go_upto_region 1 with (fail)
  rw [← HWB.out, ← HK0.out]
  obtain ⟨c0, c1, c2, c3, c4, c5, c6⟩ := HC7.out _ HBX.out
  go_wp2_with fail
  refine (HHv.out _).mono ?_; rintro r w1 ⟨rfl, q1⟩
  have HBX1 := Lib.hid (HBX.out.below q1 HBX.out.lt)
  have HLO1 : Hid (Below w.heap.size w w1) := Lib.hid (HLO.out.trans (q1.mono HLO.out.size))
  clear q1 HBX HLO HWB HHv c0 c1 c2 c3 c4 c5 c6
  obtain ⟨c0, c1, c2, c3, c4, c5, c6⟩ := HC7.out _ HBX1.out
  go_wp2_with fail
  refine (HMd.out _ HLO1.out).mono ?_; rintro r w2 ⟨p, b, e, n1, h, g, rfl, f2, hn1⟩
  have F2 := Lib.hid f2
  have HN1 := Lib.hid hn1
  have HT1 : Hid (I.Tabled w1) := Lib.hid (HT.out.below HLO1.out)
  clear f2 hn1 HMd HBX1 HC7 c0 c1 c2 c3 c4 c5 c6 HK0 HT
  go_wp2_with fail
  refine (F2.out.copies HCopy.out).mono ?_; rintro r w3 ⟨p2, rfl, f3, c3, l1, l2, l3⟩
  have F3 := Lib.hid (And.intro f3 (And.intro c3 (And.intro l1 (And.intro l2 l3))))
  clear f3 c3 l1 l2 l3 F2 HCopy
  go_wp2_with fail
  refine (F3.out.1.copies2 (by have := HN1.out; omega) F3.out.2.1 F3.out.2.2.1 F3.out.2.2.2.1 F3.out.2.2.2.2).mono ?_; rintro r w4 ⟨b2, e2, rfl, t4⟩
  have T4 := Lib.hid t4
  clear t4 F3
  obtain ⟨R1, hR1⟩ : ∃ R1, R1 = runO AA C0 A0 := ⟨_, rfl⟩
  obtain ⟨⟨K1, NU1, WY1, c1', A1'⟩, k1⟩ := R1
  have HR1 := Lib.hid hR1
  have HRA : Hid (Calls Tryz.prog 15 #[.pointer (some ⟨p, 0, none⟩), .pointer (some ⟨b + 1, 0, none⟩), .int .i64 (AA : Int)] w4 fun r w' => r = .returned (.tuple #[.agg #[.int .u8 K1, .int .u32 NU1, .int .i64 WY1], .int .i64 (k1 : Int)]) ∧ Tw w1 w1.heap.size p b e n1 h g p2 b2 e2 c1' A1' C0 A0 C0 A0 w') := Lib.hid (by
    have := T4.out.run1 HRun.out HOK.out rfl HT1.out AA (by have := HAB.out; omega)
    rw [← hR1] at this
    exact this.mono fun r w' ⟨h1, h2, _⟩ => ⟨h1, h2⟩)
  clear hR1
  go_wp2_with fail
  refine HRA.out.mono ?_; rintro r w5 ⟨rfl, t5⟩
  have T5 := Lib.hid (t5.alloc (.cells #[.int .u8 K1, .int .u32 NU1, .int .i64 WY1] 39))
  have B5 := Lib.hid (Blk.new w5 39 [.int .u8 K1, .int .u32 NU1, .int .i64 WY1])
  obtain ⟨w6, hw6⟩ : ∃ w6, w6 = w5.alloc (.cells #[.int .u8 K1, .int .u32 NU1, .int .i64 WY1] 39) := ⟨_, rfl⟩
  obtain ⟨k16, hk16⟩ : ∃ k16, k16 = w5.heap.size := ⟨_, rfl⟩
  replace T5 : Hid (Tw w1 w1.heap.size p b e n1 h g p2 b2 e2 c1' A1' C0 A0 C0 A0 w6) := by rw [hw6]; exact T5
  replace B5 : Hid (Blk w6 k16 39 [.int .u8 K1, .int .u32 NU1, .int .i64 WY1]) := by rw [hw6, hk16]; exact B5
  have HG16 : Hid (w1.heap.size ≤ k16) := Lib.hid (by rw [hk16]; exact t5.f.gs)
  have HW6 := Lib.hid hw6
  have HK16 := Lib.hid hk16
  clear t5 hw6 hk16 HRA T4
  go_upto_region 9 with (fail)
  rw [← HW6.out, ← HK16.out]
  obtain ⟨⟨z0, _, _⟩, _⟩ := B5.out.three
  by_cases hK1 : K1 = 0
  · have e0 : (K1 == 0) = true := by rw [hK1]; rfl
    obtain ⟨R2, hR2⟩ : ∃ R2, R2 = runO BB c1' A1' := ⟨_, rfl⟩
    obtain ⟨⟨RK, RN, RW, RC, RA⟩, k2⟩ := R2
    obtain ⟨TOT, hTOT⟩ : ∃ TOT, TOT = AA + BB := ⟨_, rfl⟩
    obtain ⟨KC, hKC⟩ : ∃ KC, KC = k1 + k2 := ⟨_, rfl⟩
    have HRR : Hid (runO TOT C0 A0 = (⟨RK, RN, RW, RC, RA⟩, KC)) := Lib.hid (by rw [hTOT, run_add, ← HR1.out, if_pos hK1, ← hR2, hKC])
    have HTT : Hid (TOT ≤ 1000000) := Lib.hid (by have := HAB.out; omega)
    have hk1l : k1 ≤ AA := by have := run_le AA C0 A0; rw [← HR1.out] at this; exact this
    have hk2l : k2 ≤ BB := by have := run_le BB c1' A1'; rw [← hR2] at this; exact this
    have s1 : IntKind.i64.wrap ((k1 : Int) + (k2 : Int)) = (KC : Int) := by rw [IntKind.wrap_i64]; have := HAB.out; omega
    have s2 : IntKind.i64.wrap ((AA : Int) + (BB : Int)) = (TOT : Int) := by rw [IntKind.wrap_i64]; have := HAB.out; omega
    have HOK1 : Hid c1'.Ok := Lib.hid (by have := run_ok AA HOK.out A0; rw [← HR1.out] at this; exact this)
    have HRB : Hid (Calls Tryz.prog 15 #[.pointer (some ⟨p, 0, none⟩), .pointer (some ⟨b + 1, 0, none⟩), .int .i64 (BB : Int)] w6 fun r w' => r = .returned (.tuple #[.agg #[.int .u8 RK, .int .u32 RN, .int .i64 RW], .int .i64 (k2 : Int)]) ∧ Tw w1 w1.heap.size p b e n1 h g p2 b2 e2 RC RA C0 A0 C0 A0 w' ∧ Blk w' k16 39 [.int .u8 K1, .int .u32 NU1, .int .i64 WY1]) := Lib.hid (by
      have := T5.out.run1 HRun.out HOK1.out rfl HT1.out BB (by have := HAB.out; omega)
      rw [← hR2] at this
      exact this.mono fun r w' ⟨h1, h2, h3⟩ => ⟨h1, h2, h3 _ _ B5.out⟩)
    clear hK1 hR2 hTOT hKC hk1l hk2l HOK1 HR1
    go_wp2_with fail
    refine HRB.out.mono ?_; rintro r w7 ⟨rfl, t7, b7⟩
    have T7 := Lib.hid (t7.alloc (.cells #[.int .u8 RK, .int .u32 RN, .int .i64 RW] 39))
    have B7 := Lib.hid (Blk.alloc b7 (.cells #[.int .u8 RK, .int .u32 RN, .int .i64 RW] 39))
    have D7 := Lib.hid (Blk.new w7 39 [.int .u8 RK, .int .u32 RN, .int .i64 RW])
    obtain ⟨w8, hw8⟩ : ∃ w8, w8 = w7.alloc (.cells #[.int .u8 RK, .int .u32 RN, .int .i64 RW] 39) := ⟨_, rfl⟩
    obtain ⟨k18, hk18⟩ : ∃ k18, k18 = w7.heap.size := ⟨_, rfl⟩
    replace T7 : Hid (Tw w1 w1.heap.size p b e n1 h g p2 b2 e2 RC RA C0 A0 C0 A0 w8) := by rw [hw8]; exact T7
    replace B7 : Hid (Blk w8 k16 39 [.int .u8 K1, .int .u32 NU1, .int .i64 WY1]) := by rw [hw8]; exact B7
    replace D7 : Hid (Blk w8 k18 39 [.int .u8 RK, .int .u32 RN, .int .i64 RW]) := by rw [hw8, hk18]; exact D7
    have HW8 := Lib.hid hw8
    have HK18 := Lib.hid hk18
    clear t7 b7 hw8 hk18 HRB z0
    go_upto_region 11 with (fail)
    rw [← HW8.out, ← HK18.out]
    obtain ⟨⟨z0, z1, z2⟩, f0, f1, f2⟩ := B7.out.three
    obtain ⟨⟨x0, x1, x2⟩, _⟩ := D7.out.three
    have FF := Lib.hid (T7.out.stop3 B7.out HG16.out (.int .u8 RK) (.int .u32 RN) (.int .i64 RW))
    go_upto_region 12 with (fail)
    obtain ⟨wz, hwz⟩ : ∃ wz, wz = ((w8.setCell ⟨k16, 0, none⟩ (.int .u8 RK)).setCell ⟨k16, 1, none⟩ (.int .u32 RN)).setCell ⟨k16, 2, none⟩ (.int .i64 RW) := ⟨_, rfl⟩
    rw [← hwz] at FF ⊢
    have T8 := Lib.hid FF.out.1
    have B8 := Lib.hid FF.out.2
    clear hwz FF T7 B7 D7 HW8 HK18 z0 z1 z2 f0 f1 f2 x0 x1 x2 T5 B5
    have HE : Hid (∀ w', Tw w1 w1.heap.size p b e n1 h g p2 b2 e2 RC RA C0 A0 C0 A0 w' → Calls Tryz.prog 15 #[.pointer (some ⟨p2, 0, none⟩), .pointer (some ⟨b2 + 1, 0, none⟩), .int .i64 (TOT : Int)] w' fun r w2 => r = .returned (.tuple #[.agg #[.int .u8 RK, .int .u32 RN, .int .i64 RW], .int .i64 (KC : Int)]) ∧ Tw w1 w1.heap.size p b e n1 h g p2 b2 e2 RC RA C0 A0 RC RA w2 ∧ ∀ k cs, Blk w' k 39 cs → Blk w2 k 39 cs) := Lib.hid fun w' t => by
      have := t.run2 HRun.out HOK.out rfl HT1.out TOT HTT.out
      rw [HRR.out] at this
      exact this
    have HD : Hid (∀ w', Tw w1 w1.heap.size p b e n1 h g p2 b2 e2 RC RA C0 A0 RC RA w' → Calls Tryz.prog 16 #[.pointer (some ⟨h, 0, none⟩), .pointer (some ⟨g, 0, none⟩), .int .i64 (TOT : Int)] w' fun r w2 => r = .returned (.tuple #[.agg #[.int .u8 RK, .int .u32 RN, .int .i64 RW], .int .i64 (KC : Int)]) ∧ Tw w1 w1.heap.size p b e n1 h g p2 b2 e2 RC RA RC RA RC RA w2 ∧ ∀ k cs, Blk w' k 39 cs → Blk w2 k 39 cs) := Lib.hid fun w' t => by
      have := t.run3 HOK.out TOT HTT.out
      rw [HRR.out] at this
      exact this
    have hle : ¬ (TOT : Int) < (KC : Int) := by have := run_le TOT C0 A0; rw [HRR.out] at this; simp only at this; omega
    have hk0 : RK = 0 → KC = TOT := fun h0 => by have := run_none TOT C0 A0; rw [HRR.out] at this; exact this h0
    have hkk : ((RK == 0) = true ∧ ((KC : Int) != (TOT : Int)) = false) ∨ (RK == 0) = false := by
      by_cases h0 : RK = 0
      · left; rw [hk0 h0]; simp [h0]
      · right; rw [beq_eq_false_iff_ne]; exact h0
    clear hk0
    have HKK := Lib.hid hkk
    clear hkk
    go_wp2_with fail
    refine (HE.out _ T8.out).mono ?_; rintro r wa ⟨rfl, ta, ba⟩
    have Ta := Lib.hid (ta.alloc (.cells #[.int .u8 RK, .int .u32 RN, .int .i64 RW] 39))
    have Ba := Lib.hid (Blk.alloc (ba _ _ B8.out) (.cells #[.int .u8 RK, .int .u32 RN, .int .i64 RW] 39))
    have Da := Lib.hid (Blk.new wa 39 [.int .u8 RK, .int .u32 RN, .int .i64 RW])
    obtain ⟨wb, hwb⟩ : ∃ wb, wb = wa.alloc (.cells #[.int .u8 RK, .int .u32 RN, .int .i64 RW] 39) := ⟨_, rfl⟩
    obtain ⟨k20, hk20⟩ : ∃ k20, k20 = wa.heap.size := ⟨_, rfl⟩
    replace Ta : Hid (Tw w1 w1.heap.size p b e n1 h g p2 b2 e2 RC RA C0 A0 RC RA wb) := by rw [hwb]; exact Ta
    replace Ba : Hid (Blk wb k16 39 [.int .u8 RK, .int .u32 RN, .int .i64 RW]) := by rw [hwb]; exact Ba
    replace Da : Hid (Blk wb k20 39 [.int .u8 RK, .int .u32 RN, .int .i64 RW]) := by rw [hwb, hk20]; exact Da
    have HWb := Lib.hid hwb
    have HK20 := Lib.hid hk20
    clear ta ba hwb hk20 HE T8 B8
    go_wp2_with fail
    rw [← HWb.out, ← HK20.out]
    clear HWb HK20
    refine (HD.out _ Ta.out).mono ?_; rintro r wc ⟨rfl, tc, bc⟩
    have Tc := Lib.hid (tc.alloc (.cells #[.int .u8 RK, .int .u32 RN, .int .i64 RW] 39))
    have Bc := Lib.hid (Blk.alloc (bc _ _ Ba.out) (.cells #[.int .u8 RK, .int .u32 RN, .int .i64 RW] 39))
    have Dc := Lib.hid (Blk.alloc (bc _ _ Da.out) (.cells #[.int .u8 RK, .int .u32 RN, .int .i64 RW] 39))
    have Ec := Lib.hid (Blk.new wc 39 [.int .u8 RK, .int .u32 RN, .int .i64 RW])
    obtain ⟨wd, hwd⟩ : ∃ wd, wd = wc.alloc (.cells #[.int .u8 RK, .int .u32 RN, .int .i64 RW] 39) := ⟨_, rfl⟩
    obtain ⟨k22, hk22⟩ : ∃ k22, k22 = wc.heap.size := ⟨_, rfl⟩
    replace Tc : Hid (Tw w1 w1.heap.size p b e n1 h g p2 b2 e2 RC RA RC RA RC RA wd) := by rw [hwd]; exact Tc
    replace Bc : Hid (Blk wd k16 39 [.int .u8 RK, .int .u32 RN, .int .i64 RW]) := by rw [hwd]; exact Bc
    replace Dc : Hid (Blk wd k20 39 [.int .u8 RK, .int .u32 RN, .int .i64 RW]) := by rw [hwd]; exact Dc
    replace Ec : Hid (Blk wd k22 39 [.int .u8 RK, .int .u32 RN, .int .i64 RW]) := by rw [hwd, hk22]; exact Ec
    have HWd := Lib.hid hwd
    have HK22 := Lib.hid hk22
    clear tc bc hwd hk22 HD Ta Ba Da
    have b1 : (RK != RK) = false := by simp
    have b2' : (RN != RN) = false := by simp
    have b3 : (RW != RW) = false := by simp
    have b4 : ((KC : Int) != (KC : Int)) = false := by simp
    obtain ⟨⟨x0, x1, x2⟩, _⟩ := Bc.out.three
    obtain ⟨⟨y0, y1, y2⟩, _⟩ := Dc.out.three
    obtain ⟨⟨v0, v1, v2⟩, _⟩ := Ec.out.three
    have HS1 : Hid (Calls Tryz.prog 11 #[.pointer (some ⟨p, 0, none⟩), .pointer (some ⟨h, 0, none⟩)] wd fun r w2 => r = .returned (.bool true) ∧ Tw w1 w1.heap.size p b e n1 h g p2 b2 e2 RC RA RC RA RC RA w2) := Lib.hid ((csame_any p h RC wd Tc.out.f.cpu Tc.out.f.k).mono (by rintro r w2 ⟨h1, m, h2⟩; exact ⟨h1, by rw [h2]; exact Tc.out.below (below_drewN _ _)⟩))
    have HS2 : Hid (∀ w', Tw w1 w1.heap.size p b e n1 h g p2 b2 e2 RC RA RC RA RC RA w' → Calls Tryz.prog 11 #[.pointer (some ⟨p2, 0, none⟩), .pointer (some ⟨h, 0, none⟩)] w' fun r w2 => r = .returned (.bool true) ∧ Tw w1 w1.heap.size p b e n1 h g p2 b2 e2 RC RA RC RA RC RA w2) := Lib.hid fun w' t => ((csame_any p2 h RC w' t.cp t.f.k).mono (by rintro r w2 ⟨h1, m, h2⟩; exact ⟨h1, by rw [h2]; exact t.below (below_drewN _ _)⟩))
    have HS3 : Hid (∀ w', Tw w1 w1.heap.size p b e n1 h g p2 b2 e2 RC RA RC RA RC RA w' → Calls Tryz.prog 12 #[.pointer (some ⟨b + 1, 0, none⟩), .pointer (some ⟨g, 0, none⟩)] w' fun r w2 => r = .returned (.bool true) ∧ Tw w1 w1.heap.size p b e n1 h g p2 b2 e2 RC RA RC RA RC RA w2) := Lib.hid fun w' t => ((same_any w1.heap.size b e n1 g RA w' t.f.sp (by have := HN1.out; omega) t.f.rf).mono (by rintro r w2 ⟨h1, h2⟩; exact ⟨h1, t.below h2⟩))
    have HS4 : Hid (∀ w', Tw w1 w1.heap.size p b e n1 h g p2 b2 e2 RC RA RC RA RC RA w' → Calls Tryz.prog 12 #[.pointer (some ⟨b2 + 1, 0, none⟩), .pointer (some ⟨g, 0, none⟩)] w' fun r w2 => r = .returned (.bool true) ∧ Tw w1 w1.heap.size p b e n1 h g p2 b2 e2 RC RA RC RA RC RA w2) := Lib.hid fun w' t => ((same_any w1.heap.size b2 e2 n1 g RA w' t.sp (by have := HN1.out; omega) t.f.rf).mono (by rintro r w2 ⟨h1, h2⟩; exact ⟨h1, t.below h2⟩))
    go_upto_region 16 with (fail)
    rw [← HWd.out, ← HK22.out]
    rcases HKK.out with ⟨e1, e3⟩ | e1
    all_goals (
      go_wp2_with fail
      refine HS1.out.mono ?_; rintro r wf ⟨rfl, tf⟩
      have Tf := Lib.hid tf
      clear tf x0 x1 x2 y0 y1 y2 v0 v1 v2
      go_wp2_with fail
      refine (HS2.out _ Tf.out).mono ?_; rintro r wg ⟨rfl, tg⟩
      have Tg := Lib.hid tg
      clear tg
      go_wp2_with fail
      refine (HS3.out _ Tg.out).mono ?_; rintro r wi ⟨rfl, ti⟩
      have Ti := Lib.hid ti
      clear ti
      go_wp2_with fail
      refine (HS4.out _ Ti.out).mono ?_; rintro r wj ⟨rfl, tj⟩
      have Tj := Lib.hid tj
      clear tj
      go_wp2_with fail
      refine (HAl.out wj (HLO1.out.trans (Tj.out.f.low.mono HLO1.out.size))).mono ?_; rintro r wz ⟨rfl, qz⟩
      go_wp2
      go_ret
      exact ⟨rfl, (HLO1.out.trans (Tj.out.f.low.mono HLO1.out.size)).trans (qz.mono (Nat.le_trans HLO1.out.size Tj.out.f.gs))⟩)
  · have e1 : (K1 == 0) = false := by rw [beq_eq_false_iff_ne]; exact hK1
    have HRR : Hid (runO AA C0 A0 = (⟨K1, NU1, WY1, c1', A1'⟩, k1)) := Lib.hid HR1.out.symm
    have HTT : Hid (AA ≤ 1000000) := Lib.hid (by have := HAB.out; omega)
    have s2 : IntKind.i64.wrap (AA : Int) = (AA : Int) := by rw [IntKind.wrap_i64]; have := HAB.out; omega
    have s3 : IntKind.i64.wrap ((AA : Int) + 0) = (AA : Int) := by rw [Int.add_zero]; exact s2
    clear hK1 HR1
    go_upto_region 14 with (fail)
    clear z0
    have HE : Hid (∀ w', Tw w1 w1.heap.size p b e n1 h g p2 b2 e2 c1' A1' C0 A0 C0 A0 w' → Calls Tryz.prog 15 #[.pointer (some ⟨p2, 0, none⟩), .pointer (some ⟨b2 + 1, 0, none⟩), .int .i64 (AA : Int)] w' fun r w2 => r = .returned (.tuple #[.agg #[.int .u8 K1, .int .u32 NU1, .int .i64 WY1], .int .i64 (k1 : Int)]) ∧ Tw w1 w1.heap.size p b e n1 h g p2 b2 e2 c1' A1' C0 A0 c1' A1' w2 ∧ ∀ k cs, Blk w' k 39 cs → Blk w2 k 39 cs) := Lib.hid fun w' t => by
      have := t.run2 HRun.out HOK.out rfl HT1.out AA HTT.out
      rw [HRR.out] at this
      exact this
    have HD : Hid (∀ w', Tw w1 w1.heap.size p b e n1 h g p2 b2 e2 c1' A1' C0 A0 c1' A1' w' → Calls Tryz.prog 16 #[.pointer (some ⟨h, 0, none⟩), .pointer (some ⟨g, 0, none⟩), .int .i64 (AA : Int)] w' fun r w2 => r = .returned (.tuple #[.agg #[.int .u8 K1, .int .u32 NU1, .int .i64 WY1], .int .i64 (k1 : Int)]) ∧ Tw w1 w1.heap.size p b e n1 h g p2 b2 e2 c1' A1' c1' A1' c1' A1' w2 ∧ ∀ k cs, Blk w' k 39 cs → Blk w2 k 39 cs) := Lib.hid fun w' t => by
      have := t.run3 HOK.out AA HTT.out
      rw [HRR.out] at this
      exact this
    have hle : ¬ (AA : Int) < (k1 : Int) := by have := run_le AA C0 A0; rw [HRR.out] at this; simp only at this; omega
    go_wp2_with fail
    refine (HE.out _ T5.out).mono ?_; rintro r wa ⟨rfl, ta, ba⟩
    have Ta := Lib.hid (ta.alloc (.cells #[.int .u8 K1, .int .u32 NU1, .int .i64 WY1] 39))
    have Ba := Lib.hid (Blk.alloc (ba _ _ B5.out) (.cells #[.int .u8 K1, .int .u32 NU1, .int .i64 WY1] 39))
    have Da := Lib.hid (Blk.new wa 39 [.int .u8 K1, .int .u32 NU1, .int .i64 WY1])
    obtain ⟨wb, hwb⟩ : ∃ wb, wb = wa.alloc (.cells #[.int .u8 K1, .int .u32 NU1, .int .i64 WY1] 39) := ⟨_, rfl⟩
    obtain ⟨k20, hk20⟩ : ∃ k20, k20 = wa.heap.size := ⟨_, rfl⟩
    replace Ta : Hid (Tw w1 w1.heap.size p b e n1 h g p2 b2 e2 c1' A1' C0 A0 c1' A1' wb) := by rw [hwb]; exact Ta
    replace Ba : Hid (Blk wb k16 39 [.int .u8 K1, .int .u32 NU1, .int .i64 WY1]) := by rw [hwb]; exact Ba
    replace Da : Hid (Blk wb k20 39 [.int .u8 K1, .int .u32 NU1, .int .i64 WY1]) := by rw [hwb, hk20]; exact Da
    have HWb := Lib.hid hwb
    have HK20 := Lib.hid hk20
    clear ta ba hwb hk20 HE T5 B5
    go_wp2_with fail
    rw [← HWb.out, ← HK20.out]
    clear HWb HK20
    refine (HD.out _ Ta.out).mono ?_; rintro r wc ⟨rfl, tc, bc⟩
    have Tc := Lib.hid (tc.alloc (.cells #[.int .u8 K1, .int .u32 NU1, .int .i64 WY1] 39))
    have Bc := Lib.hid (Blk.alloc (bc _ _ Ba.out) (.cells #[.int .u8 K1, .int .u32 NU1, .int .i64 WY1] 39))
    have Dc := Lib.hid (Blk.alloc (bc _ _ Da.out) (.cells #[.int .u8 K1, .int .u32 NU1, .int .i64 WY1] 39))
    have Ec := Lib.hid (Blk.new wc 39 [.int .u8 K1, .int .u32 NU1, .int .i64 WY1])
    obtain ⟨wd, hwd⟩ : ∃ wd, wd = wc.alloc (.cells #[.int .u8 K1, .int .u32 NU1, .int .i64 WY1] 39) := ⟨_, rfl⟩
    obtain ⟨k22, hk22⟩ : ∃ k22, k22 = wc.heap.size := ⟨_, rfl⟩
    replace Tc : Hid (Tw w1 w1.heap.size p b e n1 h g p2 b2 e2 c1' A1' c1' A1' c1' A1' wd) := by rw [hwd]; exact Tc
    replace Bc : Hid (Blk wd k16 39 [.int .u8 K1, .int .u32 NU1, .int .i64 WY1]) := by rw [hwd]; exact Bc
    replace Dc : Hid (Blk wd k20 39 [.int .u8 K1, .int .u32 NU1, .int .i64 WY1]) := by rw [hwd]; exact Dc
    replace Ec : Hid (Blk wd k22 39 [.int .u8 K1, .int .u32 NU1, .int .i64 WY1]) := by rw [hwd, hk22]; exact Ec
    have HWd := Lib.hid hwd
    have HK22 := Lib.hid hk22
    clear tc bc hwd hk22 HD Ta Ba Da
    have b1 : (K1 != K1) = false := by simp
    have b2' : (NU1 != NU1) = false := by simp
    have b3 : (WY1 != WY1) = false := by simp
    have b4 : ((k1 : Int) != (k1 : Int)) = false := by simp
    obtain ⟨⟨x0, x1, x2⟩, _⟩ := Bc.out.three
    obtain ⟨⟨y0, y1, y2⟩, _⟩ := Dc.out.three
    obtain ⟨⟨v0, v1, v2⟩, _⟩ := Ec.out.three
    have HS1 : Hid (Calls Tryz.prog 11 #[.pointer (some ⟨p, 0, none⟩), .pointer (some ⟨h, 0, none⟩)] wd fun r w2 => r = .returned (.bool true) ∧ Tw w1 w1.heap.size p b e n1 h g p2 b2 e2 c1' A1' c1' A1' c1' A1' w2) := Lib.hid ((csame_any p h c1' wd Tc.out.f.cpu Tc.out.f.k).mono (by rintro r w2 ⟨h1, m, h2⟩; exact ⟨h1, by rw [h2]; exact Tc.out.below (below_drewN _ _)⟩))
    have HS2 : Hid (∀ w', Tw w1 w1.heap.size p b e n1 h g p2 b2 e2 c1' A1' c1' A1' c1' A1' w' → Calls Tryz.prog 11 #[.pointer (some ⟨p2, 0, none⟩), .pointer (some ⟨h, 0, none⟩)] w' fun r w2 => r = .returned (.bool true) ∧ Tw w1 w1.heap.size p b e n1 h g p2 b2 e2 c1' A1' c1' A1' c1' A1' w2) := Lib.hid fun w' t => ((csame_any p2 h c1' w' t.cp t.f.k).mono (by rintro r w2 ⟨h1, m, h2⟩; exact ⟨h1, by rw [h2]; exact t.below (below_drewN _ _)⟩))
    have HS3 : Hid (∀ w', Tw w1 w1.heap.size p b e n1 h g p2 b2 e2 c1' A1' c1' A1' c1' A1' w' → Calls Tryz.prog 12 #[.pointer (some ⟨b + 1, 0, none⟩), .pointer (some ⟨g, 0, none⟩)] w' fun r w2 => r = .returned (.bool true) ∧ Tw w1 w1.heap.size p b e n1 h g p2 b2 e2 c1' A1' c1' A1' c1' A1' w2) := Lib.hid fun w' t => ((same_any w1.heap.size b e n1 g A1' w' t.f.sp (by have := HN1.out; omega) t.f.rf).mono (by rintro r w2 ⟨h1, h2⟩; exact ⟨h1, t.below h2⟩))
    have HS4 : Hid (∀ w', Tw w1 w1.heap.size p b e n1 h g p2 b2 e2 c1' A1' c1' A1' c1' A1' w' → Calls Tryz.prog 12 #[.pointer (some ⟨b2 + 1, 0, none⟩), .pointer (some ⟨g, 0, none⟩)] w' fun r w2 => r = .returned (.bool true) ∧ Tw w1 w1.heap.size p b e n1 h g p2 b2 e2 c1' A1' c1' A1' c1' A1' w2) := Lib.hid fun w' t => ((same_any w1.heap.size b2 e2 n1 g A1' w' t.sp (by have := HN1.out; omega) t.f.rf).mono (by rintro r w2 ⟨h1, h2⟩; exact ⟨h1, t.below h2⟩))
    go_upto_region 16 with (fail)
    rw [← HWd.out, ← HK22.out]
    all_goals (
      go_wp2_with fail
      refine HS1.out.mono ?_; rintro r wf ⟨rfl, tf⟩
      have Tf := Lib.hid tf
      clear tf x0 x1 x2 y0 y1 y2 v0 v1 v2
      go_wp2_with fail
      refine (HS2.out _ Tf.out).mono ?_; rintro r wg ⟨rfl, tg⟩
      have Tg := Lib.hid tg
      clear tg
      go_wp2_with fail
      refine (HS3.out _ Tg.out).mono ?_; rintro r wi ⟨rfl, ti⟩
      have Ti := Lib.hid ti
      clear ti
      go_wp2_with fail
      refine (HS4.out _ Ti.out).mono ?_; rintro r wj ⟨rfl, tj⟩
      have Tj := Lib.hid tj
      clear tj
      go_wp2_with fail
      refine (HAl.out wj (HLO1.out.trans (Tj.out.f.low.mono HLO1.out.size))).mono ?_; rintro r wz ⟨rfl, qz⟩
      go_wp2
      go_ret
      exact ⟨rfl, (HLO1.out.trans (Tj.out.f.low.mono HLO1.out.size)).trans (qz.mono (Nat.le_trans HLO1.out.size Tj.out.f.gs))⟩)

theorem steps_any (hR : RunOK) (hC : CopyOK) (s : Sta) (q : Plc) (hs : s.fits) (a0 b0 : Int) (ha0 : 0 ≤ a0) (ha1 : a0 < 65536) (hb0 : 0 ≤ b0) (hb1 : b0 < 65536) (w : World) (hk : I.Tabled w) (hl : s.lies q w) :
    Calls Tryz.prog 4 #[.agg (s.cells q).toArray, .int .u16 a0, .int .u16 b0] w fun r w' => r = .returned (.bool true) ∧ Below w.heap.size w w' := by
  cases hH : heavyS s with
  | true => exact steps_heavy hR s q hs hH a0 b0 w hk hl
  | false => exact steps_light hC hR s q hs hH a0 b0 ha0 ha1 hb0 hb1 w hk hl
end Go.Proofs.YtgdbhmlmioihpaaGreatDoor
end

/- CpuSteps answers true for every state and all numbers of steps: so many steps and then more are as many at once, a copy goes the same way, and how many were done is told. No condition beyond the card's own: the table of what ops use holds what the program's text lays. -/
section
set_option linter.unusedVariables false
namespace Go.Proofs.YtgdbhmlmioihpaaGreatDoor
open Go Go.ChangeShapes Go.WideShapes Go.ChangeAt Go.RowKit

/-- The door's own heap meets the condition. -/
theorem cpuSteps_met (os : Os) (args : Array Value) : laidMetH Tryz.prog Rows.cpuStepsRow.laid ((World.doorLaid Tryz.prog 400 os).forCall (fun _ _ => 0) ⟨#[], args, []⟩).memory :=
  laidMetH_of_parts3 (fuel := 8) (laidMet_of_run' 8 (by kernel_rfl) (by kernel_rfl)) (by kernel_rfl) (by kernel_rfl)

set_option maxRecDepth 100000 in
theorem cpuSteps_lifted (hR : RunOK) (hC : CopyOK) (os : Os) (started : os.Started) (H : Type) (enc : TypeId × Value → H) :
    ReturnsInHanded {} Tryz.checked os 4 .any (fun w args => (Rows.cpuStepsSpec.pre enc Tryz.prog Tryz.f4 [] false w args ∧ laidMetH Tryz.prog Rows.cpuStepsRow.laid w) ∧ sizedMet enc Tryz.prog Tryz.f4 (OpenSpec.ofChange Rows.cpuStepsSpec) false w args)
      (Rows.cpuStepsSpec.post enc Tryz.prog Tryz.f4 false true false false) := by
  refine returnsInHanded_of_change_and (C := Tryz.checked) (X := fun w _ => laidMetH Tryz.prog Rows.cpuStepsRow.laid w) (fun _ _ _ hh h => h.of_heap hh) own started (by kernel_rfl) Tryz.func4
    (ChangeSpec.witness_shaped (enc := enc) (C := Tryz.checked) (os := os) (X := fun w _ => laidMetH Tryz.prog Rows.cpuStepsRow.laid w) false (World.doorLaid Tryz.prog 400 os) #[.agg #[.slice none 0 0, .int .u32 0, .slice none 0 0, .int .u16 0, .slice none 0 0, .int .u16 0, .string ByteArray.empty], .int .u16 0, .int .u16 0] 8 rfl (World.shaped_of_RefB (by kernel_rfl) (by kernel_rfl)) (by kernel_rfl) (by kernel_rfl) (by kernel_rfl) (cpuSteps_met os _)) ?_
  intro W base args ds gs before hval0 hW _ _ hL _
  have hval : ∀ (j : Nat) t v, Tryz.f4.params[j]? = some t → args[j]? = some v → Value.okWide Tryz.prog W .any base t v := hval0
  have hW' := hW
  obtain ⟨p, q, hA0, hV, rfl, hfz, hnd⟩ := hW
  have hA : DataW.TrodAll enc Tryz.prog W 0 (fun _ => true) true Tryz.f4.params.toList args.toList ds p := hA0
  rw [Tryz.params4] at hA hval
  obtain ⟨v0, vs0, d0, ds0, p0, q0, hargs, rfl, rfl, h0, r0⟩ := trodAll_cons hA
  obtain ⟨v1, vs1, d1, ds1, p1, q1, rfl, rfl, rfl, h1, r1⟩ := trodAll_cons r0
  obtain ⟨v2, vs2, d2, ds2, p2, q2, rfl, rfl, rfl, h2, r2⟩ := trodAll_cons r1
  obtain ⟨rfl, rfl, rfl⟩ := trodAll_nil r2
  obtain rfl : args = #[v0, v1, v2] := by cases args; simp_all
  obtain ⟨rfl, rfl⟩ := trodVars_none hV
  obtain ⟨s, pl, rfl, hs, hl⟩ := open_state (hval 0 28 v0 rfl rfl) h0
  obtain ⟨x1, rfl, rfl, rfl, w1⟩ := open_int Tryz.underlying25 (hval 1 25 v1 rfl rfl) h1
  obtain ⟨x2, rfl, rfl, rfl, w2⟩ := open_int Tryz.underlying25 (hval 2 25 v2 rfl rfl) h2
  clear hA0 hval0
  have hlt0 : ∀ x ∈ p0, x.block < W.heap.size := fun x hx => hW'.lt x (by simp [hx])
  simp only [List.append_nil] at hW'
  have fin : ∀ W', Below W.heap.size W W' → Rows.cpuStepsSpec.post enc Tryz.prog Tryz.f4 false true false false W #[.agg (s.cells pl).toArray, .int .u16 x1, .int .u16 x2] (.bool true) W' := fun W' hb =>
    law_post_at hW' rfl rfl rfl Tryz.underlying4 (by
      rw [← List.append_nil p0]
      exact trodAll_cons_mk (Below.trod laidOut (by kernel_rfl) (of_decide_eq_true (by kernel_rfl)) h0 hb hlt0) (trodAll_cons_mk (shut_int Tryz.underlying25 w1) (trodAll_cons_mk (shut_int Tryz.underlying25 w2) trodAll_mk0))) hb
  have b1 := bounds_u16 w1
  have b2 := bounds_u16 w2
  refine (steps_any hR hC s pl hs x1 x2 (by omega) (by omega) (by omega) (by omega) W (I.tabled_of_laid hL) hl).mono fun e W' ⟨he, hb⟩ => ?_
  subst he
  exact ⟨_, rfl, fin W' hb⟩

theorem cpuSteps_row (hR : RunOK) (hC : CopyOK) : Rows.CpuStepsSaid :=
  OpenClaim.holds_of_wide 4 Tryz.f4 rfl rfl rfl rfl rfl rfl rfl ⟨rfl, rfl, rfl, rfl, rfl⟩ rfl rfl rfl rfl rfl (by kernel_rfl) Tryz.func4 (by kernel_rfl)
    (of_decide_eq_true (by kernel_rfl)) (by unfold Func.isWrapper; first | (rw [if_pos (by decide +kernel)]; kernel_rfl) | (rw [if_neg (by decide +kernel)]; exact ⟨rfl, rfl⟩))
    (fun os started H enc _ => cpuSteps_lifted hR hC os started H enc)

theorem cpuSteps_given (hR : RunOK) (hC : CopyOK) : Rows.CpuStepsCardSaid :=
  Claim7.holds_tied_plain_at .later [] [.data] true Rows.cpuStepsCard.stood.harness false
    (cpuSteps_row hR hC) (fun _ h => by cases h) (by kernel_rfl) (fun _ h => by cases h) cpuSteps_row_tie rfl ⟨rfl, rfl⟩ (by kernel_rfl) rfl
    (fun f fn hf hfn => by
      obtain rfl : f = 4 := Option.some.inj ((show Tryz.prog.funcNamed "aedicule/aediculelaw06.CpuSteps" = some 4 by kernel_rfl).symm.trans hf) |>.symm
      obtain rfl : fn = Tryz.f4 := (Option.some.inj (Tryz.func4.symm.trans hfn)).symm
      exact ⟨by kernel_rfl, fun j t ht => by
        rw [Tryz.params4] at ht
        have h3 : t = 28 ∨ t = 25 := by
          rcases j with _ | _ | _ | j
          · left; simpa using ht.symm
          · right; simpa using ht.symm
          · right; simpa using ht.symm
          · simp at ht
        rcases h3 with rfl | rfl
        · exact (show Tryz.prog.wantsStandIn 28 = false by kernel_rfl)
        · exact (show Tryz.prog.wantsStandIn 25 = false by kernel_rfl)⟩)
    (by kernel_rfl)
end Go.Proofs.YtgdbhmlmioihpaaGreatDoor
end

/- So many steps and then more are as many at once, a copy goes the same way, and the count is right: CpuSteps answers true, for every state and any two numbers. No condition. -/
section
namespace Go.Proofs.YtgdbhmlmioihpaaGreatDoor
theorem cpuSteps_holds : Rows.CpuStepsCardSaid := cpuSteps_given runOK copyOK
end Go.Proofs.YtgdbhmlmioihpaaGreatDoor
end
