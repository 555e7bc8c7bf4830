/- What any cpu does in any space, step by step, and how it ends, is what the document says: CpuRuns answers true, for every state and every number of steps. No condition. -/
import Derived.Test.YtgdbhmlmioihpaaGreatDoorX24
import Derived.Test.YtgdbhmlmioihpaaGreatDoorX19
import Derived.Test.YtgdbhmlmioihpaaGreatDoorX29
import Derived.Test.YtgdbhmlmioihpaaGreatDoorX17
import Derived.Test.YtgdbhmlmioihpaaGreatDoorX38
import Derived.Test.YtgdbhmlmioihpaaGreatDoorX39
import Derived.Test.YtgdbhmlmioihpaaGreatDoorX40
import Derived.Test.YtgdbhmlmioihpaaGreatDoorX50
import Derived.Test.YtgdbhmlmioihpaaGreatDoorCards
import Derived.Test.YtgdbhmlmioihpaaGreatDoorTie
import Derived.SevenTiedAt
import Derived.ChangeMaps5
/- CpuRuns: what any cpu does in any space, step by step. -/
section
set_option linter.unusedVariables false
namespace Go.Proofs.YtgdbhmlmioihpaaGreatDoor
open Go Go.RowKit Go.Maps

set_option maxHeartbeats 8000000 in
set_option maxRecDepth 100000 in
theorem runs_heavy (hR : RunOK) (s : Sta) (q : Plc) (hs : s.fits) (hH : heavyS s = true) (N : Int) (w : World) (hk : I.Tabled w) (hl : s.lies q w) :
    Calls Tryz.prog 3 #[.agg (s.cells q).toArray, .int .u8 N] w fun r w' => r = .returned (.bool true) ∧ Below w.heap.size w w' := by
  obtain ⟨R, pc, P, at3, L, wh, tx⟩ := s
  obtain ⟨aR, cR, aP, cP, aL, cL⟩ := q
  obtain ⟨s, hs0⟩ : ∃ s, s = Sta.mk R pc P at3 L wh tx := ⟨_, rfl⟩
  obtain ⟨q, hq0⟩ : ∃ q, q = Plc.mk aR cR aP cP aL cL := ⟨_, rfl⟩
  have hcs : s.cells q = [.slice aR R.length cR, .int .u32 pc, .slice aP P.length cP, .int .u16 at3, .slice aL L.length cL, .int .u16 wh, .string tx] := by rw [hs0, hq0]; rfl
  rw [← hs0] at hs hl hH
  rw [← hq0] at hl
  rw [← hs0, ← hq0, hcs]
  obtain ⟨nR, hnR⟩ : ∃ n, n = R.length := ⟨_, rfl⟩
  obtain ⟨nP, hnP⟩ : ∃ n, n = P.length := ⟨_, rfl⟩
  obtain ⟨nL, hnL⟩ : ∃ n, n = L.length := ⟨_, rfl⟩
  rw [← hnR, ← hnP, ← hnL] at hcs ⊢
  obtain ⟨k0, hk0⟩ : ∃ k0, k0 = w.heap.size := ⟨_, rfl⟩
  obtain ⟨wb, hwb⟩ : ∃ wb, wb = w.alloc (.cells #[.slice aR nR cR, .int .u32 pc, .slice aP nP cP, .int .u16 at3, .slice aL nL cL, .int .u16 wh, .string tx] 28) := ⟨_, rfl⟩
  have hbx : Blk wb k0 28 (s.cells q) := by rw [hwb, hk0, hcs]; exact Blk.new _ _ _
  have hlo : Below w.heap.size w wb := by rw [hwb]; exact (Below.refl _ _).alloc (Nat.le_refl _) _
  have HC7 : Hid (∀ w', Blk w' k0 28 (s.cells q) → w'.cell? ⟨k0, 0, none⟩ = some (.slice aR nR cR) ∧ w'.cell? ⟨k0, 1, none⟩ = some (.int .u32 pc) ∧ w'.cell? ⟨k0, 2, none⟩ = some (.slice aP nP cP) ∧ w'.cell? ⟨k0, 3, none⟩ = some (.int .u16 at3) ∧ w'.cell? ⟨k0, 4, none⟩ = some (.slice aL nL cL) ∧ w'.cell? ⟨k0, 5, none⟩ = some (.int .u16 wh) ∧ w'.cell? ⟨k0, 6, none⟩ = some (.string tx)) :=
    Lib.hid fun w' hb => by rw [hcs] at hb; exact ⟨by rw [hb.cell]; rfl, by rw [hb.cell]; rfl, by rw [hb.cell]; rfl, by rw [hb.cell]; rfl, by rw [hb.cell]; rfl, by rw [hb.cell]; rfl, by rw [hb.cell]; rfl⟩
  have HHv : Hid (∀ w', Calls Tryz.prog 6 #[.agg #[.slice aR nR cR, .int .u32 pc, .slice aP nP cP, .int .u16 at3, .slice aL nL cL, .int .u16 wh, .string tx]] w' fun r w2 => r = .returned (.bool (heavyS s)) ∧ Below w'.heap.size w' w2) := Lib.hid fun w' => by
    have := cheavy_any s q w'
    rw [hcs] at this
    exact this
  rw [hH] at HHv
  have HAl : Hid (∀ w', Below w.heap.size w w' → Calls Tryz.prog 7 #[] w' fun r w2 => r = .returned (.bool true) ∧ Below w'.heap.size w' w2) := Lib.hid fun w' hb => calive_any hR w' (hk.below hb)
  have HBX := Lib.hid hbx
  have HLO := Lib.hid hlo
  have HWB := Lib.hid hwb
  have HK0 := Lib.hid hk0
  have HT := Lib.hid hk
  clear hs0 hq0 hcs hs hl hH hnR hnP hnL hk0 hwb hbx hlo hk
  go_enter Tryz.func3, Tryz.ntmps3
  go_upto_region 1 with (fail)
  rw [← HWB.out, ← HK0.out]
  obtain ⟨c0, c1, c2, c3, c4, c5, c6⟩ := HC7.out _ HBX.out
  go_wp2_with fail
  refine (HHv.out _).mono ?_; rintro r w1 ⟨rfl, q1⟩
  have HBX1 := Lib.hid (HBX.out.below q1 HBX.out.lt)
  have HLO1 : Hid (Below w.heap.size w w1) := Lib.hid (HLO.out.trans (q1.mono HLO.out.size))
  clear q1 HBX HLO HWB HHv c0 c1 c2 c3 c4 c5 c6
  go_wp2_with fail
  refine (HAl.out w1 HLO1.out).mono ?_; rintro r wz ⟨rfl, qz⟩
  go_wp2
  go_ret
  exact ⟨rfl, HLO1.out.trans (qz.mono HLO1.out.size)⟩

set_option maxHeartbeats 8000000 in
set_option maxRecDepth 100000 in
theorem runs_light (hS : StepOK) (hR : RunOK) (s : Sta) (q : Plc) (hs : s.fits) (hH : heavyS s = false) (N : Int) (hN0 : 0 ≤ N) (hN1 : N < 256) (w : World) (hk : I.Tabled w) (hl : s.lies q w) :
    Calls Tryz.prog 3 #[.agg (s.cells q).toArray, .int .u8 N] w fun r w' => r = .returned (.bool true) ∧ Below w.heap.size w w' := by
  obtain ⟨R, pc, P, at3, L, wh, tx⟩ := s
  obtain ⟨aR, cR, aP, cP, aL, cL⟩ := q
  obtain ⟨s, hs0⟩ : ∃ s, s = Sta.mk R pc P at3 L wh tx := ⟨_, rfl⟩
  obtain ⟨q, hq0⟩ : ∃ q, q = Plc.mk aR cR aP cP aL cL := ⟨_, rfl⟩
  have hcs : s.cells q = [.slice aR R.length cR, .int .u32 pc, .slice aP P.length cP, .int .u16 at3, .slice aL L.length cL, .int .u16 wh, .string tx] := by rw [hs0, hq0]; rfl
  rw [← hs0] at hs hl hH
  rw [← hq0] at hl
  rw [← hs0, ← hq0, hcs]
  obtain ⟨nR, hnR⟩ : ∃ n, n = R.length := ⟨_, rfl⟩
  obtain ⟨nP, hnP⟩ : ∃ n, n = P.length := ⟨_, rfl⟩
  obtain ⟨nL, hnL⟩ : ∃ n, n = L.length := ⟨_, rfl⟩
  rw [← hnR, ← hnP, ← hnL] at hcs ⊢
  obtain ⟨k0, hk0⟩ : ∃ k0, k0 = w.heap.size := ⟨_, rfl⟩
  obtain ⟨wb, hwb⟩ : ∃ wb, wb = w.alloc (.cells #[.slice aR nR cR, .int .u32 pc, .slice aP nP cP, .int .u16 at3, .slice aL nL cL, .int .u16 wh, .string tx] 28) := ⟨_, rfl⟩
  have hbx : Blk wb k0 28 (s.cells q) := by rw [hwb, hk0, hcs]; exact Blk.new _ _ _
  have hlo : Below w.heap.size w wb := by rw [hwb]; exact (Below.refl _ _).alloc (Nat.le_refl _) _
  have HC7 : Hid (∀ w', Blk w' k0 28 (s.cells q) → w'.cell? ⟨k0, 0, none⟩ = some (.slice aR nR cR) ∧ w'.cell? ⟨k0, 1, none⟩ = some (.int .u32 pc) ∧ w'.cell? ⟨k0, 2, none⟩ = some (.slice aP nP cP) ∧ w'.cell? ⟨k0, 3, none⟩ = some (.int .u16 at3) ∧ w'.cell? ⟨k0, 4, none⟩ = some (.slice aL nL cL) ∧ w'.cell? ⟨k0, 5, none⟩ = some (.int .u16 wh) ∧ w'.cell? ⟨k0, 6, none⟩ = some (.string tx)) :=
    Lib.hid fun w' hb => by rw [hcs] at hb; exact ⟨by rw [hb.cell]; rfl, by rw [hb.cell]; rfl, by rw [hb.cell]; rfl, by rw [hb.cell]; rfl, by rw [hb.cell]; rfl, by rw [hb.cell]; rfl, by rw [hb.cell]; rfl⟩
  have HHv : Hid (∀ w', Calls Tryz.prog 6 #[.agg #[.slice aR nR cR, .int .u32 pc, .slice aP nP cP, .int .u16 at3, .slice aL nL cL, .int .u16 wh, .string tx]] w' fun r w2 => r = .returned (.bool (heavyS s)) ∧ Below w'.heap.size w' w2) := Lib.hid fun w' => by
    have := cheavy_any s q w'
    rw [hcs] at this
    exact this
  rw [hH] at HHv
  have HAl : Hid (∀ w', Below w.heap.size w w' → Calls Tryz.prog 7 #[] w' fun r w2 => r = .returned (.bool true) ∧ Below w'.heap.size w' w2) := Lib.hid fun w' hb => calive_any hR w' (hk.below hb)
  have HMd : Hid (∀ w', Below w.heap.size w w' → Calls Tryz.prog 8 #[.agg #[.slice aR nR cR, .int .u32 pc, .slice aP nP cP, .int .u16 at3, .slice aL nL cL, .int .u16 wh, .string tx]] w' fun r w2 => ∃ p b e n h g : Nat, r = .returned (.tuple #[.pointer (some ⟨p, 0, none⟩), .pointer (some ⟨b + 1, 0, none⟩), .pointer (some ⟨h, 0, none⟩), .pointer (some ⟨g, 0, none⟩), .bool true]) ∧
      Fr w' w'.heap.size p b e n h g (madeC s) (madeA s) (madeC s) (madeA s) w2 ∧ n ≤ 16) := Lib.hid fun w' hb => by
    have := made_any s q hs hH w' (hl.below hb rfl)
    rw [hcs] at this
    exact this
  have HOK : Hid (madeC s).Ok := Lib.hid (cpR_ok hs.r hs.pc.1 hs.pc.2 _ (Nat.min_le_left _ _))
  obtain ⟨C0, hC0⟩ : ∃ C0, C0 = madeC s := ⟨_, rfl⟩
  obtain ⟨A0, hA0⟩ : ∃ A0, A0 = madeA s := ⟨_, rfl⟩
  rw [← hC0, ← hA0] at HMd
  rw [← hC0] at HOK
  have u1 : IntKind.i64.wrap N = N := by rw [IntKind.wrap_i64]; omega
  obtain ⟨M, hM⟩ : ∃ M, M = (N % 60).toNat := ⟨_, rfl⟩
  have t1 : N.tmod 60 = (M : Int) := by rw [Int.tmod_eq_emod_of_nonneg hN0]; omega
  have HM60 : Hid (M < 60) := Lib.hid (by omega)
  have HSt := Lib.hid hS
  have HBX := Lib.hid hbx
  have HLO := Lib.hid hlo
  have HWB := Lib.hid hwb
  have HK0 := Lib.hid hk0
  have HT := Lib.hid hk
  clear hs0 hq0 hcs hs hl hH hnR hnP hnL hk0 hwb hbx hlo hk hN0 hN1 hM hC0 hA0 hS hR
  go_enter Tryz.func3, Tryz.ntmps3
  go_upto_region 1 with (fail)
  rw [← HWB.out, ← HK0.out]
  obtain ⟨c0, c1, c2, c3, c4, c5, c6⟩ := HC7.out _ HBX.out
  go_wp2_with fail
  refine (HHv.out _).mono ?_; rintro r w1 ⟨rfl, q1⟩
  have HBX1 := Lib.hid (HBX.out.below q1 HBX.out.lt)
  have HLO1 : Hid (Below w.heap.size w w1) := Lib.hid (HLO.out.trans (q1.mono HLO.out.size))
  clear q1 HBX HLO HWB HHv c0 c1 c2 c3 c4 c5 c6
  obtain ⟨c0, c1, c2, c3, c4, c5, c6⟩ := HC7.out _ HBX1.out
  go_wp2_with fail
  refine (HMd.out _ HLO1.out).mono ?_; rintro r w2 ⟨p, b, e, n1, h, g, rfl, f2, hn1⟩
  have F2 := Lib.hid f2
  have HN1 := Lib.hid hn1
  have HT1 : Hid (I.Tabled w1) := Lib.hid (HT.out.below HLO1.out)
  clear f2 hn1 HMd HBX1 HC7 c0 c1 c2 c3 c4 c5 c6 HK0 HT
  go_wp2_with fail
  go_loopw [10] (fun v wr => ∃ (k : Nat) (c : Cp) (A : As), v = .int .i64 k ∧ Hid (k ≤ M) ∧ Hid c.Ok ∧ Hid (Fr w1 w1.heap.size p b e n1 h g c A c A wr)) (fun v _ => M - (intOf v).toNat)
  case atStart => exact ⟨0, C0, A0, rfl, Lib.hid (Nat.zero_le _), HOK, F2⟩
  case round =>
    obtain ⟨k, c, A, rfl, HK, HC, HF⟩ := hrel
    clear F2 HOK
    by_cases hlt : (k : Int) < (M : Int)
    · have hw64 : IntKind.i64.wrap ((k : Int) + 1) = (k : Int) + 1 := by rw [IntKind.wrap_i64]; have := HM60.out; omega
      have HK2 : Hid (k + 1 ≤ M) := Lib.hid (by omega)
      obtain ⟨o, ho⟩ : ∃ o, o = stepO c A := ⟨_, rfl⟩
      have HS1 : Hid (Calls Tryz.prog 9 #[.pointer (some ⟨p, 0, none⟩), .pointer (some ⟨b + 1, 0, none⟩)] wr fun r w' => r = .returned (.agg #[.int .u8 o.k, .int .u32 o.num, .int .i64 o.why]) ∧ Fr w1 w1.heap.size p b e n1 h g o.c o.A c A w') := Lib.hid (by
        have := HF.out.step HSt.out HC.out rfl HT1.out
        rw [← ho] at this
        exact this)
      have HS2 : Hid (∀ w', Fr w1 w1.heap.size p b e n1 h g o.c o.A c A w' → Calls Tryz.prog 10 #[.pointer (some ⟨h, 0, none⟩), .pointer (some ⟨g, 0, none⟩)] w' fun r w2 => r = .returned (.agg #[.int .u8 o.k, .int .u32 o.num, .int .i64 o.why]) ∧ Fr w1 w1.heap.size p b e n1 h g o.c o.A o.c o.A w2) := Lib.hid (fun w' f => by
        have := f.kstep HC.out
        rw [← ho] at this
        exact this)
      have HO2 : Hid o.c.Ok := Lib.hid (by rw [ho]; exact step_ok HC.out A)
      obtain ⟨K, NU, WY, c3, A3⟩ := o
      simp only at HS1 HS2 HO2
      clear ho HK
      go_wp2_with fail
      refine HS1.out.mono ?_; rintro r w4 ⟨rfl, f4⟩
      have F4 := Lib.hid f4
      clear f4 HS1 HF HC
      go_wp2_with fail
      refine (HS2.out _ F4.out).mono ?_; rintro r w5 ⟨rfl, f5⟩
      have F5 : Hid (Fr w1 w1.heap.size p b e n1 h g c3 A3 c3 A3 ((w5.alloc (.cells #[.int .u8 K, .int .u32 NU, .int .i64 WY] 39)).alloc (.cells #[.int .u8 K, .int .u32 NU, .int .i64 WY] 39))) := Lib.hid (f5.below (((Below.refl _ _).alloc (Nat.le_refl _) _).alloc (by simp) _))
      clear f5 HS2 F4
      have b1 : (K != K) = false := by simp
      have b2 : (NU != NU) = false := by simp
      have b3 : (WY != WY) = false := by simp
      go_wp2_with fail
      refine (csame_any p h c3 _ F5.out.cpu F5.out.k).mono ?_; rintro r w6 ⟨rfl, m6, hw6⟩
      have F6 : Hid (Fr w1 w1.heap.size p b e n1 h g c3 A3 c3 A3 w6) := Lib.hid (by rw [hw6]; exact F5.out.below (below_drewN _ _))
      by_cases hK2 : K = 2
      · have e2 : (K == 2) = true := by rw [hK2]; rfl
        clear hK2 F5
        subst hw6
        have HSm := Lib.hid (same_any w1.heap.size b e n1 g A3 _ F6.out.sp (by have := HN1.out; omega) F6.out.rf)
        go_wp2_with fail
        refine HSm.out.mono ?_; rintro r wy ⟨rfl, qy⟩
        have Fy := Lib.hid (F6.out.below qy)
        clear qy HSm
        go_wp2_with fail
        refine (HAl.out wy (HLO1.out.trans (Fy.out.low.mono HLO1.out.size))).mono ?_; rintro r wz ⟨rfl, qz⟩
        go_wp2
        go_ret
        exact ⟨rfl, (HLO1.out.trans (Fy.out.low.mono HLO1.out.size)).trans (qz.mono (Nat.le_trans HLO1.out.size Fy.out.gs))⟩
      · have e2 : (K == 2) = false := by rw [beq_eq_false_iff_ne]; exact hK2
        clear hK2 F5
        subst hw6
        go_wp2_with fail
        go_roundw
        case rel => exact ⟨k + 1, c3, A3, by go_num, HK2, HO2, F6⟩
        case measure => simp [intOf]; have := HK2.out; omega
    · clear HK HC
      have HSm := Lib.hid (same_any w1.heap.size b e n1 g A _ HF.out.sp (by have := HN1.out; omega) HF.out.rf)
      go_wp2_with fail
      refine HSm.out.mono ?_; rintro r wy ⟨rfl, qy⟩
      have Fy := Lib.hid (HF.out.below qy)
      clear qy HSm
      go_wp2_with fail
      refine (HAl.out wy (HLO1.out.trans (Fy.out.low.mono HLO1.out.size))).mono ?_; rintro r wz ⟨rfl, qz⟩
      go_wp2
      go_ret
      exact ⟨rfl, (HLO1.out.trans (Fy.out.low.mono HLO1.out.size)).trans (qz.mono (Nat.le_trans HLO1.out.size Fy.out.gs))⟩

theorem runs_any (hS : StepOK) (hR : RunOK) (s : Sta) (q : Plc) (hs : s.fits) (N : Int) (hN0 : 0 ≤ N) (hN1 : N < 256) (w : World) (hk : I.Tabled w) (hl : s.lies q w) :
    Calls Tryz.prog 3 #[.agg (s.cells q).toArray, .int .u8 N] w fun r w' => r = .returned (.bool true) ∧ Below w.heap.size w w' := by
  cases hH : heavyS s with
  | true => exact runs_heavy hR s q hs hH N w hk hl
  | false => exact runs_light hS hR s q hs hH N hN0 hN1 w hk hl
end Go.Proofs.YtgdbhmlmioihpaaGreatDoor
end

/- CpuRuns answers true for every state and every number of steps: what a cpu does in a space, step by step, and how it ends, is what the document's does. No condition beyond the card's own: the table of what ops use holds what the program's text lays. -/
section
set_option linter.unusedVariables false
namespace Go.Proofs.YtgdbhmlmioihpaaGreatDoor
open Go Go.ChangeShapes Go.WideShapes Go.ChangeAt Go.RowKit

/-- The door's own heap meets the condition. -/
theorem cpuRuns_met (os : Os) (args : Array Value) : laidMetH Tryz.prog Rows.cpuRunsRow.laid ((World.doorLaid Tryz.prog 400 os).forCall (fun _ _ => 0) ⟨#[], args, []⟩).memory :=
  laidMetH_of_parts3 (fuel := 8) (laidMet_of_run' 8 (by kernel_rfl) (by kernel_rfl)) (by kernel_rfl) (by kernel_rfl)

set_option maxRecDepth 100000 in
theorem cpuRuns_lifted (hS : StepOK) (hR : RunOK) (os : Os) (started : os.Started) (H : Type) (enc : TypeId × Value → H) :
    ReturnsInHanded {} Tryz.checked os 3 .any (fun w args => (Rows.cpuRunsSpec.pre enc Tryz.prog Tryz.f3 [] false w args ∧ laidMetH Tryz.prog Rows.cpuRunsRow.laid w) ∧ sizedMet enc Tryz.prog Tryz.f3 (OpenSpec.ofChange Rows.cpuRunsSpec) false w args)
      (Rows.cpuRunsSpec.post enc Tryz.prog Tryz.f3 false true false false) := by
  refine returnsInHanded_of_change_and (C := Tryz.checked) (X := fun w _ => laidMetH Tryz.prog Rows.cpuRunsRow.laid w) (fun _ _ _ hh h => h.of_heap hh) own started (by kernel_rfl) Tryz.func3
    (ChangeSpec.witness_shaped (enc := enc) (C := Tryz.checked) (os := os) (X := fun w _ => laidMetH Tryz.prog Rows.cpuRunsRow.laid w) false (World.doorLaid Tryz.prog 400 os) #[.agg #[.slice none 0 0, .int .u32 0, .slice none 0 0, .int .u16 0, .slice none 0 0, .int .u16 0, .string ByteArray.empty], .int .u8 0] 8 rfl (World.shaped_of_RefB (by kernel_rfl) (by kernel_rfl)) (by kernel_rfl) (by kernel_rfl) (by kernel_rfl) (cpuRuns_met os _)) ?_
  intro W base args ds gs before hval0 hW _ _ hL _
  have hval : ∀ (j : Nat) t v, Tryz.f3.params[j]? = some t → args[j]? = some v → Value.okWide Tryz.prog W .any base t v := hval0
  have hW' := hW
  obtain ⟨p, q, hA0, hV, rfl, hfz, hnd⟩ := hW
  have hA : DataW.TrodAll enc Tryz.prog W 0 (fun _ => true) true Tryz.f3.params.toList args.toList ds p := hA0
  rw [Tryz.params3] at hA hval
  obtain ⟨v0, vs0, d0, ds0, p0, q0, hargs, rfl, rfl, h0, r0⟩ := trodAll_cons hA
  obtain ⟨v1, vs1, d1, ds1, p1, q1, rfl, rfl, rfl, h1, r1⟩ := trodAll_cons r0
  obtain ⟨rfl, rfl, rfl⟩ := trodAll_nil r1
  obtain rfl : args = #[v0, v1] := by cases args; simp_all
  obtain ⟨rfl, rfl⟩ := trodVars_none hV
  obtain ⟨s, pl, rfl, hs, hl⟩ := open_state (hval 0 28 v0 rfl rfl) h0
  obtain ⟨x1, rfl, rfl, rfl, w1⟩ := open_int Tryz.underlying5 (hval 1 5 v1 rfl rfl) h1
  clear hA0 hval0
  have hlt0 : ∀ x ∈ p0, x.block < W.heap.size := fun x hx => hW'.lt x (by simp [hx])
  simp only [List.append_nil] at hW'
  have fin : ∀ W', Below W.heap.size W W' → Rows.cpuRunsSpec.post enc Tryz.prog Tryz.f3 false true false false W #[.agg (s.cells pl).toArray, .int .u8 x1] (.bool true) W' := fun W' hb =>
    law_post_at hW' rfl rfl rfl Tryz.underlying4 (by
      rw [← List.append_nil p0]
      exact trodAll_cons_mk (Below.trod laidOut (by kernel_rfl) (of_decide_eq_true (by kernel_rfl)) h0 hb hlt0) (trodAll_cons_mk (shut_int Tryz.underlying5 w1) trodAll_mk0)) hb
  have b1 := bounds_u8 w1
  refine (runs_any hS hR s pl hs x1 (by omega) (by omega) W (I.tabled_of_laid hL) hl).mono fun e W' ⟨he, hb⟩ => ?_
  subst he
  exact ⟨_, rfl, fin W' hb⟩

theorem cpuRuns_row (hS : StepOK) (hR : RunOK) : Rows.CpuRunsSaid :=
  OpenClaim.holds_of_wide 3 Tryz.f3 rfl rfl rfl rfl rfl rfl rfl ⟨rfl, rfl, rfl, rfl, rfl⟩ rfl rfl rfl rfl rfl (by kernel_rfl) Tryz.func3 (by kernel_rfl)
    (of_decide_eq_true (by kernel_rfl)) (by unfold Func.isWrapper; first | (rw [if_pos (by decide +kernel)]; kernel_rfl) | (rw [if_neg (by decide +kernel)]; exact ⟨rfl, rfl⟩))
    (fun os started H enc _ => cpuRuns_lifted hS hR os started H enc)

theorem cpuRuns_given (hS : StepOK) (hR : RunOK) : Rows.CpuRunsCardSaid :=
  Claim7.holds_tied_plain_at .later [] [.data] true Rows.cpuRunsCard.stood.harness false
    (cpuRuns_row hS hR) (fun _ h => by cases h) (by kernel_rfl) (fun _ h => by cases h) cpuRuns_row_tie rfl ⟨rfl, rfl⟩ (by kernel_rfl) rfl
    (fun f fn hf hfn => by
      obtain rfl : f = 3 := Option.some.inj ((show Tryz.prog.funcNamed "aedicule/aediculelaw06.CpuRuns" = some 3 by kernel_rfl).symm.trans hf) |>.symm
      obtain rfl : fn = Tryz.f3 := (Option.some.inj (Tryz.func3.symm.trans hfn)).symm
      exact ⟨by kernel_rfl, fun j t ht => by
        rw [Tryz.params3] at ht
        have h3 : t = 28 ∨ t = 5 := by
          rcases j with _ | _ | j
          · left; simpa using ht.symm
          · right; simpa using ht.symm
          · simp at ht
        rcases h3 with rfl | rfl
        · exact (show Tryz.prog.wantsStandIn 28 = false by kernel_rfl)
        · exact (show Tryz.prog.wantsStandIn 5 = false by kernel_rfl)⟩)
    (by kernel_rfl)
end Go.Proofs.YtgdbhmlmioihpaaGreatDoor
end

/- What any cpu does in any space, step by step, and how it ends, is what the document says: CpuRuns answers true, for every state and every number of steps. No condition. -/
section
namespace Go.Proofs.YtgdbhmlmioihpaaGreatDoor
theorem cpuRuns_holds : Rows.CpuRunsCardSaid := cpuRuns_given stepOK runOK
end Go.Proofs.YtgdbhmlmioihpaaGreatDoor
end
