/- A step changes at most one register, the pc, and 4 bytes in a row that may be written, and one that ends by a fault changes nothing: CpuAlone answers true, for every state, behind any number of steps. No condition. -/
import Derived.Test.YtgdbhmlmioihpaaGreatDoorX24
import Derived.Test.YtgdbhmlmioihpaaGreatDoorX19
import Derived.Test.YtgdbhmlmioihpaaGreatDoorX52
import Derived.Test.YtgdbhmlmioihpaaGreatDoorX42
import Derived.Test.YtgdbhmlmioihpaaGreatDoorX30
import Derived.Test.YtgdbhmlmioihpaaGreatDoorX02
import Derived.Test.YtgdbhmlmioihpaaGreatDoorX39
import Derived.Test.YtgdbhmlmioihpaaGreatDoorX40
import Derived.Test.YtgdbhmlmioihpaaGreatDoorX50
import Derived.BigQuiet
import Derived.Test.YtgdbhmlmioihpaaGreatDoorCards
import Derived.Test.YtgdbhmlmioihpaaGreatDoorTie
import Derived.SevenTiedAt
import Derived.ChangeMaps5
/- CpuAlone: a step changes at most one register, the pc, and 4 bytes in a row, all of which may be written; one that faults changes nothing. -/
section
set_option linter.unusedVariables false
namespace Go.Proofs.YtgdbhmlmioihpaaGreatDoor
open Go Go.RowKit Go.Maps

/-- A cpu and a space behind a step, their copies ahead of it, the stop, and the pages that were told. -/
def Q3 (w0 : World) (G p b e n h g p2 b2 e2 : Nat) (c : Cp) (A : As) (c' : Cp) (A' : As) (c2 : Cp) (A2 : As) (k12 : Nat) (st : List Value) (a : Option Addr) (L : List Int) (w : World) : Prop :=
  Tw w0 G p b e n h g p2 b2 e2 c A c' A' c2 A2 w ∧ Blk w k12 39 st ∧ WordsAt w a L
theorem Q3.below {w0 w w' : World} {G p b e n h g p2 b2 e2 k12 : Nat} {c c' c2 : Cp} {A A' A2 : As} {st : List Value} {a : Option Addr} {L : List Int} (q : Q3 w0 G p b e n h g p2 b2 e2 c A c' A' c2 A2 k12 st a L w) (hb : Below w.heap.size w w') :
    Q3 w0 G p b e n h g p2 b2 e2 c A c' A' c2 A2 k12 st a L w' := ⟨q.1.below hb, q.2.1.below hb q.2.1.lt, q.2.2.below hb⟩
theorem WordsAt.at' {w : World} {j : Nat} {a : Option Addr} {l : List Int} (h : WordsAt w a l) (hj : j < l.length) : ∃ g, a = some ⟨g, 0, none⟩ := by
  rcases h with rfl | ⟨g', R, he, hR⟩
  · exact absurd hj (by simp)
  · exact ⟨g', he⟩
theorem WordsAt.cell' {w : World} {g j x : Nat} {l : List Int} (h : WordsAt w (some ⟨g, 0, none⟩) l) (hj : j < l.length) (hx : l.toArray[j]! = (x : Int)) : w.cell? ⟨g, j, none⟩ = some (.int .u32 (x : Int)) := by
  rcases h with rfl | ⟨g', R, he, hR⟩
  · exact absurd hj (by simp)
  · simp only [Option.some.injEq, Addr.mk.injEq, and_true] at he
    subst he
    have := hR.cell j (by simpa using hj)
    rw [Nat.zero_add, hx] at this
    exact this

set_option maxHeartbeats 8000000 in
set_option maxRecDepth 100000 in
theorem alone_heavy (hR : RunOK) (s : Sta) (q : Plc) (hs : s.fits) (hH : heavyS s = true) (N : Int) (w : World) (hk : I.Tabled w) (hl : s.lies q w) :
    Calls Tryz.prog 5 #[.agg (s.cells q).toArray, .int .u8 N] w fun r w' => r = .returned (.bool true) ∧ Below w.heap.size w w' := by
  obtain ⟨R, pc, P, at3, L, wh, tx⟩ := s
  obtain ⟨aR, cR, aP, cP, aL, cL⟩ := q
  obtain ⟨s, hs0⟩ : ∃ s, s = Sta.mk R pc P at3 L wh tx := ⟨_, rfl⟩
  obtain ⟨q, hq0⟩ : ∃ q, q = Plc.mk aR cR aP cP aL cL := ⟨_, rfl⟩
  have hcs : s.cells q = [.slice aR R.length cR, .int .u32 pc, .slice aP P.length cP, .int .u16 at3, .slice aL L.length cL, .int .u16 wh, .string tx] := by rw [hs0, hq0]; rfl
  rw [← hs0] at hs hl hH
  rw [← hq0] at hl
  rw [← hs0, ← hq0, hcs]
  obtain ⟨nR, hnR⟩ : ∃ n, n = R.length := ⟨_, rfl⟩
  obtain ⟨nP, hnP⟩ : ∃ n, n = P.length := ⟨_, rfl⟩
  obtain ⟨nL, hnL⟩ : ∃ n, n = L.length := ⟨_, rfl⟩
  rw [← hnR, ← hnP, ← hnL] at hcs ⊢
  obtain ⟨k0, hk0⟩ : ∃ k0, k0 = w.heap.size := ⟨_, rfl⟩
  obtain ⟨wb, hwb⟩ : ∃ wb, wb = w.alloc (.cells #[.slice aR nR cR, .int .u32 pc, .slice aP nP cP, .int .u16 at3, .slice aL nL cL, .int .u16 wh, .string tx] 28) := ⟨_, rfl⟩
  have hbx : Blk wb k0 28 (s.cells q) := by rw [hwb, hk0, hcs]; exact Blk.new _ _ _
  have hlo : Below w.heap.size w wb := by rw [hwb]; exact (Below.refl _ _).alloc (Nat.le_refl _) _
  have HC7 : Hid (∀ w', Blk w' k0 28 (s.cells q) → w'.cell? ⟨k0, 0, none⟩ = some (.slice aR nR cR) ∧ w'.cell? ⟨k0, 1, none⟩ = some (.int .u32 pc) ∧ w'.cell? ⟨k0, 2, none⟩ = some (.slice aP nP cP) ∧ w'.cell? ⟨k0, 3, none⟩ = some (.int .u16 at3) ∧ w'.cell? ⟨k0, 4, none⟩ = some (.slice aL nL cL) ∧ w'.cell? ⟨k0, 5, none⟩ = some (.int .u16 wh) ∧ w'.cell? ⟨k0, 6, none⟩ = some (.string tx)) :=
    Lib.hid fun w' hb => by rw [hcs] at hb; exact ⟨by rw [hb.cell]; rfl, by rw [hb.cell]; rfl, by rw [hb.cell]; rfl, by rw [hb.cell]; rfl, by rw [hb.cell]; rfl, by rw [hb.cell]; rfl, by rw [hb.cell]; rfl⟩
  have HHv : Hid (∀ w', Calls Tryz.prog 6 #[.agg #[.slice aR nR cR, .int .u32 pc, .slice aP nP cP, .int .u16 at3, .slice aL nL cL, .int .u16 wh, .string tx]] w' fun r w2 => r = .returned (.bool (heavyS s)) ∧ Below w'.heap.size w' w2) := Lib.hid fun w' => by
    have := cheavy_any s q w'
    rw [hcs] at this
    exact this
  rw [hH] at HHv
  have HAl : Hid (∀ w', Below w.heap.size w w' → Calls Tryz.prog 7 #[] w' fun r w2 => r = .returned (.bool true) ∧ Below w'.heap.size w' w2) := Lib.hid fun w' hb => calive_any hR w' (hk.below hb)
  have HBX := Lib.hid hbx
  have HLO := Lib.hid hlo
  have HWB := Lib.hid hwb
  have HK0 := Lib.hid hk0
  have HT := Lib.hid hk
  clear hs0 hq0 hcs hs hl hH hnR hnP hnL hk0 hwb hbx hlo hk
  go_enter Tryz.func5, Tryz.ntmps5
  go_upto_region 1 with (fail)
  rw [← HWB.out, ← HK0.out]
  obtain ⟨c0, c1, c2, c3, c4, c5, c6⟩ := HC7.out _ HBX.out
  go_wp2_with fail
  refine (HHv.out _).mono ?_; rintro r w1 ⟨rfl, q1⟩
  have HBX1 := Lib.hid (HBX.out.below q1 HBX.out.lt)
  have HLO1 : Hid (Below w.heap.size w w1) := Lib.hid (HLO.out.trans (q1.mono HLO.out.size))
  clear q1 HBX HLO HWB HHv c0 c1 c2 c3 c4 c5 c6
  go_wp2_with fail
  refine (HAl.out w1 HLO1.out).mono ?_; rintro r wz ⟨rfl, qz⟩
  go_wp2
  go_ret
  exact ⟨rfl, HLO1.out.trans (qz.mono HLO1.out.size)⟩

set_option maxHeartbeats 8000000 in
set_option maxRecDepth 100000 in
theorem alone_light (hS : StepOK) (hC : CopyOK) (hR : RunOK) (s : Sta) (q : Plc) (hs : s.fits) (hH : heavyS s = false) (N : Int) (hN0 : 0 ≤ N) (hN1 : N < 256) (w : World) (hk : I.Tabled w) (hl : s.lies q w) :
    Calls Tryz.prog 5 #[.agg (s.cells q).toArray, .int .u8 N] w fun r w' => r = .returned (.bool true) ∧ Below w.heap.size w w' := by
  obtain ⟨R, pc, P, at3, L, wh, tx⟩ := s
  obtain ⟨aR, cR, aP, cP, aL, cL⟩ := q
  obtain ⟨s, hs0⟩ : ∃ s, s = Sta.mk R pc P at3 L wh tx := ⟨_, rfl⟩
  obtain ⟨q, hq0⟩ : ∃ q, q = Plc.mk aR cR aP cP aL cL := ⟨_, rfl⟩
  have hcs : s.cells q = [.slice aR R.length cR, .int .u32 pc, .slice aP P.length cP, .int .u16 at3, .slice aL L.length cL, .int .u16 wh, .string tx] := by rw [hs0, hq0]; rfl
  rw [← hs0] at hs hl hH
  rw [← hq0] at hl
  rw [← hs0, ← hq0, hcs]
  obtain ⟨nR, hnR⟩ : ∃ n, n = R.length := ⟨_, rfl⟩
  obtain ⟨nP, hnP⟩ : ∃ n, n = P.length := ⟨_, rfl⟩
  obtain ⟨nL, hnL⟩ : ∃ n, n = L.length := ⟨_, rfl⟩
  rw [← hnR, ← hnP, ← hnL] at hcs ⊢
  obtain ⟨k0, hk0⟩ : ∃ k0, k0 = w.heap.size := ⟨_, rfl⟩
  obtain ⟨wb, hwb⟩ : ∃ wb, wb = w.alloc (.cells #[.slice aR nR cR, .int .u32 pc, .slice aP nP cP, .int .u16 at3, .slice aL nL cL, .int .u16 wh, .string tx] 28) := ⟨_, rfl⟩
  have hbx : Blk wb k0 28 (s.cells q) := by rw [hwb, hk0, hcs]; exact Blk.new _ _ _
  have hlo : Below w.heap.size w wb := by rw [hwb]; exact (Below.refl _ _).alloc (Nat.le_refl _) _
  have HC7 : Hid (∀ w', Blk w' k0 28 (s.cells q) → w'.cell? ⟨k0, 0, none⟩ = some (.slice aR nR cR) ∧ w'.cell? ⟨k0, 1, none⟩ = some (.int .u32 pc) ∧ w'.cell? ⟨k0, 2, none⟩ = some (.slice aP nP cP) ∧ w'.cell? ⟨k0, 3, none⟩ = some (.int .u16 at3) ∧ w'.cell? ⟨k0, 4, none⟩ = some (.slice aL nL cL) ∧ w'.cell? ⟨k0, 5, none⟩ = some (.int .u16 wh) ∧ w'.cell? ⟨k0, 6, none⟩ = some (.string tx)) :=
    Lib.hid fun w' hb => by rw [hcs] at hb; exact ⟨by rw [hb.cell]; rfl, by rw [hb.cell]; rfl, by rw [hb.cell]; rfl, by rw [hb.cell]; rfl, by rw [hb.cell]; rfl, by rw [hb.cell]; rfl, by rw [hb.cell]; rfl⟩
  have HHv : Hid (∀ w', Calls Tryz.prog 6 #[.agg #[.slice aR nR cR, .int .u32 pc, .slice aP nP cP, .int .u16 at3, .slice aL nL cL, .int .u16 wh, .string tx]] w' fun r w2 => r = .returned (.bool (heavyS s)) ∧ Below w'.heap.size w' w2) := Lib.hid fun w' => by
    have := cheavy_any s q w'
    rw [hcs] at this
    exact this
  rw [hH] at HHv
  have HAl : Hid (∀ w', Below w.heap.size w w' → Calls Tryz.prog 7 #[] w' fun r w2 => r = .returned (.bool true) ∧ Below w'.heap.size w' w2) := Lib.hid fun w' hb => calive_any hR w' (hk.below hb)
  have HMd : Hid (∀ w', Below w.heap.size w w' → Calls Tryz.prog 8 #[.agg #[.slice aR nR cR, .int .u32 pc, .slice aP nP cP, .int .u16 at3, .slice aL nL cL, .int .u16 wh, .string tx]] w' fun r w2 => ∃ p b e n h g : Nat, r = .returned (.tuple #[.pointer (some ⟨p, 0, none⟩), .pointer (some ⟨b + 1, 0, none⟩), .pointer (some ⟨h, 0, none⟩), .pointer (some ⟨g, 0, none⟩), .bool true]) ∧
      Fr w' w'.heap.size p b e n h g (madeC s) (madeA s) (madeC s) (madeA s) w2 ∧ n ≤ 16) := Lib.hid fun w' hb => by
    have := made_any s q hs hH w' (hl.below hb rfl)
    rw [hcs] at this
    exact this
  have HOK : Hid (madeC s).Ok := Lib.hid (cpR_ok hs.r hs.pc.1 hs.pc.2 _ (Nat.min_le_left _ _))
  obtain ⟨C0, hC0⟩ : ∃ C0, C0 = madeC s := ⟨_, rfl⟩
  obtain ⟨A0, hA0⟩ : ∃ A0, A0 = madeA s := ⟨_, rfl⟩
  rw [← hC0, ← hA0] at HMd
  rw [← hC0] at HOK
  have u1 : IntKind.i64.wrap N = N := by rw [IntKind.wrap_i64]; omega
  obtain ⟨M, hM⟩ : ∃ M, M = (N % 40).toNat := ⟨_, rfl⟩
  have t1 : N.tmod 40 = (M : Int) := by rw [Int.tmod_eq_emod_of_nonneg hN0]; omega
  have HM40 : Hid (M < 40) := Lib.hid (by omega)
  have HSt := Lib.hid hS
  have HRun := Lib.hid hR
  have HCopy := Lib.hid hC
  have HBX := Lib.hid hbx
  have HLO := Lib.hid hlo
  have HWB := Lib.hid hwb
  have HK0 := Lib.hid hk0
  have HT := Lib.hid hk
  clear hs0 hq0 hcs hs hl hH hnR hnP hnL hk0 hwb hbx hlo hk hN0 hN1 hM hC0 hA0 hS hR hC
  go_enter Tryz.func5, Tryz.ntmps5
  go_upto_region 1 with (fail)
  rw [← HWB.out, ← HK0.out]
  obtain ⟨c0, c1, c2, c3, c4, c5, c6⟩ := HC7.out _ HBX.out
  go_wp2_with fail
  refine (HHv.out _).mono ?_; rintro r w1 ⟨rfl, q1⟩
  have HBX1 := Lib.hid (HBX.out.below q1 HBX.out.lt)
  have HLO1 : Hid (Below w.heap.size w w1) := Lib.hid (HLO.out.trans (q1.mono HLO.out.size))
  clear q1 HBX HLO HWB HHv c0 c1 c2 c3 c4 c5 c6
  obtain ⟨c0, c1, c2, c3, c4, c5, c6⟩ := HC7.out _ HBX1.out
  go_wp2_with fail
  refine (HMd.out _ HLO1.out).mono ?_; rintro r w2 ⟨p, b, e, n1, h, g, rfl, f2, hn1⟩
  have F2 := Lib.hid f2
  have HN1 := Lib.hid hn1
  have HT1 : Hid (I.Tabled w1) := Lib.hid (HT.out.below HLO1.out)
  clear f2 hn1 HMd HBX1 HC7 c0 c1 c2 c3 c4 c5 c6 HK0 HT
  obtain ⟨c1, hc1⟩ : ∃ c1, c1 = (runO M C0 A0).1.c := ⟨_, rfl⟩
  obtain ⟨A1, hA1⟩ : ∃ A1, A1 = (runO M C0 A0).1.A := ⟨_, rfl⟩
  have HOK1 : Hid c1.Ok := Lib.hid (by rw [hc1]; exact run_ok M HOK.out A0)
  have HRA : Hid (Calls Tryz.prog 15 #[.pointer (some ⟨p, 0, none⟩), .pointer (some ⟨b + 1, 0, none⟩), .int .i64 (M : Int)] w2 fun r w' => (∃ v, r = .returned v) ∧ Fr w1 w1.heap.size p b e n1 h g c1 A1 C0 A0 w') := Lib.hid (by
    have := F2.out.run HRun.out HOK.out rfl HT1.out M (by have := HM40.out; omega)
    rw [← hc1, ← hA1] at this
    exact this.mono fun r w' ⟨h1, h2, _⟩ => ⟨⟨_, h1⟩, h2⟩)
  clear hc1 hA1
  go_wp2_with fail
  refine HRA.out.mono ?_; rintro r w3 ⟨⟨rv, rfl⟩, f3⟩
  have F3 := Lib.hid f3
  clear f3 HRA F2 HOK u1 t1
  go_wp2_with fail
  refine (F3.out.copies HCopy.out).mono ?_; rintro r w4 ⟨p2, rfl, f4, x4, l1, l2, l3⟩
  have F4 := Lib.hid (And.intro f4 (And.intro x4 (And.intro l1 (And.intro l2 l3))))
  clear f4 x4 l1 l2 l3 F3 HCopy
  go_wp2_with fail
  refine (F4.out.1.copies2 (by have := HN1.out; omega) F4.out.2.1 F4.out.2.2.1 F4.out.2.2.2.1 F4.out.2.2.2.2).mono ?_; rintro r w5 ⟨b2, e2, rfl, t5⟩
  have T5 := Lib.hid t5
  clear t5 F4
  obtain ⟨o, ho⟩ : ∃ o, o = stepO c1 A1 := ⟨_, rfl⟩
  obtain ⟨ad, tb, hw⟩ := step_writes c1 A1
  obtain ⟨d, hd⟩ := step_reg c1 A1
  have hkk := step_k c1 A1
  have hok2 := step_ok HOK1.out A1
  rw [← ho] at hw hd hkk hok2
  have HS1 : Hid (Calls Tryz.prog 9 #[.pointer (some ⟨p, 0, none⟩), .pointer (some ⟨b + 1, 0, none⟩)] w5 fun r w' => r = .returned (.agg #[.int .u8 o.k, .int .u32 o.num, .int .i64 o.why]) ∧ Tw w1 w1.heap.size p b e n1 h g p2 b2 e2 o.c o.A C0 A0 c1 A1 w') := Lib.hid (by
    have := T5.out.step1 HSt.out HOK1.out rfl HT1.out
    rw [← ho] at this
    exact this)
  clear ho
  obtain ⟨K, NU, WY, c2, A2⟩ := o
  simp only at HS1 hw hd hkk hok2
  have HW := Lib.hid hw
  have HWE : Hid (A2 = putR A1 2 ad tb) := Lib.hid hw.eq
  have HD := Lib.hid hd
  have HKK := Lib.hid hkk
  have HOK2 := Lib.hid hok2
  clear hw hd hkk hok2
  go_wp2_with fail
  refine HS1.out.mono ?_; rintro r w6 ⟨rfl, t6⟩
  have T6 := Lib.hid (t6.alloc (.cells #[.int .u8 K, .int .u32 NU, .int .i64 WY] 39))
  have B6 := Lib.hid (Blk.new w6 39 [.int .u8 K, .int .u32 NU, .int .i64 WY])
  obtain ⟨w7, hw7⟩ : ∃ w7, w7 = w6.alloc (.cells #[.int .u8 K, .int .u32 NU, .int .i64 WY] 39) := ⟨_, rfl⟩
  obtain ⟨k12, hk12⟩ : ∃ k12, k12 = w6.heap.size := ⟨_, rfl⟩
  have Q7 : Hid (Tw w1 w1.heap.size p b e n1 h g p2 b2 e2 c2 A2 C0 A0 c1 A1 w7 ∧ Blk w7 k12 39 [.int .u8 K, .int .u32 NU, .int .i64 WY]) := Lib.hid (by rw [hw7]; exact ⟨T6.out, by rw [hk12]; exact B6.out⟩)
  have HW7 := Lib.hid hw7
  have HK12 := Lib.hid hk12
  clear t6 hw7 hk12 HS1 T5 T6 B6
  go_upto_region 12 with (fail)
  rw [← HW7.out, ← HK12.out]
  clear HW7 HK12
  have HR1 : Hid (∀ w' j, j < 16 → (Tw w1 w1.heap.size p b e n1 h g p2 b2 e2 c2 A2 C0 A0 c1 A1 w' ∧ Blk w' k12 39 [.int .u8 K, .int .u32 NU, .int .i64 WY]) → Calls Tryz.prog 17 #[.pointer (some ⟨p, 0, none⟩), .int .i64 ((j : Nat) : Int)] w' fun r wq => r = .returned (.tuple #[.int .u32 (c2.r j), .int .i64 0]) ∧ (Tw w1 w1.heap.size p b e n1 h g p2 b2 e2 c2 A2 C0 A0 c1 A1 wq ∧ Blk wq k12 39 [.int .u8 K, .int .u32 NU, .int .i64 WY])) := Lib.hid fun w' j hj q => by
    refine (reg_any p c2 j hj w' q.1.f.cpu).mono ?_
    rintro r wq ⟨h1, m, h2⟩
    exact ⟨h1, by rw [h2]; exact ⟨q.1.below (below_drewN _ _), q.2.below (below_drewN _ _) q.2.lt⟩⟩
  have HR2 : Hid (∀ w' j, j < 16 → (Tw w1 w1.heap.size p b e n1 h g p2 b2 e2 c2 A2 C0 A0 c1 A1 w' ∧ Blk w' k12 39 [.int .u8 K, .int .u32 NU, .int .i64 WY]) → Calls Tryz.prog 17 #[.pointer (some ⟨p2, 0, none⟩), .int .i64 ((j : Nat) : Int)] w' fun r wq => r = .returned (.tuple #[.int .u32 (c1.r j), .int .i64 0]) ∧ (Tw w1 w1.heap.size p b e n1 h g p2 b2 e2 c2 A2 C0 A0 c1 A1 wq ∧ Blk wq k12 39 [.int .u8 K, .int .u32 NU, .int .i64 WY])) := Lib.hid fun w' j hj q => by
    refine (reg_any p2 c1 j hj w' q.1.cp).mono ?_
    rintro r wq ⟨h1, m, h2⟩
    exact ⟨h1, by rw [h2]; exact ⟨q.1.below (below_drewN _ _), q.2.below (below_drewN _ _) q.2.lt⟩⟩
  go_wp2_with fail
  go_loopw [13, 14] (fun v13 v14 wr => ∃ (k rg : Nat), v13 = .int .i64 rg ∧ v14 = .int .i64 k ∧ Hid (k ≤ 16) ∧ Hid (rg = rgN c2 c1 d k) ∧ Hid (Tw w1 w1.heap.size p b e n1 h g p2 b2 e2 c2 A2 C0 A0 c1 A1 wr ∧ Blk wr k12 39 [.int .u8 K, .int .u32 NU, .int .i64 WY])) (fun _ v _ => 16 - (intOf v).toNat)
  case atStart => exact ⟨0, 0, rfl, rfl, Lib.hid (Nat.zero_le _), Lib.hid (rgN_zero _ _ _).symm, Q7⟩
  case round =>
    obtain ⟨k, rg, rfl, rfl, HK, HRG, HQ⟩ := hrel
    clear Q7
    by_cases hlt : (k : Int) < 16
    · have hk : k < 16 := by omega
      have hw64 : IntKind.i64.wrap ((k : Int) + 1) = (k : Int) + 1 := by rw [IntKind.wrap_i64]; omega
      have hr64 : IntKind.i64.wrap ((rg : Int) + 1) = (rg : Int) + 1 := by rw [IntKind.wrap_i64]; have := HRG.out; have := rgN_le c2 c1 d k; omega
      have HK2 : Hid (k + 1 ≤ 16) := Lib.hid hk
      have H1 := Lib.hid (HR1.out wr k hk HQ.out)
      have H2 : Hid (∀ w', (Tw w1 w1.heap.size p b e n1 h g p2 b2 e2 c2 A2 C0 A0 c1 A1 w' ∧ Blk w' k12 39 [.int .u8 K, .int .u32 NU, .int .i64 WY]) → Calls Tryz.prog 17 #[.pointer (some ⟨p2, 0, none⟩), .int .i64 (k : Int)] w' fun r wq => r = .returned (.tuple #[.int .u32 (c1.r k), .int .i64 0]) ∧ (Tw w1 w1.heap.size p b e n1 h g p2 b2 e2 c2 A2 C0 A0 c1 A1 wq ∧ Blk wq k12 39 [.int .u8 K, .int .u32 NU, .int .i64 WY])) := Lib.hid fun w' q => HR2.out w' k hk q
      have HEQ : Hid (c2.r k = c1.r k → rg = rgN c2 c1 d (k + 1)) := Lib.hid fun h0 => by rw [rgN_eq h0]; exact HRG.out
      have HNE : Hid (c2.r k ≠ c1.r k → rg + 1 = rgN c2 c1 d (k + 1)) := Lib.hid fun h0 => by rw [rgN_ne HD.out h0, HRG.out]
      obtain ⟨X2, hX2⟩ : ∃ X, X = c2.r k := ⟨_, rfl⟩
      obtain ⟨X1, hX1⟩ : ∃ X, X = c1.r k := ⟨_, rfl⟩
      rw [← hX2] at H1 HEQ HNE
      rw [← hX1] at H2 HEQ HNE
      clear hX2 hX1 hk HK HRG
      go_wp2_with fail
      refine H1.out.mono ?_; rintro r wa ⟨rfl, qa⟩
      have Qa := Lib.hid qa
      clear qa H1 HQ
      go_wp2_with fail
      refine (H2.out _ Qa.out).mono ?_; rintro r wb ⟨rfl, qb⟩
      have Qb := Lib.hid qb
      clear qb H2 Qa
      by_cases hx : X2 = X1
      · have hb : (X2 != X1) = false := by rw [hx]; simp
        have HE := Lib.hid (HEQ.out hx)
        clear hx HEQ HNE hr64
        go_wp2_with fail
        go_roundw
        case rel => exact ⟨k + 1, rg, rfl, by go_num, HK2, HE, Qb⟩
        case measure => simp [intOf]; have := HK2.out; omega
      · have hb : (X2 != X1) = true := by rw [bne_iff_ne]; exact hx
        have HE := Lib.hid (HNE.out hx)
        clear hx HEQ HNE
        go_wp2_with fail
        go_roundw
        case rel => exact ⟨k + 1, rg + 1, by go_num, by go_num, HK2, HE, Qb⟩
        case measure => simp [intOf]; have := HK2.out; omega
    · have HRG2 : Hid (rg = rgN c2 c1 d 16) := Lib.hid (by
        have : k = 16 := by have := HK.out; omega
        rw [HRG.out, this])
      have HZ : Hid (Calls Tryz.prog 17 #[.pointer (some ⟨p, 0, none⟩), .int .i64 0] wr fun r wq => r = .returned (.tuple #[.int .u32 0, .int .i64 0]) ∧ (Tw w1 w1.heap.size p b e n1 h g p2 b2 e2 c2 A2 C0 A0 c1 A1 wq ∧ Blk wq k12 39 [.int .u8 K, .int .u32 NU, .int .i64 WY])) := Lib.hid (by
        have := HR1.out wr 0 (by decide) HQ.out
        rw [HOK2.out.zero] at this
        exact this)
      clear HK HRG HR1 HR2
      obtain ⟨wo, hwo⟩ : ∃ wo, wo = wr := ⟨_, rfl⟩
      subst hwo
      go_wp2_with fail
      refine HZ.out.mono ?_; rintro r w8 ⟨rfl, q8⟩
      have Q8 := Lib.hid q8
      clear q8 HZ HQ hlt
      have hPO : pagesOf A2 = pagesOf A1 := by rw [HWE.out]; exact pagesOf_put _ _ _ _
      have HPX : Hid (∀ j, j < (pagesOf A1).length → ∃ x a b' pp, (pagesOf A1).toArray[j]! = ((x : Nat) : Int) ∧ PageX A1 A2 0 ad tb.size x a b' pp) := Lib.hid (by
        intro j hj
        have := page_x A1 2 ad tb j hj
        rw [HW.out.ok] at this
        rw [HWE.out]
        exact this)
      have HAP : Hid (∀ (i j : Nat), i < j → j < (pagesOf A1).length → ∀ x y : Nat, (pagesOf A1).toArray[i]! = (x : Int) → (pagesOf A1).toArray[j]! = (y : Int) → x + 256 ≤ y) := Lib.hid fun i j hij hj x y hx hy => (pages_apart A1 hij hj hx hy).1
      have HML : Hid (∀ i, i < (pagesOf A1).length → ∀ x : Nat, (pagesOf A1).toArray[i]! = (x : Int) → x % 256 = 0) := Lib.hid fun i hi x hx => page_mult A1 hi hx
      have HPg : Hid (∀ w', (Tw w1 w1.heap.size p b e n1 h g p2 b2 e2 c2 A2 C0 A0 c1 A1 w' ∧ Blk w' k12 39 [.int .u8 K, .int .u32 NU, .int .i64 WY]) → Calls Tryz.prog 18 #[.pointer (some ⟨b + 1, 0, none⟩)] w' fun r w'' => ∃ v, r = .returned v ∧ Words w'' w'.heap.size v (pagesOf A1) ∧ Below w'.heap.size w' w'') := Lib.hid fun w' q => by
        have := pages_any b e n1 A2 w' q.1.f.sp (by have := HN1.out; omega)
        rw [hPO] at this
        exact this
      have HPc : Hid (∀ w', (Tw w1 w1.heap.size p b e n1 h g p2 b2 e2 c2 A2 C0 A0 c1 A1 w' ∧ Blk w' k12 39 [.int .u8 K, .int .u32 NU, .int .i64 WY]) → Calls Tryz.prog 18 #[.pointer (some ⟨b2 + 1, 0, none⟩)] w' fun r w'' => ∃ v, r = .returned v ∧ Words w'' w'.heap.size v (pagesOf A1) ∧ Below w'.heap.size w' w'') := Lib.hid fun w' q => pages_any b2 e2 n1 A1 w' q.1.sp (by have := HN1.out; omega)
      have hPS := pagesOf_size A1
      obtain ⟨L, hLL⟩ : ∃ L, L = pagesOf A1 := ⟨_, rfl⟩
      rw [← hLL] at HPX HPg HPc hPS HAP HML
      have HLS := Lib.hid hPS
      clear hPO hLL hPS
      go_wp2_with fail
      refine (HPg.out _ Q8.out).mono ?_; rintro r w9 ⟨v1, rfl, hv1, q9⟩
      obtain ⟨a1, cp1, rfl, ha1⟩ := hv1.split
      have Q9 : Hid (Q3 w1 w1.heap.size p b e n1 h g p2 b2 e2 c2 A2 C0 A0 c1 A1 k12 [.int .u8 K, .int .u32 NU, .int .i64 WY] a1 L w9) := Lib.hid ⟨Q8.out.1.below q9, Q8.out.2.below q9 Q8.out.2.lt, ha1⟩
      clear hv1 ha1 q9 Q8 HPg
      go_wp2_with fail
      refine (HPc.out _ ⟨Q9.out.1, Q9.out.2.1⟩).mono ?_; rintro r wc ⟨v2, rfl, hv2, qc⟩
      obtain ⟨a2, cp2, rfl, ha2⟩ := hv2.split
      have Qc := Lib.hid (Q9.out.below qc)
      have HV := Lib.hid ha2
      clear hv2 ha2 qc Q9 HPc
      go_wp2_with fail
      refine (same_at Qc.out.2.2 HV.out (by have := HLS.out; omega)).mono ?_; rintro r wd ⟨rfl, nq, hwd⟩
      have Qd : Hid (Q3 w1 w1.heap.size p b e n1 h g p2 b2 e2 c2 A2 C0 A0 c1 A1 k12 [.int .u8 K, .int .u32 NU, .int .i64 WY] a1 L wd) := Lib.hid (by rw [hwd]; exact Qc.out.below (below_drewN _ _))
      clear hwd Qc HV
      go_wp2_with fail
      go_loopw [21, 22, 23, 25] (fun v21 v22 v23 v25 wr => ∃ (j : Nat) (F La : Int) (sm : Bool), v21 = .int .u32 F ∧ v22 = .int .u32 La ∧ v23 = .bool sm ∧ v25 = .int .i64 j ∧ Hid (j ≤ L.length) ∧
        Hid (∃ cur, SpanTo ad tb.size F La sm cur ∧ ∀ i, j ≤ i → i < L.length → ∀ x : Nat, L.toArray[i]! = (x : Int) → cur ≤ x) ∧ Hid (Q3 w1 w1.heap.size p b e n1 h g p2 b2 e2 c2 A2 C0 A0 c1 A1 k12 [.int .u8 K, .int .u32 NU, .int .i64 WY] a1 L wr)) (fun _ _ _ v _ => L.length - (intOf v).toNat)
      case atStart => exact ⟨0, 0, 0, false, rfl, rfl, rfl, rfl, Lib.hid (Nat.zero_le _), Lib.hid ⟨0, SpanTo.start _ _ _, fun _ _ _ _ _ => Nat.zero_le _⟩, Qd⟩
      case round =>
        obtain ⟨j, F, La, sm, rfl, rfl, rfl, rfl, HJ, HSP, HQ⟩ := hrel
        clear Qd
        by_cases hlt2 : (j : Int) < (L.length : Int)
        · have hj : j < L.length := by omega
          obtain ⟨x, a, b', pp, hx, PX⟩ := HPX.out j hj
          obtain ⟨gw, rfl⟩ := HQ.out.2.2.at' hj
          have HC : Hid (∀ w', Q3 w1 w1.heap.size p b e n1 h g p2 b2 e2 c2 A2 C0 A0 c1 A1 k12 [.int .u8 K, .int .u32 NU, .int .i64 WY] (some ⟨gw, 0, none⟩) L w' → w'.cell? ⟨gw, j, none⟩ = some (.int .u32 (x : Int))) := Lib.hid fun w' q => q.2.2.cell' hj hx
          have hx32 : x < 4294967296 := by have := PX.le; omega
          have HL1 : Hid (∀ w', Q3 w1 w1.heap.size p b e n1 h g p2 b2 e2 c2 A2 C0 A0 c1 A1 k12 [.int .u8 K, .int .u32 NU, .int .i64 WY] (some ⟨gw, 0, none⟩) L w' → Calls Tryz.prog 20 #[.pointer (some ⟨b + 1, 0, none⟩), .int .u32 (x : Int), .int .i64 256] w' fun r wq => r = .returned (.tuple #[.string a, .int .i64 0]) ∧ Below w'.heap.size w' wq) := Lib.hid fun w' q => by
            have := look_any b e n1 A2 x 256 hx32 w' q.1.f.sp
            rw [PX.s1, PX.e1] at this
            exact this
          have HL2 : Hid (∀ w', Q3 w1 w1.heap.size p b e n1 h g p2 b2 e2 c2 A2 C0 A0 c1 A1 k12 [.int .u8 K, .int .u32 NU, .int .i64 WY] (some ⟨gw, 0, none⟩) L w' → Calls Tryz.prog 20 #[.pointer (some ⟨b2 + 1, 0, none⟩), .int .u32 (x : Int), .int .i64 256] w' fun r wq => r = .returned (.tuple #[.string b', .int .i64 0]) ∧ Below w'.heap.size w' wq) := Lib.hid fun w' q => by
            have := look_any b2 e2 n1 A1 x 256 hx32 w' q.1.sp
            rw [PX.s2, PX.e2] at this
            exact this
          have HP1 : Hid (∀ w', Q3 w1 w1.heap.size p b e n1 h g p2 b2 e2 c2 A2 C0 A0 c1 A1 k12 [.int .u8 K, .int .u32 NU, .int .i64 WY] (some ⟨gw, 0, none⟩) L w' → Calls Tryz.prog 21 #[.pointer (some ⟨b + 1, 0, none⟩), .int .u32 (x : Int)] w' fun r wq => (∃ z, r = .returned (.tuple #[.int .u8 (pp : Int), .bool z])) ∧ wq = w') := Lib.hid fun w' q => by
            have := perm_any b e n1 A2 x hx32 w' q.1.f.sp
            rw [PX.p1] at this
            exact this.mono fun _ _ ⟨h1, h2⟩ => ⟨⟨_, h1⟩, h2⟩
          have HBT : Hid (∀ k, k < 256 → ad ≤ x + k → x + k < ad + tb.size → (bits BinOp.and IntKind.u8 (pp : Int) 2 == 0) = false) := Lib.hid fun k hk h1 h2 => by
            have := perm_write HW.out.ok (HML.out j hj x hx) hk h1 h2
            rw [PX.p2] at this
            exact perm_bit pp (by rw [← PX.p2]; exact permV_lt _ _) this
          have HS0 : Hid (SpanTo ad tb.size F La sm (x + 0)) := Lib.hid (by
            obtain ⟨cur, hc1, hc2⟩ := HSP.out
            exact hc1.mono (hc2 j (Nat.le_refl _) hj x hx))
          have HNX : Hid (∀ i, j + 1 ≤ i → i < L.length → ∀ y : Nat, L.toArray[i]! = (y : Int) → x + 256 ≤ y) := Lib.hid fun i hi hl y hy => HAP.out j i (by omega) hl x y hx hy
          have HPX1 := Lib.hid PX
          have HJ2 : Hid (j + 1 ≤ L.length) := Lib.hid hj
          have cx := HC.out _ HQ.out
          clear PX hx hx32 HSP hj HJ
          go_wp2_with fail
          refine (HL1.out _ HQ.out).mono ?_; rintro r wa ⟨rfl, qa⟩
          have Qa := Lib.hid (HQ.out.below qa)
          clear qa cx HQ
          have cx := HC.out _ Qa.out
          go_wp2_with fail
          refine (HL2.out _ Qa.out).mono ?_; rintro r wb ⟨rfl, qb⟩
          have Qb := Lib.hid (Qa.out.below qb)
          clear qb cx Qa
          have cx := HC.out _ Qb.out
          go_wp2_with fail
          refine (HP1.out _ Qb.out).mono ?_; rintro r wd ⟨⟨z1, rfl⟩, hwd⟩
          subst hwd
          have za : ((a.size : Int) != 256) = false := by rw [HPX1.out.z1]; rfl
          have zb : ((b'.size : Int) != 256) = false := by rw [HPX1.out.z2]; rfl
          clear cx HL1 HL2 HP1
          go_wp2_with fail
          go_loopw [21, 22, 23, 32] (fun v21 v22 v23 v32 wr3 => ∃ (q : Nat) (F La : Int) (sm : Bool), v21 = .int .u32 F ∧ v22 = .int .u32 La ∧ v23 = .bool sm ∧ v32 = .int .i64 q ∧ Hid (q ≤ 256) ∧ Hid (SpanTo ad tb.size F La sm (x + q)) ∧
            Hid (Q3 w1 w1.heap.size p b e n1 h g p2 b2 e2 c2 A2 C0 A0 c1 A1 k12 [.int .u8 K, .int .u32 NU, .int .i64 WY] (some ⟨gw, 0, none⟩) L wr3)) (fun _ _ _ v _ => 256 - (intOf v).toNat)
          case atStart => exact ⟨0, F, La, sm, rfl, rfl, rfl, rfl, Lib.hid (Nat.zero_le _), HS0, Qb⟩
          case round =>
            obtain ⟨q, F2, La2, sm2, rfl, rfl, rfl, rfl, HQ2, HS2, Qe⟩ := hrel
            clear Qb HS0
            by_cases hq : (q : Int) < 256
            · have hq256 : q < 256 := by omega
              have e9 : IntKind.i64.wrap ((q : Int) + 1) = (q : Int) + 1 := by rw [IntKind.wrap_i64]; omega
              have HQ3 : Hid (q + 1 ≤ 256) := Lib.hid (by omega)
              obtain ⟨y1, hy1⟩ : ∃ y, y = bAt a q := ⟨_, rfl⟩
              obtain ⟨y2, hy2⟩ : ∃ y, y = bAt b' q := ⟨_, rfl⟩
              have i1 := run_index a q q rfl (by rw [HPX1.out.z1]; omega) y1 hy1.symm
              have i2 := run_index b' q q rfl (by rw [HPX1.out.z2]; omega) y2 hy2.symm
              have HIN : Hid (y1 ≠ y2 → ad ≤ x + q ∧ x + q < ad + tb.size) := Lib.hid fun hne => by
                by_cases hin : ad ≤ x + q ∧ x + q < ad + tb.size
                · exact hin
                · exact absurd (by rw [hy1, hy2]; exact HPX1.out.eq q hq256 (fun ⟨_, h2, h3⟩ => hin ⟨h2, h3⟩)) hne
              clear hy1 hy2
              by_cases hy : y1 = y2
              · have t0 : (y1 == y2) = true := by rw [hy]; simp
                have HS3 : Hid (SpanTo ad tb.size F2 La2 sm2 (x + (q + 1))) := Lib.hid (HS2.out.mono (by omega))
                clear hy HIN hq256 HS2
                go_wp2_with fail
                go_quiet (fail)
                go_wp2_with fail
                go_roundw
                case rel => exact ⟨q + 1, F2, La2, sm2, rfl, rfl, rfl, by go_num, HQ3, HS3, Lib.hid (Qe.out.below (below_drewN _ _))⟩
                case measure => simp [intOf]; have := HQ3.out; omega
              · have t0 : (y1 == y2) = false := by rw [beq_eq_false_iff_ne]; exact hy
                obtain ⟨h1, h2⟩ := HIN.out hy
                have tb0 := HBT.out q hq256 h1 h2
                obtain ⟨X, hX⟩ : ∃ X : Int, X = ((x + q : Nat) : Int) := ⟨_, rfl⟩
                have u1 : IntKind.u32.wrap (q : Int) = (q : Int) := by rw [IntKind.wrap_u32]; omega
                have u2 : IntKind.u32.wrap ((x : Int) + (q : Int)) = X := by rw [IntKind.wrap_u32]; have := HPX1.out.le; omega
                have cx := HC.out _ Qe.out
                have HX : Hid (X = ((x + q : Nat) : Int) ∧ ad ≤ x + q ∧ x + q < ad + tb.size) := Lib.hid ⟨hX, h1, h2⟩
                clear hy HIN hq256 h1 h2 hX
                cases sm2 with
                | false =>
                  have HS3 : Hid (SpanTo ad tb.size X X true (x + (q + 1))) := Lib.hid (by rw [HX.out.1]; exact HS2.out.first HX.out.2.1 HX.out.2.2)
                  clear HS2 HX
                  go_wp2_with fail
                  go_quiet (fail)
                  go_wp2_with fail
                  go_roundw
                  case rel => exact ⟨q + 1, X, X, true, rfl, rfl, rfl, by go_num, HQ3, HS3, Lib.hid (Qe.out.below (below_drewN _ _))⟩
                  case measure => simp [intOf]; have := HQ3.out; omega
                | true =>
                  have HS3 : Hid (SpanTo ad tb.size F2 X true (x + (q + 1))) := Lib.hid (by rw [HX.out.1]; exact HS2.out.next HX.out.2.1 HX.out.2.2)
                  clear HS2 HX
                  go_wp2_with fail
                  go_quiet (fail)
                  go_wp2_with fail
                  go_roundw
                  case rel => exact ⟨q + 1, F2, X, true, rfl, rfl, rfl, by go_num, HQ3, HS3, Lib.hid (Qe.out.below (below_drewN _ _))⟩
                  case measure => simp [intOf]; have := HQ3.out; omega
            · have hw64 : IntKind.i64.wrap ((j : Int) + 1) = (j : Int) + 1 := by rw [IntKind.wrap_i64]; have := HLS.out; omega
              have HS4 : Hid (∃ cur, SpanTo ad tb.size F2 La2 sm2 cur ∧ ∀ i, j + 1 ≤ i → i < L.length → ∀ y : Nat, L.toArray[i]! = (y : Int) → cur ≤ y) := Lib.hid ⟨x + 256, HS2.out.mono (by have := HQ2.out; omega), HNX.out⟩
              clear HS2
              go_wp2_with fail
              go_roundw
              case rel => exact ⟨j + 1, F2, La2, sm2, rfl, rfl, rfl, by go_num, HJ2, HS4, Qe⟩
              case measure => simp [intOf]; have := HJ2.out; omega
        · have HSpan : Hid (Span ad tb.size F La sm) := Lib.hid (by obtain ⟨cur, hc1, _⟩ := HSP.out; exact hc1.1)
          have HPc1 : Hid (∀ w', Q3 w1 w1.heap.size p b e n1 h g p2 b2 e2 c2 A2 C0 A0 c1 A1 k12 [.int .u8 K, .int .u32 NU, .int .i64 WY] a1 L w' → Calls Tryz.prog 22 #[.pointer (some ⟨p, 0, none⟩)] w' fun r wq => r = .returned (.int .u32 c2.pc) ∧ Q3 w1 w1.heap.size p b e n1 h g p2 b2 e2 c2 A2 C0 A0 c1 A1 k12 [.int .u8 K, .int .u32 NU, .int .i64 WY] a1 L wq) := Lib.hid fun w' q => (pc_any p c2 w' q.1.f.cpu).mono fun r wq ⟨h1, m, h2⟩ => ⟨h1, by rw [h2]; exact q.below (below_drewN _ _)⟩
          have HPc2 : Hid (∀ w', Q3 w1 w1.heap.size p b e n1 h g p2 b2 e2 c2 A2 C0 A0 c1 A1 k12 [.int .u8 K, .int .u32 NU, .int .i64 WY] a1 L w' → Calls Tryz.prog 22 #[.pointer (some ⟨p2, 0, none⟩)] w' fun r wq => r = .returned (.int .u32 c1.pc) ∧ Q3 w1 w1.heap.size p b e n1 h g p2 b2 e2 c2 A2 C0 A0 c1 A1 k12 [.int .u8 K, .int .u32 NU, .int .i64 WY] a1 L wq) := Lib.hid fun w' q => (pc_any p2 c1 w' q.1.cp).mono fun r wq ⟨h1, m, h2⟩ => ⟨h1, by rw [h2]; exact q.below (below_drewN _ _)⟩
          obtain ⟨⟨z0, z1, z2⟩, _⟩ := HQ.out.2.1.three
          clear HSP HJ HPX HAP HML
          by_cases hK : K = 2
          · have e2' : (K == 2) = true := by rw [hK]; rfl
            have hsame : c2 = c1 := by
              have := HKK.out
              rcases this with h0 | h0 | ⟨_, h0, _⟩
              · omega
              · omega
              · exact h0
            have hr0 : rg = 0 := by rw [HRG2.out, rgN_same (c2 := c2) (c1 := c1) (by rw [hsame])]
            have r0 : ((rg : Int) == 0) = true := by rw [hr0]; rfl
            have hsm : sm = false := by
              cases sm with
              | false => rfl
              | true => exact absurd (HW.out.fault hK) (HSpan.out.yes rfl).2.2.2
            subst hsm
            obtain ⟨PC, hPC⟩ : ∃ PC, PC = c2.pc := ⟨_, rfl⟩
            have hpc : c1.pc = PC := by rw [hPC, hsame]
            rw [← hPC] at HPc1
            rw [hpc] at HPc2
            clear hpc
            have pp0 : (PC == PC) = true := by simp
            clear hPC hr0 hsame hK
            go_wp2_with fail
            refine (HPc1.out _ HQ.out).mono ?_; rintro r wa ⟨rfl, qa⟩
            have Qa := Lib.hid qa
            clear qa HQ z0 z1 z2
            go_wp2_with fail
            refine (HPc2.out _ Qa.out).mono ?_; rintro r wb ⟨rfl, qb⟩
            have Qb := Lib.hid qb
            clear qb Qa
            go_wp2_with fail
            refine (HAl.out wb (HLO1.out.trans (Qb.out.1.f.low.mono HLO1.out.size))).mono ?_; rintro r wz ⟨rfl, qz⟩
            go_wp2
            go_ret
            exact ⟨rfl, (HLO1.out.trans (Qb.out.1.f.low.mono HLO1.out.size)).trans (qz.mono (Nat.le_trans HLO1.out.size Qb.out.1.f.gs))⟩
          · have e2' : (K == 2) = false := by rw [beq_eq_false_iff_ne]; exact hK
            have r1 : (rg : Int) ≤ 1 := by have := HRG2.out; have := rgN_le c2 c1 d 16; omega
            obtain ⟨D, hD⟩ : ∃ D, D = IntKind.u32.wrap (La - F) := ⟨_, rfl⟩
            have hD4 : D < 4 := by
              rw [hD, u32_mod]
              have hf := HW.out.four
              cases sm with
              | false => obtain ⟨h1, h2⟩ := HSpan.out.no rfl; rw [h1, h2]; decide
              | true => obtain ⟨h1, h2, h3, _⟩ := HSpan.out.yes rfl; omega
            have hD5 := hD.symm
            have hr0 : sm = true → rg = 0 := fun hs => by rw [HRG2.out, rgN_same (c2 := c2) (c1 := c1) (HW.out.regs (HSpan.out.yes hs).2.2.2)]
            clear hD hK
            cases sm with
            | false =>
              clear hr0
              go_wp2_with fail
              refine (HAl.out _ (HLO1.out.trans (HQ.out.1.f.low.mono HLO1.out.size))).mono ?_; rintro r wz ⟨rfl, qz⟩
              go_wp2
              go_ret
              exact ⟨rfl, (HLO1.out.trans (HQ.out.1.f.low.mono HLO1.out.size)).trans (qz.mono (Nat.le_trans HLO1.out.size HQ.out.1.f.gs))⟩
            | true =>
              have r0 : ((rg : Int) == 0) = true := by rw [hr0 rfl]; rfl
              clear hr0
              go_wp2_with fail
              refine (HAl.out _ (HLO1.out.trans (HQ.out.1.f.low.mono HLO1.out.size))).mono ?_; rintro r wz ⟨rfl, qz⟩
              go_wp2
              go_ret
              exact ⟨rfl, (HLO1.out.trans (HQ.out.1.f.low.mono HLO1.out.size)).trans (qz.mono (Nat.le_trans HLO1.out.size HQ.out.1.f.gs))⟩

theorem alone_any (hS : StepOK) (hR : RunOK) (hC : CopyOK) (s : Sta) (q : Plc) (hs : s.fits) (N : Int) (hN0 : 0 ≤ N) (hN1 : N < 256) (w : World) (hk : I.Tabled w) (hl : s.lies q w) :
    Calls Tryz.prog 5 #[.agg (s.cells q).toArray, .int .u8 N] w fun r w' => r = .returned (.bool true) ∧ Below w.heap.size w w' := by
  cases hH : heavyS s with
  | true => exact alone_heavy hR s q hs hH N w hk hl
  | false => exact alone_light hS hC hR s q hs hH N hN0 hN1 w hk hl
end Go.Proofs.YtgdbhmlmioihpaaGreatDoor
end

/- CpuAlone answers true for every state and every number of steps: a step changes at most one register, the pc, and 4 bytes in a row, all of which may be written; one that ends by a fault changes nothing. No condition beyond the card's own: the table of what ops use holds what the program's text lays. -/
section
set_option linter.unusedVariables false
namespace Go.Proofs.YtgdbhmlmioihpaaGreatDoor
open Go Go.ChangeShapes Go.WideShapes Go.ChangeAt Go.RowKit

/-- The door's own heap meets the condition. -/
theorem cpuAlone_met (os : Os) (args : Array Value) : laidMetH Tryz.prog Rows.cpuAloneRow.laid ((World.doorLaid Tryz.prog 400 os).forCall (fun _ _ => 0) ⟨#[], args, []⟩).memory :=
  laidMetH_of_parts3 (fuel := 8) (laidMet_of_run' 8 (by kernel_rfl) (by kernel_rfl)) (by kernel_rfl) (by kernel_rfl)

set_option maxRecDepth 100000 in
theorem cpuAlone_lifted (hS : StepOK) (hR : RunOK) (hC : CopyOK) (os : Os) (started : os.Started) (H : Type) (enc : TypeId × Value → H) :
    ReturnsInHanded {} Tryz.checked os 5 .any (fun w args => (Rows.cpuAloneSpec.pre enc Tryz.prog Tryz.f5 [] false w args ∧ laidMetH Tryz.prog Rows.cpuAloneRow.laid w) ∧ sizedMet enc Tryz.prog Tryz.f5 (OpenSpec.ofChange Rows.cpuAloneSpec) false w args)
      (Rows.cpuAloneSpec.post enc Tryz.prog Tryz.f5 false true false false) := by
  refine returnsInHanded_of_change_and (C := Tryz.checked) (X := fun w _ => laidMetH Tryz.prog Rows.cpuAloneRow.laid w) (fun _ _ _ hh h => h.of_heap hh) own started (by kernel_rfl) Tryz.func5
    (ChangeSpec.witness_shaped (enc := enc) (C := Tryz.checked) (os := os) (X := fun w _ => laidMetH Tryz.prog Rows.cpuAloneRow.laid w) false (World.doorLaid Tryz.prog 400 os) #[.agg #[.slice none 0 0, .int .u32 0, .slice none 0 0, .int .u16 0, .slice none 0 0, .int .u16 0, .string ByteArray.empty], .int .u8 0] 8 rfl (World.shaped_of_RefB (by kernel_rfl) (by kernel_rfl)) (by kernel_rfl) (by kernel_rfl) (by kernel_rfl) (cpuAlone_met os _)) ?_
  intro W base args ds gs before hval0 hW _ _ hL _
  have hval : ∀ (j : Nat) t v, Tryz.f5.params[j]? = some t → args[j]? = some v → Value.okWide Tryz.prog W .any base t v := hval0
  have hW' := hW
  obtain ⟨p, q, hA0, hV, rfl, hfz, hnd⟩ := hW
  have hA : DataW.TrodAll enc Tryz.prog W 0 (fun _ => true) true Tryz.f5.params.toList args.toList ds p := hA0
  rw [Tryz.params5] at hA hval
  obtain ⟨v0, vs0, d0, ds0, p0, q0, hargs, rfl, rfl, h0, r0⟩ := trodAll_cons hA
  obtain ⟨v1, vs1, d1, ds1, p1, q1, rfl, rfl, rfl, h1, r1⟩ := trodAll_cons r0
  obtain ⟨rfl, rfl, rfl⟩ := trodAll_nil r1
  obtain rfl : args = #[v0, v1] := by cases args; simp_all
  obtain ⟨rfl, rfl⟩ := trodVars_none hV
  obtain ⟨s, pl, rfl, hs, hl⟩ := open_state (hval 0 28 v0 rfl rfl) h0
  obtain ⟨x1, rfl, rfl, rfl, w1⟩ := open_int Tryz.underlying5 (hval 1 5 v1 rfl rfl) h1
  clear hA0 hval0
  have hlt0 : ∀ x ∈ p0, x.block < W.heap.size := fun x hx => hW'.lt x (by simp [hx])
  simp only [List.append_nil] at hW'
  have fin : ∀ W', Below W.heap.size W W' → Rows.cpuAloneSpec.post enc Tryz.prog Tryz.f5 false true false false W #[.agg (s.cells pl).toArray, .int .u8 x1] (.bool true) W' := fun W' hb =>
    law_post_at hW' rfl rfl rfl Tryz.underlying4 (by
      rw [← List.append_nil p0]
      exact trodAll_cons_mk (Below.trod laidOut (by kernel_rfl) (of_decide_eq_true (by kernel_rfl)) h0 hb hlt0) (trodAll_cons_mk (shut_int Tryz.underlying5 w1) trodAll_mk0)) hb
  have b1 := bounds_u8 w1
  refine (alone_any hS hR hC s pl hs x1 (by omega) (by omega) W (I.tabled_of_laid hL) hl).mono fun e W' ⟨he, hb⟩ => ?_
  subst he
  exact ⟨_, rfl, fin W' hb⟩

theorem cpuAlone_row (hS : StepOK) (hR : RunOK) (hC : CopyOK) : Rows.CpuAloneSaid :=
  OpenClaim.holds_of_wide 5 Tryz.f5 rfl rfl rfl rfl rfl rfl rfl ⟨rfl, rfl, rfl, rfl, rfl⟩ rfl rfl rfl rfl rfl (by kernel_rfl) Tryz.func5 (by kernel_rfl)
    (of_decide_eq_true (by kernel_rfl)) (by unfold Func.isWrapper; first | (rw [if_pos (by decide +kernel)]; kernel_rfl) | (rw [if_neg (by decide +kernel)]; exact ⟨rfl, rfl⟩))
    (fun os started H enc _ => cpuAlone_lifted hS hR hC os started H enc)

theorem cpuAlone_given (hS : StepOK) (hR : RunOK) (hC : CopyOK) : Rows.CpuAloneCardSaid :=
  Claim7.holds_tied_plain_at .later [] [.data] true Rows.cpuAloneCard.stood.harness false
    (cpuAlone_row hS hR hC) (fun _ h => by cases h) (by kernel_rfl) (fun _ h => by cases h) cpuAlone_row_tie rfl ⟨rfl, rfl⟩ (by kernel_rfl) rfl
    (fun f fn hf hfn => by
      obtain rfl : f = 5 := Option.some.inj ((show Tryz.prog.funcNamed "aedicule/aediculelaw06.CpuAlone" = some 5 by kernel_rfl).symm.trans hf) |>.symm
      obtain rfl : fn = Tryz.f5 := (Option.some.inj (Tryz.func5.symm.trans hfn)).symm
      exact ⟨by kernel_rfl, fun j t ht => by
        rw [Tryz.params5] at ht
        have h3 : t = 28 ∨ t = 5 := by
          rcases j with _ | _ | j
          · left; simpa using ht.symm
          · right; simpa using ht.symm
          · simp at ht
        rcases h3 with rfl | rfl
        · exact (show Tryz.prog.wantsStandIn 28 = false by kernel_rfl)
        · exact (show Tryz.prog.wantsStandIn 5 = false by kernel_rfl)⟩)
    (by kernel_rfl)
end Go.Proofs.YtgdbhmlmioihpaaGreatDoor
end

/- A step changes at most one register, the pc, and 4 bytes in a row that may be written, and one that ends by a fault changes nothing: CpuAlone answers true, for every state, behind any number of steps. No condition. -/
section
namespace Go.Proofs.YtgdbhmlmioihpaaGreatDoor
theorem cpuAlone_holds : Rows.CpuAloneCardSaid := cpuAlone_given stepOK runOK copyOK
end Go.Proofs.YtgdbhmlmioihpaaGreatDoor
end
