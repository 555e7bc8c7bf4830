/- Made: a state's cpu and space, the program's and the document's. -/
import Derived.Test.YtgdbhmlmioihpaaDoorX27
import Derived.Test.YtgdbhmlmioihpaaDoorX28
import Derived.Test.YtgdbhmlmioihpaaDoorQT
import Derived.Deep.RegionHeld3
import Derived.Deep.DeepCutAuto
import Derived.BigQuiet
import Derived.LoopTactic
set_option linter.unusedVariables false
namespace Go.Proofs.YtgdbhmlmioihpaaDoor
open Go Go.RowKit Go.Maps

def madeC (s : Sta) : Cp := cpR s.R s.pc (min s.R.length 16)
def madeA (s : Sta) : As := putR (putR (asP s.P s.P.length) 0 (s.at' % 4096).toNat ⟨(textOf s.L).toArray⟩) 0 (s.wh % 4096).toNat s.tx

theorem cpR_one (R : List Int) (x : Int) : cpR R x 1 = cpR R x 0 := by
  unfold cpR
  congr 1
  funext j
  rw [if_neg (by omega), if_neg (by omega)]
/-- Beside them: the state that came in, in a box. -/
structure Mk (s : Sta) (q : Plc) (k0 : Nat) (w0 : World) (G p b e n h g : Nat) (c : Cp) (A : As) (c' : Cp) (A' : As) (w : World) : Prop where
  f : Fr w0 G p b e n h g c A c' A' w
  box : Blk w k0 63 (s.cells q)
section
variable {s : Sta} {q : Plc} {k0 : Nat} {w0 w w' : World} {G p b e n h g : Nat} {c c2 c' : Cp} {A A2 A' : As}
theorem Mk.below (m : Mk s q k0 w0 G p b e n h g c A c' A' w) (hb : Below w.heap.size w w') : Mk s q k0 w0 G p b e n h g c A c' A' w' := ⟨m.f.below hb, m.box.below hb m.box.lt⟩
theorem Mk.setreg (m : Mk s q k0 w0 G p b e n h g c A c' A' w) (hg : w.grownBy w' (some p)) (hc : CAt w' p c2) : Mk s q k0 w0 G p b e n h g c2 A c' A' w' := by
  have hc0 : Blk w p 47 (ccs c) := m.f.cpu
  exact ⟨m.f.setreg hg hc, m.box.grown hg (by intro he; cases he; exact m.box.ne hc0 (by decide) rfl)⟩
theorem Mk.kreg (m : Mk s q k0 w0 G p b e n h g c A c' A' w) (d : Nat) (v : Int) (hd : d < 16) (h0 : d ≠ 0) : Mk s q k0 w0 G p b e n h g c A (setR c' d v) A' (w.setCell ⟨h, d, none⟩ (.int .u32 v)) := by
  have hk0 : Blk w h 76 (rcs c') := m.f.k
  exact ⟨m.f.kreg d v hd h0, m.box.far (p := ⟨h, d, none⟩) (m.box.ne hk0 (by decide)) _⟩
theorem Mk.turn {e2 n2 : Nat} (m : Mk s q k0 w0 G p b e n h g c A c' A' w) (ht : Turn w w' b e) (hs : SpaceAt w' b e2 n2 A2) : Mk s q k0 w0 G p b e2 n2 h g c A2 c' A' w' := ⟨m.f.turn ht hs, ht.keep m.f.sp m.box (by decide)⟩
theorem Mk.rturn (m : Mk s q k0 w0 G p b e n h g c A c' A' w) (ht : RTurn G w w') (hr : RefAt w' G g A2) : Mk s q k0 w0 G p b e n h g c A c' A2 w' := ⟨m.f.rturn ht hr, ht.keep m.box (by decide) (by decide)⟩
theorem Mk.mono {n2 : Nat} (m : Mk s q k0 w0 G p b e n h g c A c' A' w) (hn : n ≤ n2) : Mk s q k0 w0 G p b e n2 h g c A c' A' w := ⟨m.f.mono hn, m.box⟩
end

set_option maxHeartbeats 8000000 in
set_option maxRecDepth 100000 in
theorem made_any (s : Sta) (q : Plc) (hs : s.fits) (hH : heavyS s = false) (w : World) (hl : s.lies q w) :
    Calls Tryd.prog 18 #[.agg (s.cells q).toArray] w fun r w' => ∃ p b e n h g : Nat, r = .returned (.tuple #[.pointer (some ⟨p, 0, none⟩), .pointer (some ⟨b + 1, 0, none⟩), .pointer (some ⟨h, 0, none⟩), .pointer (some ⟨g, 0, none⟩), .bool true]) ∧
      Fr w w.heap.size p b e n h g (madeC s) (madeA s) (madeC s) (madeA s) w' ∧ n ≤ 16 := by
  obtain ⟨n1, n2, n3, n4⟩ := not_heavyS hH
  obtain ⟨R, pc, P, at3, L, wh, tx⟩ := s
  obtain ⟨aR, cR, aP, cP, aL, cL⟩ := q
  simp only at n1 n2 n3 n4
  obtain ⟨s, hs0⟩ : ∃ s, s = Sta.mk R pc P at3 L wh tx := ⟨_, rfl⟩
  obtain ⟨q, hq0⟩ : ∃ q, q = Plc.mk aR cR aP cP aL cL := ⟨_, rfl⟩
  have hcs : s.cells q = [.slice aR R.length cR, .int .u32 pc, .slice aP P.length cP, .int .u16 at3, .slice aL L.length cL, .int .u16 wh, .string tx] := by rw [hs0, hq0]; rfl
  obtain ⟨C0, hC0⟩ : ∃ C0, C0 = madeC s := ⟨_, rfl⟩
  obtain ⟨A0, hA0⟩ : ∃ A0, A0 = madeA s := ⟨_, rfl⟩
  rw [← hs0] at hs hl ⊢
  rw [← hq0] at hl ⊢
  rw [← hC0, ← hA0, hcs]
  obtain ⟨G, hG⟩ : ∃ G, G = w.heap.size := ⟨_, rfl⟩
  rw [← hG]
  obtain ⟨wb, hwb⟩ : ∃ wb, wb = w.alloc (.cells #[.slice aR R.length cR, .int .u32 pc, .slice aP P.length cP, .int .u16 at3, .slice aL L.length cL, .int .u16 wh, .string tx] 63) := ⟨_, rfl⟩
  have hbx : Blk wb G 63 (s.cells q) := by rw [hwb, hG, hcs]; exact Blk.new _ _ _
  have hlo : Below G w wb := by rw [hwb, hG]; exact (Below.refl _ _).alloc (Nat.le_refl _) _
  have hgs : G < wb.heap.size := hbx.lt
  have HBX := Lib.hid hbx
  have HLO := Lib.hid (And.intro hlo hgs)
  have HWB := Lib.hid hwb
  have HG := Lib.hid hG
  have HRR : Hid (NumsAt .u32 w aR R ∧ ∀ j, j < R.length → 0 ≤ R.getD j 0 ∧ R.getD j 0 < 4294967296) := Lib.hid (by have h1 := hl.r; have h2 := hs.r; rw [hs0, hq0] at h1; rw [hs0] at h2; exact ⟨h1, h2⟩)
  have HPP : Hid (NumsAt .u8 w aP P ∧ ∀ j, j < P.length → 0 ≤ P.getD j 0 ∧ P.getD j 0 < 256) := Lib.hid (by have h1 := hl.p; have h2 := hs.p; rw [hs0, hq0] at h1; rw [hs0] at h2; exact ⟨h1, h2⟩)
  have HLL : Hid (InsAt w aL L ∧ ∀ k, k < L.length → (L.getD k I.Ins.nought).fits) := Lib.hid (by have h1 := hl.l; have h2 := hs.l; rw [hs0, hq0] at h1; rw [hs0] at h2; exact ⟨h1, h2⟩)
  have HF3 : Hid ((0 ≤ at3 ∧ at3 < 65536) ∧ (0 ≤ wh ∧ wh < 65536)) := Lib.hid (by have h1 := hs.at'; have h2 := hs.wh; rw [hs0] at h1 h2; exact ⟨h1, h2⟩)
  have HC0 : Hid (C0 = cpR R pc (min R.length 16)) := Lib.hid (by rw [hC0, hs0]; rfl)
  have HA0 : Hid (A0 = putR (putR (asP P P.length) 0 (at3 % 4096).toNat ⟨(textOf L).toArray⟩) 0 (wh % 4096).toNat tx) := Lib.hid (by rw [hA0, hs0]; rfl)
  have HN := Lib.hid (And.intro n1 (And.intro n2 (And.intro n3 n4)))
  obtain ⟨nR, hnR⟩ : ∃ n, n = R.length := ⟨_, rfl⟩
  obtain ⟨nP, hnP⟩ : ∃ n, n = P.length := ⟨_, rfl⟩
  obtain ⟨nL, hnL⟩ : ∃ n, n = L.length := ⟨_, rfl⟩
  have hC5 : Hid (∀ w', Blk w' G 63 (s.cells q) → w'.cell? ⟨G, 0, none⟩ = some (.slice aR nR cR) ∧ w'.cell? ⟨G, 1, none⟩ = some (.int .u32 pc) ∧ w'.cell? ⟨G, 2, none⟩ = some (.slice aP nP cP) ∧ w'.cell? ⟨G, 3, none⟩ = some (.int .u16 at3) ∧ w'.cell? ⟨G, 4, none⟩ = some (.slice aL nL cL) ∧ w'.cell? ⟨G, 5, none⟩ = some (.int .u16 wh) ∧ w'.cell? ⟨G, 6, none⟩ = some (.string tx)) :=
    Lib.hid fun w' hb => by rw [hcs] at hb; rw [hnR, hnP, hnL]; exact ⟨by rw [hb.cell]; rfl, by rw [hb.cell]; rfl, by rw [hb.cell]; rfl, by rw [hb.cell]; rfl, by rw [hb.cell]; rfl, by rw [hb.cell]; rfl, by rw [hb.cell]; rfl⟩
  rw [← hnR, ← hnP, ← hnL] at hwb ⊢
  replace HWB := Lib.hid hwb
  have HNR := Lib.hid hnR
  have HNP := Lib.hid hnP
  have HNL := Lib.hid hnL
  clear hH hs hl hs0 hq0 hcs hC0 hA0 hG hwb hbx hlo hgs n1 n2 n3 n4 hnR hnP hnL
  have c1 := (hC5.out _ HBX.out).2.1
  go_enter Tryd.func18, Tryd.ntmps18
  go_upto_region 1 with (fail)
  rw [← HWB.out, ← HG.out]
  go_wp2_with fail
  refine (cnew_any pc wb).mono ?_; rintro r w1 ⟨rfl, hc1, q1⟩
  obtain ⟨p, hp⟩ : ∃ p, p = wb.heap.size := ⟨_, rfl⟩
  rw [← hp] at hc1 ⊢
  have HX1 : Hid (CAt w1 p ⟨fun _ => 0, pc⟩ ∧ Blk w1 G 63 (s.cells q) ∧ Below G w w1 ∧ G ≤ w1.heap.size ∧ G ≤ p) := Lib.hid ⟨hc1, HBX.out.below q1 HBX.out.lt, HLO.out.1.trans (q1.mono (Nat.le_of_lt HLO.out.2)), Nat.le_trans (Nat.le_of_lt HLO.out.2) q1.size, by rw [hp]; exact Nat.le_of_lt HLO.out.2⟩
  clear hc1 q1 hp HBX HLO HWB c1
  go_wp2_with fail
  refine (new_any w1).mono ?_; rintro r w2 ⟨rfl, hs2, q2, hsz2⟩
  clear hsz2
  obtain ⟨b, hb⟩ : ∃ b, b = w1.heap.size := ⟨_, rfl⟩
  rw [← hb] at hs2 ⊢
  have HX2 : Hid (CAt w2 p ⟨fun _ => 0, pc⟩ ∧ Blk w2 G 63 (s.cells q) ∧ Below G w w2 ∧ G ≤ w2.heap.size ∧ G ≤ p ∧ SpaceAt w2 b (b + 2) 0 (fun _ => none) ∧ G ≤ b) := Lib.hid ⟨HX1.out.1.below q2, HX1.out.2.1.below q2 HX1.out.2.1.lt, HX1.out.2.2.1.trans (q2.mono HX1.out.2.2.2.1), Nat.le_trans HX1.out.2.2.2.1 q2.size, HX1.out.2.2.2.2, hs2, by rw [hb]; exact HX1.out.2.2.2.1⟩
  clear hs2 q2 hb HX1
  have c1 := (hC5.out _ HX2.out.2.1).2.1
  obtain ⟨w3, hw3⟩ : ∃ w3, w3 = (w2.alloc (.cells #[.int .u32 0, .int .u32 0, .int .u32 0, .int .u32 0, .int .u32 0, .int .u32 0, .int .u32 0, .int .u32 0, .int .u32 0, .int .u32 0, .int .u32 0, .int .u32 0, .int .u32 0, .int .u32 0, .int .u32 0, .int .u32 0, .int .u32 pc] 76)).alloc (.cells #[.slice none 0 0] 79) := ⟨_, rfl⟩
  obtain ⟨h, hh⟩ : ∃ h, h = w2.heap.size := ⟨_, rfl⟩
  have M3 : Hid (Mk s q G w G p b (b + 2) 0 h (h + 1) (cpR R pc 0) (fun _ => none) (cpR R pc 0) (fun _ => none) w3) := by
    obtain ⟨x1, x2, x3, x4, x5, x6, x7⟩ := HX2.out
    have hb1 : Below w2.heap.size w2 w3 := by rw [hw3]; exact ((Below.refl _ _).alloc (Nat.le_refl _) _).alloc (by simp) _
    rw [cpR_zero]
    refine Lib.hid ⟨⟨x1.below hb1, x6.below hb1 x6.hi, ?_, ?_, x5, x7, by omega, x3.trans (hb1.mono x4), Nat.le_trans x4 hb1.size⟩, x2.below hb1 x2.lt⟩
    · rw [hw3, hh]; exact Blk.alloc (Blk.new w2 76 (rcs ⟨fun _ => 0, pc⟩)) _
    · refine RefAt.bare ?_ (by omega)
      rw [hw3, hh]
      have := Blk.new (w2.alloc (.cells (rcs ⟨fun _ => 0, pc⟩).toArray 76)) 79 [.slice none 0 0]
      have e1 : (w2.alloc (.cells (rcs ⟨fun _ => 0, pc⟩).toArray 76)).heap.size = w2.heap.size + 1 := by simp
      rw [e1] at this
      exact this
  go_upto_region 3 with (fail)
  rw [← hw3, ← hh]
  clear hw3 hh HX2 c1
  go_wp2_with fail
  go_loopw [11] (fun v wr => ∃ k : Nat, v = .int .i64 k ∧ Hid (k ≤ nR ∧ k ≤ 16) ∧ Hid (Mk s q G w G p b (b + 2) 0 h (h + 1) (cpR R pc k) (fun _ => none) (cpR R pc k) (fun _ => none) wr)) (fun v _ => nR - (intOf v).toNat)
  case atStart => exact ⟨0, rfl, Lib.hid ⟨Nat.zero_le _, Nat.zero_le _⟩, M3⟩
  case round =>
    obtain ⟨k, rfl, HK, HM⟩ := hrel
    clear M3
    by_cases hcc : (k : Int) < (nR : Int) ∧ (k : Int) < 16
    · obtain ⟨hlt, hl16⟩ := hcc
      have hkR : k < R.length := by have := HNR.out; omega
      have hw64 : IntKind.i64.wrap ((k : Int) + 1) = (k : Int) + 1 := by rw [IntKind.wrap_i64]; omega
      obtain ⟨g1, o1, rfl, hg1, hcell⟩ := HRR.out.1 k hkR
      obtain ⟨V, hV⟩ : ∃ V, V = R.getD k 0 := ⟨_, rfl⟩
      have HCV : Hid (∀ w', Below G w w' → w'.cell? ⟨g1, o1 + k, none⟩ = some (.int .u32 V)) := Lib.hid fun w' hb => by
        rw [hV, ← hcell k hkR]
        exact hb.cell (p := ⟨g1, o1 + k, none⟩) (by rw [HG.out]; exact hg1)
      have c0 := (hC5.out _ HM.out.box).1
      have cv := HCV.out _ HM.out.f.low
      have HSet : Hid (Calls Tryd.prog 9 #[.pointer (some ⟨p, 0, none⟩), .int .i64 (k : Int), .int .u32 V] wr fun r w' => r = .returned (.int .i64 0) ∧ Mk s q G w G p b (b + 2) 0 h (h + 1) (cpR R pc (k + 1)) (fun _ => none) (cpR R pc k) (fun _ => none) w') := Lib.hid (by
        refine (setreg_any p (cpR R pc k) k (by omega) V wr HM.out.f.cpu).mono ?_
        rintro r w' ⟨h1, h2, h3⟩
        rw [hV, cpR_succ] at h2
        exact ⟨h1, HM.out.setreg h3 h2⟩)
      have HK2 : Hid (k + 1 ≤ nR ∧ k + 1 ≤ 16) := Lib.hid (by omega)
      have HVV := Lib.hid hV
      clear hcell hg1 hkR hV HK
      go_wp2_with fail
      refine HSet.out.mono ?_; rintro r w4 ⟨rfl, m4⟩
      have HM4 := Lib.hid m4
      clear HSet HM c0 cv m4
      by_cases hk0 : k = 0
      · have HM5 : Hid (Mk s q G w G p b (b + 2) 0 h (h + 1) (cpR R pc (k + 1)) (fun _ => none) (cpR R pc (k + 1)) (fun _ => none) w4) := Lib.hid (by
          have := HM4.out
          subst hk0
          rw [cpR_one] at this ⊢
          exact this)
        have hz : ¬ (0 : Int) < (k : Int) := by omega
        clear hk0 HM4
        go_wp2_with fail
        go_roundw
        case rel => exact ⟨k + 1, by go_num, HK2, HM5⟩
        case measure => simp [intOf]; have := HK2.out; omega
      · have hz : (0 : Int) < (k : Int) := by omega
        have k16 : k < 16 := by omega
        have HM5 : Hid (∀ w', Below w4.heap.size w4 w' → Mk s q G w G p b (b + 2) 0 h (h + 1) (cpR R pc (k + 1)) (fun _ => none) (cpR R pc (k + 1)) (fun _ => none) (w'.setCell ⟨h, k, none⟩ (.int .u32 V))) := Lib.hid (fun w' hb => by
          have := (HM4.out.below hb).kreg k V k16 hk0
          rw [HVV.out, cpR_succ] at this
          rw [HVV.out]
          exact this)
        have c0 := (hC5.out _ HM4.out.box).1
        have cv := HCV.out _ HM4.out.f.low
        have ck := HM4.out.f.k.reg k k16
        have cf : w4.frozen? ⟨h, k, none⟩ = false := Blk.frozen HM4.out.f.k k
        clear hk0
        go_upto_region 11 with (fail)
        refine wp_region_quiet_tail 10 (by kernel_rfl) (by kernel_rfl) ?_
        simp only [List.take_succ_cons, List.take_zero, List.drop_succ_cons, List.drop_zero]
        repeat (go_big_quiet_step (fail))
        refine wpQuiet_nil ?_
        intro _ hw'
        obtain ⟨nq, hw''⟩ := hw'
        subst hw''
        have HM6 := Lib.hid (HM5.out _ (below_drewN w4 nq))
        clear HM5 HM4
        go_wp2_with fail
        go_roundw
        case rel => exact ⟨k + 1, by go_num, HK2, HM6⟩
        case measure => simp [intOf]; have := HK2.out; omega
    · have HM1 : Hid (Mk s q G w G p b (b + 2) 0 h (h + 1) C0 (fun _ => none) C0 (fun _ => none) wr) := Lib.hid (by
        have := HM.out
        rw [HC0.out, show min R.length 16 = k by have := HNR.out; have := HK.out; omega]
        exact this)
      clear HM HK HC0
      have hex : (¬ (k : Int) < (nR : Int)) ∨ ((k : Int) < (nR : Int) ∧ ¬ (k : Int) < 16) := by omega
      clear hcc
      have c0 := (hC5.out _ HM1.out.box).1
      obtain ⟨wo, hwo⟩ : ∃ wo, wo = wr := ⟨_, rfl⟩
      subst hwo
      rcases hex with hlt | ⟨hlt, hl16⟩
      all_goals (
        go_wp2_with fail
        clear c0
        go_loopw [12] (fun v wr => ∃ (k e n : Nat), v = .int .i64 k ∧ Hid (k ≤ nP ∧ n ≤ k) ∧ Hid (Mk s q G w G p b e n h (h + 1) C0 (asP P k) C0 (asP P k) wr)) (fun v _ => nP - (intOf v).toNat)
        case atStart => exact ⟨0, b + 2, 0, rfl, Lib.hid ⟨Nat.zero_le _, Nat.le_refl _⟩, by rw [asP_zero]; exact HM1⟩
        case round =>
          obtain ⟨j, e, n, rfl, HJ, HM2⟩ := hrel
          clear HM1
          have c2 := (hC5.out _ HM2.out.box).2.2.1
          by_cases hj : (j : Int) < (nP : Int)
          · have hjP : j < P.length := by have := HNP.out; omega
            have hj16 : j ≤ 16 := by have := HN.out; omega
            have hw64 : IntKind.i64.wrap ((j : Int) + 1) = (j : Int) + 1 := by rw [IntKind.wrap_i64]; omega
            obtain ⟨g2, o2, rfl, hg2, hcell⟩ := HPP.out.1 j hjP
            obtain ⟨pm, hpm⟩ : ∃ pm : Nat, P.getD j 0 = (pm : Int) := ⟨(P.getD j 0).toNat, by have := HPP.out.2 j hjP; omega⟩
            have hp256 : pm < 256 := by have := HPP.out.2 j hjP; omega
            have HCV : Hid (∀ w', Below G w w' → w'.cell? ⟨g2, o2 + j, none⟩ = some (.int .u8 (pm : Int))) := Lib.hid fun w' hb => by
              rw [← hpm, ← hcell j hjP]
              exact hb.cell (p := ⟨g2, o2 + j, none⟩) (by rw [HG.out]; exact hg2)
            obtain ⟨X, hX⟩ : ∃ X, X = 256 * j := ⟨_, rfl⟩
            have hX32 : X < 4294967296 := by omega
            have u1 : IntKind.u32.wrap (j : Int) = (j : Int) := by rw [IntKind.wrap_u32]; omega
            have u2 : IntKind.u32.wrap ((j : Int) * 256) = (X : Int) := by rw [IntKind.wrap_u32]; omega
            have HK2 : Hid (j + 1 ≤ nP ∧ n + 1 ≤ j + 1) := Lib.hid (by have := HJ.out; omega)
            have cv := HCV.out _ HM2.out.f.low
            by_cases h8 : (pm : Int) < 8
            · obtain ⟨a1, a2⟩ := asP_map P j hj16 pm hpm (by omega)
              have HMp : Hid (Calls Tryd.prog 37 #[.pointer (some ⟨b + 1, 0, none⟩), .int .u32 (X : Int), .int .u8 (pm : Int)] wr fun r w' => r = .returned (.int .i64 0) ∧ ∃ e2, Mk s q G w G p b e2 (n + 1) h (h + 1) C0 (asP P (j + 1)) C0 (asP P j) w') := Lib.hid (by
                refine (map_any b e n (by have := HJ.out; omega) (asP P j) X pm hX32 hp256 wr HM2.out.f.sp).mono ?_
                rintro r w' ⟨h1, ⟨e2, _, h2⟩, h3⟩
                rw [hX, a1] at h1
                rw [hX, a2] at h2
                exact ⟨h1, e2, HM2.out.turn h3 h2⟩)
              have HRm : Hid (∀ w' e2, Mk s q G w G p b e2 (n + 1) h (h + 1) C0 (asP P (j + 1)) C0 (asP P j) w' → Calls Tryd.prog 38 #[.pointer (some ⟨h + 1, 0, none⟩), .int .u32 (X : Int), .int .u8 (pm : Int)] w' fun r w2 => r = .returned (.int .i64 0) ∧ Mk s q G w G p b e2 (n + 1) h (h + 1) C0 (asP P (j + 1)) C0 (asP P (j + 1)) w2) := Lib.hid (fun w' e2 m => by
                refine (rmap_any G (h + 1) (asP P j) X pm hX32 hp256 w' m.f.rf m.f.gs).mono ?_
                rintro r w2 ⟨h1, h2, h3⟩
                rw [hX, a1] at h1
                rw [hX, a2] at h2
                exact ⟨h1, m.rturn h3 h2⟩)
              clear a1 a2 hcell hg2 hjP hj16 hpm hp256 hX hX32 HJ
              go_wp2_with fail
              refine HMp.out.mono ?_; rintro r w4 ⟨rfl, e2, m4⟩
              have HM4 := Lib.hid m4
              clear m4 HMp HM2 c2 cv
              have c2 := (hC5.out _ HM4.out.box).2.2.1
              have cv := HCV.out _ HM4.out.f.low
              go_wp2_with fail
              refine (HRm.out _ _ HM4.out).mono ?_; rintro r w5 ⟨rfl, m5⟩
              have HM5 := Lib.hid m5
              clear m5 HRm HM4 c2 cv
              go_wp2_with fail
              go_roundw
              case rel => exact ⟨j + 1, e2, n + 1, by go_num, HK2, HM5⟩
              case measure => simp [intOf]; have := HK2.out; omega
            · have HM3 : Hid (Mk s q G w G p b e n h (h + 1) C0 (asP P (j + 1)) C0 (asP P (j + 1)) wr) := Lib.hid (by
                rw [asP_skip P j (by rw [hpm]; exact h8)]
                exact HM2.out)
              have HK3 : Hid (j + 1 ≤ nP ∧ n ≤ j + 1) := Lib.hid (by have := HJ.out; omega)
              clear hcell hg2 hjP hj16 hpm hp256 hX hX32 HJ HM2
              go_wp2_with fail
              go_roundw
              case rel => exact ⟨j + 1, e, n, by go_num, HK3, HM3⟩
              case measure => simp [intOf]; have := HK2.out; omega
          · obtain ⟨A1, hA1⟩ : ∃ A1, A1 = asP P P.length := ⟨_, rfl⟩
            have HM3 : Hid (Mk s q G w G p b e n h (h + 1) C0 A1 C0 A1 wr) := Lib.hid (by
              have := HM2.out
              rw [hA1, show P.length = j by have := HNP.out; have := HJ.out; omega]
              exact this)
            have HN16 : Hid (n ≤ 16) := Lib.hid (by have := HN.out; have := HNP.out; have := HJ.out; omega)
            obtain ⟨AT, hAT⟩ : ∃ AT, AT = (at3 % 4096).toNat := ⟨_, rfl⟩
            obtain ⟨WH, hWH⟩ : ∃ WH, WH = (wh % 4096).toNat := ⟨_, rfl⟩
            have t1 : at3.tmod 4096 = (AT : Int) := by rw [Int.tmod_eq_emod_of_nonneg HF3.out.1.1]; omega
            have t2 : wh.tmod 4096 = (WH : Int) := by rw [Int.tmod_eq_emod_of_nonneg HF3.out.2.1]; omega
            have u1 : IntKind.u32.wrap at3 = at3 := by rw [IntKind.wrap_u32]; have := HF3.out; omega
            have u2 : IntKind.u32.wrap wh = wh := by rw [IntKind.wrap_u32]; have := HF3.out; omega
            have hATl : AT < 4294967296 := by omega
            have hWHl : WH < 4294967296 := by omega
            obtain ⟨T, hT⟩ : ∃ T : ByteArray, T = ⟨(textOf L).toArray⟩ := ⟨_, rfl⟩
            have hTs : T.size ≤ 65536 := by
              rw [hT]
              show (textOf L).toArray.size ≤ 65536
              have := textOf_length L
              have := HN.out
              simp only [List.size_toArray]
              omega
            have hxs : tx.size ≤ 65536 := by have := HN.out; omega
            obtain ⟨A2, hA2⟩ : ∃ A2, A2 = putR A1 0 AT T := ⟨_, rfl⟩
            have HA3 : Hid (A0 = putR A2 0 WH tx) := Lib.hid (by rw [HA0.out, hA2, hA1, hAT, hWH, hT])
            obtain ⟨E1, hE1⟩ : ∃ E1, E1 = putE A1 0 AT T := ⟨_, rfl⟩
            obtain ⟨E2, hE2⟩ : ∃ E2, E2 = putE A2 0 WH tx := ⟨_, rfl⟩
            have HTx : Hid (∀ w', Below G w w' → Calls Tryd.prog 39 #[.slice aL nL cL] w' fun r w2 => r = .returned (.string T) ∧ Below w'.heap.size w' w2) := Lib.hid fun w' hb => by
              have := ctext_any L aL cL w' (by have := HN.out; omega) HLL.out.2 (HLL.out.1.below hb HG.out)
              rw [← HNL.out, ← hT] at this
              exact this
            have HSet1 : Hid (∀ w', Mk s q G w G p b e n h (h + 1) C0 A1 C0 A1 w' → Calls Tryd.prog 40 #[.pointer (some ⟨b + 1, 0, none⟩), .int .u32 (AT : Int), .string T] w' fun r w2 => r = .returned (.int .i64 E1) ∧ Mk s q G w G p b e n h (h + 1) C0 A2 C0 A1 w2) := Lib.hid fun w' m => by
              refine (set_any b e n A1 AT T hATl (by omega) w' m.f.sp).mono ?_
              rintro r w2 ⟨h1, h2, h3⟩
              rw [← hE1] at h1
              rw [← hA2] at h2
              exact ⟨h1, m.turn h3 h2⟩
            have HPut1 : Hid (∀ w', Mk s q G w G p b e n h (h + 1) C0 A2 C0 A1 w' → Calls Tryd.prog 41 #[.pointer (some ⟨h + 1, 0, none⟩), .int .u32 (AT : Int), .string T, .int .u8 0] w' fun r w2 => r = .returned (.int .i64 E1) ∧ Mk s q G w G p b e n h (h + 1) C0 A2 C0 A2 w2) := Lib.hid fun w' m => by
              refine (rput_any G (h + 1) A1 AT 0 T hATl hTs (by decide) w' m.f.rf).mono ?_
              rintro r w2 ⟨h1, h2, h3⟩
              rw [← hE1] at h1
              rw [← hA2] at h2
              exact ⟨h1, m.rturn h3 h2⟩
            have HSet2 : Hid (∀ w', Mk s q G w G p b e n h (h + 1) C0 A2 C0 A2 w' → Calls Tryd.prog 40 #[.pointer (some ⟨b + 1, 0, none⟩), .int .u32 (WH : Int), .string tx] w' fun r w2 => r = .returned (.int .i64 E2) ∧ Mk s q G w G p b e n h (h + 1) C0 A0 C0 A2 w2) := Lib.hid fun w' m => by
              refine (set_any b e n A2 WH tx hWHl (by omega) w' m.f.sp).mono ?_
              rintro r w2 ⟨h1, h2, h3⟩
              rw [← hE2] at h1
              rw [← HA3.out] at h2
              exact ⟨h1, m.turn h3 h2⟩
            have HPut2 : Hid (∀ w', Mk s q G w G p b e n h (h + 1) C0 A0 C0 A2 w' → Calls Tryd.prog 41 #[.pointer (some ⟨h + 1, 0, none⟩), .int .u32 (WH : Int), .string tx, .int .u8 0] w' fun r w2 => r = .returned (.int .i64 E2) ∧ Mk s q G w G p b e n h (h + 1) C0 A0 C0 A0 w2) := Lib.hid fun w' m => by
              refine (rput_any G (h + 1) A2 WH 0 tx hWHl hxs (by decide) w' m.f.rf).mono ?_
              rintro r w2 ⟨h1, h2, h3⟩
              rw [← hE2] at h1
              rw [← HA3.out] at h2
              exact ⟨h1, m.rturn h3 h2⟩
            have ne1 : (E1 != E1) = false := by simp
            have ne2 : (E2 != E2) = false := by simp
            have HC6 : Hid (∀ w', Blk w' G 63 (s.cells q) → w'.cell? ⟨G, 6, none⟩ = some (.string tx)) := Lib.hid fun w' hb => (hC5.out w' hb).2.2.2.2.2.2
            have c3 := (hC5.out _ HM3.out.box).2.2.2.1
            have c5 := (hC5.out _ HM3.out.box).2.2.2.2.2.1
            clear hA1 hAT hWH hATl hWHl hT hTs hxs hA2 hE1 hE2 HM2 HJ HA0
            go_upto_region 18 with (fail)
            clear c2
            go_quiet (fail)
            have HM4 := Lib.hid (HM3.out.below (below_drewN _ nq))
            clear HM3 c3 c5 t1 t2 u1 u2
            have c4 := (hC5.out _ HM4.out.box).2.2.2.2.1
            go_wp2_with fail
            refine (HTx.out _ HM4.out.f.low).mono ?_; rintro r w4 ⟨rfl, q4⟩
            have HM5 := Lib.hid (HM4.out.below q4)
            clear q4 HM4 c4 HTx
            go_upto_region 20 with (fail)
            replace HM5 := Lib.hid (HM5.out.below (Below.refl _ _).drew)
            have hS0 := HC6.out _ HM5.out.box
            go_region_held3 (fun w' => w'.cell? ⟨G, 6, none⟩ = some (.string tx))
              (first | exact hS0 | exact hS1 | exact hS2 | exact hS3 | exact hS4)
              ((first
                | (go_at_call 40; with_reducible refine (HSet1.out _ HM5.out).mono ?_; rintro r w6 ⟨rfl, m6⟩; have HM6 := Lib.hid m6; have hS1 := HC6.out _ m6.box; clear m6)
                | (go_at_call 40; with_reducible refine (HSet2.out _ HM7.out).mono ?_; rintro r w8 ⟨rfl, m8⟩; have HM8 := Lib.hid m8; have hS3 := HC6.out _ m8.box; clear m8)
                | (go_at_call 41; with_reducible refine (HPut1.out _ HM6.out).mono ?_; rintro r w7 ⟨rfl, m7⟩; have HM7 := Lib.hid m7; have hS2 := HC6.out _ m7.box; clear m7)
                | (go_at_call 41; with_reducible refine (HPut2.out _ HM8.out).mono ?_; rintro r w9 ⟨rfl, m9⟩; have HM9 := Lib.hid m9; have hS4 := HC6.out _ m9.box; clear m9)))
            go_wp2
            refine bodyPost_ret (I.results_tmp5 rfl _ _ _) rfl ?_
            exact ⟨p, b, e, n, h, h + 1, rfl, HM9.out.f, HN16.out⟩)
end Go.Proofs.YtgdbhmlmioihpaaDoor
