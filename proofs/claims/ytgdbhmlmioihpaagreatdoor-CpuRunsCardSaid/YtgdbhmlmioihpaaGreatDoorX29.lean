/- Some texts of one proof, one behind the other; each has its own head below. -/
import Derived.Test.YtgdbhmlmioihpaaGreatDoorX28
import Derived.Test.YtgdbhmlmioihpaaGreatDoorX23
import Derived.Test.YtgdbhmlmioihpaaGreatDoorX24
import Derived.LoopTactic
/- Many steps of the document's cpu. -/
section
set_option linter.unusedVariables false
namespace Go.Proofs.YtgdbhmlmioihpaaGreatDoor
open Go Go.RowKit Go.Maps

theorem res_stop_tmp {fn : Func} {p u : Tmp} (h : fn.results = #[.cell p 39, .tmp u]) (tmps : Array Value) (w : World) (k : Nat) (a b d v : Value) (hp : tmps.getD p undef = .pointer (some ⟨k, 0, none⟩)) (hv : tmps.getD u undef = v)
    (hb : Blk w k 39 [a, b, d]) : (results fn tmps).run Tryz.prog w = .ok (.tuple #[.agg #[a, b, d], v]) w := by
  have hb' : w.heap[k]? = some (.cells #[a, b, d] 39 (0, 0)) := hb
  rw [results_cell_tmp h, hp, hv]
  simp [asAddr, Result.andThen, run_loadVar_row w k 39 39 _ (0, 0) _ hb' Tryz.underlying39 rfl infoStop]

structure KR (w0 : World) (B g h : Nat) (A : As) (c : Cp) (k6 : Nat) (w : World) : Prop where
  s : KS w0 B g h A c w
  r : Blk w k6 39 [.int .u8 0, .int .u32 0, .int .i64 0]
  lo : w0.heap.size ≤ k6
section
variable {w0 w w' : World} {B g h k6 : Nat} {A A2 : As} {c c2 : Cp}
theorem KR.call (t : KR w0 B g h A c k6 w) (s : KS w B g h A2 c2 w') : KR w0 B g h A2 c2 k6 w' := ⟨t.s.join s, s.turn.keep t.r (by decide) (by decide) (by decide), t.lo⟩
theorem KR.alloc (t : KR w0 B g h A c k6 w) (o : Obj) : KR w0 B g h A c k6 (w.alloc o) := t.call (t.s.self.alloc o)

set_option maxHeartbeats 4000000 in
set_option maxRecDepth 100000 in
theorem krun_any (hc : c.Ok) (n : Int) (hn : n ≤ 9223372036854775807) (w : World) (s : KS w B g h A c w) :
    Calls Tryz.prog 16 #[.pointer (some ⟨h, 0, none⟩), .pointer (some ⟨g, 0, none⟩), .int .i64 n] w fun r w' =>
      r = .returned (.tuple #[stopV (runO n.toNat c A).1, .int .i64 ((runO n.toNat c A).2 : Int)]) ∧ KS w B g h (runO n.toNat c A).1.A (runO n.toNat c A).1.c w' := by
  obtain ⟨N, hN⟩ : ∃ N, N = n.toNat := ⟨_, rfl⟩
  rw [← hN]
  have HNN : Hid (∀ k : Nat, (k : Int) < n ↔ k < N) := Lib.hid fun k => by rw [hN]; omega
  have HL : Hid (n ≤ 9223372036854775807) := Lib.hid hn
  obtain ⟨k6, hk6⟩ : ∃ k6, k6 = w.heap.size := ⟨_, rfl⟩
  have HR0 : Hid (KR w B g h A c k6 (w.alloc (.cells #[.int .u8 0, .int .u32 0, .int .i64 0] 39))) := Lib.hid ⟨s.alloc _, by rw [hk6]; exact Blk.new _ _ _, by rw [hk6]; exact Nat.le_refl _⟩
  obtain ⟨wa, hwa⟩ : ∃ wa, wa = w.alloc (.cells #[.int .u8 0, .int .u32 0, .int .i64 0] 39) := ⟨_, rfl⟩
  rw [← hwa] at HR0
  obtain ⟨R, hR⟩ : ∃ R, R = runO N c A := ⟨_, rfl⟩
  have HC : Hid (c.Ok) := Lib.hid hc
  have HRR : Hid (R = runO N c A) := Lib.hid hR
  have HWA := Lib.hid hwa
  have HK6 := Lib.hid hk6
  rw [← hR]
  clear hR hc s hn hN hwa hk6
  go_enter Tryz.func16, Tryz.ntmps16
  go_wp2_with fail
  rw [← HWA.out, ← HK6.out]
  go_loopw [8] (fun v wr => ∃ (k : Nat) (c1 : Cp) (A1 : As), v = .int .i64 k ∧ Hid (k ≤ N) ∧ Hid c1.Ok ∧ Hid (KR w B g h A1 c1 k6 wr) ∧ Hid (R = ((runO (N - k) c1 A1).1, k + (runO (N - k) c1 A1).2))) (fun v _ => N - (intOf v).toNat)
  case atStart =>
    refine ⟨0, c, A, rfl, Lib.hid (Nat.zero_le _), HC, HR0, Lib.hid ?_⟩
    rw [HRR.out, Nat.sub_zero, Nat.zero_add]
  case round =>
    obtain ⟨k, c1, A1, rfl, HK, HO, HT, HQ⟩ := hrel
    clear HR0 HC HRR HWA HK6
    by_cases hlt : (k : Int) < n
    · have hk : k < N := (HNN.out k).1 hlt
      have hw64 : IntKind.i64.wrap ((k : Int) + 1) = (k : Int) + 1 := by rw [IntKind.wrap_i64]; have := HL.out; omega
      have HK2 : Hid (k + 1 ≤ N) := Lib.hid hk
      obtain ⟨o, ho⟩ : ∃ o, o = stepO c1 A1 := ⟨_, rfl⟩
      have HSt : Hid (Calls Tryz.prog 10 #[.pointer (some ⟨h, 0, none⟩), .pointer (some ⟨g, 0, none⟩)] wr fun r w' => r = .returned (.agg #[.int .u8 o.k, .int .u32 o.num, .int .i64 o.why]) ∧ KS wr B g h o.A o.c w') := Lib.hid (by
        have := kstep_any HO.out wr HT.out.s.self
        rw [← ho] at this
        exact this)
      have HO2 : Hid o.c.Ok := Lib.hid (by rw [ho]; exact step_ok HO.out A1)
      have HE : Hid ((o.k = 0 → R = ((runO (N - (k + 1)) o.c o.A).1, (k + 1) + (runO (N - (k + 1)) o.c o.A).2)) ∧ (o.k = 1 → R = (o, k + 1)) ∧ (o.k = 2 → R = (o, k))) := Lib.hid (by
        have e : N - k = (N - (k + 1)) + 1 := by omega
        have hq := HQ.out
        rw [e] at hq
        refine ⟨fun h0 => ?_, fun h1 => ?_, fun h2 => ?_⟩
        · rw [run_go _ (by rw [← ho]; exact h0), ← ho] at hq
          rw [hq]
          simp only [Prod.mk.injEq, true_and]
          omega
        · rw [run_end _ (by rw [← ho]; omega), ← ho, if_neg (by omega)] at hq
          exact hq
        · rw [run_end _ (by rw [← ho]; omega), ← ho, if_pos h2] at hq
          exact hq)
      have hk3 : o.k = 0 ∨ o.k = 1 ∨ o.k = 2 := by rw [ho]; rcases step_k c1 A1 with h | h | h <;> simp [h]
      obtain ⟨K, NU, WY, c2, A2⟩ := o
      simp only at HSt HO2 HE hk3
      clear hk ho HO HQ
      go_wp2_with fail
      refine HSt.out.mono ?_; rintro r w2 ⟨rfl, s2⟩
      have HT2 := Lib.hid (HT.out.call s2)
      clear s2 HSt HT
      have HT3 := Lib.hid (HT2.out.alloc (.cells #[.int .u8 K, .int .u32 NU, .int .i64 WY] 39))
      obtain ⟨⟨z0, z1, z2⟩, f0, f1, f2⟩ := HT3.out.r.three
      have FF := Lib.hid (HT3.out.s.stop3 HT3.out.r HT3.out.lo (.int .u8 K) (.int .u32 NU) (.int .i64 WY))
      rcases hk3 with rfl | rfl | rfl
      · have HE0 := Lib.hid (HE.out.1 rfl)
        clear HE FF z0 z1 z2 f0 f1 f2
        go_wp2_with fail
        go_roundw
        case rel => exact ⟨k + 1, c2, A2, by go_num, HK2, HO2, HT3, HE0⟩
        case measure => simp [intOf]; have := HK2.out; omega
      · have HE1 := Lib.hid (HE.out.2.1 rfl)
        clear HE
        go_wp2_with fail
        refine bodyPost_ret (v := .tuple #[.agg #[.int .u8 1, .int .u32 NU, .int .i64 WY], .int .i64 ((k : Int) + 1)]) (res_stop_tmp Tryz.results16 _ _ k6 _ _ _ _ rfl rfl FF.out.2) rfl ⟨?_, ?_⟩
        · rw [HE1.out]; rfl
        · rw [HE1.out]; exact FF.out.1
      · have HE1 := Lib.hid (HE.out.2.2 rfl)
        clear HE
        go_wp2_with fail
        refine bodyPost_ret (v := .tuple #[.agg #[.int .u8 2, .int .u32 NU, .int .i64 WY], .int .i64 (k : Int)]) (res_stop_tmp Tryz.results16 _ _ k6 _ _ _ _ rfl rfl FF.out.2) rfl ⟨?_, ?_⟩
        · rw [HE1.out]; rfl
        · rw [HE1.out]; exact FF.out.1
    · have HE : Hid (R = (ran c1 A1, k)) := Lib.hid (by
        have h1 : N - k = 0 := by
          have h2 : ¬ k < N := fun h => hlt ((HNN.out k).2 h)
          omega
        have hq := HQ.out
        rw [h1, run_zero] at hq
        exact hq)
      obtain ⟨⟨z0, z1, z2⟩, f0, f1, f2⟩ := HT.out.r.three
      have FF := Lib.hid (HT.out.s.stop3 HT.out.r HT.out.lo (.int .u8 0) (.int .u32 0) (.int .i64 0))
      clear HQ
      go_wp2_with fail
      refine bodyPost_ret (v := .tuple #[.agg #[.int .u8 0, .int .u32 0, .int .i64 0], .int .i64 (k : Int)]) (res_stop_tmp Tryz.results16 _ _ k6 _ _ _ _ rfl rfl FF.out.2) rfl ⟨?_, ?_⟩
      · rw [HE.out]; rfl
      · rw [HE.out]; exact FF.out.1
end
end Go.Proofs.YtgdbhmlmioihpaaGreatDoor
end

/- The document's turn, beside the program's. -/
section
set_option linter.unusedVariables false
namespace Go.Proofs.YtgdbhmlmioihpaaGreatDoor
open Go Go.RowKit Go.Maps

section
variable {w0 w w' w2 : World} {G B p b e n h g : Nat} {c c2 c3 c' : Cp} {A A2 A3 A' : As}
theorem Fr.ks (f : Fr w0 G p b e n h g c A c' A' w) : KS w G g h A' c' w := KS.start f.rf f.k f.gh
/-- The document's turn. -/
theorem Fr.ft (f : Fr w0 G p b e n h g c A c' A' w) (s : KS w G g h A3 c3 w') : Fr w0 G p b e n h g c A c3 A3 w' := by
  have hc0 : Blk w p 89 (ccs c) := f.cpu
  exact ⟨s.turn.keep hc0 (by decide) (by decide) (by decide), s.turn.space f.sp, s.k, s.rf, f.gp, f.gb, f.gh, f.low.trans (s.turn.below f.gs), Nat.le_trans f.gs s.turn.size⟩
theorem Fr.kstep (f : Fr w0 G p b e n h g c A c' A' w) (hc : c'.Ok) :
    Calls Tryz.prog 10 #[.pointer (some ⟨h, 0, none⟩), .pointer (some ⟨g, 0, none⟩)] w fun r w' => r = .returned (stopV (stepO c' A')) ∧ Fr w0 G p b e n h g c A (stepO c' A').c (stepO c' A').A w' := by
  refine (kstep_any hc w f.ks).mono ?_
  rintro r w' ⟨h1, h2⟩
  exact ⟨h1, f.ft h2⟩
theorem Fr.krun (f : Fr w0 G p b e n h g c A c' A' w) (hc : c'.Ok) (m : Nat) (hm : m ≤ 1000000) :
    Calls Tryz.prog 16 #[.pointer (some ⟨h, 0, none⟩), .pointer (some ⟨g, 0, none⟩), .int .i64 (m : Int)] w fun r w' => r = .returned (.tuple #[stopV (runO m c' A').1, .int .i64 ((runO m c' A').2 : Int)]) ∧ Fr w0 G p b e n h g c A (runO m c' A').1.c (runO m c' A').1.A w' := by
  have := krun_any hc (m : Int) (by omega) w f.ks
  rw [Int.toNat_natCast] at this
  refine this.mono ?_
  rintro r w' ⟨h1, h2⟩
  exact ⟨h1, f.ft h2⟩
end
end Go.Proofs.YtgdbhmlmioihpaaGreatDoor
end
