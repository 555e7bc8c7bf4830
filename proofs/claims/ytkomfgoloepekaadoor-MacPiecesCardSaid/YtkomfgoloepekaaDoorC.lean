/- (sha.state).after: what a block makes of the eight numbers. -/
import Derived.Test.YtkomfgoloepekaaDoorB
set_option linter.unusedVariables false
namespace Go.Proofs.YtkomfgoloepekaaDoor
open Go.RowKit

/-- The table of keys stands as the program's text lays it. -/
def Keyed (w : World) : Prop := 0 < w.heap.size ∧ ∀ j, j < 64 → w.cell? ⟨0, j, none⟩ = some (.int .u32 (Sh.keys.getD j 0 : Nat))
theorem Keyed.below {w w' : World} (h : Keyed w) (hb : Below w.heap.size w w') : Keyed w' :=
  ⟨Nat.lt_of_lt_of_le h.1 hb.size, fun j hj => (hb.cell (p := ⟨0, j, none⟩) h.1).trans (h.2 j hj)⟩
theorem Keyed.drewN {w : World} (h : Keyed w) (n : Nat) : Keyed (w.drewN n) := h

theorem mix0 (x : Nat) (HX : Hid (x < 4294967296)) (w : World) : Calls Tryd.prog 38 #[.int .u32 (x : Int), .int .i64 2, .int .i64 13, .int .i64 22] w fun e w' => e = .returned (.int .u32 (Sh.S0 x : Nat)) ∧ w = w' :=
  mix_any x 2 13 22 HX.out (by decide) (by decide) (by decide) (by decide) (by decide) (by decide) w
theorem mix1 (x : Nat) (HX : Hid (x < 4294967296)) (w : World) : Calls Tryd.prog 38 #[.int .u32 (x : Int), .int .i64 6, .int .i64 11, .int .i64 25] w fun e w' => e = .returned (.int .u32 (Sh.S1 x : Nat)) ∧ w' = w :=
  (mix_any x 6 11 25 HX.out (by decide) (by decide) (by decide) (by decide) (by decide) (by decide) w).mono fun _ _ ⟨h1, h2⟩ => ⟨h1, h2.symm⟩
theorem choose_h (e f g : Nat) (he : Hid (e < 4294967296)) (hf : Hid (f < 4294967296)) (hg : Hid (g < 4294967296)) (w : World) :
    Calls Tryd.prog 39 #[.int .u32 (e : Int), .int .u32 (f : Int), .int .u32 (g : Int)] w fun r w' => r = .returned (.int .u32 (Sh.ch e f g : Nat)) ∧ w' = w :=
  (choose_any e f g he.out hf.out hg.out w).mono fun _ _ ⟨h1, h2⟩ => ⟨h1, h2.symm⟩
theorem majority_h (a b c : Nat) (ha : Hid (a < 4294967296)) (hb : Hid (b < 4294967296)) (hc : Hid (c < 4294967296)) (w : World) :
    Calls Tryd.prog 40 #[.int .u32 (a : Int), .int .u32 (b : Int), .int .u32 (c : Int)] w fun r w' => r = .returned (.int .u32 (Sh.maj a b c : Nat)) ∧ w = w' := majority_any a b c ha.out hb.out hc.out w

theorem t1_eq (h s c k x : Nat) : (((h : Int) + (s : Int) + (c : Int) + (k : Int)) % 4294967296 + (x : Int)) % 4294967296 = (((h + s + c + k + x) % 4294967296 : Nat) : Int) := by omega
theorem two_eq (a b : Nat) : ((a : Int) + (b : Int)) % 4294967296 = (((a + b) % 4294967296 : Nat) : Int) := by omega
theorem two_eq' (a b : Nat) (x : Nat) (h : x = (b + a) % 4294967296) : ((a : Int) + (b : Int)) % 4294967296 = (x : Int) := by omega
theorem zeros8 : #[Value.int IntKind.u32 0, Value.int IntKind.u32 0, Value.int IntKind.u32 0, Value.int IntKind.u32 0, Value.int IntKind.u32 0, Value.int IntKind.u32 0, Value.int IntKind.u32 0, Value.int IntKind.u32 0] = (List.replicate 8 (Value.int .u32 0)).toArray := rfl
theorem size8 (x0 x1 x2 x3 x4 x5 x6 x7 : Int) : (List.replicate 8 (Value.int IntKind.u32 0)).toArray.size = #[Value.int .u32 x0, Value.int .u32 x1, Value.int .u32 x2, Value.int .u32 x3, Value.int .u32 x4, Value.int .u32 x5, Value.int .u32 x6, Value.int .u32 x7].size := rfl
theorem all8 (x0 x1 x2 x3 x4 x5 x6 x7 : Int) : #[Value.int .u32 x0, Value.int .u32 x1, Value.int .u32 x2, Value.int .u32 x3, Value.int .u32 x4, Value.int .u32 x5, Value.int .u32 x6, Value.int .u32 x7].all (·.oneCell') = true := by simp [Value.oneCell']
theorem eight_of (l : List Nat) (h : l.length = 8) : ∃ a b c d e f g i, l = [a, b, c, d, e, f, g, i] := by
  match l, h with
  | [a, b, c, d, e, f, g, i], _ => exact ⟨a, b, c, d, e, f, g, i, rfl⟩

set_option maxHeartbeats 1000000 in
set_option maxRecDepth 100000 in
theorem after_eight (s0 s1 s2 s3 s4 s5 s6 s7 : Nat) (bl : List Nat) (hl : bl.length = 64) (hbl : ∀ x ∈ bl, x < 256) (hs : ∀ x ∈ [s0, s1, s2, s3, s4, s5, s6, s7], x < 4294967296) (w : World) (hk : Keyed w) :
    Calls Tryd.prog 30 #[.agg #[.int .u32 (s0 : Int), .int .u32 (s1 : Int), .int .u32 (s2 : Int), .int .u32 (s3 : Int), .int .u32 (s4 : Int), .int .u32 (s5 : Int), .int .u32 (s6 : Int), .int .u32 (s7 : Int)], .agg (u8s bl).toArray] w fun e w' =>
      e = .returned (.agg (u32s (Sh.blockL Sh.keys (Sh.words bl) [s0, s1, s2, s3, s4, s5, s6, s7])).toArray) ∧ Below w.heap.size w w' := by
  obtain ⟨H, hH⟩ : ∃ H, H = w.heap.size := ⟨_, rfl⟩
  obtain ⟨cs, hcs⟩ : ∃ cs, cs = (u8s bl).toArray := ⟨_, rfl⟩
  have HSC := Lib.hid (fun w => schedule_any bl hl hbl w)
  rw [← hcs] at HSC ⊢
  have HC2 : Hid ((Tryd.prog.info? 53).map (·.size) = some cs.size) := by rw [info64, hcs]; exact Lib.hid (by simp [u8s, hl])
  obtain ⟨W, hW⟩ : ∃ W, W = Sh.words bl := ⟨_, rfl⟩
  rw [← hW] at HSC
  have HWl : Hid (W.length = 64) := by rw [hW]; exact Lib.hid (Sh.words_length bl)
  have HWs : Hid (∀ x ∈ W, x < 4294967296) := by rw [hW]; exact Lib.hid (Sh.words_small bl hbl)
  have HWe := Lib.hid hW
  have HK := Lib.hid hk
  have HS := Lib.hid hs
  have HH := Lib.hid hH
  clear hl hbl hcs hW hk hs hH
  go_enter Tryd.func30, Tryd.ntmps30
  go_wp2_with (refine wpList_load_row rfl 53 (.tmp 3) rfl (w.heap.size + 1) rfl 53 cs (0, 0) _ ?c1 Tryd.underlying53 rfl HC2.out ?_)
  case c1 => rw [Below.heap_alloc _ _ _ (by simp), heap_alloc_new' _ _ _ (by simp)]
  rw [zeros8]
  obtain ⟨Sl, hSl⟩ : ∃ Sl : List Value, Sl = [.int .u32 (s0 : Int), .int .u32 (s1 : Int), .int .u32 (s2 : Int), .int .u32 (s3 : Int), .int .u32 (s4 : Int), .int .u32 (s5 : Int), .int .u32 (s6 : Int), .int .u32 (s7 : Int)] := ⟨_, rfl⟩
  have hSa : #[Value.int .u32 (s0 : Int), .int .u32 (s1 : Int), .int .u32 (s2 : Int), .int .u32 (s3 : Int), .int .u32 (s4 : Int), .int .u32 (s5 : Int), .int .u32 (s6 : Int), .int .u32 (s7 : Int)] = Sl.toArray := by rw [hSl]
  rw [hSa]
  obtain ⟨w0, hw0⟩ : ∃ w0, w0 = ((w.alloc (.cells Sl.toArray 51)).alloc (.cells cs 53)).alloc (.cells (List.replicate 8 (Value.int IntKind.u32 0)).toArray 51) := ⟨_, rfl⟩
  have b0 : Blk w0 w.heap.size 51 Sl := by
    rw [hw0]
    unfold Blk
    rw [Below.heap_alloc _ _ _ (by simp; omega), Below.heap_alloc _ _ _ (by simp), heap_alloc_new' _ _ _ (by simp)]
  have b2 : Blk w0 (w.heap.size + 1 + 1) 51 (List.replicate 8 (Value.int IntKind.u32 0)) := by
    rw [hw0]
    unfold Blk
    rw [heap_alloc_new' _ _ _ (by simp)]
  have hb0 : Below w.heap.size w w0 := by
    rw [hw0]
    exact (((Below.refl _ _).alloc (Nat.le_refl _) _).alloc (by simp) _).alloc (by simp; omega) _
  rw [← hw0]
  clear hw0
  rw [← HH.out] at b0 b2 hb0 ⊢
  have hk0 : Keyed w0 := HK.out.below (by rw [← HH.out]; exact hb0)
  have HSa := Lib.hid hSa
  have HSl := Lib.hid hSl
  clear hSa hSl
  refine (HSC.out _).mono ?_
  rintro e w1 ⟨rfl, hb1⟩
  have c0 := b0.below hb1 b0.lt
  have c2 := b2.below hb1 b2.lt
  have hk1 := hk0.below hb1
  have hH0 : H ≤ w0.heap.size := by have := HH.out; have := hb0.size; omega
  have hbw := hb0.trans (hb1.mono hH0)
  have C0 := Lib.hid c0
  have C2 := Lib.hid c2
  have HK1 := Lib.hid hk1
  have hgB : H ≤ w1.heap.size := Nat.le_trans hH0 hb1.size
  clear b0 b2 hb0 hk0 hb1 c0 c2 hk1 hH0
  have K1 : Hid ((Tryd.prog.info? 63).map (·.size) = some (u32s W).toArray.size) := Lib.hid (by rw [infow]; simp [u32s_length, HWl.out])
  have K2 : Hid ((List.replicate 64 (Value.int .u32 0)).toArray.size = (u32s W).toArray.size) := Lib.hid (by simp [u32s_length, HWl.out])
  have K3 : Hid ((w1.alloc (.cells (List.replicate 64 (Value.int IntKind.u32 0)).toArray 63)).heap[w1.heap.size]? = some (.cells (List.replicate 64 (Value.int IntKind.u32 0)).toArray 63 (0, 0))) := Lib.hid (heap_alloc_new w1 _)
  go_wp2_with (refine wpList_store_row rfl 63 (.tmp 5) (.tmp 18) rfl w1.heap.size (u32s W).toArray rfl rfl 63 (List.replicate 64 (Value.int IntKind.u32 0)).toArray K3.out K1.out K2.out (oneAll (u32s_one W)) ?_)
  rw [World.setRow_alloc_new]
  obtain ⟨gw, hgw⟩ : ∃ gw, gw = w1.heap.size := ⟨_, rfl⟩
  obtain ⟨w2, hw2⟩ : ∃ w2, w2 = w1.alloc (.cells (u32s W).toArray 63) := ⟨_, rfl⟩
  have D0 : Hid (Blk w2 H 51 Sl) := by rw [hw2]; exact Lib.hid (C0.out.alloc _)
  have D2 : Hid (Blk w2 (H + 1 + 1) 51 (List.replicate 8 (Value.int IntKind.u32 0))) := by rw [hw2]; exact Lib.hid (C2.out.alloc _)
  have D3 : Hid (Blk w2 gw 63 (u32s W)) := by rw [hw2, hgw]; exact Lib.hid (Blk.new w1 _ _)
  have DK : Hid (Keyed w2) := by rw [hw2]; exact Lib.hid (HK1.out.below ((Below.refl _ _).alloc (Nat.le_refl _) _))
  have hb2 : Below H w w2 := by rw [hw2]; exact hbw.alloc hgB _
  rw [← hw2, ← hgw]
  clear hw2 hgw hbw hgB C0 C2 HK1 K1 K2 K3
  have k0 : w2.cell? ⟨H, 0, none⟩ = some (.int .u32 (s0 : Int)) := by rw [D0.out.cell, HSl.out]; rfl
  have k1 : w2.cell? ⟨H, 1, none⟩ = some (.int .u32 (s1 : Int)) := by rw [D0.out.cell, HSl.out]; rfl
  have k2 : w2.cell? ⟨H, 2, none⟩ = some (.int .u32 (s2 : Int)) := by rw [D0.out.cell, HSl.out]; rfl
  have k3 : w2.cell? ⟨H, 3, none⟩ = some (.int .u32 (s3 : Int)) := by rw [D0.out.cell, HSl.out]; rfl
  have k4 : w2.cell? ⟨H, 4, none⟩ = some (.int .u32 (s4 : Int)) := by rw [D0.out.cell, HSl.out]; rfl
  have k5 : w2.cell? ⟨H, 5, none⟩ = some (.int .u32 (s5 : Int)) := by rw [D0.out.cell, HSl.out]; rfl
  have k6 : w2.cell? ⟨H, 6, none⟩ = some (.int .u32 (s6 : Int)) := by rw [D0.out.cell, HSl.out]; rfl
  have k7 : w2.cell? ⟨H, 7, none⟩ = some (.int .u32 (s7 : Int)) := by rw [D0.out.cell, HSl.out]; rfl
  go_quiet (fail)
  obtain ⟨w3, hw3⟩ : ∃ w3, w3 = w2.drewN nq := ⟨_, rfl⟩
  have E0 : Hid (Blk w3 H 51 Sl) := by rw [hw3]; exact D0
  have E2 : Hid (Blk w3 (H + 1 + 1) 51 (List.replicate 8 (Value.int IntKind.u32 0))) := by rw [hw3]; exact D2
  have E3 : Hid (Blk w3 gw 63 (u32s W)) := by rw [hw3]; exact D3
  have EK : Hid (Keyed w3) := by rw [hw3]; exact DK
  have hb3 : Below H w w3 := by rw [hw3]; exact below_drewN hb2 nq
  rw [← hw3]
  clear hw3 k0 k1 k2 k3 k4 k5 k6 k7 D0 D2 D3 DK hb2
  go_wp2_with fail
  go_loopw [6, 7, 8, 9, 10, 11, 12, 13, 35] (fun t6 t7 t8 t9 t10 t11 t12 t13 t35 wr => ∃ t a b c d e f g h : Nat, t ≤ 64 ∧ t35 = .int .i64 t ∧ t6 = .int .u32 a ∧ t7 = .int .u32 b ∧ t8 = .int .u32 c ∧ t9 = .int .u32 d ∧ t10 = .int .u32 e ∧ t11 = .int .u32 f ∧ t12 = .int .u32 g ∧ t13 = .int .u32 h ∧
      Hid (∀ x ∈ [a, b, c, d, e, f, g, h], x < 4294967296) ∧ Hid (Sh.rounds Sh.keys W [s0, s1, s2, s3, s4, s5, s6, s7] t = [a, b, c, d, e, f, g, h]) ∧
      Hid (Blk wr H 51 Sl) ∧ Hid (Blk wr (H + 1 + 1) 51 (List.replicate 8 (Value.int IntKind.u32 0))) ∧ Hid (Blk wr gw 63 (u32s W)) ∧ Hid (Keyed wr) ∧ Below H w wr) (fun _ _ _ _ _ _ _ _ t35 _ => (64 - intOf t35).toNat)
  case atStart => exact ⟨0, s0, s1, s2, s3, s4, s5, s6, s7, by omega, rfl, rfl, rfl, rfl, rfl, rfl, rfl, rfl, rfl, HS, Lib.hid rfl, E0, E2, E3, EK, hb3⟩
  case round =>
    clear E0 E2 E3 EK hb3
    obtain ⟨t, a, b, c, d, e, f, g, h, ht, rfl, rfl, rfl, rfl, rfl, rfl, rfl, rfl, rfl, HR, HRd, E0, E2, E3, EK, hb⟩ := hrel
    by_cases hlt : t < 64
    · obtain ⟨k, hk⟩ : ∃ k, Sh.keys.getD t 0 = k := ⟨_, rfl⟩
      obtain ⟨x, hx⟩ : ∃ x, W.getD t 0 = x := ⟨_, rfl⟩
      have gk := EK.out.2 t hlt
      rw [hk] at gk
      have gx := E3.out.cell t
      rw [u32s_getD _ _ (by rw [HWl.out]; exact hlt), hx] at gx
      have HKX := Lib.hid (And.intro hk hx)
      clear hk hx
      have EA : Hid (a < 4294967296) := Lib.hid (HR.out a (by simp))
      have EB : Hid (b < 4294967296) := Lib.hid (HR.out b (by simp))
      have EC : Hid (c < 4294967296) := Lib.hid (HR.out c (by simp))
      have EE : Hid (e < 4294967296) := Lib.hid (HR.out e (by simp))
      have EF : Hid (f < 4294967296) := Lib.hid (HR.out f (by simp))
      have EG : Hid (g < 4294967296) := Lib.hid (HR.out g (by simp))
      have m1 : (0 : Int) ≤ (t : Int) := by omega
      have m2 : (t : Int) < 64 := by omega
      go_wp2_with fail
      go_quiet ((first
        | (go_at_call 38; with_reducible exact Calls.quiet_of_same (mix1 _ EE _))
        | (go_at_call 39; with_reducible exact Calls.quiet_of_same (choose_h _ _ _ EE EF EG _))))
      obtain ⟨wq, hwq⟩ : ∃ wq, wq = wr.drewN nq := ⟨_, rfl⟩
      have F0 : Hid (Blk wq H 51 Sl) := by rw [hwq]; exact E0
      have F2 : Hid (Blk wq (H + 1 + 1) 51 (List.replicate 8 (Value.int IntKind.u32 0))) := by rw [hwq]; exact E2
      have F3 : Hid (Blk wq gw 63 (u32s W)) := by rw [hwq]; exact E3
      have FK : Hid (Keyed wq) := by rw [hwq]; exact EK
      have hbq : Below H w wq := by rw [hwq]; exact below_drewN hb nq
      rw [← hwq]
      clear hwq E0 E2 E3 EK hb gk gx m1 m2
      obtain ⟨T, hT⟩ : ∃ T, T = Sh.T1 e f g h k x := ⟨_, rfl⟩
      have HT : Hid ((((h : Int) + (Sh.S1 e : Nat) + (Sh.ch e f g : Nat) + (k : Int)) % 4294967296 + (x : Int)) % 4294967296 = (T : Int)) := by rw [t1_eq, hT]; exact Lib.hid rfl
      rw [HT.out]
      have HT2 := Lib.hid hT
      clear HT hT
      go_wp2_with fail
      refine (mix0 a EA _).mono ?_; rintro e' w' ⟨rfl, rfl⟩
      go_wp2_with fail
      refine (majority_h a b c EA EB EC _).mono ?_; rintro e' w' ⟨rfl, rfl⟩
      obtain ⟨p, hp⟩ : ∃ p, p = Sh.S0 a := ⟨_, rfl⟩
      obtain ⟨q, hq⟩ : ∃ q, q = Sh.maj a b c := ⟨_, rfl⟩
      rw [← hp, ← hq]
      have HPQ := Lib.hid (And.intro hp hq)
      clear hp hq
      go_wp2
      go_roundw
      case rel =>
        refine ⟨t + 1, (T + Sh.T2 a b c) % 4294967296, a, b, c, (d + T) % 4294967296, e, f, g, by omega, by go_num, ?_, rfl, rfl, rfl, ?_, rfl, rfl, rfl, ?_, ?_, F0, F2, F3, FK, hbq⟩
        · unfold Sh.T2; rw [← HPQ.out.1, ← HPQ.out.2]; congr 1 <;> omega
        · congr 1 <;> omega
        · refine Lib.hid (fun z hz => ?_)
          have h1 := EA.out; have h2 := EB.out; have h3 := EC.out; have h4 := EE.out; have h5 := EF.out; have h6 := EG.out
          simp only [List.mem_cons, List.not_mem_nil, or_false] at hz
          rcases hz with rfl | rfl | rfl | rfl | rfl | rfl | rfl | rfl <;> first | assumption | exact Nat.mod_lt _ (by decide)
        · refine Lib.hid ?_
          show Sh.rd (Sh.rounds Sh.keys W _ t) (Sh.keys.getD t 0) (W.getD t 0) = _
          rw [HRd.out, HKX.out.1, HKX.out.2, HT2.out]
          rfl
      case measure => simp [intOf]; omega
    · have ht64 : t = 64 := by omega
      subst ht64
      rw [show ((64 : Nat) : Int) = 64 from rfl]
      have k0 : wr.cell? ⟨H, 0, none⟩ = some (.int .u32 (s0 : Int)) := by rw [E0.out.cell, HSl.out]; rfl
      have k1 : wr.cell? ⟨H, 1, none⟩ = some (.int .u32 (s1 : Int)) := by rw [E0.out.cell, HSl.out]; rfl
      have k2 : wr.cell? ⟨H, 2, none⟩ = some (.int .u32 (s2 : Int)) := by rw [E0.out.cell, HSl.out]; rfl
      have k3 : wr.cell? ⟨H, 3, none⟩ = some (.int .u32 (s3 : Int)) := by rw [E0.out.cell, HSl.out]; rfl
      have k4 : wr.cell? ⟨H, 4, none⟩ = some (.int .u32 (s4 : Int)) := by rw [E0.out.cell, HSl.out]; rfl
      have k5 : wr.cell? ⟨H, 5, none⟩ = some (.int .u32 (s5 : Int)) := by rw [E0.out.cell, HSl.out]; rfl
      have k6 : wr.cell? ⟨H, 6, none⟩ = some (.int .u32 (s6 : Int)) := by rw [E0.out.cell, HSl.out]; rfl
      have k7 : wr.cell? ⟨H, 7, none⟩ = some (.int .u32 (s7 : Int)) := by rw [E0.out.cell, HSl.out]; rfl
      go_wp2_with (refine wpList_store_row rfl 51 (.tmp 4) (.tmp 107) rfl (H + 1 + 1) #[.int .u32 _, .int .u32 _, .int .u32 _, .int .u32 _, .int .u32 _, .int .u32 _, .int .u32 _, .int .u32 _] rfl rfl 51 (List.replicate 8 (Value.int IntKind.u32 0)).toArray E2.out info8 (size8 _ _ _ _ _ _ _ _) (all8 _ _ _ _ _ _ _ _) ?_)
      have hres := results_cell_row (P := Tryd.prog) (fn := Tryd.f30) Tryd.results30
      have HR5 : ∀ c : Array Value, (wr.setRow (H + 1 + 1) c).heap[H + 1 + 1]? = some (.cells c 51 (0, 0)) := fun c => setRow_heap wr _ _ c _ _ E2.out
      refine bodyPost_ret (v := .agg #[.int .u32 (((s0 : Int) + (a : Int)) % 4294967296), .int .u32 (((s1 : Int) + (b : Int)) % 4294967296), .int .u32 (((s2 : Int) + (c : Int)) % 4294967296), .int .u32 (((s3 : Int) + (d : Int)) % 4294967296), .int .u32 (((s4 : Int) + (e : Int)) % 4294967296), .int .u32 (((s5 : Int) + (f : Int)) % 4294967296), .int .u32 (((s6 : Int) + (g : Int)) % 4294967296), .int .u32 (((s7 : Int) + (h : Int)) % 4294967296)]) ?h1 ?h2 ?h3
      case h1 =>
        refine hres _ _ (H + 1 + 1) 51 _ (0, 0) (.array 8 48) ?_ (HR5 _) Tryd.underlying51 rfl info8
        rfl
      case h2 => rfl
      case h3 =>
        refine ⟨?_, by rw [← HH.out]; exact below_setRow hb (show H ≤ H + 1 + 1 by omega) _⟩
        rw [← HWe.out]
        unfold Sh.blockL
        rw [HRd.out]
        simp only [u32s, List.zipWith, List.map]
        rw [two_eq' s0 a _ rfl, two_eq' s1 b _ rfl, two_eq' s2 c _ rfl, two_eq' s3 d _ rfl, two_eq' s4 e _ rfl, two_eq' s5 f _ rfl, two_eq' s6 g _ rfl, two_eq' s7 h _ rfl]

theorem after_any (st bl : List Nat) (h8 : st.length = 8) (hst : ∀ x ∈ st, x < 4294967296) (hl : bl.length = 64) (hbl : ∀ x ∈ bl, x < 256) (w : World) (hk : Keyed w) :
    Calls Tryd.prog 30 #[.agg (u32s st).toArray, .agg (u8s bl).toArray] w fun e w' => e = .returned (.agg (u32s (Sh.blockL Sh.keys (Sh.words bl) st)).toArray) ∧ Below w.heap.size w w' := by
  obtain ⟨a, b, c, d, e, f, g, i, rfl⟩ := eight_of st h8
  exact after_eight a b c d e f g i bl hl hbl hst w hk
end Go.Proofs.YtkomfgoloepekaaDoor
