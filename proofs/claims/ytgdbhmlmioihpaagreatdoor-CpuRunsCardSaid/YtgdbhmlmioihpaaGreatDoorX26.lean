/- Some texts of one proof, one behind the other; each has its own head below. -/
import Derived.Test.YtgdbhmlmioihpaaGreatDoorX13
import Derived.Test.YtgdbhmlmioihpaaGreatDoorX04
import Derived.Test.YtgdbhmlmioihpaaGreatDoorX21
import Derived.Test.YtgdbhmlmioihpaaGreatDoorX16
import Derived.Test.YtgdbhmlmioihpaaGreatDoorX25
import Derived.OwnWalk
import Derived.BigQuiet
import Derived.Maps.AppendAt
import Derived.Laws.AppendOwn
import Derived.Deep.RegionHeld3
/- The document's own Get: the same as the program's. -/
section
set_option linter.unusedVariables false
namespace Go.Proofs.YtgdbhmlmioihpaaGreatDoor
open Go.RowKit Go.Maps

theorem bytesAt_one (A : As) (x i : Nat) : bytesAt A x (i + 1) = bytesAt A x i ++ [byteAt A (x + i)] := by
  rw [bytesAt_add]; rfl

set_option maxHeartbeats 4000000 in
set_option maxRecDepth 100000 in
theorem rget_loop (B g c : Nat) (a : Option Addr) (L : List RP) (A : As) (x M need : Nat) (hx : x < 4294967296) (hM : M ≤ 1048576) (hn : need < 8) (S : ByteArray) (E : Int) (hy : okAll A need x M = true → S = ⟨(bytesAt A x M).toArray⟩ ∧ E = 0) (hno : okAll A need x M = false → S = ⟨#[]⟩ ∧ E = 50) (w : World) (h : RefP w B g a c L A) :
    Calls Tryz.prog 33 #[.pointer (some ⟨g, 0, none⟩), .int .u32 (x : Int), .int .i64 (M : Int), .int .u8 (need : Int)] w fun r w' => r = .returned (.tuple #[.string S, .int .i64 E]) ∧ Below w.heap.size w w' := by
  have H := Lib.hid h
  have HY := Lib.hid hy
  have HNo := Lib.hid hno
  have HX := Lib.hid hx
  have HM := Lib.hid hM
  have HN := Lib.hid hn
  obtain ⟨W0, hW0⟩ : ∃ W0, W0 = w.heap.size := ⟨_, rfl⟩
  have HW0 := Lib.hid hW0
  rw [← hW0]
  have hm1 : ¬ (M : Int) < 0 := by omega
  have hm2 : ¬ (1048576 : Int) < (M : Int) := by omega
  obtain ⟨i0, hi, hz0, hz1, hz2⟩ := info_parts info_u8
  have m1 : IntKind.u64.wrap (x : Int) = (x : Int) := by rw [IntKind.wrap_u64]; omega
  have HO0 := Lib.hid (World.ownsRow_nil w W0 5 1)
  have HB0 := Lib.hid (show Below W0 w w by rw [hW0]; exact Below.refl _ _)
  clear h hx hM hn hW0 hy hno
  go_enter Tryz.func33, Tryz.ntmps33
  go_wp2_with fail
  clear hm1 hm2
  go_loopw [10, 11] (fun v10 v11 wr => ∃ (i : Nat) (z : Value), v11 = .int .i64 i ∧ z = v10 ∧ Hid (i ≤ M) ∧ Hid (wr.ownsRow W0 5 1 z i (Lib.byteCells (bytesAt A x i))) ∧ Hid (Below W0 w wr) ∧ Hid (∀ k, k < i → okPg A need ((x + k) / 256) = true)) (fun _ v _ => M - (intOf v).toNat)
  case atStart => exact ⟨0, _, rfl, rfl, Lib.hid (Nat.zero_le _), HO0, HB0, Lib.hid (fun k hk => absurd hk (Nat.not_lt_zero _))⟩
  case round =>
    obtain ⟨i, z, rfl, rfl, HI, HO, HB, HK⟩ := hrel
    clear HO0 HB0
    have Hr : Hid (RefP wr B g a c L A) := Lib.hid (H.out.below (by rw [← HW0.out]; exact HB.out))
    by_cases hlt : (i : Int) < (M : Int)
    · obtain ⟨t, ht⟩ : ∃ t, t = x + i := ⟨_, rfl⟩
      have HT := Lib.hid ht
      have m2 : IntKind.u64.wrap (i : Int) = (i : Int) := by rw [IntKind.wrap_u64]; have := HM.out; omega
      have m3 : IntKind.u64.wrap ((x : Int) + (i : Int)) = (t : Int) := by rw [IntKind.wrap_u64]; have := HM.out; have := HX.out; omega
      have htx : t < 1099511627776 := by have := HM.out; have := HX.out; omega
      have HTX := Lib.hid htx
      have HLT : Hid (i < M) := Lib.hid (by omega)
      clear ht htx
      cases hA : A (t / 256) with
      | none =>
        have HC := Lib.hid (rof_none B g c a L A t HTX.out hA wr Hr.out)
        have hno : okAll A need x M = false := okAll_not HLT.out (by rw [← HT.out]; exact okPg_no hA)
        have HE := Lib.hid (HNo.out hno)
        clear hno hA hlt
        go_wp2_with fail
        refine HC.out.mono ?_; rintro r w1 ⟨rfl, rfl⟩
        go_wp2
        go_ret2
        exact ⟨by rw [HE.out.1, HE.out.2]; rfl, HB.out⟩
      | some f =>
        have HC := Lib.hid (rof_some B g c a L A t HTX.out f hA wr Hr.out)
        have HA := Lib.hid hA
        have hbm := bne_met need f HN.out
        have hok := okPg_is (need := need) hA
        clear hA hlt
        go_wp2_with fail
        refine HC.out.mono ?_; rintro r w1 ⟨⟨e, he, hei, rfl⟩, rfl⟩
        obtain ⟨f2, hA2, hlt4, c0, c1, c2, cb⟩ := Hr.out.three he
        have hf : f2 = f := by rw [hei, HA.out] at hA2; exact (Option.some.inj hA2).symm
        subst hf
        obtain ⟨P, hP⟩ : ∃ P : Int, P = ((f2 256).toNat : Int) := ⟨_, rfl⟩
        rw [← hP] at c1 hbm
        clear hP hA2 he HC
        cases hmt : met need f2 with
        | false =>
          rw [hmt] at hbm hok
          have hbm2 : (bits BinOp.and IntKind.u8 P (need : Int) != (need : Int)) = true := hbm
          have hno : okAll A need x M = false := okAll_not HLT.out (by rw [← HT.out]; exact hok)
          have HE := Lib.hid (HNo.out hno)
          clear hno hok hbm hmt cb c0 c2 hei hlt4
          go_wp2
          go_ret2
          exact ⟨by rw [HE.out.1, HE.out.2]; rfl, HB.out⟩
        | true =>
          rw [hmt] at hbm hok
          have hbm2 : (bits BinOp.and IntKind.u8 P (need : Int) != (need : Int)) = false := hbm
          obtain ⟨y, hy⟩ : ∃ y : Int, y = 256 * (e.i : Int) := ⟨_, rfl⟩
          obtain ⟨r, hr⟩ : ∃ r : Nat, r = t % 256 := ⟨_, rfl⟩
          rw [← hy] at c0
          have m5 : IntKind.u64.wrap y = y := by rw [IntKind.wrap_u64]; omega
          have m4 : IntKind.u64.wrap ((t : Int) - y) = (r : Int) := by rw [IntKind.wrap_u64]; omega
          have hr2 : (r : Int) < 256 := by omega
          have cr := cb r (by omega)
          obtain ⟨bv, hbv⟩ : ∃ bv : Nat, bv = (f2 r).toNat := ⟨_, rfl⟩
          rw [← hbv] at cr
          have HBV : Hid (Lib.byteCells (bytesAt A x (i + 1)) = Lib.byteCells (bytesAt A x i) ++ [.int .u8 (bv : Int)]) := Lib.hid (by
            have e1 : byteAt A (x + i) = f2 r := by
              rw [← HT.out]; unfold byteAt; rw [HA.out, hr]
            rw [bytesAt_one, e1, hbv, Lib.byteCells_append]
            rfl)
          have HK2 : Hid (∀ k, k < i + 1 → okPg A need ((x + k) / 256) = true) := Lib.hid fun k hk => by
            by_cases hki : k = i
            · subst hki; rw [← HT.out]; exact hok
            · exact HK.out k (by omega)
          have m6 : IntKind.i64.wrap ((i : Int) + 1) = (i : Int) + 1 := by rw [IntKind.wrap_i64]; have := HM.out; have := HLT.out; omega
          have hWs : Hid (W0 ≤ w1.heap.size) := Lib.hid (by rw [HW0.out]; exact HB.out.size)
          clear hok hbm hmt cb hei hlt4 hy hr hbv HK
          go_wp2_with fail
          refine wp_region_quiet_tail_one 17 z (by kernel_rfl) (by kernel_rfl) rfl (fun _ _ _ h => h) (fun w => BigFrame.run_move (.tmp 10) rfl w) ?_
          simp only [List.take_succ_cons, List.take_zero, List.drop_succ_cons, List.drop_zero, Act.put, List.setIfInBounds_toArray, List.set_cons_zero, List.set_cons_succ]
          repeat (go_big_quiet_step (fail))
          refine wpQuiet_nil ?_
          intro _ hw'
          obtain ⟨nq, hw''⟩ := hw'
          subst hw''
          obtain ⟨wq, hwq⟩ : ∃ wq, wq = w1.drewN nq := ⟨_, rfl⟩
          have Hown2 : Hid (wq.ownsRow W0 5 1 z i (Lib.byteCells (bytesAt A x i))) := by rw [hwq]; exact HO
          have hb2 : Below W0 w wq := by rw [hwq]; exact drewN_drewN HB.out nq
          have hBq : W0 ≤ wq.heap.size := by rw [hwq]; exact hWs.out
          rw [← hwq]
          have K3 : Hid (i + 1 ≤ maxLen) := Lib.hid (by unfold maxLen; have := HM.out; have := HLT.out; omega)
          have K4 : Hid ((i + 1) * 1 ≤ 140737488355328) := Lib.hid (by have := HM.out; have := HLT.out; omega)
          clear hwq HO HB
          go_wp2_with (at_builtin; refine wpList_append_own _ rfl (.tmp 43) (.tmp 61) 24 rfl W0 5 i0 (.int .u8 0) 1 1 Tryz.underlying24 hi hz0 hz1 hz2 rfl (by decide) _ _ _ rfl (Hown2.out.alloc _) ⟨wq.heap.size, 0, none⟩ 1 1 [.int .u8 (bv : Int)] rfl rfl ?c1 ?c2 K3.out K4.out ?c5 ?_)
          case c1 => exact World.news_of_block (cs := #[.int .u8 (bv : Int)]) (t := 5) (fr := (0, 0)) (heap_alloc_new wq _)
          case c2 => intro u hu; simp only [List.mem_cons, List.not_mem_nil, or_false] at hu; rcases hu with rfl; rfl
          case c5 => simp; omega
          intro z' w2 hown' hgrow' _
          have hb3 := Lib.hid (appU_below hb2 hBq Hown2.out hgrow')
          have HO2 : Hid (w2.ownsRow W0 5 1 z' (i + 1) (Lib.byteCells (bytesAt A x (i + 1)))) := Lib.hid (by
            rw [HBV.out]
            exact hown')
          have HI2 : Hid (i + 1 ≤ M) := Lib.hid (by have := HLT.out; omega)
          clear hown' hgrow' Hown2 hb2 K3 K4
          go_wp2
          go_roundw
          case rel => exact ⟨i + 1, z', by go_num, rfl, HI2, HO2, hb3, HK2⟩
          case measure => simp [intOf]; have := HLT.out; omega
    · obtain rfl : i = M := by have := HI.out; omega
      have hok : okAll A need x i = true := (okAll_iff _ _ _ _).2 HK.out
      have hconv := own_text (l := bytesAt A x i) (v := z) (w := wr) (B := W0) (by rw [bytesAt_length]; exact HO.out)
      have HE := Lib.hid (HY.out hok)
      rw [← HE.out.1] at hconv
      clear hok
      go_wp2
      go_ret2
      exact ⟨by rw [HE.out.2]; rfl, HB.out⟩

theorem rget_any (B g : Nat) (A : As) (x : Nat) (m : Int) (need : Nat) (hx : x < 4294967296) (hn : need < 8) (w : World) (h : RefAt w B g A) :
    Calls Tryz.prog 33 #[.pointer (some ⟨g, 0, none⟩), .int .u32 (x : Int), .int .i64 m, .int .u8 (need : Int)] w fun r w' => r = .returned (.tuple #[.string (getS A need x m), .int .i64 (getE A need x m)]) ∧ Below w.heap.size w w' := by
  obtain ⟨a, c, L, h⟩ := h
  by_cases hm : m < 0 ∨ 1048576 < m
  · have e : getE A need x m = 2 := by unfold getE; rw [if_pos hm]
    rw [getS_not (by rw [e]; decide), e]
    clear e
    rcases hm with h0 | h1
    · clear h hx hn
      go_enter Tryz.func33, Tryz.ntmps33
      go_wp2
      go_ret2
      exact ⟨rfl, Below.refl _ _⟩
    · clear h hx hn
      by_cases h0 : m < 0
      · omega
      go_enter Tryz.func33, Tryz.ntmps33
      go_wp2
      go_ret2
      exact ⟨rfl, Below.refl _ _⟩
  · obtain ⟨M, rfl⟩ : ∃ M : Nat, m = (M : Int) := ⟨m.toNat, by omega⟩
    refine rget_loop B g c a L A x M need hx (by omega) hn _ _ (fun h1 => ?_) (fun h1 => ?_) w h
    · have e : getE A need x (M : Int) = 0 := by unfold getE; rw [if_neg hm, Int.toNat_natCast, if_pos h1]
      exact ⟨by unfold getS; rw [if_pos e, Int.toNat_natCast], e⟩
    · have e : getE A need x (M : Int) = 50 := by unfold getE; rw [if_neg hm, Int.toNat_natCast, if_neg (by rw [h1]; decide)]
      exact ⟨by unfold getS; rw [if_neg (by rw [e]; decide)], e⟩
end Go.Proofs.YtgdbhmlmioihpaaGreatDoor
end

/- Loads and stores of the document's cpu. -/
section
set_option linter.unusedVariables false
namespace Go.Proofs.YtgdbhmlmioihpaaGreatDoor
open Go Go.RowKit Go.Maps

theorem getE_two (A : As) (need x n : Nat) (hn : n ≤ 1048576) : getE A need x (n : Int) = 0 ∨ getE A need x (n : Int) = 50 := by
  unfold getE
  rw [if_neg (by omega)]
  split <;> simp
theorem u32_mod (z : Int) : IntKind.u32.wrap z = z % 4294967296 := by rw [IntKind.wrap_u32]

section
variable {w0 : World} {B g h : Nat} {A : As} {c : Cp}
set_option maxHeartbeats 2000000 in
set_option maxRecDepth 100000 in
theorem kmem_load (hc : c.Ok) (x : Xn) (hd : x.d < 16) (ha : x.a < 16) (hop : (x.op = 33 ∧ memN x.op = 1) ∨ (x.op = 34 ∧ memN x.op = 4)) (w : World) (s : KS w0 B g h A c w) :
    Calls Tryz.prog 38 #[.pointer (some ⟨h, 0, none⟩), .pointer (some ⟨g, 0, none⟩), xv x] w fun r w' => r = .returned (.int .i64 (getE A 1 (adr x c) (memN x.op))) ∧
      KS w0 B g h A (if getE A 1 (adr x c) (memN x.op) = 0 then setR c x.d (I.getV (getS A 1 (adr x c) (memN x.op))) else c) w' := by
  obtain ⟨op, d, a, b, im⟩ := x
  simp only at hd ha hop
  show Calls Tryz.prog 38 #[.pointer (some ⟨h, 0, none⟩), .pointer (some ⟨g, 0, none⟩), .agg #[.int .u8 op, .int .u8 (d : Int), .int .u8 (a : Int), .int .u8 (b : Int), .int .u32 im]] w _
  simp only
  obtain ⟨N, hN⟩ : ∃ N, N = memN op := ⟨_, rfl⟩
  obtain ⟨AD, hAD⟩ : ∃ AD, AD = adr ⟨op, d, a, b, im⟩ c := ⟨_, rfl⟩
  rw [← hN] at hop ⊢
  rw [← hAD]
  have hADl : AD < 4294967296 := by rw [hAD]; exact adr_lt _ _
  have hwr : IntKind.u32.wrap (c.r a + im) = (AD : Int) := by
    rw [u32_mod, hAD]; unfold adr; simp only; omega
  have hN2 : N ≤ 1048576 := by omega
  obtain ⟨wb, hwb⟩ : ∃ wb, wb = w.alloc (.cells #[.int .u8 op, .int .u8 (d : Int), .int .u8 (a : Int), .int .u8 (b : Int), .int .u32 im] 61) := ⟨_, rfl⟩
  have hs : KS w0 B g h A c wb := by rw [hwb]; exact s.alloc _
  obtain ⟨k, hk0⟩ : ∃ k, k = w.heap.size := ⟨_, rfl⟩
  have hB : Blk wb k 61 [.int .u8 op, .int .u8 (d : Int), .int .u8 (a : Int), .int .u8 (b : Int), .int .u32 im] := by rw [hwb, hk0]; exact Blk.new _ _ _
  have ca := hs.k.reg a ha
  have a16 : (a : Int) < 16 := by omega
  obtain ⟨X, hX⟩ : ∃ X, X = c.r a := ⟨_, rfl⟩
  rw [← hX] at ca hwr
  have c0 : wb.cell? ⟨k, 0, none⟩ = some (.int .u8 op) := by rw [hB.cell]; rfl
  have c2 : wb.cell? ⟨k, 2, none⟩ = some (.int .u8 (a : Int)) := by rw [hB.cell]; rfl
  have c4 : wb.cell? ⟨k, 4, none⟩ = some (.int .u32 im) := by rw [hB.cell]; rfl
  have HS := Lib.hid hs
  have HB := Lib.hid hB
  have HG : Hid (∀ w', KS w0 B g h A c w' → Calls Tryz.prog 33 #[.pointer (some ⟨g, 0, none⟩), .int .u32 (AD : Int), .int .i64 (N : Int), .int .u8 1] w' fun r w2 => r = .returned (.tuple #[.string (getS A 1 AD (N : Int)), .int .i64 (getE A 1 AD (N : Int))]) ∧ Below w'.heap.size w' w2) :=
    Lib.hid fun w' h' => rget_any B g A AD (N : Int) 1 hADl (by decide) w' h'.rf
  have HE := getE_two A 1 AD N hN2
  obtain ⟨E, hE⟩ : ∃ E, E = getE A 1 AD (N : Int) := ⟨_, rfl⟩
  obtain ⟨T, hT⟩ : ∃ T, T = getS A 1 AD (N : Int) := ⟨_, rfl⟩
  rw [← hE] at HE HG ⊢
  rw [← hT] at HG ⊢
  have HT1 : Hid (E = 0 → T.size = N) := Lib.hid fun h0 => by
    rw [hT]; unfold getS; rw [if_pos (by rw [← hE]; exact h0)]
    show (bytesAt A AD _).toArray.size = N
    simp [bytesAt_length]
  have HD := Lib.hid hd
  have HNN : Hid (1 ≤ N ∧ N ≤ 4) := Lib.hid (by omega)
  have HW := Lib.hid hwb
  have HK0 := Lib.hid hk0
  clear hE hT hAD hADl hN hs hB hX s hc ha hN2 hwb hk0 hd
  have go : Hid (∀ nq : Nat, KS w0 B g h A c (wb.drewN nq) ∧ Blk (wb.drewN nq) k 61 [.int .u8 op, .int .u8 (d : Int), .int .u8 (a : Int), .int .u8 (b : Int), .int .u32 im]) := Lib.hid fun nq => ⟨HS.out.below (below_drewN _ _), HB.out.below (below_drewN wb nq) HB.out.lt⟩
  go_enter Tryz.func38, Tryz.ntmps38
  go_upto_region 1 with (fail)
  rw [← HW.out, ← HK0.out]
  go_quiet (fail)
  have HS1 := Lib.hid (go.out nq).1
  have HB1 := Lib.hid (go.out nq).2
  clear go HS HB ca c2 c4 a16 hwr HW HK0
  rcases hop with ⟨rfl, rfl⟩ | ⟨rfl, rfl⟩
  · go_wp2_with fail
    refine (HG.out _ HS1.out).mono ?_; rintro r w2 ⟨rfl, q2⟩
    have HS2 := Lib.hid (HS1.out.below q2)
    have HB2 := Lib.hid (HB1.out.below q2 HB1.out.lt)
    have c1 : w2.cell? ⟨k, 1, none⟩ = some (.int .u8 (d : Int)) := by rw [HB2.out.cell]; rfl
    clear q2 HS1 HB1 c0 HG HB2
    rcases HE with rfl | rfl
    · go_wp2_with fail
      refine (I.rget_any T _).mono ?_; rintro r w3 ⟨rfl, hw3⟩
      subst hw3
      go_wp2_with fail
      refine (kput_any d HD.out _ _ HS2.out).mono ?_; rintro r w4 ⟨rfl, s4⟩
      have HS4 := Lib.hid s4
      clear s4 HS2 c1
      go_wp2
      go_ret
      exact ⟨rfl, HS4.out⟩
    · go_wp2
      go_ret
      exact ⟨rfl, HS2.out⟩
  · go_wp2_with fail
    refine (HG.out _ HS1.out).mono ?_; rintro r w2 ⟨rfl, q2⟩
    have HS2 := Lib.hid (HS1.out.below q2)
    have HB2 := Lib.hid (HB1.out.below q2 HB1.out.lt)
    have c1 : w2.cell? ⟨k, 1, none⟩ = some (.int .u8 (d : Int)) := by rw [HB2.out.cell]; rfl
    clear q2 HS1 HB1 c0 HG HB2
    rcases HE with rfl | rfl
    · go_wp2_with fail
      refine (I.rget_any T _).mono ?_; rintro r w3 ⟨rfl, hw3⟩
      subst hw3
      go_wp2_with fail
      refine (kput_any d HD.out _ _ HS2.out).mono ?_; rintro r w4 ⟨rfl, s4⟩
      have HS4 := Lib.hid s4
      clear s4 HS2 c1
      go_wp2
      go_ret
      exact ⟨rfl, HS4.out⟩
    · go_wp2
      go_ret
      exact ⟨rfl, HS2.out⟩

set_option maxHeartbeats 4000000 in
set_option maxRecDepth 100000 in
theorem kmem_store (hc : c.Ok) (x : Xn) (ha : x.a < 16) (hb : x.b < 16) (hop : (x.op = 35 ∧ memN x.op = 1) ∨ (x.op = 36 ∧ memN x.op = 4)) (w : World) (s : KS w0 B g h A c w) :
    Calls Tryz.prog 38 #[.pointer (some ⟨h, 0, none⟩), .pointer (some ⟨g, 0, none⟩), xv x] w fun r w' => r = .returned (.int .i64 (putE A 2 (adr x c) (memT x c))) ∧
      KS w0 B g h (putR A 2 (adr x c) (memT x c)) c w' := by
  obtain ⟨op, d, a, b, im⟩ := x
  simp only at ha hb hop
  show Calls Tryz.prog 38 #[.pointer (some ⟨h, 0, none⟩), .pointer (some ⟨g, 0, none⟩), .agg #[.int .u8 op, .int .u8 (d : Int), .int .u8 (a : Int), .int .u8 (b : Int), .int .u32 im]] w _
  obtain ⟨N, hN⟩ : ∃ N, N = memN op := ⟨_, rfl⟩
  obtain ⟨AD, hAD⟩ : ∃ AD, AD = adr ⟨op, d, a, b, im⟩ c := ⟨_, rfl⟩
  obtain ⟨T, hT⟩ : ∃ T, T = memT ⟨op, d, a, b, im⟩ c := ⟨_, rfl⟩
  rw [← hAD, ← hT]
  have hT2 : T = ⟨(I.Wd.le (c.r b).toNat N).toArray⟩ := by rw [hT]; unfold memT; rw [hN]
  rw [← hN] at hop
  have hADl : AD < 4294967296 := by rw [hAD]; exact adr_lt _ _
  have hwr : IntKind.u32.wrap (c.r a + im) = (AD : Int) := by
    rw [u32_mod, hAD]; unfold adr; simp only; omega
  have hTs : T.size ≤ 65536 := by
    rw [hT2]
    show (I.Wd.le (c.r b).toNat N).toArray.size ≤ 65536
    simp [I.Wd.le_length]; omega
  obtain ⟨wb, hwb⟩ : ∃ wb, wb = w.alloc (.cells #[.int .u8 op, .int .u8 (d : Int), .int .u8 (a : Int), .int .u8 (b : Int), .int .u32 im] 61) := ⟨_, rfl⟩
  have hs : KS w0 B g h A c wb := by rw [hwb]; exact s.alloc _
  obtain ⟨k, hk0⟩ : ∃ k, k = w.heap.size := ⟨_, rfl⟩
  have hB : Blk wb k 61 [.int .u8 op, .int .u8 (d : Int), .int .u8 (a : Int), .int .u8 (b : Int), .int .u32 im] := by rw [hwb, hk0]; exact Blk.new _ _ _
  have ca := hs.k.reg a ha
  have a16 : (a : Int) < 16 := by omega
  have b16 : (b : Int) < 16 := by omega
  have y0 := hc.lo b
  have y1 := hc.hi b
  obtain ⟨X, hX⟩ : ∃ X, X = c.r a := ⟨_, rfl⟩
  rw [← hX] at ca hwr
  have c0 : wb.cell? ⟨k, 0, none⟩ = some (.int .u8 op) := by rw [hB.cell]; rfl
  have c2 : wb.cell? ⟨k, 2, none⟩ = some (.int .u8 (a : Int)) := by rw [hB.cell]; rfl
  have c4 : wb.cell? ⟨k, 4, none⟩ = some (.int .u32 im) := by rw [hB.cell]; rfl
  have HS := Lib.hid hs
  have HB := Lib.hid hB
  have HP : Hid (∀ w', KS w0 B g h A c w' → Blk w' k 61 [.int .u8 op, .int .u8 (d : Int), .int .u8 (a : Int), .int .u8 (b : Int), .int .u32 im] → Calls Tryz.prog 30 #[.pointer (some ⟨g, 0, none⟩), .int .u32 (AD : Int), .string T, .int .u8 2] w' fun r w2 => r = .returned (.int .i64 (putE A 2 AD T)) ∧ KS w0 B g h (putR A 2 AD T) c w2 ∧ Blk w2 k 61 [.int .u8 op, .int .u8 (d : Int), .int .u8 (a : Int), .int .u8 (b : Int), .int .u32 im]) :=
    Lib.hid fun w' h' hbk => (rput_any B g A AD 2 T hADl hTs (by decide) w' h'.rf).mono (by rintro r w2 ⟨rfl, h1, h2⟩; exact ⟨rfl, h'.rturn h1 h2, h2.keep hbk (by decide) (by decide)⟩)
  obtain ⟨Y, hY⟩ : ∃ Y, Y = c.r b := ⟨_, rfl⟩
  rw [← hY] at hT2 y0 y1
  have HBy : Hid (∀ w', Calls Tryz.prog 73 #[.int .u32 Y, .int .i64 (N : Int)] w' fun r w2 => r = .returned (.string T) ∧ Below w'.heap.size w' w2) :=
    Lib.hid fun w' => by
      have := I.bytes_any Y (N : Int) y0 y1 (by omega) (by omega) w'
      rw [Int.toNat_natCast, ← hT2] at this
      exact this
  obtain ⟨E, hE⟩ : ∃ E, E = putE A 2 AD T := ⟨_, rfl⟩
  obtain ⟨A2, hA2⟩ : ∃ A2, A2 = putR A 2 AD T := ⟨_, rfl⟩
  rw [← hE, ← hA2] at HP ⊢
  have HC : Hid (∀ w' A', KS w0 B g h A' c w' → Blk w' k 61 [.int .u8 op, .int .u8 (d : Int), .int .u8 (a : Int), .int .u8 (b : Int), .int .u32 im] → w'.cell? ⟨k, 3, none⟩ = some (.int .u8 (b : Int)) ∧ w'.cell? ⟨h, b, none⟩ = some (.int .u32 Y)) :=
    Lib.hid fun w' A' h1 h2 => ⟨by rw [h2.cell]; rfl, by rw [hY]; exact h1.k.reg b hb⟩
  have HW := Lib.hid hwb
  have HK0 := Lib.hid hk0
  clear hE hT hAD hADl hN hs hB hX s hc ha hb hwb hk0 hT2 hTs hY y0 y1 hA2
  have go : Hid (∀ nq : Nat, KS w0 B g h A c (wb.drewN nq) ∧ Blk (wb.drewN nq) k 61 [.int .u8 op, .int .u8 (d : Int), .int .u8 (a : Int), .int .u8 (b : Int), .int .u32 im]) := Lib.hid fun nq => ⟨HS.out.below (below_drewN _ _), HB.out.below (below_drewN wb nq) HB.out.lt⟩
  go_enter Tryz.func38, Tryz.ntmps38
  go_upto_region 1 with (fail)
  rw [← HW.out, ← HK0.out]
  go_quiet (fail)
  have HS1 := Lib.hid (go.out nq).1
  have HB1 := Lib.hid (go.out nq).2
  clear go HS HB ca c2 c4 a16 hwr HW HK0
  rcases hop with ⟨rfl, rfl⟩ | ⟨rfl, rfl⟩
  · go_upto_region 6 with (fail)
    replace HS1 := Lib.hid HS1.out.drew
    replace HB1 := Lib.hid HB1.out.drew
    have hS1 := HC.out _ _ HS1.out HB1.out
    clear c0
    go_region_held3 (fun w' => w'.cell? ⟨k, 3, none⟩ = some (.int .u8 (b : Int)) ∧ w'.cell? ⟨h, b, none⟩ = some (.int .u32 Y))
      (first | exact hS1 | exact hS2 | exact hS3)
      ((first
        | (go_at_call 73; refine (HBy.out _).mono ?_; rintro r w2 ⟨rfl, q2⟩; have HS2 := Lib.hid (HS1.out.below q2); have HB2 := Lib.hid (HB1.out.below q2 HB1.out.lt); have hS2 := HC.out _ _ HS2.out HB2.out; clear q2)
        | (go_at_call 30; refine (HP.out _ HS2.out HB2.out).mono ?_; rintro r w3 ⟨rfl, s3, b3⟩; have HS3 := Lib.hid s3; have hS3 := HC.out _ _ s3 b3; clear s3 b3)))
    go_wp2
    go_ret
    exact ⟨rfl, HS3.out⟩
  · go_upto_region 6 with (fail)
    replace HS1 := Lib.hid HS1.out.drew
    replace HB1 := Lib.hid HB1.out.drew
    have hS1 := HC.out _ _ HS1.out HB1.out
    clear c0
    go_region_held3 (fun w' => w'.cell? ⟨k, 3, none⟩ = some (.int .u8 (b : Int)) ∧ w'.cell? ⟨h, b, none⟩ = some (.int .u32 Y))
      (first | exact hS1 | exact hS2 | exact hS3)
      ((first
        | (go_at_call 73; refine (HBy.out _).mono ?_; rintro r w2 ⟨rfl, q2⟩; have HS2 := Lib.hid (HS1.out.below q2); have HB2 := Lib.hid (HB1.out.below q2 HB1.out.lt); have hS2 := HC.out _ _ HS2.out HB2.out; clear q2)
        | (go_at_call 30; refine (HP.out _ HS2.out HB2.out).mono ?_; rintro r w3 ⟨rfl, s3, b3⟩; have HS3 := Lib.hid s3; have hS3 := HC.out _ _ s3 b3; clear s3 b3)))
    go_wp2
    go_ret
    exact ⟨rfl, HS3.out⟩
end
end Go.Proofs.YtgdbhmlmioihpaaGreatDoor
end
