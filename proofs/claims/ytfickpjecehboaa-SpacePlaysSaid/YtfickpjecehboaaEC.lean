/- The document's own Get: the same as the program's. -/
import Derived.Test.YtfickpjecehboaaEB
import Derived.Test.YtfickpjecehboaaSQ
import Derived.Test.YtfickpjecehboaaSF
import Derived.Test.YtfickpjecehboaaQU
import Derived.OwnWalk
import Derived.BigQuiet
import Derived.Maps.AppendAt
import Derived.Laws.AppendOwn
set_option linter.unusedVariables false
namespace Go.Proofs.Ytfickpjecehboaa
open Go.RowKit Go.Maps

theorem bne_met (need : Nat) (f : Pg) (hn : need < 8) : (bits BinOp.and IntKind.u8 ((f 256).toNat : Int) (need : Int) != (need : Int)) = !met need f := by
  rw [bne, bits_met need f hn]
theorem drewN_drewN {B : Nat} {w0 w : World} (h : Below B w0 w) (n : Nat) : Below B w0 (w.drewN n) := ⟨h.os, h.tape, h.output, h.size, h.block⟩
theorem appU_below {B n : Nat} {t : TypeId} {l : List Value} {v : Value} {w wr w1 : World} {X : Obj} (hb : Below B w wr) (hB : B ≤ wr.heap.size) (hown : wr.ownsRow B t 1 v n l) (hg : (wr.alloc X).grownBy w1 v.ownBlock) : Below B w w1 :=
  (hb.alloc hB X).grown hg (by simp; omega) (fun k hk => (hown.lt k hk).1)
theorem bytesAt_one (A : As) (x i : Nat) : bytesAt A x (i + 1) = bytesAt A x i ++ [byteAt A (x + i)] := by
  rw [bytesAt_add]; rfl
theorem okPg_is {A : As} {need i : Nat} {f : Pg} (h : A i = some f) : okPg A need i = met need f := by unfold okPg; rw [h]
theorem okPg_no {A : As} {need i : Nat} (h : A i = none) : okPg A need i = false := by unfold okPg; rw [h]
theorem okAll_not {A : As} {need x n k : Nat} (hk : k < n) (h : okPg A need ((x + k) / 256) = false) : okAll A need x n = false := by
  cases h2 : okAll A need x n
  · rfl
  · rw [okAll_iff] at h2
    rw [h2 k hk] at h
    cases h

set_option maxHeartbeats 4000000 in
set_option maxRecDepth 100000 in
theorem rget_loop (B g c : Nat) (a : Option Addr) (L : List RP) (A : As) (x M need : Nat) (hx : x < 4294967296) (hM : M ≤ 1048576) (hn : need < 8) (S : ByteArray) (E : Int) (hy : okAll A need x M = true → S = ⟨(bytesAt A x M).toArray⟩ ∧ E = 0) (hno : okAll A need x M = false → S = ⟨#[]⟩ ∧ E = 50) (w : World) (h : RefP w B g a c L A) :
    Calls Try.prog 29 #[.pointer (some ⟨g, 0, none⟩), .int .u32 (x : Int), .int .i64 (M : Int), .int .u8 (need : Int)] w fun r w' => r = .returned (.tuple #[.string S, .int .i64 E]) ∧ Below w.heap.size w w' := by
  have H := Lib.hid h
  have HY := Lib.hid hy
  have HNo := Lib.hid hno
  have HX := Lib.hid hx
  have HM := Lib.hid hM
  have HN := Lib.hid hn
  obtain ⟨W0, hW0⟩ : ∃ W0, W0 = w.heap.size := ⟨_, rfl⟩
  have HW0 := Lib.hid hW0
  rw [← hW0]
  have hm1 : ¬ (M : Int) < 0 := by omega
  have hm2 : ¬ (1048576 : Int) < (M : Int) := by omega
  obtain ⟨i0, hi, hz0, hz1, hz2⟩ := info_parts info_u8
  have m1 : IntKind.u64.wrap (x : Int) = (x : Int) := by rw [IntKind.wrap_u64]; omega
  have HO0 := Lib.hid (World.ownsRow_nil w W0 5 1)
  have HB0 := Lib.hid (show Below W0 w w by rw [hW0]; exact Below.refl _ _)
  clear h hx hM hn hW0 hy hno
  go_enter Try.func29, Try.ntmps29
  go_wp2_with fail
  clear hm1 hm2
  go_loopw [10, 11] (fun v10 v11 wr => ∃ (i : Nat) (z : Value), v11 = .int .i64 i ∧ z = v10 ∧ Hid (i ≤ M) ∧ Hid (wr.ownsRow W0 5 1 z i (Lib.byteCells (bytesAt A x i))) ∧ Hid (Below W0 w wr) ∧ Hid (∀ k, k < i → okPg A need ((x + k) / 256) = true)) (fun _ v _ => M - (intOf v).toNat)
  case atStart => exact ⟨0, _, rfl, rfl, Lib.hid (Nat.zero_le _), HO0, HB0, Lib.hid (fun k hk => absurd hk (Nat.not_lt_zero _))⟩
  case round =>
    obtain ⟨i, z, rfl, rfl, HI, HO, HB, HK⟩ := hrel
    clear HO0 HB0
    have Hr : Hid (RefP wr B g a c L A) := Lib.hid (H.out.below (by rw [← HW0.out]; exact HB.out))
    by_cases hlt : (i : Int) < (M : Int)
    · obtain ⟨t, ht⟩ : ∃ t, t = x + i := ⟨_, rfl⟩
      have HT := Lib.hid ht
      have m2 : IntKind.u64.wrap (i : Int) = (i : Int) := by rw [IntKind.wrap_u64]; have := HM.out; omega
      have m3 : IntKind.u64.wrap ((x : Int) + (i : Int)) = (t : Int) := by rw [IntKind.wrap_u64]; have := HM.out; have := HX.out; omega
      have htx : t < 1099511627776 := by have := HM.out; have := HX.out; omega
      have HTX := Lib.hid htx
      have HLT : Hid (i < M) := Lib.hid (by omega)
      clear ht htx
      cases hA : A (t / 256) with
      | none =>
        have HC := Lib.hid (rof_none B g c a L A t HTX.out hA wr Hr.out)
        have hno : okAll A need x M = false := okAll_not HLT.out (by rw [← HT.out]; exact okPg_no hA)
        have HE := Lib.hid (HNo.out hno)
        clear hno hA hlt
        go_wp2_with fail
        refine HC.out.mono ?_; rintro r w1 ⟨rfl, rfl⟩
        go_wp2
        go_ret2
        exact ⟨by rw [HE.out.1, HE.out.2]; rfl, HB.out⟩
      | some f =>
        have HC := Lib.hid (rof_some B g c a L A t HTX.out f hA wr Hr.out)
        have HA := Lib.hid hA
        have hbm := bne_met need f HN.out
        have hok := okPg_is (need := need) hA
        clear hA hlt
        go_wp2_with fail
        refine HC.out.mono ?_; rintro r w1 ⟨⟨e, he, hei, rfl⟩, rfl⟩
        obtain ⟨f2, hA2, hlt4, c0, c1, c2, cb⟩ := Hr.out.three he
        have hf : f2 = f := by rw [hei, HA.out] at hA2; exact (Option.some.inj hA2).symm
        subst hf
        obtain ⟨P, hP⟩ : ∃ P : Int, P = ((f2 256).toNat : Int) := ⟨_, rfl⟩
        rw [← hP] at c1 hbm
        clear hP hA2 he HC
        cases hmt : met need f2 with
        | false =>
          rw [hmt] at hbm hok
          have hbm2 : (bits BinOp.and IntKind.u8 P (need : Int) != (need : Int)) = true := hbm
          have hno : okAll A need x M = false := okAll_not HLT.out (by rw [← HT.out]; exact hok)
          have HE := Lib.hid (HNo.out hno)
          clear hno hok hbm hmt cb c0 c2 hei hlt4
          go_wp2
          go_ret2
          exact ⟨by rw [HE.out.1, HE.out.2]; rfl, HB.out⟩
        | true =>
          rw [hmt] at hbm hok
          have hbm2 : (bits BinOp.and IntKind.u8 P (need : Int) != (need : Int)) = false := hbm
          obtain ⟨y, hy⟩ : ∃ y : Int, y = 256 * (e.i : Int) := ⟨_, rfl⟩
          obtain ⟨r, hr⟩ : ∃ r : Nat, r = t % 256 := ⟨_, rfl⟩
          rw [← hy] at c0
          have m5 : IntKind.u64.wrap y = y := by rw [IntKind.wrap_u64]; omega
          have m4 : IntKind.u64.wrap ((t : Int) - y) = (r : Int) := by rw [IntKind.wrap_u64]; omega
          have hr2 : (r : Int) < 256 := by omega
          have cr := cb r (by omega)
          obtain ⟨bv, hbv⟩ : ∃ bv : Nat, bv = (f2 r).toNat := ⟨_, rfl⟩
          rw [← hbv] at cr
          have HBV : Hid (Lib.byteCells (bytesAt A x (i + 1)) = Lib.byteCells (bytesAt A x i) ++ [.int .u8 (bv : Int)]) := Lib.hid (by
            have e1 : byteAt A (x + i) = f2 r := by
              rw [← HT.out]; unfold byteAt; rw [HA.out, hr]
            rw [bytesAt_one, e1, hbv, Lib.byteCells_append]
            rfl)
          have HK2 : Hid (∀ k, k < i + 1 → okPg A need ((x + k) / 256) = true) := Lib.hid fun k hk => by
            by_cases hki : k = i
            · subst hki; rw [← HT.out]; exact hok
            · exact HK.out k (by omega)
          have m6 : IntKind.i64.wrap ((i : Int) + 1) = (i : Int) + 1 := by rw [IntKind.wrap_i64]; have := HM.out; have := HLT.out; omega
          have hWs : Hid (W0 ≤ w1.heap.size) := Lib.hid (by rw [HW0.out]; exact HB.out.size)
          clear hok hbm hmt cb hei hlt4 hy hr hbv HK
          go_wp2_with fail
          refine wp_region_quiet_tail_one 17 z (by kernel_rfl) (by kernel_rfl) rfl (fun _ _ _ h => h) (fun w => BigFrame.run_move (.tmp 10) rfl w) ?_
          simp only [List.take_succ_cons, List.take_zero, List.drop_succ_cons, List.drop_zero, Act.put, List.setIfInBounds_toArray, List.set_cons_zero, List.set_cons_succ]
          repeat (go_big_quiet_step (fail))
          refine wpQuiet_nil ?_
          intro _ hw'
          obtain ⟨nq, hw''⟩ := hw'
          subst hw''
          obtain ⟨wq, hwq⟩ : ∃ wq, wq = w1.drewN nq := ⟨_, rfl⟩
          have Hown2 : Hid (wq.ownsRow W0 5 1 z i (Lib.byteCells (bytesAt A x i))) := by rw [hwq]; exact HO
          have hb2 : Below W0 w wq := by rw [hwq]; exact drewN_drewN HB.out nq
          have hBq : W0 ≤ wq.heap.size := by rw [hwq]; exact hWs.out
          rw [← hwq]
          have K3 : Hid (i + 1 ≤ maxLen) := Lib.hid (by unfold maxLen; have := HM.out; have := HLT.out; omega)
          have K4 : Hid ((i + 1) * 1 ≤ 140737488355328) := Lib.hid (by have := HM.out; have := HLT.out; omega)
          clear hwq HO HB
          go_wp2_with (at_builtin; refine wpList_append_own _ rfl (.tmp 43) (.tmp 61) 52 rfl W0 5 i0 (.int .u8 0) 1 1 Try.underlying52 hi hz0 hz1 hz2 rfl (by decide) _ _ _ rfl (Hown2.out.alloc _) ⟨wq.heap.size, 0, none⟩ 1 1 [.int .u8 (bv : Int)] rfl rfl ?c1 ?c2 K3.out K4.out ?c5 ?_)
          case c1 => exact World.news_of_block (cs := #[.int .u8 (bv : Int)]) (t := 5) (fr := (0, 0)) (heap_alloc_new wq _)
          case c2 => intro u hu; simp only [List.mem_cons, List.not_mem_nil, or_false] at hu; rcases hu with rfl; rfl
          case c5 => simp; omega
          intro z' w2 hown' hgrow' _
          have hb3 := Lib.hid (appU_below hb2 hBq Hown2.out hgrow')
          have HO2 : Hid (w2.ownsRow W0 5 1 z' (i + 1) (Lib.byteCells (bytesAt A x (i + 1)))) := Lib.hid (by
            rw [HBV.out]
            exact hown')
          have HI2 : Hid (i + 1 ≤ M) := Lib.hid (by have := HLT.out; omega)
          clear hown' hgrow' Hown2 hb2 K3 K4
          go_wp2
          go_roundw
          case rel => exact ⟨i + 1, z', by go_num, rfl, HI2, HO2, hb3, HK2⟩
          case measure => simp [intOf]; have := HLT.out; omega
    · obtain rfl : i = M := by have := HI.out; omega
      have hok : okAll A need x i = true := (okAll_iff _ _ _ _).2 HK.out
      have hconv := own_text (l := bytesAt A x i) (v := z) (w := wr) (B := W0) (by rw [bytesAt_length]; exact HO.out)
      have HE := Lib.hid (HY.out hok)
      rw [← HE.out.1] at hconv
      clear hok
      go_wp2
      go_ret2
      exact ⟨by rw [HE.out.2]; rfl, HB.out⟩

theorem rget_any (B g : Nat) (A : As) (x : Nat) (m : Int) (need : Nat) (hx : x < 4294967296) (hn : need < 8) (w : World) (h : RefAt w B g A) :
    Calls Try.prog 29 #[.pointer (some ⟨g, 0, none⟩), .int .u32 (x : Int), .int .i64 m, .int .u8 (need : Int)] w fun r w' => r = .returned (.tuple #[.string (getS A need x m), .int .i64 (getE A need x m)]) ∧ Below w.heap.size w w' := by
  obtain ⟨a, c, L, h⟩ := h
  by_cases hm : m < 0 ∨ 1048576 < m
  · have e : getE A need x m = 2 := by unfold getE; rw [if_pos hm]
    rw [getS_not (by rw [e]; decide), e]
    clear e
    rcases hm with h0 | h1
    · clear h hx hn
      go_enter Try.func29, Try.ntmps29
      go_wp2
      go_ret2
      exact ⟨rfl, Below.refl _ _⟩
    · clear h hx hn
      by_cases h0 : m < 0
      · omega
      go_enter Try.func29, Try.ntmps29
      go_wp2
      go_ret2
      exact ⟨rfl, Below.refl _ _⟩
  · obtain ⟨M, rfl⟩ : ∃ M : Nat, m = (M : Int) := ⟨m.toNat, by omega⟩
    refine rget_loop B g c a L A x M need hx (by omega) hn _ _ (fun h1 => ?_) (fun h1 => ?_) w h
    · have e : getE A need x (M : Int) = 0 := by unfold getE; rw [if_neg hm, Int.toNat_natCast, if_pos h1]
      exact ⟨by unfold getS; rw [if_pos e, Int.toNat_natCast], e⟩
    · have e : getE A need x (M : Int) = 50 := by unfold getE; rw [if_neg hm, Int.toNat_natCast, if_neg (by rw [h1]; decide)]
      exact ⟨by unfold getS; rw [if_neg (by rw [e]; decide)], e⟩
end Go.Proofs.Ytfickpjecehboaa
