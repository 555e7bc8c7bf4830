/- The document's own Put: the same as the program's. -/
import Derived.Test.YtgdbhmlmioihpaaDoorX14
import Derived.Test.YtgdbhmlmioihpaaDoorX05
import Derived.StillTailTactics
set_option linter.unusedVariables false
namespace Go.Proofs.YtgdbhmlmioihpaaDoor
open Go.RowKit Go.Maps

theorem Blk.ne {w : World} {j k : Nat} {t u : TypeId} {cs ds : List Value} (h1 : Blk w j t cs) (h2 : Blk w k u ds) (ht : t ≠ u) : j ≠ k := by
  rintro rfl
  unfold Blk at h1 h2
  rw [h1] at h2
  injection h2 with h2
  injection h2 with _ h2
  exact ht h2
theorem map_inj {α β : Type} (f : α → β) : ∀ (l : List α), (l.map f).Nodup → ∀ a b, a ∈ l → b ∈ l → f a = f b → a = b
  | [], _, _, _, h, _, _ => by cases h
  | x :: r, hn, a, b, ha, hb, hf => by
    have h1 := List.nodup_cons.1 (show (f x :: r.map f).Nodup from hn)
    rcases List.mem_cons.1 ha with ha1 | ha1
    · rcases List.mem_cons.1 hb with hb1 | hb1
      · rw [ha1, hb1]
      · exact absurd (List.mem_map.2 ⟨b, hb1, by rw [← hf, ha1]⟩) h1.1
    · rcases List.mem_cons.1 hb with hb1 | hb1
      · exact absurd (List.mem_map.2 ⟨a, ha1, by rw [hf, hb1]⟩) h1.1
      · exact map_inj f r h1.2 a b ha1 hb1 hf
theorem RefP.uniq {w : World} {B g c : Nat} {a : Option Addr} {L : List RP} {A : As} (h : RefP w B g a c L A) {x y : RP} (hx : x ∈ L) (hy : y ∈ L) (hi : x.i = y.i) : x = y :=
  map_inj (fun z : RP => z.i) L (List.Pairwise.imp (fun h => by omega) h.up) x y hx hy hi
theorem bcs_put (f : Pg) (i r : Nat) (b : UInt8) (hr : r < 256) : (bcs f).set r (.int .u8 (b.toNat : Int)) = bcs (putPg f i (256 * i + r) [b]) := by
  apply List.ext_getElem?
  intro j
  by_cases hj : j < 256
  · rw [bcs_get _ _ hj, List.getElem?_set, bcs_length]
    unfold putPg
    by_cases hjr : r = j
    · subst hjr
      rw [if_pos rfl, if_pos hr, if_pos (by simp; omega)]
      simp
    · rw [if_neg hjr, bcs_get _ _ hj, if_neg (by simp; omega)]
  · rw [List.getElem?_eq_none (by rw [List.length_set, bcs_length]; omega), List.getElem?_eq_none (by rw [bcs_length]; omega)]
theorem RefP.store {w : World} {B g c : Nat} {a : Option Addr} {L : List RP} {A : As} (h : RefP w B g a c L A) {e : RP} (he : e ∈ L) {f : Pg} (hA : A e.i = some f) {r : Nat} (hr : r < 256) (b : UInt8) :
    RefP (w.setCell ⟨e.q, r, none⟩ (.int .u8 (b.toNat : Int))) B g a c L (upd A e.i (some (putPg f e.i (256 * e.i + r) [b]))) ∧ RTurn B w (w.setCell ⟨e.q, r, none⟩ (.int .u8 (b.toNat : Int))) := by
  obtain ⟨f0, hA0, hp⟩ := h.page e he
  have hf : f0 = f := by rw [hA] at hA0; exact (Option.some.inj hA0).symm
  subst hf
  have hfar : ∀ j t cs, Blk w j t cs → t ≠ 5 → Blk (w.setCell ⟨e.q, r, none⟩ (.int .u8 (b.toNat : Int))) j t cs := fun j t cs hb ht => hb.far (p := ⟨e.q, r, none⟩) (hb.ne hp.bytes ht) _
  refine ⟨⟨h.gB, hfar _ _ _ h.head (by decide), ?_, h.up, fun i hi => h.has i ?_, fun y hy => ?_, h.apart⟩, RTurn.setCell hp.bytes hp.low _⟩
  · rcases h.row with h1 | ⟨k, R, h1, h2⟩
    · exact .inl h1
    · exact .inr ⟨k, R, h1, hfar _ _ _ h2 (by decide)⟩
  · unfold upd at hi
    by_cases hie : i = e.i
    · subst hie; rw [hA]; rfl
    · rw [if_neg hie] at hi; exact hi
  · obtain ⟨fy, hy1, hy2⟩ := h.page y hy
    by_cases hye : y = e
    · subst hye
      refine ⟨_, by unfold upd; rw [if_pos rfl], hy2.lt, ?_, ?_, hy2.low⟩
      · have := hfar _ _ _ hp.head (by decide)
        have h256 : (putPg f0 y.i (256 * y.i + r) [b]) 256 = f0 256 := by unfold putPg; rw [if_neg (by omega)]
        rw [h256]
        exact this
      · have := hp.bytes.set_ r (.int .u8 (b.toNat : Int))
        rw [List.set_append_left _ _ (by rw [bcs_length]; exact hr), bcs_put f0 y.i r b hr] at this
        exact this
    · have hi : y.i ≠ e.i := fun hi => hye (h.uniq hy he hi)
      have hq : y.q ≠ e.q := fun hq => hye (map_inj (fun z : RP => z.q) L h.apart y e hy he hq)
      exact ⟨fy, by unfold upd; rw [if_neg hi]; exact hy1, hy2.lt, hfar _ _ _ hy2.head (by decide), hy2.bytes.far (p := ⟨e.q, r, none⟩) hq _, hy2.low⟩

set_option maxHeartbeats 4000000 in
set_option maxRecDepth 100000 in
theorem rput_loop (B g c : Nat) (a : Option Addr) (L : List RP) (A : As) (x need : Nat) (s : ByteArray) (hx : x < 4294967296) (hs : s.size ≤ 65536) (hn : need < 8) (E : Int) (A2 : As)
    (hy : okAll A need x s.size = true → E = 0 ∧ A2 = putAt A x s.data.toList) (hno : okAll A need x s.size = false → E = 50 ∧ A2 = A) (w : World) (h : RefP w B g a c L A) :
    Calls Tryd.prog 41 #[.pointer (some ⟨g, 0, none⟩), .int .u32 (x : Int), .string s, .int .u8 (need : Int)] w fun r w' => r = .returned (.int .i64 E) ∧ RefAt w' B g A2 ∧ RTurn B w w' := by
  have H := Lib.hid h
  have HY := Lib.hid hy
  have HNo := Lib.hid hno
  have HX := Lib.hid hx
  have HN := Lib.hid hn
  obtain ⟨M, hM⟩ : ∃ M, M = s.size := ⟨_, rfl⟩
  have HM : Hid (M = s.size ∧ M ≤ 65536) := Lib.hid ⟨hM, by omega⟩
  have m1 : IntKind.u64.wrap (x : Int) = (x : Int) := by rw [IntKind.wrap_u64]; omega
  have hsz : (s.size : Int) = (M : Int) := by rw [hM]
  clear h hy hno hx hs hn hM
  go_enter Tryd.func41, Tryd.ntmps41
  go_wp2_with fail
  go_loopw [9] (fun v wr => ∃ i : Nat, v = .int .i64 i ∧ Hid (i ≤ M) ∧ Hid (∀ k, k < i → okPg A need ((x + k) / 256) = true) ∧ wr = w) (fun v _ => M - (intOf v).toNat)
  case atStart => exact ⟨0, rfl, Lib.hid (Nat.zero_le _), Lib.hid (fun k hk => absurd hk (Nat.not_lt_zero _)), rfl⟩
  case round =>
    obtain ⟨i, rfl, HI, HK, rfl⟩ := hrel
    by_cases hlt : (i : Int) < (M : Int)
    · obtain ⟨t, ht⟩ : ∃ t, t = x + i := ⟨_, rfl⟩
      have HT := Lib.hid ht
      have m2 : IntKind.u64.wrap (i : Int) = (i : Int) := by rw [IntKind.wrap_u64]; have := HM.out; omega
      have m3 : IntKind.u64.wrap ((x : Int) + (i : Int)) = (t : Int) := by rw [IntKind.wrap_u64]; have := HM.out; have := HX.out; omega
      have htx : t < 1099511627776 := by have := HM.out; have := HX.out; omega
      have HTX := Lib.hid htx
      have HLT : Hid (i < M) := Lib.hid (by omega)
      have m6 : IntKind.i64.wrap ((i : Int) + 1) = (i : Int) + 1 := by rw [IntKind.wrap_i64]; have := HM.out; omega
      clear ht htx
      cases hA : A (t / 256) with
      | none =>
        have HC := Lib.hid (rof_none B g c a L A t HTX.out hA wr H.out)
        have hno : okAll A need x s.size = false := okAll_not (k := i) (by have := HM.out.1; have := HLT.out; omega) (by rw [← HT.out]; exact okPg_no hA)
        have HE := Lib.hid (HNo.out hno)
        clear hno hA
        go_wp2_with fail
        refine HC.out.mono ?_; rintro r w1 ⟨rfl, rfl⟩
        go_wp2
        go_ret
        exact ⟨by rw [HE.out.1]; rfl, by rw [HE.out.2]; exact ⟨_, _, _, H.out⟩, RTurn.refl _ _⟩
      | some f =>
        have HC := Lib.hid (rof_some B g c a L A t HTX.out f hA wr H.out)
        have HA := Lib.hid hA
        have hbm := bne_met need f HN.out
        have hok := okPg_is (need := need) hA
        clear hA
        go_wp2_with fail
        refine HC.out.mono ?_; rintro r w1 ⟨⟨e, he, hei, rfl⟩, rfl⟩
        obtain ⟨f2, hA2, hlt4, c0, c1, c2, cb⟩ := H.out.three he
        have hf : f2 = f := by rw [hei, HA.out] at hA2; exact (Option.some.inj hA2).symm
        subst hf
        obtain ⟨P, hP⟩ : ∃ P : Int, P = ((f2 256).toNat : Int) := ⟨_, rfl⟩
        rw [← hP] at c1 hbm
        clear hP hA2 he HC cb c0 c2 hei hlt4
        cases hmt : met need f2 with
        | false =>
          rw [hmt] at hbm hok
          have hbm2 : (bits BinOp.and IntKind.u8 P (need : Int) != (need : Int)) = true := hbm
          have hno : okAll A need x s.size = false := okAll_not (k := i) (by have := HM.out.1; have := HLT.out; omega) (by rw [← HT.out]; exact hok)
          have HE := Lib.hid (HNo.out hno)
          clear hno hok hbm hmt
          go_wp2
          go_ret
          exact ⟨by rw [HE.out.1]; rfl, by rw [HE.out.2]; exact ⟨_, _, _, H.out⟩, RTurn.refl _ _⟩
        | true =>
          rw [hmt] at hbm hok
          have hbm2 : (bits BinOp.and IntKind.u8 P (need : Int) != (need : Int)) = false := hbm
          have HK2 : Hid (∀ k, k < i + 1 → okPg A need ((x + k) / 256) = true) := Lib.hid fun k hk => by
            by_cases hki : k = i
            · subst hki; rw [← HT.out]; exact hok
            · exact HK.out k (by omega)
          have HI2 : Hid (i + 1 ≤ M) := Lib.hid (by have := HLT.out; omega)
          clear hok hbm hmt HK
          go_wp2
          go_roundw
          case rel => exact ⟨i + 1, by go_num, HI2, HK2, trivial⟩
          case measure => simp [intOf]; have := HLT.out; omega
    · have hok : okAll A need x s.size = true := (okAll_iff _ _ _ _).2 fun k hk => HK.out k (by have := HI.out; have := HM.out.1; omega)
      have HOK := Lib.hid hok
      have HE := Lib.hid (HY.out hok)
      have HR0 : Hid (RefP wr B g a c L (putAt A x (s.data.toList.take 0))) := Lib.hid (by rw [List.take_zero, putAt_nil]; exact H.out)
      have HT0 := Lib.hid (RTurn.refl wr B)
      clear hok HK HI
      go_wp2_with fail
      clear hlt
      obtain ⟨wo, hwo⟩ : ∃ wo, wo = wr := ⟨_, rfl⟩
      subst hwo
      go_loopw [11] (fun v wx => ∃ i : Nat, v = .int .i64 i ∧ Hid (i ≤ M) ∧ Hid (RefP wx B g a c L (putAt A x (s.data.toList.take i))) ∧ Hid (RTurn B wo wx)) (fun v _ => M - (intOf v).toNat)
      case atStart => exact ⟨0, rfl, Lib.hid (Nat.zero_le _), HR0, HT0⟩
      case round =>
        obtain ⟨i, rfl, HI, HR, HT1⟩ := hrel
        clear HR0 HT0
        by_cases hlt : (i : Int) < (M : Int)
        · obtain ⟨t, ht⟩ : ∃ t, t = x + i := ⟨_, rfl⟩
          have HT := Lib.hid ht
          have m2 : IntKind.u64.wrap (i : Int) = (i : Int) := by rw [IntKind.wrap_u64]; have := HM.out; omega
          have m3 : IntKind.u64.wrap ((x : Int) + (i : Int)) = (t : Int) := by rw [IntKind.wrap_u64]; have := HM.out; have := HX.out; omega
          have htx : t < 1099511627776 := by have := HM.out; have := HX.out; omega
          have HLT : Hid (i < M) := Lib.hid (by omega)
          have m6 : IntKind.i64.wrap ((i : Int) + 1) = (i : Int) + 1 := by rw [IntKind.wrap_i64]; have := HM.out; omega
          have hsome : (A (t / 256)).isSome = true := by
            rw [ht]
            exact okPg_has ((okAll_iff _ _ _ _).1 HOK.out i (by have := HM.out.1; have := HLT.out; omega))
          obtain ⟨f, hf⟩ := Option.isSome_iff_exists.1 (show (putAt A x (s.data.toList.take i) (t / 256)).isSome = true by rw [putAt_some]; exact hsome)
          have HC := Lib.hid (rof_some B g c a L _ t htx f hf wr HR.out)
          have HF := Lib.hid hf
          clear ht htx hsome hf
          go_wp2_with fail
          refine HC.out.mono ?_; rintro r w1 ⟨⟨e, he, hei, rfl⟩, rfl⟩
          obtain ⟨f2, hA2, hlt4, c0, c1, c2, cb⟩ := HR.out.three he
          have hf : f2 = f := by rw [hei, HF.out] at hA2; exact (Option.some.inj hA2).symm
          subst hf
          obtain ⟨y, hy⟩ : ∃ y : Int, y = 256 * (e.i : Int) := ⟨_, rfl⟩
          obtain ⟨r, hr⟩ : ∃ r : Nat, r = t % 256 := ⟨_, rfl⟩
          rw [← hy] at c0
          have m5 : IntKind.u64.wrap y = y := by rw [IntKind.wrap_u64]; omega
          have m4 : IntKind.u64.wrap ((t : Int) - y) = (r : Int) := by rw [IntKind.wrap_u64]; omega
          have hr2 : (r : Int) < 256 := by omega
          have cr := cb r (by omega)
          have hfz : w1.frozen? ⟨e.q, r, none⟩ = false := by
            obtain ⟨_, _, hp⟩ := HR.out.page e he
            exact hp.bytes.frozen r
          obtain ⟨b, hb⟩ : ∃ b : UInt8, b = s.data.toList.getD i 0 := ⟨_, rfl⟩
          obtain ⟨bv, hbv⟩ : ∃ bv : Int, bv = (b.toNat : Int) := ⟨_, rfl⟩
          have hix := run_index s i i rfl (by have := HM.out.1; have := HLT.out; omega) bv (by rw [hbv, hb]; rfl)
          have HST : Hid (RefP (w1.drew.setCell ⟨e.q, r, none⟩ (.int .u8 bv)) B g a c L (putAt A x (s.data.toList.take (i + 1))) ∧ RTurn B wo (w1.drew.setCell ⟨e.q, r, none⟩ (.int .u8 bv))) := Lib.hid (by
            have hdr : Below w1.heap.size w1 w1.drew := (Below.refl _ _).drew
            have h3 := (HR.out.below hdr).store he (by rw [hei]; exact HF.out) (r := r) (by omega) b
            have ht2 : t / 256 = (x + i) / 256 := by rw [HT.out]
            have hlen : (s.data.toList.take i).length = i := by
              rw [List.length_take, Array.length_toList]
              have : s.data.size = s.size := rfl
              have := HM.out.1; have := HLT.out; omega
            have e1 : putAt A x (s.data.toList.take (i + 1)) = upd (putAt A x (s.data.toList.take i)) e.i (some (putPg f2 e.i (256 * e.i + r) [b])) := by
              rw [take_snoc s.data.toList 0 i (by rw [Array.length_toList]; have : s.data.size = s.size := rfl; have := HM.out.1; have := HLT.out; omega), putAt_append, hlen, ← HT.out, ← hb]
              rw [putAt_one _ t [b] f2 HF.out (by simp; omega), hei, show 256 * (t / 256) + r = t by omega]
            rw [e1, hbv]
            exact ⟨h3.1, HT1.out.trans ((RTurn.ofBelow hdr B).trans h3.2)⟩)
          have HI2 : Hid (i + 1 ≤ M) := Lib.hid (by have := HLT.out; omega)
          clear hA2 hlt4 hei he hy hr hb hbv cb c1 HC HF HR HT1
          go_wp2_with fail
          go_still_tail 16, (by kernel_rfl)
          change wpList _ _ _ _ _ w1.drew
          have cr' : w1.drew.cell? ⟨e.q, r, none⟩ = some (.int .u8 ((f2 r).toNat : Int)) := cr
          have hfz' : w1.drew.frozen? ⟨e.q, r, none⟩ = false := hfz
          clear cr hfz c0 c2 hix
          go_wp2
          go_roundw
          case rel => exact ⟨i + 1, by go_num, HI2, Lib.hid HST.out.1, Lib.hid HST.out.2⟩
          case measure => simp [intOf]; have := HLT.out; omega
        · have HE2 : Hid (RefAt wr B g A2) := Lib.hid (by
            rw [HE.out.2]
            have h := HR.out
            rw [List.take_of_length_le (by rw [Array.length_toList]; have : s.data.size = s.size := rfl; have := HM.out.1; omega)] at h
            exact ⟨_, _, _, h⟩)
          go_wp2
          go_ret
          exact ⟨by rw [HE.out.1]; rfl, HE2.out, HT1.out⟩

theorem rput_any (B g : Nat) (A : As) (x need : Nat) (s : ByteArray) (hx : x < 4294967296) (hs : s.size ≤ 65536) (hn : need < 8) (w : World) (h : RefAt w B g A) :
    Calls Tryd.prog 41 #[.pointer (some ⟨g, 0, none⟩), .int .u32 (x : Int), .string s, .int .u8 (need : Int)] w fun r w' => r = .returned (.int .i64 (putE A need x s)) ∧ RefAt w' B g (putR A need x s) ∧ RTurn B w w' := by
  obtain ⟨a, c, L, h⟩ := h
  refine rput_loop B g c a L A x need s hx hs hn _ _ (fun h1 => ?_) (fun h1 => ?_) w h
  · exact ⟨by unfold putE; rw [if_pos h1], by unfold putR; rw [if_pos h1]⟩
  · exact ⟨by unfold putE; rw [if_neg (by rw [h1]; decide)], by unfold putR; rw [if_neg (by rw [h1]; decide)]⟩
end Go.Proofs.YtgdbhmlmioihpaaDoor
