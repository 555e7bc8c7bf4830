/- InsnBack answers true for every two instructions and every two numbers: what was encoded is decoded, and what was decoded is encoded as it stood. No condition beyond the card's own: the table of what ops use holds what the program's text lays. -/
import Derived.Test.YtillcbmjpcbpaaaDoorYB
import Derived.Test.YtillcbmjpcbpaaaDoorOI
import Derived.Test.YtillcbmjpcbpaaaDoorIT
import Derived.Test.YtillcbmjpcbpaaaDoorCards
import Derived.Test.YtillcbmjpcbpaaaDoorTie
import Derived.SevenTiedAt
import Derived.ShutString
import Derived.ChangeMaps5
set_option linter.unusedVariables false
namespace Go.Proofs.YtillcbmjpcbpaaaDoor
open Go Go.ChangeShapes Go.WideShapes Go.ChangeAt Go.RowKit

theorem text8 (W : World) (x0 x1 x2 x3 x4 x5 x6 x7 : Int) (h0 : 0 ≤ x0 ∧ x0 < 256) (h1 : 0 ≤ x1 ∧ x1 < 256) (h2 : 0 ≤ x2 ∧ x2 < 256) (h3 : 0 ≤ x3 ∧ x3 < 256) (h4 : 0 ≤ x4 ∧ x4 < 256) (h5 : 0 ≤ x5 ∧ x5 < 256) (h6 : 0 ≤ x6 ∧ x6 < 256) (h7 : 0 ≤ x7 ∧ x7 < 256) :
    (convert 43 9 (.slice (some ⟨W.heap.size, 0, none⟩) 8 8)).run Tryd.prog (W.alloc (.cells #[.int .u8 x0, .int .u8 x1, .int .u8 x2, .int .u8 x3, .int .u8 x4, .int .u8 x5, .int .u8 x6, .int .u8 x7] 5)) = .ok (.string ⟨([x0, x1, x2, x3, x4, x5, x6, x7].map ofI).toArray⟩) (W.alloc (.cells #[.int .u8 x0, .int .u8 x1, .int .u8 x2, .int .u8 x3, .int .u8 x4, .int .u8 x5, .int .u8 x6, .int .u8 x7] 5)) :=
  text_new W [x0, x1, x2, x3, x4, x5, x6, x7] (by
    intro x hx
    simp only [List.mem_cons, List.not_mem_nil, or_false] at hx
    rcases hx with rfl | rfl | rfl | rfl | rfl | rfl | rfl | rfl <;> assumption)

theorem errI_ok {op d a b im : Int} (h : errI op d a b im = 0) : Ix.insnOk op d a b im = true := by
  unfold errI Ix.err at h
  by_cases hk : Ix.insnOk op d a b im = true
  · exact hk
  · rw [if_neg hk] at h; omega
theorem errI_two (op d a b im : Int) : errI op d a b im = 0 ∨ errI op d a b im = 2 := by
  unfold errI Ix.err
  by_cases hk : Ix.insnOk op d a b im = true
  · rw [if_pos hk]; exact Or.inl rfl
  · rw [if_neg hk]; exact Or.inr rfl
theorem encS_bt {op d a b im : Int} (h : Ix.insnOk op d a b im = true) : bt (encS op d a b im) = Ix.bytes op d a b im := by
  unfold bt encS
  rw [Ix.enc_of_ok h]

/-- What was encoded is decoded. -/
theorem decode_enc {op d a b im : Int} (hf : Fits op d a b im) (h : Ix.insnOk op d a b im = true) : decV (encS op d a b im) = .agg #[.int .u8 op, .int .u8 d, .int .u8 a, .int .u8 b, .int .u32 im] ∧ decE (encS op d a b im) = 0 := by
  obtain ⟨⟨h0, h1⟩, ⟨d0, d1⟩, ⟨a0, a1⟩, ⟨b0, b1⟩, ⟨i0, i1⟩⟩ := hf
  obtain ⟨k0, k1, k2, k3, k4, k5⟩ := Ix.dec_bytes h0 h1 d0 a0 b0 b1 i0 i1 h
  unfold decV decE Ix.pick Ix.decE
  rw [encS_bt h, if_pos k0, if_pos k0, if_pos k0, if_pos k0, if_pos k0, if_pos k0, k1, k2, k3, k4, k5]
  exact ⟨rfl, rfl⟩

theorem back_any (op d a b im op' d' a' b' im' p q : Int) (hx : Fits op d a b im) (hy : Fits op' d' a' b' im') (p0 : 0 ≤ p) (p1 : p < 4294967296) (q0 : 0 ≤ q) (q1 : q < 4294967296) (w : World) (hk : Tabled w) :
    Calls Tryd.prog 5 #[.agg #[.int .u8 op, .int .u8 d, .int .u8 a, .int .u8 b, .int .u32 im], .agg #[.int .u8 op', .int .u8 d', .int .u8 a', .int .u8 b', .int .u32 im'], .int .u32 p, .int .u32 q] w fun e w' => e = .returned (.bool true) ∧ Below w.heap.size w w' := by
  obtain ⟨U, hU⟩ : ∃ U : ByteArray, U = ⟨([p % 256, p / 256 % 256, p / 65536 % 256, p / 16777216, q % 256, q / 256 % 256, q / 65536 % 256, q / 16777216].map ofI).toArray⟩ := ⟨_, rfl⟩
  have hsz : U.size = 8 := by rw [hU]; rfl
  refine back_walk op d a b im op' d' a' b' im' p q p0 p1 q0 q1 (encS op d a b im) (encS op' d' a' b' im') (errI op d a b im) (errI op' d' a' b' im') w (Lib.hid ⟨errI_two _ _ _ _ _, errI_two _ _ _ _ _⟩) (Lib.hid ?_) (Lib.hid hk) (Lib.hid ?_)
    U (Ix.pick (bt U) (Ix.dOp (bt U))) (Ix.pick (bt U) (Ix.dD (bt U))) (Ix.pick (bt U) (Ix.dA (bt U))) (Ix.pick (bt U) (Ix.dB (bt U))) (Ix.pick (bt U) (Ix.dI (bt U))) (decE U) (Lib.hid ?_) (Lib.hid ?_) (Lib.hid ?_) (Lib.hid ?_) (Lib.hid ?_) (Lib.hid ?_) (Lib.hid ?_)
  · intro h
    have hl : (bt (encS op d a b im)).length = 8 := by rw [encS_bt (errI_ok h), Ix.bytes_length]
    rw [bt_length] at hl
    omega
  · intro h1 h2
    have k1 := errI_ok h1
    have k2 := errI_ok h2
    constructor
    · intro e
      have e2 := congrArg bt e
      rw [encS_bt k1, encS_bt k2] at e2
      exact Ix.bytes_inj hx.1.1 hx.1.2 hx.2.1.1 hx.2.2.1.1 hx.2.2.2.1.1 hx.2.2.2.1.2 hx.2.2.2.2.1 hx.2.2.2.2.2 hy.1.1 hy.1.2 hy.2.1.1 hy.2.2.1.1 hy.2.2.2.1.1 hy.2.2.2.1.2 hy.2.2.2.2.1 hy.2.2.2.2.2 k1 k2 e2
    · rintro ⟨rfl, rfl, rfl, rfl, rfl⟩
      rfl
  · by_cases hd : Ix.decOk (bt U) = true
    · exact Or.inr (decE_yes U hd)
    · have hd' : Ix.decOk (bt U) = false := by simpa using hd
      refine Or.inl ⟨decE_no U hd', ?_⟩
      unfold Ix.pick
      rw [hd']
      exact ⟨rfl, rfl, rfl, rfl, rfl⟩
  · intro W
    rw [hU]
    exact text8 W _ _ _ _ _ _ _ _ (by omega) (by omega) (by omega) (by omega) (by omega) (by omega) (by omega) (by omega)
  · intro w hk
    exact idecode_any U w hk
  · intro hg w hk
    have hd : Ix.decOk (bt U) = true := by
      by_cases hd : Ix.decOk (bt U) = true
      · exact hd
      · rw [decE_no U (by simpa using hd)] at hg; omega
    have hio := Ix.decOk_iff (bt U) hsz
    rw [hd] at hio
    have hio2 := hio.symm
    rw [Bool.and_eq_true, decide_eq_true_eq] at hio2
    have hp : ∀ x, Ix.pick (bt U) x = x := fun x => by unfold Ix.pick; rw [if_pos hd]
    rw [hp, hp, hp, hp, hp]
    have l0 := Ix.byteAt_lo (bt U) 0
    have h0 := Ix.byteAt_hi (bt U) 0
    have l1 := Ix.byteAt_lo (bt U) 1
    have h1 := Ix.byteAt_hi (bt U) 1
    have l2 := Ix.byteAt_lo (bt U) 2
    have h2 := Ix.byteAt_hi (bt U) 2
    have d0 : 0 ≤ Ix.dD (bt U) ∧ Ix.dD (bt U) < 256 := by unfold Ix.dD; omega
    have a0 : 0 ≤ Ix.dA (bt U) ∧ Ix.dA (bt U) < 256 := by unfold Ix.dA; omega
    have hc := iencode_any (Ix.dOp (bt U)) (Ix.dD (bt U)) (Ix.dA (bt U)) (Ix.dB (bt U)) (Ix.dI (bt U)) l0 h0 d0.1 d0.2 a0.1 a0.2 l2 h2 (dI_lo _) (dI_hi U hsz) w hk
    have e1 : encS (Ix.dOp (bt U)) (Ix.dD (bt U)) (Ix.dA (bt U)) (Ix.dB (bt U)) (Ix.dI (bt U)) = U := by
      unfold encS
      exact ByteArray.ext (congrArg List.toArray hio2.2)
    rw [e1, errI_yes _ _ _ _ _ hio2.1] at hc
    exact hc
  · intro w hk
    exact iencode_any op d a b im hx.1.1 hx.1.2 hx.2.1.1 hx.2.1.2 hx.2.2.1.1 hx.2.2.1.2 hx.2.2.2.1.1 hx.2.2.2.1.2 hx.2.2.2.2.1 hx.2.2.2.2.2 w hk
  · intro w hk
    exact iencode_any op' d' a' b' im' hy.1.1 hy.1.2 hy.2.1.1 hy.2.1.2 hy.2.2.1.1 hy.2.2.1.2 hy.2.2.2.1.1 hy.2.2.2.1.2 hy.2.2.2.2.1 hy.2.2.2.2.2 w hk
  · intro h w hk
    have hc := idecode_any (encS op d a b im) w hk
    obtain ⟨e1, e2⟩ := decode_enc hx (errI_ok h)
    rw [e1, e2] at hc
    exact hc

/-- The door's own heap meets the condition. -/
theorem door_met (os : Os) (args : Array Value) : laidMetH Tryd.prog Rows.insnBackRow.laid ((World.doorLaid Tryd.prog 400 os).forCall (fun _ _ => 0) ⟨#[], args, []⟩).memory :=
  laidMetH_of_parts3 (fuel := 8) (laidMet_of_run' 8 (by kernel_rfl) (by kernel_rfl)) (by kernel_rfl) (by kernel_rfl)

set_option maxRecDepth 100000 in
theorem back_lifted (os : Os) (started : os.Started) (H : Type) (enc : TypeId × Value → H) :
    ReturnsInHanded {} Tryd.checked os 5 .any (fun w args => (Rows.insnBackSpec.pre enc Tryd.prog Tryd.f5 [] false w args ∧ laidMetH Tryd.prog Rows.insnBackRow.laid w) ∧ sizedMet enc Tryd.prog Tryd.f5 (OpenSpec.ofChange Rows.insnBackSpec) false w args)
      (Rows.insnBackSpec.post enc Tryd.prog Tryd.f5 false true false false) := by
  refine returnsInHanded_of_change_and (C := Tryd.checked) (X := fun w _ => laidMetH Tryd.prog Rows.insnBackRow.laid w) (fun _ _ _ hh h => h.of_heap hh) own started (by kernel_rfl) Tryd.func5
    (ChangeSpec.witness_shaped (enc := enc) (C := Tryd.checked) (os := os) (X := fun w _ => laidMetH Tryd.prog Rows.insnBackRow.laid w) false (World.doorLaid Tryd.prog 400 os) #[.agg #[.int .u8 0, .int .u8 0, .int .u8 0, .int .u8 0, .int .u32 0], .agg #[.int .u8 0, .int .u8 0, .int .u8 0, .int .u8 0, .int .u32 0], .int .u32 0, .int .u32 0] 8 rfl (World.shaped_of_RefB (by kernel_rfl) (by kernel_rfl)) (by kernel_rfl) (by kernel_rfl) (by kernel_rfl) (door_met os _)) ?_
  intro W base args ds gs before hval0 hW _ _ hL _
  have hval : ∀ (j : Nat) t v, Tryd.f5.params[j]? = some t → args[j]? = some v → Value.okWide Tryd.prog W .any base t v := hval0
  have hW' := hW
  obtain ⟨p, q, hA0, hV, rfl, hfz, hnd⟩ := hW
  have hA : DataW.TrodAll enc Tryd.prog W 0 (fun _ => true) true Tryd.f5.params.toList args.toList ds p := hA0
  rw [Tryd.params5] at hA hval
  obtain ⟨v0, vs0, d0, ds0, p0, q0, hargs, rfl, rfl, h0, r0⟩ := trodAll_cons hA
  obtain ⟨v1, vs1, d1, ds1, p1, q1, rfl, rfl, rfl, h1, r1⟩ := trodAll_cons r0
  obtain ⟨v2, vs2, d2, ds2, p2, q2, rfl, rfl, rfl, h2, r2⟩ := trodAll_cons r1
  obtain ⟨v3, vs3, d3, ds3, p3, q3, rfl, rfl, rfl, h3, r3⟩ := trodAll_cons r2
  obtain ⟨rfl, rfl, rfl⟩ := trodAll_nil r3
  obtain rfl : args = #[v0, v1, v2, v3] := by cases args; simp_all
  obtain ⟨rfl, rfl⟩ := trodVars_none hV
  obtain ⟨op, d, a, b, im, rfl, rfl, rfl, w0⟩ := open_insn (hval 0 24 v0 rfl rfl) h0
  obtain ⟨op', d', a', b', im', rfl, rfl, rfl, w1⟩ := open_insn (hval 1 24 v1 rfl rfl) h1
  obtain ⟨a2, rfl, rfl, rfl, w2⟩ := open_int Tryd.underlying22 (hval 2 22 v2 rfl rfl) h2
  obtain ⟨a3, rfl, rfl, rfl, w3⟩ := open_int Tryd.underlying22 (hval 3 22 v3 rfl rfl) h3
  clear hA0 hval0
  simp only [List.append_nil] at hW'
  have f2 := fits_u32 w2
  have f3 := fits_u32 w3
  refine (back_any op d a b im op' d' a' b' im' a2 a3 w0 w1 f2.1 f2.2 f3.1 f3.2 W (tabled_of_laid hL)).mono fun e W' ⟨he, hb⟩ => ?_
  subst he
  exact ⟨_, rfl, law_post hW' rfl rfl rfl Tryd.underlying4 (fun sp => (trodAll_cons_mk (shut_insn w0) (trodAll_cons_mk (shut_insn w1) (trodAll_cons_mk (shut_int Tryd.underlying22 w2) (trodAll_cons_mk (shut_int Tryd.underlying22 w3) trodAll_mk0))))) hb⟩

theorem back_row : Rows.InsnBackSaid :=
  OpenClaim.holds_of_wide 5 Tryd.f5 rfl rfl rfl rfl rfl rfl rfl ⟨rfl, rfl, rfl, rfl, rfl⟩ rfl rfl rfl rfl rfl (by kernel_rfl) Tryd.func5 (by kernel_rfl)
    (of_decide_eq_true (by kernel_rfl)) (by unfold Func.isWrapper; first | (rw [if_pos (by decide +kernel)]; kernel_rfl) | (rw [if_neg (by decide +kernel)]; exact ⟨rfl, rfl⟩))
    (fun os started H enc _ => back_lifted os started H enc)

theorem insnBack_holds : Rows.InsnBackCardSaid :=
  Claim7.holds_tied_plain_at .later [] [.data] true Rows.insnBackCard.stood.harness false
    back_row (fun _ h => by cases h) (by kernel_rfl) (fun _ h => by cases h) insnBack_row_tie rfl ⟨rfl, rfl⟩ (by kernel_rfl) rfl
    (fun f fn hf hfn => by
      obtain rfl : f = 5 := Option.some.inj ((show Tryd.prog.funcNamed "aedicule/aediculelaw04.InsnBack" = some 5 by kernel_rfl).symm.trans hf) |>.symm
      obtain rfl : fn = Tryd.f5 := (Option.some.inj (Tryd.func5.symm.trans hfn)).symm
      exact ⟨by kernel_rfl, fun j t ht => by
        rw [Tryd.params5] at ht
        have h3 : t = 24 ∨ t = 22 := by
          rcases j with _ | _ | _ | _ | j
          · left; simpa using ht.symm
          · left; simpa using ht.symm
          · right; simpa using ht.symm
          · right; simpa using ht.symm
          · simp at ht
        rcases h3 with rfl | rfl
        · exact (show Tryd.prog.wantsStandIn 24 = false by kernel_rfl)
        · exact (show Tryd.prog.wantsStandIn 22 = false by kernel_rfl)⟩)
    (by kernel_rfl)
#print axioms insnBack_holds
end Go.Proofs.YtillcbmjpcbpaaaDoor
