/- InsnTells answers true for every instruction and every text: which instructions may be, which bytes each has, what its op uses, and which one any bytes are, as the document's own functions have it. No condition beyond the card's own: the table of what ops use holds what the program's text lays. -/
import Derived.Test.YtillcbmjpcbpaaaDoorYI
import Derived.Test.YtillcbmjpcbpaaaDoorOI
import Derived.Test.YtillcbmjpcbpaaaDoorIT
import Derived.Test.YtillcbmjpcbpaaaDoorCards
import Derived.Test.YtillcbmjpcbpaaaDoorTie
import Derived.SevenTiedAt
import Derived.ShutString
import Derived.ChangeMaps5
set_option linter.unusedVariables false
namespace Go.Proofs.YtillcbmjpcbpaaaDoor
open Go Go.ChangeShapes Go.WideShapes Go.ChangeAt Go.RowKit
open Go.ChangeMaps (open_string shut_string)

theorem tells_any (op d a b im : Int) (s : ByteArray) (hx : Fits op d a b im) (w : World) (hk : Tabled w) :
    Calls Tryd.prog 3 #[.agg #[.int .u8 op, .int .u8 d, .int .u8 a, .int .u8 b, .int .u32 im], .string s] w fun e w' => e = .returned (.bool true) ∧ Below w.heap.size w w' := by
  obtain ⟨⟨h0, h1⟩, ⟨d0, d1⟩, ⟨a0, a1⟩, ⟨b0, b1⟩, ⟨i0, i1⟩⟩ := hx
  by_cases hs : (s.size : Int) ≤ 100
  · have HE := Lib.hid fun w hk => iencode_any op d a b im h0 h1 d0 d1 a0 a1 b0 b1 i0 i1 w hk
    have HF := Lib.hid fun w => rencode_any op d a b im h0 h1 d0 d1 a0 a1 b0 b1 i0 i1 w
    have HC := Lib.hid fun w hk => icheck_any op d a b im h0 h1 d0 d1 a0 a1 b0 b1 w hk
    by_cases hop : Ix.isOp op = true
    · refine tells_op op d a b im _ _ _ _ _ _ _ (Ix.uD op) (Ix.uA op) (Ix.uB op) (Ix.uI op) s _ hs w (Lib.hid hk) HE HF (Lib.hid fun w hk => idecode_any s w hk) (Lib.hid fun w => rdecode_any s w) HC (Lib.hid fun w hk => ?_) (Lib.hid fun w => ?_)
      · have := uses_any op h0 h1 w hk
        unfold usesV usesE at this
        rw [hop] at this
        exact this
      · have := ruses_any op h0 h1 w
        unfold rU rrow at this
        rw [hop] at this
        exact this
    · have hop' : Ix.isOp op = false := by simpa using hop
      refine tells_none op d a b im _ _ _ _ _ _ _ true true true (Ix.uI op) s _ hs w (Lib.hid hk) HE HF (Lib.hid fun w hk => idecode_any s w hk) (Lib.hid fun w => rdecode_any s w) HC (Lib.hid fun w hk => ?_) (Lib.hid fun w => ?_)
      · have := uses_any op h0 h1 w hk
        unfold usesV usesE at this
        rw [hop'] at this
        exact this
      · have := ruses_any op h0 h1 w
        unfold rU rrow at this
        rw [hop'] at this
        exact this
  · exact tells_long op d a b im s (by omega) w hk

/-- The door's own heap meets the condition. -/
theorem door_met (os : Os) (args : Array Value) : laidMetH Tryd.prog Rows.insnTellsRow.laid ((World.doorLaid Tryd.prog 400 os).forCall (fun _ _ => 0) ⟨#[], args, []⟩).memory :=
  laidMetH_of_parts3 (fuel := 8) (laidMet_of_run' 8 (by kernel_rfl) (by kernel_rfl)) (by kernel_rfl) (by kernel_rfl)

set_option maxRecDepth 100000 in
theorem tells_lifted (os : Os) (started : os.Started) (H : Type) (enc : TypeId × Value → H) :
    ReturnsInHanded {} Tryd.checked os 3 .any (fun w args => (Rows.insnTellsSpec.pre enc Tryd.prog Tryd.f3 [] false w args ∧ laidMetH Tryd.prog Rows.insnTellsRow.laid w) ∧ sizedMet enc Tryd.prog Tryd.f3 (OpenSpec.ofChange Rows.insnTellsSpec) false w args)
      (Rows.insnTellsSpec.post enc Tryd.prog Tryd.f3 false true false false) := by
  refine returnsInHanded_of_change_and (C := Tryd.checked) (X := fun w _ => laidMetH Tryd.prog Rows.insnTellsRow.laid w) (fun _ _ _ hh h => h.of_heap hh) own started (by kernel_rfl) Tryd.func3
    (ChangeSpec.witness_shaped (enc := enc) (C := Tryd.checked) (os := os) (X := fun w _ => laidMetH Tryd.prog Rows.insnTellsRow.laid w) false (World.doorLaid Tryd.prog 400 os) #[.agg #[.int .u8 0, .int .u8 0, .int .u8 0, .int .u8 0, .int .u32 0], .string ByteArray.empty] 8 rfl (World.shaped_of_RefB (by kernel_rfl) (by kernel_rfl)) (by kernel_rfl) (by kernel_rfl) (by kernel_rfl) (door_met os _)) ?_
  intro W base args ds gs before hval0 hW _ _ hL _
  have hval : ∀ (j : Nat) t v, Tryd.f3.params[j]? = some t → args[j]? = some v → Value.okWide Tryd.prog W .any base t v := hval0
  have hW' := hW
  obtain ⟨p, q, hA0, hV, rfl, hfz, hnd⟩ := hW
  have hA : DataW.TrodAll enc Tryd.prog W 0 (fun _ => true) true Tryd.f3.params.toList args.toList ds p := hA0
  rw [Tryd.params3] at hA hval
  obtain ⟨v0, vs0, d0, ds0, p0, q0, hargs, rfl, rfl, h0, r0⟩ := trodAll_cons hA
  obtain ⟨v1, vs1, d1, ds1, p1, q1, rfl, rfl, rfl, h1, r1⟩ := trodAll_cons r0
  obtain ⟨rfl, rfl, rfl⟩ := trodAll_nil r1
  obtain rfl : args = #[v0, v1] := by cases args; simp_all
  obtain ⟨rfl, rfl⟩ := trodVars_none hV
  obtain ⟨op, d, a, b, im, rfl, rfl, rfl, w0⟩ := open_insn (hval 0 24 v0 rfl rfl) h0
  obtain ⟨s, rfl, rfl, rfl, w1⟩ := open_string Tryd.underlying9 (hval 1 9 v1 rfl rfl) h1
  clear hA0 hval0
  simp only [List.append_nil] at hW'
  refine (tells_any op d a b im s w0 W (tabled_of_laid hL)).mono fun e W' ⟨he, hb⟩ => ?_
  subst he
  exact ⟨_, rfl, law_post hW' rfl rfl rfl Tryd.underlying4 (fun sp => (trodAll_cons_mk (shut_insn w0) (trodAll_cons_mk (shut_string Tryd.underlying9 w1) trodAll_mk0))) hb⟩

theorem tells_row : Rows.InsnTellsSaid :=
  OpenClaim.holds_of_wide 3 Tryd.f3 rfl rfl rfl rfl rfl rfl rfl ⟨rfl, rfl, rfl, rfl, rfl⟩ rfl rfl rfl rfl rfl (by kernel_rfl) Tryd.func3 (by kernel_rfl)
    (of_decide_eq_true (by kernel_rfl)) (by unfold Func.isWrapper; first | (rw [if_pos (by decide +kernel)]; kernel_rfl) | (rw [if_neg (by decide +kernel)]; exact ⟨rfl, rfl⟩))
    (fun os started H enc _ => tells_lifted os started H enc)

theorem insnTells_holds : Rows.InsnTellsCardSaid :=
  Claim7.holds_tied_plain_at .later [] [.data] true Rows.insnTellsCard.stood.harness false
    tells_row (fun _ h => by cases h) (by kernel_rfl) (fun _ h => by cases h) insnTells_row_tie rfl ⟨rfl, rfl⟩ (by kernel_rfl) rfl
    (fun f fn hf hfn => by
      obtain rfl : f = 3 := Option.some.inj ((show Tryd.prog.funcNamed "aedicule/aediculelaw04.InsnTells" = some 3 by kernel_rfl).symm.trans hf) |>.symm
      obtain rfl : fn = Tryd.f3 := (Option.some.inj (Tryd.func3.symm.trans hfn)).symm
      exact ⟨by kernel_rfl, fun j t ht => by
        rw [Tryd.params3] at ht
        have h3 : t = 24 ∨ t = 9 := by
          rcases j with _ | _ | j
          · left; simpa using ht.symm
          · right; simpa using ht.symm
          · simp at ht
        rcases h3 with rfl | rfl
        · exact (show Tryd.prog.wantsStandIn 24 = false by kernel_rfl)
        · exact (show Tryd.prog.wantsStandIn 9 = false by kernel_rfl)⟩)
    (by kernel_rfl)
#print axioms insnTells_holds
end Go.Proofs.YtillcbmjpcbpaaaDoor
