/- DemandMay holds, for any manifests m and n and any note x: Check, Note, Covers, Same and Notes answer as the document does (of manifests that are not Large; else the example holds), and what came in stays. -/
import Derived.Test.YtmfebmiigkmkbaaFD
import Derived.Test.YtmfebmiigkmkbaaEH
set_option linter.unusedVariables false
namespace Go.Proofs.Ytmfebmiigkmkbaa
open Go Go.ChangeShapes Go.WideShapes Go.ChangeAt Go.RowKit Oj Dm

set_option maxRecDepth 100000 in
theorem demandMay_lifted (os : Os) (started : os.Started) (H : Type) (enc : TypeId × Value → H) :
    ReturnsInHanded {} Try.checked os 3 .any (Rows.demandMaySpec.pre6 enc Try.prog Try.f3 Rows.demandMayRow.domain false) (Rows.demandMaySpec.post enc Try.prog Try.f3 false true false false) := by
  refine returnsInHanded_of_change_sized (C := Try.checked) own started (by kernel_rfl) Try.func3
    (ChangeSpec.witness6 (enc := enc) (C := Try.checked) false ⟨#[], #[.agg #[.int .u32 0, .slice none 0 0, .slice none 0 0, .bool false], .agg #[.int .u32 0, .slice none 0 0, .slice none 0 0, .bool false], .agg #[.int .u8 0, .int .u32 0, .int .u32 0]], []⟩ 8 (by kernel_rfl) (by kernel_rfl) (by kernel_rfl) (by kernel_rfl)) ?_
  intro W base args ds gs before hval0 hW hcnd hsz0 _
  have hval : ∀ (j : Nat) t v, Try.f3.params[j]? = some t → args[j]? = some v → Value.okWide Try.prog W .any base t v := hval0
  have hsz : (DataW.weightsEach Try.prog (Try.f3.params.toList ++ Rows.demandMaySpec.plain.varTypes Try.prog) (ds ++ gs)).all (· ≤ reachBytes) = true := hsz0
  have hW' := hW
  obtain ⟨p, q, hA0, hV, rfl, hfz, hnd⟩ := hW
  have hA : DataW.TrodAll enc Try.prog W 0 (fun _ => true) true Try.f3.params.toList args.toList ds p := hA0
  rw [Try.params3] at hA hval hsz
  obtain ⟨v0, vs0, d0, ds0, p0, q0, hargs, rfl, rfl, h0, r0⟩ := trodAll_cons hA
  obtain ⟨v1, vs1, d1, ds1, p1, q1, rfl, rfl, rfl, h1, r1⟩ := trodAll_cons r0
  obtain ⟨v2, vs2, d2, ds2, p2, q2, rfl, rfl, rfl, h2, r2⟩ := trodAll_cons r1
  obtain ⟨rfl, rfl, rfl⟩ := trodAll_nil r2
  obtain rfl : args = #[v0, v1, v2] := by cases args; simp_all
  obtain ⟨rfl, rfl⟩ := trodVars_none hV
  have hlt0 : ∀ x ∈ p0, x.block < W.heap.size := fun x hx => hW'.lt x (by simp [hx])
  have hlt1 : ∀ x ∈ p1, x.block < W.heap.size := fun x hx => hW'.lt x (by simp [hx])
  have hlt2 : ∀ x ∈ p2, x.block < W.heap.size := fun x hx => hW'.lt x (by simp [hx])
  obtain ⟨x0, hx0, hW0, hf0⟩ := man_arg (hval 0 26 v0 rfl rfl) h0 (sm_each hsz (j := 0) rfl rfl)
  obtain ⟨x1, hx1, hW1, hf1⟩ := man_arg (hval 1 26 v1 rfl rfl) h1 (sm_each hsz (j := 1) rfl rfl)
  obtain ⟨x2, rfl, hf2⟩ := note_arg (hval 2 28 v2 rfl rfl) h2
  clear hA0 hval0
  simp only [List.append_nil] at hW'
  have fin : ∀ W', Below W.heap.size W W' → Rows.demandMaySpec.post enc Try.prog Try.f3 false true false false W #[v0, v1, ntV x2] (.bool true) W' := fun W' hb =>
    law_post_at hW' rfl rfl rfl Try.underlying4 (by
      rw [show p0 ++ (p1 ++ p2) = p0 ++ (p1 ++ (p2 ++ [])) by simp]
      exact (trodAll_cons_mk (Below.trod laidOut (by kernel_rfl) (of_decide_eq_true (by kernel_rfl)) h0 hb hlt0) (trodAll_cons_mk (Below.trod laidOut (by kernel_rfl) (of_decide_eq_true (by kernel_rfl)) h1 hb hlt1) (trodAll_cons_mk (Below.trod laidOut (by kernel_rfl) (of_decide_eq_true (by kernel_rfl)) h2 hb hlt2) trodAll_mk0)))) hb
  refine (may_any v0 v1 x0 x1 x2 W hx0 hx1 hW0 hf0 hf1 hf2).mono fun e W' ⟨he, hb⟩ => ?_
  subst he
  exact ⟨_, rfl, fin W' hb⟩
/-- DemandMay holds, for any manifests m and n and any note x: Check, Note, Covers, Same and Notes answer as the document does (of manifests that are not Large; else the example holds), and what came in stays. -/
theorem demandMay_holds : Rows.DemandMaySaid :=
  OpenClaim.holds_of_wide 3 Try.f3 rfl rfl rfl rfl rfl rfl rfl ⟨rfl, rfl, rfl, rfl, rfl⟩ rfl rfl rfl rfl rfl (by kernel_rfl) Try.func3 (by kernel_rfl)
    (of_decide_eq_true (by kernel_rfl)) (by unfold Func.isWrapper; first | (rw [if_pos (by decide +kernel)]; kernel_rfl) | (rw [if_neg (by decide +kernel)]; exact ⟨rfl, rfl⟩))
    (fun os started H enc _ => demandMay_lifted os started H enc)
end Go.Proofs.Ytmfebmiigkmkbaa
