/- DemandOrder holds, for any notes and any two bytes: neither the order nor the number of notes makes a difference, and a union of unions, or of what Notes answers, is the same. -/
import Derived.Test.YtmfebmiigkmkbaaFD
import Derived.Test.YtmfebmiigkmkbaaEM
set_option linter.unusedVariables false
namespace Go.Proofs.Ytmfebmiigkmkbaa
open Go Go.ChangeShapes Go.WideShapes Go.ChangeAt Go.RowKit Oj Dm

set_option maxRecDepth 100000 in
theorem demandOrder_lifted (os : Os) (started : os.Started) (H : Type) (enc : TypeId × Value → H) :
    ReturnsInHanded {} Try.checked os 6 .any (Rows.demandOrderSpec.pre6 enc Try.prog Try.f6 Rows.demandOrderRow.domain false) (Rows.demandOrderSpec.post enc Try.prog Try.f6 false true false false) := by
  refine returnsInHanded_of_change_sized (C := Try.checked) own started (by kernel_rfl) Try.func6
    (ChangeSpec.witness6 (enc := enc) (C := Try.checked) false ⟨#[], #[.slice none 0 0, .int .u8 0, .int .u8 0], []⟩ 8 (by kernel_rfl) (by kernel_rfl) (by kernel_rfl) (by kernel_rfl)) ?_
  intro W base args ds gs before hval0 hW hcnd hsz0 _
  have hval : ∀ (j : Nat) t v, Try.f6.params[j]? = some t → args[j]? = some v → Value.okWide Try.prog W .any base t v := hval0
  have hsz : (DataW.weightsEach Try.prog (Try.f6.params.toList ++ Rows.demandOrderSpec.plain.varTypes Try.prog) (ds ++ gs)).all (· ≤ reachBytes) = true := hsz0
  have hW' := hW
  obtain ⟨p, q, hA0, hV, rfl, hfz, hnd⟩ := hW
  have hA : DataW.TrodAll enc Try.prog W 0 (fun _ => true) true Try.f6.params.toList args.toList ds p := hA0
  rw [Try.params6] at hA hval hsz
  obtain ⟨v0, vs0, d0, ds0, p0, q0, hargs, rfl, rfl, h0, r0⟩ := trodAll_cons hA
  obtain ⟨v1, vs1, d1, ds1, p1, q1, rfl, rfl, rfl, h1, r1⟩ := trodAll_cons r0
  obtain ⟨v2, vs2, d2, ds2, p2, q2, rfl, rfl, rfl, h2, r2⟩ := trodAll_cons r1
  obtain ⟨rfl, rfl, rfl⟩ := trodAll_nil r2
  obtain rfl : args = #[v0, v1, v2] := by cases args; simp_all
  obtain ⟨rfl, rfl⟩ := trodVars_none hV
  have hlt0 : ∀ x ∈ p0, x.block < W.heap.size := fun x hx => hW'.lt x (by simp [hx])
  obtain ⟨a0, n0, c0, rfl⟩ := okWide_slice Try.underlying37 (hval 0 37 v0 rfl rfl)
  obtain ⟨x0, hx0, hf0, hW0⟩ := notes_arg h0 (sm_each hsz (j := 0) rfl rfl)
  obtain ⟨x1, rfl, rfl, rfl, w1⟩ := open_int Try.underlying5 (hval 1 5 v1 rfl rfl) h1
  obtain ⟨x2, rfl, rfl, rfl, w2⟩ := open_int Try.underlying5 (hval 2 5 v2 rfl rfl) h2
  obtain ⟨y1, hy1, rfl⟩ : ∃ y : Nat, y < 256 ∧ x1 = (y : Int) := ⟨x1.toNat, by have := bn8 w1; omega, by have := bn8 w1; omega⟩
  obtain ⟨y2, hy2, rfl⟩ : ∃ y : Nat, y < 256 ∧ x2 = (y : Int) := ⟨x2.toNat, by have := bn8 w2; omega, by have := bn8 w2; omega⟩
  clear hA0 hval0
  simp only [List.append_nil] at hW'
  have fin : ∀ W', Below W.heap.size W W' → Rows.demandOrderSpec.post enc Try.prog Try.f6 false true false false W #[.slice a0 n0 c0, .int .u8 (y1 : Int), .int .u8 (y2 : Int)] (.bool true) W' := fun W' hb =>
    law_post_at hW' rfl rfl rfl Try.underlying4 (by
      rw [show p0 = p0 ++ ([] ++ ([] ++ [])) by simp]
      exact (trodAll_cons_mk (Below.trod laidOut (by kernel_rfl) (of_decide_eq_true (by kernel_rfl)) h0 hb hlt0) (trodAll_cons_mk (shut_int Try.underlying5 w1) (trodAll_cons_mk (shut_int Try.underlying5 w2) trodAll_mk0)))) hb
  refine (order_any _ x0 y1 y2 hy1 hy2 W hx0 hW0 hf0).mono fun e W' ⟨he, hb⟩ => ?_
  subst he
  exact ⟨_, rfl, fin W' hb⟩
/-- DemandOrder holds, for any notes and any two bytes: neither the order nor the number of notes makes a difference, and a union of unions, or of what Notes answers, is the same. -/
theorem demandOrder_holds : Rows.DemandOrderSaid :=
  OpenClaim.holds_of_wide 6 Try.f6 rfl rfl rfl rfl rfl rfl rfl ⟨rfl, rfl, rfl, rfl, rfl⟩ rfl rfl rfl rfl rfl (by kernel_rfl) Try.func6 (by kernel_rfl)
    (of_decide_eq_true (by kernel_rfl)) (by unfold Func.isWrapper; first | (rw [if_pos (by decide +kernel)]; kernel_rfl) | (rw [if_neg (by decide +kernel)]; exact ⟨rfl, rfl⟩))
    (fun os started H enc _ => demandOrder_lifted os started H enc)
end Go.Proofs.Ytmfebmiigkmkbaa
