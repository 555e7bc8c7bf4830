/- The document's reader: End. -/
import Derived.Test.YtbpdoiikleaidaaX08
set_option linter.unusedVariables false
namespace Go.Proofs.Ytbpdoiikleaidaa
open Go Go.RowKit Pk

section
variable {w w' : World} {g : Nat} {r : Rd}
theorem fin_len : (fin r).S = r.S := by unfold fin; split; rfl; split <;> rfl
set_option maxHeartbeats 1000000 in
set_option maxRecDepth 100000 in
theorem rdend_any (w : World) (h : RdAt w g r) : Calls Try.prog 32 #[.pointer (some ⟨g, 0, none⟩)] w fun x w' => x = .returned (.int .i64 (fin r).E) ∧ RdAt w' g (fin r) ∧ w.grownBy w' (some g) := by
  obtain ⟨c0, c1, f0, f1⟩ := h.cells
  have H := Lib.hid h
  unfold fin
  by_cases hE : r.E = 0
  · rw [if_neg (by simp [hE])]
    rw [hE] at c1
    obtain ⟨T, hT⟩ : ∃ T, T = tx r.S := ⟨_, rfl⟩
    rw [← hT] at c0
    have hTs : T.size = r.S.length := by rw [hT, tx_size]
    by_cases hS : r.S = []
    · rw [if_neg (by simp [hS])]
      have e : T.toList = [] := by rw [ByteArray.toList_eq, hT, hS]; rfl
      have e2 : (T.toList.isEmpty) = true := by rw [e]; rfl
      have e3 : (!T.toList.isEmpty) = false := by rw [e]; rfl
      have HE := Lib.hid hE
      clear hT hTs hS hE h
      go_enter Try.func32, Try.ntmps32
      go_wp2
      go_ret
      exact ⟨by rw [HE.out]; rfl, H.out, World.grownBy.refl _ _⟩
    · rw [if_pos hS]
      have e : T.toList ≠ [] := by rw [ByteArray.toList_eq, hT]; simpa [tx] using hS
      have e2 : (T.toList.isEmpty) = false := by cases hq : T.toList with | nil => exact absurd hq e | cons _ _ => rfl
      have e3 : (!T.toList.isEmpty) = true := by rw [e2]; rfl
      clear hT hTs hS hE h
      go_enter Try.func32, Try.ntmps32
      go_wp2_with fail
      refine (fails_any 7 _ H.out).mono ?_; rintro x w1 ⟨rfl, h1, g1⟩
      have HH := Lib.hid (And.intro h1 g1)
      clear h1 g1
      go_wp2
      go_ret
      exact ⟨rfl, HH.out.1, HH.out.2⟩
  · rw [if_pos hE]
    obtain ⟨E, hEE⟩ : ∃ E, E = r.E := ⟨_, rfl⟩
    have hb : (E != 0) = true := by rw [bne_iff_ne, hEE]; exact hE
    rw [← hEE] at c1 ⊢
    clear hE hEE h
    go_enter Try.func32, Try.ntmps32
    go_wp2
    go_ret
    exact ⟨rfl, H.out, World.grownBy.refl _ _⟩
end
end Go.Proofs.Ytbpdoiikleaidaa
