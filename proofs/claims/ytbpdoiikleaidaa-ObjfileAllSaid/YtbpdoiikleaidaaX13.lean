/- The program's reader: New, Left, End; what PackOK and NilOK ask of it stands. -/
import Derived.Test.YtbpdoiikleaidaaX11
import Derived.Test.YtbpdoiikleaidaaX12
set_option linter.unusedVariables false
namespace Go.Proofs.Ytbpdoiikleaidaa
open Go Go.RowKit Pk

section
variable {w w' : World} {p : Nat} {r : Rd}
def RpNew (w : World) (s : ByteArray) (x : Ending) (w' : World) : Prop := ∃ p, x = .returned (.pointer (some ⟨p, 0, none⟩)) ∧ w.heap.size ≤ p ∧ RpAt w' p ⟨by' s, 0⟩ ∧ Below w.heap.size w w'
set_option maxRecDepth 100000 in
theorem pnew_any (s : ByteArray) (w : World) : Calls Try.prog 25 #[.string s] w (RpNew w s) := by
  have hr : RpAt (w.alloc (.cells #[.string s, .int .i64 0] 97)) w.heap.size ⟨by' s, 0⟩ := by
    unfold RpAt
    rw [tx_by]
    exact Blk.new w 97 [.string s, .int .i64 0]
  have HR := Lib.hid hr
  clear hr
  go_enter Try.func25, Try.ntmps25
  go_wp2
  go_ret
  exact ⟨w.heap.size, rfl, Nat.le_refl _, HR.out, (Below.refl _ _).alloc (Nat.le_refl _) _⟩
theorem RpAt.setE (h : RpAt w p r) (e : Int) : RpAt (w.setCell ⟨p, 1, none⟩ (.int .i64 e)) p ⟨r.S, e⟩ := Blk.set_ h 1 _
set_option maxHeartbeats 1000000 in
set_option maxRecDepth 100000 in
theorem pdend_any (w : World) (h : RpAt w p r) : Calls Try.prog 27 #[.pointer (some ⟨p, 0, none⟩)] w fun x w' => x = .returned (.int .i64 (Pk.fin r).E) ∧ RpAt w' p (Pk.fin r) ∧ w.grownBy w' (some p) := by
  obtain ⟨c0, c1, f0, f1⟩ := h.cells
  have H := Lib.hid h
  unfold fin
  by_cases hE : r.E = 0
  · rw [if_neg (by simp [hE])]
    rw [hE] at c1
    have HF := Lib.hid (fun w1 => fault_any (p := p) 0 w1)
    have hl := plleft_any (p := p) (tx r.S) w c0
    rw [tx_size] at hl
    have HL := Lib.hid hl
    by_cases hS : r.S = []
    · rw [if_neg (by simp [hS])]
      rw [hS] at HL
      have HE := Lib.hid hE
      clear hl hS hE h
      go_enter Try.func27, Try.ntmps27
      go_wp2_with fail
      refine (HF.out _ c1).mono ?_; rintro x w1 ⟨rfl, rfl⟩
      clear HF
      go_wp2_with fail
      refine HL.out.mono ?_; rintro x w1 ⟨rfl, rfl⟩
      clear HL
      go_wp2
      go_ret
      exact ⟨by rw [HE.out]; rfl, H.out, World.grownBy.refl _ _⟩
    · rw [if_pos hS]
      obtain ⟨k, hk⟩ : ∃ k, k = r.S.length := ⟨_, rfl⟩
      have hk0 : (0 : Int) < (k : Int) := by
        have : r.S.length ≠ 0 := fun e => hS (List.length_eq_zero_iff.1 e)
        omega
      rw [← hk] at HL
      have HF2 := Lib.hid (h.setE 7)
      clear hl hk hS hE h H
      go_enter Try.func27, Try.ntmps27
      go_wp2_with fail
      refine (HF.out _ c1).mono ?_; rintro x w1 ⟨rfl, rfl⟩
      clear HF
      go_wp2_with fail
      refine HL.out.mono ?_; rintro x w1 ⟨rfl, rfl⟩
      clear HL
      go_wp2
      go_ret
      exact ⟨rfl, HF2.out, grown_set _ _ _ _⟩
  · rw [if_pos hE]
    obtain ⟨E, hEE⟩ : ∃ E, E = r.E := ⟨_, rfl⟩
    have hb : (E != 0) = true := by rw [bne_iff_ne, hEE]; exact hE
    have HF := Lib.hid (fun w1 => fault_any (p := p) E w1)
    rw [← hEE] at c1 ⊢
    clear hE hEE h
    go_enter Try.func27, Try.ntmps27
    go_wp2_with fail
    refine (HF.out _ c1).mono ?_; rintro x w1 ⟨rfl, rfl⟩
    clear HF
    go_wp2
    go_ret
    exact ⟨rfl, H.out, World.grownBy.refl _ _⟩
theorem pdend_nil (w : World) : Calls Try.prog 27 #[.pointer none] w fun x w' => x = .returned (.int .i64 1) ∧ w = w' := by
  go_enter Try.func27, Try.ntmps27
  go_wp2_with fail
  refine (fault_nil _).mono ?_; rintro x w1 ⟨rfl, rfl⟩
  go_wp2
  go_ret
  exact ⟨rfl, rfl⟩

end

end Go.Proofs.Ytbpdoiikleaidaa
