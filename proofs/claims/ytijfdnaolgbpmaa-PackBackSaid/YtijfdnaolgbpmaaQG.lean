/- The program's reader: New, Left, End; what PackOK and NilOK ask of it stands. -/
import Derived.Test.YtijfdnaolgbpmaaQE
import Derived.Test.YtijfdnaolgbpmaaQF
import Derived.Test.YtijfdnaolgbpmaaPX
set_option linter.unusedVariables false
namespace Go.Proofs.Ytijfdnaolgbpmaa
open Go Go.RowKit Pk

section
variable {w w' : World} {p : Nat} {r : Rd}
def RpNew (w : World) (s : ByteArray) (x : Ending) (w' : World) : Prop := ∃ p, x = .returned (.pointer (some ⟨p, 0, none⟩)) ∧ w.heap.size ≤ p ∧ RpAt w' p ⟨by' s, 0⟩ ∧ Below w.heap.size w w'
set_option maxRecDepth 100000 in
theorem pnew_any (s : ByteArray) (w : World) : Calls Try.prog 16 #[.string s] w (RpNew w s) := by
  have hr : RpAt (w.alloc (.cells #[.string s, .int .i64 0] 66)) w.heap.size ⟨by' s, 0⟩ := by
    unfold RpAt
    rw [tx_by]
    exact Blk.new w 66 [.string s, .int .i64 0]
  have HR := Lib.hid hr
  clear hr
  go_enter Try.func16, Try.ntmps16
  go_wp2
  go_ret
  exact ⟨w.heap.size, rfl, Nat.le_refl _, HR.out, (Below.refl _ _).alloc (Nat.le_refl _) _⟩
set_option maxRecDepth 100000 in
theorem pdleft_any (w : World) (h : RpAt w p r) : Calls Try.prog 27 #[.pointer (some ⟨p, 0, none⟩)] w fun x w' => x = .returned (.int .i64 (r.S.length : Int)) ∧ ∃ n, w' = w.drewN n := by
  obtain ⟨c0, c1, f0, f1⟩ := h.cells
  have hl := plleft_any (p := p) (tx r.S) w c0
  rw [tx_size] at hl
  have HL := Lib.hid hl
  clear hl h
  go_enter Try.func27, Try.ntmps27
  go_wp2_with fail
  refine HL.out.mono ?_; rintro x w1 ⟨rfl, rfl⟩
  clear HL
  go_wp2
  go_ret
  exact ⟨rfl, 0, rfl⟩
theorem pdleft_nil (w : World) : Calls Try.prog 27 #[.pointer none] w fun x w' => x = .returned (.int .i64 0) ∧ w = w' := by
  go_enter Try.func27, Try.ntmps27
  go_wp2
  go_ret
  exact ⟨rfl, rfl⟩
theorem RpAt.setE (h : RpAt w p r) (e : Int) : RpAt (w.setCell ⟨p, 1, none⟩ (.int .i64 e)) p ⟨r.S, e⟩ := Blk.set_ h 1 _
set_option maxHeartbeats 1000000 in
set_option maxRecDepth 100000 in
theorem pdend_any (w : World) (h : RpAt w p r) : Calls Try.prog 25 #[.pointer (some ⟨p, 0, none⟩)] w fun x w' => x = .returned (.int .i64 (Pk.fin r).E) ∧ RpAt w' p (Pk.fin r) ∧ w.grownBy w' (some p) := by
  obtain ⟨c0, c1, f0, f1⟩ := h.cells
  have H := Lib.hid h
  unfold fin
  by_cases hE : r.E = 0
  · rw [if_neg (by simp [hE])]
    rw [hE] at c1
    have HF := Lib.hid (fun w1 => fault_any (p := p) 0 w1)
    have hl := plleft_any (p := p) (tx r.S) w c0
    rw [tx_size] at hl
    have HL := Lib.hid hl
    by_cases hS : r.S = []
    · rw [if_neg (by simp [hS])]
      rw [hS] at HL
      have HE := Lib.hid hE
      clear hl hS hE h
      go_enter Try.func25, Try.ntmps25
      go_wp2_with fail
      refine (HF.out _ c1).mono ?_; rintro x w1 ⟨rfl, rfl⟩
      clear HF
      go_wp2_with fail
      refine HL.out.mono ?_; rintro x w1 ⟨rfl, rfl⟩
      clear HL
      go_wp2
      go_ret
      exact ⟨by rw [HE.out]; rfl, H.out, World.grownBy.refl _ _⟩
    · rw [if_pos hS]
      obtain ⟨k, hk⟩ : ∃ k, k = r.S.length := ⟨_, rfl⟩
      have hk0 : (0 : Int) < (k : Int) := by
        have : r.S.length ≠ 0 := fun e => hS (List.length_eq_zero_iff.1 e)
        omega
      rw [← hk] at HL
      have HF2 := Lib.hid (h.setE 7)
      clear hl hk hS hE h H
      go_enter Try.func25, Try.ntmps25
      go_wp2_with fail
      refine (HF.out _ c1).mono ?_; rintro x w1 ⟨rfl, rfl⟩
      clear HF
      go_wp2_with fail
      refine HL.out.mono ?_; rintro x w1 ⟨rfl, rfl⟩
      clear HL
      go_wp2
      go_ret
      exact ⟨rfl, HF2.out, grown_set _ _ _ _⟩
  · rw [if_pos hE]
    obtain ⟨E, hEE⟩ : ∃ E, E = r.E := ⟨_, rfl⟩
    have hb : (E != 0) = true := by rw [bne_iff_ne, hEE]; exact hE
    have HF := Lib.hid (fun w1 => fault_any (p := p) E w1)
    rw [← hEE] at c1 ⊢
    clear hE hEE h
    go_enter Try.func25, Try.ntmps25
    go_wp2_with fail
    refine (HF.out _ c1).mono ?_; rintro x w1 ⟨rfl, rfl⟩
    clear HF
    go_wp2
    go_ret
    exact ⟨rfl, H.out, World.grownBy.refl _ _⟩
theorem pdend_nil (w : World) : Calls Try.prog 25 #[.pointer none] w fun x w' => x = .returned (.int .i64 1) ∧ w = w' := by
  go_enter Try.func25, Try.ntmps25
  go_wp2_with fail
  refine (fault_nil _).mono ?_; rintro x w1 ⟨rfl, rfl⟩
  go_wp2
  go_ret
  exact ⟨rfl, rfl⟩

/-- The cells of the program's reader. -/
def rep (cs : List Value) (r : Rd) : Prop := cs = [.string (tx r.S), .int .i64 r.E]
theorem pd_rp (h : PdAt rep w p r) : RpAt w p r := by
  obtain ⟨cs, h1, rfl⟩ := h
  exact h1
theorem rp_pd (h : RpAt w p r) : PdAt rep w p r := ⟨_, h, rfl⟩
theorem packOK : PackOK rep where
  num := fun x n w h0 h1 => pnum_any x n w h0 h1
  text := fun s w hs => ptext_any s (by omega) w
  texts := fun v L w hs hc hL => ptexts_any v L w hs hc hL
  new := fun s w _ => (pnew_any s w).mono fun x w' ⟨p, h1, h2, h3, h4⟩ => ⟨p, h1, h2, rp_pd h3, h4⟩
  take := fun w p r n h hS => (pdtake_any n w (pd_rp h) (by omega)).mono fun x w' ⟨h1, h2, h3⟩ => ⟨h1, rp_pd h2, h3⟩
  rnum := fun w p r n h hS => (pdnum_any n w (pd_rp h) (by omega)).mono fun x w' ⟨h1, h2, h3⟩ => ⟨h1, rp_pd h2, h3⟩
  rtext := fun w p r h hS => (pdtext_any w (pd_rp h) (by omega)).mono fun x w' ⟨h1, h2, h3⟩ => ⟨h1, rp_pd h2, h3⟩
  rtexts := fun w p r h hS => (pdtexts_any w (pd_rp h) (by omega)).mono fun x w' ⟨v, h1, h2, h3, h4⟩ => ⟨v, h1, h2, rp_pd h3, h4⟩
  left := fun w p r h _ => pdleft_any w (pd_rp h)
  fin := fun w p r h _ => (pdend_any w (pd_rp h)).mono fun x w' ⟨h1, h2, h3⟩ => ⟨h1, rp_pd h2, h3⟩
  fault := fun w p r h => (fault_any r.E w (pd_rp h).cells.2.1).mono fun x w' ⟨h1, h2⟩ => ⟨h1, 0, h2.symm⟩
end

set_option maxRecDepth 100000 in
theorem pdtake_nil (n : Int) (w : World) : Calls Try.prog 17 #[.pointer none, .int .i64 n] w fun x w' => x = .returned (.tuple #[.string ⟨#[]⟩, .int .i64 1]) ∧ Below w.heap.size w w' := by
  have HR := Lib.hid (fun f w1 => readS_nil f w1)
  obtain ⟨wb, hwb⟩ : ∃ wb, wb = (w.alloc (.cells #[.pointer none] 35)).alloc (.cells #[.int .i64 n] 3) := ⟨_, rfl⟩
  have hbl := below2 w (.cells #[.pointer none] 35) (.cells #[.int .i64 n] 3)
  rw [← hwb] at hbl
  have HB := Lib.hid hbl
  have HW := Lib.hid hwb
  clear hbl hwb
  go_enter Try.func17, Try.ntmps17
  go_wp2_with fail
  rw [← HW.out]
  refine (HR.out _ _).mono ?_; rintro x w1 ⟨rfl, rfl⟩
  clear HR
  go_wp2
  go_ret2
  exact ⟨rfl, HB.out⟩

set_option maxRecDepth 100000 in
theorem pdnum_nil (n : Int) (w : World) : Calls Try.prog 19 #[.pointer none, .int .i64 n] w fun x w' => x = .returned (.tuple #[.int .u32 0, .int .i64 1]) ∧ Below w.heap.size w w' := by
  have HR := Lib.hid (fun f w1 => readN_nil f w1)
  obtain ⟨wb, hwb⟩ : ∃ wb, wb = (w.alloc (.cells #[.pointer none] 35)).alloc (.cells #[.int .i64 n] 3) := ⟨_, rfl⟩
  have hbl := below2 w (.cells #[.pointer none] 35) (.cells #[.int .i64 n] 3)
  rw [← hwb] at hbl
  have HB := Lib.hid hbl
  have HW := Lib.hid hwb
  clear hbl hwb
  go_enter Try.func19, Try.ntmps19
  go_wp2_with fail
  rw [← HW.out]
  refine (HR.out _ _).mono ?_; rintro x w1 ⟨rfl, rfl⟩
  clear HR
  go_wp2
  go_ret2
  exact ⟨rfl, HB.out⟩

set_option maxRecDepth 100000 in
theorem pdtext_nil (w : World) : Calls Try.prog 21 #[.pointer none] w fun x w' => x = .returned (.tuple #[.string ⟨#[]⟩, .int .i64 1]) ∧ Below w.heap.size w w' := by
  have HR := Lib.hid (fun f w1 => readS_nil f w1)
  obtain ⟨wb, hwb⟩ : ∃ wb, wb = w.alloc (.cells #[.pointer none] 35) := ⟨_, rfl⟩
  have hbl := below1 w (.cells #[.pointer none] 35)
  rw [← hwb] at hbl
  have HB := Lib.hid hbl
  have HW := Lib.hid hwb
  clear hbl hwb
  go_enter Try.func21, Try.ntmps21
  go_wp2_with fail
  rw [← HW.out]
  refine (HR.out _ _).mono ?_; rintro x w1 ⟨rfl, rfl⟩
  clear HR
  go_wp2
  go_ret2
  exact ⟨rfl, HB.out⟩

set_option maxRecDepth 100000 in
theorem pdtexts_nil (w : World) : Calls Try.prog 23 #[.pointer none] w fun x w' => x = .returned (.tuple #[.slice none 0 0, .int .i64 1]) ∧ Below w.heap.size w w' := by
  have HR := Lib.hid (fun f w1 => readL_nil f w1)
  obtain ⟨wb, hwb⟩ : ∃ wb, wb = w.alloc (.cells #[.pointer none] 35) := ⟨_, rfl⟩
  have hbl := below1 w (.cells #[.pointer none] 35)
  rw [← hwb] at hbl
  have HB := Lib.hid hbl
  have HW := Lib.hid hwb
  clear hbl hwb
  go_enter Try.func23, Try.ntmps23
  go_wp2_with fail
  rw [← HW.out]
  refine (HR.out _ _).mono ?_; rintro x w1 ⟨rfl, rfl⟩
  clear HR
  go_wp2
  go_ret2
  exact ⟨rfl, HB.out⟩

theorem nilOK : NilOK where
  take := pdtake_nil
  rnum := pdnum_nil
  rtext := pdtext_nil
  rtexts := fun w => (pdtexts_nil w).mono fun e w' ⟨h1, h2⟩ => ⟨none, 0, h1, h2⟩
  left := fun w => (pdleft_nil w).mono fun e w' ⟨h1, h2⟩ => ⟨h1, h2 ▸ Below.refl _ _⟩
  fin := fun w => (pdend_nil w).mono fun e w' ⟨h1, h2⟩ => ⟨h1, h2 ▸ Below.refl _ _⟩
  fault := fun w => (fault_nil w).mono fun e w' ⟨h1, h2⟩ => ⟨h1, h2 ▸ Below.refl _ _⟩
end Go.Proofs.Ytijfdnaolgbpmaa
