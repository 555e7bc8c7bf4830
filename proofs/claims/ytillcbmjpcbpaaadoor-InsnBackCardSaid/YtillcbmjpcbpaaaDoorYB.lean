/- InsnBack walked. -/
import Derived.Test.YtillcbmjpcbpaaaDoorIL
import Derived.Laws.Shifts
import Derived.Deep.DeepCutAuto
set_option linter.unusedVariables false
set_option linter.unusedSimpArgs false
namespace Go.Proofs.YtillcbmjpcbpaaaDoor
open Go.RowKit

/-- What stands all through InsnBack: the table, the two instructions, all that was there before. -/
def BInv (w : World) (op d a b im op' d' a' b' im' : Int) (wi : World) : Prop := Tabled wi ∧ Box5 w.heap.size op d a b im wi ∧ Box5 (w.heap.size + 1) op' d' a' b' im' wi ∧ Below w.heap.size w wi
section
variable {w : World} {op d a b im op' d' a' b' im' : Int}
theorem BInv.start (hk : Tabled w) : BInv w op d a b im op' d' a' b' im' ((w.alloc (.cells #[.int .u8 op, .int .u8 d, .int .u8 a, .int .u8 b, .int .u32 im] 24)).alloc (.cells #[.int .u8 op', .int .u8 d', .int .u8 a', .int .u8 b', .int .u32 im'] 24)) := by
  have h1 : Below w.heap.size w (w.alloc (.cells #[.int .u8 op, .int .u8 d, .int .u8 a, .int .u8 b, .int .u32 im] 24)) := (Below.refl _ _).alloc (Nat.le_refl _) _
  have h2 : Below w.heap.size w ((w.alloc (.cells #[.int .u8 op, .int .u8 d, .int .u8 a, .int .u8 b, .int .u32 im] 24)).alloc (.cells #[.int .u8 op', .int .u8 d', .int .u8 a', .int .u8 b', .int .u32 im'] 24)) := h1.alloc h1.size _
  refine ⟨hk.below h2, (Box5.new op d a b im w).alloc _, ?_, h2⟩
  have := Box5.new op' d' a' b' im' (w.alloc (.cells #[.int .u8 op, .int .u8 d, .int .u8 a, .int .u8 b, .int .u32 im] 24))
  simpa using this
theorem BInv.step {wi wj : World} (h : BInv w op d a b im op' d' a' b' im' wi) (q : Below wi.heap.size wi wj) : BInv w op d a b im op' d' a' b' im' wj :=
  ⟨h.1.below q, h.2.1.same q, h.2.2.1.same q, h.2.2.2.trans (q.mono h.2.2.2.size)⟩
theorem BInv.alloc {wi : World} (h : BInv w op d a b im op' d' a' b' im' wi) (o : Obj) : BInv w op d a b im op' d' a' b' im' (wi.alloc o) := h.step ((Below.refl _ _).alloc (Nat.le_refl _) _)
end

set_option maxHeartbeats 8000000 in
set_option maxRecDepth 100000 in
theorem back_walk (op d a b im op' d' a' b' im' p q : Int) (p0 : 0 ≤ p) (p1 : p < 4294967296) (q0 : 0 ≤ q) (q1 : q < 4294967296) (S T : ByteArray) (E1 E2 : Int) (w : World)
    (HE : Hid ((E1 = 0 ∨ E1 = 2) ∧ (E2 = 0 ∨ E2 = 2)))
    (HS : Hid (E1 = 0 → (S.size : Int) = 8)) (HK : Hid (Tabled w))
    (HST : Hid (E1 = 0 → E2 = 0 → (S = T ↔ (op = op' ∧ d = d' ∧ a = a' ∧ b = b' ∧ im = im'))))
    (U : ByteArray) (o2 d2 a2 b2 i2 G : Int) (HG : Hid ((G = 7 ∧ o2 = 0 ∧ d2 = 0 ∧ a2 = 0 ∧ b2 = 0 ∧ i2 = 0) ∨ G = 0))
    (HU8 : Hid (∀ W : World, (convert 43 9 (.slice (some ⟨W.heap.size, 0, none⟩) 8 8)).run Tryd.prog (W.alloc (.cells #[.int .u8 (p % 256), .int .u8 (p / 256 % 256), .int .u8 (p / 65536 % 256), .int .u8 (p / 16777216), .int .u8 (q % 256), .int .u8 (q / 256 % 256), .int .u8 (q / 65536 % 256), .int .u8 (q / 16777216)] 5)) = .ok (.string U) (W.alloc (.cells #[.int .u8 (p % 256), .int .u8 (p / 256 % 256), .int .u8 (p / 65536 % 256), .int .u8 (p / 16777216), .int .u8 (q % 256), .int .u8 (q / 256 % 256), .int .u8 (q / 65536 % 256), .int .u8 (q / 16777216)] 5))))
    (HU : Hid (∀ w, Tabled w → Calls Tryd.prog 9 #[.string U] w fun e w' => e = .returned (.tuple #[.agg #[.int .u8 o2, .int .u8 d2, .int .u8 a2, .int .u8 b2, .int .u32 i2], .int .i64 G]) ∧ Below w.heap.size w w'))
    (HV : Hid (G = 0 → ∀ w, Tabled w → Calls Tryd.prog 7 #[.agg #[.int .u8 o2, .int .u8 d2, .int .u8 a2, .int .u8 b2, .int .u32 i2]] w fun e w' => e = .returned (.tuple #[.string U, .int .i64 0]) ∧ Below w.heap.size w w'))
    (HE1 : Hid (∀ w, Tabled w → Calls Tryd.prog 7 #[.agg #[.int .u8 op, .int .u8 d, .int .u8 a, .int .u8 b, .int .u32 im]] w fun e w' => e = .returned (.tuple #[.string S, .int .i64 E1]) ∧ Below w.heap.size w w'))
    (HE2 : Hid (∀ w, Tabled w → Calls Tryd.prog 7 #[.agg #[.int .u8 op', .int .u8 d', .int .u8 a', .int .u8 b', .int .u32 im']] w fun e w' => e = .returned (.tuple #[.string T, .int .i64 E2]) ∧ Below w.heap.size w w'))
    (HD : Hid (E1 = 0 → ∀ w, Tabled w → Calls Tryd.prog 9 #[.string S] w fun e w' => e = .returned (.tuple #[.agg #[.int .u8 op, .int .u8 d, .int .u8 a, .int .u8 b, .int .u32 im], .int .i64 0]) ∧ Below w.heap.size w w')) :
    Calls Tryd.prog 5 #[.agg #[.int .u8 op, .int .u8 d, .int .u8 a, .int .u8 b, .int .u32 im], .agg #[.int .u8 op', .int .u8 d', .int .u8 a', .int .u8 b', .int .u32 im'], .int .u32 p, .int .u32 q] w fun e w' => e = .returned (.bool true) ∧ Below w.heap.size w w' := by
  have I0 := Lib.hid (BInv.start (op := op) (d := d) (a := a) (b := b) (im := im) (op' := op') (d' := d') (a' := a') (b' := b') (im' := im') HK.out)
  go_enter Tryd.func5, Tryd.ntmps5
  go_wp2_with fail
  refine (HE1.out _ I0.out.1).mono ?_
  rintro e w1 ⟨rfl, q1⟩
  have I1 := Lib.hid (I0.out.step q1)
  clear q1 I0
  obtain ⟨_, ⟨x01, x11, x21, x31, x41⟩, ⟨y01, y11, y21, y31, y41⟩, _⟩ := I1.out
  go_wp2_with fail
  refine (HE2.out _ I1.out.1).mono ?_
  rintro e w2 ⟨rfl, q2⟩
  have I2 := Lib.hid (I1.out.step q2)
  clear q2 I1
  clear x01 x11 x21 x31 x41 y01 y11 y21 y31 y41
  go_upto_if 31 with (fail)
  go_cut [] (fun wx => Hid (BInv w op d a b im op' d' a' b' im' wx))
  case first =>
    by_cases h : E1 = 0
    · have t1 : (E1 == 0) = true := by rw [h]; rfl
      have t8 : ((S.size : Int) != 8) = false := by rw [HS.out h]; rfl
      have HD1 := Lib.hid (HD.out h)
      clear h
      go_wp2_with fail
      refine (HD1.out _ I2.out.1).mono ?_
      rintro e w3 ⟨rfl, q3⟩
      have I3 := Lib.hid ((I2.out.step q3).alloc (.cells #[.int .u8 op, .int .u8 d, .int .u8 a, .int .u8 b, .int .u32 im] 24))
      clear q3 I2
      obtain ⟨_, ⟨x03, x13, x23, x33, x43⟩, ⟨y03, y13, y23, y33, y43⟩, _⟩ := I3.out
      go_wp2_with fail
      go_meet
      exact I3
    · have t1 : (E1 == 0) = false := by rw [beq_eq_false_iff_ne]; exact h
      clear h
      go_wp2_with fail
      go_meet
      exact I2
  case rest =>
    have I3 := hcut
    clear hcut I2
    obtain ⟨_, ⟨x03, x13, x23, x33, x43⟩, ⟨y03, y13, y23, y33, y43⟩, _⟩ := I3.out
    go_upto_region 7 with (fail)
    go_cut [63] (fun s63 wx => s63 = .bool false ∧ Hid (BInv w op d a b im op' d' a' b' im' wx))
    case first =>
      by_cases h1 : E1 = 0
      · by_cases h2 : E2 = 0
        · have hst := HST.out h1 h2
          have t1 : (E1 == 0) = true := by rw [h1]; rfl
          have t2 : (E2 == 0) = true := by rw [h2]; rfl
          clear h1 h2
          by_cases h : S = T
          · obtain ⟨rfl, rfl, rfl, rfl, rfl⟩ := hst.1 h
            subst h
            clear hst
            go_wp2_with fail
            go_meet
            exact ⟨by simp, I3⟩
          · have hne := Lib.hid (fun hh => h (hst.2 hh))
            have t3 := list_ne S T h
            clear hst h
            by_cases fop : op = op'
            · subst fop
              by_cases fd : d = d'
              · subst fd
                by_cases fa : a = a'
                · subst fa
                  by_cases fb : b = b'
                  · subst fb
                    by_cases fim : im = im'
                    · subst fim
                      exact absurd ⟨rfl, rfl, rfl, rfl, rfl⟩ hne.out
                    · go_wp2_with fail
                      go_meet
                      exact ⟨rfl, I3⟩
                  · go_wp2_with fail
                    go_meet
                    exact ⟨rfl, I3⟩
                · go_wp2_with fail
                  go_meet
                  exact ⟨rfl, I3⟩
              · go_wp2_with fail
                go_meet
                exact ⟨rfl, I3⟩
            · go_wp2_with fail
              go_meet
              exact ⟨rfl, I3⟩
        · have t1 : (E1 == 0) = true := by rw [h1]; rfl
          have t2 : (E2 == 0) = false := by rw [beq_eq_false_iff_ne]; exact h2
          clear h1 h2
          go_wp2_with fail
          go_meet
          exact ⟨rfl, I3⟩
      · have t1 : (E1 == 0) = false := by rw [beq_eq_false_iff_ne]; exact h1
        clear h1
        go_wp2_with fail
        go_meet
        exact ⟨rfl, I3⟩
    case rest =>
      obtain ⟨rfl, I4⟩ := hcut
      clear I3 HE1 HE2 HD HS HST HE
      have conv := HU8.out wc
      rcases HG.out with hg | hg
      · obtain ⟨rfl, rfl, rfl, rfl, rfl, rfl⟩ := hg
        clear HG HV
        go_wp2_with fail
        refine (HU.out _ (I4.out.alloc _).1).mono ?_
        rintro e w5 ⟨rfl, q5⟩
        have I5 := Lib.hid (((I4.out.alloc _).step q5).alloc (.cells #[.int .u8 0, .int .u8 0, .int .u8 0, .int .u8 0, .int .u32 0] 24))
        clear q5 I4 conv
        go_wp2_with fail
        refine (alive_any _ I5.out.1).mono ?_
        rintro e w6 ⟨rfl, q6⟩
        have I6 := Lib.hid (I5.out.step q6)
        clear q6 I5
        go_wp2
        go_ret
        exact ⟨rfl, I6.out.2.2.2⟩
      · subst hg
        have HV1 := Lib.hid (HV.out rfl)
        clear HG HV
        go_wp2_with fail
        refine (HU.out _ (I4.out.alloc _).1).mono ?_
        rintro e w5 ⟨rfl, q5⟩
        have I5 := Lib.hid (((I4.out.alloc _).step q5).alloc (.cells #[.int .u8 o2, .int .u8 d2, .int .u8 a2, .int .u8 b2, .int .u32 i2] 24))
        clear q5 I4 conv
        go_wp2_with fail
        refine (HV1.out _ I5.out.1).mono ?_
        rintro e w6 ⟨rfl, q6⟩
        have I6 := Lib.hid (I5.out.step q6)
        clear q6 I5
        go_wp2_with fail
        refine (alive_any _ I6.out.1).mono ?_
        rintro e w7 ⟨rfl, q7⟩
        have I7 := Lib.hid (I6.out.step q7)
        clear q7 I6
        go_wp2
        go_ret
        exact ⟨rfl, I7.out.2.2.2⟩
end Go.Proofs.YtillcbmjpcbpaaaDoor
