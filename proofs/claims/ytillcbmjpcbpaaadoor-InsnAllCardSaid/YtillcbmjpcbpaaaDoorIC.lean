/- Which instructions may be: package insn's Check, and the document's own May. -/
import Derived.Test.YtillcbmjpcbpaaaDoorIU
import Derived.Test.YtillcbmjpcbpaaaDoorRS
set_option linter.unusedVariables false
namespace Go.Proofs.YtillcbmjpcbpaaaDoor
open Go.RowKit

theorem ret_i64 {a b : Int} (h : a = b) : Ending.returned (.int .i64 a) = .returned (.int .i64 b) := by rw [h]

section
variable (op d a b im : Int) (h0 : 0 ≤ op) (h1 : op < 256) (d0 : 0 ≤ d) (d1 : d < 256) (a0 : 0 ≤ a) (a1 : a < 256) (b0 : 0 ≤ b) (b1 : b < 256) (i0 : 0 ≤ im) (i1 : im < 4294967296)

set_option maxHeartbeats 1000000 in
set_option maxRecDepth 100000 in
theorem check_none (w : World) (HU : Hid (∀ w', Below w.heap.size w w' → Calls Tryd.prog 12 #[.int .u8 op] w' fun e w'' => e = .returned (.tuple #[.bool false, .bool false, .bool false, .bool false, .int .i64 2]) ∧ w' = w'')) :
    Calls Tryd.prog 11 #[.agg #[.int .u8 op, .int .u8 d, .int .u8 a, .int .u8 b, .int .u32 im]] w fun e w' => e = .returned (.int .i64 2) ∧ Below w.heap.size w w' := by
  have hb : Below w.heap.size w (w.alloc (.cells #[.int .u8 op, .int .u8 d, .int .u8 a, .int .u8 b, .int .u32 im] 24)) := (Below.refl _ _).alloc (Nat.le_refl _) _
  have HU1 := Lib.hid (HU.out _ hb)
  clear HU
  go_enter Tryd.func11, Tryd.ntmps11
  go_wp2_with (go_at_call 12; refine HU1.out.mono ?_; rintro e w1 ⟨rfl, rfl⟩)
  go_ret
  exact ⟨rfl, hb⟩

set_option maxHeartbeats 2000000 in
set_option maxRecDepth 100000 in
theorem check_some (q1 q2 q3 q4 p1 p2 p3 : Bool) (w : World)
    (HU : Hid (∀ w', Below w.heap.size w w' → Calls Tryd.prog 12 #[.int .u8 op] w' fun e w'' => e = .returned (.tuple #[.bool q1, .bool q2, .bool q3, .bool q4, .int .i64 0]) ∧ w' = w''))
    (M1 : Hid (∀ w, Calls Tryd.prog 20 #[.int .u8 d, .bool q1] w fun e w' => e = .returned (.bool p1) ∧ w = w'))
    (M2 : Hid (∀ w, Calls Tryd.prog 20 #[.int .u8 a, .bool q2] w fun e w' => e = .returned (.bool p2) ∧ w = w'))
    (M3 : Hid (∀ w, Calls Tryd.prog 20 #[.int .u8 b, .bool q3] w fun e w' => e = .returned (.bool p3) ∧ w = w')) :
    Calls Tryd.prog 11 #[.agg #[.int .u8 op, .int .u8 d, .int .u8 a, .int .u8 b, .int .u32 im]] w fun e w' => e = .returned (.int .i64 (if (p1 && (p2 && (p3 && (decide (im = 0) || q4)))) = true then 0 else 2)) ∧ Below w.heap.size w w' := by
  have hb : Below w.heap.size w (w.alloc (.cells #[.int .u8 op, .int .u8 d, .int .u8 a, .int .u8 b, .int .u32 im] 24)) := (Below.refl _ _).alloc (Nat.le_refl _) _
  have HU1 := Lib.hid (HU.out _ hb)
  clear HU
  have HB := Lib.hid hb
  clear hb
  cases p1
  · go_enter Tryd.func11, Tryd.ntmps11
    go_wp2_with (first | (go_at_call 12; refine HU1.out.mono ?_; rintro e w1 ⟨rfl, rfl⟩) | (go_at_call 20; refine (M1.out _).mono ?_; rintro e w1 ⟨rfl, rfl⟩))
    go_ret
    exact ⟨rfl, HB.out⟩
  cases p2
  · go_enter Tryd.func11, Tryd.ntmps11
    go_wp2_with fail
    refine HU1.out.mono ?_; rintro e w1 ⟨rfl, rfl⟩
    go_wp2_with fail
    refine (M1.out _).mono ?_; rintro e w1 ⟨rfl, rfl⟩
    go_wp2_with fail
    refine (M2.out _).mono ?_; rintro e w1 ⟨rfl, rfl⟩
    go_wp2
    go_ret
    exact ⟨rfl, HB.out⟩
  cases p3
  · go_enter Tryd.func11, Tryd.ntmps11
    go_wp2_with fail
    refine HU1.out.mono ?_; rintro e w1 ⟨rfl, rfl⟩
    go_wp2_with fail
    refine (M1.out _).mono ?_; rintro e w1 ⟨rfl, rfl⟩
    go_wp2_with fail
    refine (M2.out _).mono ?_; rintro e w1 ⟨rfl, rfl⟩
    go_wp2_with fail
    refine (M3.out _).mono ?_; rintro e w1 ⟨rfl, rfl⟩
    go_wp2
    go_ret
    exact ⟨rfl, HB.out⟩
  by_cases hz : im = 0
  · subst hz
    go_enter Tryd.func11, Tryd.ntmps11
    go_wp2_with fail
    refine HU1.out.mono ?_; rintro e w1 ⟨rfl, rfl⟩
    go_wp2_with fail
    refine (M1.out _).mono ?_; rintro e w1 ⟨rfl, rfl⟩
    go_wp2_with fail
    refine (M2.out _).mono ?_; rintro e w1 ⟨rfl, rfl⟩
    go_wp2_with fail
    refine (M3.out _).mono ?_; rintro e w1 ⟨rfl, rfl⟩
    go_wp2
    go_ret
    exact ⟨by simp, HB.out⟩
  · have t1 : (im == 0) = false := by rw [beq_eq_false_iff_ne]; exact hz
    have t2 : (im != 0) = true := by rw [bne_iff_ne]; exact hz
    have t3 : decide (im = 0) = false := by rw [decide_eq_false_iff_not]; exact hz
    rw [t3]
    clear hz t3
    cases q4
    all_goals
      go_enter Tryd.func11, Tryd.ntmps11
      go_wp2_with fail
      refine HU1.out.mono ?_; rintro e w1 ⟨rfl, rfl⟩
      go_wp2_with fail
      refine (M1.out _).mono ?_; rintro e w1 ⟨rfl, rfl⟩
      go_wp2_with fail
      refine (M2.out _).mono ?_; rintro e w1 ⟨rfl, rfl⟩
      go_wp2_with fail
      refine (M3.out _).mono ?_; rintro e w1 ⟨rfl, rfl⟩
      go_wp2
      go_ret
      exact ⟨rfl, HB.out⟩

def errI (op d a b im : Int) : Int := Ix.err op d a b im

include h0 h1 d0 d1 a0 a1 b0 b1 in
/-- Check, whatever it is asked. -/
theorem icheck_any (w : World) (hk : Tabled w) :
    Calls Tryd.prog 11 #[.agg #[.int .u8 op, .int .u8 d, .int .u8 a, .int .u8 b, .int .u32 im]] w fun e w' => e = .returned (.int .i64 (errI op d a b im)) ∧ Below w.heap.size w w' := by
  by_cases hop : Ix.isOp op = true
  · have e : errI op d a b im = if (Ix.regOk d (Ix.uD op) && (Ix.regOk a (Ix.uA op) && (Ix.regOk b (Ix.uB op) && (decide (im = 0) || Ix.uI op)))) = true then 0 else 2 := by
      unfold errI Ix.err Ix.insnOk
      rw [hop]
      simp only [Bool.true_and, Bool.and_assoc]
    rw [e]
    refine check_some op d a b im (Ix.uD op) (Ix.uA op) (Ix.uB op) (Ix.uI op) _ _ _ w (Lib.hid fun w' hb => ?_) (Lib.hid fun w => mayBe_any d _ d0 d1 w) (Lib.hid fun w => mayBe_any a _ a0 a1 w) (Lib.hid fun w => mayBe_any b _ b0 b1 w)
    have := uses_any op h0 h1 w' (hk.below hb)
    unfold usesV usesE at this
    rw [hop] at this
    exact this
  · have hop' : Ix.isOp op = false := by simpa using hop
    have e : errI op d a b im = 2 := by
      unfold errI Ix.err Ix.insnOk
      rw [hop']
      rfl
    rw [e]
    refine check_none op d a b im w (Lib.hid fun w' hb => ?_)
    have := uses_any op h0 h1 w' (hk.below hb)
    unfold usesV usesE at this
    rw [hop'] at this
    exact this

/-! the document's May -/
set_option maxHeartbeats 2000000 in
set_option maxRecDepth 100000 in
theorem may_none (w : World) (r1 r2 r3 r4 : Bool)
    (HU : Hid (∀ w', Calls Tryd.prog 13 #[.int .u8 op] w' fun e w'' => e = .returned (.tuple #[.agg #[.bool r1, .bool r2, .bool r3, .bool r4], .bool false]) ∧ Below w'.heap.size w' w'')) :
    Calls Tryd.prog 16 #[.agg #[.int .u8 op, .int .u8 d, .int .u8 a, .int .u8 b, .int .u32 im]] w fun e w' => e = .returned (.bool false) ∧ Below w.heap.size w w' := by
  have hb : Below w.heap.size w (w.alloc (.cells #[.int .u8 op, .int .u8 d, .int .u8 a, .int .u8 b, .int .u32 im] 24)) := (Below.refl _ _).alloc (Nat.le_refl _) _
  go_enter Tryd.func16, Tryd.ntmps16
  go_wp2_with fail
  refine (HU.out _).mono ?_; rintro e w1 ⟨rfl, q⟩
  replace hb := hb.trans (q.mono hb.size); clear q
  go_wp2
  go_ret
  exact ⟨rfl, hb.alloc hb.size _⟩

def row4 (r1 r2 r3 r4 : Bool) : Array Value := #[.bool r1, .bool r2, .bool r3, .bool r4]

set_option maxHeartbeats 4000000 in
set_option maxRecDepth 100000 in
theorem may_some (q1 q2 q3 q4 p1 p2 p3 : Bool) (w : World)
    (HU : Hid (∀ w', Calls Tryd.prog 13 #[.int .u8 op] w' fun e w'' => e = .returned (.tuple #[.agg #[.bool q1, .bool q2, .bool q3, .bool q4], .bool true]) ∧ Below w'.heap.size w' w''))
    (M1 : Hid (∀ w, Calls Tryd.prog 24 #[.int .u8 d, .bool q1] w fun e w' => e = .returned (.bool p1) ∧ w = w'))
    (M2 : Hid (∀ w, Calls Tryd.prog 24 #[.int .u8 a, .bool q2] w fun e w' => e = .returned (.bool p2) ∧ w = w'))
    (M3 : Hid (∀ w, Calls Tryd.prog 24 #[.int .u8 b, .bool q3] w fun e w' => e = .returned (.bool p3) ∧ w = w')) :
    Calls Tryd.prog 16 #[.agg #[.int .u8 op, .int .u8 d, .int .u8 a, .int .u8 b, .int .u32 im]] w fun e w' => e = .returned (.bool (p1 && (p2 && (p3 && (decide (im = 0) || q4))))) ∧ Below w.heap.size w w' := by
  have hb : Below w.heap.size w (w.alloc (.cells #[.int .u8 op, .int .u8 d, .int .u8 a, .int .u8 b, .int .u32 im] 24)) := (Below.refl _ _).alloc (Nat.le_refl _) _
  go_enter Tryd.func16, Tryd.ntmps16
  go_wp2_with fail
  refine (HU.out _).mono ?_; rintro e w1 ⟨rfl, q⟩
  have hz : w.heap.size + 1 ≤ w1.heap.size := by have := q.size; simpa using this
  have hc : ∀ o v, (w.alloc (.cells #[.int .u8 op, .int .u8 d, .int .u8 a, .int .u8 b, .int .u32 im] 24)).cell? ⟨w.heap.size, o, none⟩ = some v → (w1.alloc (.cells #[.bool q1, .bool q2, .bool q3, .bool q4] 35)).cell? ⟨w.heap.size, o, none⟩ = some v := by
    intro o v h
    rw [← h, World.cell?_alloc_past _ _ _ (by omega)]
    exact q.cell (p := ⟨w.heap.size, o, none⟩) (by simp)
  have c1 := hc 1 (.int .u8 d) (by simp [go_sem])
  have c2 := hc 2 (.int .u8 a) (by simp [go_sem])
  have c3 := hc 3 (.int .u8 b) (by simp [go_sem])
  have c4 := hc 4 (.int .u32 im) (by simp [go_sem])
  have HB := Lib.hid ((hb.trans (q.mono hb.size)).alloc (Nat.le_trans (Nat.le_succ _) hz) (.cells #[.bool q1, .bool q2, .bool q3, .bool q4] 35))
  clear hb q HU hc
  cases p1
  · go_wp2_with fail
    refine (M1.out _).mono ?_; rintro e w2 ⟨rfl, rfl⟩
    go_wp2
    go_ret
    exact ⟨rfl, HB.out⟩
  cases p2
  · go_wp2_with fail
    refine (M1.out _).mono ?_; rintro e w2 ⟨rfl, rfl⟩
    go_wp2_with fail
    refine (M2.out _).mono ?_; rintro e w2 ⟨rfl, rfl⟩
    go_wp2
    go_ret
    exact ⟨rfl, HB.out⟩
  cases p3
  · go_wp2_with fail
    refine (M1.out _).mono ?_; rintro e w2 ⟨rfl, rfl⟩
    go_wp2_with fail
    refine (M2.out _).mono ?_; rintro e w2 ⟨rfl, rfl⟩
    go_wp2_with fail
    refine (M3.out _).mono ?_; rintro e w2 ⟨rfl, rfl⟩
    go_wp2
    go_ret
    exact ⟨rfl, HB.out⟩
  cases q4
  · have t1 : (im == 0) = decide (im = 0) := rfl
    have T1 := Lib.hid t1
    clear t1
    go_wp2_with fail
    refine (M1.out _).mono ?_; rintro e w2 ⟨rfl, rfl⟩
    go_wp2_with fail
    refine (M2.out _).mono ?_; rintro e w2 ⟨rfl, rfl⟩
    go_wp2_with fail
    refine (M3.out _).mono ?_; rintro e w2 ⟨rfl, rfl⟩
    go_wp2
    go_ret
    exact ⟨ret_bool (by rw [← T1.out]; simp), HB.out⟩
  · go_wp2_with fail
    refine (M1.out _).mono ?_; rintro e w2 ⟨rfl, rfl⟩
    go_wp2_with fail
    refine (M2.out _).mono ?_; rintro e w2 ⟨rfl, rfl⟩
    go_wp2_with fail
    refine (M3.out _).mono ?_; rintro e w2 ⟨rfl, rfl⟩
    go_wp2
    go_ret
    exact ⟨ret_bool (by simp), HB.out⟩

include h0 h1 d0 d1 a0 a1 b0 b1 in
theorem may_any (w : World) :
    Calls Tryd.prog 16 #[.agg #[.int .u8 op, .int .u8 d, .int .u8 a, .int .u8 b, .int .u32 im]] w fun e w' => e = .returned (.bool (Ix.insnOk op d a b im)) ∧ Below w.heap.size w w' := by
  by_cases hop : Ix.isOp op = true
  · have e : Ix.insnOk op d a b im = (Ix.regOk d (Ix.uD op) && (Ix.regOk a (Ix.uA op) && (Ix.regOk b (Ix.uB op) && (decide (im = 0) || Ix.uI op)))) := by
      unfold Ix.insnOk
      rw [hop]
      simp only [Bool.true_and, Bool.and_assoc]
    rw [e]
    refine may_some op d a b im (Ix.uD op) (Ix.uA op) (Ix.uB op) (Ix.uI op) _ _ _ w (Lib.hid fun w' => ?_) (Lib.hid fun w => register_any d _ d0 d1 w) (Lib.hid fun w => register_any a _ a0 a1 w) (Lib.hid fun w => register_any b _ b0 b1 w)
    have := ruses_any op h0 h1 w'
    unfold rU rrow at this
    rw [hop] at this
    exact this
  · have hop' : Ix.isOp op = false := by simpa using hop
    have e : Ix.insnOk op d a b im = false := by
      unfold Ix.insnOk
      rw [hop']
      rfl
    rw [e]
    refine may_none op d a b im w true true true (Ix.uI op) (Lib.hid fun w' => ?_)
    have := ruses_any op h0 h1 w'
    unfold rU rrow at this
    rw [hop'] at this
    exact this
end
end Go.Proofs.YtillcbmjpcbpaaaDoor
