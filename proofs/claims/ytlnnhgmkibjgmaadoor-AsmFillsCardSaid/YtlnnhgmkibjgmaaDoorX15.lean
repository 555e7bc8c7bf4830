/- Some texts of one proof, one behind the other; each has its own head below. -/
import Derived.Test.YtlnnhgmkibjgmaaDoorX01
import Derived.Test.YtlnnhgmkibjgmaaDoorX02
import Derived.Test.YtlnnhgmkibjgmaaDoorX14
/- What ops use: package insn's Uses, by its table, and the document's own Uses; registers that may stand. -/
section
set_option linter.unusedVariables false
namespace Go.Proofs.YtlnnhgmkibjgmaaDoor.I
open Go.RowKit

/-- The table of what ops use stands as the program's text lays it. -/
def Tabled (w : World) : Prop := 0 < w.heap.size ∧ ∀ j, j < 51 → w.cell? ⟨0, j, none⟩ = some (.int .u8 ((Ix.tab.getD j 0 : Nat) : Int))
theorem Tabled.below {w w' : World} (h : Tabled w) (hb : Below w.heap.size w w') : Tabled w' :=
  ⟨Nat.lt_of_lt_of_le h.1 hb.size, fun j hj => (hb.cell (p := ⟨0, j, none⟩) h.1).trans (h.2 j hj)⟩
theorem Tabled.cell {w : World} (h : Tabled w) (op : Int) (h0 : 0 ≤ op) (h1 : op < 51) : w.cell? ⟨0, op.toNat, none⟩ = some (.int .u8 (Ix.bitsI op)) := h.2 op.toNat (by omega)

theorem ret5 {a b c d a' b' c' d' : Bool} {n n' : Int} (h1 : a = a') (h2 : b = b') (h3 : c = c') (h4 : d = d') (h5 : n = n') : Ending.returned (.tuple #[.bool a, .bool b, .bool c, .bool d, .int .i64 n]) = .returned (.tuple #[.bool a', .bool b', .bool c', .bool d', .int .i64 n']) := by
  rw [h1, h2, h3, h4, h5]
theorem results_tmp5 {fn : Func} {t u v x y : Tmp} (h : fn.results = #[.tmp t, .tmp u, .tmp v, .tmp x, .tmp y]) (tmps : Array Value) (P : Program) (w : World) :
    (results fn tmps).run P w = .ok (.tuple #[tmps.getD t undef, tmps.getD u undef, tmps.getD v undef, tmps.getD x undef, tmps.getD y undef]) w := by
  simp [results, h]

theorem bit_facts : ∀ k : Fin 15, (bits .and .u8 (k.val : Int) 1 != 0) = decide ((k.val : Int) % 2 = 1) ∧ (bits .and .u8 (k.val : Int) 2 != 0) = decide ((k.val : Int) / 2 % 2 = 1) ∧ (bits .and .u8 (k.val : Int) 4 != 0) = decide ((k.val : Int) / 4 % 2 = 1) ∧ (bits .and .u8 (k.val : Int) 8 != 0) = decide ((k.val : Int) / 8 % 2 = 1) := by decide
theorem bit_fact (v : Int) (h0 : 0 ≤ v) (h1 : v ≤ 14) : (bits .and .u8 v 1 != 0) = decide (v % 2 = 1) ∧ (bits .and .u8 v 2 != 0) = decide (v / 2 % 2 = 1) ∧ (bits .and .u8 v 4 != 0) = decide (v / 4 % 2 = 1) ∧ (bits .and .u8 v 8 != 0) = decide (v / 8 % 2 = 1) := by
  obtain ⟨k, rfl⟩ := Int.eq_ofNat_of_zero_le h0
  exact bit_facts ⟨k, by omega⟩

set_option maxHeartbeats 1000000 in
set_option maxRecDepth 100000 in
theorem uses_far (op : Int) (h0 : 51 ≤ op) (h1 : op < 256) (w : World) :
    Calls Tryd.prog 69 #[.int .u8 op] w fun e w' => e = .returned (.tuple #[.bool false, .bool false, .bool false, .bool false, .int .i64 2]) ∧ w = w' := by
  go_enter Tryd.func69, Tryd.ntmps69
  go_wp2
  refine bodyPost_ret (results_tmp5 rfl _ _ _) rfl ?_
  exact ⟨rfl, rfl⟩

set_option maxHeartbeats 1000000 in
set_option maxRecDepth 100000 in
theorem uses_none (op : Int) (h0 : 0 ≤ op) (h1 : op < 51) (w : World) (hc : w.cell? ⟨0, op.toNat, none⟩ = some (.int .u8 0)) :
    Calls Tryd.prog 69 #[.int .u8 op] w fun e w' => e = .returned (.tuple #[.bool false, .bool false, .bool false, .bool false, .int .i64 2]) ∧ w = w' := by
  go_enter Tryd.func69, Tryd.ntmps69
  go_wp2
  refine bodyPost_ret (results_tmp5 rfl _ _ _) rfl ?_
  exact ⟨rfl, rfl⟩

set_option maxHeartbeats 1000000 in
set_option maxRecDepth 100000 in
theorem uses_some (op v : Int) (h0 : 0 ≤ op) (h1 : op < 51) (w : World) (hc : w.cell? ⟨0, op.toNat, none⟩ = some (.int .u8 v)) (v0 : 0 < v) (v1 : v ≤ 14) :
    Calls Tryd.prog 69 #[.int .u8 op] w fun e w' => e = .returned (.tuple #[.bool (decide (v % 2 = 1)), .bool (decide (v / 2 % 2 = 1)), .bool (decide (v / 4 % 2 = 1)), .bool (decide (v / 8 % 2 = 1)), .int .i64 0]) ∧ w = w' := by
  obtain ⟨b1, b2, b3, b4⟩ := bit_fact v (by omega) v1
  have B1 := Lib.hid b1
  have B2 := Lib.hid b2
  have B3 := Lib.hid b3
  have B4 := Lib.hid b4
  have t0 : (v == 0) = false := by rw [beq_eq_false_iff_ne]; omega
  clear b1 b2 b3 b4
  go_enter Tryd.func69, Tryd.ntmps69
  go_wp2
  refine bodyPost_ret (results_tmp5 rfl _ _ _) rfl ?_
  exact ⟨ret5 B1.out B2.out B3.out B4.out rfl, rfl⟩

def usesE (op : Int) : Int := if Ix.isOp op = true then 0 else 2
def usesV (op : Int) (b : Bool) : Bool := Ix.isOp op && b

/-- Uses, whatever it is asked. -/
theorem uses_any (op : Int) (h0 : 0 ≤ op) (h1 : op < 256) (w : World) (hk : Tabled w) :
    Calls Tryd.prog 69 #[.int .u8 op] w fun e w' => e = .returned (.tuple #[.bool (usesV op (Ix.uD op)), .bool (usesV op (Ix.uA op)), .bool (usesV op (Ix.uB op)), .bool (usesV op (Ix.uI op)), .int .i64 (usesE op)]) ∧ w = w' := by
  have l0 := Ix.bitsI_lo op
  have l1 := Ix.bitsI_hi op
  by_cases hz : Ix.bitsI op = 0
  · have e : Ix.isOp op = false := by unfold Ix.isOp; rw [hz]; rfl
    unfold usesV usesE
    rw [e]
    by_cases h : op < 51
    · have hc := hk.cell op h0 h
      rw [hz] at hc
      exact uses_none op h0 h w hc
    · exact uses_far op (by omega) h1 w
  · have e : Ix.isOp op = true := by unfold Ix.isOp; rw [decide_eq_true_eq]; exact hz
    unfold usesV usesE
    rw [e]
    have h : op < 51 := by
      rcases Int.lt_or_le op 51 with h | h
      · exact h
      · exact absurd (Ix.bitsI_far op h) hz
    exact uses_some op _ h0 h w (hk.cell op h0 h) (by omega) l1

/-! registers -/
theorem ret_bool {a b : Bool} (h : a = b) : Ending.returned (.bool a) = .returned (.bool b) := by rw [h]
theorem reg_1 (u : Bool) : true = Ix.regOk 0 u := by unfold Ix.regOk; rfl
theorem reg_2 (r : Int) : (r == 0 || decide (r < 16)) = Ix.regOk r true := by
  unfold Ix.regOk
  rw [Bool.true_and, show (r == 0) = decide (r = 0) from rfl]
theorem reg_3 (r : Int) : (r == 0) = Ix.regOk r false := by
  unfold Ix.regOk
  rw [Bool.false_and, Bool.or_false, show (r == 0) = decide (r = 0) from rfl]

set_option maxHeartbeats 1000000 in
theorem mayBe_any (r : Int) (u : Bool) (h0 : 0 ≤ r) (h1 : r < 256) (w : World) :
    Calls Tryd.prog 70 #[.int .u8 r, .bool u] w fun e w' => e = .returned (.bool (Ix.regOk r u)) ∧ w = w' := by
  go_enter Tryd.func70, Tryd.ntmps70
  go_wp2
  all_goals
    go_ret
    refine ⟨?_, rfl⟩
    first
      | (simp only [*]; exact ret_bool (reg_1 u))
      | (simp only [*]; exact ret_bool (reg_2 r))
      | (simp only [Bool.not_eq_true] at *; simp only [*]; exact ret_bool (reg_3 r))
set_option maxHeartbeats 1000000 in
theorem register_any (r : Int) (u : Bool) (h0 : 0 ≤ r) (h1 : r < 256) (w : World) :
    Calls Tryd.prog 78 #[.int .u8 r, .bool u] w fun e w' => e = .returned (.bool (Ix.regOk r u)) ∧ w = w' := by
  go_enter Tryd.func78, Tryd.ntmps78
  go_wp2
  all_goals
    go_ret
    refine ⟨?_, rfl⟩
    first
      | (simp only [*]; exact ret_bool (reg_1 u))
      | (simp only [*]; exact ret_bool (reg_2 r))
      | (simp only [Bool.not_eq_true] at *; simp only [*]; exact ret_bool (reg_3 r))

/-! the document's table -/
def rrow (op : Int) (k : Bool) : Bool := !Ix.isOp op || k
def rU (op : Int) : Value := .tuple #[.agg #[.bool (rrow op (Ix.uD op)), .bool (rrow op (Ix.uA op)), .bool (rrow op (Ix.uB op)), .bool (Ix.uI op)], .bool (Ix.isOp op)]
theorem rU_fin : ∀ k : Fin 256, ¬ k.val ∈ [17, 19, 22, 23, 24, 25, 26, 29, 30, 33, 34, 32, 41, 35, 36, 43, 44, 45, 46, 40, 50, 42] →
    rrow (k.val : Int) (Ix.uD k.val) = true ∧ rrow (k.val : Int) (Ix.uA k.val) = true ∧ rrow (k.val : Int) (Ix.uB k.val) = true ∧ Ix.uI (k.val : Int) = false ∧ Ix.isOp (k.val : Int) = decide (1 ≤ k.val ∧ k.val ≤ 14) := by decide +kernel
theorem rU_rest (op : Int) (h0 : 1 ≤ op) (h1 : op < 256) (h : ¬ op.toNat ∈ [17, 19, 22, 23, 24, 25, 26, 29, 30, 33, 34, 32, 41, 35, 36, 43, 44, 45, 46, 40, 50, 42]) :
    Value.tuple #[.agg #[.bool true, .bool true, .bool true, .bool false], .bool (decide (op ≤ 14))] = rU op := by
  obtain ⟨k, rfl⟩ := Int.eq_ofNat_of_zero_le (by omega : 0 ≤ op)
  obtain ⟨e1, e2, e3, e4, e5⟩ := rU_fin ⟨k, by omega⟩ h
  simp only at e1 e2 e3 e4 e5
  unfold rU
  rw [e1, e2, e3, e4, e5]
  have : decide ((k : Int) ≤ 14) = decide (1 ≤ k ∧ k ≤ 14) := by
    rw [Bool.eq_iff_iff, decide_eq_true_eq, decide_eq_true_eq]; omega
  rw [this]
theorem rU_zero (op : Int) (h0 : 0 ≤ op) (h1 : op < 1) : Value.tuple #[.agg #[.bool true, .bool true, .bool true, .bool false], .bool false] = rU op := by
  obtain rfl : op = 0 := by omega
  rfl
set_option maxHeartbeats 4000000 in
set_option maxRecDepth 100000 in
theorem ruses_any (op : Int) (h0 : 0 ≤ op) (h1 : op < 256) (w : World) :
    Calls Tryd.prog 77 #[.int .u8 op] w fun e w' => e = .returned (rU op) ∧ Below w.heap.size w w' := by
  go_enter Tryd.func77, Tryd.ntmps77
  go_wp2
  all_goals (simp only [beq_iff_eq, beq_eq_false_iff_ne, ne_eq] at *)
  all_goals first
    | (subst_vars; refine bodyPost_ret (v := rU _) (by simp [results, Tryd.results77, go_sem]; rfl) rfl ⟨rfl, ?_⟩)
    | refine bodyPost_ret (v := rU _) (by simp [results, Tryd.results77, go_sem]; exact congrArg (fun v => Result.ok v _) (rU_zero op h0 (by assumption))) rfl ⟨rfl, ?_⟩
    | refine bodyPost_ret (v := rU _) (by simp [results, Tryd.results77, go_sem]; first | exact rU_zero op h0 (by assumption) | exact rU_rest op (by assumption) h1 (by simp; omega)) rfl ⟨rfl, ?_⟩
  all_goals exact (Below.refl _ _).alloc (Nat.le_refl _) _
end Go.Proofs.YtlnnhgmkibjgmaaDoor.I
end

/- Which instructions may be: package insn's Check, and the document's own May. -/
section
set_option linter.unusedVariables false
namespace Go.Proofs.YtlnnhgmkibjgmaaDoor.I
open Go.RowKit

theorem ret_i64 {a b : Int} (h : a = b) : Ending.returned (.int .i64 a) = .returned (.int .i64 b) := by rw [h]

section
variable (op d a b im : Int) (h0 : 0 ≤ op) (h1 : op < 256) (d0 : 0 ≤ d) (d1 : d < 256) (a0 : 0 ≤ a) (a1 : a < 256) (b0 : 0 ≤ b) (b1 : b < 256) (i0 : 0 ≤ im) (i1 : im < 4294967296)

set_option maxHeartbeats 1000000 in
set_option maxRecDepth 100000 in
theorem check_none (w : World) (HU : Hid (∀ w', Below w.heap.size w w' → Calls Tryd.prog 69 #[.int .u8 op] w' fun e w'' => e = .returned (.tuple #[.bool false, .bool false, .bool false, .bool false, .int .i64 2]) ∧ w' = w'')) :
    Calls Tryd.prog 50 #[.agg #[.int .u8 op, .int .u8 d, .int .u8 a, .int .u8 b, .int .u32 im]] w fun e w' => e = .returned (.int .i64 2) ∧ Below w.heap.size w w' := by
  have hb : Below w.heap.size w (w.alloc (.cells #[.int .u8 op, .int .u8 d, .int .u8 a, .int .u8 b, .int .u32 im] 40)) := (Below.refl _ _).alloc (Nat.le_refl _) _
  have HU1 := Lib.hid (HU.out _ hb)
  clear HU
  go_enter Tryd.func50, Tryd.ntmps50
  go_wp2_with (go_at_call 69; refine HU1.out.mono ?_; rintro e w1 ⟨rfl, rfl⟩)
  go_ret
  exact ⟨rfl, hb⟩

set_option maxHeartbeats 2000000 in
set_option maxRecDepth 100000 in
theorem check_some (q1 q2 q3 q4 p1 p2 p3 : Bool) (w : World)
    (HU : Hid (∀ w', Below w.heap.size w w' → Calls Tryd.prog 69 #[.int .u8 op] w' fun e w'' => e = .returned (.tuple #[.bool q1, .bool q2, .bool q3, .bool q4, .int .i64 0]) ∧ w' = w''))
    (M1 : Hid (∀ w, Calls Tryd.prog 70 #[.int .u8 d, .bool q1] w fun e w' => e = .returned (.bool p1) ∧ w = w'))
    (M2 : Hid (∀ w, Calls Tryd.prog 70 #[.int .u8 a, .bool q2] w fun e w' => e = .returned (.bool p2) ∧ w = w'))
    (M3 : Hid (∀ w, Calls Tryd.prog 70 #[.int .u8 b, .bool q3] w fun e w' => e = .returned (.bool p3) ∧ w = w')) :
    Calls Tryd.prog 50 #[.agg #[.int .u8 op, .int .u8 d, .int .u8 a, .int .u8 b, .int .u32 im]] w fun e w' => e = .returned (.int .i64 (if (p1 && (p2 && (p3 && (decide (im = 0) || q4)))) = true then 0 else 2)) ∧ Below w.heap.size w w' := by
  have hb : Below w.heap.size w (w.alloc (.cells #[.int .u8 op, .int .u8 d, .int .u8 a, .int .u8 b, .int .u32 im] 40)) := (Below.refl _ _).alloc (Nat.le_refl _) _
  have HU1 := Lib.hid (HU.out _ hb)
  clear HU
  have HB := Lib.hid hb
  clear hb
  cases p1
  · go_enter Tryd.func50, Tryd.ntmps50
    go_wp2_with (first | (go_at_call 69; refine HU1.out.mono ?_; rintro e w1 ⟨rfl, rfl⟩) | (go_at_call 70; refine (M1.out _).mono ?_; rintro e w1 ⟨rfl, rfl⟩))
    go_ret
    exact ⟨rfl, HB.out⟩
  cases p2
  · go_enter Tryd.func50, Tryd.ntmps50
    go_wp2_with fail
    refine HU1.out.mono ?_; rintro e w1 ⟨rfl, rfl⟩
    go_wp2_with fail
    refine (M1.out _).mono ?_; rintro e w1 ⟨rfl, rfl⟩
    go_wp2_with fail
    refine (M2.out _).mono ?_; rintro e w1 ⟨rfl, rfl⟩
    go_wp2
    go_ret
    exact ⟨rfl, HB.out⟩
  cases p3
  · go_enter Tryd.func50, Tryd.ntmps50
    go_wp2_with fail
    refine HU1.out.mono ?_; rintro e w1 ⟨rfl, rfl⟩
    go_wp2_with fail
    refine (M1.out _).mono ?_; rintro e w1 ⟨rfl, rfl⟩
    go_wp2_with fail
    refine (M2.out _).mono ?_; rintro e w1 ⟨rfl, rfl⟩
    go_wp2_with fail
    refine (M3.out _).mono ?_; rintro e w1 ⟨rfl, rfl⟩
    go_wp2
    go_ret
    exact ⟨rfl, HB.out⟩
  by_cases hz : im = 0
  · subst hz
    go_enter Tryd.func50, Tryd.ntmps50
    go_wp2_with fail
    refine HU1.out.mono ?_; rintro e w1 ⟨rfl, rfl⟩
    go_wp2_with fail
    refine (M1.out _).mono ?_; rintro e w1 ⟨rfl, rfl⟩
    go_wp2_with fail
    refine (M2.out _).mono ?_; rintro e w1 ⟨rfl, rfl⟩
    go_wp2_with fail
    refine (M3.out _).mono ?_; rintro e w1 ⟨rfl, rfl⟩
    go_wp2
    go_ret
    exact ⟨by simp, HB.out⟩
  · have t1 : (im == 0) = false := by rw [beq_eq_false_iff_ne]; exact hz
    have t2 : (im != 0) = true := by rw [bne_iff_ne]; exact hz
    have t3 : decide (im = 0) = false := by rw [decide_eq_false_iff_not]; exact hz
    rw [t3]
    clear hz t3
    cases q4
    all_goals
      go_enter Tryd.func50, Tryd.ntmps50
      go_wp2_with fail
      refine HU1.out.mono ?_; rintro e w1 ⟨rfl, rfl⟩
      go_wp2_with fail
      refine (M1.out _).mono ?_; rintro e w1 ⟨rfl, rfl⟩
      go_wp2_with fail
      refine (M2.out _).mono ?_; rintro e w1 ⟨rfl, rfl⟩
      go_wp2_with fail
      refine (M3.out _).mono ?_; rintro e w1 ⟨rfl, rfl⟩
      go_wp2
      go_ret
      exact ⟨rfl, HB.out⟩

def errI (op d a b im : Int) : Int := Ix.err op d a b im

include h0 h1 d0 d1 a0 a1 b0 b1 in
/-- Check, whatever it is asked. -/
theorem icheck_any (w : World) (hk : Tabled w) :
    Calls Tryd.prog 50 #[.agg #[.int .u8 op, .int .u8 d, .int .u8 a, .int .u8 b, .int .u32 im]] w fun e w' => e = .returned (.int .i64 (errI op d a b im)) ∧ Below w.heap.size w w' := by
  by_cases hop : Ix.isOp op = true
  · have e : errI op d a b im = if (Ix.regOk d (Ix.uD op) && (Ix.regOk a (Ix.uA op) && (Ix.regOk b (Ix.uB op) && (decide (im = 0) || Ix.uI op)))) = true then 0 else 2 := by
      unfold errI Ix.err Ix.insnOk
      rw [hop]
      simp only [Bool.true_and, Bool.and_assoc]
    rw [e]
    refine check_some op d a b im (Ix.uD op) (Ix.uA op) (Ix.uB op) (Ix.uI op) _ _ _ w (Lib.hid fun w' hb => ?_) (Lib.hid fun w => mayBe_any d _ d0 d1 w) (Lib.hid fun w => mayBe_any a _ a0 a1 w) (Lib.hid fun w => mayBe_any b _ b0 b1 w)
    have := uses_any op h0 h1 w' (hk.below hb)
    unfold usesV usesE at this
    rw [hop] at this
    exact this
  · have hop' : Ix.isOp op = false := by simpa using hop
    have e : errI op d a b im = 2 := by
      unfold errI Ix.err Ix.insnOk
      rw [hop']
      rfl
    rw [e]
    refine check_none op d a b im w (Lib.hid fun w' hb => ?_)
    have := uses_any op h0 h1 w' (hk.below hb)
    unfold usesV usesE at this
    rw [hop'] at this
    exact this

/-! the document's May -/
set_option maxHeartbeats 2000000 in
set_option maxRecDepth 100000 in
theorem may_none (w : World) (r1 r2 r3 r4 : Bool)
    (HU : Hid (∀ w', Calls Tryd.prog 77 #[.int .u8 op] w' fun e w'' => e = .returned (.tuple #[.agg #[.bool r1, .bool r2, .bool r3, .bool r4], .bool false]) ∧ Below w'.heap.size w' w'')) :
    Calls Tryd.prog 59 #[.agg #[.int .u8 op, .int .u8 d, .int .u8 a, .int .u8 b, .int .u32 im]] w fun e w' => e = .returned (.bool false) ∧ Below w.heap.size w w' := by
  have hb : Below w.heap.size w (w.alloc (.cells #[.int .u8 op, .int .u8 d, .int .u8 a, .int .u8 b, .int .u32 im] 40)) := (Below.refl _ _).alloc (Nat.le_refl _) _
  go_enter Tryd.func59, Tryd.ntmps59
  go_wp2_with fail
  refine (HU.out _).mono ?_; rintro e w1 ⟨rfl, q⟩
  replace hb := hb.trans (q.mono hb.size); clear q
  go_wp2
  go_ret
  exact ⟨rfl, hb.alloc hb.size _⟩

def row4 (r1 r2 r3 r4 : Bool) : Array Value := #[.bool r1, .bool r2, .bool r3, .bool r4]

set_option maxHeartbeats 4000000 in
set_option maxRecDepth 100000 in
theorem may_some (q1 q2 q3 q4 p1 p2 p3 : Bool) (w : World)
    (HU : Hid (∀ w', Calls Tryd.prog 77 #[.int .u8 op] w' fun e w'' => e = .returned (.tuple #[.agg #[.bool q1, .bool q2, .bool q3, .bool q4], .bool true]) ∧ Below w'.heap.size w' w''))
    (M1 : Hid (∀ w, Calls Tryd.prog 78 #[.int .u8 d, .bool q1] w fun e w' => e = .returned (.bool p1) ∧ w = w'))
    (M2 : Hid (∀ w, Calls Tryd.prog 78 #[.int .u8 a, .bool q2] w fun e w' => e = .returned (.bool p2) ∧ w = w'))
    (M3 : Hid (∀ w, Calls Tryd.prog 78 #[.int .u8 b, .bool q3] w fun e w' => e = .returned (.bool p3) ∧ w = w')) :
    Calls Tryd.prog 59 #[.agg #[.int .u8 op, .int .u8 d, .int .u8 a, .int .u8 b, .int .u32 im]] w fun e w' => e = .returned (.bool (p1 && (p2 && (p3 && (decide (im = 0) || q4))))) ∧ Below w.heap.size w w' := by
  have hb : Below w.heap.size w (w.alloc (.cells #[.int .u8 op, .int .u8 d, .int .u8 a, .int .u8 b, .int .u32 im] 40)) := (Below.refl _ _).alloc (Nat.le_refl _) _
  go_enter Tryd.func59, Tryd.ntmps59
  go_wp2_with fail
  refine (HU.out _).mono ?_; rintro e w1 ⟨rfl, q⟩
  have hz : w.heap.size + 1 ≤ w1.heap.size := by have := q.size; simpa using this
  have hc : ∀ o v, (w.alloc (.cells #[.int .u8 op, .int .u8 d, .int .u8 a, .int .u8 b, .int .u32 im] 40)).cell? ⟨w.heap.size, o, none⟩ = some v → (w1.alloc (.cells #[.bool q1, .bool q2, .bool q3, .bool q4] 113)).cell? ⟨w.heap.size, o, none⟩ = some v := by
    intro o v h
    rw [← h, World.cell?_alloc_past _ _ _ (by omega)]
    exact q.cell (p := ⟨w.heap.size, o, none⟩) (by simp)
  have c1 := hc 1 (.int .u8 d) (by simp [go_sem])
  have c2 := hc 2 (.int .u8 a) (by simp [go_sem])
  have c3 := hc 3 (.int .u8 b) (by simp [go_sem])
  have c4 := hc 4 (.int .u32 im) (by simp [go_sem])
  have HB := Lib.hid ((hb.trans (q.mono hb.size)).alloc (Nat.le_trans (Nat.le_succ _) hz) (.cells #[.bool q1, .bool q2, .bool q3, .bool q4] 113))
  clear hb q HU hc
  cases p1
  · go_wp2_with fail
    refine (M1.out _).mono ?_; rintro e w2 ⟨rfl, rfl⟩
    go_wp2
    go_ret
    exact ⟨rfl, HB.out⟩
  cases p2
  · go_wp2_with fail
    refine (M1.out _).mono ?_; rintro e w2 ⟨rfl, rfl⟩
    go_wp2_with fail
    refine (M2.out _).mono ?_; rintro e w2 ⟨rfl, rfl⟩
    go_wp2
    go_ret
    exact ⟨rfl, HB.out⟩
  cases p3
  · go_wp2_with fail
    refine (M1.out _).mono ?_; rintro e w2 ⟨rfl, rfl⟩
    go_wp2_with fail
    refine (M2.out _).mono ?_; rintro e w2 ⟨rfl, rfl⟩
    go_wp2_with fail
    refine (M3.out _).mono ?_; rintro e w2 ⟨rfl, rfl⟩
    go_wp2
    go_ret
    exact ⟨rfl, HB.out⟩
  cases q4
  · have t1 : (im == 0) = decide (im = 0) := rfl
    have T1 := Lib.hid t1
    clear t1
    go_wp2_with fail
    refine (M1.out _).mono ?_; rintro e w2 ⟨rfl, rfl⟩
    go_wp2_with fail
    refine (M2.out _).mono ?_; rintro e w2 ⟨rfl, rfl⟩
    go_wp2_with fail
    refine (M3.out _).mono ?_; rintro e w2 ⟨rfl, rfl⟩
    go_wp2
    go_ret
    exact ⟨ret_bool (by rw [← T1.out]; simp), HB.out⟩
  · go_wp2_with fail
    refine (M1.out _).mono ?_; rintro e w2 ⟨rfl, rfl⟩
    go_wp2_with fail
    refine (M2.out _).mono ?_; rintro e w2 ⟨rfl, rfl⟩
    go_wp2_with fail
    refine (M3.out _).mono ?_; rintro e w2 ⟨rfl, rfl⟩
    go_wp2
    go_ret
    exact ⟨ret_bool (by simp), HB.out⟩

include h0 h1 d0 d1 a0 a1 b0 b1 in
theorem may_any (w : World) :
    Calls Tryd.prog 59 #[.agg #[.int .u8 op, .int .u8 d, .int .u8 a, .int .u8 b, .int .u32 im]] w fun e w' => e = .returned (.bool (Ix.insnOk op d a b im)) ∧ Below w.heap.size w w' := by
  by_cases hop : Ix.isOp op = true
  · have e : Ix.insnOk op d a b im = (Ix.regOk d (Ix.uD op) && (Ix.regOk a (Ix.uA op) && (Ix.regOk b (Ix.uB op) && (decide (im = 0) || Ix.uI op)))) := by
      unfold Ix.insnOk
      rw [hop]
      simp only [Bool.true_and, Bool.and_assoc]
    rw [e]
    refine may_some op d a b im (Ix.uD op) (Ix.uA op) (Ix.uB op) (Ix.uI op) _ _ _ w (Lib.hid fun w' => ?_) (Lib.hid fun w => register_any d _ d0 d1 w) (Lib.hid fun w => register_any a _ a0 a1 w) (Lib.hid fun w => register_any b _ b0 b1 w)
    have := ruses_any op h0 h1 w'
    unfold rU rrow at this
    rw [hop] at this
    exact this
  · have hop' : Ix.isOp op = false := by simpa using hop
    have e : Ix.insnOk op d a b im = false := by
      unfold Ix.insnOk
      rw [hop']
      rfl
    rw [e]
    refine may_none op d a b im w true true true (Ix.uI op) (Lib.hid fun w' => ?_)
    have := ruses_any op h0 h1 w'
    unfold rU rrow at this
    rw [hop'] at this
    exact this
end
end Go.Proofs.YtlnnhgmkibjgmaaDoor.I
end
