/- What ops use: package insn's Uses, by its table, and the document's own Uses; registers that may stand. -/
import Derived.Test.YtillcbmjpcbpaaaDoorWE
import Derived.Test.YtillcbmjpcbpaaaDoorIM
set_option linter.unusedVariables false
namespace Go.Proofs.YtillcbmjpcbpaaaDoor
open Go.RowKit

/-- The table of what ops use stands as the program's text lays it. -/
def Tabled (w : World) : Prop := 0 < w.heap.size ∧ ∀ j, j < 51 → w.cell? ⟨0, j, none⟩ = some (.int .u8 ((Ix.tab.getD j 0 : Nat) : Int))
theorem Tabled.below {w w' : World} (h : Tabled w) (hb : Below w.heap.size w w') : Tabled w' :=
  ⟨Nat.lt_of_lt_of_le h.1 hb.size, fun j hj => (hb.cell (p := ⟨0, j, none⟩) h.1).trans (h.2 j hj)⟩
theorem Tabled.cell {w : World} (h : Tabled w) (op : Int) (h0 : 0 ≤ op) (h1 : op < 51) : w.cell? ⟨0, op.toNat, none⟩ = some (.int .u8 (Ix.bitsI op)) := h.2 op.toNat (by omega)

theorem ret5 {a b c d a' b' c' d' : Bool} {n n' : Int} (h1 : a = a') (h2 : b = b') (h3 : c = c') (h4 : d = d') (h5 : n = n') : Ending.returned (.tuple #[.bool a, .bool b, .bool c, .bool d, .int .i64 n]) = .returned (.tuple #[.bool a', .bool b', .bool c', .bool d', .int .i64 n']) := by
  rw [h1, h2, h3, h4, h5]
theorem results_tmp5 {fn : Func} {t u v x y : Tmp} (h : fn.results = #[.tmp t, .tmp u, .tmp v, .tmp x, .tmp y]) (tmps : Array Value) (P : Program) (w : World) :
    (results fn tmps).run P w = .ok (.tuple #[tmps.getD t undef, tmps.getD u undef, tmps.getD v undef, tmps.getD x undef, tmps.getD y undef]) w := by
  simp [results, h]

theorem bit_facts : ∀ k : Fin 15, (bits .and .u8 (k.val : Int) 1 != 0) = decide ((k.val : Int) % 2 = 1) ∧ (bits .and .u8 (k.val : Int) 2 != 0) = decide ((k.val : Int) / 2 % 2 = 1) ∧ (bits .and .u8 (k.val : Int) 4 != 0) = decide ((k.val : Int) / 4 % 2 = 1) ∧ (bits .and .u8 (k.val : Int) 8 != 0) = decide ((k.val : Int) / 8 % 2 = 1) := by decide
theorem bit_fact (v : Int) (h0 : 0 ≤ v) (h1 : v ≤ 14) : (bits .and .u8 v 1 != 0) = decide (v % 2 = 1) ∧ (bits .and .u8 v 2 != 0) = decide (v / 2 % 2 = 1) ∧ (bits .and .u8 v 4 != 0) = decide (v / 4 % 2 = 1) ∧ (bits .and .u8 v 8 != 0) = decide (v / 8 % 2 = 1) := by
  obtain ⟨k, rfl⟩ := Int.eq_ofNat_of_zero_le h0
  exact bit_facts ⟨k, by omega⟩

set_option maxHeartbeats 1000000 in
set_option maxRecDepth 100000 in
theorem uses_far (op : Int) (h0 : 51 ≤ op) (h1 : op < 256) (w : World) :
    Calls Tryd.prog 12 #[.int .u8 op] w fun e w' => e = .returned (.tuple #[.bool false, .bool false, .bool false, .bool false, .int .i64 2]) ∧ w = w' := by
  go_enter Tryd.func12, Tryd.ntmps12
  go_wp2
  refine bodyPost_ret (results_tmp5 rfl _ _ _) rfl ?_
  exact ⟨rfl, rfl⟩

set_option maxHeartbeats 1000000 in
set_option maxRecDepth 100000 in
theorem uses_none (op : Int) (h0 : 0 ≤ op) (h1 : op < 51) (w : World) (hc : w.cell? ⟨0, op.toNat, none⟩ = some (.int .u8 0)) :
    Calls Tryd.prog 12 #[.int .u8 op] w fun e w' => e = .returned (.tuple #[.bool false, .bool false, .bool false, .bool false, .int .i64 2]) ∧ w = w' := by
  go_enter Tryd.func12, Tryd.ntmps12
  go_wp2
  refine bodyPost_ret (results_tmp5 rfl _ _ _) rfl ?_
  exact ⟨rfl, rfl⟩

set_option maxHeartbeats 1000000 in
set_option maxRecDepth 100000 in
theorem uses_some (op v : Int) (h0 : 0 ≤ op) (h1 : op < 51) (w : World) (hc : w.cell? ⟨0, op.toNat, none⟩ = some (.int .u8 v)) (v0 : 0 < v) (v1 : v ≤ 14) :
    Calls Tryd.prog 12 #[.int .u8 op] w fun e w' => e = .returned (.tuple #[.bool (decide (v % 2 = 1)), .bool (decide (v / 2 % 2 = 1)), .bool (decide (v / 4 % 2 = 1)), .bool (decide (v / 8 % 2 = 1)), .int .i64 0]) ∧ w = w' := by
  obtain ⟨b1, b2, b3, b4⟩ := bit_fact v (by omega) v1
  have B1 := Lib.hid b1
  have B2 := Lib.hid b2
  have B3 := Lib.hid b3
  have B4 := Lib.hid b4
  have t0 : (v == 0) = false := by rw [beq_eq_false_iff_ne]; omega
  clear b1 b2 b3 b4
  go_enter Tryd.func12, Tryd.ntmps12
  go_wp2
  refine bodyPost_ret (results_tmp5 rfl _ _ _) rfl ?_
  exact ⟨ret5 B1.out B2.out B3.out B4.out rfl, rfl⟩

def usesE (op : Int) : Int := if Ix.isOp op = true then 0 else 2
def usesV (op : Int) (b : Bool) : Bool := Ix.isOp op && b

/-- Uses, whatever it is asked. -/
theorem uses_any (op : Int) (h0 : 0 ≤ op) (h1 : op < 256) (w : World) (hk : Tabled w) :
    Calls Tryd.prog 12 #[.int .u8 op] w fun e w' => e = .returned (.tuple #[.bool (usesV op (Ix.uD op)), .bool (usesV op (Ix.uA op)), .bool (usesV op (Ix.uB op)), .bool (usesV op (Ix.uI op)), .int .i64 (usesE op)]) ∧ w = w' := by
  have l0 := Ix.bitsI_lo op
  have l1 := Ix.bitsI_hi op
  by_cases hz : Ix.bitsI op = 0
  · have e : Ix.isOp op = false := by unfold Ix.isOp; rw [hz]; rfl
    unfold usesV usesE
    rw [e]
    by_cases h : op < 51
    · have hc := hk.cell op h0 h
      rw [hz] at hc
      exact uses_none op h0 h w hc
    · exact uses_far op (by omega) h1 w
  · have e : Ix.isOp op = true := by unfold Ix.isOp; rw [decide_eq_true_eq]; exact hz
    unfold usesV usesE
    rw [e]
    have h : op < 51 := by
      rcases Int.lt_or_le op 51 with h | h
      · exact h
      · exact absurd (Ix.bitsI_far op h) hz
    exact uses_some op _ h0 h w (hk.cell op h0 h) (by omega) l1

/-! registers -/
theorem ret_bool {a b : Bool} (h : a = b) : Ending.returned (.bool a) = .returned (.bool b) := by rw [h]
theorem reg_1 (u : Bool) : true = Ix.regOk 0 u := by unfold Ix.regOk; rfl
theorem reg_2 (r : Int) : (r == 0 || decide (r < 16)) = Ix.regOk r true := by
  unfold Ix.regOk
  rw [Bool.true_and, show (r == 0) = decide (r = 0) from rfl]
theorem reg_3 (r : Int) : (r == 0) = Ix.regOk r false := by
  unfold Ix.regOk
  rw [Bool.false_and, Bool.or_false, show (r == 0) = decide (r = 0) from rfl]

set_option maxHeartbeats 1000000 in
theorem mayBe_any (r : Int) (u : Bool) (h0 : 0 ≤ r) (h1 : r < 256) (w : World) :
    Calls Tryd.prog 20 #[.int .u8 r, .bool u] w fun e w' => e = .returned (.bool (Ix.regOk r u)) ∧ w = w' := by
  go_enter Tryd.func20, Tryd.ntmps20
  go_wp2
  all_goals
    go_ret
    refine ⟨?_, rfl⟩
    first
      | (simp only [*]; exact ret_bool (reg_1 u))
      | (simp only [*]; exact ret_bool (reg_2 r))
      | (simp only [Bool.not_eq_true] at *; simp only [*]; exact ret_bool (reg_3 r))
set_option maxHeartbeats 1000000 in
theorem register_any (r : Int) (u : Bool) (h0 : 0 ≤ r) (h1 : r < 256) (w : World) :
    Calls Tryd.prog 24 #[.int .u8 r, .bool u] w fun e w' => e = .returned (.bool (Ix.regOk r u)) ∧ w = w' := by
  go_enter Tryd.func24, Tryd.ntmps24
  go_wp2
  all_goals
    go_ret
    refine ⟨?_, rfl⟩
    first
      | (simp only [*]; exact ret_bool (reg_1 u))
      | (simp only [*]; exact ret_bool (reg_2 r))
      | (simp only [Bool.not_eq_true] at *; simp only [*]; exact ret_bool (reg_3 r))

/-! the document's table -/
def rrow (op : Int) (k : Bool) : Bool := !Ix.isOp op || k
def rU (op : Int) : Value := .tuple #[.agg #[.bool (rrow op (Ix.uD op)), .bool (rrow op (Ix.uA op)), .bool (rrow op (Ix.uB op)), .bool (Ix.uI op)], .bool (Ix.isOp op)]
theorem rU_fin : ∀ k : Fin 256, ¬ k.val ∈ [17, 19, 22, 23, 24, 25, 26, 29, 30, 33, 34, 32, 41, 35, 36, 43, 44, 45, 46, 40, 50, 42] →
    rrow (k.val : Int) (Ix.uD k.val) = true ∧ rrow (k.val : Int) (Ix.uA k.val) = true ∧ rrow (k.val : Int) (Ix.uB k.val) = true ∧ Ix.uI (k.val : Int) = false ∧ Ix.isOp (k.val : Int) = decide (1 ≤ k.val ∧ k.val ≤ 14) := by decide +kernel
theorem rU_rest (op : Int) (h0 : 1 ≤ op) (h1 : op < 256) (h : ¬ op.toNat ∈ [17, 19, 22, 23, 24, 25, 26, 29, 30, 33, 34, 32, 41, 35, 36, 43, 44, 45, 46, 40, 50, 42]) :
    Value.tuple #[.agg #[.bool true, .bool true, .bool true, .bool false], .bool (decide (op ≤ 14))] = rU op := by
  obtain ⟨k, rfl⟩ := Int.eq_ofNat_of_zero_le (by omega : 0 ≤ op)
  obtain ⟨e1, e2, e3, e4, e5⟩ := rU_fin ⟨k, by omega⟩ h
  simp only at e1 e2 e3 e4 e5
  unfold rU
  rw [e1, e2, e3, e4, e5]
  have : decide ((k : Int) ≤ 14) = decide (1 ≤ k ∧ k ≤ 14) := by
    rw [Bool.eq_iff_iff, decide_eq_true_eq, decide_eq_true_eq]; omega
  rw [this]
theorem rU_zero (op : Int) (h0 : 0 ≤ op) (h1 : op < 1) : Value.tuple #[.agg #[.bool true, .bool true, .bool true, .bool false], .bool false] = rU op := by
  obtain rfl : op = 0 := by omega
  rfl
set_option maxHeartbeats 4000000 in
set_option maxRecDepth 100000 in
theorem ruses_any (op : Int) (h0 : 0 ≤ op) (h1 : op < 256) (w : World) :
    Calls Tryd.prog 13 #[.int .u8 op] w fun e w' => e = .returned (rU op) ∧ Below w.heap.size w w' := by
  go_enter Tryd.func13, Tryd.ntmps13
  go_wp2
  all_goals (simp only [beq_iff_eq, beq_eq_false_iff_ne, ne_eq] at *)
  all_goals first
    | (subst_vars; refine bodyPost_ret (v := rU _) (by simp [results, Tryd.results13, go_sem]; rfl) rfl ⟨rfl, ?_⟩)
    | refine bodyPost_ret (v := rU _) (by simp [results, Tryd.results13, go_sem]; exact congrArg (fun v => Result.ok v _) (rU_zero op h0 (by assumption))) rfl ⟨rfl, ?_⟩
    | refine bodyPost_ret (v := rU _) (by simp [results, Tryd.results13, go_sem]; first | exact rU_zero op h0 (by assumption) | exact rU_rest op (by assumption) h1 (by simp; omega)) rfl ⟨rfl, ?_⟩
  all_goals exact (Below.refl _ _).alloc (Nat.le_refl _) _
end Go.Proofs.YtillcbmjpcbpaaaDoor
