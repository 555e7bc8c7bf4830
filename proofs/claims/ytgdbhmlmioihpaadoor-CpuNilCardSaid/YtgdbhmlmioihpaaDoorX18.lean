/- The small functions of the program's cpu: which numbers are registers; how one is set; a stop of a fault. -/
import Derived.Test.YtgdbhmlmioihpaaDoorX17
import Derived.Laws.ResultCell
set_option linter.unusedVariables false
namespace Go.Proofs.YtgdbhmlmioihpaaDoor
open Go Go.RowKit Go.Maps

set_option maxRecDepth 100000 in
theorem isreg_yes (n : Int) (h0 : 0 ≤ n) (h1 : n < 16) (w : World) : Calls Tryd.prog 14 #[.int .i64 n] w fun r w' => r = .returned (.bool true) ∧ w' = w := by
  go_enter Tryd.func14, Tryd.ntmps14
  go_wp2
  go_ret
  exact ⟨rfl, rfl⟩
set_option maxRecDepth 100000 in
theorem isreg_low (n : Int) (h : n < 0) (w : World) : Calls Tryd.prog 14 #[.int .i64 n] w fun r w' => r = .returned (.bool false) ∧ w' = w := by
  go_enter Tryd.func14, Tryd.ntmps14
  go_wp2
  go_ret
  exact ⟨rfl, rfl⟩
set_option maxRecDepth 100000 in
theorem isreg_high (n : Int) (h0 : 0 ≤ n) (h : 16 ≤ n) (w : World) : Calls Tryd.prog 14 #[.int .i64 n] w fun r w' => r = .returned (.bool false) ∧ w' = w := by
  have hd : decide (n < 16) = false := decide_eq_false (by omega)
  clear h
  go_enter Tryd.func14, Tryd.ntmps14
  go_wp2
  go_ret
  exact ⟨rfl, rfl⟩

set_option maxHeartbeats 1000000 in
set_option maxRecDepth 100000 in
/-- set, of the first cells of whatever block. -/
theorem pset_any (q : Nat) (t : TypeId) (cs : List Value) (n : Nat) (hn : n < 16) (v u : Int) (hu : cs[n]? = some (.int .u32 u)) (w : World) (h : Blk w q t cs) :
    Calls Tryd.prog 17 #[.pointer (some ⟨q, 0, none⟩), .int .u8 (n : Int), .int .u32 v] w fun r w' => r = .returned (.tuple #[]) ∧ Blk w' q t (if n = 0 then cs else cs.set n (.int .u32 v)) ∧ w.grownBy w' (some q) := by
  by_cases h0 : n = 0
  · subst h0
    have HF : Hid (Blk w q t (if 0 = 0 then cs else cs.set 0 (.int .u32 v))) := Lib.hid (by rw [if_pos rfl]; exact h)
    clear h hn hu
    go_enter Tryd.func17, Tryd.ntmps17
    go_wp2
    go_end0
    exact ⟨rfl, HF.out, World.grownBy.refl _ _⟩
  · have c0 : w.cell? ⟨q, n, none⟩ = some (.int .u32 u) := by rw [h.cell, hu]
    have f0 : w.frozen? ⟨q, n, none⟩ = false := h.frozen n
    simp only [if_neg h0]
    have HF : Hid (Blk (w.setCell ⟨q, n, none⟩ (.int .u32 v)) q t (cs.set n (.int .u32 v))) := Lib.hid (h.set_ n _)
    have h1 : (0 : Int) < (n : Int) := by omega
    have h2 : (n : Int) < 16 := by omega
    have h3 : ((n : Int) != 0) = true := by rw [bne_iff_ne]; omega
    clear h hn hu h0
    go_enter Tryd.func17, Tryd.ntmps17
    go_wp2
    go_end0
    exact ⟨rfl, HF.out, ⟨rfl, rfl, rfl, by simp, fun j hj hr => Below.heap_setCell w ⟨q, n, none⟩ _ j (by rintro rfl; exact hr rfl)⟩⟩

set_option maxRecDepth 100000 in
theorem fault_any (e : Int) (w : World) : Calls Tryd.prog 19 #[.int .i64 e] w fun r w' => r = .returned (.agg #[.int .u8 2, .int .u32 0, .int .i64 e]) ∧ Below w.heap.size w w' := by
  go_enter Tryd.func19, Tryd.ntmps19
  go_wp2
  refine bodyPost_ret (v := .agg #[.int .u8 2, .int .u32 0, .int .i64 e]) ?_ rfl ⟨rfl, (Below.refl _ _).alloc (Nat.le_refl _) _⟩
  simp [results, Tryd.results19]
  go_simp
end Go.Proofs.YtgdbhmlmioihpaaDoor
