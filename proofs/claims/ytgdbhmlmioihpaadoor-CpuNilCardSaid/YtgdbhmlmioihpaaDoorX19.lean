/- The program's cpu in memory, and what asks it, or sets it. -/
import Derived.Test.YtgdbhmlmioihpaaDoorX18
set_option linter.unusedVariables false
namespace Go.Proofs.YtgdbhmlmioihpaaDoor
open Go Go.RowKit Go.Maps

/-- The cells of a cpu. -/
def ccs (c : Cp) : List Value := rcs c
theorem ccs_one (c : Cp) : ∀ v ∈ ccs c, v.oneCell' = true := by
  intro v hv
  simp only [ccs, rcs, List.mem_append, List.mem_map, List.mem_cons, List.not_mem_nil, or_false] at hv
  rcases hv with ⟨_, _, rfl⟩ | rfl <;> rfl
def CAt (w : World) (p : Nat) (c : Cp) : Prop := Blk w p 47 (ccs c)

set_option maxHeartbeats 1000000 in
set_option maxRecDepth 100000 in
theorem cnew_any (x : Int) (w : World) : Calls Tryd.prog 8 #[.int .u32 x] w fun r w' => r = .returned (.pointer (some ⟨w.heap.size, 0, none⟩)) ∧ CAt w' w.heap.size ⟨fun _ => 0, x⟩ ∧ Below w.heap.size w w' := by
  go_enter Tryd.func8, Tryd.ntmps8
  go_wp2
  go_ret
  exact ⟨rfl, Blk.new w 47 (ccs ⟨fun _ => 0, x⟩), (Below.refl _ _).alloc (Nat.le_refl _) _⟩

set_option maxHeartbeats 1000000 in
set_option maxRecDepth 100000 in
theorem reg_any (p : Nat) (c : Cp) (n : Nat) (hn : n < 16) (w : World) (h : CAt w p c) : Calls Tryd.prog 5 #[.pointer (some ⟨p, 0, none⟩), .int .i64 (n : Int)] w fun r w' => r = .returned (.tuple #[.int .u32 (c.r n), .int .i64 0]) ∧ ∃ m, w' = w.drewN m := by
  have hb : Blk w p 47 (rcs c) := h
  have c0 : w.cell? ⟨p, n, none⟩ = some (.int .u32 (c.r n)) := by rw [hb.cell, rcs_reg c n hn]
  have h2 : (n : Int) < 16 := by omega
  have hI := isreg_yes (n : Int) (by omega) h2 w
  clear h hb hn
  go_enter Tryd.func5, Tryd.ntmps5
  go_wp2_with (go_at_call 14; refine hI.mono ?_; rintro e w1 ⟨rfl, rfl⟩)
  go_ret2
  exact ⟨rfl, 0, rfl⟩
set_option maxHeartbeats 1000000 in
set_option maxRecDepth 100000 in
theorem pc_any (p : Nat) (c : Cp) (w : World) (h : CAt w p c) : Calls Tryd.prog 10 #[.pointer (some ⟨p, 0, none⟩)] w fun r w' => r = .returned (.int .u32 c.pc) ∧ ∃ m, w' = w.drewN m := by
  have hb : Blk w p 47 (rcs c) := h
  have c0 : w.cell? ⟨p, 16, none⟩ = some (.int .u32 c.pc) := by rw [hb.cell, rcs_pc c]
  clear h hb
  go_enter Tryd.func10, Tryd.ntmps10
  go_wp2
  go_ret
  exact ⟨rfl, 0, rfl⟩
theorem ccs_pset (c : Cp) (n : Nat) (hn : n < 16) (v : Int) : (if n = 0 then rcs c else (rcs c).set n (.int .u32 v)) = rcs (setR c n v) := by
  by_cases h0 : n = 0
  · subst h0; rw [if_pos rfl, setR_zero]
  · rw [if_neg h0, rcs_setR c n v hn h0]
set_option maxHeartbeats 1000000 in
set_option maxRecDepth 100000 in
theorem setreg_any (p : Nat) (c : Cp) (n : Nat) (hn : n < 16) (v : Int) (w : World) (h : CAt w p c) :
    Calls Tryd.prog 9 #[.pointer (some ⟨p, 0, none⟩), .int .i64 (n : Int), .int .u32 v] w fun r w' => r = .returned (.int .i64 0) ∧ CAt w' p (setR c n v) ∧ w.grownBy w' (some p) := by
  have hb : Blk w p 47 (rcs c) := h
  have h2 : (n : Int) < 16 := by omega
  have hI := isreg_yes (n : Int) (by omega) h2 w
  have hP := pset_any p 47 (rcs c) n hn v (c.r n) (rcs_reg c n hn) w hb
  rw [ccs_pset c n hn v] at hP
  have hw : IntKind.u8.wrap (n : Int) = (n : Int) := by rw [IntKind.wrap_u8]; omega
  clear h hb hn
  go_enter Tryd.func9, Tryd.ntmps9
  go_wp2_with (first | (go_at_call 14; refine hI.mono ?_; rintro e w1 ⟨rfl, rfl⟩) | (go_at_call 17; refine hP.mono ?_; rintro e w1 ⟨rfl, q1, q2⟩))
  go_ret
  exact ⟨rfl, q1, q2⟩
set_option maxHeartbeats 1000000 in
set_option maxRecDepth 100000 in
theorem reg_far (p : Nat) (w : World) : Calls Tryd.prog 5 #[.pointer (some ⟨p, 0, none⟩), .int .i64 16] w fun r w' => r = .returned (.tuple #[.int .u32 0, .int .i64 2]) ∧ ∃ m, w' = w.drewN m := by
  have hI := isreg_high 16 (by decide) (by decide) w
  go_enter Tryd.func5, Tryd.ntmps5
  go_wp2_with (go_at_call 14; refine hI.mono ?_; rintro e w1 ⟨rfl, rfl⟩)
  go_ret2
  exact ⟨rfl, 0, rfl⟩
end Go.Proofs.YtgdbhmlmioihpaaDoor
