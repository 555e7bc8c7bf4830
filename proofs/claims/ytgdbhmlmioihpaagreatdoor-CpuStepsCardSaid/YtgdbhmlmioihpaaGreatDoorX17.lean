/- Some texts of one proof, one behind the other; each has its own head below. -/
import Derived.Test.YtgdbhmlmioihpaaGreatDoorX16
import Derived.Test.YtgdbhmlmioihpaaGreatDoorX05
import Derived.Laws.ResultCell
import Derived.BigQuiet
import Derived.LoopTactic
/- The small functions of the program's cpu: which numbers are registers; how one is set; a stop of a fault. -/
section
set_option linter.unusedVariables false
namespace Go.Proofs.YtgdbhmlmioihpaaGreatDoor
open Go Go.RowKit Go.Maps

set_option maxRecDepth 100000 in
theorem isreg_yes (n : Int) (h0 : 0 ≤ n) (h1 : n < 16) (w : World) : Calls Tryz.prog 41 #[.int .i64 n] w fun r w' => r = .returned (.bool true) ∧ w' = w := by
  go_enter Tryz.func41, Tryz.ntmps41
  go_wp2
  go_ret
  exact ⟨rfl, rfl⟩
set_option maxRecDepth 100000 in
theorem isreg_low (n : Int) (h : n < 0) (w : World) : Calls Tryz.prog 41 #[.int .i64 n] w fun r w' => r = .returned (.bool false) ∧ w' = w := by
  go_enter Tryz.func41, Tryz.ntmps41
  go_wp2
  go_ret
  exact ⟨rfl, rfl⟩
set_option maxRecDepth 100000 in
theorem isreg_high (n : Int) (h0 : 0 ≤ n) (h : 16 ≤ n) (w : World) : Calls Tryz.prog 41 #[.int .i64 n] w fun r w' => r = .returned (.bool false) ∧ w' = w := by
  have hd : decide (n < 16) = false := decide_eq_false (by omega)
  clear h
  go_enter Tryz.func41, Tryz.ntmps41
  go_wp2
  go_ret
  exact ⟨rfl, rfl⟩

set_option maxHeartbeats 1000000 in
set_option maxRecDepth 100000 in
/-- set, of the first cells of whatever block. -/
theorem pset_any (q : Nat) (t : TypeId) (cs : List Value) (n : Nat) (hn : n < 16) (v u : Int) (hu : cs[n]? = some (.int .u32 u)) (w : World) (h : Blk w q t cs) :
    Calls Tryz.prog 47 #[.pointer (some ⟨q, 0, none⟩), .int .u8 (n : Int), .int .u32 v] w fun r w' => r = .returned (.tuple #[]) ∧ Blk w' q t (if n = 0 then cs else cs.set n (.int .u32 v)) ∧ w.grownBy w' (some q) := by
  by_cases h0 : n = 0
  · subst h0
    have HF : Hid (Blk w q t (if 0 = 0 then cs else cs.set 0 (.int .u32 v))) := Lib.hid (by rw [if_pos rfl]; exact h)
    clear h hn hu
    go_enter Tryz.func47, Tryz.ntmps47
    go_wp2
    go_end0
    exact ⟨rfl, HF.out, World.grownBy.refl _ _⟩
  · have c0 : w.cell? ⟨q, n, none⟩ = some (.int .u32 u) := by rw [h.cell, hu]
    have f0 : w.frozen? ⟨q, n, none⟩ = false := h.frozen n
    simp only [if_neg h0]
    have HF : Hid (Blk (w.setCell ⟨q, n, none⟩ (.int .u32 v)) q t (cs.set n (.int .u32 v))) := Lib.hid (h.set_ n _)
    have h1 : (0 : Int) < (n : Int) := by omega
    have h2 : (n : Int) < 16 := by omega
    have h3 : ((n : Int) != 0) = true := by rw [bne_iff_ne]; omega
    clear h hn hu h0
    go_enter Tryz.func47, Tryz.ntmps47
    go_wp2
    go_end0
    exact ⟨rfl, HF.out, ⟨rfl, rfl, rfl, by simp, fun j hj hr => Below.heap_setCell w ⟨q, n, none⟩ _ j (by rintro rfl; exact hr rfl)⟩⟩

set_option maxRecDepth 100000 in
theorem fault_any (e : Int) (w : World) : Calls Tryz.prog 53 #[.int .i64 e] w fun r w' => r = .returned (.agg #[.int .u8 2, .int .u32 0, .int .i64 e]) ∧ Below w.heap.size w w' := by
  go_enter Tryz.func53, Tryz.ntmps53
  go_wp2
  refine bodyPost_ret (v := .agg #[.int .u8 2, .int .u32 0, .int .i64 e]) ?_ rfl ⟨rfl, (Below.refl _ _).alloc (Nat.le_refl _) _⟩
  simp [results, Tryz.results53]
  go_simp
end Go.Proofs.YtgdbhmlmioihpaaGreatDoor
end

/- The program's cpu in memory, and what asks it, or sets it. -/
section
set_option linter.unusedVariables false
namespace Go.Proofs.YtgdbhmlmioihpaaGreatDoor
open Go Go.RowKit Go.Maps

/-- The cells of a cpu. -/
def ccs (c : Cp) : List Value := rcs c
theorem ccs_one (c : Cp) : ∀ v ∈ ccs c, v.oneCell' = true := by
  intro v hv
  simp only [ccs, rcs, List.mem_append, List.mem_map, List.mem_cons, List.not_mem_nil, or_false] at hv
  rcases hv with ⟨_, _, rfl⟩ | rfl <;> rfl
def CAt (w : World) (p : Nat) (c : Cp) : Prop := Blk w p 89 (ccs c)

set_option maxHeartbeats 1000000 in
set_option maxRecDepth 100000 in
theorem cnew_any (x : Int) (w : World) : Calls Tryz.prog 23 #[.int .u32 x] w fun r w' => r = .returned (.pointer (some ⟨w.heap.size, 0, none⟩)) ∧ CAt w' w.heap.size ⟨fun _ => 0, x⟩ ∧ Below w.heap.size w w' := by
  go_enter Tryz.func23, Tryz.ntmps23
  go_wp2
  go_ret
  exact ⟨rfl, Blk.new w 89 (ccs ⟨fun _ => 0, x⟩), (Below.refl _ _).alloc (Nat.le_refl _) _⟩

set_option maxHeartbeats 1000000 in
set_option maxRecDepth 100000 in
theorem reg_any (p : Nat) (c : Cp) (n : Nat) (hn : n < 16) (w : World) (h : CAt w p c) : Calls Tryz.prog 17 #[.pointer (some ⟨p, 0, none⟩), .int .i64 (n : Int)] w fun r w' => r = .returned (.tuple #[.int .u32 (c.r n), .int .i64 0]) ∧ ∃ m, w' = w.drewN m := by
  have hb : Blk w p 89 (rcs c) := h
  have c0 : w.cell? ⟨p, n, none⟩ = some (.int .u32 (c.r n)) := by rw [hb.cell, rcs_reg c n hn]
  have h2 : (n : Int) < 16 := by omega
  have hI := isreg_yes (n : Int) (by omega) h2 w
  clear h hb hn
  go_enter Tryz.func17, Tryz.ntmps17
  go_wp2_with (go_at_call 41; refine hI.mono ?_; rintro e w1 ⟨rfl, rfl⟩)
  go_ret2
  exact ⟨rfl, 0, rfl⟩
set_option maxHeartbeats 1000000 in
set_option maxRecDepth 100000 in
theorem pc_any (p : Nat) (c : Cp) (w : World) (h : CAt w p c) : Calls Tryz.prog 22 #[.pointer (some ⟨p, 0, none⟩)] w fun r w' => r = .returned (.int .u32 c.pc) ∧ ∃ m, w' = w.drewN m := by
  have hb : Blk w p 89 (rcs c) := h
  have c0 : w.cell? ⟨p, 16, none⟩ = some (.int .u32 c.pc) := by rw [hb.cell, rcs_pc c]
  clear h hb
  go_enter Tryz.func22, Tryz.ntmps22
  go_wp2
  go_ret
  exact ⟨rfl, 0, rfl⟩
theorem ccs_pset (c : Cp) (n : Nat) (hn : n < 16) (v : Int) : (if n = 0 then rcs c else (rcs c).set n (.int .u32 v)) = rcs (setR c n v) := by
  by_cases h0 : n = 0
  · subst h0; rw [if_pos rfl, setR_zero]
  · rw [if_neg h0, rcs_setR c n v hn h0]
set_option maxHeartbeats 1000000 in
set_option maxRecDepth 100000 in
theorem setreg_any (p : Nat) (c : Cp) (n : Nat) (hn : n < 16) (v : Int) (w : World) (h : CAt w p c) :
    Calls Tryz.prog 25 #[.pointer (some ⟨p, 0, none⟩), .int .i64 (n : Int), .int .u32 v] w fun r w' => r = .returned (.int .i64 0) ∧ CAt w' p (setR c n v) ∧ w.grownBy w' (some p) := by
  have hb : Blk w p 89 (rcs c) := h
  have h2 : (n : Int) < 16 := by omega
  have hI := isreg_yes (n : Int) (by omega) h2 w
  have hP := pset_any p 89 (rcs c) n hn v (c.r n) (rcs_reg c n hn) w hb
  rw [ccs_pset c n hn v] at hP
  have hw : IntKind.u8.wrap (n : Int) = (n : Int) := by rw [IntKind.wrap_u8]; omega
  clear h hb hn
  go_enter Tryz.func25, Tryz.ntmps25
  go_wp2_with (first | (go_at_call 41; refine hI.mono ?_; rintro e w1 ⟨rfl, rfl⟩) | (go_at_call 47; refine hP.mono ?_; rintro e w1 ⟨rfl, q1, q2⟩))
  go_ret
  exact ⟨rfl, q1, q2⟩
set_option maxHeartbeats 1000000 in
set_option maxRecDepth 100000 in
theorem reg_far (p : Nat) (w : World) : Calls Tryz.prog 17 #[.pointer (some ⟨p, 0, none⟩), .int .i64 16] w fun r w' => r = .returned (.tuple #[.int .u32 0, .int .i64 2]) ∧ ∃ m, w' = w.drewN m := by
  have hI := isreg_high 16 (by decide) (by decide) w
  go_enter Tryz.func17, Tryz.ntmps17
  go_wp2_with (go_at_call 41; refine hI.mono ?_; rintro e w1 ⟨rfl, rfl⟩)
  go_ret2
  exact ⟨rfl, 0, rfl⟩
end Go.Proofs.YtgdbhmlmioihpaaGreatDoor
end

/- Same: a cpu is the document's, where both have the same registers and pc. -/
section
set_option linter.unusedVariables false
namespace Go.Proofs.YtgdbhmlmioihpaaGreatDoor
open Go Go.RowKit Go.Maps

set_option maxHeartbeats 4000000 in
set_option maxRecDepth 100000 in
theorem csame_any (p h : Nat) (c : Cp) (w : World) (hc : CAt w p c) (hk : KAt w h c) :
    Calls Tryz.prog 11 #[.pointer (some ⟨p, 0, none⟩), .pointer (some ⟨h, 0, none⟩)] w fun r w' => r = .returned (.bool true) ∧ ∃ m, w' = w.drewN m := by
  have HAll : Hid (∀ m, CAt (w.drewN m) p c ∧ KAt (w.drewN m) h c) := Lib.hid fun m => by
    have hc0 : Blk w p 89 (ccs c) := hc
    have hk0 : Blk w h 65 (rcs c) := hk
    exact ⟨hc0, hk0⟩
  have HPc : Hid (∀ m, Calls Tryz.prog 22 #[.pointer (some ⟨p, 0, none⟩)] (w.drewN m) fun r w' => r = .returned (.int .u32 c.pc) ∧ ∃ k, w' = (w.drewN m).drewN k) := Lib.hid fun m => pc_any p c _ (HAll.out m).1
  have HRg : Hid (∀ (m j : Nat), j < 16 → Calls Tryz.prog 17 #[.pointer (some ⟨p, 0, none⟩), .int .i64 (j : Int)] (w.drewN m) fun r w' => r = .returned (.tuple #[.int .u32 (c.r j), .int .i64 0]) ∧ ∃ k, w' = (w.drewN m).drewN k) := Lib.hid fun m j hj => reg_any p c j hj _ (HAll.out m).1
  clear hc hk
  go_enter Tryz.func11, Tryz.ntmps11
  go_wp2_with fail
  go_loopw [5] (fun v wr => ∃ k : Nat, v = .int .i64 k ∧ Hid (k ≤ 16) ∧ Hid (∃ m, wr = w.drewN m)) (fun v _ => 16 - (intOf v).toNat)
  case atStart => exact ⟨0, rfl, Lib.hid (Nat.zero_le _), Lib.hid ⟨0, rfl⟩⟩
  case round =>
    obtain ⟨k, rfl, HK, HM⟩ := hrel
    obtain ⟨m, hm⟩ := HM.out
    subst hm
    by_cases hlt : (k : Int) < 16
    · have hk : k < 16 := by omega
      have hw64 : IntKind.i64.wrap ((k : Int) + 1) = (k : Int) + 1 := by rw [IntKind.wrap_i64]; omega
      have HK2 : Hid (k + 1 ≤ 16) := Lib.hid hk
      obtain ⟨V, hV⟩ : ∃ V, V = c.r k := ⟨_, rfl⟩
      have HRk := Lib.hid (HRg.out m k hk)
      have HCk : Hid (∀ m, World.cell? (w.drewN m) ⟨h, k, none⟩ = some (.int .u32 V)) := Lib.hid fun m => by rw [hV]; exact (HAll.out m).2.reg k hk
      rw [← hV] at HRk
      clear hV hk
      go_wp2_with fail
      refine HRk.out.mono ?_; rintro r w2 ⟨rfl, m2, hw2⟩
      have HM2 : Hid (∃ m, w2 = w.drewN m) := Lib.hid ⟨m + m2, by rw [hw2, World.drewN_drewN]⟩
      obtain ⟨m3, hm3⟩ := HM2.out
      clear hw2 HRk
      subst hm3
      have ck := HCk.out m3
      have vv : (V != V) = false := by simp
      clear HCk
      go_wp2_with fail
      go_roundw
      case rel => exact ⟨k + 1, by go_num, HK2, HM2⟩
      case measure => simp [intOf]; have := HK2.out; omega
    · obtain ⟨Q, hQ⟩ : ∃ Q, Q = c.pc := ⟨_, rfl⟩
      have ck := (HAll.out m).2.pcc
      rw [← hQ] at ck HPc
      obtain ⟨wm, hwm⟩ : ∃ wm, wm = w.drewN m := ⟨_, rfl⟩
      have HP2 : Hid (∀ n, Calls Tryz.prog 22 #[.pointer (some ⟨p, 0, none⟩)] (wm.drewN n) fun r w' => r = .returned (.int .u32 Q) ∧ ∃ k, w' = (wm.drewN n).drewN k) := Lib.hid fun n => by
        rw [hwm, World.drewN_drewN]; exact HPc.out _
      have HW := Lib.hid hwm
      rw [← hwm] at ck ⊢
      have vv : (Q == Q) = true := by simp
      clear hQ hwm HPc
      go_wp2_with fail
      go_quiet ((go_at_call 22; exact Calls.quiet_of (HP2.out _)))
      go_wp2
      go_ret
      exact ⟨rfl, m + nq, by rw [HW.out, World.drewN_drewN]⟩
end Go.Proofs.YtgdbhmlmioihpaaGreatDoor
end
