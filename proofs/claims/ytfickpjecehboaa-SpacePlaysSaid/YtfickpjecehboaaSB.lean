/- metBy, isPage, pageAt, piece, New. -/
import Derived.Test.YtfickpjecehboaaSA
import Derived.StillTailTactics
set_option linter.unusedVariables false
namespace Go.Proofs.Ytfickpjecehboaa
open Go.RowKit Go.Maps

theorem heap_alloc_new' (w : World) (o : Obj) (i : Nat) (h : i = w.heap.size) : (w.alloc o).heap[i]? = some o := by subst h; exact heap_alloc_new w o
/-- The method value that asks for a need. -/
def mayV (need : Nat) : Value := .func (.func 35) #[.int .u8 (need : Int)] #[]

theorem bits_and : ∀ (x : Fin 256) (need : Fin 8), bits BinOp.and IntKind.u8 (x.val : Int) (need.val : Int) = ((x.val &&& need.val : Nat) : Int) := by decide +kernel
theorem bits_met (need : Nat) (f : Pg) (hn : need < 8) : (bits BinOp.and IntKind.u8 ((f 256).toNat : Int) (need : Int) == (need : Int)) = met need f := by
  have h := bits_and ⟨(f 256).toNat, UInt8.toNat_lt _⟩ ⟨need, hn⟩
  simp only at h
  rw [h]
  unfold met
  rw [Bool.eq_iff_iff, beq_iff_eq, beq_iff_eq]
  exact Int.ofNat_inj

set_option maxHeartbeats 1000000 in
set_option maxRecDepth 100000 in
theorem metBy_any (need p : Nat) (f : Pg) (w : World) (hn : need < 8) (h : Blk w p 65 (pcs f)) :
    Calls Try.prog 35 #[.int .u8 (need : Int), .pointer (some ⟨p, 0, none⟩)] w fun e w' => e = .returned (.bool (met need f)) ∧ w' = w := by
  have c : w.cell? ⟨p, 256, none⟩ = some (.int .u8 ((f 256).toNat : Int)) := by rw [h.cell, pcs_get f 256 (by decide)]
  clear h
  go_enter Try.func35, Try.ntmps35
  go_wp2
  go_ret
  exact ⟨by rw [bits_met need f hn]; rfl, rfl⟩

set_option maxHeartbeats 1000000 in
set_option maxRecDepth 100000 in
theorem isPage_any (a : Int) (h0 : 0 ≤ a) (h1 : a < 4294967296) (w : World) :
    Calls Try.prog 39 #[.int .u32 a] w fun e w' => e = .returned (.bool (decide (a < 1048576 ∧ a % 256 = 0))) ∧ w' = w := by
  have ht : a.tmod 256 = a % 256 := Int.tmod_eq_emod_of_nonneg h0
  clear h0 h1
  go_enter Try.func39, Try.ntmps39
  go_wp2
  all_goals (go_ret; refine ⟨?_, rfl⟩; simp; first | omega | (rw [Bool.eq_iff_iff]; simp; omega))

set_option maxHeartbeats 1000000 in
set_option maxRecDepth 100000 in
theorem pageAt_any (b e n : Nat) (pg : Nat → Option Nat) (A : As) (x : Nat) (hx : x < 4294967296) (w : World) (h : SpaceP w b e n pg A) :
    Calls Try.prog 31 #[.pointer (some ⟨b + 1, 0, none⟩), .int .u32 (x : Int)] w fun e w' => e = .returned (ptrV (pg (x / 256))) ∧ w' = w := by
  have c := h.cell
  obtain ⟨k, hk⟩ : ∃ k : Int, k = 256 * ((x / 256 : Nat) : Int) := ⟨_, rfl⟩
  have hl := h.look k (by omega) (by omega)
  rw [hk, pgk_at, ← hk] at hl
  have hw : ((x : Int) - (x : Int) % 256) % 4294967296 = k := by omega
  clear hk h hx
  go_enter Try.func31, Try.ntmps31
  go_wp2
  go_ret
  exact ⟨rfl, rfl⟩

set_option maxHeartbeats 1000000 in
set_option maxRecDepth 100000 in
theorem new_any (w : World) : Calls Try.prog 9 #[] w fun e w' => e = .returned (.pointer (some ⟨w.heap.size + 1, 0, none⟩)) ∧ SpaceAt w' w.heap.size (w.heap.size + 2) 0 (fun _ => none) ∧ Below w.heap.size w w' ∧ w'.heap.size = w.heap.size + 2 := by
  have hmm := @run_makeMap Try.prog
  go_enter Try.func9, Try.ntmps9
  go_wp2
  go_ret
  refine ⟨rfl, ⟨fun _ => .none, ?_, Nat.le_refl _, by simp, ?_, fun _ _ => rfl, (fun _ _ h => by cases h), (fun _ _ _ h => by cases h)⟩, ((Below.refl _ w).alloc (Nat.le_refl _) _).alloc (by simp) _, by simp⟩
  · unfold Blk
    rw [heap_alloc_new' _ _ _ (by simp)]
  · exact (MapIs.made w).same (Below.heap_alloc _ _ _ (by simp))
end Go.Proofs.Ytfickpjecehboaa
