/- Some texts of one proof, one behind the other; each has its own head below. -/
import Derived.Test.YtbpdoiikleaidaaX05
import Derived.Test.YtbpdoiikleaidaaX03
import Derived.Test.YtbpdoiikleaidaaX04
import Derived.Deep.DeepCutAuto
import Derived.Lib.BufferWrite
import Derived.Lib.UnsafeStr
import Derived.Laws.MakeOwn
import Derived.Lib.Strings
/- The document's reader (package aediculeref07): Take, Num, Text, End. -/
section
set_option linter.unusedVariables false
namespace Go.Proofs.Ytbpdoiikleaidaa
open Go Go.RowKit Pk

def RdAt (w : World) (g : Nat) (r : Rd) : Prop := Blk w g 76 [.string (tx r.S), .int .i64 r.E]
section
variable {w w' : World} {g : Nat} {r : Rd}
theorem RdAt.cells (h : RdAt w g r) : w.cell? ⟨g, 0, none⟩ = some (.string (tx r.S)) ∧ w.cell? ⟨g, 1, none⟩ = some (.int .i64 r.E) ∧ w.frozen? ⟨g, 0, none⟩ = false ∧ w.frozen? ⟨g, 1, none⟩ = false :=
  ⟨by rw [Blk.cell h]; rfl, by rw [Blk.cell h]; rfl, Blk.frozen h 0, Blk.frozen h 1⟩
theorem RdAt.below (h : RdAt w g r) (hb : Below w.heap.size w w') : RdAt w' g r := Blk.below h hb (Blk.lt h)
theorem RdAt.setS (h : RdAt w g r) (S : List UInt8) : RdAt (w.setCell ⟨g, 0, none⟩ (.string (tx S))) g ⟨S, r.E⟩ := Blk.set_ h 0 _
theorem RdAt.setE (h : RdAt w g r) (e : Int) : RdAt (w.setCell ⟨g, 1, none⟩ (.int .i64 e)) g ⟨r.S, e⟩ := Blk.set_ h 1 _
theorem grown_drewN (w : World) (n g : Nat) : w.grownBy (w.drewN n) (some g) := ⟨rfl, rfl, rfl, Nat.le_refl _, fun _ _ _ => rfl⟩

set_option maxRecDepth 100000 in
theorem fails_any (e : Int) (w : World) (h : RdAt w g r) : Calls Try.prog 49 #[.pointer (some ⟨g, 0, none⟩), .int .i64 e] w fun x w' => x = .returned (.int .i64 e) ∧ RdAt w' g ⟨r.S, e⟩ ∧ w.grownBy w' (some g) := by
  obtain ⟨c0, c1, f0, f1⟩ := h.cells
  have HF := Lib.hid (h.setE e)
  clear h
  go_enter Try.func49, Try.ntmps49
  go_wp2
  go_ret
  exact ⟨rfl, HF.out, grown_set w g 1 _⟩

theorem take_fault' (h : r.E ≠ 0) (n : Int) : take r n = ([], r) := by unfold take; rw [if_pos h]
theorem take_neg (h : r.E = 0) {n : Int} (hn : n < 0) : take r n = ([], ⟨r.S, 2⟩) := by unfold take; rw [if_neg (by simp [h]), if_pos hn]
theorem take_end (h : r.E = 0) {n : Int} (hn : 0 ≤ n) (hl : (r.S.length : Int) < n) : take r n = ([], ⟨r.S, 6⟩) := by unfold take; rw [if_neg (by simp [h]), if_neg (by omega), if_pos hl]
theorem take_ok (h : r.E = 0) {n : Int} (hn : 0 ≤ n) (hl : n ≤ r.S.length) : take r n = (r.S.take n.toNat, ⟨r.S.drop n.toNat, 0⟩) := by unfold take; rw [if_neg (by simp [h]), if_neg (by omega), if_neg (by omega)]

def RdPost (w : World) (g : Nat) (v : Value) (r : Rd) (x : Ending) (w' : World) : Prop := x = .returned (.tuple #[v, .int .i64 r.E]) ∧ RdAt w' g r ∧ w.grownBy w' (some g)

set_option maxHeartbeats 1000000 in
set_option maxRecDepth 100000 in
theorem rdtake_any (n : Int) (w : World) (h : RdAt w g r) (hS : r.S.length ≤ 140737488355328) :
    Calls Try.prog 28 #[.pointer (some ⟨g, 0, none⟩), .int .i64 n] w (RdPost w g (.string (tx (take r n).1)) (take r n).2) := by
  obtain ⟨c0, c1, f0, f1⟩ := h.cells
  by_cases hE : r.E = 0
  · rw [hE] at c1
    have H := Lib.hid h
    obtain ⟨T, hT⟩ : ∃ T, T = tx r.S := ⟨_, rfl⟩
    have hTs : T.size = r.S.length := by rw [hT, tx_size]
    by_cases hn : n < 0
    · rw [take_neg hE hn]
      clear hTs hT hS hE h
      go_enter Try.func28, Try.ntmps28
      go_wp2_with fail
      refine (fails_any 2 _ H.out).mono ?_; rintro x w1 ⟨rfl, h1, g1⟩
      have HH := Lib.hid (And.intro h1 g1)
      clear h1 g1
      go_wp2
      go_ret2
      exact ⟨rfl, HH.out.1, HH.out.2⟩
    · by_cases hl : (r.S.length : Int) < n
      · rw [take_end hE (by omega) hl]
        rw [← hT] at c0
        rw [← hTs] at hl
        clear hTs hT hS hE h
        go_enter Try.func28, Try.ntmps28
        go_wp2_with fail
        refine (fails_any 6 _ H.out).mono ?_; rintro x w1 ⟨rfl, h1, g1⟩
        have HH := Lib.hid (And.intro h1 g1)
        clear h1 g1
        go_wp2
        go_ret2
        exact ⟨rfl, HH.out.1, HH.out.2⟩
      · rw [take_ok hE (by omega) (by omega)]
        obtain ⟨T1, hT1⟩ : ∃ T1, T1 = tx (r.S.take n.toNat) := ⟨_, rfl⟩
        obtain ⟨T2, hT2⟩ : ∃ T2, T2 = tx (r.S.drop n.toNat) := ⟨_, rfl⟩
        have s1 : ∀ W, (Instr.slice 9 (.string T) none (some (.int .i64 n)) none).run Try.prog W = .ok (.string T1) W := by
          intro W
          rw [run_slice_string_to_if W 9 T .i64 n (by kernel_rfl), if_pos (by rw [hTs]; omega), hT, tx_take, hT1]
        have s2 : ∀ W, (Instr.slice 9 (.string T) (some (.int .i64 n)) none none).run Try.prog W = .ok (.string T2) W := by
          intro W
          rw [run_slice_string_from_if W 9 T .i64 n (by kernel_rfl), if_pos (by rw [hTs]; omega), hTs, hT, tx_drop _ _ _ rfl, hT2]
        have HF : Hid (RdAt (w.setCell ⟨g, 0, none⟩ (.string T2)) g ⟨r.S.drop n.toNat, 0⟩) := Lib.hid (by rw [hT2, ← hE]; exact h.setS _)
        rw [← hT] at c0
        rw [← hTs] at hl
        simp only
        rw [← hT1]
        clear hTs hT hT1 hT2 hS hE h
        go_enter Try.func28, Try.ntmps28
        go_wp2
        go_ret2
        exact ⟨rfl, HF.out, grown_set w g 0 _⟩
  · rw [take_fault' hE]
    have H := Lib.hid h
    obtain ⟨E, hEE⟩ : ∃ E, E = r.E := ⟨_, rfl⟩
    have hb : (E != 0) = true := by rw [bne_iff_ne, hEE]; exact hE
    have HE := Lib.hid hEE
    rw [← hEE] at c1
    clear hE hEE h hS
    go_enter Try.func28, Try.ntmps28
    go_upto_region 2 with (fail)
    go_quiet (fail)
    go_wp2
    go_ret2
    exact ⟨by rw [← HE.out]; rfl, H.out.below (below_drewN _ _), grown_drewN _ _ _⟩
end
end Go.Proofs.Ytbpdoiikleaidaa
end

/- The program's place: a text anew (strings.Clone), what is left, the next bytes. -/
section
set_option linter.unusedVariables false
namespace Go.Proofs.Ytbpdoiikleaidaa
open Go Go.RowKit Pk

/-! the place -/
/-- The program's reader behind p, whatever its fault: what is left. -/
def PlAt (w : World) (p : Nat) (S : List UInt8) : Prop := Blk w p 97 [.string (tx S), .int .i64 0]
section
variable {w w' : World} {p : Nat} {S : List UInt8}
theorem PlAt.cells (h : PlAt w p S) : w.cell? ⟨p, 0, none⟩ = some (.string (tx S)) ∧ w.cell? ⟨p, 1, none⟩ = some (.int .i64 0) ∧ w.frozen? ⟨p, 0, none⟩ = false ∧ w.frozen? ⟨p, 1, none⟩ = false :=
  ⟨by rw [Blk.cell h]; rfl, by rw [Blk.cell h]; rfl, Blk.frozen h 0, Blk.frozen h 1⟩
theorem PlAt.below (h : PlAt w p S) (hb : Below w.heap.size w w') : PlAt w' p S := Blk.below h hb (Blk.lt h)
theorem PlAt.setS (h : PlAt w p S) (S' : List UInt8) : PlAt (w.setCell ⟨p, 0, none⟩ (.string (tx S'))) p S' := Blk.set_ h 0 _
theorem PlAt.lt (h : PlAt w p S) : p < w.heap.size := Blk.lt h
theorem grownB {w w' : World} (h : Below w.heap.size w w') (row : Option Nat) : w.grownBy w' row := ⟨h.os, h.tape, h.output, h.size, fun i hi _ => h.block i hi⟩

def PlPost (w : World) (p : Nat) (v : Value) (E : Int) (S : List UInt8) (x : Ending) (w' : World) : Prop := x = .returned (.tuple #[v, .int .i64 E]) ∧ PlAt w' p S ∧ w.grownBy w' (some p)

set_option maxRecDepth 100000 in
theorem plleft_any (T : ByteArray) (w : World) (h : w.cell? ⟨p, 0, none⟩ = some (.string T)) : Calls Try.prog 48 #[.pointer (some ⟨p, 0, none⟩)] w fun x w' => x = .returned (.int .i64 T.size) ∧ w = w' := by
  go_enter Try.func48, Try.ntmps48
  go_wp2
  go_ret
  exact ⟨rfl, rfl⟩

set_option maxHeartbeats 1000000 in
set_option maxRecDepth 100000 in
theorem plnext_any (n : Int) (w : World) (h : PlAt w p S) (hS : S.length ≤ 140737488355328) :
    Calls Try.prog 90 #[.pointer (some ⟨p, 0, none⟩), .int .i64 n] w (PlPost w p (.string (tx (take ⟨S, 0⟩ n).1)) (take ⟨S, 0⟩ n).2.E (take ⟨S, 0⟩ n).2.S) := by
  obtain ⟨c0, c1, f0, f1⟩ := h.cells
  obtain ⟨T, hT⟩ : ∃ T, T = tx S := ⟨_, rfl⟩
  have hTs : T.size = S.length := by rw [hT, tx_size]
  rw [← hT] at c0
  have HL := Lib.hid (fun w1 => plleft_any (p := p) T w1)
  have H := Lib.hid h
  by_cases hn : n < 0
  · rw [take_neg (r := ⟨S, 0⟩) rfl hn]
    clear hTs hT hS h HL
    go_enter Try.func90, Try.ntmps90
    go_wp2
    go_ret2
    exact ⟨rfl, H.out, World.grownBy.refl _ _⟩
  · by_cases hl : (S.length : Int) < n
    · rw [take_end (r := ⟨S, 0⟩) rfl (by omega) hl]
      rw [← hTs] at hl
      clear hTs hT hS h
      go_enter Try.func90, Try.ntmps90
      go_wp2_with fail
      refine (HL.out _ c0).mono ?_; rintro x w1 ⟨rfl, rfl⟩
      clear HL
      go_wp2
      go_ret2
      exact ⟨rfl, H.out, World.grownBy.refl _ _⟩
    · rw [take_ok (r := ⟨S, 0⟩) rfl (by omega) (by simp only; omega)]
      obtain ⟨T1, hT1⟩ : ∃ T1, T1 = tx (S.take n.toNat) := ⟨_, rfl⟩
      obtain ⟨T2, hT2⟩ : ∃ T2, T2 = tx (S.drop n.toNat) := ⟨_, rfl⟩
      have s1 : ∀ W, (Instr.slice 9 (.string T) none (some (.int .i64 n)) none).run Try.prog W = .ok (.string T1) W := by
        intro W
        rw [run_slice_string_to_if W 9 T .i64 n (by kernel_rfl), if_pos (by rw [hTs]; omega), hT, tx_take, hT1]
      have s2 : ∀ W, (Instr.slice 9 (.string T) (some (.int .i64 n)) none none).run Try.prog W = .ok (.string T2) W := by
        intro W
        rw [run_slice_string_from_if W 9 T .i64 n (by kernel_rfl), if_pos (by rw [hTs]; omega), hTs, hT, tx_drop _ _ _ rfl, hT2]
      have HF : Hid (PlAt (w.setCell ⟨p, 0, none⟩ (.string T2)) p (S.drop n.toNat)) := Lib.hid (by rw [hT2]; exact h.setS _)
      rw [← hTs] at hl
      simp only
      rw [← hT1]
      clear hTs hT hT1 hT2 hS h H
      go_enter Try.func90, Try.ntmps90
      go_wp2_with fail
      refine (HL.out _ c0).mono ?_; rintro x w1 ⟨rfl, rfl⟩
      clear HL
      go_wp2
      go_ret2
      exact ⟨rfl, HF.out, grown_set w p 0 _⟩

theorem take_len0 (n : Int) : (take ⟨S, 0⟩ n).1.length ≤ S.length := by
  unfold take
  split
  · simp
  · split
    · simp
    · split
      · simp
      · simp only [List.length_take]; omega
set_option maxHeartbeats 1000000 in
set_option maxRecDepth 100000 in
theorem pltake_any (n : Int) (w : World) (h : PlAt w p S) (hS : S.length ≤ 140737488355328) :
    Calls Try.prog 86 #[.pointer (some ⟨p, 0, none⟩), .int .i64 n] w (PlPost w p (.string (tx (take ⟨S, 0⟩ n).1)) (take ⟨S, 0⟩ n).2.E (take ⟨S, 0⟩ n).2.S) := by
  have HN := Lib.hid (plnext_any n w h hS)
  have hl := take_len0 (S := S) n
  obtain ⟨S2, hS2⟩ : ∃ S2, S2 = (take ⟨S, 0⟩ n).2.S := ⟨_, rfl⟩
  obtain ⟨E, hE⟩ : ∃ E, E = (take ⟨S, 0⟩ n).2.E := ⟨_, rfl⟩
  obtain ⟨T, hT⟩ : ∃ T, T = tx (take ⟨S, 0⟩ n).1 := ⟨_, rfl⟩
  rw [← hS2, ← hE, ← hT] at HN ⊢
  have HC := Lib.hid (fun W => sclone_any T (by rw [hT, tx_size]; omega) W)
  unfold PlPost at HN
  clear hS2 hE hT hl hS h
  go_enter Try.func86, Try.ntmps86
  go_wp2_with fail
  refine HN.out.mono ?_; rintro x w1 ⟨rfl, q1, g1⟩
  have HH := Lib.hid (And.intro q1 g1)
  clear q1 g1 HN
  go_wp2_with fail
  refine (HC.out _).mono ?_; rintro x w2 ⟨rfl, q⟩
  have HQ := Lib.hid q
  clear q HC
  go_wp2
  go_ret2
  exact ⟨rfl, HH.out.1.below HQ.out, HH.out.2.trans (grownB HQ.out _)⟩
end
end Go.Proofs.Ytbpdoiikleaidaa
end
