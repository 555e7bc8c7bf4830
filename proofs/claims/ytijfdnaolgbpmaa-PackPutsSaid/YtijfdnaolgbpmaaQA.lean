/- The program's place: a text anew (strings.Clone), what is left, the next bytes. -/
import Derived.Test.YtijfdnaolgbpmaaPE
import Derived.Lib.BufferWrite
import Derived.Lib.UnsafeStr
import Derived.Laws.MakeOwn
import Derived.Lib.Strings
set_option linter.unusedVariables false
namespace Go.Proofs.Ytijfdnaolgbpmaa
open Go Go.RowKit Pk

theorem cellsByte : Try.prog.cellsOf 5 = 1 := by kernel_rfl
set_option maxHeartbeats 1000000 in
set_option maxRecDepth 100000 in
/-- A text laid anew reads the same. -/
theorem clone_any (s : ByteArray) (hs : s.size ≤ 140737488355328) (w : World) : Calls Try.prog 53 #[.string s] w fun e w' => e = .returned (.string s) ∧ Below w.heap.size w w' := by
  by_cases h0 : s.size = 0
  · obtain rfl : s = ⟨#[]⟩ := ByteArray.ext (Array.eq_empty_of_size_eq_zero h0)
    clear h0 hs
    go_enter Try.func53, Try.ntmps53
    go_wp2
    go_ret
    exact ⟨rfl, Below.refl _ _⟩
  · obtain ⟨i0, hi, hz0, hz1, hz2⟩ := info_parts infoByte
    have hl : s.data.toList.length = s.size := rfl
    have hne : s.data.toList ≠ [] := fun e => h0 (by rw [← hl, e]; rfl)
    obtain ⟨M, hM⟩ : ∃ M, M = madeCells (Value.int .u8 0).cells (((s.size : Nat) : Int).toNat * i0.size) := ⟨_, rfl⟩
    have hMs : M.size = s.size := by rw [hM, size_madeCells, hz1]; simp
    have mk := run_make (P := Try.prog) w 53 5 i0 (.int .u8 0) Try.underlying53 hi hz0 .i64 .i64 (s.size : Int) (s.size : Int) (by omega) (by omega) (by rw [hz2]; omega) (by omega)
    rw [← hM] at mk
    simp only [Int.toNat_natCast] at mk
    obtain ⟨wa, hwa⟩ : ∃ wa, wa = w.alloc (.cells M 5) := ⟨_, rfl⟩
    have hga : wa.heap[w.heap.size]? = some (.cells M 5 (0, 0)) := by rw [hwa]; exact heap_alloc_new w _
    rw [← hwa] at mk
    have cp := Lib.run_copy_row_string (P := Try.prog) wa 53 9 3 5 w.heap.size 0 s.size s.size s M 5 Try.underlying53 (by rw [hi]; simp [hz1]) hga (Nat.le_refl _) (by omega)
    obtain ⟨Y, hY⟩ : ∃ Y, Y = (M.toList.take 0 ++ Lib.byteCells s.data.toList ++ M.toList.drop (0 + s.size)).toArray := ⟨_, rfl⟩
    rw [← hY] at cp
    have hYl : Y.toList = Lib.byteCells s.data.toList := by
      rw [hY, List.take_zero, List.nil_append, List.drop_of_length_le (by simp; omega), List.append_nil]
    have hYs : Y.size = s.size := by rw [← Array.length_toList, hYl, Lib.byteCells_length]; exact hl
    obtain ⟨wb, hwb⟩ : ∃ wb, wb = wa.setRow w.heap.size Y := ⟨_, rfl⟩
    have hgb : wb.heap[w.heap.size]? = some (.cells Y 5 (0, 0)) := by rw [hwb]; exact setRow_heap _ _ M _ 5 (0, 0) hga
    rw [← hwb] at cp
    have us := Lib.run_unsafeString_row (P := Try.prog) wb 76 3 9 5 Try.underlying76 cellsByte w.heap.size Y.size (by unfold World.shape?; rw [hgb]) s.data.toList hne (by rw [hl, hYs]; exact Nat.le_refl _) (by rw [hl]; omega)
      (fun j x hx => Lib.cells_of_row hgb Y.size j _ (by rw [List.take_of_length_le (by simp), hYl]; simp [Lib.byteCells, hx]))
    rw [hl] at us
    have hb : Below w.heap.size w wb := by
      rw [hwb, hwa]
      exact ⟨rfl, rfl, rfl, by simp, fun k hk => (setRow_other _ _ _ _ (by omega)).trans (Below.heap_alloc _ _ _ hk)⟩
    have HB := Lib.hid (Lib.below_freeze hb (p := ⟨w.heap.size, 0, none⟩) (Nat.le_refl _) s.size)
    clear hb hY hYl hYs hM hMs hi hz0 hz1 hz2 hga hgb hne hl hwa hwb
    go_enter Try.func53, Try.ntmps53
    go_wp2
    go_ret
    exact ⟨rfl, HB.out⟩
theorem sclone_any (s : ByteArray) (hs : s.size ≤ 140737488355328) (w : World) : Calls Try.prog 49 #[.string s] w fun e w' => e = .returned (.string s) ∧ Below w.heap.size w w' := by
  have HC := Lib.hid (clone_any s hs w)
  go_enter Try.func49, Try.ntmps49
  go_wp2_with fail
  refine HC.out.mono ?_; rintro x w1 ⟨rfl, q⟩
  have HQ := Lib.hid q
  clear q HC
  go_wp2
  go_ret
  exact ⟨rfl, HQ.out⟩

/-! the place -/
/-- The program's reader behind p, whatever its fault: what is left. -/
def PlAt (w : World) (p : Nat) (S : List UInt8) : Prop := Blk w p 66 [.string (tx S), .int .i64 0]
section
variable {w w' : World} {p : Nat} {S : List UInt8}
theorem PlAt.cells (h : PlAt w p S) : w.cell? ⟨p, 0, none⟩ = some (.string (tx S)) ∧ w.cell? ⟨p, 1, none⟩ = some (.int .i64 0) ∧ w.frozen? ⟨p, 0, none⟩ = false ∧ w.frozen? ⟨p, 1, none⟩ = false :=
  ⟨by rw [Blk.cell h]; rfl, by rw [Blk.cell h]; rfl, Blk.frozen h 0, Blk.frozen h 1⟩
theorem PlAt.below (h : PlAt w p S) (hb : Below w.heap.size w w') : PlAt w' p S := Blk.below h hb (Blk.lt h)
theorem PlAt.setS (h : PlAt w p S) (S' : List UInt8) : PlAt (w.setCell ⟨p, 0, none⟩ (.string (tx S'))) p S' := Blk.set_ h 0 _
theorem PlAt.lt (h : PlAt w p S) : p < w.heap.size := Blk.lt h
theorem grownB {w w' : World} (h : Below w.heap.size w w') (row : Option Nat) : w.grownBy w' row := ⟨h.os, h.tape, h.output, h.size, fun i hi _ => h.block i hi⟩

def PlPost (w : World) (p : Nat) (v : Value) (E : Int) (S : List UInt8) (x : Ending) (w' : World) : Prop := x = .returned (.tuple #[v, .int .i64 E]) ∧ PlAt w' p S ∧ w.grownBy w' (some p)

set_option maxRecDepth 100000 in
theorem plleft_any (T : ByteArray) (w : World) (h : w.cell? ⟨p, 0, none⟩ = some (.string T)) : Calls Try.prog 45 #[.pointer (some ⟨p, 0, none⟩)] w fun x w' => x = .returned (.int .i64 T.size) ∧ w = w' := by
  go_enter Try.func45, Try.ntmps45
  go_wp2
  go_ret
  exact ⟨rfl, rfl⟩

set_option maxHeartbeats 1000000 in
set_option maxRecDepth 100000 in
theorem plnext_any (n : Int) (w : World) (h : PlAt w p S) (hS : S.length ≤ 140737488355328) :
    Calls Try.prog 48 #[.pointer (some ⟨p, 0, none⟩), .int .i64 n] w (PlPost w p (.string (tx (take ⟨S, 0⟩ n).1)) (take ⟨S, 0⟩ n).2.E (take ⟨S, 0⟩ n).2.S) := by
  obtain ⟨c0, c1, f0, f1⟩ := h.cells
  obtain ⟨T, hT⟩ : ∃ T, T = tx S := ⟨_, rfl⟩
  have hTs : T.size = S.length := by rw [hT, tx_size]
  rw [← hT] at c0
  have HL := Lib.hid (fun w1 => plleft_any (p := p) T w1)
  have H := Lib.hid h
  by_cases hn : n < 0
  · rw [take_neg (r := ⟨S, 0⟩) rfl hn]
    clear hTs hT hS h HL
    go_enter Try.func48, Try.ntmps48
    go_wp2
    go_ret2
    exact ⟨rfl, H.out, World.grownBy.refl _ _⟩
  · by_cases hl : (S.length : Int) < n
    · rw [take_end (r := ⟨S, 0⟩) rfl (by omega) hl]
      rw [← hTs] at hl
      clear hTs hT hS h
      go_enter Try.func48, Try.ntmps48
      go_wp2_with fail
      refine (HL.out _ c0).mono ?_; rintro x w1 ⟨rfl, rfl⟩
      clear HL
      go_wp2
      go_ret2
      exact ⟨rfl, H.out, World.grownBy.refl _ _⟩
    · rw [take_ok (r := ⟨S, 0⟩) rfl (by omega) (by simp only; omega)]
      obtain ⟨T1, hT1⟩ : ∃ T1, T1 = tx (S.take n.toNat) := ⟨_, rfl⟩
      obtain ⟨T2, hT2⟩ : ∃ T2, T2 = tx (S.drop n.toNat) := ⟨_, rfl⟩
      have s1 : ∀ W, (Instr.slice 9 (.string T) none (some (.int .i64 n)) none).run Try.prog W = .ok (.string T1) W := by
        intro W
        rw [run_slice_string_to_if W 9 T .i64 n (by kernel_rfl), if_pos (by rw [hTs]; omega), hT, tx_take, hT1]
      have s2 : ∀ W, (Instr.slice 9 (.string T) (some (.int .i64 n)) none none).run Try.prog W = .ok (.string T2) W := by
        intro W
        rw [run_slice_string_from_if W 9 T .i64 n (by kernel_rfl), if_pos (by rw [hTs]; omega), hTs, hT, tx_drop _ _ _ rfl, hT2]
      have HF : Hid (PlAt (w.setCell ⟨p, 0, none⟩ (.string T2)) p (S.drop n.toNat)) := Lib.hid (by rw [hT2]; exact h.setS _)
      rw [← hTs] at hl
      simp only
      rw [← hT1]
      clear hTs hT hT1 hT2 hS h H
      go_enter Try.func48, Try.ntmps48
      go_wp2_with fail
      refine (HL.out _ c0).mono ?_; rintro x w1 ⟨rfl, rfl⟩
      clear HL
      go_wp2
      go_ret2
      exact ⟨rfl, HF.out, grown_set w p 0 _⟩

theorem take_len0 (n : Int) : (take ⟨S, 0⟩ n).1.length ≤ S.length := by
  unfold take
  split
  · simp
  · split
    · simp
    · split
      · simp
      · simp only [List.length_take]; omega
set_option maxHeartbeats 1000000 in
set_option maxRecDepth 100000 in
theorem pltake_any (n : Int) (w : World) (h : PlAt w p S) (hS : S.length ≤ 140737488355328) :
    Calls Try.prog 35 #[.pointer (some ⟨p, 0, none⟩), .int .i64 n] w (PlPost w p (.string (tx (take ⟨S, 0⟩ n).1)) (take ⟨S, 0⟩ n).2.E (take ⟨S, 0⟩ n).2.S) := by
  have HN := Lib.hid (plnext_any n w h hS)
  have hl := take_len0 (S := S) n
  obtain ⟨S2, hS2⟩ : ∃ S2, S2 = (take ⟨S, 0⟩ n).2.S := ⟨_, rfl⟩
  obtain ⟨E, hE⟩ : ∃ E, E = (take ⟨S, 0⟩ n).2.E := ⟨_, rfl⟩
  obtain ⟨T, hT⟩ : ∃ T, T = tx (take ⟨S, 0⟩ n).1 := ⟨_, rfl⟩
  rw [← hS2, ← hE, ← hT] at HN ⊢
  have HC := Lib.hid (fun W => sclone_any T (by rw [hT, tx_size]; omega) W)
  unfold PlPost at HN
  clear hS2 hE hT hl hS h
  go_enter Try.func35, Try.ntmps35
  go_wp2_with fail
  refine HN.out.mono ?_; rintro x w1 ⟨rfl, q1, g1⟩
  have HH := Lib.hid (And.intro q1 g1)
  clear q1 g1 HN
  go_wp2_with fail
  refine (HC.out _).mono ?_; rintro x w2 ⟨rfl, q⟩
  have HQ := Lib.hid q
  clear q HC
  go_wp2
  go_ret2
  exact ⟨rfl, HH.out.1.below HQ.out, HH.out.2.trans (grownB HQ.out _)⟩
end
end Go.Proofs.Ytijfdnaolgbpmaa
