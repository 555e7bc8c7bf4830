/- A text anew (strings.Clone). -/
import Derived.Test.YtfnofolahhoggaaOB
import Derived.Lib.BufferWrite
import Derived.Lib.UnsafeStr
import Derived.Laws.MakeOwn
import Derived.Lib.Strings
import Derived.Lib.Hide
set_option linter.unusedVariables false
namespace Go.Proofs.Ytfnofolahhoggaa
open Go Go.RowKit

theorem cellsByte : Try.prog.cellsOf 5 = 1 := by kernel_rfl
set_option maxHeartbeats 1000000 in
set_option maxRecDepth 100000 in
/-- A text laid anew reads the same. -/
theorem clone_any (s : ByteArray) (hs : s.size ≤ 140737488355328) (w : World) : Calls Try.prog 36 #[.string s] w fun e w' => e = .returned (.string s) ∧ Below w.heap.size w w' := by
  by_cases h0 : s.size = 0
  · obtain rfl : s = ⟨#[]⟩ := ByteArray.ext (Array.eq_empty_of_size_eq_zero h0)
    clear h0 hs
    go_enter Try.func36, Try.ntmps36
    go_wp2
    go_ret
    exact ⟨rfl, Below.refl _ _⟩
  · obtain ⟨i0, hi, hz0, hz1, hz2⟩ := info_parts infoByte
    have hl : s.data.toList.length = s.size := rfl
    have hne : s.data.toList ≠ [] := fun e => h0 (by rw [← hl, e]; rfl)
    obtain ⟨M, hM⟩ : ∃ M, M = madeCells (Value.int .u8 0).cells (((s.size : Nat) : Int).toNat * i0.size) := ⟨_, rfl⟩
    have hMs : M.size = s.size := by rw [hM, size_madeCells, hz1]; simp
    have mk := run_make (P := Try.prog) w 86 5 i0 (.int .u8 0) Try.underlying86 hi hz0 .i64 .i64 (s.size : Int) (s.size : Int) (by omega) (by omega) (by rw [hz2]; omega) (by omega)
    rw [← hM] at mk
    simp only [Int.toNat_natCast] at mk
    obtain ⟨wa, hwa⟩ : ∃ wa, wa = w.alloc (.cells M 5) := ⟨_, rfl⟩
    have hga : wa.heap[w.heap.size]? = some (.cells M 5 (0, 0)) := by rw [hwa]; exact heap_alloc_new w _
    rw [← hwa] at mk
    have cp := Lib.run_copy_row_string (P := Try.prog) wa 86 9 3 5 w.heap.size 0 s.size s.size s M 5 Try.underlying86 (by rw [hi]; simp [hz1]) hga (Nat.le_refl _) (by omega)
    obtain ⟨Y, hY⟩ : ∃ Y, Y = (M.toList.take 0 ++ Lib.byteCells s.data.toList ++ M.toList.drop (0 + s.size)).toArray := ⟨_, rfl⟩
    rw [← hY] at cp
    have hYl : Y.toList = Lib.byteCells s.data.toList := by
      rw [hY, List.take_zero, List.nil_append, List.drop_of_length_le (by simp; omega), List.append_nil]
    have hYs : Y.size = s.size := by rw [← Array.length_toList, hYl, Lib.byteCells_length]; exact hl
    obtain ⟨wb, hwb⟩ : ∃ wb, wb = wa.setRow w.heap.size Y := ⟨_, rfl⟩
    have hgb : wb.heap[w.heap.size]? = some (.cells Y 5 (0, 0)) := by rw [hwb]; exact setRow_heap _ _ M _ 5 (0, 0) hga
    rw [← hwb] at cp
    have us := Lib.run_unsafeString_row (P := Try.prog) wb 87 3 9 5 Try.underlying87 cellsByte w.heap.size Y.size (by unfold World.shape?; rw [hgb]) s.data.toList hne (by rw [hl, hYs]; exact Nat.le_refl _) (by rw [hl]; omega)
      (fun j x hx => Lib.cells_of_row hgb Y.size j _ (by rw [List.take_of_length_le (by simp), hYl]; simp [Lib.byteCells, hx]))
    rw [hl] at us
    have hb : Below w.heap.size w wb := by
      rw [hwb, hwa]
      exact ⟨rfl, rfl, rfl, by simp, fun k hk => (setRow_other _ _ _ _ (by omega)).trans (Below.heap_alloc _ _ _ hk)⟩
    have HB := Lib.hid (Lib.below_freeze hb (p := ⟨w.heap.size, 0, none⟩) (Nat.le_refl _) s.size)
    clear hb hY hYl hYs hM hMs hi hz0 hz1 hz2 hga hgb hne hl hwa hwb
    go_enter Try.func36, Try.ntmps36
    go_wp2
    go_ret
    exact ⟨rfl, HB.out⟩
theorem sclone_any (s : ByteArray) (hs : s.size ≤ 140737488355328) (w : World) : Calls Try.prog 27 #[.string s] w fun e w' => e = .returned (.string s) ∧ Below w.heap.size w w' := by
  have HC := Lib.hid (clone_any s hs w)
  go_enter Try.func27, Try.ntmps27
  go_wp2_with fail
  refine HC.out.mono ?_; rintro x w1 ⟨rfl, q⟩
  have HQ := Lib.hid q
  clear q HC
  go_wp2
  go_ret
  exact ⟨rfl, HQ.out⟩

end Go.Proofs.Ytfnofolahhoggaa
