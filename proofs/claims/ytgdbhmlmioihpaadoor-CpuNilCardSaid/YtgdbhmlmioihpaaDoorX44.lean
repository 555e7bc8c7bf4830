/- A cpu is copied. -/
import Derived.Test.YtgdbhmlmioihpaaDoorX33
import Derived.Test.YtgdbhmlmioihpaaDoorX17
set_option linter.unusedVariables false
namespace Go.Proofs.YtgdbhmlmioihpaaDoor
open Go Go.RowKit Go.Maps

theorem info_cpu : (Tryd.prog.info? 47).map (·.size) = some 17 := by kernel_rfl
theorem rcs_one (c : Cp) : (rcs c).toArray.all (·.oneCell') = true := by
  rw [Array.all_eq_true']
  intro v hv
  exact ccs_one c v (show v ∈ rcs c by simpa using hv)
set_option maxHeartbeats 2000000 in
set_option maxRecDepth 100000 in
theorem copyOK : CopyOK := by
  intro w p c h
  have hb : Blk w p 47 (rcs c) := h
  obtain ⟨C, hC⟩ : ∃ C, C = rcs c := ⟨_, rfl⟩
  have hl : C.length = 17 := by rw [hC, rcs_length]
  have h1 : C.toArray.all (·.oneCell') = true := by rw [hC]; exact rcs_one c
  have KS : (storeCells ⟨w.heap.size, 0, none⟩ C 0).run Tryd.prog (w.alloc (.cells #[.int .u32 0, .int .u32 0, .int .u32 0, .int .u32 0, .int .u32 0, .int .u32 0, .int .u32 0, .int .u32 0, .int .u32 0, .int .u32 0, .int .u32 0, .int .u32 0, .int .u32 0, .int .u32 0, .int .u32 0, .int .u32 0, .int .u32 0] 47)) = .ok () (w.alloc (.cells C.toArray 47)) := by
    have h := run_storeCells_new (P := Tryd.prog) w 47 #[.int .u32 0, .int .u32 0, .int .u32 0, .int .u32 0, .int .u32 0, .int .u32 0, .int .u32 0, .int .u32 0, .int .u32 0, .int .u32 0, .int .u32 0, .int .u32 0, .int .u32 0, .int .u32 0, .int .u32 0, .int .u32 0, .int .u32 0] C.toArray (by rw [List.size_toArray, hl]; exact info_cpu) (by simp [hl]) h1
    simpa using h
  have HN : Hid (CAt (w.alloc (.cells C.toArray 47)) w.heap.size c) := Lib.hid (by
    show Blk _ _ 47 (rcs c)
    rw [← hC]; exact Blk.new w 47 C)
  rw [← hC] at hb
  have HB := Lib.hid hb
  have HI : Hid ((Tryd.prog.info? 47).map (·.size) = some C.toArray.size) := Lib.hid (by rw [List.size_toArray, hl]; exact info_cpu)
  clear hC hb h h1
  go_enter Tryd.func12, Tryd.ntmps12
  go_wp2_with (first
    | (refine wpList_load_row rfl 47 (.tmp 7) rfl p rfl 47 C.toArray (0, 0) _ HB.out Tryd.underlying47 rfl HI.out ?_))
  go_ret
  exact ⟨⟨_, Nat.le_refl _, rfl, HN.out⟩, (Below.refl _ _).alloc (Nat.le_refl _) _⟩
end Go.Proofs.YtgdbhmlmioihpaaDoor
