/- The program's named, going, At and the constructors of lines. -/
import Derived.Test.YtlnnhgmkibjgmaaDoorX23
import Derived.Test.YtlnnhgmkibjgmaaDoorX30
set_option linter.unusedVariables false
set_option linter.unusedSimpArgs false
namespace Go.Proofs.YtlnnhgmkibjgmaaDoor
open Go Go.RowKit Oj Al

def inC (op d a b im : Int) : List Value := [.int .u8 op, .int .u8 d, .int .u8 a, .int .u8 b, .int .u32 im]
set_option maxHeartbeats 4000000 in
set_option maxRecDepth 100000 in
theorem anamed_raw (T : ByteArray) (op d a b im : Int) (hT : T.size ≤ 140737488355328) (w : World) :
    Calls Tryd.prog 43 #[inV op d a b im, .string T] w fun e w' => e = .returned (lnR ⟨#[]⟩ op d a b im ⟨#[]⟩ T) ∧ Below w.heap.size w w' := by
  have HO := Lib.hid (aown_raw ⟨#[]⟩ ⟨#[]⟩ T op d a b im (by first | exact hT | decide) (by first | exact hT | decide) (by first | exact hT | decide))
  unfold inV
  unfold lnR at HO ⊢
  have HX0 := Lib.hid (Blk.new2 w (.cells #[.int .u8 op, .int .u8 d, .int .u8 a, .int .u8 b, .int .u32 im] 40) 42 [.string ⟨#[]⟩, .int .u8 0, .int .u8 0, .int .u8 0, .int .u8 0, .int .u32 0, .string ⟨#[]⟩, .string ⟨#[]⟩])
  have HB0 := Lib.hid (below_new2 w (.cells #[.int .u8 op, .int .u8 d, .int .u8 a, .int .u8 b, .int .u32 im] 40) (.cells #[.string ⟨#[]⟩, .int .u8 0, .int .u8 0, .int .u8 0, .int .u8 0, .int .u32 0, .string ⟨#[]⟩, .string ⟨#[]⟩] 42))
  clear hT
  go_enter Tryd.func43, Tryd.ntmps43
  go_wp2_with fail
  refine (HO.out _).mono ?_; rintro e w1 ⟨rfl, q⟩
  have HX1 := Lib.hid (HX0.out.call q)
  have HB1 := Lib.hid (below_call HB0.out q)
  clear q HX0 HB0 HO
  obtain ⟨x0, x1, x2, x3, x4, x5, x6, x7⟩ := HX1.out.eight
  obtain ⟨f0, f1, f2, f3, f4, f5, f6, f7, hlt⟩ := HX1.out.free8
  go_wp2_with fail
  obtain ⟨HB5, HX5⟩ := store8 (.string ⟨#[]⟩) (.int .u8 op) (.int .u8 d) (.int .u8 a) (.int .u8 b) (.int .u32 im) (.string ⟨#[]⟩) (.string T) HB1.out (Nat.le_succ _) HX1.out _ rfl
  refine bodyPost_ret (v := .agg #[.string ⟨#[]⟩, .int .u8 op, .int .u8 d, .int .u8 a, .int .u8 b, .int .u32 im, .string ⟨#[]⟩, .string T]) (results_cell_row Tryd.results43 _ _ (w.heap.size + 1) 42 _ (0, 0) _ rfl HX5 Tryd.underlying42 rfl (by kernel_rfl)) rfl ⟨rfl, HB5⟩
set_option maxHeartbeats 4000000 in
set_option maxRecDepth 100000 in
theorem agoing_raw (T : ByteArray) (op d a b im : Int) (hT : T.size ≤ 140737488355328) (w : World) :
    Calls Tryd.prog 44 #[inV op d a b im, .string T] w fun e w' => e = .returned (lnR ⟨#[]⟩ op d a b im T ⟨#[]⟩) ∧ Below w.heap.size w w' := by
  have HO := Lib.hid (aown_raw ⟨#[]⟩ T ⟨#[]⟩ op d a b im (by first | exact hT | decide) (by first | exact hT | decide) (by first | exact hT | decide))
  unfold inV
  unfold lnR at HO ⊢
  have HX0 := Lib.hid (Blk.new2 w (.cells #[.int .u8 op, .int .u8 d, .int .u8 a, .int .u8 b, .int .u32 im] 40) 42 [.string ⟨#[]⟩, .int .u8 0, .int .u8 0, .int .u8 0, .int .u8 0, .int .u32 0, .string ⟨#[]⟩, .string ⟨#[]⟩])
  have HB0 := Lib.hid (below_new2 w (.cells #[.int .u8 op, .int .u8 d, .int .u8 a, .int .u8 b, .int .u32 im] 40) (.cells #[.string ⟨#[]⟩, .int .u8 0, .int .u8 0, .int .u8 0, .int .u8 0, .int .u32 0, .string ⟨#[]⟩, .string ⟨#[]⟩] 42))
  clear hT
  go_enter Tryd.func44, Tryd.ntmps44
  go_wp2_with fail
  refine (HO.out _).mono ?_; rintro e w1 ⟨rfl, q⟩
  have HX1 := Lib.hid (HX0.out.call q)
  have HB1 := Lib.hid (below_call HB0.out q)
  clear q HX0 HB0 HO
  obtain ⟨x0, x1, x2, x3, x4, x5, x6, x7⟩ := HX1.out.eight
  obtain ⟨f0, f1, f2, f3, f4, f5, f6, f7, hlt⟩ := HX1.out.free8
  go_wp2_with fail
  obtain ⟨HB5, HX5⟩ := store8 (.string ⟨#[]⟩) (.int .u8 op) (.int .u8 d) (.int .u8 a) (.int .u8 b) (.int .u32 im) (.string T) (.string ⟨#[]⟩) HB1.out (Nat.le_succ _) HX1.out _ rfl
  refine bodyPost_ret (v := .agg #[.string ⟨#[]⟩, .int .u8 op, .int .u8 d, .int .u8 a, .int .u8 b, .int .u32 im, .string T, .string ⟨#[]⟩]) (results_cell_row Tryd.results44 _ _ (w.heap.size + 1) 42 _ (0, 0) _ rfl HX5 Tryd.underlying42 rfl (by kernel_rfl)) rfl ⟨rfl, HB5⟩
set_option maxHeartbeats 4000000 in
set_option maxRecDepth 100000 in
theorem ar_raw (op d a b : Int) (w : World) : Calls Tryd.prog 15 #[.int .u8 op, .int .u8 d, .int .u8 a, .int .u8 b] w fun e w' => e = .returned (.agg #[.string ⟨#[]⟩, .int .u8 op, .int .u8 d, .int .u8 a, .int .u8 b, .int .u32 0, .string ⟨#[]⟩, .string ⟨#[]⟩]) ∧ Below w.heap.size w w' := by
  have HX0 := Lib.hid (Blk.new w 42 [.string ⟨#[]⟩, .int .u8 op, .int .u8 d, .int .u8 a, .int .u8 b, .int .u32 0, .string ⟨#[]⟩, .string ⟨#[]⟩])
  have HB0 := Lib.hid (below_new1 w (.cells #[.string ⟨#[]⟩, .int .u8 op, .int .u8 d, .int .u8 a, .int .u8 b, .int .u32 0, .string ⟨#[]⟩, .string ⟨#[]⟩] 42))
  go_enter Tryd.func15, Tryd.ntmps15
  go_wp2_with fail
  refine bodyPost_ret (v := .agg #[.string ⟨#[]⟩, .int .u8 op, .int .u8 d, .int .u8 a, .int .u8 b, .int .u32 0, .string ⟨#[]⟩, .string ⟨#[]⟩]) (results_cell_row Tryd.results15 _ _ w.heap.size 42 _ (0, 0) _ rfl HX0.out Tryd.underlying42 rfl (by kernel_rfl)) rfl ⟨rfl, HB0.out⟩
set_option maxHeartbeats 4000000 in
set_option maxRecDepth 100000 in
theorem ai_raw (op d a n : Int) (w : World) : Calls Tryd.prog 16 #[.int .u8 op, .int .u8 d, .int .u8 a, .int .u32 n] w fun e w' => e = .returned (.agg #[.string ⟨#[]⟩, .int .u8 op, .int .u8 d, .int .u8 a, .int .u8 0, .int .u32 n, .string ⟨#[]⟩, .string ⟨#[]⟩]) ∧ Below w.heap.size w w' := by
  have HX0 := Lib.hid (Blk.new w 42 [.string ⟨#[]⟩, .int .u8 op, .int .u8 d, .int .u8 a, .int .u8 0, .int .u32 n, .string ⟨#[]⟩, .string ⟨#[]⟩])
  have HB0 := Lib.hid (below_new1 w (.cells #[.string ⟨#[]⟩, .int .u8 op, .int .u8 d, .int .u8 a, .int .u8 0, .int .u32 n, .string ⟨#[]⟩, .string ⟨#[]⟩] 42))
  go_enter Tryd.func16, Tryd.ntmps16
  go_wp2_with fail
  refine bodyPost_ret (v := .agg #[.string ⟨#[]⟩, .int .u8 op, .int .u8 d, .int .u8 a, .int .u8 0, .int .u32 n, .string ⟨#[]⟩, .string ⟨#[]⟩]) (results_cell_row Tryd.results16 _ _ w.heap.size 42 _ (0, 0) _ rfl HX0.out Tryd.underlying42 rfl (by kernel_rfl)) rfl ⟨rfl, HB0.out⟩
set_option maxHeartbeats 4000000 in
set_option maxRecDepth 100000 in
theorem ast_raw (op b a n : Int) (w : World) : Calls Tryd.prog 20 #[.int .u8 op, .int .u8 b, .int .u8 a, .int .u32 n] w fun e w' => e = .returned (.agg #[.string ⟨#[]⟩, .int .u8 op, .int .u8 0, .int .u8 a, .int .u8 b, .int .u32 n, .string ⟨#[]⟩, .string ⟨#[]⟩]) ∧ Below w.heap.size w w' := by
  have HX0 := Lib.hid (Blk.new w 42 [.string ⟨#[]⟩, .int .u8 op, .int .u8 0, .int .u8 a, .int .u8 b, .int .u32 n, .string ⟨#[]⟩, .string ⟨#[]⟩])
  have HB0 := Lib.hid (below_new1 w (.cells #[.string ⟨#[]⟩, .int .u8 op, .int .u8 0, .int .u8 a, .int .u8 b, .int .u32 n, .string ⟨#[]⟩, .string ⟨#[]⟩] 42))
  go_enter Tryd.func20, Tryd.ntmps20
  go_wp2_with fail
  refine bodyPost_ret (v := .agg #[.string ⟨#[]⟩, .int .u8 op, .int .u8 0, .int .u8 a, .int .u8 b, .int .u32 n, .string ⟨#[]⟩, .string ⟨#[]⟩]) (results_cell_row Tryd.results20 _ _ w.heap.size 42 _ (0, 0) _ rfl HX0.out Tryd.underlying42 rfl (by kernel_rfl)) rfl ⟨rfl, HB0.out⟩
set_option maxHeartbeats 4000000 in
set_option maxRecDepth 100000 in
theorem aret_raw (w : World) : Calls Tryd.prog 26 #[] w fun e w' => e = .returned (.agg #[.string ⟨#[]⟩, .int .u8 42, .int .u8 0, .int .u8 15, .int .u8 0, .int .u32 0, .string ⟨#[]⟩, .string ⟨#[]⟩]) ∧ Below w.heap.size w w' := by
  have HX0 := Lib.hid (Blk.new w 42 [.string ⟨#[]⟩, .int .u8 42, .int .u8 0, .int .u8 15, .int .u8 0, .int .u32 0, .string ⟨#[]⟩, .string ⟨#[]⟩])
  have HB0 := Lib.hid (below_new1 w (.cells #[.string ⟨#[]⟩, .int .u8 42, .int .u8 0, .int .u8 15, .int .u8 0, .int .u32 0, .string ⟨#[]⟩, .string ⟨#[]⟩] 42))
  go_enter Tryd.func26, Tryd.ntmps26
  go_wp2_with fail
  refine bodyPost_ret (v := .agg #[.string ⟨#[]⟩, .int .u8 42, .int .u8 0, .int .u8 15, .int .u8 0, .int .u32 0, .string ⟨#[]⟩, .string ⟨#[]⟩]) (results_cell_row Tryd.results26 _ _ w.heap.size 42 _ (0, 0) _ rfl HX0.out Tryd.underlying42 rfl (by kernel_rfl)) rfl ⟨rfl, HB0.out⟩
set_option maxHeartbeats 4000000 in
set_option maxRecDepth 100000 in
theorem asys_raw (n : Int) (w : World) : Calls Tryd.prog 27 #[.int .u32 n] w fun e w' => e = .returned (.agg #[.string ⟨#[]⟩, .int .u8 50, .int .u8 0, .int .u8 0, .int .u8 0, .int .u32 n, .string ⟨#[]⟩, .string ⟨#[]⟩]) ∧ Below w.heap.size w w' := by
  have HX0 := Lib.hid (Blk.new w 42 [.string ⟨#[]⟩, .int .u8 50, .int .u8 0, .int .u8 0, .int .u8 0, .int .u32 n, .string ⟨#[]⟩, .string ⟨#[]⟩])
  have HB0 := Lib.hid (below_new1 w (.cells #[.string ⟨#[]⟩, .int .u8 50, .int .u8 0, .int .u8 0, .int .u8 0, .int .u32 n, .string ⟨#[]⟩, .string ⟨#[]⟩] 42))
  go_enter Tryd.func27, Tryd.ntmps27
  go_wp2_with fail
  refine bodyPost_ret (v := .agg #[.string ⟨#[]⟩, .int .u8 50, .int .u8 0, .int .u8 0, .int .u8 0, .int .u32 n, .string ⟨#[]⟩, .string ⟨#[]⟩]) (results_cell_row Tryd.results27 _ _ w.heap.size 42 _ (0, 0) _ rfl HX0.out Tryd.underlying42 rfl (by kernel_rfl)) rfl ⟨rfl, HB0.out⟩
set_option maxHeartbeats 4000000 in
set_option maxRecDepth 100000 in
theorem ali_raw (d n : Int) (w : World) : Calls Tryd.prog 17 #[.int .u8 d, .int .u32 n] w fun e w' => e = .returned (.agg #[.string ⟨#[]⟩, .int .u8 32, .int .u8 d, .int .u8 0, .int .u8 0, .int .u32 n, .string ⟨#[]⟩, .string ⟨#[]⟩]) ∧ Below w.heap.size w w' := by
  have HO := Lib.hid (ai_raw 32 d 0 n)
  skip
  have HX0 := Lib.hid (Blk.new w 42 [.string ⟨#[]⟩, .int .u8 0, .int .u8 0, .int .u8 0, .int .u8 0, .int .u32 0, .string ⟨#[]⟩, .string ⟨#[]⟩])
  have HB0 := Lib.hid (below_new1 w (.cells #[.string ⟨#[]⟩, .int .u8 0, .int .u8 0, .int .u8 0, .int .u8 0, .int .u32 0, .string ⟨#[]⟩, .string ⟨#[]⟩] 42))
  skip
  go_enter Tryd.func17, Tryd.ntmps17
  go_wp2_with fail
  refine (HO.out _).mono ?_; rintro e w1 ⟨rfl, q⟩
  have HX1 := Lib.hid (HX0.out.call q)
  have HB1 := Lib.hid (below_call HB0.out q)
  clear q HX0 HB0 HO
  obtain ⟨x0, x1, x2, x3, x4, x5, x6, x7⟩ := HX1.out.eight
  obtain ⟨f0, f1, f2, f3, f4, f5, f6, f7, hlt⟩ := HX1.out.free8
  go_wp2_with fail
  obtain ⟨HB5, HX5⟩ := store8 (.string ⟨#[]⟩) (.int .u8 32) (.int .u8 d) (.int .u8 0) (.int .u8 0) (.int .u32 n) (.string ⟨#[]⟩) (.string ⟨#[]⟩) HB1.out (Nat.le_refl _) HX1.out _ rfl
  refine bodyPost_ret (v := .agg #[.string ⟨#[]⟩, .int .u8 32, .int .u8 d, .int .u8 0, .int .u8 0, .int .u32 n, .string ⟨#[]⟩, .string ⟨#[]⟩]) (results_cell_row Tryd.results17 _ _ w.heap.size 42 _ (0, 0) _ rfl HX5 Tryd.underlying42 rfl (by kernel_rfl)) rfl ⟨rfl, HB5⟩
set_option maxHeartbeats 4000000 in
set_option maxRecDepth 100000 in
theorem ald_raw (op d a n : Int) (w : World) : Calls Tryd.prog 19 #[.int .u8 op, .int .u8 d, .int .u8 a, .int .u32 n] w fun e w' => e = .returned (.agg #[.string ⟨#[]⟩, .int .u8 op, .int .u8 d, .int .u8 a, .int .u8 0, .int .u32 n, .string ⟨#[]⟩, .string ⟨#[]⟩]) ∧ Below w.heap.size w w' := by
  have HO := Lib.hid (ai_raw op d a n)
  skip
  have HX0 := Lib.hid (Blk.new w 42 [.string ⟨#[]⟩, .int .u8 0, .int .u8 0, .int .u8 0, .int .u8 0, .int .u32 0, .string ⟨#[]⟩, .string ⟨#[]⟩])
  have HB0 := Lib.hid (below_new1 w (.cells #[.string ⟨#[]⟩, .int .u8 0, .int .u8 0, .int .u8 0, .int .u8 0, .int .u32 0, .string ⟨#[]⟩, .string ⟨#[]⟩] 42))
  skip
  go_enter Tryd.func19, Tryd.ntmps19
  go_wp2_with fail
  refine (HO.out _).mono ?_; rintro e w1 ⟨rfl, q⟩
  have HX1 := Lib.hid (HX0.out.call q)
  have HB1 := Lib.hid (below_call HB0.out q)
  clear q HX0 HB0 HO
  obtain ⟨x0, x1, x2, x3, x4, x5, x6, x7⟩ := HX1.out.eight
  obtain ⟨f0, f1, f2, f3, f4, f5, f6, f7, hlt⟩ := HX1.out.free8
  go_wp2_with fail
  obtain ⟨HB5, HX5⟩ := store8 (.string ⟨#[]⟩) (.int .u8 op) (.int .u8 d) (.int .u8 a) (.int .u8 0) (.int .u32 n) (.string ⟨#[]⟩) (.string ⟨#[]⟩) HB1.out (Nat.le_refl _) HX1.out _ rfl
  refine bodyPost_ret (v := .agg #[.string ⟨#[]⟩, .int .u8 op, .int .u8 d, .int .u8 a, .int .u8 0, .int .u32 n, .string ⟨#[]⟩, .string ⟨#[]⟩]) (results_cell_row Tryd.results19 _ _ w.heap.size 42 _ (0, 0) _ rfl HX5 Tryd.underlying42 rfl (by kernel_rfl)) rfl ⟨rfl, HB5⟩
set_option maxHeartbeats 4000000 in
set_option maxRecDepth 100000 in
theorem ala_raw (T : ByteArray) (d n : Int) (hT : T.size ≤ 140737488355328) (w : World) : Calls Tryd.prog 18 #[.int .u8 d, .string T, .int .u32 n] w fun e w' => e = .returned (.agg #[.string ⟨#[]⟩, .int .u8 32, .int .u8 d, .int .u8 0, .int .u8 0, .int .u32 n, .string ⟨#[]⟩, .string T]) ∧ Below w.heap.size w w' := by
  have HO := Lib.hid (anamed_raw T 32 d 0 0 n hT)
  unfold inV lnR at HO
  have HX0 := Lib.hid (Blk.new w 42 [.string ⟨#[]⟩, .int .u8 0, .int .u8 0, .int .u8 0, .int .u8 0, .int .u32 0, .string ⟨#[]⟩, .string ⟨#[]⟩])
  have HB0 := Lib.hid (below_new1 w (.cells #[.string ⟨#[]⟩, .int .u8 0, .int .u8 0, .int .u8 0, .int .u8 0, .int .u32 0, .string ⟨#[]⟩, .string ⟨#[]⟩] 42))
  clear hT
  go_enter Tryd.func18, Tryd.ntmps18
  go_wp2_with fail
  refine (HO.out _).mono ?_; rintro e w1 ⟨rfl, q⟩
  have HX1 := Lib.hid (HX0.out.call q)
  have HB1 := Lib.hid (below_call HB0.out q)
  clear q HX0 HB0 HO
  obtain ⟨x0, x1, x2, x3, x4, x5, x6, x7⟩ := HX1.out.eight
  obtain ⟨f0, f1, f2, f3, f4, f5, f6, f7, hlt⟩ := HX1.out.free8
  go_wp2_with fail
  obtain ⟨HB5, HX5⟩ := store8 (.string ⟨#[]⟩) (.int .u8 32) (.int .u8 d) (.int .u8 0) (.int .u8 0) (.int .u32 n) (.string ⟨#[]⟩) (.string T) HB1.out (Nat.le_refl _) HX1.out _ rfl
  refine bodyPost_ret (v := .agg #[.string ⟨#[]⟩, .int .u8 32, .int .u8 d, .int .u8 0, .int .u8 0, .int .u32 n, .string ⟨#[]⟩, .string T]) (results_cell_row Tryd.results18 _ _ w.heap.size 42 _ (0, 0) _ rfl HX5 Tryd.underlying42 rfl (by kernel_rfl)) rfl ⟨rfl, HB5⟩
set_option maxHeartbeats 4000000 in
set_option maxRecDepth 100000 in
theorem aldat_raw (T : ByteArray) (op d n : Int) (hT : T.size ≤ 140737488355328) (w : World) : Calls Tryd.prog 21 #[.int .u8 op, .int .u8 d, .string T, .int .u32 n] w fun e w' => e = .returned (.agg #[.string ⟨#[]⟩, .int .u8 op, .int .u8 d, .int .u8 0, .int .u8 0, .int .u32 n, .string ⟨#[]⟩, .string T]) ∧ Below w.heap.size w w' := by
  have HO := Lib.hid (anamed_raw T op d 0 0 n hT)
  unfold inV lnR at HO
  have HX0 := Lib.hid (Blk.new w 42 [.string ⟨#[]⟩, .int .u8 0, .int .u8 0, .int .u8 0, .int .u8 0, .int .u32 0, .string ⟨#[]⟩, .string ⟨#[]⟩])
  have HB0 := Lib.hid (below_new1 w (.cells #[.string ⟨#[]⟩, .int .u8 0, .int .u8 0, .int .u8 0, .int .u8 0, .int .u32 0, .string ⟨#[]⟩, .string ⟨#[]⟩] 42))
  clear hT
  go_enter Tryd.func21, Tryd.ntmps21
  go_wp2_with fail
  refine (HO.out _).mono ?_; rintro e w1 ⟨rfl, q⟩
  have HX1 := Lib.hid (HX0.out.call q)
  have HB1 := Lib.hid (below_call HB0.out q)
  clear q HX0 HB0 HO
  obtain ⟨x0, x1, x2, x3, x4, x5, x6, x7⟩ := HX1.out.eight
  obtain ⟨f0, f1, f2, f3, f4, f5, f6, f7, hlt⟩ := HX1.out.free8
  go_wp2_with fail
  obtain ⟨HB5, HX5⟩ := store8 (.string ⟨#[]⟩) (.int .u8 op) (.int .u8 d) (.int .u8 0) (.int .u8 0) (.int .u32 n) (.string ⟨#[]⟩) (.string T) HB1.out (Nat.le_refl _) HX1.out _ rfl
  refine bodyPost_ret (v := .agg #[.string ⟨#[]⟩, .int .u8 op, .int .u8 d, .int .u8 0, .int .u8 0, .int .u32 n, .string ⟨#[]⟩, .string T]) (results_cell_row Tryd.results21 _ _ w.heap.size 42 _ (0, 0) _ rfl HX5 Tryd.underlying42 rfl (by kernel_rfl)) rfl ⟨rfl, HB5⟩
set_option maxHeartbeats 4000000 in
set_option maxRecDepth 100000 in
theorem astat_raw (T : ByteArray) (op b n : Int) (hT : T.size ≤ 140737488355328) (w : World) : Calls Tryd.prog 22 #[.int .u8 op, .int .u8 b, .string T, .int .u32 n] w fun e w' => e = .returned (.agg #[.string ⟨#[]⟩, .int .u8 op, .int .u8 0, .int .u8 0, .int .u8 b, .int .u32 n, .string ⟨#[]⟩, .string T]) ∧ Below w.heap.size w w' := by
  have HO := Lib.hid (anamed_raw T op 0 0 b n hT)
  unfold inV lnR at HO
  have HX0 := Lib.hid (Blk.new w 42 [.string ⟨#[]⟩, .int .u8 0, .int .u8 0, .int .u8 0, .int .u8 0, .int .u32 0, .string ⟨#[]⟩, .string ⟨#[]⟩])
  have HB0 := Lib.hid (below_new1 w (.cells #[.string ⟨#[]⟩, .int .u8 0, .int .u8 0, .int .u8 0, .int .u8 0, .int .u32 0, .string ⟨#[]⟩, .string ⟨#[]⟩] 42))
  clear hT
  go_enter Tryd.func22, Tryd.ntmps22
  go_wp2_with fail
  refine (HO.out _).mono ?_; rintro e w1 ⟨rfl, q⟩
  have HX1 := Lib.hid (HX0.out.call q)
  have HB1 := Lib.hid (below_call HB0.out q)
  clear q HX0 HB0 HO
  obtain ⟨x0, x1, x2, x3, x4, x5, x6, x7⟩ := HX1.out.eight
  obtain ⟨f0, f1, f2, f3, f4, f5, f6, f7, hlt⟩ := HX1.out.free8
  go_wp2_with fail
  obtain ⟨HB5, HX5⟩ := store8 (.string ⟨#[]⟩) (.int .u8 op) (.int .u8 0) (.int .u8 0) (.int .u8 b) (.int .u32 n) (.string ⟨#[]⟩) (.string T) HB1.out (Nat.le_refl _) HX1.out _ rfl
  refine bodyPost_ret (v := .agg #[.string ⟨#[]⟩, .int .u8 op, .int .u8 0, .int .u8 0, .int .u8 b, .int .u32 n, .string ⟨#[]⟩, .string T]) (results_cell_row Tryd.results22 _ _ w.heap.size 42 _ (0, 0) _ rfl HX5 Tryd.underlying42 rfl (by kernel_rfl)) rfl ⟨rfl, HB5⟩
set_option maxHeartbeats 4000000 in
set_option maxRecDepth 100000 in
theorem acall_raw (T : ByteArray) (hT : T.size ≤ 140737488355328) (w : World) : Calls Tryd.prog 25 #[.string T] w fun e w' => e = .returned (.agg #[.string ⟨#[]⟩, .int .u8 41, .int .u8 15, .int .u8 0, .int .u8 0, .int .u32 0, .string ⟨#[]⟩, .string T]) ∧ Below w.heap.size w w' := by
  have HO := Lib.hid (anamed_raw T 41 15 0 0 0 hT)
  unfold inV lnR at HO
  have HX0 := Lib.hid (Blk.new w 42 [.string ⟨#[]⟩, .int .u8 0, .int .u8 0, .int .u8 0, .int .u8 0, .int .u32 0, .string ⟨#[]⟩, .string ⟨#[]⟩])
  have HB0 := Lib.hid (below_new1 w (.cells #[.string ⟨#[]⟩, .int .u8 0, .int .u8 0, .int .u8 0, .int .u8 0, .int .u32 0, .string ⟨#[]⟩, .string ⟨#[]⟩] 42))
  clear hT
  go_enter Tryd.func25, Tryd.ntmps25
  go_wp2_with fail
  refine (HO.out _).mono ?_; rintro e w1 ⟨rfl, q⟩
  have HX1 := Lib.hid (HX0.out.call q)
  have HB1 := Lib.hid (below_call HB0.out q)
  clear q HX0 HB0 HO
  obtain ⟨x0, x1, x2, x3, x4, x5, x6, x7⟩ := HX1.out.eight
  obtain ⟨f0, f1, f2, f3, f4, f5, f6, f7, hlt⟩ := HX1.out.free8
  go_wp2_with fail
  obtain ⟨HB5, HX5⟩ := store8 (.string ⟨#[]⟩) (.int .u8 41) (.int .u8 15) (.int .u8 0) (.int .u8 0) (.int .u32 0) (.string ⟨#[]⟩) (.string T) HB1.out (Nat.le_refl _) HX1.out _ rfl
  refine bodyPost_ret (v := .agg #[.string ⟨#[]⟩, .int .u8 41, .int .u8 15, .int .u8 0, .int .u8 0, .int .u32 0, .string ⟨#[]⟩, .string T]) (results_cell_row Tryd.results25 _ _ w.heap.size 42 _ (0, 0) _ rfl HX5 Tryd.underlying42 rfl (by kernel_rfl)) rfl ⟨rfl, HB5⟩
set_option maxHeartbeats 4000000 in
set_option maxRecDepth 100000 in
theorem ajmp_raw (T : ByteArray) (hT : T.size ≤ 140737488355328) (w : World) : Calls Tryd.prog 23 #[.string T] w fun e w' => e = .returned (.agg #[.string ⟨#[]⟩, .int .u8 40, .int .u8 0, .int .u8 0, .int .u8 0, .int .u32 0, .string T, .string ⟨#[]⟩]) ∧ Below w.heap.size w w' := by
  have HO := Lib.hid (agoing_raw T 40 0 0 0 0 hT)
  unfold inV lnR at HO
  have HX0 := Lib.hid (Blk.new w 42 [.string ⟨#[]⟩, .int .u8 0, .int .u8 0, .int .u8 0, .int .u8 0, .int .u32 0, .string ⟨#[]⟩, .string ⟨#[]⟩])
  have HB0 := Lib.hid (below_new1 w (.cells #[.string ⟨#[]⟩, .int .u8 0, .int .u8 0, .int .u8 0, .int .u8 0, .int .u32 0, .string ⟨#[]⟩, .string ⟨#[]⟩] 42))
  clear hT
  go_enter Tryd.func23, Tryd.ntmps23
  go_wp2_with fail
  refine (HO.out _).mono ?_; rintro e w1 ⟨rfl, q⟩
  have HX1 := Lib.hid (HX0.out.call q)
  have HB1 := Lib.hid (below_call HB0.out q)
  clear q HX0 HB0 HO
  obtain ⟨x0, x1, x2, x3, x4, x5, x6, x7⟩ := HX1.out.eight
  obtain ⟨f0, f1, f2, f3, f4, f5, f6, f7, hlt⟩ := HX1.out.free8
  go_wp2_with fail
  obtain ⟨HB5, HX5⟩ := store8 (.string ⟨#[]⟩) (.int .u8 40) (.int .u8 0) (.int .u8 0) (.int .u8 0) (.int .u32 0) (.string T) (.string ⟨#[]⟩) HB1.out (Nat.le_refl _) HX1.out _ rfl
  refine bodyPost_ret (v := .agg #[.string ⟨#[]⟩, .int .u8 40, .int .u8 0, .int .u8 0, .int .u8 0, .int .u32 0, .string T, .string ⟨#[]⟩]) (results_cell_row Tryd.results23 _ _ w.heap.size 42 _ (0, 0) _ rfl HX5 Tryd.underlying42 rfl (by kernel_rfl)) rfl ⟨rfl, HB5⟩
set_option maxHeartbeats 4000000 in
set_option maxRecDepth 100000 in
theorem abr_raw (T : ByteArray) (op a b : Int) (hT : T.size ≤ 140737488355328) (w : World) : Calls Tryd.prog 24 #[.int .u8 op, .int .u8 a, .int .u8 b, .string T] w fun e w' => e = .returned (.agg #[.string ⟨#[]⟩, .int .u8 op, .int .u8 0, .int .u8 a, .int .u8 b, .int .u32 0, .string T, .string ⟨#[]⟩]) ∧ Below w.heap.size w w' := by
  have HO := Lib.hid (agoing_raw T op 0 a b 0 hT)
  unfold inV lnR at HO
  have HX0 := Lib.hid (Blk.new w 42 [.string ⟨#[]⟩, .int .u8 0, .int .u8 0, .int .u8 0, .int .u8 0, .int .u32 0, .string ⟨#[]⟩, .string ⟨#[]⟩])
  have HB0 := Lib.hid (below_new1 w (.cells #[.string ⟨#[]⟩, .int .u8 0, .int .u8 0, .int .u8 0, .int .u8 0, .int .u32 0, .string ⟨#[]⟩, .string ⟨#[]⟩] 42))
  clear hT
  go_enter Tryd.func24, Tryd.ntmps24
  go_wp2_with fail
  refine (HO.out _).mono ?_; rintro e w1 ⟨rfl, q⟩
  have HX1 := Lib.hid (HX0.out.call q)
  have HB1 := Lib.hid (below_call HB0.out q)
  clear q HX0 HB0 HO
  obtain ⟨x0, x1, x2, x3, x4, x5, x6, x7⟩ := HX1.out.eight
  obtain ⟨f0, f1, f2, f3, f4, f5, f6, f7, hlt⟩ := HX1.out.free8
  go_wp2_with fail
  obtain ⟨HB5, HX5⟩ := store8 (.string ⟨#[]⟩) (.int .u8 op) (.int .u8 0) (.int .u8 a) (.int .u8 b) (.int .u32 0) (.string T) (.string ⟨#[]⟩) HB1.out (Nat.le_refl _) HX1.out _ rfl
  refine bodyPost_ret (v := .agg #[.string ⟨#[]⟩, .int .u8 op, .int .u8 0, .int .u8 a, .int .u8 b, .int .u32 0, .string T, .string ⟨#[]⟩]) (results_cell_row Tryd.results24 _ _ w.heap.size 42 _ (0, 0) _ rfl HX5 Tryd.underlying42 rfl (by kernel_rfl)) rfl ⟨rfl, HB5⟩
set_option maxHeartbeats 4000000 in
set_option maxRecDepth 100000 in
theorem aat_raw (LA L T N : ByteArray) (op d a b im : Int) (hA : LA.size ≤ 140737488355328) (hT : T.size ≤ 140737488355328) (hN : N.size ≤ 140737488355328) (w : World) :
    Calls Tryd.prog 28 #[.string LA, lnR L op d a b im T N] w fun e w' => e = .returned (lnR LA op d a b im T N) ∧ Below w.heap.size w w' := by
  have HO := Lib.hid (aown_raw LA T N op d a b im hA hT hN)
  unfold lnR at HO ⊢
  have HX0 := Lib.hid (Blk.new2 w (.cells #[.string LA, .int .u8 op, .int .u8 d, .int .u8 a, .int .u8 b, .int .u32 im, .string T, .string N] 42) 42 [.string ⟨#[]⟩, .int .u8 0, .int .u8 0, .int .u8 0, .int .u8 0, .int .u32 0, .string ⟨#[]⟩, .string ⟨#[]⟩])
  have HX1 := Lib.hid (Blk.new2 w (.cells #[.string L, .int .u8 op, .int .u8 d, .int .u8 a, .int .u8 b, .int .u32 im, .string T, .string N] 42) 42 [.string ⟨#[]⟩, .int .u8 0, .int .u8 0, .int .u8 0, .int .u8 0, .int .u32 0, .string ⟨#[]⟩, .string ⟨#[]⟩])
  have HI1 := Lib.hid ((Blk.new w 42 (lnC L op d a b im T N)).alloc (.cells #[.string ⟨#[]⟩, .int .u8 0, .int .u8 0, .int .u8 0, .int .u8 0, .int .u32 0, .string ⟨#[]⟩, .string ⟨#[]⟩] 42))
  have HB1 := Lib.hid (below_new2 w (.cells #[.string L, .int .u8 op, .int .u8 d, .int .u8 a, .int .u8 b, .int .u32 im, .string T, .string N] 42) (.cells #[.string ⟨#[]⟩, .int .u8 0, .int .u8 0, .int .u8 0, .int .u8 0, .int .u32 0, .string ⟨#[]⟩, .string ⟨#[]⟩] 42))
  unfold lnC at HI1
  clear hA hT hN HX0
  go_enter Tryd.func28, Tryd.ntmps28
  go_upto_region 1 with (fail)
  obtain ⟨wb, hwb⟩ : ∃ wb, wb = (w.alloc (.cells #[.string L, .int .u8 op, .int .u8 d, .int .u8 a, .int .u8 b, .int .u32 im, .string T, .string N] 42)).alloc (.cells #[.string ⟨#[]⟩, .int .u8 0, .int .u8 0, .int .u8 0, .int .u8 0, .int .u32 0, .string ⟨#[]⟩, .string ⟨#[]⟩] 42) := ⟨_, rfl⟩
  rw [← hwb] at HX1 HI1 HB1 ⊢
  clear hwb
  have c0 := HI1.out.cell 0
  simp only [List.getElem?_cons_zero] at c0
  have f0 : wb.frozen? ⟨w.heap.size, 0, none⟩ = false := HI1.out.frozen 0
  have hlt : w.heap.size < wb.heap.size := HI1.out.lt
  go_upto_region 2 with (fail)
  have HI2 : Hid (Blk (wb.setCell ⟨w.heap.size, 0, none⟩ (.string LA)) w.heap.size 42 [.string LA, .int .u8 op, .int .u8 d, .int .u8 a, .int .u8 b, .int .u32 im, .string T, .string N]) := Lib.hid (HI1.out.set_ 0 (.string LA))
  have HX2 := Lib.hid (HX1.out.far (p := ⟨w.heap.size, 0, none⟩) (Nat.succ_ne_self _) (.string LA))
  have HB2 := Lib.hid (below_set HB1.out (Nat.le_refl _) 0 (.string LA))
  obtain ⟨wc, hwc⟩ : ∃ wc, wc = wb.setCell ⟨w.heap.size, 0, none⟩ (.string LA) := ⟨_, rfl⟩
  rw [← hwc] at HX2 HI2 HB2 ⊢
  clear hwc c0 f0 hlt HX1 HI1 HB1
  obtain ⟨y0, y1, y2, y3, y4, y5, y6, y7⟩ := HI2.out.eight
  go_wp2_with fail
  refine (HO.out _).mono ?_; rintro e w1 ⟨rfl, q⟩
  have HX3 := Lib.hid (HX2.out.call q)
  have HB3 := Lib.hid (below_call HB2.out q)
  clear q HX2 HB2 HO y0 y1 y2 y3 y4 y5 y6 y7 HI2
  obtain ⟨x0, x1, x2, x3, x4, x5, x6, x7⟩ := HX3.out.eight
  obtain ⟨f0, f1, f2, f3, f4, f5, f6, f7, hlt⟩ := HX3.out.free8
  go_wp2_with fail
  obtain ⟨HB5, HX5⟩ := store8 (.string LA) (.int .u8 op) (.int .u8 d) (.int .u8 a) (.int .u8 b) (.int .u32 im) (.string T) (.string N) HB3.out (Nat.le_succ _) HX3.out _ rfl
  refine bodyPost_ret (v := .agg #[.string LA, .int .u8 op, .int .u8 d, .int .u8 a, .int .u8 b, .int .u32 im, .string T, .string N]) (results_cell_row Tryd.results28 _ _ (w.heap.size + 1) 42 _ (0, 0) _ rfl HX5 Tryd.underlying42 rfl (by kernel_rfl)) rfl ⟨rfl, HB5⟩
end Go.Proofs.YtlnnhgmkibjgmaaDoor
