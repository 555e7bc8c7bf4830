/- Bytes as instructions: the document's own Decode, and both for whatever text they are asked. -/
import Derived.Test.YtillcbmjpcbpaaaDoorID
set_option linter.unusedVariables false
set_option linter.unusedSimpArgs false
namespace Go.Proofs.YtillcbmjpcbpaaaDoor
open Go.RowKit

set_option maxHeartbeats 1000000 in
set_option maxRecDepth 100000 in
theorem rdecode_short (s : ByteArray) (h : ((s.size : Int) != 8) = true) (w : World) :
    Calls Tryd.prog 10 #[.string s] w fun e w' => e = .returned (.tuple #[.agg #[.int .u8 0, .int .u8 0, .int .u8 0, .int .u8 0, .int .u32 0], .int .i64 7]) ∧ Below w.heap.size w w' := by
  go_enter Tryd.func10, Tryd.ntmps10
  go_wp2
  refine bodyPost_ret (v := .tuple #[.agg #[.int .u8 0, .int .u8 0, .int .u8 0, .int .u8 0, .int .u32 0], .int .i64 7]) (by simp [results, Tryd.results10, go_sem]) rfl ⟨rfl, (Below.refl _ _).alloc (Nat.le_refl _) _⟩

set_option maxHeartbeats 2000000 in
set_option maxRecDepth 100000 in
theorem rdecode_same (s : ByteArray) (h : s.size = 8) (x0 x1 x2 im : Int) (e0 : Ix.byteAt (bt s) 0 = x0) (e1 : Ix.byteAt (bt s) 1 = x1) (e2 : Ix.byteAt (bt s) 2 = x2) (b0 : 0 ≤ x1) (b1 : x1 < 256)
    (t : ByteArray) (w : World) (ht : (t.toList == s.toList) = true) (ht2 : (t.toList != s.toList) = false) (HG : Hid (∀ w, Calls Tryd.prog 19 #[.string (drop4 s)] w fun e w' => e = .returned (.tuple #[.int .u32 im, .int .i64 0]) ∧ w = w'))
    (HC : Hid (∀ w', Below w.heap.size w w' → Calls Tryd.prog 8 #[.agg #[.int .u8 x0, .int .u8 (x1 % 16), .int .u8 (x1 / 16), .int .u8 x2, .int .u32 im]] w' fun e w'' => e = .returned (.tuple #[.string t, .int .i64 0]) ∧ Below w'.heap.size w' w'')) :
    Calls Tryd.prog 10 #[.string s] w fun e w' => e = .returned (.tuple #[.agg #[.int .u8 x0, .int .u8 (x1 % 16), .int .u8 (x1 / 16), .int .u8 x2, .int .u32 im], .int .i64 0]) ∧ Below w.heap.size w w' := by
  have t1 : ((s.size : Int) != 8) = false := by rw [h]; rfl
  have g4 : (4 : Int) ≤ (s.size : Int) := by omega
  have y0 := run_index s 0 0 rfl (by omega) _ e0
  have y1 := run_index s 1 1 rfl (by omega) _ e1
  have y2 := run_index s 2 2 rfl (by omega) _ e2
  have hsl : ∀ W, (Instr.slice 9 (.string s) (some (.int .i64 4)) none none).run Tryd.prog W = .ok (.string (drop4 s)) W := by
    intro W
    unfold drop4
    simp [go_sem, g4]
  clear h e0 e1 e2 g4
  go_enter Tryd.func10, Tryd.ntmps10
  go_wp2_with fail
  refine (HG.out _).mono ?_; rintro e w1 ⟨rfl, rfl⟩
  have m1 : x1.tmod 16 = x1 % 16 := Int.tmod_eq_emod_of_nonneg b0
  have m2 : IntKind.u8.wrap (x1 / 16) = x1 / 16 := by rw [IntKind.wrap_u8']; omega
  go_wp2_with fail
  go_region
  have hb : Below w.heap.size w ((w.alloc (.cells #[.int .u8 0, .int .u8 0, .int .u8 0, .int .u8 0, .int .u32 0] 24)).alloc (.cells #[.int .u8 x0, .int .u8 (x1 % 16), .int .u8 (x1 / 16), .int .u8 x2, .int .u32 im] 24)).drew :=
    (((Below.refl _ _).alloc (Nat.le_refl _) _).alloc (by simp) _).drew
  go_wp2_with fail
  refine (HC.out _ hb).mono ?_; rintro e w2 ⟨rfl, q⟩
  have HB := Lib.hid (hb.trans (q.mono hb.size))
  obtain ⟨hc, hf⟩ := bcell q
  have hz : w.heap.size + 2 ≤ w2.heap.size := by have := q.size; simpa using this
  have hblk : Blk w2 w.heap.size 24 [.int .u8 0, .int .u8 0, .int .u8 0, .int .u8 0, .int .u32 0] := by
    refine Blk.below ?_ q (by simp; omega)
    exact (Below.heap_alloc _ _ _ (by simp)).trans (heap_alloc_new w _)
  obtain ⟨z0, z1, z2, z3, z4⟩ := five hblk (.int .u8 x0) (.int .u8 (x1 % 16)) (.int .u8 (x1 / 16)) (.int .u8 x2) (.int .u32 im)
  clear hb q HC HG y0 y1 y2 hsl m1 m2
  go_wp2
  refine bodyPost_ret (v := .tuple #[.agg #[.int .u8 x0, .int .u8 (x1 % 16), .int .u8 (x1 / 16), .int .u8 x2, .int .u32 im], .int .i64 0]) (by simp [results, Tryd.results10, go_sem, z0, z1, z2, z3, z4]) rfl ⟨rfl, ?_⟩
  exact ((((HB.out.setCell (p := ⟨w.heap.size, 0, none⟩) (Nat.le_refl _) _).setCell (p := ⟨w.heap.size, 1, none⟩) (Nat.le_refl _) _).setCell (p := ⟨w.heap.size, 2, none⟩) (Nat.le_refl _) _).setCell (p := ⟨w.heap.size, 3, none⟩) (Nat.le_refl _) _).setCell (p := ⟨w.heap.size, 4, none⟩) (Nat.le_refl _) _


set_option maxHeartbeats 2000000 in
set_option maxRecDepth 100000 in
theorem rdecode_other (s : ByteArray) (h : s.size = 8) (x0 x1 x2 im : Int) (e0 : Ix.byteAt (bt s) 0 = x0) (e1 : Ix.byteAt (bt s) 1 = x1) (e2 : Ix.byteAt (bt s) 2 = x2) (b0 : 0 ≤ x1) (b1 : x1 < 256)
    (t : ByteArray) (w : World) (ht : (t.toList == s.toList) = false) (ht2 : (t.toList != s.toList) = true) (HG : Hid (∀ w, Calls Tryd.prog 19 #[.string (drop4 s)] w fun e w' => e = .returned (.tuple #[.int .u32 im, .int .i64 0]) ∧ w = w'))
    (HC : Hid (∀ w', Below w.heap.size w w' → Calls Tryd.prog 8 #[.agg #[.int .u8 x0, .int .u8 (x1 % 16), .int .u8 (x1 / 16), .int .u8 x2, .int .u32 im]] w' fun e w'' => e = .returned (.tuple #[.string t, .int .i64 0]) ∧ Below w'.heap.size w' w'')) :
    Calls Tryd.prog 10 #[.string s] w fun e w' => e = .returned (.tuple #[.agg #[.int .u8 0, .int .u8 0, .int .u8 0, .int .u8 0, .int .u32 0], .int .i64 7]) ∧ Below w.heap.size w w' := by
  have t1 : ((s.size : Int) != 8) = false := by rw [h]; rfl
  have g4 : (4 : Int) ≤ (s.size : Int) := by omega
  have y0 := run_index s 0 0 rfl (by omega) _ e0
  have y1 := run_index s 1 1 rfl (by omega) _ e1
  have y2 := run_index s 2 2 rfl (by omega) _ e2
  have hsl : ∀ W, (Instr.slice 9 (.string s) (some (.int .i64 4)) none none).run Tryd.prog W = .ok (.string (drop4 s)) W := by
    intro W
    unfold drop4
    simp [go_sem, g4]
  clear h e0 e1 e2 g4
  go_enter Tryd.func10, Tryd.ntmps10
  go_wp2_with fail
  refine (HG.out _).mono ?_; rintro e w1 ⟨rfl, rfl⟩
  have m1 : x1.tmod 16 = x1 % 16 := Int.tmod_eq_emod_of_nonneg b0
  have m2 : IntKind.u8.wrap (x1 / 16) = x1 / 16 := by rw [IntKind.wrap_u8']; omega
  go_wp2_with fail
  go_region
  have hb : Below w.heap.size w ((w.alloc (.cells #[.int .u8 0, .int .u8 0, .int .u8 0, .int .u8 0, .int .u32 0] 24)).alloc (.cells #[.int .u8 x0, .int .u8 (x1 % 16), .int .u8 (x1 / 16), .int .u8 x2, .int .u32 im] 24)).drew :=
    (((Below.refl _ _).alloc (Nat.le_refl _) _).alloc (by simp) _).drew
  go_wp2_with fail
  refine (HC.out _ hb).mono ?_; rintro e w2 ⟨rfl, q⟩
  have HB := Lib.hid (hb.trans (q.mono hb.size))
  obtain ⟨hc, hf⟩ := bcell q
  have hz : w.heap.size + 2 ≤ w2.heap.size := by have := q.size; simpa using this
  have hblk : Blk w2 w.heap.size 24 [.int .u8 0, .int .u8 0, .int .u8 0, .int .u8 0, .int .u32 0] := by
    refine Blk.below ?_ q (by simp; omega)
    exact (Below.heap_alloc _ _ _ (by simp)).trans (heap_alloc_new w _)
  obtain ⟨z0, z1, z2, z3, z4⟩ := five hblk (.int .u8 0) (.int .u8 0) (.int .u8 0) (.int .u8 0) (.int .u32 0)
  clear hb q HC HG y0 y1 y2 hsl m1 m2
  go_wp2
  refine bodyPost_ret (v := .tuple #[.agg #[.int .u8 0, .int .u8 0, .int .u8 0, .int .u8 0, .int .u32 0], .int .i64 7]) (by simp [results, Tryd.results10, go_sem, z0, z1, z2, z3, z4]) rfl ⟨rfl, ?_⟩
  exact ((((HB.out.setCell (p := ⟨w.heap.size, 0, none⟩) (Nat.le_refl _) _).setCell (p := ⟨w.heap.size, 1, none⟩) (Nat.le_refl _) _).setCell (p := ⟨w.heap.size, 2, none⟩) (Nat.le_refl _) _).setCell (p := ⟨w.heap.size, 3, none⟩) (Nat.le_refl _) _).setCell (p := ⟨w.heap.size, 4, none⟩) (Nat.le_refl _) _


set_option maxHeartbeats 2000000 in
set_option maxRecDepth 100000 in
theorem rdecode_none (s : ByteArray) (h : s.size = 8) (x0 x1 x2 im : Int) (e0 : Ix.byteAt (bt s) 0 = x0) (e1 : Ix.byteAt (bt s) 1 = x1) (e2 : Ix.byteAt (bt s) 2 = x2) (b0 : 0 ≤ x1) (b1 : x1 < 256)
    (t : ByteArray) (w : World) (HG : Hid (∀ w, Calls Tryd.prog 19 #[.string (drop4 s)] w fun e w' => e = .returned (.tuple #[.int .u32 im, .int .i64 0]) ∧ w = w'))
    (HC : Hid (∀ w', Below w.heap.size w w' → Calls Tryd.prog 8 #[.agg #[.int .u8 x0, .int .u8 (x1 % 16), .int .u8 (x1 / 16), .int .u8 x2, .int .u32 im]] w' fun e w'' => e = .returned (.tuple #[.string t, .int .i64 2]) ∧ Below w'.heap.size w' w'')) :
    Calls Tryd.prog 10 #[.string s] w fun e w' => e = .returned (.tuple #[.agg #[.int .u8 0, .int .u8 0, .int .u8 0, .int .u8 0, .int .u32 0], .int .i64 7]) ∧ Below w.heap.size w w' := by
  have t1 : ((s.size : Int) != 8) = false := by rw [h]; rfl
  have g4 : (4 : Int) ≤ (s.size : Int) := by omega
  have y0 := run_index s 0 0 rfl (by omega) _ e0
  have y1 := run_index s 1 1 rfl (by omega) _ e1
  have y2 := run_index s 2 2 rfl (by omega) _ e2
  have hsl : ∀ W, (Instr.slice 9 (.string s) (some (.int .i64 4)) none none).run Tryd.prog W = .ok (.string (drop4 s)) W := by
    intro W
    unfold drop4
    simp [go_sem, g4]
  clear h e0 e1 e2 g4
  go_enter Tryd.func10, Tryd.ntmps10
  go_wp2_with fail
  refine (HG.out _).mono ?_; rintro e w1 ⟨rfl, rfl⟩
  have m1 : x1.tmod 16 = x1 % 16 := Int.tmod_eq_emod_of_nonneg b0
  have m2 : IntKind.u8.wrap (x1 / 16) = x1 / 16 := by rw [IntKind.wrap_u8']; omega
  go_wp2_with fail
  go_region
  have hb : Below w.heap.size w ((w.alloc (.cells #[.int .u8 0, .int .u8 0, .int .u8 0, .int .u8 0, .int .u32 0] 24)).alloc (.cells #[.int .u8 x0, .int .u8 (x1 % 16), .int .u8 (x1 / 16), .int .u8 x2, .int .u32 im] 24)).drew :=
    (((Below.refl _ _).alloc (Nat.le_refl _) _).alloc (by simp) _).drew
  go_wp2_with fail
  refine (HC.out _ hb).mono ?_; rintro e w2 ⟨rfl, q⟩
  have HB := Lib.hid (hb.trans (q.mono hb.size))
  obtain ⟨hc, hf⟩ := bcell q
  have hz : w.heap.size + 2 ≤ w2.heap.size := by have := q.size; simpa using this
  have hblk : Blk w2 w.heap.size 24 [.int .u8 0, .int .u8 0, .int .u8 0, .int .u8 0, .int .u32 0] := by
    refine Blk.below ?_ q (by simp; omega)
    exact (Below.heap_alloc _ _ _ (by simp)).trans (heap_alloc_new w _)
  obtain ⟨z0, z1, z2, z3, z4⟩ := five hblk (.int .u8 0) (.int .u8 0) (.int .u8 0) (.int .u8 0) (.int .u32 0)
  clear hb q HC HG y0 y1 y2 hsl m1 m2
  go_wp2
  refine bodyPost_ret (v := .tuple #[.agg #[.int .u8 0, .int .u8 0, .int .u8 0, .int .u8 0, .int .u32 0], .int .i64 7]) (by simp [results, Tryd.results10, go_sem, z0, z1, z2, z3, z4]) rfl ⟨rfl, ?_⟩
  exact ((((HB.out.setCell (p := ⟨w.heap.size, 0, none⟩) (Nat.le_refl _) _).setCell (p := ⟨w.heap.size, 1, none⟩) (Nat.le_refl _) _).setCell (p := ⟨w.heap.size, 2, none⟩) (Nat.le_refl _) _).setCell (p := ⟨w.heap.size, 3, none⟩) (Nat.le_refl _) _).setCell (p := ⟨w.heap.size, 4, none⟩) (Nat.le_refl _) _


theorem list_eq (a b : ByteArray) (h : a = b) : (a.toList == b.toList) = true := by rw [h]; simp
theorem list_ne (a b : ByteArray) (h : a ≠ b) : (a.toList == b.toList) = false := by
  rw [beq_eq_false_iff_ne]
  intro e
  rw [ByteArray.toList_eq, ByteArray.toList_eq] at e
  exact h (ByteArray.ext (Array.toList_inj.mp e))

theorem decV_no (s : ByteArray) (h : Ix.decOk (bt s) = false) : decV s = .agg #[.int .u8 0, .int .u8 0, .int .u8 0, .int .u8 0, .int .u32 0] := by
  unfold decV Ix.pick; rw [h]; rfl
theorem decE_no (s : ByteArray) (h : Ix.decOk (bt s) = false) : decE s = 7 := by unfold decE Ix.decE; rw [h]; rfl
theorem decV_yes (s : ByteArray) (h : Ix.decOk (bt s) = true) : decV s = .agg #[.int .u8 (Ix.byteAt (bt s) 0), .int .u8 (Ix.byteAt (bt s) 1 % 16), .int .u8 (Ix.byteAt (bt s) 1 / 16), .int .u8 (Ix.byteAt (bt s) 2), .int .u32 (Ix.dI (bt s))] := by
  unfold decV Ix.pick; rw [if_pos h, if_pos h, if_pos h, if_pos h, if_pos h]; rfl
theorem decE_yes (s : ByteArray) (h : Ix.decOk (bt s) = true) : decE s = 0 := by unfold decE Ix.decE; rw [if_pos h]
theorem bt_length (s : ByteArray) : (bt s).length = s.size := rfl
theorem decOk_short (s : ByteArray) (h : s.size ≠ 8) : Ix.decOk (bt s) = false := by
  unfold Ix.decOk
  rw [bt_length, decide_eq_false h, Bool.false_and]
theorem getV_drop (s : ByteArray) (h : s.size = 8) : getV (drop4 s) = Ix.dI (bt s) ∧ getE (drop4 s) = 0 := by
  have hl : ((bt s).drop 4).length = 4 := by rw [List.length_drop, bt_length, h]
  have e : (drop4 s).data.toList = (bt s).drop 4 := drop4_bt s
  unfold getV getE Wd.getN Wd.getE Ix.dI
  rw [e, if_neg (by omega), if_neg (by omega)]
  exact ⟨rfl, rfl⟩
theorem dI_lo (l : List UInt8) : 0 ≤ Ix.dI l := by unfold Ix.dI; omega
theorem dI_hi (s : ByteArray) (h : s.size = 8) : Ix.dI (bt s) < 4294967296 := by
  have hl : ((bt s).drop 4).length = 4 := by rw [List.length_drop, bt_length, h]
  have := Wd.unle_lt32 ((bt s).drop 4) (by omega)
  unfold Ix.dI; omega

/-- Decode, whatever it is asked. -/
theorem idecode_any (s : ByteArray) (w : World) (hk : Tabled w) :
    Calls Tryd.prog 9 #[.string s] w fun e w' => e = .returned (.tuple #[decV s, .int .i64 (decE s)]) ∧ Below w.heap.size w w' := by
  by_cases h : s.size = 8
  · obtain ⟨gv, ge⟩ := getV_drop s h
    have HG : Hid (∀ w, Calls Tryd.prog 18 #[.string (drop4 s)] w fun e w' => e = .returned (.tuple #[.int .u32 (Ix.dI (bt s)), .int .i64 0]) ∧ w = w') := by
      rw [← gv, ← ge]
      exact Lib.hid fun w => get_any (drop4 s) (by rw [drop4_size s h]; decide) w
    have l0 := Ix.byteAt_lo (bt s) 0
    have h0 := Ix.byteAt_hi (bt s) 0
    have l1 := Ix.byteAt_lo (bt s) 1
    have h1 := Ix.byteAt_hi (bt s) 1
    have l2 := Ix.byteAt_lo (bt s) 2
    have h2 := Ix.byteAt_hi (bt s) 2
    have HC : ∀ w', Below w.heap.size w w' → Calls Tryd.prog 11 #[.agg #[.int .u8 (Ix.byteAt (bt s) 0), .int .u8 (Ix.byteAt (bt s) 1 % 16), .int .u8 (Ix.byteAt (bt s) 1 / 16), .int .u8 (Ix.byteAt (bt s) 2), .int .u32 (Ix.dI (bt s))]] w' fun e w'' => e = .returned (.int .i64 (errI (Ix.byteAt (bt s) 0) (Ix.byteAt (bt s) 1 % 16) (Ix.byteAt (bt s) 1 / 16) (Ix.byteAt (bt s) 2) (Ix.dI (bt s)))) ∧ Below w'.heap.size w' w'' :=
      fun w' hb => icheck_any _ _ _ _ _ l0 h0 (by omega) (by omega) (by omega) (by omega) l2 h2 w' (hk.below hb)
    by_cases h3 : Ix.byteAt (bt s) 3 = 0
    · by_cases ho : Ix.insnOf (bt s) = true
      · have hd : Ix.decOk (bt s) = true := by unfold Ix.decOk; rw [bt_length, decide_eq_true h, decide_eq_true h3, ho]; rfl
        rw [errI_yes (Ix.byteAt (bt s) 0) (Ix.byteAt (bt s) 1 % 16) (Ix.byteAt (bt s) 1 / 16) (Ix.byteAt (bt s) 2) (Ix.dI (bt s)) ho] at HC
        rw [decV_yes s hd, decE_yes s hd]
        exact decode_eight s h h3 _ _ _ _ rfl rfl rfl l1 h1 w HG (Lib.hid HC)
      · have ho' : Ix.insnOf (bt s) = false := by simpa using ho
        have hd : Ix.decOk (bt s) = false := by unfold Ix.decOk; rw [ho', Bool.and_false, Bool.and_false]
        rw [errI_no (Ix.byteAt (bt s) 0) (Ix.byteAt (bt s) 1 % 16) (Ix.byteAt (bt s) 1 / 16) (Ix.byteAt (bt s) 2) (Ix.dI (bt s)) ho'] at HC
        rw [decV_no s hd, decE_no s hd]
        exact decode_bad s h h3 _ _ _ _ rfl rfl rfl l1 h1 w HG (Lib.hid HC)
    · have hd : Ix.decOk (bt s) = false := by unfold Ix.decOk; rw [decide_eq_false h3, Bool.false_and, Bool.and_false]
      rw [decV_no s hd, decE_no s hd]
      exact decode_three s h h3 w
  · have hd := decOk_short s h
    rw [decV_no s hd, decE_no s hd]
    exact decode_short s (by rw [bne_iff_ne]; omega) w

/-- The document's Decode makes the same. -/
theorem rdecode_any (s : ByteArray) (w : World) :
    Calls Tryd.prog 10 #[.string s] w fun e w' => e = .returned (.tuple #[decV s, .int .i64 (decE s)]) ∧ Below w.heap.size w w' := by
  by_cases h : s.size = 8
  · obtain ⟨gv, ge⟩ := getV_drop s h
    have HG : Hid (∀ w, Calls Tryd.prog 19 #[.string (drop4 s)] w fun e w' => e = .returned (.tuple #[.int .u32 (Ix.dI (bt s)), .int .i64 0]) ∧ w = w') := by
      rw [← gv, ← ge]
      exact Lib.hid fun w => rget_any (drop4 s) w
    have l0 := Ix.byteAt_lo (bt s) 0
    have h0 := Ix.byteAt_hi (bt s) 0
    have l1 := Ix.byteAt_lo (bt s) 1
    have h1 := Ix.byteAt_hi (bt s) 1
    have l2 := Ix.byteAt_lo (bt s) 2
    have h2 := Ix.byteAt_hi (bt s) 2
    have li := dI_lo (bt s)
    have hi := dI_hi s h
    have HC : ∀ w', Below w.heap.size w w' → Calls Tryd.prog 8 #[.agg #[.int .u8 (Ix.byteAt (bt s) 0), .int .u8 (Ix.byteAt (bt s) 1 % 16), .int .u8 (Ix.byteAt (bt s) 1 / 16), .int .u8 (Ix.byteAt (bt s) 2), .int .u32 (Ix.dI (bt s))]] w' fun e w'' => e = .returned (.tuple #[.string (encS (Ix.byteAt (bt s) 0) (Ix.byteAt (bt s) 1 % 16) (Ix.byteAt (bt s) 1 / 16) (Ix.byteAt (bt s) 2) (Ix.dI (bt s))), .int .i64 (errI (Ix.byteAt (bt s) 0) (Ix.byteAt (bt s) 1 % 16) (Ix.byteAt (bt s) 1 / 16) (Ix.byteAt (bt s) 2) (Ix.dI (bt s)))]) ∧ Below w'.heap.size w' w'' :=
      fun w' hb => rencode_any _ _ _ _ _ l0 h0 (by omega) (by omega) (by omega) (by omega) l2 h2 li hi w'
    have hdo := Ix.decOk_iff (bt s) h
    by_cases ho : Ix.insnOf (bt s) = true
    · rw [errI_yes (Ix.byteAt (bt s) 0) (Ix.byteAt (bt s) 1 % 16) (Ix.byteAt (bt s) 1 / 16) (Ix.byteAt (bt s) 2) (Ix.dI (bt s)) ho] at HC
      rw [ho, Bool.true_and] at hdo
      by_cases he : Ix.enc (Ix.dOp (bt s)) (Ix.dD (bt s)) (Ix.dA (bt s)) (Ix.dB (bt s)) (Ix.dI (bt s)) = bt s
      · have hs : encS (Ix.byteAt (bt s) 0) (Ix.byteAt (bt s) 1 % 16) (Ix.byteAt (bt s) 1 / 16) (Ix.byteAt (bt s) 2) (Ix.dI (bt s)) = s := by
          unfold encS
          exact ByteArray.ext (congrArg List.toArray he)
        have hd : Ix.decOk (bt s) = true := by rw [hdo]; exact decide_eq_true he
        rw [decV_yes s hd, decE_yes s hd]
        have l := list_eq _ _ hs
        exact rdecode_same s h _ _ _ _ rfl rfl rfl l1 h1 _ w l (by unfold bne; rw [l]; rfl) HG (Lib.hid HC)
      · have hs : encS (Ix.byteAt (bt s) 0) (Ix.byteAt (bt s) 1 % 16) (Ix.byteAt (bt s) 1 / 16) (Ix.byteAt (bt s) 2) (Ix.dI (bt s)) ≠ s := by
          intro e
          apply he
          have := congrArg bt e
          unfold encS bt at this
          exact this
        have hd : Ix.decOk (bt s) = false := by rw [hdo]; exact decide_eq_false he
        rw [decV_no s hd, decE_no s hd]
        have l := list_ne _ _ hs
        exact rdecode_other s h _ _ _ _ rfl rfl rfl l1 h1 _ w l (by unfold bne; rw [l]; rfl) HG (Lib.hid HC)
    · have ho' : Ix.insnOf (bt s) = false := by simpa using ho
      rw [ho', Bool.false_and] at hdo
      rw [errI_no (Ix.byteAt (bt s) 0) (Ix.byteAt (bt s) 1 % 16) (Ix.byteAt (bt s) 1 / 16) (Ix.byteAt (bt s) 2) (Ix.dI (bt s)) ho'] at HC
      rw [decV_no s hdo, decE_no s hdo]
      exact rdecode_none s h _ _ _ _ rfl rfl rfl l1 h1 _ w HG (Lib.hid HC)
  · have hd := decOk_short s h
    rw [decV_no s hd, decE_no s hd]
    exact rdecode_short s (by rw [bne_iff_ne]; omega) w
end Go.Proofs.YtillcbmjpcbpaaaDoor
