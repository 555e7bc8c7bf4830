/- Some texts of one proof, one behind the other; each has its own head below. -/
import Derived.Test.YtgdbhmlmioihpaaGreatDoorX10
import Derived.Test.YtgdbhmlmioihpaaGreatDoorX12
import Derived.Lib.BufferRead
import Derived.Laws.OwnMore
/- The document's Get (layer 1). -/
section
set_option linter.unusedVariables false
namespace Go.Proofs.YtgdbhmlmioihpaaGreatDoor.I
open Go.RowKit

/-- Get, from the highest byte. -/
theorem rget_step (l : List UInt8) (m V : Nat) (h : m < l.length) (hV : Wd.unle (l.drop (m + 1)) = V) : Wd.unle (l.drop m) = 256 * V + l[m].toNat := by
  rw [List.drop_eq_getElem_cons h, Wd.unle, hV]; omega

set_option maxHeartbeats 1000000 in
set_option maxRecDepth 100000 in
theorem rget_ok (s : ByteArray) (h1 : 1 ≤ s.size) (h4 : s.size ≤ 4) (r : Int) (hr : Hid (((Wd.unle s.data.toList : Nat) : Int) = r)) (w : World) :
    Calls Tryz.prog 71 #[.string s] w fun e w' => e = .returned (.tuple #[.int .u32 r, .int .i64 0]) ∧ w = w' := by
  go_enter Tryz.func71, Tryz.ntmps71
  go_wp2
  go_loop [4, 5] (fun v i => ∃ (j V : Int), -1 ≤ j ∧ j < s.size ∧ i = .int .i64 j ∧ v = .int .u32 V ∧ 0 ≤ V ∧ Hid (((Wd.unle (s.data.toList.drop (j + 1).toNat) : Nat) : Int) = V)) (fun _ i => (intOf i + 1).toNat)
  case atStart => exact ⟨(s.size : Int) - 1, 0, by omega, by omega, rfl, rfl, by omega, Lib.hid (by rw [List.drop_of_length_le (by rw [data_len]; omega)]; rfl)⟩
  case round =>
    obtain ⟨j, V, hj0, hj, rfl, rfl, hV0, HV⟩ := hrel
    by_cases hlt : 0 ≤ j
    · obtain ⟨m, rfl⟩ := Int.eq_ofNat_of_zero_le hlt
      have hm : m < s.size := by omega
      have hVlt : V < 16777216 := by
        have h2 := HV.out
        have h3 := Wd.unle_lt (s.data.toList.drop ((m : Int) + 1).toNat)
        have h5 : (s.data.toList.drop ((m : Int) + 1).toNat).length ≤ 3 := by rw [List.length_drop, data_len]; omega
        have h6 : (256 : Nat) ^ (s.data.toList.drop ((m : Int) + 1).toNat).length ≤ 256 ^ 3 := Nat.pow_le_pow_right (by decide) h5
        have h7 : (256 : Nat) ^ 3 = 16777216 := by decide
        omega
      have HS : Hid (((Wd.unle (s.data.toList.drop ((m : Int) - 1 + 1).toNat) : Nat) : Int) = 256 * V + (s[m].toNat : Int)) := by
        have h2 := HV.out
        have e : ((m : Int) + 1).toNat = m + 1 := by omega
        rw [e] at h2
        have h3 := rget_step s.data.toList m _ (by rw [data_len]; omega) rfl
        rw [show ((m : Int) - 1 + 1).toNat = m by omega, h3, ← h2]
        exact Lib.hid (by rw [data_get s m hm]; omega)
      clear HV
      have hbt : (s[m].toNat : Int) < 256 := by have := s[m].toNat_lt; omega
      go_wp2
      go_round
      case rel => exact ⟨(m : Int) - 1, 256 * V + (s[m].toNat : Int), by omega, by omega, rfl, vi' (by omega), by omega, HS⟩
      case measure => simp [intOf]
    · have hj' : j = -1 := by omega
      subst hj'
      go_wp2
      go_ret2
      have e : V = r := by rw [← HV.out, ← hr.out]; rfl
      exact ⟨by rw [e]; rfl, rfl⟩

set_option maxHeartbeats 1000000 in
theorem rget_no (s : ByteArray) (h : s.size < 1 ∨ 4 < s.size) (w : World) :
    Calls Tryz.prog 71 #[.string s] w fun e w' => e = .returned (.tuple #[.int .u32 0, .int .i64 2]) ∧ w = w' := by
  by_cases h1 : s.size < 1
  · clear h
    go_enter Tryz.func71, Tryz.ntmps71
    go_wp2
    go_ret2
    exact ⟨rfl, rfl⟩
  · have h2 : 4 < s.size := by omega
    clear h
    go_enter Tryz.func71, Tryz.ntmps71
    go_wp2
    go_ret2
    exact ⟨rfl, rfl⟩

theorem rget_any (s : ByteArray) (w : World) :
    Calls Tryz.prog 71 #[.string s] w fun e w' => e = .returned (.tuple #[.int .u32 (getV s), .int .i64 (getE s)]) ∧ w = w' := by
  by_cases h : s.size < 1 ∨ 4 < s.size
  · have e1 : getV s = 0 := by unfold getV Wd.getN; rw [data_len, if_pos h]; rfl
    have e2 : getE s = 2 := by unfold getE Wd.getE; rw [data_len, if_pos h]
    rw [e1, e2]
    exact rget_no s h w
  · have e1 : getV s = (Wd.unle s.data.toList : Nat) := by unfold getV Wd.getN; rw [data_len, if_neg h]
    have e2 : getE s = 0 := by unfold getE Wd.getE; rw [data_len, if_neg h]
    rw [e1, e2]
    exact rget_ok s (by omega) (by omega) _ (Lib.hid rfl) w

end Go.Proofs.YtgdbhmlmioihpaaGreatDoor.I
end

/- The document's Decode. -/
section
set_option linter.unusedVariables false
set_option linter.unusedSimpArgs false
namespace Go.Proofs.YtgdbhmlmioihpaaGreatDoor.I
open Go.RowKit

set_option maxHeartbeats 1000000 in
set_option maxRecDepth 100000 in
theorem rdecode_short (s : ByteArray) (h : ((s.size : Int) != 8) = true) (w : World) :
    Calls Tryz.prog 35 #[.string s] w fun e w' => e = .returned (.tuple #[.agg #[.int .u8 0, .int .u8 0, .int .u8 0, .int .u8 0, .int .u32 0], .int .i64 7]) ∧ Below w.heap.size w w' := by
  go_enter Tryz.func35, Tryz.ntmps35
  go_wp2
  refine bodyPost_ret (v := .tuple #[.agg #[.int .u8 0, .int .u8 0, .int .u8 0, .int .u8 0, .int .u32 0], .int .i64 7]) (by simp [results, Tryz.results35, go_sem]) rfl ⟨rfl, (Below.refl _ _).alloc (Nat.le_refl _) _⟩

set_option maxHeartbeats 2000000 in
set_option maxRecDepth 100000 in
theorem rdecode_same (s : ByteArray) (h : s.size = 8) (x0 x1 x2 im : Int) (e0 : Ix.byteAt (bt s) 0 = x0) (e1 : Ix.byteAt (bt s) 1 = x1) (e2 : Ix.byteAt (bt s) 2 = x2) (b0 : 0 ≤ x1) (b1 : x1 < 256)
    (t : ByteArray) (w : World) (ht : (t.toList == s.toList) = true) (ht2 : (t.toList != s.toList) = false) (HG : Hid (∀ w, Calls Tryz.prog 71 #[.string (drop4 s)] w fun e w' => e = .returned (.tuple #[.int .u32 im, .int .i64 0]) ∧ w = w'))
    (HC : Hid (∀ w', Below w.heap.size w w' → Calls Tryz.prog 51 #[.agg #[.int .u8 x0, .int .u8 (x1 % 16), .int .u8 (x1 / 16), .int .u8 x2, .int .u32 im]] w' fun e w'' => e = .returned (.tuple #[.string t, .int .i64 0]) ∧ Below w'.heap.size w' w'')) :
    Calls Tryz.prog 35 #[.string s] w fun e w' => e = .returned (.tuple #[.agg #[.int .u8 x0, .int .u8 (x1 % 16), .int .u8 (x1 / 16), .int .u8 x2, .int .u32 im], .int .i64 0]) ∧ Below w.heap.size w w' := by
  have t1 : ((s.size : Int) != 8) = false := by rw [h]; rfl
  have g4 : (4 : Int) ≤ (s.size : Int) := by omega
  have y0 := run_index s 0 0 rfl (by omega) _ e0
  have y1 := run_index s 1 1 rfl (by omega) _ e1
  have y2 := run_index s 2 2 rfl (by omega) _ e2
  have hsl : ∀ W, (Instr.slice 9 (.string s) (some (.int .i64 4)) none none).run Tryz.prog W = .ok (.string (drop4 s)) W := by
    intro W
    unfold drop4
    simp [go_sem, g4]
  clear h e0 e1 e2 g4
  go_enter Tryz.func35, Tryz.ntmps35
  go_wp2_with fail
  refine (HG.out _).mono ?_; rintro e w1 ⟨rfl, rfl⟩
  have m1 : x1.tmod 16 = x1 % 16 := Int.tmod_eq_emod_of_nonneg b0
  have m2 : IntKind.u8.wrap (x1 / 16) = x1 / 16 := by rw [IntKind.wrap_u8']; omega
  go_wp2_with fail
  go_region
  have hb : Below w.heap.size w ((w.alloc (.cells #[.int .u8 0, .int .u8 0, .int .u8 0, .int .u8 0, .int .u32 0] 61)).alloc (.cells #[.int .u8 x0, .int .u8 (x1 % 16), .int .u8 (x1 / 16), .int .u8 x2, .int .u32 im] 61)).drew :=
    (((Below.refl _ _).alloc (Nat.le_refl _) _).alloc (by simp) _).drew
  go_wp2_with fail
  refine (HC.out _ hb).mono ?_; rintro e w2 ⟨rfl, q⟩
  have HB := Lib.hid (hb.trans (q.mono hb.size))
  obtain ⟨hc, hf⟩ := bcell q
  have hz : w.heap.size + 2 ≤ w2.heap.size := by have := q.size; simpa using this
  have hblk : Blk w2 w.heap.size 61 [.int .u8 0, .int .u8 0, .int .u8 0, .int .u8 0, .int .u32 0] := by
    refine Blk.below ?_ q (by simp; omega)
    exact (Below.heap_alloc _ _ _ (by simp)).trans (heap_alloc_new w _)
  obtain ⟨z0, z1, z2, z3, z4⟩ := five hblk (.int .u8 x0) (.int .u8 (x1 % 16)) (.int .u8 (x1 / 16)) (.int .u8 x2) (.int .u32 im)
  clear hb q HC HG y0 y1 y2 hsl m1 m2
  go_wp2
  refine bodyPost_ret (v := .tuple #[.agg #[.int .u8 x0, .int .u8 (x1 % 16), .int .u8 (x1 / 16), .int .u8 x2, .int .u32 im], .int .i64 0]) (by simp [results, Tryz.results35, go_sem, z0, z1, z2, z3, z4]) rfl ⟨rfl, ?_⟩
  exact ((((HB.out.setCell (p := ⟨w.heap.size, 0, none⟩) (Nat.le_refl _) _).setCell (p := ⟨w.heap.size, 1, none⟩) (Nat.le_refl _) _).setCell (p := ⟨w.heap.size, 2, none⟩) (Nat.le_refl _) _).setCell (p := ⟨w.heap.size, 3, none⟩) (Nat.le_refl _) _).setCell (p := ⟨w.heap.size, 4, none⟩) (Nat.le_refl _) _


set_option maxHeartbeats 2000000 in
set_option maxRecDepth 100000 in
theorem rdecode_other (s : ByteArray) (h : s.size = 8) (x0 x1 x2 im : Int) (e0 : Ix.byteAt (bt s) 0 = x0) (e1 : Ix.byteAt (bt s) 1 = x1) (e2 : Ix.byteAt (bt s) 2 = x2) (b0 : 0 ≤ x1) (b1 : x1 < 256)
    (t : ByteArray) (w : World) (ht : (t.toList == s.toList) = false) (ht2 : (t.toList != s.toList) = true) (HG : Hid (∀ w, Calls Tryz.prog 71 #[.string (drop4 s)] w fun e w' => e = .returned (.tuple #[.int .u32 im, .int .i64 0]) ∧ w = w'))
    (HC : Hid (∀ w', Below w.heap.size w w' → Calls Tryz.prog 51 #[.agg #[.int .u8 x0, .int .u8 (x1 % 16), .int .u8 (x1 / 16), .int .u8 x2, .int .u32 im]] w' fun e w'' => e = .returned (.tuple #[.string t, .int .i64 0]) ∧ Below w'.heap.size w' w'')) :
    Calls Tryz.prog 35 #[.string s] w fun e w' => e = .returned (.tuple #[.agg #[.int .u8 0, .int .u8 0, .int .u8 0, .int .u8 0, .int .u32 0], .int .i64 7]) ∧ Below w.heap.size w w' := by
  have t1 : ((s.size : Int) != 8) = false := by rw [h]; rfl
  have g4 : (4 : Int) ≤ (s.size : Int) := by omega
  have y0 := run_index s 0 0 rfl (by omega) _ e0
  have y1 := run_index s 1 1 rfl (by omega) _ e1
  have y2 := run_index s 2 2 rfl (by omega) _ e2
  have hsl : ∀ W, (Instr.slice 9 (.string s) (some (.int .i64 4)) none none).run Tryz.prog W = .ok (.string (drop4 s)) W := by
    intro W
    unfold drop4
    simp [go_sem, g4]
  clear h e0 e1 e2 g4
  go_enter Tryz.func35, Tryz.ntmps35
  go_wp2_with fail
  refine (HG.out _).mono ?_; rintro e w1 ⟨rfl, rfl⟩
  have m1 : x1.tmod 16 = x1 % 16 := Int.tmod_eq_emod_of_nonneg b0
  have m2 : IntKind.u8.wrap (x1 / 16) = x1 / 16 := by rw [IntKind.wrap_u8']; omega
  go_wp2_with fail
  go_region
  have hb : Below w.heap.size w ((w.alloc (.cells #[.int .u8 0, .int .u8 0, .int .u8 0, .int .u8 0, .int .u32 0] 61)).alloc (.cells #[.int .u8 x0, .int .u8 (x1 % 16), .int .u8 (x1 / 16), .int .u8 x2, .int .u32 im] 61)).drew :=
    (((Below.refl _ _).alloc (Nat.le_refl _) _).alloc (by simp) _).drew
  go_wp2_with fail
  refine (HC.out _ hb).mono ?_; rintro e w2 ⟨rfl, q⟩
  have HB := Lib.hid (hb.trans (q.mono hb.size))
  obtain ⟨hc, hf⟩ := bcell q
  have hz : w.heap.size + 2 ≤ w2.heap.size := by have := q.size; simpa using this
  have hblk : Blk w2 w.heap.size 61 [.int .u8 0, .int .u8 0, .int .u8 0, .int .u8 0, .int .u32 0] := by
    refine Blk.below ?_ q (by simp; omega)
    exact (Below.heap_alloc _ _ _ (by simp)).trans (heap_alloc_new w _)
  obtain ⟨z0, z1, z2, z3, z4⟩ := five hblk (.int .u8 0) (.int .u8 0) (.int .u8 0) (.int .u8 0) (.int .u32 0)
  clear hb q HC HG y0 y1 y2 hsl m1 m2
  go_wp2
  refine bodyPost_ret (v := .tuple #[.agg #[.int .u8 0, .int .u8 0, .int .u8 0, .int .u8 0, .int .u32 0], .int .i64 7]) (by simp [results, Tryz.results35, go_sem, z0, z1, z2, z3, z4]) rfl ⟨rfl, ?_⟩
  exact ((((HB.out.setCell (p := ⟨w.heap.size, 0, none⟩) (Nat.le_refl _) _).setCell (p := ⟨w.heap.size, 1, none⟩) (Nat.le_refl _) _).setCell (p := ⟨w.heap.size, 2, none⟩) (Nat.le_refl _) _).setCell (p := ⟨w.heap.size, 3, none⟩) (Nat.le_refl _) _).setCell (p := ⟨w.heap.size, 4, none⟩) (Nat.le_refl _) _


set_option maxHeartbeats 2000000 in
set_option maxRecDepth 100000 in
theorem rdecode_none (s : ByteArray) (h : s.size = 8) (x0 x1 x2 im : Int) (e0 : Ix.byteAt (bt s) 0 = x0) (e1 : Ix.byteAt (bt s) 1 = x1) (e2 : Ix.byteAt (bt s) 2 = x2) (b0 : 0 ≤ x1) (b1 : x1 < 256)
    (t : ByteArray) (w : World) (HG : Hid (∀ w, Calls Tryz.prog 71 #[.string (drop4 s)] w fun e w' => e = .returned (.tuple #[.int .u32 im, .int .i64 0]) ∧ w = w'))
    (HC : Hid (∀ w', Below w.heap.size w w' → Calls Tryz.prog 51 #[.agg #[.int .u8 x0, .int .u8 (x1 % 16), .int .u8 (x1 / 16), .int .u8 x2, .int .u32 im]] w' fun e w'' => e = .returned (.tuple #[.string t, .int .i64 2]) ∧ Below w'.heap.size w' w'')) :
    Calls Tryz.prog 35 #[.string s] w fun e w' => e = .returned (.tuple #[.agg #[.int .u8 0, .int .u8 0, .int .u8 0, .int .u8 0, .int .u32 0], .int .i64 7]) ∧ Below w.heap.size w w' := by
  have t1 : ((s.size : Int) != 8) = false := by rw [h]; rfl
  have g4 : (4 : Int) ≤ (s.size : Int) := by omega
  have y0 := run_index s 0 0 rfl (by omega) _ e0
  have y1 := run_index s 1 1 rfl (by omega) _ e1
  have y2 := run_index s 2 2 rfl (by omega) _ e2
  have hsl : ∀ W, (Instr.slice 9 (.string s) (some (.int .i64 4)) none none).run Tryz.prog W = .ok (.string (drop4 s)) W := by
    intro W
    unfold drop4
    simp [go_sem, g4]
  clear h e0 e1 e2 g4
  go_enter Tryz.func35, Tryz.ntmps35
  go_wp2_with fail
  refine (HG.out _).mono ?_; rintro e w1 ⟨rfl, rfl⟩
  have m1 : x1.tmod 16 = x1 % 16 := Int.tmod_eq_emod_of_nonneg b0
  have m2 : IntKind.u8.wrap (x1 / 16) = x1 / 16 := by rw [IntKind.wrap_u8']; omega
  go_wp2_with fail
  go_region
  have hb : Below w.heap.size w ((w.alloc (.cells #[.int .u8 0, .int .u8 0, .int .u8 0, .int .u8 0, .int .u32 0] 61)).alloc (.cells #[.int .u8 x0, .int .u8 (x1 % 16), .int .u8 (x1 / 16), .int .u8 x2, .int .u32 im] 61)).drew :=
    (((Below.refl _ _).alloc (Nat.le_refl _) _).alloc (by simp) _).drew
  go_wp2_with fail
  refine (HC.out _ hb).mono ?_; rintro e w2 ⟨rfl, q⟩
  have HB := Lib.hid (hb.trans (q.mono hb.size))
  obtain ⟨hc, hf⟩ := bcell q
  have hz : w.heap.size + 2 ≤ w2.heap.size := by have := q.size; simpa using this
  have hblk : Blk w2 w.heap.size 61 [.int .u8 0, .int .u8 0, .int .u8 0, .int .u8 0, .int .u32 0] := by
    refine Blk.below ?_ q (by simp; omega)
    exact (Below.heap_alloc _ _ _ (by simp)).trans (heap_alloc_new w _)
  obtain ⟨z0, z1, z2, z3, z4⟩ := five hblk (.int .u8 0) (.int .u8 0) (.int .u8 0) (.int .u8 0) (.int .u32 0)
  clear hb q HC HG y0 y1 y2 hsl m1 m2
  go_wp2
  refine bodyPost_ret (v := .tuple #[.agg #[.int .u8 0, .int .u8 0, .int .u8 0, .int .u8 0, .int .u32 0], .int .i64 7]) (by simp [results, Tryz.results35, go_sem, z0, z1, z2, z3, z4]) rfl ⟨rfl, ?_⟩
  exact ((((HB.out.setCell (p := ⟨w.heap.size, 0, none⟩) (Nat.le_refl _) _).setCell (p := ⟨w.heap.size, 1, none⟩) (Nat.le_refl _) _).setCell (p := ⟨w.heap.size, 2, none⟩) (Nat.le_refl _) _).setCell (p := ⟨w.heap.size, 3, none⟩) (Nat.le_refl _) _).setCell (p := ⟨w.heap.size, 4, none⟩) (Nat.le_refl _) _


theorem list_eq (a b : ByteArray) (h : a = b) : (a.toList == b.toList) = true := by rw [h]; simp
theorem list_ne (a b : ByteArray) (h : a ≠ b) : (a.toList == b.toList) = false := by
  rw [beq_eq_false_iff_ne]
  intro e
  rw [ByteArray.toList_eq, ByteArray.toList_eq] at e
  exact h (ByteArray.ext (Array.toList_inj.mp e))

/-- The document's Decode makes the same. -/
theorem rdecode_any (s : ByteArray) (w : World) :
    Calls Tryz.prog 35 #[.string s] w fun e w' => e = .returned (.tuple #[decV s, .int .i64 (decE s)]) ∧ Below w.heap.size w w' := by
  by_cases h : s.size = 8
  · obtain ⟨gv, ge⟩ := getV_drop s h
    have HG : Hid (∀ w, Calls Tryz.prog 71 #[.string (drop4 s)] w fun e w' => e = .returned (.tuple #[.int .u32 (Ix.dI (bt s)), .int .i64 0]) ∧ w = w') := by
      rw [← gv, ← ge]
      exact Lib.hid fun w => rget_any (drop4 s) w
    have l0 := Ix.byteAt_lo (bt s) 0
    have h0 := Ix.byteAt_hi (bt s) 0
    have l1 := Ix.byteAt_lo (bt s) 1
    have h1 := Ix.byteAt_hi (bt s) 1
    have l2 := Ix.byteAt_lo (bt s) 2
    have h2 := Ix.byteAt_hi (bt s) 2
    have li := dI_lo (bt s)
    have hi := dI_hi s h
    have HC : ∀ w', Below w.heap.size w w' → Calls Tryz.prog 51 #[.agg #[.int .u8 (Ix.byteAt (bt s) 0), .int .u8 (Ix.byteAt (bt s) 1 % 16), .int .u8 (Ix.byteAt (bt s) 1 / 16), .int .u8 (Ix.byteAt (bt s) 2), .int .u32 (Ix.dI (bt s))]] w' fun e w'' => e = .returned (.tuple #[.string (encS (Ix.byteAt (bt s) 0) (Ix.byteAt (bt s) 1 % 16) (Ix.byteAt (bt s) 1 / 16) (Ix.byteAt (bt s) 2) (Ix.dI (bt s))), .int .i64 (errI (Ix.byteAt (bt s) 0) (Ix.byteAt (bt s) 1 % 16) (Ix.byteAt (bt s) 1 / 16) (Ix.byteAt (bt s) 2) (Ix.dI (bt s)))]) ∧ Below w'.heap.size w' w'' :=
      fun w' hb => rencode_any _ _ _ _ _ l0 h0 (by omega) (by omega) (by omega) (by omega) l2 h2 li hi w'
    have hdo := Ix.decOk_iff (bt s) h
    by_cases ho : Ix.insnOf (bt s) = true
    · rw [errI_yes (Ix.byteAt (bt s) 0) (Ix.byteAt (bt s) 1 % 16) (Ix.byteAt (bt s) 1 / 16) (Ix.byteAt (bt s) 2) (Ix.dI (bt s)) ho] at HC
      rw [ho, Bool.true_and] at hdo
      by_cases he : Ix.enc (Ix.dOp (bt s)) (Ix.dD (bt s)) (Ix.dA (bt s)) (Ix.dB (bt s)) (Ix.dI (bt s)) = bt s
      · have hs : encS (Ix.byteAt (bt s) 0) (Ix.byteAt (bt s) 1 % 16) (Ix.byteAt (bt s) 1 / 16) (Ix.byteAt (bt s) 2) (Ix.dI (bt s)) = s := by
          unfold encS
          exact ByteArray.ext (congrArg List.toArray he)
        have hd : Ix.decOk (bt s) = true := by rw [hdo]; exact decide_eq_true he
        rw [decV_yes s hd, decE_yes s hd]
        have l := list_eq _ _ hs
        exact rdecode_same s h _ _ _ _ rfl rfl rfl l1 h1 _ w l (by unfold bne; rw [l]; rfl) HG (Lib.hid HC)
      · have hs : encS (Ix.byteAt (bt s) 0) (Ix.byteAt (bt s) 1 % 16) (Ix.byteAt (bt s) 1 / 16) (Ix.byteAt (bt s) 2) (Ix.dI (bt s)) ≠ s := by
          intro e
          apply he
          have := congrArg bt e
          unfold encS bt at this
          exact this
        have hd : Ix.decOk (bt s) = false := by rw [hdo]; exact decide_eq_false he
        rw [decV_no s hd, decE_no s hd]
        have l := list_ne _ _ hs
        exact rdecode_other s h _ _ _ _ rfl rfl rfl l1 h1 _ w l (by unfold bne; rw [l]; rfl) HG (Lib.hid HC)
    · have ho' : Ix.insnOf (bt s) = false := by simpa using ho
      rw [ho', Bool.false_and] at hdo
      rw [errI_no (Ix.byteAt (bt s) 0) (Ix.byteAt (bt s) 1 % 16) (Ix.byteAt (bt s) 1 / 16) (Ix.byteAt (bt s) 2) (Ix.dI (bt s)) ho'] at HC
      rw [decV_no s hdo, decE_no s hdo]
      exact rdecode_none s h _ _ _ _ rfl rfl rfl l1 h1 _ w HG (Lib.hid HC)
  · have hd := decOk_short s h
    rw [decV_no s hd, decE_no s hd]
    exact rdecode_short s (by rw [bne_iff_ne]; omega) w
end Go.Proofs.YtgdbhmlmioihpaaGreatDoor.I
end
