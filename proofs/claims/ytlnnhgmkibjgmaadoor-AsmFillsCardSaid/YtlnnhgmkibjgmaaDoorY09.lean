/- Bytes as instructions: the document's own Decode, and both for whatever text they are asked. -/
import Derived.Test.YtlnnhgmkibjgmaaDoorX26
set_option linter.unusedVariables false
set_option linter.unusedSimpArgs false
namespace Go.Proofs.YtlnnhgmkibjgmaaDoor.I
open Go.RowKit

theorem decV_no (s : ByteArray) (h : Ix.decOk (bt s) = false) : decV s = .agg #[.int .u8 0, .int .u8 0, .int .u8 0, .int .u8 0, .int .u32 0] := by
  unfold decV Ix.pick; rw [h]; rfl
theorem decE_no (s : ByteArray) (h : Ix.decOk (bt s) = false) : decE s = 7 := by unfold decE Ix.decE; rw [h]; rfl
theorem decV_yes (s : ByteArray) (h : Ix.decOk (bt s) = true) : decV s = .agg #[.int .u8 (Ix.byteAt (bt s) 0), .int .u8 (Ix.byteAt (bt s) 1 % 16), .int .u8 (Ix.byteAt (bt s) 1 / 16), .int .u8 (Ix.byteAt (bt s) 2), .int .u32 (Ix.dI (bt s))] := by
  unfold decV Ix.pick; rw [if_pos h, if_pos h, if_pos h, if_pos h, if_pos h]; rfl
theorem decE_yes (s : ByteArray) (h : Ix.decOk (bt s) = true) : decE s = 0 := by unfold decE Ix.decE; rw [if_pos h]
theorem bt_length (s : ByteArray) : (bt s).length = s.size := rfl
theorem decOk_short (s : ByteArray) (h : s.size ≠ 8) : Ix.decOk (bt s) = false := by
  unfold Ix.decOk
  rw [bt_length, decide_eq_false h, Bool.false_and]
theorem getV_drop (s : ByteArray) (h : s.size = 8) : getV (drop4 s) = Ix.dI (bt s) ∧ getE (drop4 s) = 0 := by
  have hl : ((bt s).drop 4).length = 4 := by rw [List.length_drop, bt_length, h]
  have e : (drop4 s).data.toList = (bt s).drop 4 := drop4_bt s
  unfold getV getE Wd.getN Wd.getE Ix.dI
  rw [e, if_neg (by omega), if_neg (by omega)]
  exact ⟨rfl, rfl⟩
theorem dI_lo (l : List UInt8) : 0 ≤ Ix.dI l := by unfold Ix.dI; omega
theorem dI_hi (s : ByteArray) (h : s.size = 8) : Ix.dI (bt s) < 4294967296 := by
  have hl : ((bt s).drop 4).length = 4 := by rw [List.length_drop, bt_length, h]
  have := Wd.unle_lt32 ((bt s).drop 4) (by omega)
  unfold Ix.dI; omega

/-- Decode, whatever it is asked. -/
theorem idecode_any (s : ByteArray) (w : World) (hk : Tabled w) :
    Calls Tryd.prog 31 #[.string s] w fun e w' => e = .returned (.tuple #[decV s, .int .i64 (decE s)]) ∧ Below w.heap.size w w' := by
  by_cases h : s.size = 8
  · obtain ⟨gv, ge⟩ := getV_drop s h
    have HG : Hid (∀ w, Calls Tryd.prog 49 #[.string (drop4 s)] w fun e w' => e = .returned (.tuple #[.int .u32 (Ix.dI (bt s)), .int .i64 0]) ∧ w = w') := by
      rw [← gv, ← ge]
      exact Lib.hid fun w => get_any (drop4 s) (by rw [drop4_size s h]; decide) w
    have l0 := Ix.byteAt_lo (bt s) 0
    have h0 := Ix.byteAt_hi (bt s) 0
    have l1 := Ix.byteAt_lo (bt s) 1
    have h1 := Ix.byteAt_hi (bt s) 1
    have l2 := Ix.byteAt_lo (bt s) 2
    have h2 := Ix.byteAt_hi (bt s) 2
    have HC : ∀ w', Below w.heap.size w w' → Calls Tryd.prog 50 #[.agg #[.int .u8 (Ix.byteAt (bt s) 0), .int .u8 (Ix.byteAt (bt s) 1 % 16), .int .u8 (Ix.byteAt (bt s) 1 / 16), .int .u8 (Ix.byteAt (bt s) 2), .int .u32 (Ix.dI (bt s))]] w' fun e w'' => e = .returned (.int .i64 (errI (Ix.byteAt (bt s) 0) (Ix.byteAt (bt s) 1 % 16) (Ix.byteAt (bt s) 1 / 16) (Ix.byteAt (bt s) 2) (Ix.dI (bt s)))) ∧ Below w'.heap.size w' w'' :=
      fun w' hb => icheck_any _ _ _ _ _ l0 h0 (by omega) (by omega) (by omega) (by omega) l2 h2 w' (hk.below hb)
    by_cases h3 : Ix.byteAt (bt s) 3 = 0
    · by_cases ho : Ix.insnOf (bt s) = true
      · have hd : Ix.decOk (bt s) = true := by unfold Ix.decOk; rw [bt_length, decide_eq_true h, decide_eq_true h3, ho]; rfl
        rw [errI_yes (Ix.byteAt (bt s) 0) (Ix.byteAt (bt s) 1 % 16) (Ix.byteAt (bt s) 1 / 16) (Ix.byteAt (bt s) 2) (Ix.dI (bt s)) ho] at HC
        rw [decV_yes s hd, decE_yes s hd]
        exact decode_eight s h h3 _ _ _ _ rfl rfl rfl l1 h1 w HG (Lib.hid HC)
      · have ho' : Ix.insnOf (bt s) = false := by simpa using ho
        have hd : Ix.decOk (bt s) = false := by unfold Ix.decOk; rw [ho', Bool.and_false, Bool.and_false]
        rw [errI_no (Ix.byteAt (bt s) 0) (Ix.byteAt (bt s) 1 % 16) (Ix.byteAt (bt s) 1 / 16) (Ix.byteAt (bt s) 2) (Ix.dI (bt s)) ho'] at HC
        rw [decV_no s hd, decE_no s hd]
        exact decode_bad s h h3 _ _ _ _ rfl rfl rfl l1 h1 w HG (Lib.hid HC)
    · have hd : Ix.decOk (bt s) = false := by unfold Ix.decOk; rw [decide_eq_false h3, Bool.false_and, Bool.and_false]
      rw [decV_no s hd, decE_no s hd]
      exact decode_three s h h3 w
  · have hd := decOk_short s h
    rw [decV_no s hd, decE_no s hd]
    exact decode_short s (by rw [bne_iff_ne]; omega) w
end Go.Proofs.YtlnnhgmkibjgmaaDoor.I
