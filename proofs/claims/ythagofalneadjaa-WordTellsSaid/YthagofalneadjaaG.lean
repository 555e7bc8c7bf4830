/- What package word's Hex and Unhex do, for whatever they are called with. -/
import Derived.Test.YthagofalneadjaaF
import Derived.StillTailTactics
namespace Go.Proofs.Ythagofalneadjaa
open Go.RowKit

theorem Grow_new (w : World) (n : Int) (h0 : 0 ≤ n) (hn : n ≤ 281474976710656) :
    Calls Try.prog 33 #[.pointer (some ⟨w.heap.size, 0, none⟩), .int .i64 n] (w.alloc (.cells #[.pointer none, .slice none 0 0] 51)) fun e w' =>
      e = .returned (.tuple #[]) ∧ (Lib.IsBuilder 51 5 w.heap.size w.heap.size (Lib.byteCells []) w' ∧ Below w.heap.size w w') := by
  obtain ⟨m, rfl⟩ := Int.eq_ofNat_of_zero_le h0
  refine (Grow_fresh w.heap.size w.heap.size m (w.alloc (.cells #[.pointer none, .slice none 0 0] 51)) (Nat.le_refl _) (heap_alloc_new w _) (by simp) (by omega)).mono ?_
  rintro e w' ⟨rfl, q1, q2⟩
  exact ⟨rfl, Or.inr q1, ((Below.refl _ w).alloc (Nat.le_refl _) _).trans q2⟩

theorem add_two_drew (B b : Nat) (bs : List Value) (x y : Int) (W : World) (h : Lib.IsBuilder 51 5 B b bs W) (hlen : bs.length + 2 ≤ 140737488355328) :
    Calls Try.prog 28 #[.pointer (some ⟨b, 0, none⟩), .slice (some ⟨W.heap.size, 0, none⟩) 2 2] (W.alloc (.cells #[.int .u8 x, .int .u8 y] 5)).drew fun e w' =>
      e = .returned (.tuple #[]) ∧ (Lib.IsBuilder 51 5 B b (bs ++ [.int .u8 x, .int .u8 y]) w' ∧ Below B W w') :=
  (add_two B b bs x y W.drew h hlen).mono fun _ _ ⟨he, q1, q2⟩ => ⟨he, q1, ((Below.refl B W).drew).trans q2⟩

/-- strings.IndexByte: the library's own words for it. -/
theorem index_any (s : ByteArray) (c : Int) (w : World) :
    Calls Try.prog 34 #[.string s, .int .u8 c] w fun e w' => e = .returned (.int .i64 (Lib.indexByte s.data.toList c.toNat.toUInt8)) ∧ w' = w := by
  have H54 : ∀ w, Calls Try.prog 54 #[.string s, .int .u8 c] w fun e w' => e = .returned (.int .i64 (Lib.indexByte s.data.toList c.toNat.toUInt8)) ∧ w = w' := by
    intro w
    have hrun : (callFunc 57 #[.string s, .int .u8 c]).run Try.prog w = .ok (.value (.int .i64 (Lib.indexByte s.data.toList c.toNat.toUInt8))) w := by
      rw [run_callFunc_extern Try.func57 (by kernel_rfl) (by kernel_rfl) (by kernel_rfl) (e := Extern.BytealgIndexByte.indexByte) (by kernel_rfl), Lib.run_indexByteString]
      rfl
    generalize Lib.indexByte s.data.toList c.toNat.toUInt8 = r at *
    go_enter Try.func54, Try.ntmps54
    go_wp2
    go_ret
    exact ⟨rfl, rfl⟩
  have HH := Lib.hid H54
  clear H54
  generalize Lib.indexByte s.data.toList c.toNat.toUInt8 = r at *
  go_enter Try.func34, Try.ntmps34
  go_wp2_with (go_at_call 54; refine (HH.out _).mono ?_; rintro e w1 ⟨rfl, rfl⟩)
  go_ret
  exact ⟨rfl, rfl⟩

theorem digit_at (x : Int) (h0 : 0 ≤ x) (h : x < 16) (W : World) :
    (Instr.index 9 (.string ⟨#[48, 49, 50, 51, 52, 53, 54, 55, 56, 57, 97, 98, 99, 100, 101, 102]⟩) (.int .u8 x)).run Try.prog W = .ok (.int .u8 ((Wd.hexd x.toNat).toNat : Int)) W := by
  have hx : x = 0 ∨ x = 1 ∨ x = 2 ∨ x = 3 ∨ x = 4 ∨ x = 5 ∨ x = 6 ∨ x = 7 ∨ x = 8 ∨ x = 9 ∨ x = 10 ∨ x = 11 ∨ x = 12 ∨ x = 13 ∨ x = 14 ∨ x = 15 := by omega
  rcases hx with rfl | rfl | rfl | rfl | rfl | rfl | rfl | rfl | rfl | rfl | rfl | rfl | rfl | rfl | rfl | rfl <;> rfl
theorem and15 (b : Nat) (hb : b < 256) : bits .and .u8 (b : Int) 15 = ((b % 16 : Nat) : Int) := by
  rw [show (15 : Int) = ((15 : Nat) : Int) from rfl, u8_and_nat b 15 hb (by decide), nat_mask4]
theorem hex_step (l : List UInt8) (k : Nat) (h : k < l.length) :
    Lib.byteCells (Wd.hexL (l.take k)) ++ [.int .u8 ((Wd.hexd (l[k].toNat / 16)).toNat : Int), .int .u8 ((Wd.hexd (l[k].toNat % 16)).toNat : Int)] = Lib.byteCells (Wd.hexL (l.take (k + 1))) := by
  rw [List.take_succ_eq_append_getElem h, Wd.hexL_append, Lib.byteCells_append]; rfl

set_option maxHeartbeats 1000000 in
set_option maxRecDepth 100000 in
theorem hex_any (s : ByteArray) (hs : s.size ≤ 1048576) (w : World) :
    Calls Try.prog 20 #[.string s] w fun e w' => e = .returned (.string ⟨(Wd.hexL s.data.toList).toArray⟩) ∧ Below w.heap.size w w' := by
  have HG := Lib.hid (Grow_new w (2 * (s.size : Int)) (by omega) (by omega))
  go_enter Try.func20, Try.ntmps20
  go_wp2_with (go_at_call 33; refine HG.out.mono ?_; rintro e w1 ⟨rfl, hI, hb1⟩)
  have HI := Lib.hid hI
  clear hI HG
  go_loopw [12] (fun i wr => ∃ k : Nat, k ≤ s.size ∧ i = .int .i64 k ∧ Hid (Lib.IsBuilder 51 5 w.heap.size w.heap.size (Lib.byteCells (Wd.hexL (s.data.toList.take k))) wr) ∧ Below w.heap.size w wr) (fun i _ => s.size - (intOf i).toNat)
  case atStart => exact ⟨0, Nat.zero_le _, rfl, HI, hb1⟩
  case round =>
    obtain ⟨k, hk, rfl, hB, hb⟩ := hrel
    by_cases hlt : k < s.size
    · have hx1 : ∀ W, (Instr.index 9 (.string ⟨#[48, 49, 50, 51, 52, 53, 54, 55, 56, 57, 97, 98, 99, 100, 101, 102]⟩) (.int .u8 ((s[k].toNat : Int) / 16))).run Try.prog W = .ok (.int .u8 ((Wd.hexd (s[k].toNat / 16)).toNat : Int)) W := by
        intro W
        have hb := s[k].toNat_lt
        exact digit_at _ (by omega) (by omega) W
      have hx2 : ∀ W, (Instr.index 9 (.string ⟨#[48, 49, 50, 51, 52, 53, 54, 55, 56, 57, 97, 98, 99, 100, 101, 102]⟩) (.int .u8 (bits .and .u8 (s[k].toNat : Int) 15))).run Try.prog W = .ok (.int .u8 ((Wd.hexd (s[k].toNat % 16)).toNat : Int)) W := by
        intro W
        have hb := s[k].toNat_lt
        rw [and15 _ hb]
        exact digit_at _ (by omega) (by omega) W
      go_wp2_with fail
      go_still_tail 10, (by kernel_rfl)
      change wpList _ _ _ _ _ wr.drew
      clear hx1 hx2
      go_wp2_with fail
      refine (add_two_drew w.heap.size w.heap.size _ _ _ wr hB.out (by rw [Lib.byteCells_length, Wd.hexL_length]; simp; omega)).mono ?_
      rintro e w2 ⟨rfl, q1, q2⟩
      have q3 := Lib.hid q1
      clear q1 hB
      have S := hex_step s.data.toList k (by simpa using hlt)
      have S' := Lib.hid S
      clear S
      have q4 : Hid (Lib.IsBuilder 51 5 w.heap.size w.heap.size (Lib.byteCells (Wd.hexL (s.data.toList.take (k + 1)))) w2) := by rw [← S'.out]; exact q3
      clear q3 S'
      have hb' := hb.trans q2
      clear hb q2
      go_wp2
      go_roundw
      case rel => exact ⟨k + 1, by omega, by go_num, q4, hb'⟩
      case measure => simp [intOf]; omega
    · go_wp2_with fail
      refine (string_any w.heap.size w.heap.size _ wr hB.out hb.size).mono ?_
      rintro e w2 ⟨rfl, q2⟩
      go_wp2
      go_ret
      refine ⟨?_, hb.trans q2⟩
      have : k = s.size := by omega
      subst this
      rw [List.take_of_length_le (by rw [data_len]; omega)]
      rfl
end Go.Proofs.Ythagofalneadjaa
