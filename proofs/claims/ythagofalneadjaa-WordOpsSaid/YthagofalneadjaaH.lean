/- What package word's Unhex does, for whatever it is called with. -/
import Derived.Test.YthagofalneadjaaG
set_option linter.unusedVariables false
namespace Go.Proofs.Ythagofalneadjaa
open Go.RowKit

def di (c : UInt8) : Int := if Wd.dig c = 16 then -1 else (Wd.dig c : Int)

theorem index_di (c : UInt8) (w : World) :
    Calls Try.prog 34 #[.string ⟨#[48, 49, 50, 51, 52, 53, 54, 55, 56, 57, 97, 98, 99, 100, 101, 102]⟩, .int .u8 (c.toNat : Int)] w fun e w' => e = .returned (.int .i64 (di c)) ∧ w' = w := by
  have h := index_any ⟨#[48, 49, 50, 51, 52, 53, 54, 55, 56, 57, 97, 98, 99, 100, 101, 102]⟩ (c.toNat : Int) w
  have e : Lib.indexByte (ByteArray.mk #[48, 49, 50, 51, 52, 53, 54, 55, 56, 57, 97, 98, 99, 100, 101, 102]).data.toList (c.toNat : Int).toNat.toUInt8 = di c := by
    have := Wd.dig_index c
    simp only [Int.toNat_natCast]
    have e2 : c.toNat.toUInt8 = c := by simp
    rw [e2]
    exact this
  rw [e] at h
  exact h

theorem index_next (s : ByteArray) (j : Nat) (h : j + 1 < s.size) (W : World) :
    (Instr.index 9 (.string s) (.int .i64 ((j : Int) + 1))).run Try.prog W = .ok (.int .u8 (s[j + 1].toNat : Int)) W := by
  have e : ((j : Int) + 1) = ((j + 1 : Nat) : Int) := by omega
  rw [e, run_index_string W 9 s .i64 _ Try.underlying9, dif_pos (by omega)]
  rfl

theorem vi' {k : IntKind} {a b : Int} (h : a = b) : Value.int k a = Value.int k b := by rw [h]
theorem hex_cell {bs : List UInt8} (a b : Nat) (ha : a < 16) (hb : b < 16) (h : bits .or .i64 (((a * 16 : Nat)) : Int) (b : Int) = ((16 * a + b : Nat) : Int)) :
    Lib.byteCells bs ++ [.int .u8 (bits .or .i64 ((a : Int) * 16) (b : Int) % 256)] = Lib.byteCells (bs ++ [UInt8.ofNat (16 * a + b)]) := by
  have e : ((a : Int) * 16) = ((a * 16 : Nat) : Int) := by omega
  rw [e, h, Lib.byteCells_append]
  simp [Lib.byteCells]

theorem drop_two (s : ByteArray) (j : Nat) (h : j + 1 < s.size) : s.data.toList.drop j = s[j] :: s[j + 1] :: s.data.toList.drop (j + 1 + 1) := by
  rw [List.drop_eq_getElem_cons (by rw [data_len]; omega), List.drop_eq_getElem_cons (by rw [data_len]; omega)]
  rfl

theorem or_i64 (a b : Nat) (ha : a < 16) (hb : b < 16) : bits .or .i64 (((a * 16 : Nat)) : Int) (b : Int) = ((16 * a + b : Nat) : Int) := by
  have h1 : (BitVec.ofInt 64 ((a * 16 : Nat) : Int)).toNat = a * 16 := by
    rw [BitVec.ofInt_natCast, BitVec.toNat_ofNat]; exact Nat.mod_eq_of_lt (by omega)
  have h2 : (BitVec.ofInt 64 (b : Int)).toNat = b := by
    rw [BitVec.ofInt_natCast, BitVec.toNat_ofNat]; exact Nat.mod_eq_of_lt (by omega)
  show IntKind.i64.wrap ((BitVec.ofInt 64 ((a * 16 : Nat) : Int) ||| BitVec.ofInt 64 (b : Int)).toNat : Int) = _
  rw [BitVec.toNat_or, h1, h2, nat_join 4 _ _ (by show a * 16 % 16 = 0; omega) (by omega), IntKind.wrap_i64]
  omega

set_option maxHeartbeats 1000000 in
set_option maxRecDepth 100000 in
theorem unhex_even (s : ByteArray) (hs : s.size ≤ 1048576) (he : s.size % 2 = 0) (w : World) :
    Calls Try.prog 18 #[.string s] w fun e w' => (∀ u, Wd.unhexL s.data.toList = some u → e = .returned (.tuple #[.string ⟨u.toArray⟩, .int .i64 0])) ∧ (Wd.unhexL s.data.toList = none → e = .returned (.tuple #[.string ⟨#[]⟩, .int .i64 2])) ∧ Below w.heap.size w w' := by
  have HG := Lib.hid (Grow_new w ((s.size : Int) / 2) (by omega) (by omega))
  have t1 : ((s.size : Int) % 2 != 0) = false := by rw [bne_eq_false_iff_eq]; omega
  have Hev := Lib.hid he
  clear he
  go_enter Try.func18, Try.ntmps18
  go_wp2_with (go_at_call 33; refine HG.out.mono ?_; rintro e w1 ⟨rfl, hI, hb1⟩)
  have HI := Lib.hid hI
  clear hI HG t1
  go_loopw [5] (fun i wr => ∃ (j : Nat) (bs : List UInt8), j ≤ s.size ∧ i = .int .i64 j ∧ bs.length ≤ j ∧ Hid (j % 2 = 0) ∧ Hid (Lib.IsBuilder 51 5 w.heap.size w.heap.size (Lib.byteCells bs) wr) ∧ Hid (Wd.unhexL s.data.toList = (Wd.unhexL (s.data.toList.drop j)).map (bs ++ ·)) ∧ Below w.heap.size w wr) (fun i _ => s.size - (intOf i).toNat)
  case atStart => exact ⟨0, [], Nat.zero_le _, rfl, Nat.zero_le _, Lib.hid rfl, HI, Lib.hid (by simp), hb1⟩
  case round =>
    obtain ⟨j, bs, hj, rfl, hlen, hje, hB, hU, hb⟩ := hrel
    by_cases hlt : j < s.size
    · have hj1 : j + 1 < s.size := by have h1 := hje.out; have h2 := Hev.out; omega
      have hix := index_next s j hj1
      have hw1 : IntKind.i64.wrap ((j : Int) + 1) = (j : Int) + 1 := IntWalk.i64_in _ (by omega)
      go_wp2_with fail
      go_quiet ((go_at_call 34; exact Calls.quiet_of_same (index_di _ _)))
      clear hix hw1
      obtain ⟨w3, hw3⟩ : ∃ w3, w3 = wr.drewN nq := ⟨_, rfl⟩
      have hB3 : Hid (Lib.IsBuilder 51 5 w.heap.size w.heap.size (Lib.byteCells bs) w3) := by rw [hw3]; exact hB
      have hb3 : Below w.heap.size w w3 := by rw [hw3]; exact ⟨hb.os, hb.tape, hb.output, hb.size, hb.block⟩
      rw [← hw3]
      clear hw3 hB hb
      have hdrop := Lib.hid (drop_two s j hj1)
      by_cases ha : Wd.dig s[j] = 16
      · have e1 : di s[j] = -1 := by unfold di; rw [if_pos ha]
        have hno : Wd.unhexL s.data.toList = none := by
          rw [hU.out, hdrop.out, Wd.unhexL, if_pos (Or.inl ha)]; rfl
        have Hno := Lib.hid hno
        rw [e1]
        clear hU hdrop e1 ha hno
        go_wp2
        go_ret2
        exact ⟨fun u hu => by rw [Hno.out] at hu; (cases hu), fun _ => rfl, hb3⟩
      · by_cases hb' : Wd.dig s[j + 1] = 16
        · have e1 : di s[j] = (Wd.dig s[j] : Int) := by unfold di; rw [if_neg ha]
          have e2 : di s[j + 1] = -1 := by unfold di; rw [if_pos hb']
          have hno : Wd.unhexL s.data.toList = none := by
            rw [hU.out, hdrop.out, Wd.unhexL, if_pos (Or.inr hb')]; rfl
          have Hno := Lib.hid hno
          rw [e1, e2]
          clear hU hdrop e1 e2 ha hb' hno
          go_wp2
          go_ret2
          exact ⟨fun u hu => by rw [Hno.out] at hu; (cases hu), fun _ => rfl, hb3⟩
        · have e1 : di s[j] = (Wd.dig s[j] : Int) := by unfold di; rw [if_neg ha]
          have e2 : di s[j + 1] = (Wd.dig s[j + 1] : Int) := by unfold di; rw [if_neg hb']
          have l1 := Wd.dig_le s[j]
          have l2 := Wd.dig_le s[j + 1]
          have hyes : Wd.unhexL s.data.toList = (Wd.unhexL (s.data.toList.drop (j + 1 + 1))).map ((bs ++ [UInt8.ofNat (16 * Wd.dig s[j] + Wd.dig s[j + 1])]) ++ ·) := by
            rw [hU.out, hdrop.out, Wd.unhexL, if_neg (by omega)]
            cases Wd.unhexL (s.data.toList.drop (j + 1 + 1)) <;> simp
          have Hyes := Lib.hid hyes
          rw [e1, e2]
          clear hU hdrop e1 e2 hyes
          have HO := Lib.hid (or_i64 (Wd.dig s[j]) (Wd.dig s[j + 1]) (by omega) (by omega))
          generalize Wd.dig s[j] = a at *
          generalize Wd.dig s[j + 1] = b at *
          have la : a < 16 := by omega
          have lb : b < 16 := by omega
          clear ha hb' l1 l2
          go_wp2_with fail
          refine (add_one w.heap.size w.heap.size _ _ w3 hB3.out (by rw [Lib.byteCells_length]; omega)).mono ?_
          rintro e w4 ⟨rfl, q1, q2⟩
          have q3 : Hid (Lib.IsBuilder 51 5 w.heap.size w.heap.size (Lib.byteCells (bs ++ [UInt8.ofNat (16 * a + b)])) w4) := by
            rw [hex_cell a b la lb HO.out] at q1; exact q1
          have hb4 := hb3.trans q2
          have hl4 : (bs ++ [UInt8.ofNat (16 * a + b)]).length ≤ j + 1 + 1 := by simp; omega
          have hje' : Hid ((j + 1 + 1) % 2 = 0) := by have := hje.out; exact Lib.hid (by omega)
          generalize bs ++ [UInt8.ofNat (16 * a + b)] = bs' at *
          clear q1 q2 hB3 hb3 hje HO la lb
          go_wp2
          go_roundw
          case rel => exact ⟨j + 1 + 1, bs', by omega, vi' (by omega), hl4, hje', q3, Hyes, hb4⟩
          case measure => simp [intOf]; omega
    · go_wp2_with fail
      refine (string_any w.heap.size w.heap.size _ wr hB.out hb.size).mono ?_
      rintro e w2 ⟨rfl, q2⟩
      go_wp2
      go_ret2
      have : j = s.size := by omega
      subst this
      have h1 := hU.out
      rw [List.drop_of_length_le (by rw [data_len]; omega)] at h1
      have h2 : Wd.unhexL s.data.toList = some bs := by rw [h1]; simp [Wd.unhexL]
      exact ⟨fun u hu => by rw [h2] at hu; injection hu with hu; subst hu; rfl, fun hu => by rw [h2] at hu; (cases hu), hb.trans q2⟩

set_option maxHeartbeats 1000000 in
theorem unhex_odd (s : ByteArray) (hs : s.size ≤ 1048576) (ho : s.size % 2 = 1) (w : World) :
    Calls Try.prog 18 #[.string s] w fun e w' => e = .returned (.tuple #[.string ⟨#[]⟩, .int .i64 2]) ∧ w = w' := by
  have t1 : ((s.size : Int) % 2 != 0) = true := by rw [bne_iff_ne]; omega
  clear ho
  go_enter Try.func18, Try.ntmps18
  go_wp2
  go_ret2
  exact ⟨rfl, rfl⟩

def unhexS (s : ByteArray) : ByteArray := ⟨(Wd.unhexO s.data.toList).toArray⟩
def unhexE (s : ByteArray) : Int := Wd.unhexE s.data.toList

theorem unhex_any (s : ByteArray) (hs : s.size ≤ 1048576) (w : World) :
    Calls Try.prog 18 #[.string s] w fun e w' => e = .returned (.tuple #[.string (unhexS s), .int .i64 (unhexE s)]) ∧ Below w.heap.size w w' := by
  by_cases ho : s.size % 2 = 0
  · refine (unhex_even s hs ho w).mono ?_
    rintro e w' ⟨h1, h2, h3⟩
    refine ⟨?_, h3⟩
    cases hu : Wd.unhexL s.data.toList with
    | none => rw [h2 hu]; unfold unhexS unhexE Wd.unhexO Wd.unhexE; rw [hu]; rfl
    | some u => rw [h1 u hu]; unfold unhexS unhexE Wd.unhexO Wd.unhexE; rw [hu]; rfl
  · have hn : Wd.unhexL s.data.toList = none := by
      cases hu : Wd.unhexL s.data.toList with
      | none => rfl
      | some u => have := Wd.unhexL_even _ _ hu; rw [data_len] at this; omega
    refine (unhex_odd s hs (by omega) w).mono ?_
    rintro e w' ⟨rfl, rfl⟩
    refine ⟨?_, Below.refl _ _⟩
    unfold unhexS unhexE Wd.unhexO Wd.unhexE; rw [hn]; rfl

def hexS (s : ByteArray) : ByteArray := ⟨(Wd.hexL s.data.toList).toArray⟩
theorem hex_call (s : ByteArray) (hs : s.size ≤ 1048576) (w : World) :
    Calls Try.prog 20 #[.string s] w fun e w' => e = .returned (.string (hexS s)) ∧ Below w.heap.size w w' := hex_any s hs w

end Go.Proofs.Ythagofalneadjaa
