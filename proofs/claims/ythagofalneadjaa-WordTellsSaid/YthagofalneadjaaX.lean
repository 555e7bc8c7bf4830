/- What the document's own Unhex (package aediculeref01) makes of any text: the same as package word's. -/
import Derived.Test.YthagofalneadjaaU
set_option linter.unusedVariables false
namespace Go.Proofs.Ythagofalneadjaa
open Go.RowKit

set_option maxHeartbeats 1000000 in
set_option maxRecDepth 100000 in
theorem runhex_even (s : ByteArray) (hs : s.size ≤ 1048576) (he : s.size % 2 = 0) (w : World) :
    Calls Try.prog 19 #[.string s] w fun e w' => (∀ u, Wd.unhexL s.data.toList = some u → e = .returned (.tuple #[.string ⟨u.toArray⟩, .int .i64 0])) ∧ (Wd.unhexL s.data.toList = none → e = .returned (.tuple #[.string ⟨#[]⟩, .int .i64 2])) ∧ Below w.heap.size w w' := by
  obtain ⟨i0, hi, hz0, hz1, hz2⟩ := info_parts infoByte
  have t1 : ((s.size : Int) % 2 != 0) = false := by rw [bne_eq_false_iff_eq]; omega
  have Hev := Lib.hid he
  clear he
  go_enter Try.func19, Try.ntmps19
  go_wp2
  clear t1
  go_loopw [4, 5] (fun sl i wr => ∃ (j : Nat) (bs : List UInt8) (z : Value), j ≤ s.size ∧ i = .int .i64 j ∧ z = sl ∧ bs.length ≤ j ∧ Hid (j % 2 = 0) ∧ Hid (Own w.heap.size bs z wr) ∧ Hid (Wd.unhexL s.data.toList = (Wd.unhexL (s.data.toList.drop j)).map (bs ++ ·)) ∧ Below w.heap.size w wr) (fun _ i _ => s.size - (intOf i).toNat)
  case atStart => exact ⟨0, [], .slice none 0 0, Nat.zero_le _, rfl, rfl, Nat.zero_le _, Lib.hid rfl, Lib.hid (own_nil _ _), Lib.hid (by simp), Below.refl _ _⟩
  case round =>
    obtain ⟨j, bs, sl, hj, rfl, rfl, hlen, hje, hB, hU, hb⟩ := hrel
    by_cases hlt : j < s.size
    · have hj1 : j + 1 < s.size := by have h1 := hje.out; have h2 := Hev.out; omega
      have hix := index_next s j hj1
      have hw1 : IntKind.i64.wrap ((j : Int) + 1) = (j : Int) + 1 := IntWalk.i64_in _ (by omega)
      go_wp2_with fail
      go_quiet ((go_at_call 35; exact Calls.quiet_of_same (digit_any _ _)))
      clear hix hw1
      obtain ⟨w3, hw3⟩ : ∃ w3, w3 = wr.drewN nq := ⟨_, rfl⟩
      have hB3 : Hid (Own w.heap.size bs sl w3) := by rw [hw3]; exact hB
      have hb3 : Below w.heap.size w w3 := by rw [hw3]; exact ⟨hb.os, hb.tape, hb.output, hb.size, hb.block⟩
      rw [← hw3]
      clear hw3 hB hb
      have hdrop := Lib.hid (drop_two s j hj1)
      by_cases ha : Wd.dig s[j] = 16
      · have e1 : ((Wd.dig s[j] : Nat) : Int) = 16 := by rw [ha]; rfl
        have hno : Wd.unhexL s.data.toList = none := by
          rw [hU.out, hdrop.out, Wd.unhexL, if_pos (Or.inl ha)]; rfl
        have Hno := Lib.hid hno
        rw [e1]
        clear hU hdrop e1 ha hno
        go_wp2
        go_ret2
        exact ⟨fun u hu => by rw [Hno.out] at hu; (cases hu), fun _ => rfl, hb3⟩
      · have l1 := Wd.dig_le s[j]
        by_cases hb' : Wd.dig s[j + 1] = 16
        · have e2 : ((Wd.dig s[j + 1] : Nat) : Int) = 16 := by rw [hb']; rfl
          have hno : Wd.unhexL s.data.toList = none := by
            rw [hU.out, hdrop.out, Wd.unhexL, if_pos (Or.inr hb')]; rfl
          have Hno := Lib.hid hno
          rw [e2]
          generalize Wd.dig s[j] = a at *
          have t2 : ((a : Int) == 16) = false := by rw [beq_eq_false_iff_ne]; omega
          clear hU hdrop e2 ha hb' hno l1
          go_wp2
          go_ret2
          exact ⟨fun u hu => by rw [Hno.out] at hu; (cases hu), fun _ => rfl, hb3⟩
        · have l2 := Wd.dig_le s[j + 1]
          have hyes : Wd.unhexL s.data.toList = (Wd.unhexL (s.data.toList.drop (j + 1 + 1))).map ((bs ++ [UInt8.ofNat (16 * Wd.dig s[j] + Wd.dig s[j + 1])]) ++ ·) := by
            rw [hU.out, hdrop.out, Wd.unhexL, if_neg (by omega)]
            cases Wd.unhexL (s.data.toList.drop (j + 1 + 1)) <;> simp
          have Hyes := Lib.hid hyes
          clear hU hdrop hyes
          generalize Wd.dig s[j] = a at *
          generalize Wd.dig s[j + 1] = b at *
          have la : a < 16 := by omega
          have lb : b < 16 := by omega
          have t2 : ((a : Int) == 16) = false := by rw [beq_eq_false_iff_ne]; omega
          have t3 : ((b : Int) == 16) = false := by rw [beq_eq_false_iff_ne]; omega
          clear ha hb' l1 l2
          have hown : w3.ownsRow w.heap.size 5 1 sl bs.length (Lib.byteCells bs) := hB3.out
          have Hown := Lib.hid hown
          clear hown hB3
          have hsz := hb3.size
          go_wp2_with (at_builtin; refine wpList_append_own _ rfl _ _ 47 rfl w.heap.size 5 i0 (.int .u8 0) 1 1 Try.underlying47 hi hz0 hz1 hz2 rfl (by decide) _ _ _ rfl (Hown.out.alloc _) ⟨w3.heap.size, 0, none⟩ 1 1 [.int .u8 (16 * (a : Int) + (b : Int))] rfl rfl ?c1 ?c2 ?c3 ?c4 ?c5 ?_)
          case c1 => exact new_one _ _
          case c2 => intro u hu; simp at hu; subst hu; rfl
          case c3 => unfold maxLen; omega
          case c4 => omega
          case c5 => simp; omega
          intro z' w4 hown' hgrow _
          have hb4 := app_below hb3 hsz Hown.out hgrow
          have q3 : Hid (Own w.heap.size (bs ++ [UInt8.ofNat (16 * a + b)]) z' w4) := by
            refine Lib.hid (own_one (y := 16 * (a : Int) + (b : Int)) ?_ hown')
            rw [Wd.ofNat_toNat]; omega
          have hl4 : (bs ++ [UInt8.ofNat (16 * a + b)]).length ≤ j + 1 + 1 := by simp; omega
          have hje' : Hid ((j + 1 + 1) % 2 = 0) := by have := hje.out; exact Lib.hid (by omega)
          generalize bs ++ [UInt8.ofNat (16 * a + b)] = bs' at *
          clear hown' hgrow Hown hb3 hsz hje t2 t3
          go_wp2
          go_roundw
          case rel => exact ⟨j + 1 + 1, bs', z', by omega, vi' (by omega), rfl, hl4, hje', q3, Hyes, hb4⟩
          case measure => simp [intOf]; omega
    · have hconv := own_text hB.out
      have h2 : Wd.unhexL s.data.toList = some bs := by
        have h1 := hU.out
        rw [List.drop_of_length_le (by rw [data_len]; omega)] at h1
        rw [h1]; simp [Wd.unhexL]
      have H2 := Lib.hid h2
      obtain ⟨a', n', c', hsl⟩ := own_slice hB.out
      subst hsl
      clear h2
      go_wp2
      go_ret2
      exact ⟨fun u hu => by rw [H2.out] at hu; injection hu with hu; subst hu; rfl, fun hu => by rw [H2.out] at hu; (cases hu), hb⟩

set_option maxHeartbeats 1000000 in
theorem runhex_odd (s : ByteArray) (hs : s.size ≤ 1048576) (ho : s.size % 2 = 1) (w : World) :
    Calls Try.prog 19 #[.string s] w fun e w' => e = .returned (.tuple #[.string ⟨#[]⟩, .int .i64 2]) ∧ w = w' := by
  have t1 : ((s.size : Int) % 2 != 0) = true := by rw [bne_iff_ne]; omega
  clear ho
  go_enter Try.func19, Try.ntmps19
  go_wp2
  go_ret2
  exact ⟨rfl, rfl⟩

theorem runhex_any (s : ByteArray) (hs : s.size ≤ 1048576) (w : World) :
    Calls Try.prog 19 #[.string s] w fun e w' => e = .returned (.tuple #[.string (unhexS s), .int .i64 (unhexE s)]) ∧ Below w.heap.size w w' := by
  by_cases ho : s.size % 2 = 0
  · refine (runhex_even s hs ho w).mono ?_
    rintro e w' ⟨h1, h2, h3⟩
    refine ⟨?_, h3⟩
    cases hu : Wd.unhexL s.data.toList with
    | none => rw [h2 hu]; unfold unhexS unhexE Wd.unhexO Wd.unhexE; rw [hu]; rfl
    | some u => rw [h1 u hu]; unfold unhexS unhexE Wd.unhexO Wd.unhexE; rw [hu]; rfl
  · have hn : Wd.unhexL s.data.toList = none := by
      cases hu : Wd.unhexL s.data.toList with
      | none => rfl
      | some u => have := Wd.unhexL_even _ _ hu; rw [data_len] at this; omega
    refine (runhex_odd s hs (by omega) w).mono ?_
    rintro e w' ⟨rfl, rfl⟩
    refine ⟨?_, Below.refl _ _⟩
    unfold unhexS unhexE Wd.unhexO Wd.unhexE; rw [hn]; rfl

end Go.Proofs.Ythagofalneadjaa
