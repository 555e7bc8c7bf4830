/- aediculeref02.root: the first 32 bits behind the point of a root, found bit by bit. -/
import Derived.Test.YtkomfgoloepekaaDoorRB
import Derived.Laws.Shifts
set_option linter.unusedVariables false
namespace Go.Proofs.YtkomfgoloepekaaDoor.Rf
open Go.RowKit

theorem ownU_below {B : Nat} {l : List Nat} {g n c : Nat} {w w' : World} (h : OwnU B l (.slice (some ⟨g, 0, none⟩) n c) w) (hb : Below w.heap.size w w') : OwnU B l (.slice (some ⟨g, 0, none⟩) n c) w' := by
  unfold OwnU at *
  have hlt := (h.lt g rfl).2
  exact h.kept (row := none) ⟨hb.os, hb.tape, hb.output, hb.size, fun k hk _ => hb.block k hk⟩ (Or.inr (by simp [Value.ownBlock]))

theorem ownU_lt {B : Nat} {l : List Nat} {g n c : Nat} {w : World} (h : OwnU B l (.slice (some ⟨g, 0, none⟩) n c) w) : g < w.heap.size := (h.lt g rfl).2
theorem ownU_zero {B : Nat} {l : List Nat} {v : Value} {w : World} (h : OwnU B l v w) : OwnU 0 l v w := by
  unfold OwnU at *
  refine ⟨h.1, ?_⟩
  rcases h.2 with h2 | ⟨g, cap, cur, hv, hB, r⟩
  · exact Or.inl h2
  · exact Or.inr ⟨g, cap, cur, hv, Nat.zero_le _, r⟩

theorem new_two_u (w : World) (x y : Nat) : OwnU 0 [x, y] (.slice (some ⟨w.heap.size, 0, none⟩) 2 2) (w.alloc (.cells #[.int .u32 (x : Int), .int .u32 (y : Int)] 48)) :=
  ⟨by simp [u32s], Or.inr ⟨w.heap.size, 2, #[.int .u32 (x : Int), .int .u32 (y : Int)], rfl, Nat.zero_le _, heap_alloc_new w _, by simp, by unfold maxLen; omega, rfl, rfl⟩⟩

theorem ret_u32' {a b : Int} (h : a = b) : Ending.returned (.int .u32 a) = .returned (.int .u32 b) := by rw [h]

/-- mul by a number in two parts. -/
def MulTwo (la : List Nat) (Y : Nat) (w : World) (e : Ending) (w' : World) : Prop :=
  ∃ o : List Nat, e = .returned (.slice (some ⟨w.heap.size, 0, none⟩) o.length o.length) ∧ OwnU w.heap.size o (.slice (some ⟨w.heap.size, 0, none⟩) o.length o.length) w' ∧
        o.length = la.length + 2 ∧ Small o ∧ Sh.val o = Sh.val la * Y ∧ Below w.heap.size w w'
theorem mul_two (la : List Nat) (y0 y1 Y ga g1 ca : Nat) (w : World) (ha : OwnU 0 la (.slice (some ⟨ga, 0, none⟩) la.length ca) w) (hb : OwnU 0 [y0, y1] (.slice (some ⟨g1, 0, none⟩) 2 2) w) (sa : Small la) (sb : Small [y0, y1]) (hv : Sh.val [y0, y1] = Y) (na : la.length ≤ 100) :
    Calls Tryd.prog 41 #[.slice (some ⟨ga, 0, none⟩) la.length ca, .slice (some ⟨g1, 0, none⟩) 2 2] w (MulTwo la Y w) := by
  have h2 := mul_any la [y0, y1] ga g1 ca 2 w ha hb (ownU_lt ha) (ownU_lt hb) sa sb na (by simp)
  refine h2.mono ?_
  rintro e w' ⟨o, h1, q1, q2, q3, q4, q5, q6⟩
  exact ⟨o, h1, q1, q2, q3, by rw [q4, hv], q5⟩

theorem rt_step (p n b x : Nat) : Sh.rt p n (b + 1) x = Sh.rt p n b (if p * 2 ^ (32 * n) < (x + 2 ^ b) ^ n then x else x + 2 ^ b) := rfl

set_option maxHeartbeats 2000000 in
set_option maxRecDepth 100000 in
theorem root_any (p n : Nat) (hp : p < 4294967296) (hn1 : 1 ≤ n) (hn3 : n ≤ 3) (w : World) :
    Calls Tryd.prog 34 #[.int .u32 p, .int .i64 n] w fun e w' => e = .returned (.int .u32 (Sh.root p n : Nat)) ∧ Below w.heap.size w w' := by
  have HP := Lib.hid hp
  clear hp
  obtain ⟨r, hr⟩ : ∃ r, Sh.root p n = r := ⟨_, rfl⟩
  rw [hr]
  have HR := Lib.hid hr
  clear hr
  go_enter Tryd.func34, Tryd.ntmps34
  go_wp2
  go_loopw [5, 6] (fun t5 t6 wr => ∃ (b x : Nat), t6 = .int .i64 ((b : Int) - 1) ∧ t5 = .int .u64 x ∧ b ≤ 37 ∧ Hid (x + 2 ^ b ≤ 2 ^ 37 ∧ Sh.rt p n b x = Sh.rt p n 37 0) ∧ Below w.heap.size w wr) (fun _ t6 _ => (intOf t6 + 1).toNat)
  case atStart => exact ⟨37, 0, rfl, rfl, by omega, Lib.hid ⟨by omega, rfl⟩, Below.refl _ _⟩
  case round =>
    obtain ⟨b, x, rfl, rfl, hb37, HX, hbel⟩ := hrel
    by_cases hlt : 1 ≤ b
    · obtain ⟨m, rfl⟩ : ∃ m, b = m + 1 := ⟨b - 1, by omega⟩
      obtain ⟨y, hy⟩ : ∃ y, x + 2 ^ m = y := ⟨_, rfl⟩
      have hm : ((m + 1 : Nat) : Int) - 1 = (m : Int) := by omega
      rw [hm]
      have hz := hbel.size
      clear hm hlt
      have h0 : (0 : Int) ≤ (m : Int) := by omega
      have h36 : (m : Int) ≤ 36 := by omega
      have hylt : y < 2 ^ 37 := by
        have h1 := HX.out.1
        have h2 := Nat.two_pow_pos m
        rw [Nat.pow_succ] at h1
        omega
      have hylt' : y < 137438953472 := hylt
      have HW : Hid (IntKind.u64.wrap ((x : Int) + IntKind.u64.wrap (2 ^ m)) = (y : Int)) := by
        have h2 : (2 : Int) ^ m = ((2 ^ m : Nat) : Int) := by simp
        have h3 := Nat.two_pow_pos m
        rw [h2, zip4 (2 ^ m) (by omega), ← Int.natCast_add, hy]
        exact Lib.hid (zip4 y (by omega))
      obtain ⟨y0, hy0⟩ : ∃ y0, y % 4294967296 = y0 := ⟨_, rfl⟩
      obtain ⟨y1, hy1⟩ : ∃ y1, y / 4294967296 = y1 := ⟨_, rfl⟩
      have HY0 : Hid ((y : Int).tmod 4294967296 % 4294967296 = (y0 : Int)) := by rw [Int.tmod_eq_emod_of_nonneg (by omega)]; exact Lib.hid (by omega)
      have HY1 : Hid ((y : Int) / 4294967296 % 4294967296 = (y1 : Int)) := Lib.hid (by omega)
      have HYv : Hid (Sh.val [y0, y1] = y) := Lib.hid (by simp [Sh.val]; omega)
      have HYs : Hid (Small [y0, y1]) := Lib.hid (fun z hz => by simp at hz; omega)
      have Hy := Lib.hid hy
      have Hylt := Lib.hid hylt'
      clear hy hy0 hy1 hylt hylt'
      go_wp2_with fail
      rw [HW.out, HY0.out, HY1.out]
      have HN := Lib.hid (new_two_u wr y0 y1)
      have hb1 : Below w.heap.size w (wr.alloc (.cells #[.int .u32 (y0 : Int), .int .u32 (y1 : Int)] 48)) := hbel.alloc hz _
      generalize wr.alloc (.cells #[.int .u32 (y0 : Int), .int .u32 (y1 : Int)] 48) = w1 at *
      generalize wr.heap.size = g1 at *
      clear hbel hz HW HY0 HY1
      obtain ⟨wo, rfl⟩ : ∃ wo : World, wo = w1 := ⟨_, rfl⟩
      go_loopw [9, 10] (fun t9 t10 wr => ∃ (i ga ca : Nat) (la : List Nat), 1 ≤ i ∧ i ≤ n ∧ t10 = .int .i64 i ∧ t9 = .slice (some ⟨ga, 0, none⟩) la.length ca ∧ Hid (la.length = 2 * i) ∧
          Hid (OwnU 0 la (.slice (some ⟨ga, 0, none⟩) la.length ca) wr) ∧ Hid (Small la ∧ Sh.val la = y ^ i) ∧ Hid (OwnU 0 [y0, y1] (.slice (some ⟨g1, 0, none⟩) 2 2) wr) ∧ Below w.heap.size w wr) (fun _ t10 _ => (n - intOf t10).toNat)
      case atStart => exact ⟨1, g1, 2, [y0, y1], by omega, by omega, rfl, rfl, Lib.hid rfl, HN, Lib.hid ⟨HYs.out, by rw [HYv.out]; simp⟩, HN, hb1⟩
      case round =>
        obtain ⟨i, ga, ca, la, hi1, hi2, rfl, rfl, hlen, HA, HV, HB, hbel⟩ := hrel
        by_cases hin : i < n
        · have HM := Lib.hid (mul_two la y0 y1 y ga g1 ca wr HA.out HB.out HV.out.1 HYs.out HYv.out (by have := hlen.out; omega))
          go_wp2_with fail
          refine (HM.out).mono ?_
          rintro e w2 ⟨o, rfl, q1, q2, q3, q4, q5⟩
          have HA2 : Hid (OwnU 0 o (.slice (some ⟨wr.heap.size, 0, none⟩) o.length o.length) w2) := Lib.hid (ownU_zero q1)
          have HB2 := Lib.hid (ownU_below HB.out q5)
          have hb2 := hbel.trans (q5.mono hbel.size)
          have hl2 : Hid (o.length = 2 * (i + 1)) := by rw [q2, hlen.out]; exact Lib.hid (by omega)
          have HV2 : Hid (Small o ∧ Sh.val o = y ^ (i + 1)) := Lib.hid ⟨q3, by rw [q4, HV.out.2, Nat.pow_succ]⟩
          generalize wr.heap.size = g2 at *
          clear HM HA HB HV hbel q1 q2 q3 q4 q5
          go_wp2
          go_roundw
          case rel => exact ⟨i + 1, g2, o.length, o, by omega, by omega, by go_num, rfl, hl2, HA2, HV2, HB2, hb2⟩
          case measure => simp [intOf]; omega
        · have hni : i = n := by omega
          subst hni
          have HAb := Lib.hid (fun wx (h : OwnU 0 la (.slice (some ⟨ga, 0, none⟩) la.length ca) wx) => above_any la ga ca p i wx h HV.out.1 HP.out (by have := hlen.out; omega) (by have := hlen.out; omega))
          by_cases hab : abv p i la = true
          · have Hc : Hid (Calls Tryd.prog 42 #[.slice (some ⟨ga, 0, none⟩) la.length ca, .int .u32 p, .int .i64 i] wr fun e w' => e = .returned (.bool true) ∧ wr = w') := by
              have h := HAb.out wr HA.out
              rw [hab] at h
              exact Lib.hid h
            have HX2 : Hid (x + 2 ^ m ≤ 2 ^ 37 ∧ Sh.rt p i m x = Sh.rt p i 37 0) := by
              obtain ⟨f1, f2⟩ := HX.out
              rw [rt_step] at f2
              unfold abv at hab
              rw [decide_eq_true_iff, HV.out.2, ← Hy.out] at hab
              rw [if_pos hab] at f2
              refine Lib.hid ⟨?_, f2⟩
              rw [Nat.pow_succ] at f1; omega
            clear hab HAb
            go_wp2_with fail
            refine (Hc.out).mono ?_; rintro e w2 ⟨rfl, rfl⟩
            go_wp2
            go_roundw
            case rel => exact ⟨m, x, rfl, rfl, by omega, HX2, hbel⟩
            case measure => simp [intOf]
          · have hab' : abv p i la = false := by simpa using hab
            have Hc : Hid (Calls Tryd.prog 42 #[.slice (some ⟨ga, 0, none⟩) la.length ca, .int .u32 p, .int .i64 i] wr fun e w' => e = .returned (.bool false) ∧ wr = w') := by
              have h := HAb.out wr HA.out
              rw [hab'] at h
              exact Lib.hid h
            have HX2 : Hid (y + 2 ^ m ≤ 2 ^ 37 ∧ Sh.rt p i m y = Sh.rt p i 37 0) := by
              obtain ⟨f1, f2⟩ := HX.out
              rw [rt_step] at f2
              unfold abv at hab'
              rw [decide_eq_false_iff_not, HV.out.2, ← Hy.out] at hab'
              rw [if_neg hab', Hy.out] at f2
              refine Lib.hid ⟨?_, f2⟩
              have h3 := Hy.out
              rw [Nat.pow_succ] at f1; omega
            clear hab hab' HAb
            go_wp2_with fail
            refine (Hc.out).mono ?_; rintro e w2 ⟨rfl, rfl⟩
            go_wp2
            go_roundw
            case rel => exact ⟨m, y, rfl, rfl, by omega, HX2, hbel⟩
            case measure => simp [intOf]
    · have hb0 : b = 0 := by omega
      subst hb0
      have HF : Hid (((x : Int) % 4294967296) = (r : Int)) := by
        have h1 := HX.out.2
        have h2 := HR.out
        unfold Sh.root at h2
        rw [← h1] at h2
        simp only [Sh.rt] at h2
        exact Lib.hid (by omega)
      have hx0 : (0 : Int) ≤ (x : Int) := by omega
      go_wp2
      go_ret
      exact ⟨ret_u32' HF.out, hbel⟩
end Go.Proofs.YtkomfgoloepekaaDoor.Rf
