/- The program's small functions of lines: refers, offset, mayName. -/
import Derived.Test.YtlnnhgmkibjgmaaDoorX17
import Derived.Test.YtlnnhgmkibjgmaaDoorX21
import Derived.Laws.ResultCell
set_option linter.unusedVariables false
set_option linter.unusedSimpArgs false
namespace Go.Proofs.YtlnnhgmkibjgmaaDoor
open Go Go.RowKit Oj Al

theorem arefers_any (x : Ln) (w : World) : Calls Tryd.prog 55 #[lnV x] w fun e w' => e = .returned (.bool (adr x)) ∧ Below w.heap.size w w' := by
  obtain ⟨lb, op, d, a, b, im, dst, nm⟩ := x
  unfold lnV
  simp only
  have h1 := empty_eq (tx dst)
  have h2 := empty_eq (tx nm)
  rw [by_tx] at h1 h2
  obtain ⟨A0, hA⟩ : ∃ A0, A0 = adr ⟨lb, op, d, a, b, im, dst, nm⟩ := ⟨_, rfl⟩
  rw [← hA]
  have HA : A0 = (decide (dst ≠ []) || decide (nm ≠ [])) := hA
  obtain ⟨L, hL⟩ : ∃ L, L = tx lb := ⟨_, rfl⟩
  obtain ⟨T, hT⟩ : ∃ L, L = tx dst := ⟨_, rfl⟩
  obtain ⟨N, hN⟩ : ∃ L, L = tx nm := ⟨_, rfl⟩
  rw [← hL, ← hT, ← hN]
  rw [← hT] at h1
  rw [← hN] at h2
  have HB0 := Lib.hid (below_new1 w (.cells #[.string L, .int .u8 op, .int .u8 d, .int .u8 a, .int .u8 b, .int .u32 im, .string T, .string N] 42))
  clear hA hL hT hN
  by_cases hd : dst = []
  · rw [decide_eq_true hd] at h1
    by_cases hm : nm = []
    · rw [decide_eq_true hm] at h2
      obtain rfl : A0 = false := by rw [HA, hd, hm]; rfl
      clear hd hm HA
      go_enter Tryd.func55, Tryd.ntmps55
      go_wp2_with fail
      go_ret
      exact ⟨rfl, HB0.out⟩
    · rw [decide_eq_false hm] at h2
      obtain rfl : A0 = true := by rw [HA, hd, decide_eq_true hm]; rfl
      clear hd hm HA
      go_enter Tryd.func55, Tryd.ntmps55
      go_wp2_with fail
      go_ret
      exact ⟨rfl, HB0.out⟩
  · rw [decide_eq_false hd] at h1
    obtain rfl : A0 = true := by rw [HA, decide_eq_true hd]; rfl
    clear hd HA h2
    go_enter Tryd.func55, Tryd.ntmps55
    go_wp2_with fail
    go_ret
    exact ⟨rfl, HB0.out⟩
theorem aoffset_any (i : Nat) (hi : i ≤ 1048576) (w : World) : Calls Tryd.prog 54 #[.int .i64 (i : Int)] w fun e w' => e = .returned (.int .u32 (8 * (i : Int))) ∧ w = w' := by
  obtain ⟨y, hy⟩ : ∃ y : Int, y = (i : Int) := ⟨_, rfl⟩
  rw [← hy]
  have h0 : 0 ≤ y := by omega
  have h1 : y ≤ 1048576 := by omega
  clear hy hi
  go_enter Tryd.func54, Tryd.ntmps54
  go_wp2_with fail
  go_ret
  exact ⟨by congr 2; go_num, rfl⟩
theorem amayname_any (s : ByteArray) (hs : s.size ≤ 140737488355328) (w : World) : Calls Tryd.prog 71 #[.string s] w fun e w' => e = .returned (.bool (nm0 (by' s))) ∧ Below w.heap.size w w' := by
  have hn : obOk ⟨by' s, []⟩ = nameOk (by' s) := by simp [obOk, symsOk, allN]
  have HN := Lib.hid (ocheck_any (.agg #[.string s, .slice none 0 0]) ⟨by' s, []⟩ ⟨hs, Nat.zero_le _, fun j hj => absurd hj (Nat.not_lt_zero j)⟩ w ⟨.slice none 0 0, by rw [tx_by], fun _ => .slice none 0 0, fun _ => .slice none 0 0, ⟨none, 0, rfl, fun h => absurd h (Nat.lt_irrefl 0)⟩, fun j hj => absurd hj (Nat.not_lt_zero j)⟩)
  rw [hn] at HN
  have he := empty_eq s
  obtain ⟨p, hp⟩ : ∃ p, p = nameOk (by' s) := ⟨_, rfl⟩
  obtain ⟨q, hq⟩ : ∃ q, q = nm0 (by' s) := ⟨_, rfl⟩
  have HQ : Hid (q = (decide (by' s = []) || p)) := Lib.hid (by rw [hq, hp]; rfl)
  rw [← hp] at HN
  rw [← hq]
  have hB := Lib.hid (Below.refl w.heap.size w)
  by_cases h0 : by' s = []
  · rw [decide_eq_true h0] at he HQ
    have hqt : q = true := by rw [HQ.out]; rfl
    subst hqt
    clear h0 hp hq hs HQ hn
    go_enter Tryd.func71, Tryd.ntmps71
    go_wp2_with fail
    go_ret
    exact ⟨rfl, hB.out⟩
  · rw [decide_eq_false h0] at he HQ
    have hqt : q = p := by rw [HQ.out]; rfl
    subst hqt
    clear h0 hp hq hs HQ hn
    cases q
    · have hk : okI false = 2 := rfl
      rw [hk] at HN
      clear hk
      go_enter Tryd.func71, Tryd.ntmps71
      go_wp2_with fail
      refine HN.out.mono ?_; rintro e w1 ⟨rfl, q1⟩
      have HQ1 := Lib.hid q1
      clear q1
      go_wp2_with fail
      go_ret
      exact ⟨rfl, HQ1.out⟩
    · have hk : okI true = 0 := rfl
      rw [hk] at HN
      clear hk
      go_enter Tryd.func71, Tryd.ntmps71
      go_wp2_with fail
      refine HN.out.mono ?_; rintro e w1 ⟨rfl, q1⟩
      have HQ1 := Lib.hid q1
      clear q1
      go_wp2_with fail
      go_ret
      exact ⟨rfl, HQ1.out⟩
end Go.Proofs.YtlnnhgmkibjgmaaDoor
