/- The document's Same: two rows of places. -/
import Derived.Test.YtfnofolahhoggaaUI
import Derived.BigQuiet
set_option linter.unusedVariables false
set_option linter.unusedSimpArgs false
namespace Go.Proofs.Ytfnofolahhoggaa
open Go Go.RowKit Go.Maps Oj Rv

set_option maxHeartbeats 8000000 in
set_option maxRecDepth 100000 in
/-- Of two rows that read alike it says yes. -/
theorem dSame_any (ps : List (Nat × Nat)) (v v2 : Value) (hl : ps.length ≤ 1048576) (w : World) (hA : PlsAt w v ps) (hA2 : PlsAt w v2 ps) : Calls Try.prog 18 #[v, v2] w fun e w' => e = .returned (.bool true) ∧ Below w.heap.size w w' := by
  obtain ⟨a, c, rfl, h1⟩ := hA
  obtain ⟨a2, c2, rfl, h2⟩ := hA2
  obtain ⟨n, hn⟩ : ∃ n, n = ps.length := ⟨_, rfl⟩
  have hni : (n : Int) ≤ 1048576 := by omega
  rw [← hn] at h1 h2 ⊢
  have H1 := Lib.hid h1
  have H2 := Lib.hid h2
  have HB0 := Lib.hid (Below.refl w.heap.size w)
  clear hn h1 h2 hl
  go_enter Try.func18, Try.ntmps18
  go_wp2_with fail
  go_loopw [5] (fun i wr => ∃ k : Nat, (k : Int) ≤ n ∧ i = .int .i64 k ∧ Hid (Below w.heap.size w wr)) (fun i _ => n - (intOf i).toNat)
  case atStart => exact ⟨0, by omega, rfl, HB0⟩
  case round =>
    clear HB0
    obtain ⟨k, hk, rfl, HB⟩ := hrel
    by_cases hlt : k < n
    · have hd : decide (k < n) = true := decide_eq_true hlt
      obtain ⟨b, o, rfl, hbl, hc⟩ := H1.out (by omega)
      obtain ⟨b2, o2, rfl, hbl2, hc2⟩ := H2.out (by omega)
      have hx := (hc k hlt).below HB.out hbl
      have hx2 := (hc2 k hlt).below HB.out hbl2
      obtain ⟨X, hX⟩ : ∃ X : Int, X = ((ps.getD k (0, 0)).1 : Int) := ⟨_, rfl⟩
      obtain ⟨Y, hY⟩ : ∃ Y : Int, Y = ((ps.getD k (0, 0)).2 : Int) := ⟨_, rfl⟩
      unfold plCells at hx hx2
      rw [← hX, ← hY] at hx hx2
      have c0 := hx 0 _ rfl
      have c1 := hx 1 _ rfl
      have d0 := hx2 0 _ rfl
      have d1 := hx2 1 _ rfl
      rw [Nat.add_zero] at c0 d0
      have hbr : b < wr.heap.size := Nat.lt_of_lt_of_le hbl HB.out.size
      have hbr2 : b2 < wr.heap.size := Nat.lt_of_lt_of_le hbl2 HB.out.size
      clear hc hc2 hx hx2 hX hY
      go_upto_region 6 with (fail)
      go_quiet (fail)
      refine ex_named ?_; intro w5 hw5
      have HB5 : Hid (Below w.heap.size w w5) := Lib.hid (by rw [hw5]; exact below_call HB.out (below_drewN _ _))
      clear hw5 c0 c1 d0 d1
      go_wp2_with fail
      go_roundw
      case rel => exact ⟨k + 1, by omega, by go_num, HB5⟩
      case measure => simp [intOf]; omega
    · obtain rfl : k = n := by omega
      have hd : decide (k < k) = false := decide_eq_false (by omega)
      clear hlt
      go_wp2_with fail
      go_ret
      exact ⟨rfl, HB.out⟩
end Go.Proofs.Ytfnofolahhoggaa
