/- The program's Check. -/
import Derived.Test.YtfnofolahhoggaaNG
set_option linter.unusedVariables false
set_option linter.unusedSimpArgs false
namespace Go.Proofs.Ytfnofolahhoggaa
open Go Go.RowKit Oj

/-! the package's own functions -/
def okI (b : Bool) : Int := if b = true then 0 else 2
set_option maxHeartbeats 1000000 in
theorem unless_any (b : Bool) (w : World) : Calls Try.prog 42 #[.bool b] w fun e w' => e = .returned (.int .i64 (okI b)) ∧ w = w' := by
  cases b
  · go_enter Try.func42, Try.ntmps42
    go_wp2
    go_ret
    exact ⟨rfl, rfl⟩
  · go_enter Try.func42, Try.ntmps42
    go_wp2
    go_ret
    exact ⟨rfl, rfl⟩
set_option maxHeartbeats 2000000 in
set_option maxRecDepth 100000 in
theorem ocheck_any (v : Value) (x : Ob) (hf : obFits x) (w : World) (hA : ObAt w v x) : Calls Try.prog 37 #[v] w fun e w' => e = .returned (.int .i64 (okI (obOk x))) ∧ Below w.heap.size w w' := by
  have HI := Lib.hid (fun W (hq : Below w.heap.size w W) => isobject_any v x hf W (hA.below hq))
  obtain ⟨vs, rfl, a, c, hS⟩ : ∃ vs, v = .agg #[.string (tx x.name), vs] ∧ ∃ a c, vs = .slice a x.syms.length c := by
    obtain ⟨vs, rfl, R, N, ⟨a, c, rfl, _⟩, _⟩ := hA
    exact ⟨_, rfl, a, c, rfl⟩
  subst hS
  obtain ⟨b, hb⟩ : ∃ b, b = obOk x := ⟨_, rfl⟩
  obtain ⟨M, hM⟩ : ∃ M, M = tx x.name := ⟨_, rfl⟩
  obtain ⟨n, hn⟩ : ∃ n, n = x.syms.length := ⟨_, rfl⟩
  rw [← hb, ← hM, ← hn] at HI
  rw [← hb, ← hM, ← hn]
  clear hb hM hn hA hf
  have HB0 := Lib.hid (below_new1 w (.cells #[.string M, .slice a n c] 43))
  go_enter Try.func37, Try.ntmps37
  go_wp2_with fail
  refine (HI.out _ HB0.out).mono ?_; rintro e w1 ⟨rfl, q1⟩
  have HB1 := Lib.hid (below_call HB0.out q1)
  clear q1
  go_wp2_with fail
  refine (unless_any _ _).mono ?_; rintro e w2 ⟨rfl, rfl⟩
  go_wp2_with fail
  go_ret
  exact ⟨rfl, HB1.out⟩
end Go.Proofs.Ytfnofolahhoggaa
