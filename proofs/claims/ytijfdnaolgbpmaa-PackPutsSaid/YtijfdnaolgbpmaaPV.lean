/- PackBack, given what the program's package pack is held to: the arms that only ask whether the chapter's examples hold. -/
import Derived.Test.YtijfdnaolgbpmaaPT
import Derived.Deep.DeepCutAuto
set_option linter.unusedVariables false
namespace Go.Proofs.Ytijfdnaolgbpmaa
open Go Go.RowKit Pk

section
variable {Rep : List Value → Rd → Prop}
set_option maxHeartbeats 4000000 in
set_option maxRecDepth 100000 in
theorem back_large (h : PackOK Rep) (x : Int) (s more b : ByteArray) (v : Value) (L : List (List UInt8)) (w : World) (hl : SlArg w v L) (hR : ∀ j, j < L.length → (L.getD j []).length ≤ 140737488355328) (hL : L.length ≤ 140737488355328)
    (hb : largeB L = true) : Calls Try.prog 5 #[.int .u32 x, .string s, v, .string more, .string b] w fun e w' => e = .returned (.bool true) ∧ Below w.heap.size w w' := by
  have HLa := Lib.hid (large_any v L w hl.slAt hR hL)
  rw [hb] at HLa
  have HA := Lib.hid (palive_any h w)
  clear hb hl hR hL h
  go_enter Try.func5, Try.ntmps5
  go_wp2_with fail
  refine HLa.out.mono ?_; rintro e w1 ⟨rfl, hw⟩
  obtain rfl : w = w1 := hw.symm
  clear hw
  go_wp2_with fail
  refine HA.out.mono ?_; rintro e w2 ⟨rfl, q2⟩
  have HQ := Lib.hid q2
  clear q2
  go_wp2
  go_ret
  exact ⟨rfl, HQ.out⟩
set_option maxHeartbeats 4000000 in
set_option maxRecDepth 100000 in
theorem back_long (h : PackOK Rep) (x : Int) (s more b : ByteArray) (v : Value) (L : List (List UInt8)) (w : World) (hl : SlArg w v L) (hR : ∀ j, j < L.length → (L.getD j []).length ≤ 140737488355328) (hL : L.length ≤ 140737488355328)
    (hb : largeB L = false) (h1 : s.size ≤ 281474976710656) (h2 : more.size ≤ 281474976710656) (h3 : b.size ≤ 281474976710656) (hs : 65536 < s.size + more.size + b.size) : Calls Try.prog 5 #[.int .u32 x, .string s, v, .string more, .string b] w fun e w' => e = .returned (.bool true) ∧ Below w.heap.size w w' := by
  have HLa := Lib.hid (large_any v L w hl.slAt hR hL)
  rw [hb] at HLa
  have HA := Lib.hid (palive_any h w)
  have e1 : IntKind.i64.wrap ((s.size : Int) + (more.size : Int)) = (s.size : Int) + (more.size : Int) := by rw [IntKind.wrap_i64]; omega
  have e2 : IntKind.i64.wrap ((s.size : Int) + (more.size : Int) + (b.size : Int)) = (s.size : Int) + (more.size : Int) + (b.size : Int) := by rw [IntKind.wrap_i64]; omega
  have e3 : (65536 : Int) < (s.size : Int) + (more.size : Int) + (b.size : Int) := by omega
  clear hb hl hR hL h h1 h2 h3 hs
  go_enter Try.func5, Try.ntmps5
  go_wp2_with fail
  refine HLa.out.mono ?_; rintro e w1 ⟨rfl, hw⟩
  obtain rfl : w = w1 := hw.symm
  clear hw
  go_wp2_with fail
  refine HA.out.mono ?_; rintro e w2 ⟨rfl, q2⟩
  have HQ := Lib.hid q2
  clear q2
  go_wp2
  go_ret
  exact ⟨rfl, HQ.out⟩
end
end Go.Proofs.Ytijfdnaolgbpmaa
