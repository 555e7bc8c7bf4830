/- ObjNames, walked. -/
import Derived.Test.YtiadggeheiadiaaLW
import Derived.Test.YtiadggeheiadiaaLG
import Derived.Test.YtiadggeheiadiaaRN
set_option linter.unusedVariables false
set_option linter.unusedSimpArgs false
namespace Go.Proofs.Ytiadggeheiadiaa
open Go Go.RowKit Oj

set_option maxHeartbeats 4000000 in
set_option maxRecDepth 100000 in
theorem objnames_any (v : Value) (l : List Ob) (hf : obsFit l) (w : World) (hA : ObsAt w v l) : Calls Try.prog 4 #[v] w fun e w' => e = .returned (.bool true) ∧ Below w.heap.size w w' := by
  have HLa := Lib.hid (large_any v l hf w hA)
  have HAl := Lib.hid (fun W => oalive_any W)
  have HO := Lib.hid (fun W (hq : Below w.heap.size w W) (h20 : l.length ≤ 20) => onames_any v l hf h20 W (hA.below hq))
  have HR := Lib.hid (fun W (hq : Below w.heap.size w W) (h20 : l.length ≤ 20) => rnames_any v l hf h20 W (hA.below hq))
  obtain ⟨a, c, rfl, _⟩ := hA.get
  have HS := Lib.hid (fun (v1 v2 : Value) W (h1 : SlAt W v1 (putAll (namesL l))) (h2 : SlAt W v2 (putAll (namesL l))) (h20 : l.length ≤ 20) => rsame_any v1 v2 _ _ W h1 h2 (by have := putAll_le (namesL l); have := namesL_length l; omega))
  clear hA hf
  go_enter Try.func4, Try.ntmps4
  go_wp2_with fail
  refine HLa.out.mono ?_; rintro e w1 ⟨b, rfl, h20, q1⟩
  have Q1 := Lib.hid q1
  have H20 := Lib.hid h20
  clear q1 h20
  cases b
  · go_wp2_with fail
    refine (HO.out _ Q1.out (H20.out (by trivial))).mono ?_; rintro e w2 ⟨v2, rfl, h2, q2⟩
    have Q2 := Lib.hid (below_call Q1.out q2)
    have S2 := Lib.hid h2.slAt
    clear q2 h2
    go_wp2_with fail
    refine (HR.out _ Q2.out (H20.out (by trivial))).mono ?_; rintro e w3 ⟨v3, rfl, h3, q3⟩
    have Q3 := Lib.hid (below_call Q2.out q3)
    have S3 := Lib.hid (And.intro (S2.out.below q3) h3.slAt)
    clear q3 h3
    go_wp2_with fail
    refine (HS.out _ _ _ S3.out.1 S3.out.2 (H20.out (by trivial))).mono ?_; rintro e w4 ⟨rfl, n, rfl⟩
    have Q4 := Lib.hid (below_drew Q3.out n)
    have hd : decide (putAll (namesL l) = putAll (namesL l)) = true := decide_eq_true rfl
    go_wp2_with fail
    refine (HAl.out _).mono ?_; rintro e w5 ⟨rfl, q5⟩
    have Q5 := Lib.hid (below_call Q4.out q5)
    clear q5
    go_wp2_with fail
    go_ret
    exact ⟨rfl, Q5.out⟩
  · go_wp2_with fail
    refine (HAl.out _).mono ?_; rintro e w2 ⟨rfl, q2⟩
    have Q2 := Lib.hid (below_call Q1.out q2)
    clear q2
    go_wp2_with fail
    go_ret
    exact ⟨rfl, Q2.out⟩
end Go.Proofs.Ytiadggeheiadiaa
