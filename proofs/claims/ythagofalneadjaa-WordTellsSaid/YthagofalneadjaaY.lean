/- WordTells answers true for every number, every count, and every two texts: package word and the document make the same bytes, numbers and digits of them. No condition. -/
import Derived.Test.YthagofalneadjaaRows
import Derived.Test.YthagofalneadjaaK
import Derived.Test.YthagofalneadjaaL
import Derived.Test.YthagofalneadjaaX
import Derived.ProofKit
import Derived.OpenShut
import Derived.ShutString
import Derived.SizedLaws
set_option linter.unusedVariables false
namespace Go.Proofs.Ythagofalneadjaa
open Go.ChangeShapes Go.WideShapes Go.ChangeAt Go.RowKit
open Go.ChangeMaps (open_string shut_string)

set_option maxHeartbeats 8000000 in
set_option maxRecDepth 100000 in
theorem tells_short (x n : Int) (s d : ByteArray) (h0 : 0 ≤ x) (h32 : x < 4294967296) (hsz : s.size + d.size ≤ 4096) (w : World) :
    Calls Try.prog 4 #[.int .u32 x, .int .i64 n, .string s, .string d] w fun e w' => e = .returned (.bool true) ∧ Below w.heap.size w w' := by
  have hb := Below.refl w.heap.size w
  have H1 := Lib.hid (fun w => put_any x n h0 h32 w)
  have H2 := Lib.hid (fun w => rput_any x n h0 h32 w)
  have H3 := Lib.hid (fun w => puth_any x n h0 h32 w)
  have H4 := Lib.hid (fun w => rputh_any x n h0 h32 w)
  have H5 := Lib.hid (fun w => get_any s (by omega) w)
  have H6 := Lib.hid (fun w => rget_any s w)
  have H7 := Lib.hid (fun w => geth_any s (by omega) w)
  have H8 := Lib.hid (fun w => rgeth_any s w)
  have H9 := Lib.hid (fun w => unhex_any d (by omega) w)
  have H10 := Lib.hid (fun w => runhex_any d (by omega) w)
  have H11 := Lib.hid (fun w => hex_call s (by omega) w)
  have H12 := Lib.hid (fun w => rhex_any s (by omega) w)
  have hsz' : (s.size : Int) + (d.size : Int) ≤ 4096 := by omega
  generalize putS x n = a1 at *
  generalize putE x n = a2 at *
  generalize putHS x n = a3 at *
  generalize putHE x n = a4 at *
  generalize getV s = a5 at *
  generalize getE s = a6 at *
  generalize getHV s = a7 at *
  generalize getHE s = a8 at *
  generalize unhexS d = a9 at *
  generalize unhexE d = a10 at *
  generalize hexS s = a11 at *
  clear hsz h0 h32
  go_enter Try.func4, Try.ntmps4
  go_wp2_with fail
  refine (H1.out _).mono ?_; rintro e w1 ⟨rfl, q⟩
  replace hb := hb.trans (q.mono hb.size); clear q
  go_wp2_with fail
  refine (H2.out _).mono ?_; rintro e w2 ⟨rfl, q⟩
  replace hb := hb.trans (q.mono hb.size); clear q
  go_wp2_with fail
  refine (H3.out _).mono ?_; rintro e w3 ⟨rfl, q⟩
  replace hb := hb.trans (q.mono hb.size); clear q
  go_wp2_with fail
  refine (H4.out _).mono ?_; rintro e w4 ⟨rfl, q⟩
  replace hb := hb.trans (q.mono hb.size); clear q
  go_wp2_with fail
  refine (H5.out _).mono ?_; rintro e w5 ⟨rfl, rfl⟩
  go_wp2_with fail
  refine (H6.out _).mono ?_; rintro e w6 ⟨rfl, rfl⟩
  go_wp2_with fail
  refine (H7.out _).mono ?_; rintro e w7 ⟨rfl, q⟩
  replace hb := hb.trans (q.mono hb.size); clear q
  go_wp2_with fail
  refine (H8.out _).mono ?_; rintro e w8 ⟨rfl, q⟩
  replace hb := hb.trans (q.mono hb.size); clear q
  go_wp2_with fail
  refine (H9.out _).mono ?_; rintro e w9 ⟨rfl, q⟩
  replace hb := hb.trans (q.mono hb.size); clear q
  go_wp2_with fail
  refine (H10.out _).mono ?_; rintro e w10 ⟨rfl, q⟩
  replace hb := hb.trans (q.mono hb.size); clear q
  go_wp2_with fail
  refine (H11.out _).mono ?_; rintro e w11 ⟨rfl, q⟩
  replace hb := hb.trans (q.mono hb.size); clear q
  go_wp2_with fail
  refine (H12.out _).mono ?_; rintro e w12 ⟨rfl, q⟩
  replace hb := hb.trans (q.mono hb.size); clear q
  go_wp2_with fail
  refine (alive_any _).mono ?_; rintro e w13 ⟨rfl, q⟩
  replace hb := hb.trans (q.mono hb.size); clear q
  go_wp2
  go_ret
  exact ⟨rfl, hb⟩

set_option maxHeartbeats 1000000 in
theorem tells_long (x n : Int) (s d : ByteArray) (hs : s.size ≤ 140737488351232) (hd : d.size ≤ 140737488351232) (hsz : 4096 < s.size + d.size) (w : World) :
    Calls Try.prog 4 #[.int .u32 x, .int .i64 n, .string s, .string d] w fun e w' => e = .returned (.bool true) ∧ Below w.heap.size w w' := by
  have hsz' : (4096 : Int) < (s.size : Int) + (d.size : Int) := by omega
  clear hsz
  go_enter Try.func4, Try.ntmps4
  go_wp2_with fail
  refine (alive_any _).mono ?_; rintro e v1 ⟨rfl, hb⟩
  go_wp2
  go_ret
  exact ⟨rfl, hb⟩

theorem tells_walk (a0 a1 : Int) (a2 a3 : ByteArray) (w0 : (Lit.int .u32 a0).wf = true) (w2 : a2.size ≤ 140737488351232) (w3 : a3.size ≤ 140737488351232) (w : World) :
    Calls Try.prog 4 #[.int .u32 a0, .int .i64 a1, .string a2, .string a3] w fun e w' => e = .returned (.bool true) ∧ Below w.heap.size w w' := by
  have b0 := bounds_u32 w0
  by_cases h : a2.size + a3.size ≤ 4096
  · exact tells_short a0 a1 a2 a3 (by omega) (by omega) h w
  · exact tells_long a0 a1 a2 a3 w2 w3 (by omega) w

set_option maxRecDepth 100000 in
theorem tells_lifted (os : Os) (started : os.Started) (H : Type) (enc : TypeId × Value → H) :
    ReturnsInHanded {} Try.checked os 4 .any (Rows.wordTellsSpec.pre6 enc Try.prog Try.f4 Rows.wordTellsRow.domain false) (Rows.wordTellsSpec.post enc Try.prog Try.f4 false true false false) := by
  refine returnsInHanded_of_change_sized (C := Try.checked) own started (by kernel_rfl) Try.func4
    (ChangeSpec.witness6 (enc := enc) (C := Try.checked) false ⟨#[], #[.int .u32 0, .int .i64 0, .string ByteArray.empty, .string ByteArray.empty], []⟩ 8 (by kernel_rfl) (by kernel_rfl) (by kernel_rfl) (by kernel_rfl)) ?_
  intro W base args ds gs before hval0 hW hcnd hsz0 _
  have hval : ∀ (j : Nat) t v, Try.f4.params[j]? = some t → args[j]? = some v → Value.okWide Try.prog W .any base t v := hval0
  have hsz : (DataW.weightsEach Try.prog (Try.f4.params.toList ++ Rows.wordTellsSpec.plain.varTypes Try.prog) (ds ++ gs)).all (· ≤ reachBytes) = true := hsz0
  have hW' := hW
  obtain ⟨p, q, hA0, hV, rfl, hfz, hnd⟩ := hW
  have hA : DataW.TrodAll enc Try.prog W 0 (fun _ => true) true Try.f4.params.toList args.toList ds p := hA0
  rw [Try.params4] at hA hval hsz
  obtain ⟨v0, vs0, d0, ds0, p0, q0, hargs, rfl, rfl, h0, r0⟩ := trodAll_cons hA
  obtain ⟨v1, vs1, d1, ds1, p1, q1, rfl, rfl, rfl, h1, r1⟩ := trodAll_cons r0
  obtain ⟨v2, vs2, d2, ds2, p2, q2, rfl, rfl, rfl, h2, r2⟩ := trodAll_cons r1
  obtain ⟨v3, vs3, d3, ds3, p3, q3, rfl, rfl, rfl, h3, r3⟩ := trodAll_cons r2
  obtain ⟨rfl, rfl, rfl⟩ := trodAll_nil r3
  obtain rfl : args = #[v0, v1, v2, v3] := by cases args; simp_all
  obtain ⟨rfl, rfl⟩ := trodVars_none hV
  obtain ⟨a0, rfl, rfl, rfl, w0⟩ := open_int Try.underlying22 (hval 0 22 v0 rfl rfl) h0
  obtain ⟨a1, rfl, rfl, rfl, w1⟩ := open_int Try.underlying3 (hval 1 3 v1 rfl rfl) h1
  obtain ⟨a2, rfl, rfl, rfl, w2⟩ := open_string Try.underlying9 (hval 2 9 v2 rfl rfl) h2
  obtain ⟨a3, rfl, rfl, rfl, w3⟩ := open_string Try.underlying9 (hval 3 9 v3 rfl rfl) h3
  have z2 : a2.data.toList.length ≤ reachBytes := sized_string hsz (j := 2) (t := 9) rfl rfl
  have z3 : a3.data.toList.length ≤ reachBytes := sized_string hsz (j := 3) (t := 9) rfl rfl
  clear hA0 hval0
  simp only [List.append_nil] at hW'
  refine (tells_walk a0 a1 a2 a3 w0 z2 z3 W).mono fun e W' ⟨he, hb⟩ => ?_
  subst he
  exact ⟨_, rfl, law_post hW' rfl rfl rfl Try.underlying4 (fun sp => (trodAll_cons_mk (shut_int Try.underlying22 w0) (trodAll_cons_mk (shut_int Try.underlying3 w1) (trodAll_cons_mk (shut_string Try.underlying9 w2) (trodAll_cons_mk (shut_string Try.underlying9 w3) trodAll_mk0))))) hb⟩

theorem wordTells_holds : Rows.WordTellsSaid :=
  OpenClaim.holds_of_wide 4 Try.f4 rfl rfl rfl rfl rfl rfl rfl ⟨rfl, rfl, rfl, rfl, rfl⟩ rfl rfl rfl rfl rfl (by kernel_rfl) Try.func4 (by kernel_rfl)
    (of_decide_eq_true (by kernel_rfl)) (by unfold Func.isWrapper; first | (rw [if_pos (by decide +kernel)]; kernel_rfl) | (rw [if_neg (by decide +kernel)]; exact ⟨rfl, rfl⟩))
    (fun os started H enc _ => tells_lifted os started H enc)

#print axioms wordTells_holds
end Go.Proofs.Ythagofalneadjaa
