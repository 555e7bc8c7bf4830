/- PackPuts, given what the program's package pack is held to. -/
import Derived.Test.YtijfdnaolgbpmaaPJ
import Derived.Laws.AppendOwnNone
set_option linter.unusedVariables false
namespace Go.Proofs.Ytijfdnaolgbpmaa
open Go Go.RowKit Pk

/-- A slice that came in, and reads as the texts L. -/
def SlArg (w : World) (v : Value) (L : List (List UInt8)) : Prop :=
  (v = .slice none 0 0 ∧ L = []) ∨ ∃ a c, v = .slice (some a) L.length c ∧ (L ≠ [] → ∃ b o, a = ⟨b, o, none⟩ ∧ b < w.heap.size ∧ ∀ j, j < L.length → w.cell? ⟨b, o + j, none⟩ = some (.string (tx (L.getD j []))))
theorem SlArg.slAt {w : World} {v : Value} {L : List (List UInt8)} (h : SlArg w v L) : SlAt w v L := by
  rcases h with ⟨rfl, rfl⟩ | ⟨a, c, rfl, h1⟩
  · exact ⟨none, 0, rfl, fun h => absurd rfl h⟩
  · exact ⟨_, c, rfl, fun hn => by obtain ⟨b, o, rfl, h2, h3⟩ := h1 hn; exact ⟨b, o, rfl, h2, h3⟩⟩
theorem SlArg.below {w w' : World} {v : Value} {L : List (List UInt8)} {B : Nat} (h : SlArg w v L) (hb : Below B w w') (hB : B = w.heap.size) : SlArg w' v L := by
  subst hB
  rcases h with h | ⟨a, c, rfl, h1⟩
  · exact .inl h
  · refine .inr ⟨a, c, rfl, fun hn => ?_⟩
    obtain ⟨b, o, rfl, h2, h3⟩ := h1 hn
    exact ⟨b, o, rfl, Nat.lt_of_lt_of_le h2 hb.size, fun j hj => (hb.cell (p := ⟨b, o + j, none⟩) h2).trans (h3 j hj)⟩
theorem strsV_one (L : List (List UInt8)) : ∀ v ∈ strsV L, v.oneCell' = true := by
  intro v hv; simp only [strsV, List.mem_map] at hv; obtain ⟨x, _, rfl⟩ := hv; rfl
theorem self_eq (s : ByteArray) : (s.toList == s.toList) = true := by simp
theorem self_int (e : Int) : (e == e) = true := by simp

section
variable {Rep : List Value → Rd → Prop}
set_option maxHeartbeats 4000000 in
set_option maxRecDepth 100000 in
theorem puts_large (h : PackOK Rep) (x n : Int) (s : ByteArray) (v : Value) (L : List (List UInt8)) (w : World) (hl : SlArg w v L) (hR : ∀ j, j < L.length → (L.getD j []).length ≤ 140737488355328) (hL : L.length ≤ 140737488355328)
    (hb : largeB L = true) : Calls Try.prog 3 #[.int .u32 x, .int .i64 n, .string s, v] w fun e w' => e = .returned (.bool true) ∧ Below w.heap.size w w' := by
  have HLa := Lib.hid (large_any v L w hl.slAt hR hL)
  rw [hb] at HLa
  have HA := Lib.hid (palive_any h w)
  clear hb hl hR hL h
  go_enter Try.func3, Try.ntmps3
  go_wp2_with fail
  refine HLa.out.mono ?_; rintro e w1 ⟨rfl, hw⟩
  obtain rfl : w = w1 := hw.symm
  clear hw
  go_wp2_with fail
  refine HA.out.mono ?_; rintro e w2 ⟨rfl, q2⟩
  have HQ := Lib.hid q2
  clear q2
  go_wp2
  go_ret
  exact ⟨rfl, HQ.out⟩
set_option maxHeartbeats 4000000 in
set_option maxRecDepth 100000 in
theorem puts_long (h : PackOK Rep) (x n : Int) (s : ByteArray) (v : Value) (L : List (List UInt8)) (w : World) (hl : SlArg w v L) (hR : ∀ j, j < L.length → (L.getD j []).length ≤ 140737488355328) (hL : L.length ≤ 140737488355328)
    (hb : largeB L = false) (hs : 131072 < s.size) : Calls Try.prog 3 #[.int .u32 x, .int .i64 n, .string s, v] w fun e w' => e = .returned (.bool true) ∧ Below w.heap.size w w' := by
  have HLa := Lib.hid (large_any v L w hl.slAt hR hL)
  rw [hb] at HLa
  have HA := Lib.hid (palive_any h w)
  have hs' : (131072 : Int) < (s.size : Int) := by omega
  clear hb hl hR hL h hs
  go_enter Try.func3, Try.ntmps3
  go_wp2_with fail
  refine HLa.out.mono ?_; rintro e w1 ⟨rfl, hw⟩
  obtain rfl : w = w1 := hw.symm
  clear hw
  go_wp2_with fail
  refine HA.out.mono ?_; rintro e w2 ⟨rfl, q2⟩
  have HQ := Lib.hid q2
  clear q2
  go_wp2
  go_ret
  exact ⟨rfl, HQ.out⟩

/-- What stands while PackPuts goes on. -/
structure Pu (w0 : World) (v : Value) (L : List (List UInt8)) (w : World) : Prop where
  arg : SlArg w v L
  low : Below w0.heap.size w0 w
  gs : w0.heap.size ≤ w.heap.size
theorem Pu.below {w0 w w' : World} {v : Value} {L : List (List UInt8)} (a : Pu w0 v L w) (hb : Below w.heap.size w w') : Pu w0 v L w' := ⟨a.arg.below hb rfl, a.low.trans (hb.mono a.gs), Nat.le_trans a.gs hb.size⟩
/-- The clone of a list that came in. -/
theorem grown_below {w w' : World} (h : w.grownBy w' none) : Below w.heap.size w w' := ⟨h.os, h.tape, h.output, h.size, fun j hj => h.block j hj (by simp)⟩

set_option maxHeartbeats 8000000 in
set_option maxRecDepth 100000 in
theorem puts_main (h : PackOK Rep) (x n : Int) (hx0 : 0 ≤ x) (hx1 : x < 4294967296) (s : ByteArray) (v : Value) (L : List (List UInt8)) (w : World) (hl : SlArg w v L) (hR : ∀ j, j < L.length → (L.getD j []).length ≤ 140737488355328) (hL : L.length ≤ 140737488355328)
    (hb : largeB L = false) (hs : s.size ≤ 131072) : Calls Try.prog 3 #[.int .u32 x, .int .i64 n, .string s, v] w fun e w' => e = .returned (.bool true) ∧ Below w.heap.size w w' := by
  have HLa := Lib.hid (large_any v L w hl.slAt hR hL)
  rw [hb] at HLa
  obtain ⟨hn1, hn2⟩ := not_large hb
  have hcat := cat_tot L
  have hcl : (cat L).length ≤ 1099511627776 := by omega
  have HA := Lib.hid (fun w1 => palive_any h w1)
  have hs' : (s.size : Int) ≤ 131072 := by omega
  obtain ⟨A, hA⟩ : ∃ A, A = numS x n := ⟨_, rfl⟩
  obtain ⟨E, hE⟩ : ∃ E, E = numE x n := ⟨_, rfl⟩
  obtain ⟨C, hC⟩ : ∃ C, C = txtS s := ⟨_, rfl⟩
  obtain ⟨F, hF⟩ : ∃ F, F = txtE (by' s) := ⟨_, rfl⟩
  obtain ⟨X, hX⟩ : ∃ X, X = lstS L := ⟨_, rfl⟩
  obtain ⟨I, hI⟩ : ∃ I, I = lstE L := ⟨_, rfl⟩
  have H1 := Lib.hid (fun w1 => h.num x n w1 hx0 hx1)
  have H2 := Lib.hid (fun w1 => rnum_any x n hx0 hx1 w1)
  have H3 := Lib.hid (fun w1 => h.text s w1 (by omega))
  have H4 := Lib.hid (fun w1 => rtext_any s (by omega) w1)
  have H5 := Lib.hid (fun u w1 (q : SlAt w1 u L) => h.texts u L w1 q hcl (by omega))
  have H6 := Lib.hid (fun u w1 (q : SlAt w1 u L) => rtexts_any u L w1 q hcl (by omega))
  have H7 := Lib.hid (fun u u2 w1 (q : SlAt w1 u L) (q2 : SlAt w1 u2 L) => rsame_any u u2 L L w1 q q2 (by omega))
  rw [← hA, ← hE] at H1 H2
  rw [← hC, ← hF] at H3 H4
  rw [← hX, ← hI] at H5 H6
  rw [decide_eq_true (show L = L from rfl)] at H7
  have a1 := self_eq A
  have a2 := self_int E
  have a3 := self_eq C
  have a4 := self_int F
  have a5 := self_eq X
  have a6 := self_int I
  have U0 : Hid (Pu w v L w) := Lib.hid ⟨hl, Below.refl _ _, Nat.le_refl _⟩
  have HLen := Lib.hid hn1
  obtain ⟨i0, hi, hz0, hz1, hz2⟩ := info_parts infoStr
  clear hb hR hL h hs hn1 hn2 hcat hcl hA hE hC hF hX hI hx0 hx1
  have HCases := Lib.hid hl
  clear hl
  go_enter Try.func3, Try.ntmps3
  go_wp2_with fail
  refine HLa.out.mono ?_; rintro e w1 ⟨rfl, hw⟩
  obtain rfl : w = w1 := hw.symm
  clear hw
  go_wp2_with fail
  refine (H1.out _).mono ?_; rintro e w2 ⟨rfl, q2⟩
  have U1 := Lib.hid (U0.out.below q2)
  clear q2 U0 H1
  go_wp2_with fail
  refine (H2.out _).mono ?_; rintro e w3 ⟨rfl, q3⟩
  have U2 := Lib.hid (U1.out.below q3)
  clear q3 U1 H2
  go_wp2_with fail
  refine (H3.out _).mono ?_; rintro e w4 ⟨rfl, q4⟩
  have U3 := Lib.hid (U2.out.below q4)
  clear q4 U2 H3
  go_wp2_with fail
  refine (H4.out _).mono ?_; rintro e w5 ⟨rfl, q5⟩
  have U4 := Lib.hid (U3.out.below q5)
  clear q5 U3 H4
  rcases U4.out.arg with ⟨rfl, rfl⟩ | ⟨a, c, rfl, hcl⟩
  · have T : Hid (Pu w (.slice none 0 0) [] w5 ∧ SlAt w5 (.slice none 0 0) []) := Lib.hid ⟨U4.out, U4.out.arg.slAt⟩
    clear U4
    go_wp2_with fail
    refine (H5.out _ _ T.out.2).mono ?_; rintro e w7 ⟨rfl, q7⟩
    have T7 := Lib.hid (And.intro (T.out.1.below q7) (T.out.2.below q7))
    clear q7 T H5
    go_wp2_with fail
    refine (H6.out _ _ T7.out.1.arg.slAt).mono ?_; rintro e w8 ⟨rfl, q8⟩
    have T8 := Lib.hid (And.intro (T7.out.1.below q8) (T7.out.2.below q8))
    clear q8 T7 H6
    go_wp2_with fail
    refine (H7.out _ _ _ T8.out.2 T8.out.1.arg.slAt).mono ?_; rintro e w9 ⟨rfl, m9, e9⟩
    have T9 : Hid (Pu w (.slice none 0 0) [] w9) := Lib.hid (by rw [e9]; exact T8.out.1.below (below_drewN _ _))
    clear e9 T8 H7
    go_wp2_with fail
    refine (HA.out _).mono ?_; rintro e w10 ⟨rfl, q10⟩
    have HF := Lib.hid (T9.out.below q10).low
    clear q10 T9
    go_wp2
    go_ret
    exact ⟨rfl, HF.out⟩
  · obtain ⟨m, hm⟩ : ∃ m, m = L.length := ⟨_, rfl⟩
    have HM := Lib.hid hm
    have hmi : (m : Int) ≤ 4200 := by have := HLen.out; omega
    have hnews : ∀ j u, (strsV L)[j]? = some u → w5.cell? (a.add j) = some u := fun j u hu => by
      have hj : j < L.length := by
        have := (List.getElem?_eq_some_iff.1 hu).1
        rwa [strsV_length] at this
      obtain ⟨b, o, rfl, _, hc2⟩ := hcl (by rintro rfl; simp at hj)
      rw [Addr.add_mid, hc2 j hj, ← hu]
      simp [strsV, hj]
    have a7 : (strsV L).length = m * 1 := by rw [strsV_length, HM.out, Nat.mul_one]
    have a8 : 0 + m ≤ maxLen := by unfold maxLen; omega
    have a9 : (0 + m) * 16 ≤ 140737488355328 := by omega
    have A7 := Lib.hid a7
    have A8 := Lib.hid a8
    have A9 := Lib.hid a9
    have AN := Lib.hid hnews
    rw [← hm]
    clear a7 a8 a9 hnews hcl hm
    go_wp2_with (at_builtin; refine wpList_append_own _ rfl _ _ 23 rfl w5.heap.size 9 i0 (.string ⟨#[]⟩) 1 16 Try.underlying23 hi hz0 hz1 hz2 rfl (by decide) _ 0 [] rfl (World.ownsRow_nil _ _ _ _) a m _ (strsV L) rfl A7.out AN.out (strsV_one _) A8.out A9.out (Nat.le_refl _) ?_; intro v' w6 hown hgrow _)
    have T : Hid (Pu w (.slice (some a) m c) L w6 ∧ SlAt w6 v' L) := Lib.hid ⟨by rw [HM.out]; exact U4.out.below (grown_below hgrow), by
      refine OwnL.slAt (B := w5.heap.size) ?_
      unfold OwnL
      rw [← HM.out]
      have := hown
      rw [Nat.zero_add, List.nil_append] at this
      exact this⟩
    clear hown hgrow U4
    go_wp2_with fail
    refine (H5.out _ _ T.out.2).mono ?_; rintro e w7 ⟨rfl, q7⟩
    have T7 := Lib.hid (And.intro (T.out.1.below q7) (T.out.2.below q7))
    clear q7 T H5
    go_wp2_with fail
    refine (H6.out _ _ T7.out.1.arg.slAt).mono ?_; rintro e w8 ⟨rfl, q8⟩
    have T8 := Lib.hid (And.intro (T7.out.1.below q8) (T7.out.2.below q8))
    clear q8 T7 H6
    go_wp2_with fail
    refine (H7.out _ _ _ T8.out.2 T8.out.1.arg.slAt).mono ?_; rintro e w9 ⟨rfl, m9, e9⟩
    have T9 : Hid (Pu w (.slice (some a) m c) L w9) := Lib.hid (by rw [e9]; exact T8.out.1.below (below_drewN _ _))
    clear e9 T8 H7
    go_wp2_with fail
    refine (HA.out _).mono ?_; rintro e w10 ⟨rfl, q10⟩
    have HF := Lib.hid (T9.out.below q10).low
    clear q10 T9
    go_wp2
    go_ret
    exact ⟨rfl, HF.out⟩
theorem puts_any (h : PackOK Rep) (x n : Int) (hx0 : 0 ≤ x) (hx1 : x < 4294967296) (s : ByteArray) (v : Value) (L : List (List UInt8)) (w : World) (hl : SlArg w v L) (hR : ∀ j, j < L.length → (L.getD j []).length ≤ 140737488355328) (hL : L.length ≤ 140737488355328) :
    Calls Try.prog 3 #[.int .u32 x, .int .i64 n, .string s, v] w fun e w' => e = .returned (.bool true) ∧ Below w.heap.size w w' := by
  cases hb : largeB L with
  | true => exact puts_large h x n s v L w hl hR hL hb
  | false =>
    by_cases hs : s.size ≤ 131072
    · exact puts_main h x n hx0 hx1 s v L w hl hR hL hb hs
    · exact puts_long h x n s v L w hl hR hL hb (by omega)
end
end Go.Proofs.Ytijfdnaolgbpmaa
