/- The program's place: a number, a text, a list of texts. -/
import Derived.Test.YtijfdnaolgbpmaaQA
import Derived.Test.YtijfdnaolgbpmaaWF
import Derived.Test.YtijfdnaolgbpmaaPI
set_option linter.unusedVariables false
namespace Go.Proofs.Ytijfdnaolgbpmaa
open Go Go.RowKit Pk

section
variable {w w' : World} {p : Nat} {S : List UInt8}
set_option maxHeartbeats 1000000 in
set_option maxRecDepth 100000 in
theorem plnum_any (n : Int) (w : World) (h : PlAt w p S) (hS : S.length ≤ 140737488355328) :
    Calls Try.prog 39 #[.pointer (some ⟨p, 0, none⟩), .int .i64 n] w (PlPost w p (.int .u32 ((num ⟨S, 0⟩ n).1 : Nat)) (num ⟨S, 0⟩ n).2.E (num ⟨S, 0⟩ n).2.S) := by
  have H := Lib.hid h
  unfold num
  by_cases hn : n < 1 ∨ 4 < n
  · rw [if_pos ⟨rfl, hn⟩]
    rcases hn with hn | hn
    · clear hS h
      go_enter Try.func39, Try.ntmps39
      go_wp2
      go_ret2
      exact ⟨rfl, H.out, World.grownBy.refl _ _⟩
    · have h1 : ¬ n < 1 := by omega
      clear hS h
      go_enter Try.func39, Try.ntmps39
      go_wp2
      go_ret2
      exact ⟨rfl, H.out, World.grownBy.refl _ _⟩
  · have h1 : 1 ≤ n := by omega
    have h4 : n ≤ 4 := by omega
    rw [if_neg (fun hc => hn hc.2)]
    have HN := Lib.hid (plnext_any n w h hS)
    have hb := take_back (r := ⟨S, 0⟩) (n := n) rfl
    have hf := take_fault (r := ⟨S, 0⟩) (n := n)
    obtain ⟨S2, hS2⟩ : ∃ S2, S2 = (take ⟨S, 0⟩ n).2.S := ⟨_, rfl⟩
    obtain ⟨E, hE⟩ : ∃ E, E = (take ⟨S, 0⟩ n).2.E := ⟨_, rfl⟩
    obtain ⟨L, hL⟩ : ∃ L, L = (take ⟨S, 0⟩ n).1 := ⟨_, rfl⟩
    obtain ⟨T, hT⟩ : ∃ T, T = tx L := ⟨_, rfl⟩
    rw [← hE] at hb hf
    rw [← hS2, ← hE, ← hL, ← hT] at HN
    rw [← hS2, ← hE, ← hL]
    unfold PlPost at HN
    by_cases h0 : E = 0
    · obtain ⟨b1, b2, b3⟩ := hb h0
      have hLl : L.length = n.toNat := by rw [hL, b3, List.length_take]; simp only at b2 ⊢; omega
      have hg := get_any T (by rw [hT, tx_size]; omega)
      have e1 : getV T = (Wd.unle L : Nat) := by
        unfold getV Wd.getN
        rw [hT, show (tx L).data.toList = L from by simp [tx], if_neg (by omega)]
      have e2 : getE T = 0 := by
        unfold getE Wd.getE
        rw [hT, show (tx L).data.toList = L from by simp [tx], if_neg (by omega)]
      rw [e1, e2] at hg
      have HG := Lib.hid hg
      rw [h0] at HN ⊢
      obtain ⟨V, hV⟩ : ∃ V : Int, V = (Wd.unle L : Nat) := ⟨_, rfl⟩
      rw [← hV] at HG ⊢
      clear hg e1 e2 hLl b1 b2 b3 hb hf hS2 hE hL hT hV h0 hn hS h
      go_enter Try.func39, Try.ntmps39
      go_wp2_with fail
      refine HN.out.mono ?_; rintro x w1 ⟨rfl, q1, g1⟩
      have HH := Lib.hid (And.intro q1 g1)
      clear q1 g1 HN
      go_wp2_with fail
      refine (HG.out _).mono ?_; rintro x w2 ⟨rfl, rfl⟩
      clear HG
      go_wp2
      go_ret2
      exact ⟨rfl, HH.out.1, HH.out.2⟩
    · obtain ⟨f1, f2⟩ := hf h0
      have hbb : (E != 0) = true := by rw [bne_iff_ne]; exact h0
      have eL : ((Wd.unle L : Nat) : Int) = 0 := by rw [hL, f1]; rfl
      rw [eL]
      clear eL f1 f2 hb hf hS2 hE hL hT h0 hn hS h
      go_enter Try.func39, Try.ntmps39
      go_wp2_with fail
      refine HN.out.mono ?_; rintro x w1 ⟨rfl, q1, g1⟩
      have HH := Lib.hid (And.intro q1 g1)
      clear q1 g1 HN
      go_wp2
      go_ret2
      exact ⟨rfl, HH.out.1, HH.out.2⟩

/-- As PlPost; with an error what is left is whatever it is. -/
def PlEnd (w : World) (p : Nat) (v : Value) (E : Int) (S : List UInt8) (x : Ending) (w' : World) : Prop := x = .returned (.tuple #[v, .int .i64 E]) ∧ (∃ S', PlAt w' p S' ∧ (E = 0 → S' = S)) ∧ w.grownBy w' (some p)
theorem PlPost.ends {v : Value} {E : Int} {x : Ending} (h : PlPost w p v E S x w') : PlEnd w p v E S x w' := ⟨h.1, ⟨S, h.2.1, fun _ => rfl⟩, h.2.2⟩

set_option maxHeartbeats 1000000 in
set_option maxRecDepth 100000 in
theorem pltext_any (w : World) (h : PlAt w p S) (hS : S.length ≤ 140737488355328) :
    Calls Try.prog 41 #[.pointer (some ⟨p, 0, none⟩)] w (PlEnd w p (.string (tx (text ⟨S, 0⟩).1)) (text ⟨S, 0⟩).2.E (text ⟨S, 0⟩).2.S) := by
  have HN := Lib.hid (plnum_any 2 w h hS)
  have hlen := num_len (r := ⟨S, 0⟩) 2
  have hback := fun (h1 : (num ⟨S, 0⟩ 2).2.E = 0) => (num2_back (r := ⟨S, 0⟩) rfl h1).2
  unfold text
  obtain ⟨N, hN⟩ : ∃ N, N = (num ⟨S, 0⟩ 2).1 := ⟨_, rfl⟩
  obtain ⟨⟨S2, E2⟩, hr2⟩ : ∃ r2, r2 = (num ⟨S, 0⟩ 2).2 := ⟨_, rfl⟩
  rw [← hN] at HN hback ⊢
  rw [← hr2] at HN hlen hback ⊢
  simp only at HN hlen hback ⊢
  unfold PlPost at HN
  by_cases h1 : E2 = 0
  · subst h1
    have hNl := hback rfl
    rw [if_neg (by simp)]
    have HTk := Lib.hid (fun w1 (q : PlAt w1 p S2) => pltake_any (N : Int) w1 q (by omega))
    have htf := take_fault (r := ⟨S2, 0⟩) (n := (N : Int))
    obtain ⟨L, hL⟩ : ∃ L, L = (take ⟨S2, 0⟩ (N : Int)).1 := ⟨_, rfl⟩
    obtain ⟨⟨S3, E3⟩, hr3⟩ : ∃ r3, r3 = (take ⟨S2, 0⟩ (N : Int)).2 := ⟨_, rfl⟩
    have hpair : take ⟨S2, 0⟩ (N : Int) = (L, ⟨S3, E3⟩) := by rw [hL, hr3]
    rw [hpair] at HTk htf ⊢
    simp only at HTk htf ⊢
    have hNi : (N : Int) < 65536 := by omega
    obtain ⟨T, hT⟩ : ∃ T, T = tx L := ⟨_, rfl⟩
    obtain ⟨R, hR⟩ : ∃ R : List UInt8 × Rd, R = if E3 ≠ 0 then ([], ⟨S, E3⟩) else (L, ⟨S3, E3⟩) := ⟨_, rfl⟩
    rw [← hR]
    have HO : Hid (∀ (w2 : World), PlAt w2 p S3 → w.grownBy w2 (some p) → PlEnd w p (.string (tx R.1)) R.2.E R.2.S (.returned (.tuple #[.string T, .int .i64 E3])) w2) := Lib.hid (by
      intro w2 q g
      rw [hR]
      by_cases h3 : E3 = 0
      · rw [if_neg (by simp [h3])]
        exact ⟨by rw [hT], ⟨S3, q, fun _ => rfl⟩, g⟩
      · rw [if_pos h3]
        exact ⟨by rw [hT, (htf h3).1], ⟨S3, q, fun hh => absurd hh h3⟩, g⟩)
    rw [← hT] at HTk
    unfold PlPost at HTk
    clear hR htf hT hpair hr3 hL hNl hback hlen hr2 hN hS h
    go_enter Try.func41, Try.ntmps41
    go_wp2_with fail
    refine HN.out.mono ?_; rintro x w1 ⟨rfl, q1, g1⟩
    have HH := Lib.hid (And.intro q1 g1)
    clear q1 g1 HN
    go_wp2_with fail
    refine (HTk.out _ HH.out.1).mono ?_; rintro x w2 ⟨rfl, q2, g2⟩
    have HH2 := Lib.hid (And.intro q2 (HH.out.2.trans g2))
    clear q2 g2 HTk HH
    go_wp2
    go_ret2
    exact HO.out _ HH2.out.1 HH2.out.2
  · rw [if_pos h1]
    have hb : (E2 != 0) = true := by rw [bne_iff_ne]; exact h1
    clear h1 hback hlen hr2 hN hS h
    go_enter Try.func41, Try.ntmps41
    go_wp2_with fail
    refine HN.out.mono ?_; rintro x w1 ⟨rfl, q1, g1⟩
    have HH := Lib.hid (And.intro q1 g1)
    clear q1 g1 HN
    go_wp2
    go_ret2
    exact ⟨rfl, ⟨S2, HH.out.1, fun _ => rfl⟩, HH.out.2⟩
end
end Go.Proofs.Ytijfdnaolgbpmaa
