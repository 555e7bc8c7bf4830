/- Some texts of one proof, one behind the other; each has its own head below. -/
import Derived.Test.YtbpdoiikleaidaaX07
import Derived.Test.YtbpdoiikleaidaaX06
import Derived.Test.YtbpdoiikleaidaaX09
/- What package word's Get, PutHigh, GetHigh, Hex and Unhex do, for whatever they are called with. -/
section
set_option linter.unusedVariables false
namespace Go.Proofs.Ytbpdoiikleaidaa
open Go.RowKit

def getV (s : ByteArray) : Int := (Wd.getN s.data.toList : Nat)
def getE (s : ByteArray) : Int := Wd.getE s.data.toList

theorem shl_bound (b k : Nat) (hb : b < 256) (hk : k < 4) : b * 2 ^ (8 * k) < 4294967296 := by
  have h : k = 0 ∨ k = 1 ∨ k = 2 ∨ k = 3 := by omega
  rcases h with rfl | rfl | rfl | rfl <;> simp <;> omega

theorem get_step (l : List UInt8) (k V : Nat) (hk : k < 4) (hl : k < l.length) (hV : Wd.unle (l.take k) = V) :
    bits .or .u32 (V : Int) ((l[k].toNat : Int) % 4294967296 * 2 ^ (8 * k) % 4294967296) = (Wd.unle (l.take (k + 1)) : Nat) := by
  have hb := l[k].toNat_lt
  have hB := shl_bound l[k].toNat k hb hk
  have hlen : (l.take k).length = k := by simp; omega
  have hVlt : V < 256 ^ k := by rw [← hV]; have := Wd.unle_lt (l.take k); rw [hlen] at this; exact this
  have e : (256 : Nat) ^ k = 2 ^ (8 * k) := by rw [Nat.pow_mul]
  have hlt : V < 4294967296 := by
    have h1 : (256 : Nat) ^ k ≤ 256 ^ 3 := Nat.pow_le_pow_right (by decide) (by omega)
    have h2 : (256 : Nat) ^ 3 = 16777216 := by decide
    omega
  have e2 : ((l[k].toNat : Int) * 2 ^ (8 * k) % 4294967296) = ((l[k].toNat * 2 ^ (8 * k) : Nat) : Int) := by
    have : ((l[k].toNat : Int) * 2 ^ (8 * k)) = ((l[k].toNat * 2 ^ (8 * k) : Nat) : Int) := by simp
    rw [this]; omega
  rw [show ((l[k].toNat : Int) % 4294967296) = (l[k].toNat : Int) by omega, e2, u32_or_nat _ _ hlt hB, Nat.or_comm, nat_join (8 * k) _ _ (Nat.mul_mod_left _ _) (by rw [← e]; exact hVlt)]
  rw [List.take_succ_eq_append_getElem hl, Wd.unle_append, hV, hlen]
  simp only [Wd.unle, Nat.mul_zero, Nat.add_zero]
  rw [e, Nat.mul_comm, Nat.add_comm]

set_option maxHeartbeats 1000000 in
set_option maxRecDepth 100000 in
theorem get_ok (s : ByteArray) (h1 : 1 ≤ s.size) (h4 : s.size ≤ 4) (r : Nat) (hr : Hid (Wd.unle s.data.toList = r)) (w : World) :
    Calls Try.prog 91 #[.string s] w fun e w' => e = .returned (.tuple #[.int .u32 r, .int .i64 0]) ∧ w = w' := by
  go_enter Try.func91, Try.ntmps91
  go_wp2
  go_loop [4, 16] (fun v i => ∃ k V : Nat, k ≤ s.size ∧ i = .int .i64 k ∧ v = .int .u32 V ∧ Hid (Wd.unle (s.data.toList.take k) = V)) (fun _ i => s.size - (intOf i).toNat)
  case atStart => exact ⟨0, 0, Nat.zero_le _, rfl, rfl, Lib.hid rfl⟩
  case round =>
    obtain ⟨k, V, hk, rfl, rfl, HV⟩ := hrel
    by_cases hlt : k < s.size
    · have S := Lib.hid (get_step s.data.toList k V (by omega) (by simpa using hlt) HV.out)
      go_wp2
      go_round
      case rel => exact ⟨k + 1, _, by omega, by go_num, congrArg (Value.int .u32) S.out, Lib.hid rfl⟩
      case measure => simp [intOf]; omega
    · go_wp2
      go_ret2
      refine ⟨?_, rfl⟩
      have e : V = r := by
        rw [← HV.out, ← hr.out, List.take_of_length_le (by rw [data_len]; omega)]
      subst e
      rfl

set_option maxHeartbeats 1000000 in
theorem get_no (s : ByteArray) (h : s.size < 1 ∨ 4 < s.size) (hs : s.size ≤ 140737488355327) (w : World) :
    Calls Try.prog 91 #[.string s] w fun e w' => e = .returned (.tuple #[.int .u32 0, .int .i64 2]) ∧ w = w' := by
  by_cases h1 : s.size < 1
  · clear h
    go_enter Try.func91, Try.ntmps91
    go_wp2
    go_ret2
    exact ⟨rfl, rfl⟩
  · have h2 : 4 < s.size := by omega
    clear h
    go_enter Try.func91, Try.ntmps91
    go_wp2
    go_ret2
    exact ⟨rfl, rfl⟩

theorem get_any (s : ByteArray) (hs : s.size ≤ 140737488355327) (w : World) :
    Calls Try.prog 91 #[.string s] w fun e w' => e = .returned (.tuple #[.int .u32 (getV s), .int .i64 (getE s)]) ∧ w = w' := by
  by_cases h : s.size < 1 ∨ 4 < s.size
  · have e1 : getV s = 0 := by unfold getV Wd.getN; rw [data_len, if_pos h]; rfl
    have e2 : getE s = 2 := by unfold getE Wd.getE; rw [data_len, if_pos h]
    rw [e1, e2]
    exact get_no s h hs w
  · have e1 : getV s = (Wd.unle s.data.toList : Nat) := by unfold getV Wd.getN; rw [data_len, if_neg h]
    have e2 : getE s = 0 := by unfold getE Wd.getE; rw [data_len, if_neg h]
    rw [e1, e2]
    exact get_ok s (by omega) (by omega) _ (Lib.hid rfl) w

end Go.Proofs.Ytbpdoiikleaidaa
end

/- The program's place: a number, a text, a list of texts. -/
section
set_option linter.unusedVariables false
namespace Go.Proofs.Ytbpdoiikleaidaa
open Go Go.RowKit Pk

section
variable {w w' : World} {p : Nat} {S : List UInt8}
set_option maxHeartbeats 1000000 in
set_option maxRecDepth 100000 in
theorem plnum_any (n : Int) (w : World) (h : PlAt w p S) (hS : S.length ≤ 140737488355328) :
    Calls Try.prog 85 #[.pointer (some ⟨p, 0, none⟩), .int .i64 n] w (PlPost w p (.int .u32 ((num ⟨S, 0⟩ n).1 : Nat)) (num ⟨S, 0⟩ n).2.E (num ⟨S, 0⟩ n).2.S) := by
  have H := Lib.hid h
  unfold num
  by_cases hn : n < 1 ∨ 4 < n
  · rw [if_pos ⟨rfl, hn⟩]
    rcases hn with hn | hn
    · clear hS h
      go_enter Try.func85, Try.ntmps85
      go_wp2
      go_ret2
      exact ⟨rfl, H.out, World.grownBy.refl _ _⟩
    · have h1 : ¬ n < 1 := by omega
      clear hS h
      go_enter Try.func85, Try.ntmps85
      go_wp2
      go_ret2
      exact ⟨rfl, H.out, World.grownBy.refl _ _⟩
  · have h1 : 1 ≤ n := by omega
    have h4 : n ≤ 4 := by omega
    rw [if_neg (fun hc => hn hc.2)]
    have HN := Lib.hid (plnext_any n w h hS)
    have hb := take_back (r := ⟨S, 0⟩) (n := n) rfl
    have hf := take_fault (r := ⟨S, 0⟩) (n := n)
    obtain ⟨S2, hS2⟩ : ∃ S2, S2 = (take ⟨S, 0⟩ n).2.S := ⟨_, rfl⟩
    obtain ⟨E, hE⟩ : ∃ E, E = (take ⟨S, 0⟩ n).2.E := ⟨_, rfl⟩
    obtain ⟨L, hL⟩ : ∃ L, L = (take ⟨S, 0⟩ n).1 := ⟨_, rfl⟩
    obtain ⟨T, hT⟩ : ∃ T, T = tx L := ⟨_, rfl⟩
    rw [← hE] at hb hf
    rw [← hS2, ← hE, ← hL, ← hT] at HN
    rw [← hS2, ← hE, ← hL]
    unfold PlPost at HN
    by_cases h0 : E = 0
    · obtain ⟨b1, b2, b3⟩ := hb h0
      have hLl : L.length = n.toNat := by rw [hL, b3, List.length_take]; simp only at b2 ⊢; omega
      have hg := get_any T (by rw [hT, tx_size]; omega)
      have e1 : getV T = (Wd.unle L : Nat) := by
        unfold getV Wd.getN
        rw [hT, show (tx L).data.toList = L from by simp [tx], if_neg (by omega)]
      have e2 : getE T = 0 := by
        unfold getE Wd.getE
        rw [hT, show (tx L).data.toList = L from by simp [tx], if_neg (by omega)]
      rw [e1, e2] at hg
      have HG := Lib.hid hg
      rw [h0] at HN ⊢
      obtain ⟨V, hV⟩ : ∃ V : Int, V = (Wd.unle L : Nat) := ⟨_, rfl⟩
      rw [← hV] at HG ⊢
      clear hg e1 e2 hLl b1 b2 b3 hb hf hS2 hE hL hT hV h0 hn hS h
      go_enter Try.func85, Try.ntmps85
      go_wp2_with fail
      refine HN.out.mono ?_; rintro x w1 ⟨rfl, q1, g1⟩
      have HH := Lib.hid (And.intro q1 g1)
      clear q1 g1 HN
      go_wp2_with fail
      refine (HG.out _).mono ?_; rintro x w2 ⟨rfl, rfl⟩
      clear HG
      go_wp2
      go_ret2
      exact ⟨rfl, HH.out.1, HH.out.2⟩
    · obtain ⟨f1, f2⟩ := hf h0
      have hbb : (E != 0) = true := by rw [bne_iff_ne]; exact h0
      have eL : ((Wd.unle L : Nat) : Int) = 0 := by rw [hL, f1]; rfl
      rw [eL]
      clear eL f1 f2 hb hf hS2 hE hL hT h0 hn hS h
      go_enter Try.func85, Try.ntmps85
      go_wp2_with fail
      refine HN.out.mono ?_; rintro x w1 ⟨rfl, q1, g1⟩
      have HH := Lib.hid (And.intro q1 g1)
      clear q1 g1 HN
      go_wp2
      go_ret2
      exact ⟨rfl, HH.out.1, HH.out.2⟩

/-- As PlPost; with an error what is left is whatever it is. -/
def PlEnd (w : World) (p : Nat) (v : Value) (E : Int) (S : List UInt8) (x : Ending) (w' : World) : Prop := x = .returned (.tuple #[v, .int .i64 E]) ∧ (∃ S', PlAt w' p S' ∧ (E = 0 → S' = S)) ∧ w.grownBy w' (some p)
theorem PlPost.ends {v : Value} {E : Int} {x : Ending} (h : PlPost w p v E S x w') : PlEnd w p v E S x w' := ⟨h.1, ⟨S, h.2.1, fun _ => rfl⟩, h.2.2⟩

set_option maxHeartbeats 1000000 in
set_option maxRecDepth 100000 in
theorem pltext_any (w : World) (h : PlAt w p S) (hS : S.length ≤ 140737488355328) :
    Calls Try.prog 80 #[.pointer (some ⟨p, 0, none⟩)] w (PlEnd w p (.string (tx (text ⟨S, 0⟩).1)) (text ⟨S, 0⟩).2.E (text ⟨S, 0⟩).2.S) := by
  have HN := Lib.hid (plnum_any 2 w h hS)
  have hlen := num_len (r := ⟨S, 0⟩) 2
  have hback := fun (h1 : (num ⟨S, 0⟩ 2).2.E = 0) => (num2_back (r := ⟨S, 0⟩) rfl h1).2
  unfold text
  obtain ⟨N, hN⟩ : ∃ N, N = (num ⟨S, 0⟩ 2).1 := ⟨_, rfl⟩
  obtain ⟨⟨S2, E2⟩, hr2⟩ : ∃ r2, r2 = (num ⟨S, 0⟩ 2).2 := ⟨_, rfl⟩
  rw [← hN] at HN hback ⊢
  rw [← hr2] at HN hlen hback ⊢
  simp only at HN hlen hback ⊢
  unfold PlPost at HN
  by_cases h1 : E2 = 0
  · subst h1
    have hNl := hback rfl
    rw [if_neg (by simp)]
    have HTk := Lib.hid (fun w1 (q : PlAt w1 p S2) => pltake_any (N : Int) w1 q (by omega))
    have htf := take_fault (r := ⟨S2, 0⟩) (n := (N : Int))
    obtain ⟨L, hL⟩ : ∃ L, L = (take ⟨S2, 0⟩ (N : Int)).1 := ⟨_, rfl⟩
    obtain ⟨⟨S3, E3⟩, hr3⟩ : ∃ r3, r3 = (take ⟨S2, 0⟩ (N : Int)).2 := ⟨_, rfl⟩
    have hpair : take ⟨S2, 0⟩ (N : Int) = (L, ⟨S3, E3⟩) := by rw [hL, hr3]
    rw [hpair] at HTk htf ⊢
    simp only at HTk htf ⊢
    have hNi : (N : Int) < 65536 := by omega
    obtain ⟨T, hT⟩ : ∃ T, T = tx L := ⟨_, rfl⟩
    obtain ⟨R, hR⟩ : ∃ R : List UInt8 × Rd, R = if E3 ≠ 0 then ([], ⟨S, E3⟩) else (L, ⟨S3, E3⟩) := ⟨_, rfl⟩
    rw [← hR]
    have HO : Hid (∀ (w2 : World), PlAt w2 p S3 → w.grownBy w2 (some p) → PlEnd w p (.string (tx R.1)) R.2.E R.2.S (.returned (.tuple #[.string T, .int .i64 E3])) w2) := Lib.hid (by
      intro w2 q g
      rw [hR]
      by_cases h3 : E3 = 0
      · rw [if_neg (by simp [h3])]
        exact ⟨by rw [hT], ⟨S3, q, fun _ => rfl⟩, g⟩
      · rw [if_pos h3]
        exact ⟨by rw [hT, (htf h3).1], ⟨S3, q, fun hh => absurd hh h3⟩, g⟩)
    rw [← hT] at HTk
    unfold PlPost at HTk
    clear hR htf hT hpair hr3 hL hNl hback hlen hr2 hN hS h
    go_enter Try.func80, Try.ntmps80
    go_wp2_with fail
    refine HN.out.mono ?_; rintro x w1 ⟨rfl, q1, g1⟩
    have HH := Lib.hid (And.intro q1 g1)
    clear q1 g1 HN
    go_wp2_with fail
    refine (HTk.out _ HH.out.1).mono ?_; rintro x w2 ⟨rfl, q2, g2⟩
    have HH2 := Lib.hid (And.intro q2 (HH.out.2.trans g2))
    clear q2 g2 HTk HH
    go_wp2
    go_ret2
    exact HO.out _ HH2.out.1 HH2.out.2
  · rw [if_pos h1]
    have hb : (E2 != 0) = true := by rw [bne_iff_ne]; exact h1
    clear h1 hback hlen hr2 hN hS h
    go_enter Try.func80, Try.ntmps80
    go_wp2_with fail
    refine HN.out.mono ?_; rintro x w1 ⟨rfl, q1, g1⟩
    have HH := Lib.hid (And.intro q1 g1)
    clear q1 g1 HN
    go_wp2
    go_ret2
    exact ⟨rfl, ⟨S2, HH.out.1, fun _ => rfl⟩, HH.out.2⟩
end
end Go.Proofs.Ytbpdoiikleaidaa
end
