/- The program's place: a list of texts. -/
import Derived.Test.YtijfdnaolgbpmaaQB
set_option linter.unusedVariables false
namespace Go.Proofs.Ytijfdnaolgbpmaa
open Go Go.RowKit Pk

section
variable {w w' : World} {p : Nat} {S : List UInt8}
def PlEndL (w : World) (p : Nat) (L : List (List UInt8)) (E : Int) (S : List UInt8) (x : Ending) (w' : World) : Prop := ∃ v, x = .returned (.tuple #[v, .int .i64 E]) ∧ OwnL w.heap.size L v w' ∧ (∃ S', PlAt w' p S' ∧ (E = 0 → S' = S)) ∧ w.grownBy w' (some p)

set_option maxHeartbeats 4000000 in
set_option maxRecDepth 100000 in
theorem pltexts_any (w : World) (h : PlAt w p S) (hS : S.length ≤ 1099511627776) :
    Calls Try.prog 44 #[.pointer (some ⟨p, 0, none⟩)] w (PlEndL w p (texts ⟨S, 0⟩).1 (texts ⟨S, 0⟩).2.E (texts ⟨S, 0⟩).2.S) := by
  have HN := Lib.hid (plnum_any 2 w h (by omega))
  have hlen := num_len (r := ⟨S, 0⟩) 2
  have hback := fun (h1 : (num ⟨S, 0⟩ 2).2.E = 0) => (num2_back (r := ⟨S, 0⟩) rfl h1).2
  have hpw : p < w.heap.size := h.lt
  unfold texts
  obtain ⟨N, hN⟩ : ∃ N, N = (num ⟨S, 0⟩ 2).1 := ⟨_, rfl⟩
  obtain ⟨⟨S2, E2⟩, hr2⟩ : ∃ r2, r2 = (num ⟨S, 0⟩ 2).2 := ⟨_, rfl⟩
  rw [← hN] at HN hback ⊢
  rw [← hr2] at HN hlen hback ⊢
  simp only at HN hlen hback ⊢
  unfold PlPost at HN
  by_cases h1 : E2 = 0
  · subst h1
    have hNl := hback rfl
    rw [if_neg (by simp)]
    have hNi : (N : Int) < 65536 := by omega
    by_cases hbig : 4096 < N
    · rw [if_pos hbig]
      have hbi : (4096 : Int) < (N : Int) := by omega
      clear hback hlen hNl hN hr2 hS h hbig
      go_enter Try.func44, Try.ntmps44
      go_wp2_with fail
      refine HN.out.mono ?_; rintro x w1 ⟨rfl, q1, g1⟩
      have HH := Lib.hid (And.intro q1 g1)
      clear q1 g1 HN
      go_wp2
      go_ret2
      exact ⟨_, rfl, ownL_nil _ _, ⟨S2, HH.out.1, fun hc => by cases hc⟩, HH.out.2⟩
    · rw [if_neg hbig]
      have hbi : (N : Int) ≤ 4096 := by omega
      have hd4 : decide ((4096 : Int) < (N : Int)) = false := decide_eq_false (by omega)
      obtain ⟨R, hR⟩ : ∃ R, R = textsN N ⟨S2, 0⟩ := ⟨_, rfl⟩
      rw [← hR]
      obtain ⟨OUT, hOUT⟩ : ∃ OUT : List (List UInt8) × Rd, OUT = if R.2.E ≠ 0 then ([], ⟨S, R.2.E⟩) else R := ⟨_, rfl⟩
      rw [← hOUT]
      have HOUT := Lib.hid hOUT
      have HR := Lib.hid hR
      have HS2 := Lib.hid (show S2.length ≤ 1099511627776 by omega)
      obtain ⟨i0, hi, hz0, hz1, hz2⟩ := info_parts infoStr
      clear hOUT hback hlen hNl hN hr2 hS h hbig hR hNi
      go_enter Try.func44, Try.ntmps44
      go_wp2_with fail
      refine HN.out.mono ?_; rintro x w1 ⟨rfl, q1, g1⟩
      have HH := Lib.hid (And.intro q1 g1)
      clear q1 g1 HN
      go_wp2_with fail
      go_loopw [6, 22] (fun l i wr => ∃ (k : Nat) (M : List (List UInt8)) (Sk : List UInt8) (z : Value), (k : Int) ≤ N ∧ i = .int .u32 k ∧ z = l ∧ Hid (M.length = k ∧ Sk.length ≤ 1099511627776 ∧ R = (M ++ (textsN (N - k) ⟨Sk, 0⟩).1, (textsN (N - k) ⟨Sk, 0⟩).2)) ∧ Hid (PlAt wr p Sk ∧ w.grownBy wr (some p)) ∧ Hid (OwnL w.heap.size M z wr)) (fun _ i _ => N - (intOf i).toNat)
      case atStart => exact ⟨0, [], S2, .slice none 0 0, by omega, rfl, rfl, Lib.hid ⟨rfl, HS2.out, by rw [HR.out]; rfl⟩, HH, Lib.hid (ownL_nil _ _)⟩
      case round =>
        obtain ⟨k, M, Sk, sl, hk, rfl, rfl, HK, HW, HO⟩ := hrel
        clear HH HR
        by_cases hlt : k < N
        · obtain ⟨hM, hkS, hkR⟩ := HK.out
          have HT := Lib.hid (pltext_any wr HW.out.1 (by omega))
          obtain ⟨S1, hS1⟩ : ∃ S1, S1 = (text ⟨Sk, 0⟩).1 := ⟨_, rfl⟩
          obtain ⟨⟨S3, E3⟩, hr3⟩ : ∃ r3, r3 = (text ⟨Sk, 0⟩).2 := ⟨_, rfl⟩
          have hl3 := text_len (r := ⟨Sk, 0⟩)
          rw [← hr3] at hl3
          rw [show N - k = (N - (k + 1)) + 1 by omega, textsN, ← hr3, ← hS1] at hkR
          rw [← hS1, ← hr3] at HT
          simp only at hl3 hkR HT
          unfold PlEnd at HT
          obtain ⟨TS, hTS⟩ : ∃ TS, TS = tx S1 := ⟨_, rfl⟩
          rw [← hTS] at HT
          by_cases h3 : E3 = 0
          · subst h3
            rw [if_neg (by simp)] at hkR
            have HK2 : Hid ((M ++ [S1]).length = k + 1 ∧ S3.length ≤ 1099511627776 ∧ R = ((M ++ [S1]) ++ (textsN (N - (k + 1)) ⟨S3, 0⟩).1, (textsN (N - (k + 1)) ⟨S3, 0⟩).2)) := Lib.hid ⟨by simp [hM], by omega, by rw [hkR]; simp⟩
            have hown : wr.ownsRow w.heap.size 9 1 sl k (strsV M) := by have := HO.out; unfold OwnL at this; rw [hM] at this; exact this
            have HTS := Lib.hid hTS
            have HOw := Lib.hid hown
            have HM := Lib.hid hM
            have hg2 : p < w.heap.size := hpw
            clear hkR hl3 hr3 hS1 hM hkS HK HO hTS hown
            go_wp2_with fail
            refine HT.out.mono ?_; rintro x w2 ⟨rfl, ⟨S', q2, e2⟩, g2⟩
            obtain rfl := e2 (by trivial)
            have HW2 := Lib.hid (And.intro q2 (HW.out.2.trans g2))
            have HO2 : Hid (w2.ownsRow w.heap.size 9 1 sl k (strsV M)) := Lib.hid (by
              have := OwnL.grown (L := M) (v := sl) (w := wr) (w' := w2) (B := w.heap.size) (g := p) (by unfold OwnL; rw [HM.out]; exact HOw.out) g2 hg2
              unfold OwnL at this
              rw [HM.out] at this
              exact this)
            have hsz : w.heap.size ≤ w2.heap.size := HW2.out.2.size
            clear e2 q2 g2 HT HW HOw
            go_wp2_with (at_builtin; refine wpList_append_own _ rfl _ _ 23 rfl w.heap.size 9 i0 (.string ⟨#[]⟩) 1 16 Try.underlying23 hi hz0 hz1 hz2 rfl (by decide) _ _ _ rfl (HO2.out.alloc _) ⟨w2.heap.size, 0, none⟩ 1 1 [.string TS] rfl rfl ?c1 ?c2 ?c3 ?c4 ?c5 ?_)
            case c1 => exact new_str _ _
            case c2 => intro u hu; simp at hu; subst hu; rfl
            case c3 => unfold maxLen; omega
            case c4 => omega
            case c5 => simp; omega
            intro z' w3 hown' hgrow _
            have HW3 : Hid (PlAt w3 p S' ∧ w.grownBy w3 (some p)) := by
              have hne : sl.ownBlock ≠ some p := fun he => by have := (World.ownsRow.lt HO2.out _ he).1; omega
              have hblk : ∀ i, i < w2.heap.size → some i ≠ sl.ownBlock → w3.heap[i]? = w2.heap[i]? := fun i hi hn => (hgrow.block i (by simp; omega) hn).trans (Below.heap_alloc w2 _ i hi)
              refine Lib.hid ⟨Blk.same HW2.out.1 (hblk p (by omega) (Ne.symm hne)), ⟨hgrow.os.trans HW2.out.2.os, hgrow.tape.trans HW2.out.2.tape, hgrow.output.trans HW2.out.2.output, Nat.le_trans HW2.out.2.size (by have := hgrow.size; simp at this; omega), fun i hi hn => ?_⟩⟩
              rw [hblk i (by omega) (fun he => by have := (World.ownsRow.lt HO2.out _ he.symm).1; omega)]
              exact HW2.out.2.block i hi hn
            have HO3 : Hid (OwnL w.heap.size (M ++ [S1]) z' w3) := Lib.hid (by
              unfold OwnL
              rw [List.length_append, HM.out]
              have e : strsV (M ++ [S1]) = strsV M ++ [.string TS] := by rw [HTS.out]; simp [strsV]
              rw [e]
              exact hown')
            clear hown' hgrow HO2 HW2 hsz HTS HM
            go_wp2
            go_roundw
            case rel => exact ⟨k + 1, M ++ [S1], S', z', by omega, by go_num, rfl, HK2, HW3, HO3⟩
            case measure => simp [intOf]; omega
          · rw [if_pos h3] at hkR
            have hb : (E3 != 0) = true := by rw [bne_iff_ne]; exact h3
            have HF : Hid (OUT = ([], ⟨S, E3⟩)) := Lib.hid (by
              rw [HOUT.out, hkR]
              simp only
              rw [if_pos h3])
            have HE3 := Lib.hid h3
            clear h3 hkR hl3 hr3 hS1 hM hkS HK HO hTS HOUT
            go_wp2_with fail
            refine HT.out.mono ?_; rintro x w2 ⟨rfl, ⟨S', q2, e2⟩, g2⟩
            have HH := Lib.hid (And.intro q2 (HW.out.2.trans g2))
            clear e2 q2 g2 HT HW
            go_wp2
            go_ret2
            refine ⟨.slice none 0 0, ?_, ?_, ⟨S', HH.out.1, ?_⟩, HH.out.2⟩
            · rw [HF.out]; rfl
            · rw [HF.out]; exact ownL_nil _ _
            · rw [HF.out]; intro hc; exact absurd hc HE3.out
        · have HF : Hid (OUT = (M, ⟨Sk, 0⟩)) := Lib.hid (by
            obtain ⟨hM, hkS, hkR⟩ := HK.out
            rw [show N - k = 0 by omega, textsN] at hkR
            rw [HOUT.out, hkR]
            simp)
          have hd : decide (k < N) = false := decide_eq_false hlt
          obtain ⟨a, nn, c, hsl⟩ := OwnL.slice HO.out
          clear hlt HK HOUT
          subst hsl
          go_wp2
          go_ret2
          refine ⟨.slice a nn c, ?_, ?_, ⟨Sk, HW.out.1, ?_⟩, HW.out.2⟩
          · rw [HF.out]; rfl
          · rw [HF.out]; exact HO.out
          · rw [HF.out]; intro _; rfl
  · rw [if_pos h1]
    have hb : (E2 != 0) = true := by rw [bne_iff_ne]; exact h1
    clear h1 hback hlen hr2 hN hS h
    go_enter Try.func44, Try.ntmps44
    go_wp2_with fail
    refine HN.out.mono ?_; rintro x w1 ⟨rfl, q1, g1⟩
    have HH := Lib.hid (And.intro q1 g1)
    clear q1 g1 HN
    go_wp2
    go_ret2
    exact ⟨_, rfl, ownL_nil _ _, ⟨S2, HH.out.1, fun _ => rfl⟩, HH.out.2⟩
end
end Go.Proofs.Ytijfdnaolgbpmaa
