/- Lists of texts in memory; the document's Texts and Same (package aediculeref07). -/
import Derived.Test.YtijfdnaolgbpmaaPA
import Derived.Deep.QuietTactic
import Derived.BigQuiet
import Derived.Deep.MidRow
set_option linter.unusedVariables false
namespace Go.Proofs.Ytijfdnaolgbpmaa
open Go Go.RowKit

/-- A slice that reads as the texts L. -/
def SlAt (w : World) (v : Value) (L : List (List UInt8)) : Prop :=
  ∃ a c, v = .slice a L.length c ∧ (L ≠ [] → ∃ b o, a = some ⟨b, o, none⟩ ∧ b < w.heap.size ∧ ∀ j, j < L.length → w.cell? ⟨b, o + j, none⟩ = some (.string (tx (L.getD j []))))
theorem SlAt.below {w w' : World} {v : Value} {L : List (List UInt8)} (h : SlAt w v L) (hb : Below w.heap.size w w') : SlAt w' v L := by
  obtain ⟨a, c, rfl, h2⟩ := h
  refine ⟨a, c, rfl, fun hl => ?_⟩
  obtain ⟨b, o, rfl, h3, h4⟩ := h2 hl
  exact ⟨b, o, rfl, Nat.lt_of_lt_of_le h3 hb.size, fun j hj => (hb.cell (p := ⟨b, o + j, none⟩) h3).trans (h4 j hj)⟩

theorem getD_get {α : Type} (l : List α) (k : Nat) (d : α) (h : k < l.length) : l.getD k d = l[k] := by simp [List.getD, h]
def lstS (L : List (List UInt8)) : ByteArray := if Pk.lstE L = 0 then tx (Pk.lst L) else tx []
theorem cat_snoc (L : List (List UInt8)) (k : Nat) (h : k < L.length) : Pk.cat (L.take (k + 1)) = Pk.cat (L.take k) ++ Pk.txt (L.getD k []) := by
  unfold Pk.cat
  rw [List.take_succ_eq_append_getElem h, getD_get _ _ _ h, List.map_append, List.flatten_append]
  simp only [List.map_cons, List.map_nil, List.flatten_cons, List.flatten_nil, List.append_nil]
theorem cat_le (L : List (List UInt8)) (k : Nat) : (Pk.cat (L.take k)).length ≤ (Pk.cat L).length := by
  have : Pk.cat L = Pk.cat (L.take k) ++ Pk.cat (L.drop k) := by
    unfold Pk.cat
    rw [← List.flatten_append, ← List.map_append, List.take_append_drop]
  rw [this, List.length_append]
  omega
theorem txt_length (s : List UInt8) : (Pk.txt s).length = s.length + 2 := by simp [Pk.txt, Wd.le_length]; omega
theorem mem_len {L : List (List UInt8)} {k : Nat} (h : k < L.length) : (L.getD k []).length + 2 ≤ (Pk.cat L).length := by
  have h1 := cat_le L (k + 1)
  rw [cat_snoc L k h, List.length_append, txt_length] at h1
  omega
theorem okAll_snoc (L : List (List UInt8)) (k : Nat) (h : k < L.length) : Pk.okAll (L.take (k + 1)) = (Pk.okAll (L.take k) && decide ((L.getD k []).length ≤ 65535)) := by
  unfold Pk.okAll
  rw [List.take_succ_eq_append_getElem h, getD_get _ _ _ h, List.all_append]
  simp only [List.all_cons, List.all_nil, Bool.and_true]
theorem okAll_not (L : List (List UInt8)) (k : Nat) (h : k < L.length) (hk : 65535 < (L.getD k []).length) : Pk.okAll L = false := by
  unfold Pk.okAll
  rw [List.all_eq_false]
  refine ⟨L[k], List.getElem_mem h, ?_⟩
  rw [getD_get _ _ _ h] at hk
  simp only [decide_eq_true_eq]
  omega

set_option maxHeartbeats 2000000 in
set_option maxRecDepth 100000 in
theorem rtexts_any (v : Value) (L : List (List UInt8)) (w : World) (hs : SlAt w v L) (hc : (Pk.cat L).length ≤ 1099511627776) (hL : L.length ≤ 1048576) :
    Calls Try.prog 14 #[v] w fun e w' => e = .returned (.tuple #[.string (lstS L), .int .i64 (Pk.lstE L)]) ∧ Below w.heap.size w w' := by
  obtain ⟨a, c, rfl, h2⟩ := hs
  by_cases hbig : 4096 < L.length
  · have e1 : Pk.lstE L = 5 := by unfold Pk.lstE; rw [if_pos hbig]
    have e2 : lstS L = tx [] := by unfold lstS; rw [e1, if_neg (by decide)]
    rw [e1, e2]
    have h' : (4096 : Int) < (L.length : Int) := by omega
    obtain ⟨m, hm⟩ : ∃ m, m = L.length := ⟨_, rfl⟩
    rw [← hm] at h' ⊢
    clear e1 e2 hbig h2 hm hc hL
    go_enter Try.func14, Try.ntmps14
    go_wp2
    go_ret2
    exact ⟨rfl, Below.refl _ _⟩
  · obtain ⟨m, hm⟩ : ∃ m, m = L.length := ⟨_, rfl⟩
    have HM := Lib.hid hm
    have hm' : (m : Int) ≤ 4096 := by omega
    have HNu := Lib.hid (fun W => rnum_good (m : Int) 2 (by omega) (by omega) (by decide) (by decide) W)
    have hn1 : numE (m : Int) 2 = 0 := by unfold numE Wd.putE; rw [if_neg (by decide), if_neg]; simp; omega
    have hn2 : numS (m : Int) 2 = tx (Wd.le m 2) := by
      have : Wd.putE ((m : Int)).toNat 2 = 0 := hn1
      unfold numS Wd.putL; rw [this, if_pos rfl]; simp
    rw [hn1, hn2] at HNu
    have HC := Lib.hid hc
    have H2 := Lib.hid h2
    rw [← hm]
    clear hn1 hn2 hc hL h2 hbig hm
    go_enter Try.func14, Try.ntmps14
    go_wp2_with fail
    refine (HNu.out _).mono ?_; rintro r w1 ⟨rfl, q1⟩
    have HB1 := Lib.hid q1
    clear q1 HNu
    go_wp2_with fail
    go_loopw [4, 6] (fun out i wr => ∃ k : Nat, (k : Int) ≤ m ∧ i = .int .i64 k ∧ out = .string (tx (Wd.le m 2 ++ Pk.cat (L.take k))) ∧ Hid (Pk.okAll (L.take k) = true) ∧ Hid (Below w.heap.size w wr)) (fun _ i _ => m - (intOf i).toNat)
    case atStart => exact ⟨0, by omega, rfl, by simp [Pk.cat], Lib.hid rfl, HB1⟩
    case round =>
      obtain ⟨k, hk, rfl, rfl, HO, HB⟩ := hrel
      clear HB1
      by_cases hlt : k < m
      · have hkl : k < L.length := by have := HM.out; omega
        obtain ⟨b, o, rfl, hbl, hcl⟩ := H2.out (by intro h; rw [h] at hkl; simp at hkl)
        have hml := mem_len hkl
        obtain ⟨S, hS⟩ : ∃ S, S = L.getD k [] := ⟨_, rfl⟩
        obtain ⟨T, hT⟩ : ∃ T, T = tx S := ⟨_, rfl⟩
        have hTs : T.size = S.length := by rw [hT, tx_size]
        have hcell : wr.cell? ⟨b, o + k, none⟩ = some (.string T) := by
          rw [hT, hS]; exact (HB.out.cell (p := ⟨b, o + k, none⟩) hbl).trans (hcl k hkl)
        have hm64 : (m : Int) ≤ 4096 := hm'
        have HT := Lib.hid (fun W => rtext_any T (by rw [hTs, hS]; have := HC.out; omega) W)
        have hbyT : by' T = S := by rw [hT, by_tx]
        rw [hbyT] at HT
        obtain ⟨O, hO⟩ : ∃ O, O = tx (Wd.le m 2 ++ Pk.cat (L.take k)) := ⟨_, rfl⟩
        have hOs : O.size = 2 + (Pk.cat (L.take k)).length := by rw [hO, tx_size, List.length_append, Wd.le_length]
        have hcl2 := cat_le L k
        have hOi : (O.size : Int) ≤ 1099511627778 := by rw [hOs]; have := HC.out; omega
        rw [← hO]
        by_cases h5 : 65535 < S.length
        · have e1 : Pk.txtE S = 5 := by unfold Pk.txtE; rw [if_pos h5]
          have e2 : txtS T = tx [] := by unfold txtS; rw [hbyT, e1, if_neg (by decide)]
          rw [e1, e2] at HT
          have HR : Hid (Pk.lstE L = 5 ∧ lstS L = tx []) := Lib.hid (by
            have h6 : Pk.lstE L = 5 := by
              unfold Pk.lstE
              rw [if_neg (by have := HM.out; omega), okAll_not L k hkl (by rw [← hS]; exact h5), if_neg (by decide)]
            exact ⟨h6, by unfold lstS; rw [h6, if_neg (by decide)]⟩)
          clear hS hT hTs hbyT e1 e2 h5 hO hOs hml hcl hkl hcl2
          go_wp2_with fail
          refine (HT.out _).mono ?_; rintro r w2 ⟨rfl, q2⟩
          have HB2 := Lib.hid (HB.out.trans (q2.mono HB.out.size))
          clear q2 HB
          go_wp2
          go_ret2
          exact ⟨by rw [HR.out.1, HR.out.2]; rfl, HB2.out⟩
        · have e1 : Pk.txtE S = 0 := by unfold Pk.txtE; rw [if_neg h5]
          have e2 : txtS T = tx (Pk.txt S) := by unfold txtS; rw [hbyT, e1, if_pos rfl]
          rw [e1, e2] at HT
          obtain ⟨U, hU⟩ : ∃ U, U = tx (Pk.txt S) := ⟨_, rfl⟩
          rw [← hU] at HT
          have hUi : (U.size : Int) ≤ 65537 := by rw [hU, tx_size, txt_length]; omega
          have HO2 : Hid (Pk.okAll (L.take (k + 1)) = true) := Lib.hid (by rw [okAll_snoc L k hkl, HO.out, ← hS]; simp; omega)
          have HN : Hid (O ++ U = tx (Wd.le m 2 ++ Pk.cat (L.take (k + 1)))) := Lib.hid (by rw [cat_snoc L k hkl, hO, hU, tx_append, ← hS, List.append_assoc])
          clear hS hT hTs hbyT e1 e2 h5 hO hOs hml hcl hkl hcl2 hU HO
          go_wp2_with fail
          refine (HT.out _).mono ?_; rintro r w2 ⟨rfl, q2⟩
          have HB2 := Lib.hid (HB.out.trans (q2.mono HB.out.size))
          clear q2 HB HT
          go_wp2
          go_roundw
          case rel => exact ⟨k + 1, by omega, by go_num, by rw [HN.out], HO2, HB2⟩
          case measure => simp [intOf]; omega
      · have HR : Hid (Pk.lstE L = 0 ∧ lstS L = tx (Wd.le m 2 ++ Pk.cat (L.take k))) := Lib.hid (by
          have hkm : L.length ≤ k := by have := HM.out; omega
          have ho := HO.out
          rw [List.take_of_length_le hkm] at ho ⊢
          have h6 : Pk.lstE L = 0 := by unfold Pk.lstE; rw [if_neg (by have := HM.out; omega), if_pos ho]
          exact ⟨h6, by unfold lstS; rw [h6, if_pos rfl, HM.out]; rfl⟩)
        have hd : decide (k < m) = false := decide_eq_false hlt
        clear hlt
        go_wp2
        go_ret2
        exact ⟨by rw [HR.out.1, HR.out.2]; rfl, HB.out⟩
end Go.Proofs.Ytijfdnaolgbpmaa
