/- The document's Same (package aediculeref07): are two lists of texts the same? Large, of the statements. -/
import Derived.Test.YtiadggeheiadiaaPBS
import Derived.Deep.DeepCutAuto
set_option linter.unusedVariables false
namespace Go.Proofs.Ytiadggeheiadiaa
open Go Go.RowKit

theorem same_go (L M : List (List UInt8)) (k : Nat) (h1 : k < L.length) (h2 : L.length = M.length) (hk : L.take k = M.take k) (he : L.getD k [] = M.getD k []) : L.take (k + 1) = M.take (k + 1) := by
  rw [List.take_succ_eq_append_getElem h1, List.take_succ_eq_append_getElem (by omega), hk]
  rw [getD_get _ _ _ h1, getD_get _ _ _ (by omega)] at he
  rw [he]
theorem same_not (L M : List (List UInt8)) (k : Nat) (he : L.getD k [] ≠ M.getD k []) : L ≠ M := by
  rintro rfl; exact he rfl

set_option maxHeartbeats 2000000 in
set_option maxRecDepth 100000 in
theorem rsame_any (v v2 : Value) (L M : List (List UInt8)) (w : World) (hs : SlAt w v L) (hs2 : SlAt w v2 M) (hL : L.length ≤ 1099511627776) :
    Calls Try.prog 18 #[v, v2] w fun e w' => e = .returned (.bool (decide (L = M))) ∧ ∃ n, w' = w.drewN n := by
  obtain ⟨a, c, rfl, h1⟩ := hs
  obtain ⟨a2, c2, rfl, h2⟩ := hs2
  by_cases hl : L.length = M.length
  · obtain ⟨m, hm⟩ : ∃ m, m = L.length := ⟨_, rfl⟩
    have hm2 : m = M.length := hm.trans hl
    rw [← hm, ← hm2]
    have HM := Lib.hid (And.intro hm hm2)
    have H1 := Lib.hid h1
    have H2 := Lib.hid h2
    have hmi : (m : Int) ≤ 1099511627776 := by omega
    clear hm hm2 hl h1 h2 hL
    go_enter Try.func18, Try.ntmps18
    go_wp2_with fail
    go_loopw [5] (fun i wr => ∃ k : Nat, (k : Int) ≤ m ∧ i = .int .i64 k ∧ Hid (L.take k = M.take k) ∧ Hid (∃ n, wr = w.drewN n)) (fun i _ => m - (intOf i).toNat)
    case atStart => exact ⟨0, by omega, rfl, Lib.hid rfl, Lib.hid ⟨0, rfl⟩⟩
    case round =>
      obtain ⟨k, hk, rfl, HK, HW⟩ := hrel
      by_cases hlt : k < m
      · have hkl : k < L.length := by have := HM.out.1; omega
        have hkm : k < M.length := by have := HM.out.2; omega
        obtain ⟨b, o, rfl, hbl, hcl⟩ := H1.out (by intro h; rw [h] at hkl; simp at hkl)
        obtain ⟨b2, o2, rfl, hbl2, hcl2⟩ := H2.out (by intro h; rw [h] at hkm; simp at hkm)
        obtain ⟨nn, hwn⟩ := HW.out
        obtain ⟨T, hT⟩ : ∃ T, T = tx (L.getD k []) := ⟨_, rfl⟩
        obtain ⟨U, hU⟩ : ∃ U, U = tx (M.getD k []) := ⟨_, rfl⟩
        have hc1 : wr.cell? ⟨b, o + k, none⟩ = some (.string T) := by rw [hT, hwn]; exact hcl k hkl
        have hc2 : wr.cell? ⟨b2, o2 + k, none⟩ = some (.string U) := by rw [hU, hwn]; exact hcl2 k hkm
        by_cases he : T = U
        · have HN : Hid (L.take (k + 1) = M.take (k + 1)) := Lib.hid (same_go L M k hkl (by have := HM.out; omega) HK.out (tx_inj (hT.symm.trans (he.trans hU))))
          have HW2 : Hid (∀ q, ∃ n, wr.drewN q = w.drewN n) := Lib.hid fun q => ⟨nn + q, by rw [hwn, drewN_add]⟩
          subst he
          clear hT hU hcl hcl2 hkl hkm hwn HK HW
          go_upto_region 6 with (fail)
          go_quiet (fail)
          go_wp2
          go_roundw
          case rel => exact ⟨k + 1, by omega, by go_num, HN, Lib.hid (HW2.out _)⟩
          case measure => simp [intOf]; omega
        · have HF : Hid (decide (L = M) = false) := Lib.hid (decide_eq_false (same_not L M k (fun h => he (by rw [hT, hU, h]))))
          have HW2 : Hid (∀ q, ∃ n, wr.drewN q = w.drewN n) := Lib.hid fun q => ⟨nn + q, by rw [hwn, drewN_add]⟩
          have hne : (T.toList == U.toList) = false := by
            rw [Bool.eq_false_iff]
            intro h
            exact he (by
              have := eq_of_beq h
              rw [ByteArray.toList_eq, ByteArray.toList_eq, Array.toList_inj] at this
              exact ByteArray.ext this)
          have hne2 : (T.toList != U.toList) = true := by rw [bne, hne]; rfl
          clear hT hU hcl hcl2 hkl hkm hwn HK HW he
          go_upto_region 6 with (fail)
          go_quiet (fail)
          go_wp2
          go_ret
          exact ⟨by rw [HF.out]; rfl, HW2.out _⟩
      · have HT : Hid (decide (L = M) = true ∧ ∃ n, wr = w.drewN n) := Lib.hid ⟨decide_eq_true (by
          have h := HK.out
          rwa [List.take_of_length_le (by have := HM.out.1; omega), List.take_of_length_le (by have := HM.out.2; omega)] at h), HW.out⟩
        have hd : decide (k < m) = false := decide_eq_false hlt
        clear hlt HK HW
        go_wp2
        go_ret
        exact ⟨by rw [HT.out.1]; rfl, HT.out.2⟩
  · have HF : Hid (decide (L = M) = false) := Lib.hid (decide_eq_false (fun h => hl (by rw [h])))
    obtain ⟨m, hm⟩ : ∃ m, m = L.length := ⟨_, rfl⟩
    obtain ⟨m2, hm2⟩ : ∃ m2, m2 = M.length := ⟨_, rfl⟩
    rw [← hm, ← hm2] at hl ⊢
    have hne : ((m : Int) != (m2 : Int)) = true := by rw [bne_iff_ne]; omega
    clear hl hm hm2 h1 h2 hL
    go_enter Try.func18, Try.ntmps18
    go_wp2
    go_ret
    exact ⟨by rw [HF.out]; rfl, 0, rfl⟩
end Go.Proofs.Ytiadggeheiadiaa
