/- Large, of the statements: more texts than they look at. -/
import Derived.Test.YtijfdnaolgbpmaaPC
set_option linter.unusedVariables false
namespace Go.Proofs.Ytijfdnaolgbpmaa
open Go Go.RowKit

/-- All bytes of the texts. -/
def tot (L : List (List UInt8)) : Nat := (L.map List.length).sum
def largeB (L : List (List UInt8)) : Bool := decide (4200 < L.length) || decide (262144 < tot (L.take 5000))
theorem tot_snoc (L : List (List UInt8)) (k : Nat) (h : k < L.length) : tot (L.take (k + 1)) = tot (L.take k) + (L.getD k []).length := by
  unfold tot
  rw [List.take_succ_eq_append_getElem h, getD_get _ _ _ h, List.map_append, List.sum_append]
  simp
theorem cat_tot (L : List (List UInt8)) : (Pk.cat L).length = tot L + 2 * L.length := by
  induction L with
  | nil => rfl
  | cons s L ih =>
    have e : Pk.cat (s :: L) = Pk.txt s ++ Pk.cat L := by simp [Pk.cat]
    rw [e, List.length_append, ih, txt_length]
    simp [tot]
    omega
/-- What is not large. -/
theorem not_large {L : List (List UInt8)} (h : largeB L = false) : L.length ≤ 4200 ∧ tot L ≤ 262144 := by
  unfold largeB at h
  simp only [Bool.or_eq_false_iff, decide_eq_false_iff_not] at h
  have h2 := h.2
  rw [List.take_of_length_le (by omega)] at h2
  exact ⟨by omega, by omega⟩
theorem tot_take (L : List (List UInt8)) (B : Nat) (hR : ∀ j, j < L.length → (L.getD j []).length ≤ B) (k : Nat) : tot (L.take k) ≤ k * B := by
  induction k with
  | zero => simp [tot]
  | succ k ih =>
    rw [Nat.succ_mul]
    by_cases h : k < L.length
    · rw [tot_snoc L k h]
      have := hR k h
      omega
    · have e : L.take (k + 1) = L.take k := by rw [List.take_of_length_le (by omega), List.take_of_length_le (by omega)]
      rw [e]
      omega

set_option maxHeartbeats 2000000 in
set_option maxRecDepth 100000 in
theorem large_any (v : Value) (L : List (List UInt8)) (w : World) (hs : SlAt w v L) (hR : ∀ j, j < L.length → (L.getD j []).length ≤ 140737488355328) (hL : L.length ≤ 140737488355328) :
    Calls Try.prog 7 #[v] w fun e w' => e = .returned (.bool (largeB L)) ∧ w' = w := by
  obtain ⟨a, c, rfl, h1⟩ := hs
  obtain ⟨m, hm⟩ : ∃ m, m = L.length := ⟨_, rfl⟩
  rw [← hm]
  have HM := Lib.hid hm
  have H1 := Lib.hid h1
  have HR := Lib.hid hR
  have hmi : (m : Int) ≤ 140737488355328 := by omega
  clear hm h1 hR hL
  go_enter Try.func7, Try.ntmps7
  go_wp2_with fail
  go_loopw [3, 4] (fun n i wr => ∃ (k : Nat) (N : Int), (k : Int) ≤ m ∧ (k : Int) ≤ 5000 ∧ i = .int .i64 k ∧ n = .int .i64 N ∧ Hid (N = (tot (L.take k) : Nat)) ∧ wr = w) (fun _ i _ => m - (intOf i).toNat)
  case atStart => exact ⟨0, 0, by omega, by omega, rfl, rfl, Lib.hid (by simp [tot]), rfl⟩
  case round =>
    obtain ⟨k, N, hk, hk5, rfl, rfl, HN, rfl⟩ := hrel
    have hN0 : 0 ≤ N := by rw [HN.out]; omega
    have hN1 : N ≤ 703687441776640000 := by
      rw [HN.out]
      have h1 := tot_take L _ HR.out k
      have h2 : k * 140737488355328 ≤ 5000 * 140737488355328 := Nat.mul_le_mul_right _ (by omega)
      omega
    by_cases hlt : k < m
    · by_cases h5 : (k : Int) < 5000
      · have hkl : k < L.length := by have := HM.out; omega
        obtain ⟨b, o, rfl, hbl, hcl⟩ := H1.out (by intro h; rw [h] at hkl; simp at hkl)
        obtain ⟨T, hT⟩ : ∃ T, T = tx (L.getD k []) := ⟨_, rfl⟩
        have hc1 : wr.cell? ⟨b, o + k, none⟩ = some (.string T) := by rw [hT]; exact hcl k hkl
        have hTs : (T.size : Int) ≤ 140737488355328 := by rw [hT, tx_size]; have := HR.out k hkl; omega
        have HN2 : Hid (N + (T.size : Int) = (tot (L.take (k + 1)) : Nat)) := Lib.hid (by rw [tot_snoc L k hkl, HN.out, hT, tx_size]; omega)
        clear hT hcl hkl HN
        go_wp2
        go_roundw
        case rel => exact ⟨k + 1, N + (T.size : Int), by omega, by omega, by go_num, rfl, HN2, trivial⟩
        case measure => simp [intOf]; omega
      · have HF : Hid (largeB L = true) := Lib.hid (by
          unfold largeB
          rw [decide_eq_true (show 4200 < L.length by have := HM.out; omega), Bool.true_or])
        have hm4 : 4200 < (m : Int) := by omega
        have hd5 : decide ((k : Int) < 5000) = false := decide_eq_false h5
        clear h5
        go_wp2
        go_ret
        exact ⟨by rw [HF.out]; rfl, rfl⟩
    · have HE : Hid ((k : Nat) = m ∧ N = (tot (L.take 5000) : Nat)) := Lib.hid (by
        have hkm : k = m := by omega
        refine ⟨hkm, ?_⟩
        rw [HN.out, List.take_of_length_le (by have := HM.out; omega), List.take_of_length_le (by have := HM.out; omega)])
      have hd : decide (k < m) = false := decide_eq_false hlt
      clear hlt HN
      by_cases h4 : 4200 < (m : Int)
      · have HF : Hid (largeB L = true) := Lib.hid (by
          unfold largeB
          rw [decide_eq_true (show 4200 < L.length by have := HM.out; omega), Bool.true_or])
        go_wp2
        go_ret
        exact ⟨by rw [HF.out]; rfl, rfl⟩
      · by_cases h6 : 262144 < N
        · have HF : Hid (largeB L = true) := Lib.hid (by
            unfold largeB
            rw [decide_eq_true (show 262144 < tot (L.take 5000) by have := HE.out.2; omega), Bool.or_true])
          have hd4 : decide (4200 < (m : Int)) = false := decide_eq_false h4
          clear h4
          go_wp2
          go_ret
          exact ⟨by rw [HF.out]; rfl, rfl⟩
        · have HF : Hid (largeB L = false) := Lib.hid (by
            unfold largeB
            rw [decide_eq_false (show ¬ 4200 < L.length by have := HM.out; omega), decide_eq_false (show ¬ 262144 < tot (L.take 5000) by have := HE.out.2; omega)]
            rfl)
          have hd4 : decide (4200 < (m : Int)) = false := decide_eq_false h4
          have hd6 : decide (262144 < N) = false := decide_eq_false h6
          clear h4 h6
          go_wp2
          go_ret
          exact ⟨by rw [HF.out]; rfl, rfl⟩
end Go.Proofs.Ytijfdnaolgbpmaa
