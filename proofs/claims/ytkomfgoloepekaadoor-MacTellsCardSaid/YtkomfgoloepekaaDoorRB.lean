/- aediculeref02.above: is a number in parts of 32 bits above p and n parts 0? -/
import Derived.Test.YtkomfgoloepekaaDoorRA
set_option linter.unusedVariables false
namespace Go.Proofs.YtkomfgoloepekaaDoor.Rf
open Go.RowKit

def abv (p n : Nat) (l : List Nat) : Bool := decide (p * 2 ^ (32 * n) < Sh.val l)

theorem abv_high (p n : Nat) (l : List Nat) (hp : p < 4294967296) (j : Nat) (hj : j < l.length) (hn : n < j) (h0 : l[j] ≠ 0) : abv p n l = true := by
  have h1 := Sh.val_pos l j hj h0
  have h2 : 2 ^ (32 * (n + 1)) ≤ 2 ^ (32 * j) := Nat.pow_le_pow_right (by decide) (by omega)
  rw [Sh.pow32] at h2
  have h3 : p * 2 ^ (32 * n) < 4294967296 * 2 ^ (32 * n) := Nat.mul_lt_mul_of_pos_right hp (Nat.two_pow_pos _)
  unfold abv
  rw [decide_eq_true_iff]
  omega

theorem val_split (n : Nat) (l : List Nat) (hn : n < l.length) (hz : ∀ j (h : j < l.length), n < j → l[j] = 0) : Sh.val l = Sh.val (l.take n) + l[n] * 2 ^ (32 * n) := by
  have h1 := Sh.val_append (l.take (n + 1)) (l.drop (n + 1))
  rw [List.take_append_drop, Sh.val_zero (l.drop (n + 1)), Nat.mul_zero, Nat.add_zero, Sh.val_take l n hn] at h1
  · exact h1
  · intro x hx
    obtain ⟨j, hj, rfl⟩ := List.getElem_of_mem hx
    rw [List.getElem_drop]
    exact hz _ _ (by omega)

theorem small_take (n : Nat) (l : List Nat) (hs : Small l) (hn : n < l.length) : Sh.val (l.take n) < 2 ^ (32 * n) := by
  have := Sh.val_lt (l.take n) (fun x hx => hs x (List.mem_of_mem_take hx))
  rw [List.length_take, Nat.min_eq_left (by omega)] at this
  exact this

theorem abv_mid (p n : Nat) (l : List Nat) (hs : Small l) (hn : n < l.length) (hz : ∀ j (h : j < l.length), n < j → l[j] = 0) (hne : l[n] ≠ p) : abv p n l = decide (p < l[n]) := by
  have h1 := val_split n l hn hz
  have h2 := small_take n l hs hn
  unfold abv
  rw [h1]
  generalize 2 ^ (32 * n) = z at *
  generalize Sh.val (l.take n) = t at *
  generalize l[n] = q at *
  by_cases h : p < q
  · have h3 : p * z < q * z := Nat.mul_lt_mul_of_pos_right h (by omega)
    rw [decide_eq_true (by omega), decide_eq_true h]
  · have h3 : (q + 1) * z ≤ p * z := Nat.mul_le_mul_right z (by omega)
    rw [Nat.add_mul] at h3
    rw [decide_eq_false (by omega), decide_eq_false h]

theorem abv_low (p n : Nat) (l : List Nat) (hs : Small l) (hn : n < l.length) (hz : ∀ j (h : j < l.length), n < j → l[j] = 0) (he : l[n] = p) : abv p n l = decide (0 < Sh.val (l.take n)) := by
  have h1 := val_split n l hn hz
  unfold abv
  rw [h1, he]
  by_cases h : 0 < Sh.val (l.take n)
  · rw [decide_eq_true (by omega), decide_eq_true h]
  · rw [decide_eq_false (by omega), decide_eq_false h]

theorem ret_bool {a b : Bool} (h : a = b) : Ending.returned (.bool a) = .returned (.bool b) := by rw [h]

set_option maxHeartbeats 2000000 in
set_option maxRecDepth 100000 in
theorem above_any (l : List Nat) (g c p n : Nat) (w : World) (ho : OwnU 0 l (.slice (some ⟨g, 0, none⟩) l.length c) w) (hs : Small l) (hp : p < 4294967296) (hn : n < l.length) (hl : l.length ≤ 200) :
    Calls Tryd.prog 42 #[.slice (some ⟨g, 0, none⟩) l.length c, .int .u32 p, .int .i64 n] w fun e w' => e = .returned (.bool (abv p n l)) ∧ w = w' := by
  have HO := Lib.hid ho
  have HS := Lib.hid hs
  have HP := Lib.hid hp
  have cell : ∀ j (h : j < l.length), w.cell? ⟨g, j, none⟩ = some (.int .u32 (l[j] : Int)) := fun j h => by
    rw [World.ownsRow.cellAt HO.out j (by omega), u32s_get _ _ h]
  have HC := Lib.hid cell
  clear ho hs hp cell
  obtain ⟨r, hr⟩ : ∃ r, abv p n l = r := ⟨_, rfl⟩
  rw [hr]
  have HR := Lib.hid hr
  clear hr
  go_enter Tryd.func42, Tryd.ntmps42
  go_wp2
  go_loop [7] (fun t => ∃ i : Int, (n : Int) ≤ i ∧ i < l.length ∧ t = .int .i64 i ∧ Hid (∀ j (h : j < l.length), i < (j : Int) → l[j] = 0)) (fun t => (intOf t).toNat)
  case atStart => exact ⟨(l.length : Int) - 1, by omega, by omega, rfl, Lib.hid (fun j h h2 => by omega)⟩
  case round =>
    obtain ⟨i, hi0, hi1, rfl, HZ⟩ := hrel
    by_cases hlt : (n : Int) < i
    · obtain ⟨m, rfl⟩ := Int.eq_ofNat_of_zero_le (show 0 ≤ i by omega)
      have hm : m < l.length := by omega
      have g1 := HC.out m hm
      by_cases h0 : l[m] = 0
      · have HZ' : Hid (∀ j (h : j < l.length), (m : Int) - 1 < (j : Int) → l[j] = 0) := Lib.hid (fun j h h2 => by
          by_cases e : j = m
          · subst e; exact h0
          · exact HZ.out j h (by omega))
        rw [h0] at g1
        clear h0 HZ
        go_wp2
        go_round
        case rel => exact ⟨(m : Int) - 1, by omega, by omega, rfl, HZ'⟩
        case measure => simp [intOf]; omega
      · have t : (((l[m] : Nat) : Int) != 0) = true := by rw [bne_iff_ne]; omega
        have HE : Hid (true = r) := by rw [← HR.out]; exact Lib.hid (abv_high p n l HP.out m hm (by omega) h0).symm
        generalize l[m] = q at *
        clear h0
        go_wp2
        go_ret
        exact ⟨ret_bool HE.out, rfl⟩
    · have hin : i = (n : Int) := by omega
      subst hin
      have hz : ∀ j (h : j < l.length), n < j → l[j] = 0 := fun j h h2 => HZ.out j h (by omega)
      have g1 := HC.out n hn
      by_cases he : l[n] = p
      · have HL := Lib.hid (abv_low p n l HS.out hn hz he)
        have t : (((p : Nat) : Int) != (p : Int)) = false := by simp
        rw [he] at g1
        clear he hz HZ
        go_wp2
        go_loop [8] (fun t => ∃ k : Nat, k ≤ n ∧ t = .int .i64 k ∧ Hid (∀ j (h : j < l.length), j < k → l[j] = 0)) (fun t => (n - intOf t).toNat)
        case atStart => exact ⟨0, Nat.zero_le _, rfl, Lib.hid (fun j h h2 => by omega)⟩
        case round =>
          obtain ⟨k, hk, rfl, HK⟩ := hrel
          by_cases hkn : k < n
          · have hkl : k < l.length := by omega
            have g2 := HC.out k hkl
            by_cases h0 : l[k] = 0
            · have HK' : Hid (∀ j (h : j < l.length), j < k + 1 → l[j] = 0) := Lib.hid (fun j h h2 => by
                by_cases e : j = k
                · subst e; exact h0
                · exact HK.out j h (by omega))
              rw [h0] at g2
              clear h0 HK
              go_wp2
              go_round
              case rel => exact ⟨k + 1, by omega, by go_num, HK'⟩
              case measure => simp [intOf]; omega
            · have t2 : (((l[k] : Nat) : Int) != 0) = true := by rw [bne_iff_ne]; omega
              have HE : Hid (true = r) := by
                rw [← HR.out, HL.out]
                have hpos := Sh.val_pos (l.take n) k (by rw [List.length_take]; omega) (by rw [List.getElem_take]; exact h0)
                have := Nat.two_pow_pos (32 * k)
                exact Lib.hid (decide_eq_true (by omega)).symm
              generalize l[k] = q at *
              clear h0
              go_wp2
              go_ret
              exact ⟨ret_bool HE.out, rfl⟩
          · have HE : Hid (false = r) := by
              rw [← HR.out, HL.out]
              refine Lib.hid (decide_eq_false ?_).symm
              rw [Sh.val_zero (l.take n) (fun x hx => ?_)]
              · omega
              · obtain ⟨j, hj, rfl⟩ := List.getElem_of_mem hx
                rw [List.getElem_take]
                rw [List.length_take] at hj
                exact HK.out j (by omega) (by omega)
            go_wp2
            go_ret
            exact ⟨ret_bool HE.out, rfl⟩
      · have HL := Lib.hid (abv_mid p n l HS.out hn hz he)
        have t : (((l[n] : Nat) : Int) != (p : Int)) = true := by rw [bne_iff_ne]; omega
        by_cases hlt2 : p < l[n]
        · have HE : Hid (true = r) := by rw [← HR.out, HL.out]; exact Lib.hid (by simp [hlt2])
          generalize l[n] = q at *
          clear he hz HZ HL
          go_wp2
          go_ret
          exact ⟨ret_bool HE.out, rfl⟩
        · have HE : Hid (false = r) := by rw [← HR.out, HL.out]; exact Lib.hid (by simp [hlt2])
          generalize l[n] = q at *
          have hle : q ≤ p := by omega
          clear he hz HZ HL hlt2
          go_wp2
          go_ret
          exact ⟨ret_bool (by rw [decide_eq_false (by omega)]; exact HE.out), rfl⟩
end Go.Proofs.YtkomfgoloepekaaDoor.Rf
