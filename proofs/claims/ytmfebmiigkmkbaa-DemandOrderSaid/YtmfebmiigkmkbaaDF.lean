/- slices.BinarySearch at uint16 and slices.BinarySearchFunc with find's own comparison, over rows that rise; find. -/
import Derived.Test.YtmfebmiigkmkbaaDB
set_option linter.unusedVariables false
set_option linter.unusedSimpArgs false
namespace Go.Proofs.Ytmfebmiigkmkbaa
open Go Go.RowKit Oj Dm

set_option maxHeartbeats 2000000 in
theorem nan16_any (x : Int) (w : World) : Calls Try.prog 49 #[.int .u16 x] w fun e w' => e = .returned (.bool false) ∧ w = w' := by
  go_enter Try.func49, Try.ntmps49
  go_wp2
  go_ret
  exact ⟨ret_bool (by simp), rfl⟩
set_option maxHeartbeats 2000000 in
theorem nan32_any (x : Int) (w : World) : Calls Try.prog 48 #[.int .u32 x] w fun e w' => e = .returned (.bool false) ∧ w = w' := by
  go_enter Try.func48, Try.ntmps48
  go_wp2
  go_ret
  exact ⟨ret_bool (by simp), rfl⟩
set_option maxHeartbeats 2000000 in
theorem snan_any (x : Int) (w : World) : Calls Try.prog 45 #[.int .u16 x] w fun e w' => e = .returned (.bool false) ∧ w = w' := by
  go_enter Try.func45, Try.ntmps45
  go_wp2
  go_ret
  exact ⟨ret_bool (by simp), rfl⟩
def lessB (x y : Int) : Bool := decide (x < y)
set_option maxHeartbeats 2000000 in
theorem less_any (x y : Int) (w : World) : Calls Try.prog 44 #[.int .u16 x, .int .u16 y] w fun e w' => e = .returned (.bool (lessB x y)) ∧ w = w' := by
  go_enter Try.func44, Try.ntmps44
  go_wp2_with fail
  refine (nan16_any _ _).mono ?_; rintro e w1 ⟨rfl, rfl⟩
  go_wp2_with fail
  all_goals (go_ret; exact ⟨ret_bool (by unfold lessB; first | rfl | (simp; done) | (simp; assumption) | (simp; omega)), rfl⟩)
def cmpI (x y : Int) : Int := if x < y then -1 else if y < x then 1 else 0
set_option maxHeartbeats 2000000 in
theorem compare_any (x y : Int) (w : World) : Calls Try.prog 43 #[.int .u32 x, .int .u32 y] w fun e w' => e = .returned (.int .i64 (cmpI x y)) ∧ w = w' := by
  obtain ⟨C, hC⟩ : ∃ C, C = cmpI x y := ⟨_, rfl⟩
  rw [← hC]
  have HC := Lib.hid hC
  clear hC
  go_enter Try.func43, Try.ntmps43
  go_wp2_with fail
  refine (nan32_any _ _).mono ?_; rintro e w1 ⟨rfl, rfl⟩
  go_wp2_with fail
  refine (nan32_any _ _).mono ?_; rintro e w1 ⟨rfl, rfl⟩
  go_wp2_with fail
  all_goals (go_ret; exact ⟨ret_int (by rw [HC.out]; unfold cmpI; first | (rw [if_pos (by assumption)]) | (rw [if_neg (by omega), if_pos (by omega)]) | (rw [if_neg (by omega), if_neg (by omega)])), rfl⟩)
set_option maxHeartbeats 2000000 in
theorem findf_any (x : Xt) (t : Int) (w : World) : Calls Try.prog 42 #[xtV x, .int .u32 t] w fun e w' => e = .returned (.int .i64 (cmpI x.id t)) ∧ Below w.heap.size w w' := by
  obtain ⟨i, b⟩ := x
  obtain ⟨C, hC⟩ : ∃ C, C = cmpI i t := ⟨_, rfl⟩
  have HC := Lib.hid (fun W => compare_any i t W)
  unfold xtV
  simp only
  rw [← hC] at HC ⊢
  have HB0 := Lib.hid (below_new1 w (.cells #[.int .u32 i, .int .u32 b] 50))
  clear hC
  go_enter Try.func42, Try.ntmps42
  go_wp2_with fail
  refine (HC.out _).mono ?_; rintro e w1 ⟨rfl, rfl⟩
  go_wp2_with fail
  go_ret
  exact ⟨rfl, HB0.out⟩

/-- k is where p stands, or would have to stand. -/
def Spot {α : Type} (f : α → Int) (d : α) (l : List α) (p : Int) (k : Nat) : Prop := k ≤ l.length ∧ (∀ j, j < k → f (l.getD j d) < p) ∧ (k < l.length → p ≤ f (l.getD k d))
def spotB {α : Type} (f : α → Int) (d : α) (l : List α) (p : Int) (k : Nat) : Bool := decide (k < l.length ∧ f (l.getD k d) = p)
def spotV (k : Nat) (b : Bool) : Value := .tuple #[.int .i64 (k : Int), .bool b]

set_option maxHeartbeats 8000000 in
set_option maxRecDepth 100000 in
theorem search_any (v : Value) (l : List Int) (p : Int) (w : World) (hA : PtsAt w v l) (h1 : l.length * 2 ≤ 140737488355328) (hU : Up id l) :
    Calls Try.prog 37 #[v, .int .u16 p] w fun e w' => ∃ k, Spot id (0 : Int) l p k ∧ e = .returned (spotV k (spotB id (0 : Int) l p k)) ∧ w = w' := by
  obtain ⟨a, c, rfl, h3⟩ := hA
  obtain ⟨n, hn⟩ : ∃ n, n = l.length := ⟨_, rfl⟩
  have hni : (n : Int) ≤ 70368744177664 := by omega
  rw [← hn] at h3 ⊢
  have HN := Lib.hid hn
  have H3 := Lib.hid h3
  have HU := Lib.hid (show ∀ i j, i < j → j < n → l.getD i 0 < l.getD j 0 from fun i j hij hj => up_at (0 : Int) hU hij (by rw [← hn]; exact hj))
  clear hn h1 h3 hU
  go_enter Try.func37, Try.ntmps37
  go_wp2_with fail
  go_loop [7, 8] (fun s t => ∃ lo hi : Nat, s = .int .i64 lo ∧ t = .int .i64 hi ∧ lo ≤ hi ∧ hi ≤ n ∧ Hid (∀ j, j < lo → l.getD j 0 < p) ∧ Hid (∀ j, hi ≤ j → j < n → p ≤ l.getD j 0)) (fun s t => (intOf t).toNat - (intOf s).toNat)
  case atStart => exact ⟨0, n, rfl, rfl, by omega, by omega, Lib.hid fun j hj => absurd hj (by omega), Lib.hid fun j h1 h2 => absurd h2 (by omega)⟩
  case round =>
    obtain ⟨lo, hi, rfl, rfl, hlh, hhn, HL, HH⟩ := hrel
    by_cases hlt : lo < hi
    · obtain ⟨m, hm⟩ : ∃ m, m = (lo + hi) / 2 := ⟨_, rfl⟩
      have hm1 : lo ≤ m := by omega
      have hm2 : m < hi := by omega
      have hmi : ((lo : Int) + (hi : Int)) / 2 = (m : Int) := by omega
      have hd : decide (lo < hi) = true := decide_eq_true hlt
      have hmn : m < n := by omega
      have hdm : decide (m < n) = true := decide_eq_true hmn
      obtain ⟨b, o, rfl, hbl, hcl⟩ := H3.out (by omega)
      have c0 := (hcl m hmn).pt
      rw [Nat.mul_one] at c0
      obtain ⟨q, hq⟩ : ∃ q, q = l.getD m 0 := ⟨_, rfl⟩
      rw [← hq] at c0
      have HLS := Lib.hid (fun W => less_any q p W)
      have HM := Lib.hid hm
      clear hm hcl
      by_cases hc : q < p
      · have HL2 : Hid (∀ j, j < m + 1 → l.getD j 0 < p) := Lib.hid fun j hj => by
          by_cases he : j = m
          · subst he; rw [← hq]; exact hc
          · have := HU.out j m (by omega) hmn
            rw [← hq] at this
            omega
        have hls : lessB q p = true := decide_eq_true hc
        rw [hls] at HLS
        clear hc hls hq HL
        go_wp2_with fail
        refine (HLS.out _).mono ?_; rintro e w1 ⟨rfl, rfl⟩
        go_wp2_with fail
        go_round
        case rel => exact ⟨m + 1, hi, by go_num, rfl, by omega, hhn, HL2, HH⟩
        case measure => simp [intOf]; omega
      · have HH2 : Hid (∀ j, m ≤ j → j < n → p ≤ l.getD j 0) := Lib.hid fun j h1 h2 => by
          by_cases he : j = m
          · subst he; rw [← hq]; omega
          · have := HU.out m j (by omega) h2
            rw [← hq] at this
            omega
        have hls : lessB q p = false := decide_eq_false hc
        rw [hls] at HLS
        clear hc hls hq HH
        go_wp2_with fail
        refine (HLS.out _).mono ?_; rintro e w1 ⟨rfl, rfl⟩
        go_wp2_with fail
        go_round
        case rel => exact ⟨lo, m, rfl, rfl, by omega, by omega, HL, HH2⟩
        case measure => simp [intOf]; omega
    · have hd : decide (lo < hi) = false := decide_eq_false hlt
      obtain rfl : lo = hi := by omega
      have HS : Hid (Spot id (0 : Int) l p lo) := Lib.hid ⟨by rw [← HN.out]; exact hhn, HL.out, fun h => HH.out lo (Nat.le_refl _) (by rw [HN.out]; exact h)⟩
      clear hlt HL HH
      by_cases hln : lo < n
      · have hd2 : decide (lo < n) = true := decide_eq_true hln
        obtain ⟨b, o, rfl, hbl, hcl⟩ := H3.out (by omega)
        have c0 := (hcl lo hln).pt
        rw [Nat.mul_one] at c0
        obtain ⟨q, hq⟩ : ∃ q, q = l.getD lo 0 := ⟨_, rfl⟩
        rw [← hq] at c0
        by_cases he : q = p
        · have HR : Hid (spotB id (0 : Int) l p lo = true) := Lib.hid (decide_eq_true ⟨by rw [← HN.out]; exact hln, by rw [← hq]; exact he⟩)
          clear hq hcl
          subst he
          go_wp2_with fail
          go_ret2
          exact ⟨lo, HS.out, by rw [HR.out]; rfl, rfl⟩
        · have HR : Hid (spotB id (0 : Int) l p lo = false) := Lib.hid (decide_eq_false (fun h => he (by rw [hq]; exact h.2)))
          have he2 : (q == p) = false := by simpa using he
          clear hq hcl he
          go_wp2_with fail
          refine (snan_any _ _).mono ?_; rintro e w1 ⟨rfl, rfl⟩
          go_wp2_with fail
          go_ret2
          exact ⟨lo, HS.out, by rw [HR.out]; rfl, rfl⟩
      · have hd2 : decide (lo < n) = false := decide_eq_false hln
        have HR : Hid (spotB id (0 : Int) l p lo = false) := Lib.hid (decide_eq_false (fun h => hln (by rw [HN.out]; exact h.1)))
        clear hln
        go_wp2_with fail
        go_ret2
        exact ⟨lo, HS.out, by rw [HR.out]; rfl, rfl⟩

set_option maxHeartbeats 8000000 in
set_option maxRecDepth 100000 in
theorem searchf_any (v : Value) (l : List Xt) (p : Int) (w : World) (hA : XtsAt w v l) (h1 : l.length * 8 ≤ 140737488355328) (hU : Up Xt.id l) :
    Calls Try.prog 41 #[v, .int .u32 p, .func (.func 42) #[] #[]] w fun e w' => ∃ k, Spot Xt.id Xt.nought l p k ∧ e = .returned (spotV k (spotB Xt.id Xt.nought l p k)) ∧ Below w.heap.size w w' := by
  obtain ⟨a, c, rfl, h3⟩ := hA
  obtain ⟨n, hn⟩ : ∃ n, n = l.length := ⟨_, rfl⟩
  have hni : (n : Int) ≤ 17592186044416 := by omega
  rw [← hn] at h3 ⊢
  have HN := Lib.hid hn
  have H3 := Lib.hid h3
  have HU := Lib.hid (show ∀ i j, i < j → j < n → (l.getD i Xt.nought).id < (l.getD j Xt.nought).id from fun i j hij hj => up_at Xt.nought hU hij (by rw [← hn]; exact hj))
  have HB0 : Hid (Below w.heap.size w w) := Lib.hid (Below.refl _ _)
  clear hn h1 h3 hU
  go_enter Try.func41, Try.ntmps41
  go_wp2_with fail
  go_loopw [9, 10] (fun s t wr => ∃ lo hi : Nat, s = .int .i64 lo ∧ t = .int .i64 hi ∧ lo ≤ hi ∧ hi ≤ n ∧ Hid (∀ j, j < lo → (l.getD j Xt.nought).id < p) ∧ Hid (∀ j, hi ≤ j → j < n → p ≤ (l.getD j Xt.nought).id) ∧ Hid (Below w.heap.size w wr)) (fun s t _ => (intOf t).toNat - (intOf s).toNat)
  case atStart => exact ⟨0, n, rfl, rfl, by omega, by omega, Lib.hid fun j hj => absurd hj (by omega), Lib.hid fun j h1 h2 => absurd h2 (by omega), HB0⟩
  case round =>
    clear HB0
    obtain ⟨lo, hi, rfl, rfl, hlh, hhn, HL, HH, HB⟩ := hrel
    by_cases hlt : lo < hi
    · obtain ⟨m, hm⟩ : ∃ m, m = (lo + hi) / 2 := ⟨_, rfl⟩
      have hm1 : lo ≤ m := by omega
      have hm2 : m < hi := by omega
      have hmi : ((lo : Int) + (hi : Int)) / 2 = (m : Int) := by omega
      have hd : decide (lo < hi) = true := decide_eq_true hlt
      have hmn : m < n := by omega
      have hdm : decide (m < n) = true := decide_eq_true hmn
      obtain ⟨b, o, rfl, hbl, hcl⟩ := H3.out (by omega)
      obtain ⟨c0, c1⟩ := ((hcl m hmn).below HB.out hbl).xt
      obtain ⟨q, hq⟩ : ∃ q, q = (l.getD m Xt.nought).id := ⟨_, rfl⟩
      obtain ⟨r, hr⟩ : ∃ q, q = (l.getD m Xt.nought).bl := ⟨_, rfl⟩
      rw [← hq] at c0
      rw [← hr] at c1
      have HLS := Lib.hid (fun W => findf_any ⟨q, r⟩ p W)
      obtain ⟨C, hC⟩ : ∃ C, C = cmpI q p := ⟨_, rfl⟩
      unfold xtV at HLS
      simp only at HLS
      rw [← hC] at HLS
      have HM := Lib.hid hm
      clear hm hcl hr
      by_cases hc : q < p
      · have HL2 : Hid (∀ j, j < m + 1 → (l.getD j Xt.nought).id < p) := Lib.hid fun j hj => by
          by_cases he : j = m
          · subst he; rw [← hq]; exact hc
          · have := HU.out j m (by omega) hmn
            rw [← hq] at this
            omega
        have hls : C < 0 := by rw [hC]; unfold cmpI; rw [if_pos hc]; decide
        clear hc hq HL hC
        go_wp2_with fail
        refine (HLS.out _).mono ?_; rintro e w1 ⟨rfl, q1⟩
        have HB1 := Lib.hid (below_call HB.out q1)
        clear q1
        go_wp2_with fail
        clear c0 c1
        go_roundw
        case rel => exact ⟨m + 1, hi, by go_num, rfl, by omega, hhn, HL2, HH, HB1⟩
        case measure => simp [intOf]; omega
      · have HH2 : Hid (∀ j, m ≤ j → j < n → p ≤ (l.getD j Xt.nought).id) := Lib.hid fun j h1 h2 => by
          by_cases he : j = m
          · subst he; rw [← hq]; omega
          · have := HU.out m j (by omega) h2
            rw [← hq] at this
            omega
        have hls : 0 ≤ C := by rw [hC]; unfold cmpI; rw [if_neg hc]; split <;> decide
        clear hc hq HH hC
        go_wp2_with fail
        refine (HLS.out _).mono ?_; rintro e w1 ⟨rfl, q1⟩
        have HB1 := Lib.hid (below_call HB.out q1)
        clear q1
        go_wp2_with fail
        clear c0 c1
        go_roundw
        case rel => exact ⟨lo, m, rfl, rfl, by omega, by omega, HL, HH2, HB1⟩
        case measure => simp [intOf]; omega
    · have hd : decide (lo < hi) = false := decide_eq_false hlt
      obtain rfl : lo = hi := by omega
      have HS : Hid (Spot Xt.id Xt.nought l p lo) := Lib.hid ⟨by rw [← HN.out]; exact hhn, HL.out, fun h => HH.out lo (Nat.le_refl _) (by rw [HN.out]; exact h)⟩
      clear hlt HL HH
      by_cases hln : lo < n
      · have hd2 : decide (lo < n) = true := decide_eq_true hln
        obtain ⟨b, o, rfl, hbl, hcl⟩ := H3.out (by omega)
        obtain ⟨c0, c1⟩ := ((hcl lo hln).below HB.out hbl).xt
        obtain ⟨q, hq⟩ : ∃ q, q = (l.getD lo Xt.nought).id := ⟨_, rfl⟩
        obtain ⟨r, hr⟩ : ∃ q, q = (l.getD lo Xt.nought).bl := ⟨_, rfl⟩
        rw [← hq] at c0
        rw [← hr] at c1
        have HLS := Lib.hid (fun W => findf_any ⟨q, r⟩ p W)
        obtain ⟨C, hC⟩ : ∃ C, C = cmpI q p := ⟨_, rfl⟩
        unfold xtV at HLS
        simp only at HLS
        rw [← hC] at HLS
        have hpq : p ≤ q := by rw [hq]; exact HS.out.2.2 (by rw [← HN.out]; exact hln)
        by_cases he : q = p
        · have HR : Hid (spotB Xt.id Xt.nought l p lo = true) := Lib.hid (decide_eq_true ⟨by rw [← HN.out]; exact hln, by rw [← hq]; exact he⟩)
          have hC0 : C = 0 := by rw [hC]; unfold cmpI; rw [if_neg (by omega), if_neg (by omega)]
          rw [hC0] at HLS
          clear hq hcl hr he hC hC0
          go_wp2_with fail
          refine (HLS.out _).mono ?_; rintro e w1 ⟨rfl, q1⟩
          have HB1 := Lib.hid (below_call HB.out q1)
          clear q1
          go_wp2_with fail
          go_ret2
          exact ⟨lo, HS.out, by rw [HR.out]; rfl, HB1.out⟩
        · have HR : Hid (spotB Xt.id Xt.nought l p lo = false) := Lib.hid (decide_eq_false (fun h => he (by rw [hq]; exact h.2)))
          have hC0 : C = 1 := by rw [hC]; unfold cmpI; rw [if_neg (by omega), if_pos (by omega)]
          rw [hC0] at HLS
          clear hq hcl hr he hC hC0 hpq
          go_wp2_with fail
          refine (HLS.out _).mono ?_; rintro e w1 ⟨rfl, q1⟩
          have HB1 := Lib.hid (below_call HB.out q1)
          clear q1
          go_wp2_with fail
          go_ret2
          exact ⟨lo, HS.out, by rw [HR.out]; rfl, HB1.out⟩
      · have hd2 : decide (lo < n) = false := decide_eq_false hln
        have HR : Hid (spotB Xt.id Xt.nought l p lo = false) := Lib.hid (decide_eq_false (fun h => hln (by rw [HN.out]; exact h.1)))
        clear hln
        go_wp2_with fail
        go_ret2
        exact ⟨lo, HS.out, by rw [HR.out]; rfl, HB.out⟩
set_option maxHeartbeats 4000000 in
set_option maxRecDepth 100000 in
theorem find_any (v : Value) (l : List Xt) (p : Int) (w : World) (hA : XtsAt w v l) (h1 : l.length * 8 ≤ 140737488355328) (hU : Up Xt.id l) :
    Calls Try.prog 36 #[v, .int .u32 p] w fun e w' => ∃ k, Spot Xt.id Xt.nought l p k ∧ e = .returned (spotV k (spotB Xt.id Xt.nought l p k)) ∧ Below w.heap.size w w' := by
  have HC := Lib.hid (searchf_any v l p w hA h1 hU)
  obtain ⟨a, c, rfl, _⟩ := hA
  obtain ⟨n, hn⟩ : ∃ n, n = l.length := ⟨_, rfl⟩
  rw [← hn] at HC ⊢
  clear hn h1 hU
  go_enter Try.func36, Try.ntmps36
  go_wp2_with fail
  refine HC.out.mono ?_; rintro e w1 ⟨k, hS, rfl, q1⟩
  obtain ⟨B, hB⟩ : ∃ B, B = spotB Xt.id Xt.nought l p k := ⟨_, rfl⟩
  rw [← hB]
  have HS := Lib.hid hS
  have HQ := Lib.hid q1
  have HBB := Lib.hid hB
  clear hS q1 hB HC
  unfold spotV
  go_wp2_with fail
  go_ret2
  exact ⟨k, HS.out, by rw [HBB.out]; rfl, HQ.out⟩
end Go.Proofs.Ytmfebmiigkmkbaa
