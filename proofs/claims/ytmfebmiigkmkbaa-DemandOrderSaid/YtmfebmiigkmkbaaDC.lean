/- The program's areExtents, arePorts. -/
import Derived.Test.YtmfebmiigkmkbaaDB
set_option linter.unusedVariables false
set_option linter.unusedSimpArgs false
namespace Go.Proofs.Ytmfebmiigkmkbaa
open Go Go.RowKit Oj Dm

set_option maxHeartbeats 8000000 in
set_option maxRecDepth 100000 in
theorem areports_any (v : Value) (l : List Int) (w : World) (hA : PtsAt w v l) (h1 : l.length * 2 ≤ 140737488355328) (h2 : ∀ j, j < l.length → ptFits (l.getD j 0)) :
    Calls Try.prog 25 #[v] w fun e w' => e = .returned (.bool (ptsOk l && decide (l.length ≤ 16))) ∧ w = w' := by
  obtain ⟨a, c, rfl, h3⟩ := hA
  obtain ⟨n, hn⟩ : ∃ n, n = l.length := ⟨_, rfl⟩
  have hni : (n : Int) ≤ 70368744177664 := by omega
  rw [← hn] at h3 h2 ⊢
  have HN := Lib.hid hn
  have H2 := Lib.hid h2
  have H3 := Lib.hid h3
  clear hn h1 h2 h3
  go_enter Try.func25, Try.ntmps25
  go_wp2_with fail
  go_loop [3, 8] (fun t i => ∃ k : Nat, (k : Int) ≤ n ∧ i = .int .i64 k ∧ ∃ P : Int, t = .int .u16 P ∧ 0 ≤ P ∧ P < 65536 ∧ Hid (P = if k = 0 then 0 else l.getD (k - 1) 0) ∧ Hid (∀ j, j < k → ptAt l j = true)) (fun _ i => n - (intOf i).toNat)
  case atStart => exact ⟨0, by omega, rfl, 0, rfl, by omega, by omega, Lib.hid rfl, Lib.hid fun j hj => absurd hj (by omega)⟩
  case round =>
    obtain ⟨k, hk, rfl, P, rfl, hP0, hP1, HP, HK⟩ := hrel
    by_cases hlt : k < n
    · have hd : decide (k < n) = true := decide_eq_true hlt
      obtain ⟨b, o, rfl, hbl, hcl⟩ := H3.out (by omega)
      obtain ⟨q, hq⟩ : ∃ q, q = l.getD k 0 := ⟨_, rfl⟩
      have c0 := (hcl k hlt).pt
      have hf := H2.out k hlt
      rw [← hq] at c0 hf
      rw [Nat.mul_one] at c0
      obtain ⟨hq0, hq1⟩ := hf
      have HA : Hid (ptAt l k = decide (P < q)) := Lib.hid (by
        have h5 := HP.out
        unfold ptAt
        rw [← hq]
        rcases Nat.eq_zero_or_pos k with h0 | h0
        · subst h0
          rw [if_pos rfl] at h5
          subst h5
          rw [decide_eq_decide]
          omega
        · rw [if_neg (by omega)] at h5
          rw [← h5, decide_eq_decide]
          omega)
      by_cases hc : P < q
      · have hc2 : ¬ q ≤ P := by omega
        have HK2 : Hid (∀ j, j < k + 1 → ptAt l j = true) := Lib.hid fun j hj => by
          by_cases he : j = k
          · subst he; rw [HA.out, decide_eq_true hc]
          · exact HK.out j (by omega)
        have HP2 : Hid (q = if k + 1 = 0 then 0 else l.getD (k + 1 - 1) 0) := Lib.hid (by rw [if_neg (by omega)]; exact hq)
        clear hq HK HP HA hcl
        go_wp2_with fail
        go_round
        case rel => exact ⟨k + 1, by omega, by go_num, q, rfl, hq0, hq1, HP2, HK2⟩
        case measure => simp [intOf]; omega
      · have hc2 : q ≤ P := by omega
        have HR : Hid ((ptsOk l && decide (n ≤ 16)) = false) := Lib.hid (by
          unfold ptsOk
          rw [allN_false (k := k) (by rw [← HN.out]; exact hlt) (by rw [HA.out, decide_eq_false hc]), Bool.false_and])
        clear hq HK HP HA hcl hc
        go_wp2_with fail
        go_ret
        exact ⟨ret_bool HR.out.symm, rfl⟩
    · have hd : decide (k < n) = false := decide_eq_false hlt
      have HR : Hid (ptsOk l = true) := Lib.hid (allN_true fun j hj => HK.out j (by rw [← HN.out] at hj; omega))
      clear hlt HK
      by_cases h16 : n ≤ 16
      · have g : (n : Int) ≤ 16 := by omega
        go_wp2_with fail
        go_ret
        exact ⟨ret_bool (by first | rfl | (simp; done) | (simp [HR.out]; done) | (simp [HR.out]; omega) | (simp; omega)), rfl⟩
      · have g : (16 : Int) < n := by omega
        go_wp2_with fail
        go_ret
        exact ⟨ret_bool (by first | rfl | (simp; done) | (simp [HR.out]; done) | (simp [HR.out]; omega) | (simp; omega)), rfl⟩

set_option maxHeartbeats 8000000 in
set_option maxRecDepth 100000 in
theorem areextents_any (v : Value) (l : List Xt) (w : World) (hA : XtsAt w v l) (h1 : l.length * 8 ≤ 140737488355328) (h2 : ∀ j, j < l.length → xtFits (l.getD j Xt.nought)) :
    Calls Try.prog 24 #[v] w fun e w' => e = .returned (.bool (extOk l)) ∧ Below w.heap.size w w' := by
  obtain ⟨a, c, rfl, h3⟩ := hA
  obtain ⟨n, hn⟩ : ∃ n, n = l.length := ⟨_, rfl⟩
  have hni : (n : Int) ≤ 17592186044416 := by omega
  rw [← hn] at h3 h2 ⊢
  have HN := Lib.hid hn
  have H2 := Lib.hid h2
  have H3 := Lib.hid h3
  have HB0 : Hid (Below w.heap.size w w) := Lib.hid (Below.refl _ _)
  clear hn h1 h2 h3
  go_enter Try.func24, Try.ntmps24
  go_wp2_with fail
  go_loopw [7] (fun i wr => ∃ k : Nat, (k : Int) ≤ n ∧ i = .int .i64 k ∧ Hid (∀ j, j < k → xtAt l j = true) ∧ Hid (Below w.heap.size w wr)) (fun i _ => n - (intOf i).toNat)
  case atStart => exact ⟨0, by omega, rfl, Lib.hid fun j hj => absurd hj (by omega), HB0⟩
  case round =>
    clear HB0
    obtain ⟨k, hk, rfl, HK, HB⟩ := hrel
    by_cases hlt : k < n
    · have hd : decide (k < n) = true := decide_eq_true hlt
      obtain ⟨b, o, rfl, hbl, hcl⟩ := H3.out (by omega)
      obtain ⟨x, hx⟩ : ∃ x, x = l.getD k Xt.nought := ⟨_, rfl⟩
      have hL := (hcl k hlt).below HB.out hbl
      have hf := H2.out k hlt
      rw [← hx] at hL hf
      obtain ⟨c0, c1⟩ := hL.xt
      obtain ⟨⟨f0, f1⟩, f2, f3⟩ := hf
      obtain ⟨i, hi⟩ : ∃ i, i = x.id := ⟨_, rfl⟩
      obtain ⟨bb, hbb⟩ : ∃ i, i = x.bl := ⟨_, rfl⟩
      rw [← hi] at c0 f0 f1
      rw [← hbb] at c1 f2 f3
      have hbr : b < wr.heap.size := Nat.lt_of_lt_of_le hbl HB.out.size
      have HBa := Lib.hid (below_box HB.out (.cells #[.int .u32 i, .int .u32 bb] 50))
      have HZ := Lib.hid (Blk.new wr 50 [.int .u32 i, .int .u32 bb])
      have HA : Hid (xtAt l k = decide (i < 16 ∧ 1 ≤ bb ∧ bb ≤ 1024 ∧ (0 < k → (l.getD (k - 1) Xt.nought).id < i))) := Lib.hid (by
        unfold xtAt; rw [← hx, ← hi, ← hbb])
      have HPr : Hid (0 < k → ∃ q : Int, q = (l.getD (k - 1) Xt.nought).id ∧ wr.cell? ⟨b, o + (k - 1) * 2, none⟩ = some (.int .u32 q) ∧ 0 ≤ q ∧ q < 4294967296) := Lib.hid fun h0 =>
        ⟨_, rfl, ((hcl (k - 1) (by omega)).below HB.out hbl).xt.1, (H2.out (k - 1) (by omega)).1.1, (H2.out (k - 1) (by omega)).1.2⟩
      clear hL hx hi hbb hcl
      have hbad : xtAt l k = false → (extOk l = false) := fun h => by
        unfold extOk
        exact allN_false (k := k) (by rw [← HN.out]; exact hlt) h
      have HBAD := Lib.hid hbad
      clear hbad
      by_cases g1 : i < 16
      · by_cases g2 : 1 ≤ bb
        · by_cases g3 : bb ≤ 1024
          · rcases Nat.eq_zero_or_pos k with h0 | h0
            · have HK2 : Hid (∀ j, j < k + 1 → xtAt l j = true) := Lib.hid fun j hj => by
                by_cases he : j = k
                · subst he; rw [HA.out]; exact decide_eq_true ⟨g1, g2, g3, fun h => by omega⟩
                · exact HK.out j (by omega)
              have hd0 : decide (0 < k) = false := decide_eq_false (by omega)
              clear HPr HA HK HBAD h0
              go_upto_region 6 with (fail)
              go_quiet (fail)
              go_wp2_with fail
              clear c0 c1
              go_roundw
              case rel => exact ⟨k + 1, by omega, by go_num, HK2, Lib.hid (below_drew HBa.out _)⟩
              case measure => simp [intOf]; omega
            · obtain ⟨q, hq, cq, q0, q1⟩ := HPr.out h0
              have hd0 : decide (0 < k) = true := decide_eq_true h0
              have hw1 : IntKind.i64.wrap ((k : Int) - 1) = (k : Int) - 1 := by rw [IntKind.wrap_i64]; omega
              have hw2 : 1 ≤ (k : Int) := by omega
              have hw3 : ((k : Int) - 1).toNat = k - 1 := by omega
              have hw4 : (k : Int) - 1 < n := by omega
              have hw5 : 0 ≤ (k : Int) - 1 := by omega
              by_cases g4 : q < i
              · have HK2 : Hid (∀ j, j < k + 1 → xtAt l j = true) := Lib.hid fun j hj => by
                  by_cases he : j = k
                  · subst he; rw [HA.out]; exact decide_eq_true ⟨g1, g2, g3, fun h => by rw [← hq]; exact g4⟩
                  · exact HK.out j (by omega)
                have g5 : ¬ i ≤ q := by omega
                have hdi : decide (i ≤ q) = false := decide_eq_false g5
                clear HPr HA HK HBAD h0 hq
                go_upto_region 6 with (fail)
                go_quiet (fail)
                go_wp2_with fail
                clear c0 c1 cq hw1 hw2 hw3 hw4 hw5
                go_roundw
                case rel => exact ⟨k + 1, by omega, by go_num, HK2, Lib.hid (below_drew HBa.out _)⟩
                case measure => simp [intOf]; omega
              · have g5 : i ≤ q := by omega
                have hdi : decide (i ≤ q) = true := decide_eq_true g5
                have HR : Hid (extOk l = false) := Lib.hid (HBAD.out (by rw [HA.out]; exact decide_eq_false (fun h => by have := h.2.2.2 h0; rw [← hq] at this; exact g4 this)))
                clear HPr HA HK HBAD h0 hq
                go_upto_region 6 with (fail)
                go_quiet (fail)
                go_wp2_with fail
                go_ret
                exact ⟨ret_bool HR.out.symm, below_drew HBa.out _⟩
          · have HR : Hid (extOk l = false) := Lib.hid (HBAD.out (by rw [HA.out]; exact decide_eq_false (fun h => g3 h.2.2.1)))
            have g4 : 1024 < bb := by omega
            clear HPr HA HK HBAD
            go_wp2_with fail
            go_ret
            exact ⟨ret_bool HR.out.symm, HBa.out⟩
        · have HR : Hid (extOk l = false) := Lib.hid (HBAD.out (by rw [HA.out]; exact decide_eq_false (fun h => g2 h.2.1)))
          have g4 : bb < 1 := by omega
          clear HPr HA HK HBAD
          go_wp2_with fail
          go_ret
          exact ⟨ret_bool HR.out.symm, HBa.out⟩
      · have HR : Hid (extOk l = false) := Lib.hid (HBAD.out (by rw [HA.out]; exact decide_eq_false (fun h => g1 h.1)))
        have g4 : 16 ≤ i := by omega
        clear HPr HA HK HBAD
        go_wp2_with fail
        go_ret
        exact ⟨ret_bool HR.out.symm, HBa.out⟩
    · have hd : decide (k < n) = false := decide_eq_false hlt
      have HR : Hid (extOk l = true) := Lib.hid (allN_true fun j hj => HK.out j (by rw [← HN.out] at hj; omega))
      clear hlt HK
      go_wp2_with fail
      go_ret
      exact ⟨ret_bool HR.out.symm, HB.out⟩
end Go.Proofs.Ytmfebmiigkmkbaa
