/- The statements' Long; the document's Same of lines that are the same. -/
import Derived.Test.YtlnnhgmkibjgmaaDoorX27
import Derived.LoopTactic
set_option linter.unusedVariables false
set_option linter.unusedSimpArgs false
namespace Go.Proofs.YtlnnhgmkibjgmaaDoor
open Go Go.RowKit Oj Al

def LongPost (n m : Nat) (w : World) (e : Ending) (w' : World) : Prop := ∃ b, e = .returned (.bool b) ∧ (b = false → n ≤ 1300 ∧ m ≤ 100) ∧ Below w.heap.size w w'
set_option maxHeartbeats 8000000 in
set_option maxRecDepth 100000 in
theorem long_any (l : List Ln) (vl : Value) (an : Option Addr) (m cn : Nat) (w : World) (hL : LinesAt w vl l) (hLf : lnsFit l) (hm : m ≤ 140737488355328) : Calls Tryd.prog 7 #[vl, .slice an m cn] w (LongPost l.length m w) := by
  obtain ⟨al, cl, rfl, h2⟩ := hL
  obtain ⟨n, hn⟩ : ∃ n, n = l.length := ⟨_, rfl⟩
  have hni : (n : Int) ≤ 2513169434916 := by have := hLf.1; omega
  have hmi : (m : Int) ≤ 140737488355328 := by omega
  have HFt : Hid (∀ k, k < n → lnFits (l.getD k Ln.nought)) := Lib.hid (fun k hk => hLf.2 k (by omega))
  rw [← hn] at h2 ⊢
  have H2 := Lib.hid h2
  clear h2 hn hLf hm
  go_enter Tryd.func7, Tryd.ntmps7
  go_wp2_with fail
  go_loopw [5, 6] (fun t5 i wr => ∃ (k : Nat) (N : Int), (k : Int) ≤ n ∧ (k : Int) ≤ 1200 ∧ i = .int .i64 k ∧ t5 = .int .i64 N ∧ (n : Int) ≤ N ∧ N ≤ (n : Int) + (k : Int) * 26388279066624 ∧ Hid (Below w.heap.size w wr)) (fun _ i _ => n - (intOf i).toNat)
  case atStart => exact ⟨0, n, by omega, by omega, rfl, rfl, by omega, by omega, Lib.hid (Below.refl _ _)⟩
  case round =>
    obtain ⟨k, N, hk, hk4, rfl, rfl, hN1, hN2, HB⟩ := hrel
    by_cases hlt : k < n ∧ k < 1200
    · obtain ⟨hlt, h12⟩ := hlt
      have hd : decide (k < n) = true := decide_eq_true hlt
      have h12' : (k : Int) < 1200 := by omega
      obtain ⟨b, o, rfl, hbl, hcl⟩ := H2.out (by omega)
      have hbr : b < wr.heap.size := Nat.lt_of_lt_of_le hbl HB.out.size
      have hL := ((hcl k hlt).below HB.out hbl)
      obtain ⟨f1, _, _, _, _, _, f7, f8⟩ := HFt.out k hlt
      obtain ⟨x, hx⟩ : ∃ x, x = l.getD k Ln.nought := ⟨_, rfl⟩
      rw [← hx] at hL f1 f7 f8
      obtain ⟨d0, _, _, _, _, _, d6, d7⟩ := hL.ln
      obtain ⟨y0, g0⟩ : ∃ u, u = tx x.label := ⟨_, rfl⟩
      obtain ⟨y6, g6⟩ : ∃ u, u = tx x.to := ⟨_, rfl⟩
      obtain ⟨y7, g7⟩ : ∃ u, u = tx x.name := ⟨_, rfl⟩
      rw [← g0] at d0
      rw [← g6] at d6
      rw [← g7] at d7
      have s0 : (y0.size : Int) ≤ 140737488355328 := by rw [g0, tx_size]; omega
      have s6 : (y6.size : Int) ≤ 140737488355328 := by rw [g6, tx_size]; omega
      have s7 : (y7.size : Int) ≤ 140737488355328 := by rw [g7, tx_size]; omega
      clear hL hcl hx g0 g6 g7 f1 f7 f8
      have hq0 : 0 ≤ ((y0.size : Int) + (y6.size : Int) + (y7.size : Int)) / 16 := by omega
      have hq1 : ((y0.size : Int) + (y6.size : Int) + (y7.size : Int)) / 16 ≤ 26388279066624 := by omega
      obtain ⟨Q, hQ⟩ : ∃ Q : Int, Q = ((y0.size : Int) + (y6.size : Int) + (y7.size : Int)) / 16 := ⟨_, rfl⟩
      rw [← hQ] at hq0 hq1
      have hN3 : N + Q ≤ (n : Int) + ((k : Int) + 1) * 26388279066624 := by omega
      go_upto_region 5 with (fail)
      go_quiet (fail)
      rw [← hQ]
      clear hQ
      go_wp2_with fail
      clear d0 d6 d7 s0 s6 s7
      go_roundw
      case rel => exact ⟨k + 1, N + Q, by omega, by omega, by go_num, rfl, by omega, by omega, Lib.hid (below_drew HB.out _)⟩
      case measure => simp [intOf]; omega
    · by_cases hkn : k < n
      · have hd : decide (k < n) = true := decide_eq_true hkn
        have hd2 : decide ((k : Int) < 1200) = false := decide_eq_false (fun h => hlt ⟨hkn, by omega⟩)
        have HE : Hid (∀ b : Bool, (b = false → N ≤ 1300 ∧ m ≤ 100) → LongPost n m w (.returned (.bool b)) wr) := Lib.hid (fun b hb => ⟨b, rfl, fun h => by have := hb h; omega, HB.out⟩)
        by_cases h13 : 1300 < N
        · clear hlt
          go_wp2_with fail
          go_ret
          exact HE.out true (fun h => by cases h)
        · have h13' : N ≤ 1300 := by omega
          by_cases h100 : 100 < m
          · have h100' : (100 : Int) < (m : Int) := by omega
            clear hlt h13
            go_wp2_with fail
            go_ret
            exact HE.out true (fun h => by cases h)
          · have h100' : (m : Int) ≤ 100 := by omega
            clear hlt h13
            go_wp2_with fail
            go_ret
            exact HE.out (decide (1300 < N) || decide (100 < (m : Int))) (fun h => ⟨h13', by omega⟩)
      · have hd : decide (k < n) = false := decide_eq_false hkn
        have HE : Hid (∀ b : Bool, (b = false → N ≤ 1300 ∧ m ≤ 100) → LongPost n m w (.returned (.bool b)) wr) := Lib.hid (fun b hb => ⟨b, rfl, fun h => by have := hb h; omega, HB.out⟩)
        by_cases h13 : 1300 < N
        · clear hlt
          go_wp2_with fail
          go_ret
          exact HE.out true (fun h => by cases h)
        · have h13' : N ≤ 1300 := by omega
          by_cases h100 : 100 < m
          · have h100' : (100 : Int) < (m : Int) := by omega
            clear hlt h13
            go_wp2_with fail
            go_ret
            exact HE.out true (fun h => by cases h)
          · have h100' : (m : Int) ≤ 100 := by omega
            clear hlt h13
            go_wp2_with fail
            go_ret
            exact HE.out (decide (1300 < N) || decide (100 < (m : Int))) (fun h => ⟨h13', by omega⟩)
set_option maxHeartbeats 8000000 in
set_option maxRecDepth 100000 in
/-- The document's Same, of lines that are the same. -/
theorem ksame_any (l : List Ln) (v v2 : Value) (w : World) (hA : LinesAt w v l) (hA2 : LinesAt w v2 l) (hl : l.length * 56 ≤ 140737488355328) : Calls Tryd.prog 12 #[v, v2] w fun e w' => e = .returned (.bool true) ∧ Below w.heap.size w w' := by
  obtain ⟨a, c, rfl, h2⟩ := hA
  obtain ⟨a2, c2, rfl, h4⟩ := hA2
  obtain ⟨n, hn⟩ : ∃ n, n = l.length := ⟨_, rfl⟩
  have hni : (n : Int) ≤ 2513169434916 := by omega
  rw [← hn] at h2 h4 ⊢
  have H2 := Lib.hid h2
  have H4 := Lib.hid h4
  clear h2 h4 hn hl
  go_enter Tryd.func12, Tryd.ntmps12
  go_wp2_with fail
  go_loopw [5] (fun i wr => ∃ k : Nat, (k : Int) ≤ n ∧ i = .int .i64 k ∧ Hid (Below w.heap.size w wr)) (fun i _ => n - (intOf i).toNat)
  case atStart => exact ⟨0, by omega, rfl, Lib.hid (Below.refl _ _)⟩
  case round =>
    obtain ⟨k, hk, rfl, HB⟩ := hrel
    by_cases hlt : k < n
    · have hd : decide (k < n) = true := decide_eq_true hlt
      obtain ⟨b, o, rfl, hbl, hcl⟩ := H2.out (by omega)
      obtain ⟨b2, o2, rfl, hbl2, hcl2⟩ := H4.out (by omega)
      have hbr : b < wr.heap.size := Nat.lt_of_lt_of_le hbl HB.out.size
      have hbr2 : b2 < wr.heap.size := Nat.lt_of_lt_of_le hbl2 HB.out.size
      obtain ⟨x, hx⟩ : ∃ x, x = l.getD k Ln.nought := ⟨_, rfl⟩
      have hL := ((hcl k hlt).below HB.out hbl)
      have hL2 := ((hcl2 k hlt).below HB.out hbl2)
      rw [← hx] at hL hL2
      obtain ⟨d0, d1, d2, d3, d4, d5, d6, d7⟩ := hL.ln
      obtain ⟨e0, e1, e2, e3, e4, e5, e6, e7⟩ := hL2.ln
      obtain ⟨y0, g0⟩ : ∃ u, u = tx x.label := ⟨_, rfl⟩
      obtain ⟨y1, g1⟩ : ∃ u, u = x.op := ⟨_, rfl⟩
      obtain ⟨y2, g2⟩ : ∃ u, u = x.d := ⟨_, rfl⟩
      obtain ⟨y3, g3⟩ : ∃ u, u = x.a := ⟨_, rfl⟩
      obtain ⟨y4, g4⟩ : ∃ u, u = x.b := ⟨_, rfl⟩
      obtain ⟨y5, g5⟩ : ∃ u, u = x.im := ⟨_, rfl⟩
      obtain ⟨y6, g6⟩ : ∃ u, u = tx x.to := ⟨_, rfl⟩
      obtain ⟨y7, g7⟩ : ∃ u, u = tx x.name := ⟨_, rfl⟩
      simp only [← g0, ← g1, ← g2, ← g3, ← g4, ← g5, ← g6, ← g7] at d0 d1 d2 d3 d4 d5 d6 d7 e0 e1 e2 e3 e4 e5 e6 e7
      clear hL hL2 hcl hcl2 hx g0 g1 g2 g3 g4 g5 g6 g7
      go_upto_region 6 with (fail)
      go_quiet (fail)
      go_wp2_with fail
      clear d0 d1 d2 d3 d4 d5 d6 d7 e0 e1 e2 e3 e4 e5 e6 e7
      go_roundw
      case rel => exact ⟨k + 1, by omega, by go_num, Lib.hid (below_drew HB.out _)⟩
      case measure => simp [intOf]; omega
    · have hd : decide (k < n) = false := decide_eq_false hlt
      clear hlt
      go_wp2_with fail
      go_ret
      exact ⟨rfl, HB.out⟩
end Go.Proofs.YtlnnhgmkibjgmaaDoor
