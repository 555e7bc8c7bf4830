/- Large, of the statements: not more than 20 objects, if it says no. -/
import Derived.Test.YtfnofolahhoggaaGO
import Derived.LoopTactic
set_option linter.unusedVariables false
set_option linter.unusedSimpArgs false
namespace Go.Proofs.Ytfnofolahhoggaa
open Go Go.RowKit Oj

def LargePost (n : Nat) (w : World) (e : Ending) (w' : World) : Prop := ∃ b, e = .returned (.bool b) ∧ (b = false → n ≤ 20) ∧ Below w.heap.size w w'
set_option maxHeartbeats 16000000 in
set_option maxRecDepth 100000 in
theorem large_any (v : Value) (l : List Ob) (hf : obsFit l) (w : World) (hA : ObsAt w v l) : Calls Try.prog 6 #[v] w (LargePost l.length w) := by
  obtain ⟨a, c, rfl, h2⟩ := hA.get
  obtain ⟨n, hn⟩ : ∃ n, n = l.length := ⟨_, rfl⟩
  have HF := Lib.hid (show ∀ j, j < n → obFits (l.getD j Ob.nought) from by rw [hn]; exact hf.2)
  have hni : (n : Int) ≤ 140737488355328 := by have := hf.1; omega
  rw [← hn] at h2 ⊢
  have H2 := Lib.hid h2
  clear hn h2 hf hA
  go_enter Try.func6, Try.ntmps6
  go_wp2_with fail
  go_loopw [3, 4] (fun t3 i wr => ∃ (k : Nat) (N : Int), (k : Int) ≤ n ∧ (k : Int) ≤ 40 ∧ i = .int .i64 k ∧ t3 = .int .i64 N ∧ Hid (Below w.heap.size w wr)) (fun _ i _ => n - (intOf i).toNat)
  case atStart => exact ⟨0, 0, by omega, by omega, rfl, rfl, Lib.hid (Below.refl _ _)⟩
  case round =>
    obtain ⟨k, N, hk, hk4, rfl, rfl, HB⟩ := hrel
    by_cases hlt : k < n ∧ k < 40
    · obtain ⟨hlt, h40⟩ := hlt
      have hd : decide (k < n) = true := decide_eq_true hlt
      have h40' : (k : Int) < 40 := by omega
      obtain ⟨b, o, rfl, hbl, hcl⟩ := H2.out (by omega)
      obtain ⟨x, hx⟩ : ∃ x, x = l.getD k Ob.nought := ⟨_, rfl⟩
      obtain ⟨vs, hL, hS⟩ := hcl k hlt
      have hfx := HF.out k hlt
      rw [← hx] at hL hS hfx
      obtain ⟨a2, cc, rfl, hsy⟩ := hS.get
      obtain ⟨m, hm⟩ : ∃ m, m = x.syms.length := ⟨_, rfl⟩
      have hmi : (m : Int) ≤ 1599289640401 := by have := hfx.2.1; omega
      rw [← hm] at hsy
      have HLx : Hid (∀ W, Below w.heap.size w W → W.cell? ⟨b, o + k * 2 + 1, none⟩ = some (.slice a2 m cc)) := Lib.hid (fun W hW => by
        have := (hL.below hW hbl).ob.2
        rw [← hm] at this
        exact this)
      have HSY := Lib.hid hsy
      have HFS := Lib.hid (show ∀ j, j < m → syFits (x.syms.getD j Sy.nought) from by rw [hm]; exact hfx.2.2)
      have c1 := HLx.out wr HB.out
      have hbr : b < wr.heap.size := Nat.lt_of_lt_of_le hbl HB.out.size
      clear hcl hL hS hx hfx hsy hm
      go_wp2_with fail
      clear c1 hbr
      go_loopw [3, 5] (fun t3 i wr => ∃ (j : Nat) (N : Int), (j : Int) ≤ m ∧ (j : Int) ≤ 200 ∧ i = .int .i64 j ∧ t3 = .int .i64 N ∧ Hid (Below w.heap.size w wr)) (fun _ i _ => m - (intOf i).toNat)
      case atStart => exact ⟨0, _, by omega, by omega, rfl, rfl, HB⟩
      case round =>
        clear HB
        obtain ⟨j, N, hj, hj2, rfl, rfl, HB⟩ := hrel
        have c1 := HLx.out wr HB.out
        by_cases hjm : j < m ∧ j < 200
        · obtain ⟨hjm, h200⟩ := hjm
          have hd2 : decide (j < m) = true := decide_eq_true hjm
          have h200' : (j : Int) < 200 := by omega
          obtain ⟨b2, o2, rfl, hbl2, hcl2⟩ := HSY.out (by omega)
          obtain ⟨vr, vn, hL, ⟨ra, rc, rfl, hrl⟩, ⟨na, nc, rfl, _⟩⟩ := hcl2 j hjm
          have hfs := HFS.out j hjm
          obtain ⟨s, hs⟩ : ∃ s, s = x.syms.getD j Sy.nought := ⟨_, rfl⟩
          rw [← hs] at hL hfs hrl
          obtain ⟨c2, c3, c4, c5, c6, c7, c8⟩ := (hL.below HB.out hbl2).sy
          obtain ⟨f1, ⟨f2, f3⟩, ⟨f4, f5⟩, ⟨f6, f7⟩, f8, f9, f10, f11, f12⟩ := hfs
          obtain ⟨u0, g0⟩ : ∃ u, u = tx s.name := ⟨_, rfl⟩
          obtain ⟨u1, g1⟩ : ∃ u, u = s.bind := ⟨_, rfl⟩
          obtain ⟨u2, g2⟩ : ∃ u, u = s.kind := ⟨_, rfl⟩
          obtain ⟨u3, g3⟩ : ∃ u, u = s.size := ⟨_, rfl⟩
          obtain ⟨u4, g4⟩ : ∃ u, u = tx s.bytes := ⟨_, rfl⟩
          obtain ⟨rn, hrn⟩ : ∃ y, y = s.rels.length := ⟨_, rfl⟩
          obtain ⟨nn, hnn⟩ : ∃ y, y = s.notes.length := ⟨_, rfl⟩
          have hu0 : (u0.size : Int) ≤ 140737488355328 := by rw [g0, tx_size]; omega
          have hu4 : (u4.size : Int) ≤ 140737488355328 := by rw [g4, tx_size]; omega
          rw [← hrn] at c7 hrl f9
          rw [← hnn] at c8 f10
          have hrni : (rn : Int) ≤ 4398046511104 := by omega
          have hnni : (nn : Int) ≤ 11728124029610 := by omega
          rw [← g0] at c2
          rw [← g1] at c3
          rw [← g2] at c4
          rw [← g3] at c5
          rw [← g4] at c6
          have HFR := Lib.hid (show ∀ q, q < rn → rlFits (s.rels.getD q Rl.nought) from by rw [hrn]; exact f11)
          have HRL := Lib.hid hrl
          have hbr : b < wr.heap.size := Nat.lt_of_lt_of_le hbl HB.out.size
          have hbr2 : b2 < wr.heap.size := Nat.lt_of_lt_of_le hbl2 HB.out.size
          have HBa := Lib.hid (below_box HB.out (.cells #[.string u0, .int .u8 u1, .int .u8 u2, .int .u32 u3, .string u4, .slice ra rn rc, .slice na nn nc] 50))
          have HYa := Lib.hid (Blk.new wr 50 [.string u0, .int .u8 u1, .int .u8 u2, .int .u32 u3, .string u4, .slice ra rn rc, .slice na nn nc])
          clear hcl2 hL hs g0 g1 g2 g3 g4 hrn hnn f1 f2 f3 f4 f5 f6 f7 f8 f9 f10 f11 f12 hrl
          obtain ⟨gs, hgs⟩ : ∃ gs, gs = wr.heap.size := ⟨_, rfl⟩
          rw [← hgs] at HYa
          have HGS := Lib.hid hgs
          clear hgs
          go_wp2_with fail
          clear c1 c2 c3 c4 c5 c6 c7 c8 hbr hbr2
          rw [← HGS.out]
          go_loopw [3, 7] (fun t3 i wr => ∃ (q : Nat) (N : Int), (q : Int) ≤ rn ∧ (q : Int) ≤ 1100 ∧ i = .int .i64 q ∧ t3 = .int .i64 N ∧ Hid (Below w.heap.size w wr) ∧ Hid (Blk wr gs 50 [.string u0, .int .u8 u1, .int .u8 u2, .int .u32 u3, .string u4, .slice ra rn rc, .slice na nn nc])) (fun _ i _ => rn - (intOf i).toNat)
          case atStart => exact ⟨0, _, by omega, by omega, rfl, rfl, HBa, HYa⟩
          case round =>
            clear HB HBa HYa HGS
            obtain ⟨q, N, hq, hq2, rfl, rfl, HB, HY⟩ := hrel
            have d5 : wr.cell? ⟨gs, 5, none⟩ = some (.slice ra rn rc) := HY.out.cell 5
            by_cases hqm : q < rn ∧ q < 1100
            · obtain ⟨hqm, h1100⟩ := hqm
              have hd3 : decide (q < rn) = true := decide_eq_true hqm
              have h1100' : (q : Int) < 1100 := by omega
              obtain ⟨b3, o3, rfl, hbl3, hcl3⟩ := HRL.out (by omega)
              have e2 := ((hcl3 q hqm).below HB.out hbl3).rl.2.2.1
              obtain ⟨U, hU⟩ : ∃ U, U = tx (s.rels.getD q Rl.nought).name := ⟨_, rfl⟩
              have hUs : (U.size : Int) ≤ 140737488355328 := by rw [hU, tx_size]; have := (HFR.out q hqm).2.2.2; omega
              rw [← hU] at e2
              have hbr3 : b3 < wr.heap.size := Nat.lt_of_lt_of_le hbl3 HB.out.size
              clear hcl3 hU
              go_wp2_with fail
              clear d5 e2 hbr3 hUs
              go_roundw
              case rel => exact ⟨q + 1, _, by omega, by omega, by go_num, rfl, HB, HY⟩
              case measure => simp [intOf]; omega
            · have hex : decide (q < rn) = false ∨ (decide (q < rn) = true ∧ (1100 : Int) ≤ (q : Int)) := by
                by_cases h1 : q < rn
                · exact .inr ⟨decide_eq_true h1, by omega⟩
                · exact .inl (decide_eq_false h1)
              clear hqm
              rcases hex with hex | ⟨hex, hex2⟩
              all_goals
                go_wp2_with fail
                clear d5
                go_roundw
                case rel => exact ⟨j + 1, _, by omega, by omega, by go_num, rfl, HB⟩
                case measure => simp [intOf]; omega
        · have hex : decide (j < m) = false ∨ (decide (j < m) = true ∧ (200 : Int) ≤ (j : Int)) := by
            by_cases h1 : j < m
            · exact .inr ⟨decide_eq_true h1, by omega⟩
            · exact .inl (decide_eq_false h1)
          have hbr : b < wr.heap.size := Nat.lt_of_lt_of_le hbl HB.out.size
          clear hjm
          rcases hex with hex | ⟨hex, hex2⟩
          all_goals
            go_wp2_with fail
            clear c1 hbr
            go_roundw
            case rel => exact ⟨k + 1, _, by omega, by omega, by go_num, rfl, HB⟩
            case measure => simp [intOf]; omega
    · have hex : decide (k < n) = false ∨ (decide (k < n) = true ∧ (40 : Int) ≤ (k : Int)) := by
        by_cases h1 : k < n
        · exact .inr ⟨decide_eq_true h1, by omega⟩
        · exact .inl (decide_eq_false h1)
      clear hlt
      by_cases h20 : (20 : Int) < (n : Int)
      · rcases hex with hex | ⟨hex, hex2⟩
        all_goals
          go_wp2_with fail
          go_ret
          exact ⟨_, rfl, (fun h => by cases h), HB.out⟩
      · have h20' : (n : Int) ≤ 20 := by omega
        clear h20
        have hex := hex.resolve_right (fun h => by omega)
        go_wp2_with fail
        go_ret
        exact ⟨_, rfl, (fun _ => by omega), HB.out⟩
end Go.Proofs.Ytfnofolahhoggaa
