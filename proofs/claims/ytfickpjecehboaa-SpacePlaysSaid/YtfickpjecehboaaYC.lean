/- SpaceKeeps: all cases together. -/
import Derived.Test.YtfickpjecehboaaVB
set_option linter.unusedVariables false
namespace Go.Proofs.Ytfickpjecehboaa
open Go.RowKit Go.Maps

theorem heavy_at (l : List Stp) (a0 : Option Addr) (c : Nat) (w : World) (hl : l.length ≤ 9223372036854775807) (hF : ∀ k, k < l.length → (l.getD k Stp.nought).fits)
    (hA : ∀ k, k < l.length → ∃ g o, a0 = some ⟨g, o, none⟩ ∧ g < w.heap.size ∧ Lie w g o l) : Calls Try.prog 7 #[.slice a0 l.length c] w fun e w' => e = .returned (.bool (heavyL l)) ∧ w' = w := by
  by_cases h0 : l = []
  · subst h0
    exact heavy_empty a0 c w
  · have : 0 < l.length := List.length_pos_iff.2 h0
    obtain ⟨g, o, rfl, hg, hL⟩ := hA 0 this
    exact heavy_some l g o c w hl hg hL hF
theorem tx_le (l : List Stp) (k : Nat) (hk : k < l.length) : (l.getD k Stp.nought).tx.size ≤ sumTx l := by
  have h := sum_take l k hk
  have h2 : sumTx l = sumTx (l.take (k + 1)) + sumTx (l.drop (k + 1)) := by
    unfold sumTx
    rw [← List.sum_append, ← List.map_append, List.take_append_drop]
  omega

set_option maxHeartbeats 1000000 in
set_option maxRecDepth 100000 in
theorem keeps_heavy (v : Value) (ad : Int) (s : ByteArray) (st : Bool) (w : World) (hHv : Calls Try.prog 7 #[v] w fun e w' => e = .returned (.bool true) ∧ w' = w) :
    Calls Try.prog 4 #[v, .int .u32 ad, .string s, .bool st] w fun e w' => e = .returned (.bool true) ∧ Below w.heap.size w w' := by
  go_enter Try.func4, Try.ntmps4
  go_wp2_with fail
  refine hHv.mono ?_; rintro e w0 ⟨rfl, hw0⟩
  subst hw0
  go_wp2_with fail
  refine (alive_any _).mono ?_; rintro e w1 ⟨rfl, hb⟩
  go_wp2
  go_ret
  exact ⟨rfl, hb⟩
set_option maxHeartbeats 1000000 in
set_option maxRecDepth 100000 in
theorem keeps_long (v : Value) (ad : Int) (s : ByteArray) (st : Bool) (w : World) (hs : (1000 : Int) < (s.size : Int)) (hHv : Calls Try.prog 7 #[v] w fun e w' => e = .returned (.bool false) ∧ w' = w) :
    Calls Try.prog 4 #[v, .int .u32 ad, .string s, .bool st] w fun e w' => e = .returned (.bool true) ∧ Below w.heap.size w w' := by
  go_enter Try.func4, Try.ntmps4
  go_wp2_with fail
  refine hHv.mono ?_; rintro e w0 ⟨rfl, hw0⟩
  subst hw0
  go_wp2_with fail
  refine (alive_any _).mono ?_; rintro e w1 ⟨rfl, hb⟩
  go_wp2
  go_ret
  exact ⟨rfl, hb⟩

theorem keeps_any (l : List Stp) (a0 : Option Addr) (c : Nat) (x : Int) (s : ByteArray) (st : Bool) (w : World) (hl : l.length ≤ 9223372036854775807) (hF : ∀ k, k < l.length → (l.getD k Stp.nought).fits)
    (hA : ∀ k, k < l.length → ∃ g o, a0 = some ⟨g, o, none⟩ ∧ g < w.heap.size ∧ Lie w g o l) (h0 : 0 ≤ x) (h1 : x < 4294967296) :
    Calls Try.prog 4 #[.slice a0 l.length c, .int .u32 x, .string s, .bool st] w fun e w' => e = .returned (.bool true) ∧ Below w.heap.size w w' := by
  have hHv := heavy_at l a0 c w hl hF hA
  obtain ⟨ad, rfl⟩ : ∃ ad : Nat, x = (ad : Int) := ⟨x.toNat, by omega⟩
  cases hh : heavyL l with
  | true => rw [hh] at hHv; exact keeps_heavy _ _ s st w hHv
  | false =>
    rw [hh] at hHv
    by_cases hs : s.size ≤ 1000
    · obtain ⟨q1, q2, _⟩ := not_heavy hh
      exact keeps_light l a0 c ad s st w q1 (fun k hk => Nat.le_trans (tx_le l k hk) q2) hF hA (by omega) hs hHv
    · exact keeps_long _ _ s st w (by omega) hHv
end Go.Proofs.Ytfickpjecehboaa
