/- Steps of a script: how they lie in memory; Heavy. -/
import Derived.Test.YtfickpjecehboaaSL
import Derived.LoopTactic
set_option linter.unusedVariables false
namespace Go.Proofs.Ytfickpjecehboaa
open Go.RowKit

/-- A step of a script. -/
structure Stp where
  op : Int
  ad : Int
  n : Int
  tx : ByteArray
def Stp.cells (x : Stp) : List Value := [.int .i64 x.op, .int .u32 x.ad, .int .i64 x.n, .string x.tx]
def Stp.nought : Stp := ⟨0, 0, 0, ⟨#[]⟩⟩
def Stp.fits (x : Stp) : Prop := (0 ≤ x.ad ∧ x.ad < 4294967296) ∧ (-9223372036854775808 ≤ x.n ∧ x.n ≤ 9223372036854775807) ∧ x.tx.size ≤ 140737488351232
def Stp.big (x : Stp) : Bool := decide (2048 < x.n) && decide (x.n ≤ 1048576)

def Lie (w : World) (g o : Nat) (l : List Stp) : Prop := ∀ k, k < l.length → ∀ (j : Nat) (v : Value), (l.getD k Stp.nought).cells[j]? = some v → w.cell? ⟨g, o + k * 4 + j, none⟩ = some v
theorem Lie.below {w w' : World} {B g o : Nat} {l : List Stp} (h : Lie w g o l) (hb : Below B w w') (hg : g < B) : Lie w' g o l := fun k hk j v hv => (hb.cell (p := ⟨g, o + k * 4 + j, none⟩) hg).trans (h k hk j v hv)
theorem Lie.four {w : World} {g o : Nat} {l : List Stp} (h : Lie w g o l) (k : Nat) (hk : k < l.length) {x : Stp} (hx : l.getD k Stp.nought = x) :
    w.cell? ⟨g, o + k * 4, none⟩ = some (.int .i64 x.op) ∧ w.cell? ⟨g, o + k * 4 + 1, none⟩ = some (.int .u32 x.ad) ∧ w.cell? ⟨g, o + k * 4 + 2, none⟩ = some (.int .i64 x.n) ∧ w.cell? ⟨g, o + k * 4 + 3, none⟩ = some (.string x.tx) := by
  subst hx
  exact ⟨h k hk 0 _ rfl, h k hk 1 _ rfl, h k hk 2 _ rfl, h k hk 3 _ rfl⟩

def sumTx (l : List Stp) : Nat := (l.map fun x => x.tx.size).sum
def heavyL (l : List Stp) : Bool := (l.take 300).any Stp.big || (decide (120 < l.length) || decide (8192 < sumTx (l.take 300)))
theorem sum_take (l : List Stp) (k : Nat) (h : k < l.length) : sumTx (l.take (k + 1)) = sumTx (l.take k) + (l.getD k Stp.nought).tx.size := by
  unfold sumTx
  rw [List.take_succ_eq_append_getElem h, List.map_append, List.sum_append, List.getD_eq_getElem?_getD, List.getElem?_eq_getElem h]
  simp
theorem big_at (l : List Stp) (k : Nat) (h : k < l.length) (h3 : k < 300) (hb : (l.getD k Stp.nought).big = true) : heavyL l = true := by
  unfold heavyL
  have : (l.take 300).any Stp.big = true := by
    rw [List.any_eq_true]
    refine ⟨l.getD k Stp.nought, ?_, hb⟩
    rw [List.getD_eq_getElem?_getD, List.getElem?_eq_getElem h]
    exact List.mem_take_iff_getElem.2 ⟨k, by omega, rfl⟩
  rw [this]; rfl
theorem big_take (l : List Stp) (k : Nat) (h : k < l.length) : (l.take (k + 1)).any Stp.big = ((l.take k).any Stp.big || (l.getD k Stp.nought).big) := by
  rw [List.take_succ_eq_append_getElem h, List.any_append, List.getD_eq_getElem?_getD, List.getElem?_eq_getElem h]
  simp
theorem not_heavy {l : List Stp} (h : heavyL l = false) : l.length ≤ 120 ∧ sumTx l ≤ 8192 ∧ ∀ k, k < l.length → (l.getD k Stp.nought).big = false := by
  have hl : l.length ≤ 120 := by
    unfold heavyL at h
    simp at h
    exact h.2.1
  have ht : l.take 300 = l := List.take_of_length_le (by omega)
  refine ⟨hl, ?_, fun k hk => ?_⟩
  · unfold heavyL at h
    rw [ht] at h
    simp at h
    exact h.2.2
  · cases hb : (l.getD k Stp.nought).big
    · rfl
    · rw [big_at l k hk (by omega) hb] at h; cases h
theorem sum_le (l : List Stp) (hF : ∀ k, k < l.length → (l.getD k Stp.nought).fits) : ∀ k, k ≤ l.length → k ≤ 300 → sumTx (l.take k) ≤ k * 140737488351232
  | 0, _, _ => by simp [sumTx]
  | k + 1, h, h3 => by
    have := sum_le l hF k (by omega) (by omega)
    rw [sum_take l k (by omega)]
    have := (hF k (by omega)).2.2
    omega

set_option maxHeartbeats 2000000 in
set_option maxRecDepth 100000 in
theorem heavy_some (l : List Stp) (g o c : Nat) (w : World) (hl : l.length ≤ 9223372036854775807) (hg : g < w.heap.size) (hL : Lie w g o l) (hF : ∀ k, k < l.length → (l.getD k Stp.nought).fits) :
    Calls Try.prog 7 #[.slice (some ⟨g, o, none⟩) l.length c] w fun e w' => e = .returned (.bool (heavyL l)) ∧ w' = w := by
  have HL := Lib.hid hL
  have HF := Lib.hid hF
  have HN := Lib.hid hl
  clear hL hF hl
  obtain ⟨N, hN⟩ : ∃ N, N = l.length := ⟨_, rfl⟩
  rw [← hN]
  have HNN := Lib.hid hN
  clear hN
  go_enter Try.func7, Try.ntmps7
  go_wp2
  go_loopw [3, 4] (fun t3 t4 wr => ∃ k : Nat, Hid (k ≤ N ∧ k ≤ 300) ∧ t4 = .int .i64 k ∧ (∃ s : Int, t3 = .int .i64 s ∧ Hid (s = (sumTx (l.take k) : Nat))) ∧ Hid ((l.take k).any Stp.big = false) ∧ wr = w) (fun _ t4 _ => 300 - (intOf t4).toNat)
  case atStart => exact ⟨0, Lib.hid ⟨Nat.zero_le _, by omega⟩, rfl, ⟨0, rfl, Lib.hid rfl⟩, Lib.hid rfl, rfl⟩
  case round =>
    obtain ⟨k, HK, rfl, ⟨s, rfl, HS⟩, HB, rfl⟩ := hrel
    by_cases hlt : (k : Int) < (N : Int)
    · by_cases h3 : (k : Int) < 300
      · have hkl : k < l.length := by have := HNN.out; omega
        obtain ⟨⟨op, ad, n, tx⟩, hx⟩ : ∃ x, l.getD k Stp.nought = x := ⟨_, rfl⟩
        obtain ⟨c0, c1, c2, c3⟩ := HL.out.four k hkl hx
        have hs := sum_take l k hkl
        have hbt := big_take l k hkl
        have hle := sum_le l HF.out (k + 1) hkl (by omega)
        have hba := big_at l k hkl (by omega)
        rw [hx] at hs hbt hba
        obtain ⟨z, hz⟩ : ∃ z : Int, z = s + (tx.size : Int) := ⟨_, rfl⟩
        have e1 : IntKind.i64.wrap (s + (tx.size : Int)) = z := by
          rw [IntKind.wrap_i64]; have := HS.out; simp only at hs; omega
        have HZ : Hid (z = (sumTx (l.take (k + 1)) : Nat)) := Lib.hid (by have := HS.out; simp only at hs; omega)
        have e2 : IntKind.i64.wrap ((k : Int) + 1) = (k : Int) + 1 := by rw [IntKind.wrap_i64]; omega
        have HBT := Lib.hid hbt
        have HBA := Lib.hid hba
        clear hs hbt hle hba hz hx hkl
        by_cases g1 : (2048 : Int) < n
        · by_cases g2 : n ≤ 1048576
          · have hr : heavyL l = true := HBA.out (by simp only [Stp.big]; simp [g1, g2])
            have HR := Lib.hid hr
            clear hr
            go_wp2
            go_ret
            exact ⟨by rw [HR.out]; rfl, rfl⟩
          · have HB2 : Hid ((l.take (k + 1)).any Stp.big = false) := Lib.hid (by rw [HBT.out, HB.out]; simp [Stp.big, g2])
            go_wp2
            go_roundw
            case rel => exact ⟨k + 1, Lib.hid (by omega), by go_num, ⟨z, rfl, HZ⟩, HB2, trivial⟩
            case measure => simp [intOf]; omega
        · have HB2 : Hid ((l.take (k + 1)).any Stp.big = false) := Lib.hid (by rw [HBT.out, HB.out]; simp [Stp.big, g1])
          go_wp2
          go_roundw
          case rel => exact ⟨k + 1, Lib.hid (by omega), by go_num, ⟨z, rfl, HZ⟩, HB2, trivial⟩
          case measure => simp [intOf]; omega
      · have hk3 : k = 300 := by have := HK.out; omega
        have hr : heavyL l = true := by
          unfold heavyL
          rw [show decide (120 < l.length) = true by have := HNN.out; simp; omega]
          simp
        have hN : (120 : Int) < (N : Int) := by omega
        have HR := Lib.hid hr
        clear hr
        go_wp2
        go_ret
        exact ⟨by rw [HR.out]; rfl, rfl⟩
    · have hkN : k = N := by have := HK.out; omega
      have ht : l.take k = l := List.take_of_length_le (by have := HNN.out; omega)
      have ht3 : l.take 300 = l := List.take_of_length_le (by have := HNN.out; have := HK.out; omega)
      have hr : heavyL l = (decide ((120 : Int) < (N : Int)) || decide ((8192 : Int) < s)) := by
        have hB := HB.out
        have hS := HS.out
        rw [ht] at hB hS
        unfold heavyL
        rw [ht3, hB, ← HNN.out, hS, Bool.false_or]
        congr 1
        · rw [Bool.eq_iff_iff]; simp; omega
        · rw [Bool.eq_iff_iff]; simp; omega
      have HR := Lib.hid hr
      clear hr ht ht3 hkN
      by_cases g1 : (120 : Int) < (N : Int)
      · go_wp2
        go_ret
        exact ⟨by rw [HR.out]; simp [g1], rfl⟩
      · by_cases g2 : (8192 : Int) < s
        · go_wp2
          go_ret
          exact ⟨by rw [HR.out]; simp [g2], rfl⟩
        · go_wp2
          go_ret
          exact ⟨by rw [HR.out]; simp [g2]; omega, rfl⟩

set_option maxHeartbeats 2000000 in
set_option maxRecDepth 100000 in
theorem heavy_nil (w : World) : Calls Try.prog 7 #[.slice none 0 0] w fun e w' => e = .returned (.bool false) ∧ w' = w := by
  go_enter Try.func7, Try.ntmps7
  go_wp2
  go_loopw [3, 4] (fun t3 t4 wr => t4 = .int .i64 0 ∧ t3 = .int .i64 0 ∧ wr = w) (fun _ t4 _ => 0)
  case atStart => exact ⟨rfl, rfl, rfl⟩
  case round =>
    obtain ⟨rfl, rfl, rfl⟩ := hrel
    go_wp2
    go_ret
    exact ⟨rfl, rfl⟩
/-- Too many: whatever they are. -/
theorem heavy_many (l : List Stp) (h : 120 < l.length) : heavyL l = true := by
  unfold heavyL
  rw [show decide (120 < l.length) = true by simpa using h]
  simp
end Go.Proofs.Ytfickpjecehboaa
