/- What the document's own Hex and Unhex (package aediculeref01) make of whatever they are called with: the same as package word's. -/
import Derived.Test.YthagofalneadjaaS
import Derived.Deep.AppendLies
import Derived.Deep.RegionHeld3
set_option linter.unusedVariables false
namespace Go.Proofs.Ythagofalneadjaa
open Go.RowKit

theorem own_two {B : Nat} {l : List UInt8} {x y : UInt8} {v : Value} {w : World} (h : w.ownsRow B 5 1 v (l.length + 2) (Lib.byteCells l ++ [.int .u8 (x.toNat : Int), .int .u8 (y.toNat : Int)])) : Own B (l ++ [x, y]) v w := by
  unfold Own
  rw [List.length_append, Lib.byteCells_append]
  exact h

theorem new_two (W : World) (x y : Value) : ∀ j u, [x, y][j]? = some u → (W.alloc (.cells #[x, y] 5)).cell? ((⟨W.heap.size, 0, none⟩ : Addr).add j) = some u := by
  intro j u hj
  have hnew : (W.alloc (.cells #[x, y] 5)).heap[W.heap.size]? = some (.cells #[x, y] 5 (0, 0)) := heap_alloc_new W _
  rcases j with _ | _ | j
  · simp at hj; subst hj
    show (W.alloc (.cells #[x, y] 5)).cell? ⟨W.heap.size, 0, none⟩ = _
    rw [Lib.cell_of_heap hnew]; rfl
  · simp at hj; subst hj
    show (W.alloc (.cells #[x, y] 5)).cell? ⟨W.heap.size, 0 + 1, none⟩ = _
    rw [Lib.cell_of_heap hnew]; rfl
  · simp at hj

theorem app_below_drew {B n : Nat} {l : List UInt8} {v : Value} {w wr w1 : World} {X : Obj} (hb : Below B w wr) (hB : B ≤ wr.heap.size) (hown : wr.ownsRow B 5 1 v n (Lib.byteCells l)) (hg : (wr.alloc X).drew.grownBy w1 v.ownBlock) : Below B w w1 :=
  ((hb.alloc hB X).drew).grown hg (by simp; omega) (fun k hk => (hown.lt k hk).1)

theorem hexL_take (l : List UInt8) (k : Nat) (h : k < l.length) : Wd.hexL (l.take (k + 1)) = Wd.hexL (l.take k) ++ [Wd.hexd (l[k].toNat / 16), Wd.hexd (l[k].toNat % 16)] := by
  rw [List.take_succ_eq_append_getElem h, Wd.hexL_append]; rfl

set_option maxHeartbeats 1000000 in
set_option maxRecDepth 100000 in
theorem rhex_any (s : ByteArray) (hs : s.size ≤ 1048576) (w : World) :
    Calls Try.prog 21 #[.string s] w fun e w' => e = .returned (.string (hexS s)) ∧ Below w.heap.size w w' := by
  obtain ⟨i0, hi, hz0, hz1, hz2⟩ := info_parts infoByte
  go_enter Try.func21, Try.ntmps21
  go_wp2
  go_loopw [3, 4] (fun sl i wr => ∃ (k : Nat) (z : Value), k ≤ s.size ∧ i = .int .i64 k ∧ z = sl ∧ Hid (Own w.heap.size (Wd.hexL (s.data.toList.take k)) z wr) ∧ Below w.heap.size w wr) (fun _ i _ => s.size - (intOf i).toNat)
  case atStart => exact ⟨0, .slice none 0 0, by omega, rfl, rfl, Lib.hid (own_nil _ _), Below.refl _ _⟩
  case round =>
    obtain ⟨k, sl, hk, rfl, rfl, HO, hb⟩ := hrel
    by_cases hlt : k < s.size
    · have hlen : (Wd.hexL (s.data.toList.take k)).length = 2 * k := by rw [Wd.hexL_length, List.length_take, data_len]; omega
      have hown : wr.ownsRow w.heap.size 5 1 sl (2 * k) (Lib.byteCells (Wd.hexL (s.data.toList.take k))) := by have := HO.out; unfold Own at this; rw [hlen] at this; exact this
      have Hown := Lib.hid hown
      have Hlen := Lib.hid hlen
      have HT := Lib.hid (hexL_take s.data.toList k (by rw [data_len]; omega))
      have hsz := hb.size
      clear hown HO hlen
      obtain ⟨X, hX⟩ : ∃ X : Int, X = ((Wd.hexd (s[k].toNat / 16)).toNat : Int) := ⟨_, rfl⟩
      obtain ⟨Y, hY⟩ : ∃ Y : Int, Y = ((Wd.hexd (s[k].toNat % 16)).toNat : Int) := ⟨_, rfl⟩
      have hx1 : ∀ W, (Instr.index 9 (.string ⟨#[48, 49, 50, 51, 52, 53, 54, 55, 56, 57, 97, 98, 99, 100, 101, 102]⟩) (.int .u8 (IntKind.u8.wrap ((s[k].toNat : Int) / 16)))).run Try.prog W = .ok (.int .u8 X) W := by
        intro W
        have hb := s[k].toNat_lt
        rw [hX, IntKind.wrap_u8', show ((s[k].toNat : Int) / 16 % 256) = (s[k].toNat : Int) / 16 by omega]
        exact digit_at _ (by omega) (by omega) W
      have hx2 : ∀ W, (Instr.index 9 (.string ⟨#[48, 49, 50, 51, 52, 53, 54, 55, 56, 57, 97, 98, 99, 100, 101, 102]⟩) (.int .u8 ((s[k].toNat : Int) % 16))).run Try.prog W = .ok (.int .u8 Y) W := by
        intro W
        have hb := s[k].toNat_lt
        rw [hY]
        exact digit_at _ (by omega) (by omega) W
      have hx3 : ∀ W, (Instr.index 9 (.string ⟨#[48, 49, 50, 51, 52, 53, 54, 55, 56, 57, 97, 98, 99, 100, 101, 102]⟩) (.int .u8 ((s[k].toNat : Int).tmod 16))).run Try.prog W = .ok (.int .u8 Y) W := by
        intro W
        rw [Int.tmod_eq_emod_of_nonneg (by omega)]
        exact hx2 W
      have hx4 : ∀ W, (Instr.index 9 (.string ⟨#[48, 49, 50, 51, 52, 53, 54, 55, 56, 57, 97, 98, 99, 100, 101, 102]⟩) (.int .u8 (IntKind.u8.wrap ((s[k].toNat : Int).tmod 16)))).run Try.prog W = .ok (.int .u8 Y) W := by
        intro W
        rw [Int.tmod_eq_emod_of_nonneg (by omega), IntKind.wrap_u8', show ((s[k].toNat : Int) % 16 % 256) = (s[k].toNat : Int) % 16 by omega]
        exact hx2 W
      have hx5 : ∀ W, (Instr.index 9 (.string ⟨#[48, 49, 50, 51, 52, 53, 54, 55, 56, 57, 97, 98, 99, 100, 101, 102]⟩) (.int .u8 (IntKind.u8.wrap ((s[k].toNat : Int) % 16)))).run Try.prog W = .ok (.int .u8 Y) W := by
        intro W
        rw [IntKind.wrap_u8', show ((s[k].toNat : Int) % 16 % 256) = (s[k].toNat : Int) % 16 by omega]
        exact hx2 W
      have HX := Lib.hid hX
      have HY := Lib.hid hY
      clear hX hY
      have k0 : (0 : Int) ≤ (k : Int) := by omega
      have k1 : (k : Int) < (s.size : Int) := by omega
      go_wp2_with fail
      go_region_held3 (fun _ => True) (trivial)
        ((refine step_append_lies _ (by rfl) _ _ _ (by rfl) w.heap.size 5 i0 _ 1 1 Try.underlying47 hi hz0 hz1 hz2 rfl (by omega) sl (2 * k) (Lib.byteCells (Wd.hexL (s.data.toList.take k))) (by rfl) ((Hown.out.alloc _).drew)
              ⟨wr.heap.size, 0, none⟩ 2 2 [.int .u8 X, .int .u8 Y] (by rfl) (by rfl) (World.news_of_block (cs := #[.int .u8 X, .int .u8 Y]) (t := 5) (fr := (0, 0)) (heap_alloc_new wr _)) (by simp [Value.oneCell'])
              (by omega) (by unfold maxLen; omega) (by omega) (by simp; omega) (wr.heap.size + 1) (by simp) ?_; intro gg cap w1 hown1 hgrow hat hlt'))
      all_goals
        have hb1 := app_below_drew hb hsz Hown.out hgrow
        have HO1 : Hid (Own w.heap.size (Wd.hexL (s.data.toList.take (k + 1))) (.slice (some ⟨gg, 0, none⟩) (2 * k + 2) cap) w1) := by
          rw [HT.out]
          refine Lib.hid (own_two ?_)
          rw [Hlen.out]
          have e1 := HX.out
          have e2 := HY.out
          rw [e1, e2] at hown1
          exact hown1
        clear hown1 hgrow hat hlt' Hown Hlen HT hb hsz hx1 hx2 hx3 hx4 hx5 HX HY
        go_wp2
        go_roundw
      all_goals first
        | (case rel => exact ⟨k + 1, _, by omega, by go_num, rfl, HO1, hb1⟩)
        | (case measure => simp [intOf]; omega)
    · have hconv := own_text HO.out
      have HE := Lib.hid (show s.data.toList.take k = s.data.toList by rw [List.take_of_length_le (by rw [data_len]; omega)])
      obtain ⟨a', n', c', hsl⟩ := own_slice HO.out
      subst hsl
      go_wp2
      go_ret
      exact ⟨ret_str (by rw [HE.out]), hb⟩

set_option maxHeartbeats 1000000 in
set_option maxRecDepth 100000 in
theorem digit_any (c : UInt8) (w : World) :
    Calls Try.prog 35 #[.int .u8 (c.toNat : Int)] w fun e w' => e = .returned (.int .u8 (Wd.dig c : Int)) ∧ w' = w := by
  obtain ⟨C, hC⟩ : ∃ C : Int, C = (c.toNat : Int) := ⟨_, rfl⟩
  obtain ⟨D, hD⟩ : ∃ D : Nat, Wd.dig c = D := ⟨_, rfl⟩
  rw [← hC, hD]
  have HC := Lib.hid hC
  have HD := Lib.hid hD
  clear hC hD
  go_enter Try.func35, Try.ntmps35
  go_wp2
  go_loop [3] (fun i => ∃ k : Nat, k ≤ 16 ∧ i = .int .u8 k ∧ Hid (∀ j, j < k → Wd.hexd j ≠ c)) (fun i => (16 - intOf i).toNat)
  case atStart => exact ⟨0, by omega, rfl, Lib.hid (fun j h => by omega)⟩
  case round =>
    obtain ⟨k, hk, rfl, HN⟩ := hrel
    by_cases hlt : k < 16
    · have hx : ∀ W, (Instr.index 9 (.string ⟨#[48, 49, 50, 51, 52, 53, 54, 55, 56, 57, 97, 98, 99, 100, 101, 102]⟩) (.int .u8 (k : Int))).run Try.prog W = .ok (.int .u8 ((Wd.hexd k).toNat : Int)) W := fun W => digit_at (k : Int) (by omega) (by omega) W
      by_cases he : Wd.hexd k = c
      · have t : (((Wd.hexd k).toNat : Int) == C) = true := by rw [HC.out, he]; simp
        have HE : Hid (k = D) := by rw [← HD.out, ← he, Wd.dig_hexd k hlt]; exact Lib.hid rfl
        clear he
        go_wp2
        go_ret
        exact ⟨by rw [HE.out]; rfl, rfl⟩
      · have t : (((Wd.hexd k).toNat : Int) == C) = false := by
          rw [HC.out, beq_eq_false_iff_ne]
          intro e
          exact he (UInt8.toNat_inj.1 (by omega))
        have HN' : Hid (∀ j, j < k + 1 → Wd.hexd j ≠ c) := Lib.hid (fun j hj => by
          by_cases e : j = k
          · subst e; exact he
          · exact HN.out j (by omega))
        clear he HN
        go_wp2
        go_round
        case rel => exact ⟨k + 1, by omega, vi' (by omega), HN'⟩
        case measure => simp [intOf]; omega
    · have HE : Hid (16 = D) := by
        rw [← HD.out]
        have h1 := Wd.dig_le c
        by_cases h2 : Wd.dig c = 16
        · exact Lib.hid h2.symm
        · have h3 := Wd.hexd_dig c h2
          exact absurd h3 (HN.out _ (by omega))
      go_wp2
      go_ret
      exact ⟨by rw [← HE.out]; rfl, rfl⟩

end Go.Proofs.Ythagofalneadjaa
