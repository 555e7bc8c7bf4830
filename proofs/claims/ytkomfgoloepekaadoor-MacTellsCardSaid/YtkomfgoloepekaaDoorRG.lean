/- aediculeref02.words: the 64 words of a block. -/
import Derived.Test.YtkomfgoloepekaaDoorRF
import Derived.Test.YtkomfgoloepekaaDoorN
import Derived.Test.YtkomfgoloepekaaDoorQU
set_option linter.unusedVariables false
namespace Go.Proofs.YtkomfgoloepekaaDoor.Rf
open Go.RowKit

theorem or4 (b0 b1 b2 b3 : Nat) (h1 : b1 < 256) (h2 : b2 < 256) (h3 : b3 < 256) : ((b0 * 16777216 ||| b1 * 65536) ||| b2 * 256) ||| b3 = Sh.be4 b0 b1 b2 b3 := by
  have e1 := Nat.two_pow_add_eq_or_of_lt (i := 24) (b := b1 * 65536) (by omega) b0
  have e2 := Nat.two_pow_add_eq_or_of_lt (i := 16) (b := b2 * 256) (by omega) (b0 * 256 + b1)
  have e3 := Nat.two_pow_add_eq_or_of_lt (i := 8) (b := b3) (by omega) (b0 * 65536 + b1 * 256 + b2)
  have f1 : b0 * 16777216 ||| b1 * 65536 = 2 ^ 16 * (b0 * 256 + b1) := by
    rw [show b0 * 16777216 = 2 ^ 24 * b0 by omega, ← e1]; omega
  rw [f1, ← e2, show 2 ^ 16 * (b0 * 256 + b1) + b2 * 256 = 2 ^ 8 * (b0 * 65536 + b1 * 256 + b2) by omega, ← e3]
  unfold Sh.be4
  omega
theorem be_eq (b0 b1 b2 b3 : Nat) (h0 : b0 < 256) (h1 : b1 < 256) (h2 : b2 < 256) (h3 : b3 < 256) :
    bits .or .u32 (bits .or .u32 (bits .or .u32 ((b0 : Int) % 4294967296 * 16777216 % 4294967296) ((b1 : Int) % 4294967296 * 65536 % 4294967296)) ((b2 : Int) % 4294967296 * 256 % 4294967296)) ((b3 : Int) % 4294967296) = (Sh.be4 b0 b1 b2 b3 : Nat) := by
  have e0 : ((b0 : Int) % 4294967296 * 16777216 % 4294967296) = ((b0 * 16777216 : Nat) : Int) := by omega
  have e1 : ((b1 : Int) % 4294967296 * 65536 % 4294967296) = ((b1 * 65536 : Nat) : Int) := by omega
  have e2 : ((b2 : Int) % 4294967296 * 256 % 4294967296) = ((b2 * 256 : Nat) : Int) := by omega
  have e3 : ((b3 : Int) % 4294967296) = ((b3 : Nat) : Int) := by omega
  rw [e0, e1, e2, e3, u32_or_nat _ _ (by omega) (by omega), u32_or_nat _ _ (or_lt32 _ _ (by omega) (by omega)) (by omega), u32_or_nat _ _ (or_lt32 _ _ (or_lt32 _ _ (by omega) (by omega)) (by omega)) (by omega), or4 _ _ _ _ h1 h2 h3]
theorem turn7 (x : Nat) (HX : Hid (x < 4294967296)) (w : World) : Calls Tryd.prog 36 #[.int .u32 (x : Int), .int .u64 7] w fun e w' => e = .returned (.int .u32 (rotr x 7 : Nat)) ∧ w' = w := turn_h x 7 HX (by decide) (by decide) w
theorem turn18 (x : Nat) (HX : Hid (x < 4294967296)) (w : World) : Calls Tryd.prog 36 #[.int .u32 (x : Int), .int .u64 18] w fun e w' => e = .returned (.int .u32 (rotr x 18 : Nat)) ∧ w' = w := turn_h x 18 HX (by decide) (by decide) w
theorem turn17 (x : Nat) (HX : Hid (x < 4294967296)) (w : World) : Calls Tryd.prog 36 #[.int .u32 (x : Int), .int .u64 17] w fun e w' => e = .returned (.int .u32 (rotr x 17 : Nat)) ∧ w' = w := turn_h x 17 HX (by decide) (by decide) w
theorem turn19 (x : Nat) (HX : Hid (x < 4294967296)) (w : World) : Calls Tryd.prog 36 #[.int .u32 (x : Int), .int .u64 19] w fun e w' => e = .returned (.int .u32 (rotr x 19 : Nat)) ∧ w' = w := turn_h x 19 HX (by decide) (by decide) w
theorem next_at (l : List Nat) (t : Nat) (h : l.length = t) : Sh.next l = (l.getD (t - 16) 0 + Sh.s0 (l.getD (t - 15) 0) + l.getD (t - 7) 0 + Sh.s1 (l.getD (t - 2) 0)) % 4294967296 := by subst h; rfl
theorem ownU_len {B n : Nat} {l : List Nat} {v : Value} {w : World} (h : OwnU B l v w) (hl : l.length = n) : w.ownsRow B 48 1 v n (u32s l) := by subst hl; exact h
theorem ownU_snoc' {B n : Nat} {l : List Nat} {x : Nat} {v : Value} {w : World} (hl : l.length = n) (h : w.ownsRow B 48 1 v (n + 1) (u32s l ++ [.int .u32 (x : Int)])) : OwnU B (l ++ [x]) v w := by subst hl; exact ownU_snoc h
theorem div8 (x : Nat) : (x : Int) / 8 = ((x / 2 ^ 3 : Nat) : Int) := by omega
theorem div1024 (x : Nat) : (x : Int) / 1024 = ((x / 2 ^ 10 : Nat) : Int) := by omega
theorem small0_eq (x : Nat) (hx : x < 4294967296) : bits .xor .u32 (bits .xor .u32 (rotr x 7 : Nat) (rotr x 18 : Nat)) ((x : Int) / 8) = (Sh.s0 x : Nat) := by
  have h3 : x / 2 ^ 3 < 4294967296 := Nat.lt_of_le_of_lt (Nat.div_le_self _ _) hx
  rw [div8, xor_eq _ _ (rotr_lt x 7 hx) (rotr_lt x 18 hx), xor_eq _ _ (xor_lt _ _ (rotr_lt x 7 hx) (rotr_lt x 18 hx)) h3]; rfl
theorem small1_eq (x : Nat) (hx : x < 4294967296) : bits .xor .u32 (bits .xor .u32 (rotr x 17 : Nat) (rotr x 19 : Nat)) ((x : Int) / 1024) = (Sh.s1 x : Nat) := by
  have h3 : x / 2 ^ 10 < 4294967296 := Nat.lt_of_le_of_lt (Nat.div_le_self _ _) hx
  rw [div1024, xor_eq _ _ (rotr_lt x 17 hx) (rotr_lt x 19 hx), xor_eq _ _ (xor_lt _ _ (rotr_lt x 17 hx) (rotr_lt x 19 hx)) h3]; rfl
theorem next_eq (a p b q : Nat) : (((a : Int) + (p : Int) + (b : Int)) % 4294967296 + (q : Int)) % 4294967296 = (((a + p + b + q) % 4294967296 : Nat) : Int) := by omega
/-- The first k words. -/
def firstK (bs : List Nat) (k : Nat) : List Nat := (List.range k).map fun k => Sh.be4 (bs.getD (4 * k) 0) (bs.getD (4 * k + 1) 0) (bs.getD (4 * k + 2) 0) (bs.getD (4 * k + 3) 0)
theorem firstK_length (bs : List Nat) (k : Nat) : (firstK bs k).length = k := by simp [firstK]
theorem firstK_succ (bs : List Nat) (k : Nat) : firstK bs (k + 1) = firstK bs k ++ [Sh.be4 (bs.getD (4 * k) 0) (bs.getD (4 * k + 1) 0) (bs.getD (4 * k + 2) 0) (bs.getD (4 * k + 3) 0)] := by simp [firstK, List.range_succ]
theorem firstK_all (bs : List Nat) : firstK bs 16 = Sh.first16 bs := rfl

set_option maxHeartbeats 1000000 in
set_option maxRecDepth 100000 in
theorem words_any (bs : List Nat) (gb o c : Nat) (w : World) (hb : ∀ j, j < 64 → w.cell? ⟨gb, o + j, none⟩ = some (.int .u8 (bs.getD j 0 : Nat))) (hs : ∀ x ∈ bs, x < 256) (hg : gb < w.heap.size) :
    Calls Tryd.prog 35 #[.slice (some ⟨gb, o, none⟩) 64 c] w fun e w' => ∃ v, e = .returned v ∧ OwnU w.heap.size (Sh.words bs) v w' ∧ Below w.heap.size w w' := by
  obtain ⟨i0, hi, hz0, hz1, hz2⟩ := info_parts infoU
  have HB := Lib.hid hb
  have HS := Lib.hid hs
  clear hb hs
  go_enter Tryd.func35, Tryd.ntmps35
  go_wp2
  go_loopw [3, 4] (fun t3 t4 wr => ∃ (k : Nat) (z : Value), k ≤ 16 ∧ z = t3 ∧ t4 = .int .i64 (4 * (k : Int)) ∧ Hid (OwnU w.heap.size (firstK bs k) z wr) ∧ Below w.heap.size w wr) (fun _ t4 _ => (64 - intOf t4).toNat)
  case atStart => exact ⟨0, .slice none 0 0, by omega, rfl, rfl, Lib.hid (ownU_nil _ _), Below.refl _ _⟩
  case round =>
    obtain ⟨k, sl, hk, rfl, rfl, HO, hbel⟩ := hrel
    by_cases hlt : k < 16
    · obtain ⟨b0, e0⟩ : ∃ b0, bs.getD (4 * k) 0 = b0 := ⟨_, rfl⟩
      obtain ⟨b1, e1⟩ : ∃ b1, bs.getD (4 * k + 1) 0 = b1 := ⟨_, rfl⟩
      obtain ⟨b2, e2⟩ : ∃ b2, bs.getD (4 * k + 2) 0 = b2 := ⟨_, rfl⟩
      obtain ⟨b3, e3⟩ : ∃ b3, bs.getD (4 * k + 3) 0 = b3 := ⟨_, rfl⟩
      obtain ⟨j, hj⟩ : ∃ j, j = 4 * k := ⟨_, rfl⟩
      have hjI : 4 * (k : Int) = (j : Int) := by omega
      rw [hjI]
      have g0 : wr.cell? ⟨gb, o + j, none⟩ = some (.int .u8 (b0 : Int)) := by rw [hbel.cell (p := ⟨gb, o + j, none⟩) hg, ← e0, hj]; exact HB.out _ (by omega)
      have g1 : wr.cell? ⟨gb, o + (j + 1), none⟩ = some (.int .u8 (b1 : Int)) := by rw [hbel.cell (p := ⟨gb, o + (j + 1), none⟩) hg, ← e1, hj]; exact HB.out _ (by omega)
      have g2 : wr.cell? ⟨gb, o + (j + 2), none⟩ = some (.int .u8 (b2 : Int)) := by rw [hbel.cell (p := ⟨gb, o + (j + 2), none⟩) hg, ← e2, hj]; exact HB.out _ (by omega)
      have g3 : wr.cell? ⟨gb, o + (j + 3), none⟩ = some (.int .u8 (b3 : Int)) := by rw [hbel.cell (p := ⟨gb, o + (j + 3), none⟩) hg, ← e3, hj]; exact HB.out _ (by omega)
      have HB4 : Hid (b0 < 256 ∧ b1 < 256 ∧ b2 < 256 ∧ b3 < 256) := by
        rw [← e0, ← e1, ← e2, ← e3]
        exact Lib.hid ⟨Sh.getD_lt _ _ (by decide) HS.out _, Sh.getD_lt _ _ (by decide) HS.out _, Sh.getD_lt _ _ (by decide) HS.out _, Sh.getD_lt _ _ (by decide) HS.out _⟩
      have HE : Hid (firstK bs (k + 1) = firstK bs k ++ [Sh.be4 b0 b1 b2 b3]) := by rw [firstK_succ, e0, e1, e2, e3]; exact Lib.hid rfl
      have k0 : (0 : Int) ≤ (j : Int) := by omega
      have k1 : (j : Int) < 64 := by omega
      have m1 : (0 : Int) ≤ (j : Int) + 1 := by omega
      have m2 : (0 : Int) ≤ (j : Int) + 2 := by omega
      have m3 : (0 : Int) ≤ (j : Int) + 3 := by omega
      have k2 : (j : Int) + 1 < 64 := by omega
      have k3 : (j : Int) + 2 < 64 := by omega
      have k4 : (j : Int) + 3 < 64 := by omega
      have t1 : ((j : Int) + 1).toNat = j + 1 := by omega
      have t2 : ((j : Int) + 2).toNat = j + 2 := by omega
      have t3 : ((j : Int) + 3).toNat = j + 3 := by omega
      have Hown : Hid (wr.ownsRow w.heap.size 48 1 sl k (u32s (firstK bs k))) := by
        have h := HO.out
        unfold OwnU at h
        rw [firstK_length] at h
        exact Lib.hid h
      have HJ := Lib.hid hj
      clear e0 e1 e2 e3 HO hj
      go_wp2_with fail
      refine wp_region_quiet_tail_one 29 sl (by kernel_rfl) (by kernel_rfl) rfl (fun _ _ _ h => h) (fun w => BigFrame.run_move (.tmp 3) rfl w) ?_
      simp only [List.take_succ_cons, List.take_zero, List.drop_succ_cons, List.drop_zero, Act.put, List.setIfInBounds_toArray, List.set_cons_zero, List.set_cons_succ]
      repeat (go_big_quiet_step (fail))
      refine wpQuiet_nil ?_
      intro _ hw'
      obtain ⟨nq, hw''⟩ := hw'
      subst hw''
      rw [be_eq b0 b1 b2 b3 HB4.out.1 HB4.out.2.1 HB4.out.2.2.1 HB4.out.2.2.2]
      obtain ⟨X, hX⟩ : ∃ X, X = Sh.be4 b0 b1 b2 b3 := ⟨_, rfl⟩
      rw [← hX]
      rw [← hX] at HE
      obtain ⟨wq, hwq⟩ : ∃ wq, wq = wr.drewN nq := ⟨_, rfl⟩
      have Hown2 : Hid (wq.ownsRow w.heap.size 48 1 sl k (u32s (firstK bs k))) := by rw [hwq]; exact Hown
      have hb2 : Below w.heap.size w wq := by rw [hwq]; exact below_drewN hbel nq
      rw [← hwq]
      have K3 : Hid (k + 1 ≤ maxLen) := Lib.hid (by unfold maxLen; omega)
      have K4 : Hid ((k + 1) * 4 ≤ 140737488355328) := Lib.hid (by omega)
      clear hX hwq HB4 Hown hbel g0 g1 g2 g3 k0 k1 k2 k3 k4 m1 m2 m3 t1 t2 t3
      go_wp2_with (at_builtin; refine wpList_append_own _ rfl (.tmp 12) (.tmp 42) 44 rfl w.heap.size 48 i0 (.int .u32 0) 1 4 Tryd.underlying44 hi hz0 hz1 hz2 rfl (by decide) _ _ _ rfl (Hown2.out.alloc _) ⟨wq.heap.size, 0, none⟩ 1 1 [.int .u32 (X : Int)] rfl rfl (new_one_u _ _) (one_u _) K3.out K4.out (le_alloc hb2.size _) ?_; intro z' w2 hown' hgrow _)
      have hb3 := appU_below hb2 hb2.size Hown2.out hgrow
      have HO2 : Hid (OwnU w.heap.size (firstK bs (k + 1)) z' w2) := by
        rw [HE.out]; exact Lib.hid (ownU_snoc' (firstK_length bs k) hown')
      have hj4 : (j : Int) + 4 = 4 * ((k + 1 : Nat) : Int) := by have := HJ.out; omega
      have hj5 : (j : Int) = 4 * (k : Int) := hjI.symm
      clear hown' hgrow Hown2 hb2 HE HJ
      go_wp2
      go_roundw
      case rel => exact ⟨k + 1, z', by omega, rfl, by go_num, HO2, hb3⟩
      case measure => simp [intOf]; omega
    · have hk16 : k = 16 := by omega
      subst hk16
      rw [show 4 * ((16 : Nat) : Int) = 64 from rfl]
      have HO16 : Hid (OwnU w.heap.size (Sh.more (Sh.first16 bs) (16 - 16)) sl wr) := HO
      clear HO
      go_wp2_with fail
      go_loopw [3, 5] (fun t3 t5 wr => ∃ (t : Nat) (z : Value), 16 ≤ t ∧ t ≤ 64 ∧ z = t3 ∧ t5 = .int .i64 t ∧ Hid (OwnU w.heap.size (Sh.more (Sh.first16 bs) (t - 16)) z wr) ∧ Below w.heap.size w wr) (fun _ t5 _ => (64 - intOf t5).toNat)
      case atStart => exact ⟨16, sl, by omega, by omega, rfl, rfl, HO16, hbel⟩
      case round =>
        clear HO16 hbel
        obtain ⟨t, z, ht16, ht64, rfl, rfl, HO, hbel⟩ := hrel
        have HLen : Hid ((Sh.more (Sh.first16 bs) (t - 16)).length = t) := by rw [Sh.more_length, Sh.first16_length]; exact Lib.hid (by omega)
        by_cases hlt2 : t < 64
        · have HSm : Hid (∀ x ∈ Sh.more (Sh.first16 bs) (t - 16), x < 4294967296) := Lib.hid (Sh.more_small _ (Sh.first16_small bs HS.out) _)
          have HNx : Hid (Sh.more (Sh.first16 bs) (t + 1 - 16) = Sh.more (Sh.first16 bs) (t - 16) ++ [Sh.next (Sh.more (Sh.first16 bs) (t - 16))]) := by
            rw [show t + 1 - 16 = (t - 16) + 1 by omega]; exact Lib.hid rfl
          obtain ⟨l, hl⟩ : ∃ l, l = Sh.more (Sh.first16 bs) (t - 16) := ⟨_, rfl⟩
          rw [← hl] at HO HLen HSm HNx
          clear hl
          obtain ⟨g, cap, hzv, hgB⟩ := ownU_row HO.out (by intro e; have := HLen.out; rw [e] at this; simp at this; omega)
          rw [HLen.out] at hzv
          subst hzv
          have Hown : Hid (wr.ownsRow w.heap.size 48 1 (.slice (some ⟨g, 0, none⟩) t cap) t (u32s l)) := Lib.hid (ownU_len HO.out HLen.out)
          obtain ⟨a, ea⟩ : ∃ a, l.getD (t - 16) 0 = a := ⟨_, rfl⟩
          obtain ⟨x, ex⟩ : ∃ x, l.getD (t - 15) 0 = x := ⟨_, rfl⟩
          obtain ⟨b, eb⟩ : ∃ b, l.getD (t - 7) 0 = b := ⟨_, rfl⟩
          obtain ⟨y, ey⟩ : ∃ y, l.getD (t - 2) 0 = y := ⟨_, rfl⟩
          have cell : ∀ j, j < t → wr.cell? ⟨g, j, none⟩ = some (.int .u32 (l.getD j 0 : Nat)) := fun j hj => by
            rw [World.ownsRow.cellAt Hown.out j (by omega)]; exact u32s_getD l j (by rw [HLen.out]; exact hj)
          have g0 := cell (t - 16) (by omega)
          rw [ea] at g0
          have g1 := cell (t - 15) (by omega)
          rw [ex] at g1
          have g2 := cell (t - 7) (by omega)
          rw [eb] at g2
          have g3 := cell (t - 2) (by omega)
          rw [ey] at g3
          have EX : Hid (x < 4294967296) := by rw [← ex]; exact Lib.hid (Sh.getD_lt _ _ (by decide) HSm.out _)
          have EY : Hid (y < 4294967296) := by rw [← ey]; exact Lib.hid (Sh.getD_lt _ _ (by decide) HSm.out _)
          have HN : Hid (Sh.next l = (a + Sh.s0 x + b + Sh.s1 y) % 4294967296) := by rw [next_at l t HLen.out, ea, ex, eb, ey]; exact Lib.hid rfl
          have i1 : IntKind.i64.wrap ((t : Int) - 16) = (t : Int) - 16 := IntWalk.i64_in _ (by omega)
          have i2 : IntKind.i64.wrap ((t : Int) - 15) = (t : Int) - 15 := IntWalk.i64_in _ (by omega)
          have i3 : IntKind.i64.wrap ((t : Int) - 7) = (t : Int) - 7 := IntWalk.i64_in _ (by omega)
          have i4 : IntKind.i64.wrap ((t : Int) - 2) = (t : Int) - 2 := IntWalk.i64_in _ (by omega)
          have n1 : ((t : Int) - 16).toNat = t - 16 := by omega
          have n2 : ((t : Int) - 15).toNat = t - 15 := by omega
          have n3 : ((t : Int) - 7).toNat = t - 7 := by omega
          have n4 : ((t : Int) - 2).toNat = t - 2 := by omega
          have m1 : (0 : Int) ≤ (t : Int) - 16 := by omega
          have m2 : (0 : Int) ≤ (t : Int) - 15 := by omega
          have m3 : (0 : Int) ≤ (t : Int) - 7 := by omega
          have m4 : (0 : Int) ≤ (t : Int) - 2 := by omega
          have o1 : (t : Int) - 16 < (t : Int) := by omega
          have o2 : (t : Int) - 15 < (t : Int) := by omega
          have o3 : (t : Int) - 7 < (t : Int) := by omega
          have o4 : (t : Int) - 2 < (t : Int) := by omega
          clear ea ex eb ey cell HO HSm
          go_wp2_with fail
          go_quiet (fail)
          obtain ⟨wq, hwq⟩ : ∃ wq, wq = wr.drewN nq := ⟨_, rfl⟩
          have q0 : wq.cell? ⟨g, t - 16, none⟩ = some (.int .u32 (a : Int)) := by rw [hwq]; exact g0
          have q2 : wq.cell? ⟨g, t - 7, none⟩ = some (.int .u32 (b : Int)) := by rw [hwq]; exact g2
          have Hown2 : Hid (wq.ownsRow w.heap.size 48 1 (.slice (some ⟨g, 0, none⟩) t cap) t (u32s l)) := by rw [hwq]; exact Hown
          have hb2 : Below w.heap.size w wq := by rw [hwq]; exact below_drewN hbel nq
          rw [← hwq]
          clear hwq g0 g1 g2 g3 i2 i4 n2 n4 m2 m4 o2 o4 Hown hbel nq
          go_wp2_with fail
          refine wp_region_quiet_tail_one 29 (.slice (some ⟨g, 0, none⟩) t cap) (by kernel_rfl) (by kernel_rfl) rfl (fun _ _ _ h => h) (fun w => BigFrame.run_move (.tmp 3) rfl w) ?_
          simp only [List.take_succ_cons, List.take_zero, List.drop_succ_cons, List.drop_zero, Act.put, List.setIfInBounds_toArray, List.set_cons_zero, List.set_cons_succ]
          repeat (go_big_quiet_step ((go_at_call 36; first
            | with_reducible exact Calls.quiet_of_same (turn7 _ EX _)
            | with_reducible exact Calls.quiet_of_same (turn18 _ EX _)
            | with_reducible exact Calls.quiet_of_same (turn17 _ EY _)
            | with_reducible exact Calls.quiet_of_same (turn19 _ EY _))))
          refine wpQuiet_nil ?_
          intro _ hw'
          obtain ⟨nq, hw''⟩ := hw'
          subst hw''
          rw [small0_eq x EX.out, small1_eq y EY.out, next_eq, ← HN.out]
          obtain ⟨X, hX⟩ : ∃ X, X = Sh.next l := ⟨_, rfl⟩
          rw [← hX]
          rw [← hX] at HNx
          clear hX HN
          obtain ⟨wu, hwu⟩ : ∃ wu, wu = wq.drewN nq := ⟨_, rfl⟩
          have Hown3 : Hid (wu.ownsRow w.heap.size 48 1 (.slice (some ⟨g, 0, none⟩) t cap) t (u32s l)) := by rw [hwu]; exact Hown2
          have hb3 : Below w.heap.size w wu := by rw [hwu]; exact below_drewN hb2 nq
          rw [← hwu]
          have K3 : Hid (t + 1 ≤ maxLen) := Lib.hid (by unfold maxLen; omega)
          have K4 : Hid ((t + 1) * 4 ≤ 140737488355328) := Lib.hid (by omega)
          clear hwu q0 q2 Hown2 hb2 i1 i3 n1 n3 m1 m3 o1 o3
          go_wp2_with (at_builtin; refine wpList_append_own _ rfl (.tmp 58) (.tmp 88) 44 rfl w.heap.size 48 i0 (.int .u32 0) 1 4 Tryd.underlying44 hi hz0 hz1 hz2 rfl (by decide) _ _ _ rfl (Hown3.out.alloc _) ⟨wu.heap.size, 0, none⟩ 1 1 [.int .u32 (X : Int)] rfl rfl (new_one_u _ _) (one_u _) K3.out K4.out (le_alloc hb3.size _) ?_; intro z' w2 hown' hgrow _)
          have hb4 := appU_below hb3 hb3.size Hown3.out hgrow
          have HO2 : Hid (OwnU w.heap.size (Sh.more (Sh.first16 bs) (t + 1 - 16)) z' w2) := by
            rw [HNx.out]; exact Lib.hid (ownU_snoc' HLen.out hown')
          clear hown' hgrow Hown3 hb3 HNx HLen
          go_wp2
          go_roundw
          case rel => exact ⟨t + 1, z', by omega, by omega, rfl, by go_num, HO2, hb4⟩
          case measure => simp [intOf]; omega
        · have ht : t = 64 := by omega
          subst ht
          rw [show ((64 : Nat) : Int) = 64 from rfl]
          have HE : Hid (Sh.more (Sh.first16 bs) (64 - 16) = Sh.words bs) := Lib.hid rfl
          go_wp2
          go_ret
          exact ⟨_, rfl, by rw [← HE.out]; exact HO.out, hbel⟩
end Go.Proofs.YtkomfgoloepekaaDoor.Rf
