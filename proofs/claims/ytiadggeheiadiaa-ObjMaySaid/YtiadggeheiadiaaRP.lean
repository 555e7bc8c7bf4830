/- The document's Put: a text into a list that rises. -/
import Derived.Test.YtiadggeheiadiaaNN
import Derived.Sort.Walk0
set_option linter.unusedVariables false
set_option linter.unusedSimpArgs false
namespace Go.Proofs.Ytiadggeheiadiaa
open Go Go.RowKit Oj

theorem less_eq (a b : ByteArray) : Op.bytesLess a.toList b.toList = decide (by' a < by' b) := by
  rw [Go.Proofs.bytesLess_eq, ByteArray.toList_eq, ByteArray.toList_eq]
  rfl
def strC (L : List (List UInt8)) (j : Nat) : List Value := [.string (tx (L.getD j []))]
theorem flat_strC (L : List (List UInt8)) : ∀ n, n ≤ L.length → flat (strC L) n = strsV (L.take n)
  | 0, _ => by simp [flat, strsV]
  | n + 1, h => by
    rw [flat, flat_strC L n (by omega), List.take_succ_eq_append_getElem (by omega), strsV, strsV, List.map_append]
    simp [strC, List.getD, show n < L.length by omega]
/-- A list that rises, as the document has it: nil, or not empty. -/
def PutAt (w : World) (v : Value) (L : List (List UInt8)) : Prop := (v = .slice none 0 0 ∧ L = []) ∨ (L ≠ [] ∧ SlAt w v L)
theorem PutAt.slAt {w : World} {v : Value} {L : List (List UInt8)} (h : PutAt w v L) : SlAt w v L := by
  rcases h with ⟨rfl, rfl⟩ | ⟨_, h⟩
  · exact ⟨none, 0, rfl, fun h => absurd rfl h⟩
  · exact h
theorem PutAt.below {w w' : World} {v : Value} {L : List (List UInt8)} (h : PutAt w v L) (hb : Below w.heap.size w w') : PutAt w' v L := by
  rcases h with h | ⟨h1, h2⟩
  · exact .inl h
  · exact .inr ⟨h1, h2.below hb⟩
theorem row_base {w : World} {B B' : Nat} {e : TypeId} {z : Nat} {v : Value} {n : Nat} {xs : List Value} (h : w.ownsRow B e z v n xs) (hB : B' ≤ B) : w.ownsRow B' e z v n xs := by
  refine ⟨h.1, ?_⟩
  rcases h.2 with hn | ⟨g, cap, cur, hv, hb, rest⟩
  · exact .inl hn
  · exact .inr ⟨g, cap, cur, hv, Nat.le_trans hB hb, rest⟩
theorem strsV_one' (L : List (List UInt8)) : ∀ v ∈ strsV L, v.oneCell' = true := by
  intro v hv; simp only [strsV, List.mem_map] at hv; obtain ⟨x, _, rfl⟩ := hv; rfl
theorem put_ne (L : List (List UInt8)) (s : List UInt8) : put L s ≠ [] := by
  intro h
  have : s ∈ put L s := (mem_put s s L).2 (.inl rfl)
  rw [h] at this
  cases this

set_option maxHeartbeats 4000000 in
set_option maxRecDepth 100000 in
theorem rput_nil (s : ByteArray) (w : World) : Calls Try.prog 33 #[.slice none 0 0, .string s] w fun e w' => ∃ v', e = .returned v' ∧ OwnL w.heap.size [by' s] v' w' ∧ Below w.heap.size w w' := by
  obtain ⟨i0, hi, hz0, hz1, hz2⟩ := info_parts infoStr
  have HI0 := Lib.hid (And.intro hi (And.intro hz0 (And.intro hz1 hz2)))
  clear hi hz0 hz1 hz2
  have HBx : Hid (w.heap.size ≤ (w.alloc (.cells #[.string s] 9)).heap.size) := Lib.hid (below_new1 w _).size
  have HK : Hid (0 + 1 ≤ maxLen ∧ (0 + 1) * 16 ≤ 140737488355328) := Lib.hid (by unfold maxLen; omega)
  go_enter Try.func33, Try.ntmps33
  go_wp2_with fail
  go_loop [5] (fun i => i = .int .i64 0) (fun i => 0)
  case atStart => rfl
  case round =>
    subst hrel
    go_upto_region 6 with (fail)
    go_upto_region 7 with (at_builtin; refine wpList_append_own_none rfl _ _ 48 rfl w.heap.size 9 i0 1 Try.underlying48 HI0.out.1 (.slice none 0 0) 0 [] rfl (World.ownsRow_nil _ _ _ _) rfl ?_)
    go_upto_region 8 with (at_builtin; (refine wpList_append_own _ rfl _ _ 48 rfl w.heap.size 9 i0 (.string ⟨#[]⟩) 1 16 Try.underlying48 HI0.out.1 HI0.out.2.1 HI0.out.2.2.1 HI0.out.2.2.2 rfl (by decide) (.slice none 0 0) 0 [] rfl (World.ownsRow_nil _ _ _ _) ⟨w.heap.size, 0, none⟩ 1 1 [.string s] rfl rfl (new_str _ _) (fun u hu => by rw [List.mem_singleton] at hu; rw [hu]; rfl) HK.out.1 HK.out.2 HBx.out ?_); intro v1 w1 h6 h7 _)
    have HO1 : Hid (OwnL w.heap.size [by' s] v1 w1) := Lib.hid (by
      unfold OwnL
      rw [show strsV [by' s] = [] ++ [.string s] from by simp [strsV, tx_by]]
      exact h6)
    have HB1 : Hid (Below w.heap.size w w1) := Lib.hid ((below_new1 w _).trans ((grown_none h7).mono (below_new1 w _).size))
    clear h6 h7
    go_wp2_with (at_builtin; refine wpList_append_own_none rfl _ _ 48 rfl w.heap.size 9 i0 1 Try.underlying48 HI0.out.1 v1 1 _ rfl HO1.out rfl ?_)
    go_ret
    exact ⟨_, rfl, HO1.out, HB1.out⟩

set_option maxHeartbeats 8000000 in
set_option maxRecDepth 100000 in
theorem rput_some (B : Nat) (v : Value) (L : List (List UInt8)) (hL : L ≠ []) (hL2 : L.length ≤ 1048576) (s : ByteArray) (w : World) (hB : B ≤ w.heap.size) (hO : OwnL B L v w) : Calls Try.prog 33 #[v, .string s] w fun e w' => ∃ v', e = .returned v' ∧ OwnL B (put L (by' s)) v' w' ∧ Below w.heap.size w w' := by
  obtain ⟨i0, hi, hz0, hz1, hz2⟩ := info_parts infoStr
  have HI0 := Lib.hid (And.intro hi (And.intro hz0 (And.intro hz1 hz2)))
  have hcap : ∀ a c, v = .slice a L.length c → L.length ≤ c := fun a c hv => by
    rcases hO.2 with ⟨_, h0⟩ | ⟨g, cap, cur, hv2, _, _, h3, _⟩
    · exact absurd (List.length_eq_zero_iff.1 h0) hL
    · rw [hv] at hv2; cases hv2; exact h3
  obtain ⟨a, c, rfl, h1⟩ := hO.slAt
  have hcap := hcap _ _ rfl
  obtain ⟨b, o, rfl, hb, hcl⟩ := h1 hL
  obtain ⟨n, hn⟩ : ∃ n, n = L.length := ⟨_, rfl⟩
  have hn0 : 0 < n := by rw [hn]; exact List.length_pos_iff.2 hL
  have hni : (n : Int) ≤ 1048576 := by omega
  rw [← hn] at hcl hcap ⊢
  have HSA : Hid (OwnL B L (.slice (some ⟨b, o, none⟩) n c) w) := Lib.hid (by rw [hn]; exact hO)
  have HN := Lib.hid hn
  have HC := Lib.hid hcl
  have hci : (n : Int) ≤ (c : Int) := by omega
  clear hi hz0 hz1 hz2 h1 hn hcl hL hL2 hO
  go_enter Try.func33, Try.ntmps33
  go_wp2_with fail
  go_loop [5] (fun i => ∃ k : Nat, (k : Int) ≤ n ∧ i = .int .i64 k ∧ Hid (∀ j, j < k → L.getD j [] < by' s)) (fun i => n - (intOf i).toNat)
  case atStart => exact ⟨0, by omega, rfl, Lib.hid fun j hj => absurd hj (by omega)⟩
  case round =>
    obtain ⟨k, hk, rfl, HK⟩ := hrel
    by_cases hlt : k < n
    · have hd : decide (k < n) = true := decide_eq_true hlt
      obtain ⟨U, hU⟩ : ∃ U, U = tx (L.getD k []) := ⟨_, rfl⟩
      have cU := HC.out k hlt
      rw [← hU] at cU
      have hls := less_eq U s
      have hbU : by' U = L.getD k [] := by rw [hU, by_tx]
      have heq := str_eq U s
      rw [hbU] at hls heq
      by_cases hl : L.getD k [] < by' s
      · have HK2 : Hid (∀ j, j < k + 1 → L.getD j [] < by' s) := Lib.hid fun j hj => by
          by_cases he : j = k
          · subst he; exact hl
          · exact HK.out j (by omega)
        rw [decide_eq_true hl] at hls
        clear hl HK hU hbU heq
        go_wp2_with fail
        go_round
        case rel => exact ⟨k + 1, by omega, by go_num, HK2⟩
        case measure => simp [intOf]; omega
      · rw [decide_eq_false hl] at hls
        have hput := put_at L (by' s) k (by rw [← HN.out]; omega) HK.out (fun _ => hl)
        by_cases he : L.getD k [] = by' s
        · rw [decide_eq_true he] at heq
          have HP : Hid (put L (by' s) = L) := Lib.hid (by rw [hput, if_pos ⟨by rw [← HN.out]; exact hlt, he⟩])
          clear hl HK hU hbU he hput
          go_wp2_with fail
          go_ret
          exact ⟨_, rfl, by rw [HP.out]; exact HSA.out, Below.refl _ _⟩
        · rw [decide_eq_false he] at heq
          have HP : Hid (put L (by' s) = L.take k ++ by' s :: L.drop k) := Lib.hid (by rw [hput, if_neg (fun h => he h.2)])
          clear hl HK hU hbU he hput
          have HCk : Hid (SlC w (.slice (some ⟨b, o, none⟩) k c) k 1 (strC L)) := Lib.hid ⟨_, _, rfl, fun _ => ⟨b, o, rfl, hb, fun j hj i u hu => by
            have hi0 : i = 0 := by have := (List.getElem?_eq_some_iff.1 hu).1; simp [strC] at this; exact this
            subst hi0
            simp only [strC, List.getElem?_cons_zero, Option.some.injEq] at hu
            subst hu
            rw [Nat.mul_one, Nat.add_zero]
            exact HC.out j (by omega)⟩⟩
          have HK2 : Hid (k ≤ maxLen ∧ k * 16 ≤ 140737488355328) := Lib.hid (by unfold maxLen; omega)
          go_upto_region 6 with (fail)
          go_upto_region 7 with (at_builtin; refine wpList_append_all rfl _ _ 48 rfl w.heap.size 9 i0 (.string ⟨#[]⟩) 1 16 Try.underlying48 HI0.out.1 HI0.out.2.1 HI0.out.2.2.1 HI0.out.2.2.2 rfl (by decide) rfl (.slice (some ⟨b, o, none⟩) k c) k (strC L) rfl HCk.out (fun _ _ => rfl) (fun _ _ u hu => by simp only [strC, List.mem_singleton] at hu; rw [hu]; rfl) HK2.out.1 HK2.out.2 (Nat.le_refl _) ?_; intro v1 w1 h6 h7)
          have HB1 := Lib.hid (grown_none h7)
          have HO1 : Hid (OwnL w.heap.size (L.take k) v1 w1) := Lib.hid (by
            unfold OwnL
            rw [← flat_strC L k (by rw [← HN.out]; omega), List.length_take, ← HN.out, Nat.min_eq_left (by omega)]
            exact h6)
          have HLk : Hid ((L.take k).length = k) := Lib.hid (by rw [List.length_take, ← HN.out]; omega)
          clear h6 h7 HCk
          obtain ⟨L1, hL1⟩ : ∃ L1, L1 = L.take k := ⟨_, rfl⟩
          rw [← hL1] at HO1 HLk
          have HL1 := Lib.hid hL1
          clear hL1
          have HK3 : Hid (L1.length + 1 ≤ maxLen ∧ (L1.length + 1) * 16 ≤ 140737488355328) := Lib.hid (by rw [HLk.out]; unfold maxLen; omega)
          have HBx : Hid (w.heap.size ≤ (w1.alloc (.cells #[.string s] 9)).heap.size) := Lib.hid (below_box HB1.out _).size
          go_upto_region 8 with (at_builtin; (refine wpList_append_own _ rfl _ _ 48 rfl w.heap.size 9 i0 (.string ⟨#[]⟩) 1 16 Try.underlying48 HI0.out.1 HI0.out.2.1 HI0.out.2.2.1 HI0.out.2.2.2 rfl (by decide) _ _ _ rfl (World.ownsRow.alloc HO1.out _) ⟨w1.heap.size, 0, none⟩ 1 1 [.string s] rfl rfl (new_str _ _) (fun u hu => by rw [List.mem_singleton] at hu; rw [hu]; rfl) HK3.out.1 HK3.out.2 HBx.out ?_); intro v2 w2 h6 h7 _)
          have HB2 : Hid (Below w.heap.size w w2) := Lib.hid ((below_box HB1.out _).grown h7 (below_box HB1.out _).size (fun q hq => (World.ownsRow.lt HO1.out q hq).1))
          have HO2 : Hid (OwnL w.heap.size (L1 ++ [by' s]) v2 w2) := Lib.hid (by
            unfold OwnL
            rw [List.length_append, show strsV (L1 ++ [by' s]) = strsV L1 ++ [.string s] from by simp [strsV, tx_by]]
            exact h6)
          clear h6 h7 HO1 HB1 HBx HK3
          obtain ⟨L3, hL3⟩ : ∃ L3 : List (List UInt8), L3 = L.drop k := ⟨_, rfl⟩
          have HLr : Hid (L3.length = n - k) := Lib.hid (by rw [hL3]; rw [List.length_drop, ← HN.out])
          have HNw : Hid (∀ j u, (strsV L3)[j]? = some u → w2.cell? ((⟨b, o + k, none⟩ : Addr).add j) = some u) := Lib.hid (by
            rw [hL3]
            intro j u hu
            rw [Addr.add_mid]
            have hj : j < (L.drop k).length := by have := (List.getElem?_eq_some_iff.1 hu).1; rwa [strsV_length] at this
            rw [List.length_drop, ← HN.out] at hj
            have e : u = .string (tx (L.getD (k + j) [])) := by
              simp only [strsV, List.getElem?_map, List.getElem?_drop] at hu
              rw [List.getElem?_eq_getElem (by rw [← HN.out]; omega)] at hu
              simp only [Option.map_some, Option.some.injEq] at hu
              rw [← hu, getD_get _ _ _ (by rw [← HN.out]; omega)]
            rw [e, Nat.add_assoc]
            exact (HB2.out.cell (p := ⟨b, o + (k + j), none⟩) hb).trans (HC.out (k + j) (by omega)))
          have HK4 : Hid ((L1 ++ [by' s]).length + (n - k) ≤ maxLen ∧ ((L1 ++ [by' s]).length + (n - k)) * 16 ≤ 140737488355328) := Lib.hid (by rw [List.length_append, HLk.out, List.length_singleton]; unfold maxLen; omega)
          have HP3 : Hid (put L (by' s) = (L1 ++ [by' s]) ++ L3) := Lib.hid (by rw [HP.out, HL1.out, hL3]; simp)
          clear hL3
          go_wp2_with (at_builtin; (refine wpList_append_own _ rfl _ _ 48 rfl w.heap.size 9 i0 (.string ⟨#[]⟩) 1 16 Try.underlying48 HI0.out.1 HI0.out.2.1 HI0.out.2.2.1 HI0.out.2.2.2 rfl (by decide) _ _ _ rfl HO2.out ⟨b, o + k, none⟩ (n - k) (c - k) (strsV L3) rfl ((strsV_length _).trans (HLr.out.trans (Nat.mul_one _).symm)) HNw.out (strsV_one' _) HK4.out.1 HK4.out.2 HB2.out.size ?_); intro v3 w3 h6 h7 _)
          have HB3 : Hid (Below w.heap.size w w3) := Lib.hid (HB2.out.grown h7 HB2.out.size (fun q hq => (World.ownsRow.lt HO2.out q hq).1))
          have HO3 : Hid (OwnL B (put L (by' s)) v3 w3) := Lib.hid (by
            unfold OwnL
            have h8 := row_base h6 hB
            rw [HP3.out, List.length_append (bs := L3), HLr.out, show strsV ((L1 ++ [by' s]) ++ L3) = strsV (L1 ++ [by' s]) ++ strsV L3 from by simp [strsV]]
            exact h8)
          clear h6 h7
          go_wp2_with fail
          go_ret
          exact ⟨_, rfl, HO3.out, HB3.out⟩
    · have hd : decide (k < n) = false := decide_eq_false hlt
      obtain rfl : k = n := by omega
      have hput := put_at L (by' s) k (by rw [← HN.out]; omega) HK.out (fun h => absurd h (by rw [← HN.out]; omega))
      have HP : Hid (put L (by' s) = L.take k ++ by' s :: []) := Lib.hid (by rw [hput, if_neg (fun h => by rw [← HN.out] at h; omega), List.drop_of_length_le (by rw [← HN.out]; omega)])
      have HCk : Hid (SlC w (.slice (some ⟨b, o, none⟩) k c) k 1 (strC L)) := Lib.hid ⟨_, _, rfl, fun _ => ⟨b, o, rfl, hb, fun j hj i u hu => by
        have hi0 : i = 0 := by have := (List.getElem?_eq_some_iff.1 hu).1; simp [strC] at this; exact this
        subst hi0
        simp only [strC, List.getElem?_cons_zero, Option.some.injEq] at hu
        subst hu
        rw [Nat.mul_one, Nat.add_zero]
        exact HC.out j (by omega)⟩⟩
      clear hput HK hlt
      by_cases hck : c = k
      · have hck2 : k = c := hck.symm; clear hck; subst hck2
        have HK2 : Hid (k ≤ maxLen ∧ k * 16 ≤ 140737488355328) := Lib.hid (by unfold maxLen; omega)
        go_upto_region 6 with (fail)
        go_upto_region 7 with (at_builtin; refine wpList_append_all rfl _ _ 48 rfl w.heap.size 9 i0 (.string ⟨#[]⟩) 1 16 Try.underlying48 HI0.out.1 HI0.out.2.1 HI0.out.2.2.1 HI0.out.2.2.2 rfl (by decide) rfl (.slice (some ⟨b, o, none⟩) k k) k (strC L) rfl HCk.out (fun _ _ => rfl) (fun _ _ u hu => by simp only [strC, List.mem_singleton] at hu; rw [hu]; rfl) HK2.out.1 HK2.out.2 (Nat.le_refl _) ?_; intro v1 w1 h6 h7)
        have HB1 := Lib.hid (grown_none h7)
        have HO1 : Hid (OwnL w.heap.size (L.take k) v1 w1) := Lib.hid (by
          unfold OwnL
          rw [← flat_strC L k (by rw [← HN.out]; omega), List.length_take, ← HN.out, Nat.min_eq_left (by omega)]
          exact h6)
        have HLk : Hid ((L.take k).length = k) := Lib.hid (by rw [List.length_take, ← HN.out]; omega)
        clear h6 h7 HCk
        obtain ⟨L1, hL1⟩ : ∃ L1, L1 = L.take k := ⟨_, rfl⟩
        rw [← hL1] at HO1 HLk
        have HL1 := Lib.hid hL1
        clear hL1
        have HK3 : Hid (L1.length + 1 ≤ maxLen ∧ (L1.length + 1) * 16 ≤ 140737488355328) := Lib.hid (by rw [HLk.out]; unfold maxLen; omega)
        have HBx : Hid (w.heap.size ≤ (w1.alloc (.cells #[.string s] 9)).heap.size) := Lib.hid (below_box HB1.out _).size
        go_upto_region 8 with (at_builtin; (refine wpList_append_own _ rfl _ _ 48 rfl w.heap.size 9 i0 (.string ⟨#[]⟩) 1 16 Try.underlying48 HI0.out.1 HI0.out.2.1 HI0.out.2.2.1 HI0.out.2.2.2 rfl (by decide) _ _ _ rfl (World.ownsRow.alloc HO1.out _) ⟨w1.heap.size, 0, none⟩ 1 1 [.string s] rfl rfl (new_str _ _) (fun u hu => by rw [List.mem_singleton] at hu; rw [hu]; rfl) HK3.out.1 HK3.out.2 HBx.out ?_); intro v2 w2 h6 h7 _)
        have HB2 : Hid (Below w.heap.size w w2) := Lib.hid ((below_box HB1.out _).grown h7 (below_box HB1.out _).size (fun q hq => (World.ownsRow.lt HO1.out q hq).1))
        have HO2 : Hid (OwnL w.heap.size (L1 ++ [by' s]) v2 w2) := Lib.hid (by
          unfold OwnL
          rw [List.length_append, show strsV (L1 ++ [by' s]) = strsV L1 ++ [.string s] from by simp [strsV, tx_by]]
          exact h6)
        clear h6 h7 HO1 HB1 HBx HK3
        obtain ⟨L3, hL3⟩ : ∃ L3 : List (List UInt8), L3 = [] := ⟨_, rfl⟩
        have HLr : Hid (L3.length = 0) := Lib.hid (by rw [hL3]; rfl)
        have HNw : Hid (∀ j u, (strsV L3)[j]? = some u → w2.cell? ((⟨b, o, none⟩ : Addr).add j) = some u) := Lib.hid (by
          rw [hL3]
          intro j u hu; simp [strsV] at hu)
        have HK4 : Hid ((L1 ++ [by' s]).length + (0) ≤ maxLen ∧ ((L1 ++ [by' s]).length + (0)) * 16 ≤ 140737488355328) := Lib.hid (by rw [List.length_append, HLk.out, List.length_singleton]; unfold maxLen; omega)
        have HP3 : Hid (put L (by' s) = (L1 ++ [by' s]) ++ L3) := Lib.hid (by rw [HP.out, HL1.out, hL3]; simp)
        clear hL3
        go_wp2_with (at_builtin; (refine wpList_append_own _ rfl _ _ 48 rfl w.heap.size 9 i0 (.string ⟨#[]⟩) 1 16 Try.underlying48 HI0.out.1 HI0.out.2.1 HI0.out.2.2.1 HI0.out.2.2.2 rfl (by decide) _ _ _ rfl HO2.out ⟨b, o, none⟩ (0) 0 (strsV L3) rfl ((strsV_length _).trans (HLr.out.trans (Nat.mul_one _).symm)) HNw.out (strsV_one' _) HK4.out.1 HK4.out.2 HB2.out.size ?_); intro v3 w3 h6 h7 _)
        have HB3 : Hid (Below w.heap.size w w3) := Lib.hid (HB2.out.grown h7 HB2.out.size (fun q hq => (World.ownsRow.lt HO2.out q hq).1))
        have HO3 : Hid (OwnL B (put L (by' s)) v3 w3) := Lib.hid (by
          unfold OwnL
          have h8 := row_base h6 hB
          rw [HP3.out, List.length_append (bs := L3), HLr.out, show strsV ((L1 ++ [by' s]) ++ L3) = strsV (L1 ++ [by' s]) ++ strsV L3 from by simp [strsV]]
          exact h8)
        clear h6 h7
        go_wp2_with fail
        go_ret
        exact ⟨_, rfl, HO3.out, HB3.out⟩
      · have hck2 : ¬ (k = c) := fun h => hck h.symm
        have HK2 : Hid (k ≤ maxLen ∧ k * 16 ≤ 140737488355328) := Lib.hid (by unfold maxLen; omega)
        go_upto_region 6 with (fail)
        go_upto_region 7 with (at_builtin; refine wpList_append_all rfl _ _ 48 rfl w.heap.size 9 i0 (.string ⟨#[]⟩) 1 16 Try.underlying48 HI0.out.1 HI0.out.2.1 HI0.out.2.2.1 HI0.out.2.2.2 rfl (by decide) rfl (.slice (some ⟨b, o, none⟩) k c) k (strC L) rfl HCk.out (fun _ _ => rfl) (fun _ _ u hu => by simp only [strC, List.mem_singleton] at hu; rw [hu]; rfl) HK2.out.1 HK2.out.2 (Nat.le_refl _) ?_; intro v1 w1 h6 h7)
        have HB1 := Lib.hid (grown_none h7)
        have HO1 : Hid (OwnL w.heap.size (L.take k) v1 w1) := Lib.hid (by
          unfold OwnL
          rw [← flat_strC L k (by rw [← HN.out]; omega), List.length_take, ← HN.out, Nat.min_eq_left (by omega)]
          exact h6)
        have HLk : Hid ((L.take k).length = k) := Lib.hid (by rw [List.length_take, ← HN.out]; omega)
        clear h6 h7 HCk
        obtain ⟨L1, hL1⟩ : ∃ L1, L1 = L.take k := ⟨_, rfl⟩
        rw [← hL1] at HO1 HLk
        have HL1 := Lib.hid hL1
        clear hL1
        have HK3 : Hid (L1.length + 1 ≤ maxLen ∧ (L1.length + 1) * 16 ≤ 140737488355328) := Lib.hid (by rw [HLk.out]; unfold maxLen; omega)
        have HBx : Hid (w.heap.size ≤ (w1.alloc (.cells #[.string s] 9)).heap.size) := Lib.hid (below_box HB1.out _).size
        go_upto_region 8 with (at_builtin; (refine wpList_append_own _ rfl _ _ 48 rfl w.heap.size 9 i0 (.string ⟨#[]⟩) 1 16 Try.underlying48 HI0.out.1 HI0.out.2.1 HI0.out.2.2.1 HI0.out.2.2.2 rfl (by decide) _ _ _ rfl (World.ownsRow.alloc HO1.out _) ⟨w1.heap.size, 0, none⟩ 1 1 [.string s] rfl rfl (new_str _ _) (fun u hu => by rw [List.mem_singleton] at hu; rw [hu]; rfl) HK3.out.1 HK3.out.2 HBx.out ?_); intro v2 w2 h6 h7 _)
        have HB2 : Hid (Below w.heap.size w w2) := Lib.hid ((below_box HB1.out _).grown h7 (below_box HB1.out _).size (fun q hq => (World.ownsRow.lt HO1.out q hq).1))
        have HO2 : Hid (OwnL w.heap.size (L1 ++ [by' s]) v2 w2) := Lib.hid (by
          unfold OwnL
          rw [List.length_append, show strsV (L1 ++ [by' s]) = strsV L1 ++ [.string s] from by simp [strsV, tx_by]]
          exact h6)
        clear h6 h7 HO1 HB1 HBx HK3
        obtain ⟨L3, hL3⟩ : ∃ L3 : List (List UInt8), L3 = [] := ⟨_, rfl⟩
        have HLr : Hid (L3.length = 0) := Lib.hid (by rw [hL3]; rfl)
        have HNw : Hid (∀ j u, (strsV L3)[j]? = some u → w2.cell? ((⟨b, o + k, none⟩ : Addr).add j) = some u) := Lib.hid (by
          rw [hL3]
          intro j u hu; simp [strsV] at hu)
        have HK4 : Hid ((L1 ++ [by' s]).length + (0) ≤ maxLen ∧ ((L1 ++ [by' s]).length + (0)) * 16 ≤ 140737488355328) := Lib.hid (by rw [List.length_append, HLk.out, List.length_singleton]; unfold maxLen; omega)
        have HP3 : Hid (put L (by' s) = (L1 ++ [by' s]) ++ L3) := Lib.hid (by rw [HP.out, HL1.out, hL3]; simp)
        clear hL3
        go_wp2_with (at_builtin; (refine wpList_append_own _ rfl _ _ 48 rfl w.heap.size 9 i0 (.string ⟨#[]⟩) 1 16 Try.underlying48 HI0.out.1 HI0.out.2.1 HI0.out.2.2.1 HI0.out.2.2.2 rfl (by decide) _ _ _ rfl HO2.out ⟨b, o + k, none⟩ (0) (c - k) (strsV L3) rfl ((strsV_length _).trans (HLr.out.trans (Nat.mul_one _).symm)) HNw.out (strsV_one' _) HK4.out.1 HK4.out.2 HB2.out.size ?_); intro v3 w3 h6 h7 _)
        have HB3 : Hid (Below w.heap.size w w3) := Lib.hid (HB2.out.grown h7 HB2.out.size (fun q hq => (World.ownsRow.lt HO2.out q hq).1))
        have HO3 : Hid (OwnL B (put L (by' s)) v3 w3) := Lib.hid (by
          unfold OwnL
          have h8 := row_base h6 hB
          rw [HP3.out, List.length_append (bs := L3), HLr.out, show strsV ((L1 ++ [by' s]) ++ L3) = strsV (L1 ++ [by' s]) ++ strsV L3 from by simp [strsV]]
          exact h8)
        clear h6 h7
        go_wp2_with fail
        go_ret
        exact ⟨_, rfl, HO3.out, HB3.out⟩
end Go.Proofs.Ytiadggeheiadiaa
