/- The document's port: a port into a row that rises, once. (written by mk_dv.py) -/
import Derived.Test.YtmfebmiigkmkbaaDJ
import Derived.Laws.AppendOwnNone
import Derived.Deep.AppendLies
set_option linter.unusedVariables false
set_option linter.unusedSimpArgs false
namespace Go.Proofs.Ytmfebmiigkmkbaa
open Go Go.RowKit Oj Dm

/-- A slice as Go has them: nil, or with room. -/
def Wf (v : Value) : Prop := v = .slice none 0 0 ∨ ∃ ad n c, v = .slice (some ad) n c ∧ n ≤ c ∧ c ≤ maxLen
theorem row_wf {w : World} {B : Nat} {e : TypeId} {z : Nat} {v : Value} {n : Nat} {xs : List Value} (h : w.ownsRow B e z v n xs) : Wf v := by
  rcases h.2 with ⟨h1, _⟩ | ⟨g, c, cur, h1, _, _, h2, h3, _⟩
  · exact .inl h1
  · exact .inr ⟨_, _, _, h1, h2, h3⟩
theorem slC_any0 {w : World} {a : Option Addr} {c z : Nat} {cs : Nat → List Value} : SlC w (.slice a 0 c) 0 z cs := ⟨a, c, rfl, fun h => absurd h (by omega)⟩
theorem new1 (W : World) (t : TypeId) (a : Value) : ∀ j u, [a][j]? = some u → (W.alloc (.cells #[a] t)).cell? ((⟨W.heap.size, 0, none⟩ : Addr).add j) = some u :=
  World.news_of_block (cs := #[a]) (t := t) (fr := (0, 0)) (heap_alloc_new W _)
/-- What the document's port and extent answer: the row itself, or one of their own. -/
def PutP (w : World) (v : Value) (l : List Int) (p : Int) (e : Ending) (w' : World) : Prop := ∃ v', e = .returned v' ∧ ((v' = v ∧ insP p l = l) ∨ OwnP w' w.heap.size v' (insP p l)) ∧ Below w.heap.size w w'
theorem OwnP.more {w : World} {B : Nat} {v : Value} {l : List Int} {p : Int} (h : w.ownsRow B 51 1 v (l.length + 1) (l.flatMap ptCells ++ [.int .u16 p])) : OwnP w B v (l ++ [p]) := by
  unfold OwnP
  rw [List.length_append, List.flatMap_append]
  exact h
theorem OwnP.join {w : World} {B : Nat} {v : Value} {l l2 : List Int} {k : Nat} (hk : k = l2.length) (h : w.ownsRow B 51 1 v (l.length + k) (l.flatMap ptCells ++ l2.flatMap ptCells)) : OwnP w B v (l ++ l2) := by
  subst hk
  unfold OwnP
  rw [List.length_append, List.flatMap_append]
  exact h

set_option maxHeartbeats 8000000 in
set_option maxRecDepth 100000 in
theorem rport_nil (a : Option Addr) (c : Nat) (hW : Wf (.slice a 0 c)) (p : Int) (w : World) : Calls Try.prog 39 #[.slice a 0 c, .int .u16 p] w (PutP w (.slice a 0 c) [] p) := by
  obtain ⟨i0, hi, hz0, hz1, hz2⟩ := info_parts infoU16
  have HI := Lib.hid (And.intro hi (And.intro hz0 (And.intro hz1 hz2)))
  have HK : Hid (0 + 1 ≤ maxLen ∧ (0 + 1) * 2 ≤ 140737488355328) := Lib.hid (by unfold maxLen; omega)
  have HK2 : Hid (1 + 0 ≤ maxLen ∧ (1 + 0) * 2 ≤ 140737488355328) := Lib.hid (by unfold maxLen; omega)
  have hcase : (a = none ∧ c = 0) ∨ (∃ b o sp, a = some ⟨b, o, sp⟩) := by
    rcases hW with h | ⟨ad, n, c', h, _⟩
    · injection h with h1 h2 h3; exact .inl ⟨h1, h3⟩
    · injection h with h1 h2 h3; exact .inr ⟨ad.block, ad.off, ad.spot, h1⟩
  clear hi hz0 hz1 hz2 hW
  rcases hcase with ⟨rfl, rfl⟩ | ⟨b, o, sp, rfl⟩
  case' inl => have hc0 : True := trivial
  case' inr => rcases Nat.eq_zero_or_pos c with hc0 | hc0
  all_goals
    try (obtain rfl := hc0)
    go_enter Try.func39, Try.ntmps39
    go_wp2_with fail
    go_loop [5] (fun i => i = .int .i64 0) (fun _ => 0)
    case atStart => rfl
    case round =>
      subst hrel
      go_upto_region 7 with (at_builtin; refine wpList_append_all rfl _ _ 24 rfl w.heap.size 51 i0 (.int .u16 0) 1 2 Try.underlying24 HI.out.1 HI.out.2.1 HI.out.2.2.1 HI.out.2.2.2 rfl (by decide) rfl _ 0 (fun _ => []) rfl slC_any0 (fun _ h => absurd h (by omega)) (fun _ h => absurd h (by omega)) (by unfold maxLen; omega) (by omega) (Nat.le_refl _) ?_; intro v1 w1 h6 h7)
      have HO1 : Hid (OwnP w1 w.heap.size v1 []) := Lib.hid h6
      have HB1 := Lib.hid (grown_none h7)
      have HBx : Hid (w.heap.size ≤ (w1.alloc (.cells #[.int .u16 p] 51)).heap.size) := Lib.hid (below_box HB1.out _).size
      clear h6 h7
      go_upto_region 8 with (at_builtin; (refine wpList_append_own _ rfl _ _ 24 rfl w.heap.size 51 i0 (.int .u16 0) 1 2 Try.underlying24 HI.out.1 HI.out.2.1 HI.out.2.2.1 HI.out.2.2.2 rfl (by decide) v1 0 _ rfl (World.ownsRow.alloc HO1.out _) ⟨w1.heap.size, 0, none⟩ 1 1 [.int .u16 p] rfl rfl (new1 _ _ _) (fun u hu => by rw [List.mem_singleton] at hu; rw [hu]; rfl) HK.out.1 HK.out.2 HBx.out ?_); intro v2 w2 h6 h7 _)
      have HB2 : Hid (Below w.heap.size w w2) := Lib.hid ((below_box HB1.out _).grown h7 (below_box HB1.out _).size (fun q hq => (World.ownsRow.lt HO1.out q hq).1))
      have HO2 : Hid (OwnP w2 w.heap.size v2 (insP p [])) := Lib.hid (OwnP.more (l := []) h6)
      clear h6 h7 HO1 HB1 HBx
      go_wp2_with (at_builtin; (first
        | refine wpList_append_own_none rfl _ _ 24 rfl w.heap.size 51 i0 1 Try.underlying24 HI.out.1 v2 1 _ rfl HO2.out rfl ?_
        | (refine wpList_append_own _ rfl _ _ 24 rfl w.heap.size 51 i0 (.int .u16 0) 1 2 Try.underlying24 HI.out.1 HI.out.2.1 HI.out.2.2.1 HI.out.2.2.2 rfl (by decide) v2 1 _ rfl HO2.out _ 0 _ [] rfl rfl (fun j u hu => by cases hu) (fun u hu => by cases hu) HK2.out.1 HK2.out.2 HB2.out.size ?_; intro v3 w3 h6 h7 _)))
      try (
        have HB3 : Hid (Below w.heap.size w w3) := Lib.hid (HB2.out.grown h7 HB2.out.size (fun q hq => (World.ownsRow.lt HO2.out q hq).1))
        have HO3 : Hid (OwnP w3 w.heap.size v3 (insP p [])) := Lib.hid (by rw [List.append_nil] at h6; exact h6)
        clear h6 h7)
      go_wp2_with fail
      go_ret
      first
        | exact ⟨_, rfl, .inr HO3.out, HB3.out⟩
        | exact ⟨_, rfl, .inr HO2.out, HB2.out⟩

set_option maxHeartbeats 16000000 in
set_option maxRecDepth 100000 in
theorem rport_some (v : Value) (l : List Int) (hl0 : 0 < l.length) (hl : l.length ≤ 1048576) (hW : Wf v) (p : Int) (w : World) (hA : PtsAt w v l) : Calls Try.prog 39 #[v, .int .u16 p] w (PutP w v l p) := by
  obtain ⟨i0, hi, hz0, hz1, hz2⟩ := info_parts infoU16
  have HI := Lib.hid (And.intro hi (And.intro hz0 (And.intro hz1 hz2)))
  obtain ⟨a, c, rfl, h3⟩ := hA
  obtain ⟨b, o, rfl, hbl, hcl⟩ := h3 hl0
  have hnc : l.length ≤ c := by
    rcases hW with h | ⟨ad, n, c', h, h1, _⟩
    · cases h
    · injection h with _ h2 h3; omega
  obtain ⟨n, hn⟩ : ∃ n, n = l.length := ⟨_, rfl⟩
  rw [← hn] at hcl hnc hl hl0 ⊢
  have hni : (n : Int) ≤ 1048576 := by omega
  have hci : (n : Int) ≤ (c : Int) := by omega
  have HN := Lib.hid hn
  have HCl := Lib.hid hcl
  clear hi hz0 hz1 hz2 h3 hn hcl hW hl
  go_enter Try.func39, Try.ntmps39
  go_wp2_with fail
  go_loop [5] (fun i => ∃ k : Nat, (k : Int) ≤ n ∧ i = .int .i64 k ∧ Hid (∀ j, j < k → l.getD j 0 < p)) (fun i => n - (intOf i).toNat)
  case atStart => exact ⟨0, by omega, rfl, Lib.hid fun j hj => absurd hj (by omega)⟩
  case round =>
    obtain ⟨k, hk, rfl, HK⟩ := hrel
    have HCk : Hid (SlC w (.slice (some ⟨b, o, none⟩) k c) k 1 (fun j => ptCells (l.getD j 0))) := Lib.hid ⟨_, _, rfl, fun _ => ⟨b, o, rfl, hbl, fun j hj => HCl.out j (by omega)⟩⟩
    by_cases hlt : k < n
    · have hd : decide (k < n) = true := decide_eq_true hlt
      obtain ⟨q, hq⟩ : ∃ q, q = l.getD k 0 := ⟨_, rfl⟩
      have cU := (HCl.out k hlt).pt
      rw [← hq, Nat.mul_one] at cU
      by_cases hqp : q < p
      · have HK2 : Hid (∀ j, j < k + 1 → l.getD j 0 < p) := Lib.hid fun j hj => by
          by_cases he : j = k
          · subst he; rw [← hq]; exact hqp
          · exact HK.out j (by omega)
        clear hq HK HCk
        go_wp2_with fail
        go_round
        case rel => exact ⟨k + 1, by omega, by go_num, HK2⟩
        case measure => simp [intOf]; omega
      · have hpq : p ≤ q := by omega
        have hput := insP_at p l k (by rw [← HN.out]; omega) HK.out (fun _ => by rw [← hq]; exact hqp)
        by_cases hqe : q = p
        · have HP : Hid (insP p l = l) := Lib.hid (by rw [hput, if_pos ⟨by rw [← HN.out]; exact hlt, by rw [← hq]; exact hqe⟩])
          clear hput hqp hq HK HCk
          subst hqe
          go_wp2_with fail
          go_ret
          exact ⟨_, rfl, .inl ⟨rfl, HP.out⟩, Below.refl _ _⟩
        · have HP : Hid (insP p l = l.take k ++ p :: l.drop k) := Lib.hid (by rw [hput, if_neg (fun h => hqe (by rw [hq]; exact h.2))])
          have hqp2 : (q == p) = false := beq_eq_false_iff_ne.2 hqe
          clear hput hqp hq HK hqe
          have HKm : Hid (k ≤ maxLen ∧ k * 2 ≤ 140737488355328) := Lib.hid (by unfold maxLen; omega)
          go_upto_region 7 with (at_builtin; refine wpList_append_all rfl _ _ 24 rfl w.heap.size 51 i0 (.int .u16 0) 1 2 Try.underlying24 HI.out.1 HI.out.2.1 HI.out.2.2.1 HI.out.2.2.2 rfl (by decide) rfl (.slice (some ⟨b, o, none⟩) k c) k (fun j => ptCells (l.getD j 0)) rfl HCk.out (fun _ _ => rfl) (fun _ _ u hu => by simp only [ptCells, List.mem_singleton] at hu; rw [hu]; rfl) HKm.out.1 HKm.out.2 (Nat.le_refl _) ?_; intro v1 w1 h6 h7)
          have HB1 := Lib.hid (grown_none h7)
          obtain ⟨L1, hL1⟩ : ∃ L1, L1 = l.take k := ⟨_, rfl⟩
          have HLk : Hid (L1.length = k) := Lib.hid (by rw [hL1, List.length_take, ← HN.out]; omega)
          have HO1 : Hid (OwnP w1 w.heap.size v1 L1) := Lib.hid (by
            unfold OwnP
            rw [HLk.out, hL1, ← flat_take ptCells 0 l k (by rw [← HN.out]; omega)]
            exact h6)
          have HL1 := Lib.hid hL1
          have HBx : Hid (w.heap.size ≤ (w1.alloc (.cells #[.int .u16 p] 51)).heap.size) := Lib.hid (below_box HB1.out _).size
          have HK3 : Hid (L1.length + 1 ≤ maxLen ∧ (L1.length + 1) * 2 ≤ 140737488355328) := Lib.hid (by rw [HLk.out]; unfold maxLen; omega)
          clear h6 h7 HCk hL1 HKm
          go_upto_region 8 with (at_builtin; (refine wpList_append_own _ rfl _ _ 24 rfl w.heap.size 51 i0 (.int .u16 0) 1 2 Try.underlying24 HI.out.1 HI.out.2.1 HI.out.2.2.1 HI.out.2.2.2 rfl (by decide) v1 L1.length _ rfl (World.ownsRow.alloc HO1.out _) ⟨w1.heap.size, 0, none⟩ 1 1 [.int .u16 p] rfl rfl (new1 _ _ _) (fun u hu => by rw [List.mem_singleton] at hu; rw [hu]; rfl) HK3.out.1 HK3.out.2 HBx.out ?_); intro v2 w2 h6 h7 _)
          have HB2 : Hid (Below w.heap.size w w2) := Lib.hid ((below_box HB1.out _).grown h7 (below_box HB1.out _).size (fun q hq => (World.ownsRow.lt HO1.out q hq).1))
          obtain ⟨L2, hL2⟩ : ∃ L2, L2 = L1 ++ [p] := ⟨_, rfl⟩
          have HO2 : Hid (OwnP w2 w.heap.size v2 L2) := Lib.hid (by rw [hL2]; exact OwnP.more h6)
          have HLk2 : Hid (L2.length = k + 1) := Lib.hid (by rw [hL2, List.length_append, HLk.out]; rfl)
          have HL2 := Lib.hid hL2
          clear h6 h7 HO1 HB1 HBx HK3 hL2
          obtain ⟨L3, hL3⟩ : ∃ L3, L3 = l.drop k := ⟨_, rfl⟩
          have HLr : Hid (L3.length = n - k) := Lib.hid (by rw [hL3, List.length_drop, ← HN.out])
          have HP3 : Hid (insP p l = L2 ++ L3) := Lib.hid (by rw [HP.out, HL2.out, HL1.out, hL3]; simp)
          have HNw : Hid (∀ j u, (L3.flatMap ptCells)[j]? = some u → w2.cell? ((⟨b, o + k, none⟩ : Addr).add j) = some u) := Lib.hid (by
            rw [hL3]
            intro j u hu
            rw [Addr.add_mid]
            have hj : j < (l.drop k).length := by have := (List.getElem?_eq_some_iff.1 hu).1; rw [fm_len pt_len] at this; omega
            rw [List.length_drop, ← HN.out] at hj
            have e : u = .int .u16 (l.getD (k + j) 0) := by
              have h9 := (fm_take pt_len l k (by rw [← HN.out]; omega)).2
              rw [← h9, List.getElem?_drop, Nat.mul_one] at hu
              rw [← flat_all' ptCells (0 : Int) l] at hu
              have h8 := flat_get (cs := fun j => ptCells (l.getD j 0)) (z := 1) l.length (fun _ _ => rfl) (k + j) 0 (by rw [← HN.out]; omega) (by omega)
              rw [Nat.mul_one, Nat.add_zero] at h8
              rw [h8] at hu
              simp only [ptCells, List.getElem?_cons_zero, Option.some.injEq] at hu
              exact hu.symm
            rw [e, Nat.add_assoc]
            have hc1 := (HCl.out (k + j) (by omega)).pt
            rw [Nat.mul_one] at hc1
            exact (HB2.out.cell (p := ⟨b, o + (k + j), none⟩) hbl).trans hc1)
          have HK4 : Hid (L2.length + (n - k) ≤ maxLen ∧ (L2.length + (n - k)) * 2 ≤ 140737488355328) := Lib.hid (by rw [HLk2.out]; unfold maxLen; omega)
          clear hL3
          go_wp2_with (at_builtin; (refine wpList_append_own _ rfl _ _ 24 rfl w.heap.size 51 i0 (.int .u16 0) 1 2 Try.underlying24 HI.out.1 HI.out.2.1 HI.out.2.2.1 HI.out.2.2.2 rfl (by decide) v2 L2.length _ rfl HO2.out ⟨b, o + k, none⟩ (n - k) (c - k) (L3.flatMap ptCells) rfl (by rw [fm_len pt_len]; exact congrArg (· * 1) HLr.out) HNw.out (pts_one _) HK4.out.1 HK4.out.2 HB2.out.size ?_); intro v3 w3 h6 h7 _)
          have HB3 : Hid (Below w.heap.size w w3) := Lib.hid (HB2.out.grown h7 HB2.out.size (fun q hq => (World.ownsRow.lt HO2.out q hq).1))
          have HO3 : Hid (OwnP w3 w.heap.size v3 (insP p l)) := Lib.hid (by rw [HP3.out]; exact OwnP.join HLr.out.symm h6)
          clear h6 h7
          go_wp2_with fail
          go_ret
          exact ⟨_, rfl, .inr HO3.out, HB3.out⟩
    · have hd : decide (k < n) = false := decide_eq_false hlt
      have hkn : k ≤ n := by omega
      have HKN : Hid (n - k = 0) := Lib.hid (by omega)
      have hput := insP_at p l k (by rw [← HN.out]; omega) HK.out (fun h => absurd h (by rw [← HN.out]; omega))
      have HP : Hid (insP p l = l.take k ++ p :: l.drop k) := Lib.hid (by rw [hput, if_neg (fun h => by rw [← HN.out] at h; omega)])
      clear hput HK hlt
      by_cases hck : c = k
      · have hck2 : k = c := hck.symm
        clear hck
        subst hck2
        obtain rfl : n = k := by omega
        have HKm : Hid (n ≤ maxLen ∧ n * 2 ≤ 140737488355328) := Lib.hid (by unfold maxLen; omega)
        go_upto_region 7 with (at_builtin; refine wpList_append_all rfl _ _ 24 rfl w.heap.size 51 i0 (.int .u16 0) 1 2 Try.underlying24 HI.out.1 HI.out.2.1 HI.out.2.2.1 HI.out.2.2.2 rfl (by decide) rfl (.slice (some ⟨b, o, none⟩) n n) n (fun j => ptCells (l.getD j 0)) rfl HCk.out (fun _ _ => rfl) (fun _ _ u hu => by simp only [ptCells, List.mem_singleton] at hu; rw [hu]; rfl) HKm.out.1 HKm.out.2 (Nat.le_refl _) ?_; intro v1 w1 h6 h7)
        have HB1 := Lib.hid (grown_none h7)
        obtain ⟨L1, hL1⟩ : ∃ L1, L1 = l.take n := ⟨_, rfl⟩
        have HLk : Hid (L1.length = n) := Lib.hid (by rw [hL1, List.length_take, ← HN.out]; omega)
        have HO1 : Hid (OwnP w1 w.heap.size v1 L1) := Lib.hid (by
          unfold OwnP
          rw [HLk.out, hL1, ← flat_take ptCells 0 l n (by rw [← HN.out]; omega)]
          exact h6)
        have HL1 := Lib.hid hL1
        have HBx : Hid (w.heap.size ≤ (w1.alloc (.cells #[.int .u16 p] 51)).heap.size) := Lib.hid (below_box HB1.out _).size
        have HK3 : Hid (L1.length + 1 ≤ maxLen ∧ (L1.length + 1) * 2 ≤ 140737488355328) := Lib.hid (by rw [HLk.out]; unfold maxLen; omega)
        clear h6 h7 HCk hL1 HKm
        go_upto_region 8 with (at_builtin; (refine wpList_append_own _ rfl _ _ 24 rfl w.heap.size 51 i0 (.int .u16 0) 1 2 Try.underlying24 HI.out.1 HI.out.2.1 HI.out.2.2.1 HI.out.2.2.2 rfl (by decide) v1 L1.length _ rfl (World.ownsRow.alloc HO1.out _) ⟨w1.heap.size, 0, none⟩ 1 1 [.int .u16 p] rfl rfl (new1 _ _ _) (fun u hu => by rw [List.mem_singleton] at hu; rw [hu]; rfl) HK3.out.1 HK3.out.2 HBx.out ?_); intro v2 w2 h6 h7 _)
        have HB2 : Hid (Below w.heap.size w w2) := Lib.hid ((below_box HB1.out _).grown h7 (below_box HB1.out _).size (fun q hq => (World.ownsRow.lt HO1.out q hq).1))
        obtain ⟨L2, hL2⟩ : ∃ L2, L2 = L1 ++ [p] := ⟨_, rfl⟩
        have HO2 : Hid (OwnP w2 w.heap.size v2 L2) := Lib.hid (by rw [hL2]; exact OwnP.more h6)
        have HLk2 : Hid (L2.length = n + 1) := Lib.hid (by rw [hL2, List.length_append, HLk.out]; rfl)
        have HL2 := Lib.hid hL2
        clear h6 h7 HO1 HB1 HBx HK3 hL2
        obtain ⟨L3, hL3⟩ : ∃ L3, L3 = l.drop n := ⟨_, rfl⟩
        have HLr : Hid (L3.length = 0) := Lib.hid (by rw [hL3, List.length_drop, ← HN.out]; omega)
        have HP3 : Hid (insP p l = L2 ++ L3) := Lib.hid (by rw [HP.out, HL2.out, HL1.out, hL3]; simp)
        have HK4 : Hid (L2.length + (0) ≤ maxLen ∧ (L2.length + (0)) * 2 ≤ 140737488355328) := Lib.hid (by rw [HLk2.out]; unfold maxLen; omega)
        clear hL3
        go_wp2_with (at_builtin; (refine wpList_append_own _ rfl _ _ 24 rfl w.heap.size 51 i0 (.int .u16 0) 1 2 Try.underlying24 HI.out.1 HI.out.2.1 HI.out.2.2.1 HI.out.2.2.2 rfl (by decide) v2 L2.length _ rfl HO2.out _ (0) _ (L3.flatMap ptCells) rfl (by rw [fm_len pt_len]; exact congrArg (· * 1) HLr.out) (fun j u hu => absurd hu (by rw [List.eq_nil_of_length_eq_zero (HLr.out : L3.length = 0)]; simp)) (pts_one _) HK4.out.1 HK4.out.2 HB2.out.size ?_); intro v3 w3 h6 h7 _)
        have HB3 : Hid (Below w.heap.size w w3) := Lib.hid (HB2.out.grown h7 HB2.out.size (fun q hq => (World.ownsRow.lt HO2.out q hq).1))
        have HO3 : Hid (OwnP w3 w.heap.size v3 (insP p l)) := Lib.hid (by rw [HP3.out]; exact OwnP.join HLr.out.symm h6)
        clear h6 h7
        go_wp2_with fail
        go_ret
        exact ⟨_, rfl, .inr HO3.out, HB3.out⟩
      · have hck2 : ¬ (c = k) := hck
        have HKm : Hid (k ≤ maxLen ∧ k * 2 ≤ 140737488355328) := Lib.hid (by unfold maxLen; omega)
        go_upto_region 7 with (at_builtin; refine wpList_append_all rfl _ _ 24 rfl w.heap.size 51 i0 (.int .u16 0) 1 2 Try.underlying24 HI.out.1 HI.out.2.1 HI.out.2.2.1 HI.out.2.2.2 rfl (by decide) rfl (.slice (some ⟨b, o, none⟩) k c) k (fun j => ptCells (l.getD j 0)) rfl HCk.out (fun _ _ => rfl) (fun _ _ u hu => by simp only [ptCells, List.mem_singleton] at hu; rw [hu]; rfl) HKm.out.1 HKm.out.2 (Nat.le_refl _) ?_; intro v1 w1 h6 h7)
        have HB1 := Lib.hid (grown_none h7)
        obtain ⟨L1, hL1⟩ : ∃ L1, L1 = l.take k := ⟨_, rfl⟩
        have HLk : Hid (L1.length = k) := Lib.hid (by rw [hL1, List.length_take, ← HN.out]; omega)
        have HO1 : Hid (OwnP w1 w.heap.size v1 L1) := Lib.hid (by
          unfold OwnP
          rw [HLk.out, hL1, ← flat_take ptCells 0 l k (by rw [← HN.out]; omega)]
          exact h6)
        have HL1 := Lib.hid hL1
        have HBx : Hid (w.heap.size ≤ (w1.alloc (.cells #[.int .u16 p] 51)).heap.size) := Lib.hid (below_box HB1.out _).size
        have HK3 : Hid (L1.length + 1 ≤ maxLen ∧ (L1.length + 1) * 2 ≤ 140737488355328) := Lib.hid (by rw [HLk.out]; unfold maxLen; omega)
        clear h6 h7 HCk hL1 HKm
        go_upto_region 8 with (at_builtin; (refine wpList_append_own _ rfl _ _ 24 rfl w.heap.size 51 i0 (.int .u16 0) 1 2 Try.underlying24 HI.out.1 HI.out.2.1 HI.out.2.2.1 HI.out.2.2.2 rfl (by decide) v1 L1.length _ rfl (World.ownsRow.alloc HO1.out _) ⟨w1.heap.size, 0, none⟩ 1 1 [.int .u16 p] rfl rfl (new1 _ _ _) (fun u hu => by rw [List.mem_singleton] at hu; rw [hu]; rfl) HK3.out.1 HK3.out.2 HBx.out ?_); intro v2 w2 h6 h7 _)
        have HB2 : Hid (Below w.heap.size w w2) := Lib.hid ((below_box HB1.out _).grown h7 (below_box HB1.out _).size (fun q hq => (World.ownsRow.lt HO1.out q hq).1))
        obtain ⟨L2, hL2⟩ : ∃ L2, L2 = L1 ++ [p] := ⟨_, rfl⟩
        have HO2 : Hid (OwnP w2 w.heap.size v2 L2) := Lib.hid (by rw [hL2]; exact OwnP.more h6)
        have HLk2 : Hid (L2.length = k + 1) := Lib.hid (by rw [hL2, List.length_append, HLk.out]; rfl)
        have HL2 := Lib.hid hL2
        clear h6 h7 HO1 HB1 HBx HK3 hL2
        obtain ⟨L3, hL3⟩ : ∃ L3, L3 = l.drop k := ⟨_, rfl⟩
        have HLr : Hid (L3.length = n - k) := Lib.hid (by rw [hL3, List.length_drop, ← HN.out])
        have HP3 : Hid (insP p l = L2 ++ L3) := Lib.hid (by rw [HP.out, HL2.out, HL1.out, hL3]; simp)
        have HNw : Hid (∀ j u, (L3.flatMap ptCells)[j]? = some u → w2.cell? ((⟨b, o + k, none⟩ : Addr).add j) = some u) := Lib.hid (by
          rw [hL3]
          intro j u hu
          rw [Addr.add_mid]
          have hj : j < (l.drop k).length := by have := (List.getElem?_eq_some_iff.1 hu).1; rw [fm_len pt_len] at this; omega
          rw [List.length_drop, ← HN.out] at hj
          have e : u = .int .u16 (l.getD (k + j) 0) := by
            have h9 := (fm_take pt_len l k (by rw [← HN.out]; omega)).2
            rw [← h9, List.getElem?_drop, Nat.mul_one] at hu
            rw [← flat_all' ptCells (0 : Int) l] at hu
            have h8 := flat_get (cs := fun j => ptCells (l.getD j 0)) (z := 1) l.length (fun _ _ => rfl) (k + j) 0 (by rw [← HN.out]; omega) (by omega)
            rw [Nat.mul_one, Nat.add_zero] at h8
            rw [h8] at hu
            simp only [ptCells, List.getElem?_cons_zero, Option.some.injEq] at hu
            exact hu.symm
          rw [e, Nat.add_assoc]
          have hc1 := (HCl.out (k + j) (by omega)).pt
          rw [Nat.mul_one] at hc1
          exact (HB2.out.cell (p := ⟨b, o + (k + j), none⟩) hbl).trans hc1)
        have HK4 : Hid (L2.length + (n - k) ≤ maxLen ∧ (L2.length + (n - k)) * 2 ≤ 140737488355328) := Lib.hid (by rw [HLk2.out]; unfold maxLen; omega)
        clear hL3
        go_wp2_with (at_builtin; (refine wpList_append_own _ rfl _ _ 24 rfl w.heap.size 51 i0 (.int .u16 0) 1 2 Try.underlying24 HI.out.1 HI.out.2.1 HI.out.2.2.1 HI.out.2.2.2 rfl (by decide) v2 L2.length _ rfl HO2.out ⟨b, o + k, none⟩ (n - k) (c - k) (L3.flatMap ptCells) rfl (by rw [fm_len pt_len]; exact congrArg (· * 1) HLr.out) HNw.out (pts_one _) HK4.out.1 HK4.out.2 HB2.out.size ?_); intro v3 w3 h6 h7 _)
        have HB3 : Hid (Below w.heap.size w w3) := Lib.hid (HB2.out.grown h7 HB2.out.size (fun q hq => (World.ownsRow.lt HO2.out q hq).1))
        have HO3 : Hid (OwnP w3 w.heap.size v3 (insP p l)) := Lib.hid (by rw [HP3.out]; exact OwnP.join HLr.out.symm h6)
        clear h6 h7
        go_wp2_with fail
        go_ret
        exact ⟨_, rfl, .inr HO3.out, HB3.out⟩

theorem rport_any (v : Value) (l : List Int) (hl : l.length ≤ 1048576) (hW : Wf v) (p : Int) (w : World) (hA : PtsAt w v l) : Calls Try.prog 39 #[v, .int .u16 p] w (PutP w v l p) := by
  rcases Nat.eq_zero_or_pos l.length with h | h
  · have h0 : l = [] := List.eq_nil_of_length_eq_zero h
    subst h0
    obtain ⟨a, c, rfl, _⟩ := hA
    exact rport_nil a c hW p w
  · exact rport_some v l h hl hW p w hA
end Go.Proofs.Ytmfebmiigkmkbaa
