/- The document's own Map: the same as the program's. -/
import Derived.Test.YtgdbhmlmioihpaaDoorX24
import Derived.Test.YtgdbhmlmioihpaaDoorX25
import Derived.Lib.MakeNoZero
set_option linter.unusedVariables false
namespace Go.Proofs.YtgdbhmlmioihpaaDoor
open Go.RowKit Go.Maps

theorem own_none {w w' : World} {base size n : Nat} {e : TypeId} {v : Value} {xs : List Value} (h : w.ownsRow base e size v n xs) (hg : w.grownBy w' none) : w'.ownsRow base e size v n xs := by
  refine h.kept hg ?_
  cases hv : v.ownBlock with
  | none => exact .inl rfl
  | some k => exact .inr (by simp)
theorem zeros_gen (f : Pg) (n : Nat) (h : ∀ j, j < n → f j = 0) : ((List.range n).map fun j => Value.int .u8 ((f j).toNat : Int)) = Lib.byteCells (List.replicate n 0) := by
  unfold Lib.byteCells
  rw [List.map_replicate, List.eq_replicate_iff]
  exact ⟨by simp, fun b hb => by obtain ⟨j, hj, rfl⟩ := List.mem_map.1 hb; rw [h j (List.mem_range.1 hj)]⟩
theorem bcs_new (perm : Nat) : bcs (newPg perm) = Lib.byteCells (List.replicate 256 0) := zeros_gen (newPg perm) 256 fun j hj => by unfold newPg; rw [if_neg (by omega)]
/-- A page that was just made. -/
theorem new_page {w w7 : World} {W0 X perm : Nat} (hX : X < 4096) (hpm : perm < 8) (hW : W0 ≤ w.heap.size) (hown : w7.ownsRow W0 5 1 (.slice (some ⟨w.heap.size, 0, none⟩) 256 256) 256 (madeCells (Value.int .u8 0).cells (256 * 1)).toList) :
    ∃ R, PageAt (w7.alloc (.cells #[.int .u32 (256 * (X : Int)), .int .u8 (perm : Int), .slice (some ⟨w.heap.size, 0, none⟩) 256 256] 101)) W0 ⟨X, w7.heap.size, w.heap.size, 256, R⟩ (newPg perm) := by
  have hz := zeros_row hown
  rcases hz.2 with ⟨h1, _⟩ | ⟨g, cap, cur, h1, h2, h3, h4, h5, h6, h7⟩
  · cases h1
  · injection h1 with h1 _ _
    injection h1 with h1
    injection h1 with h1 _ _
    subst h1
    obtain ⟨R, hR⟩ : ∃ R, R = cur.toList.drop ((List.replicate 256 (0 : UInt8)).length * 1) := ⟨_, rfl⟩
    have hb : Blk w7 w.heap.size 5 (bcs (newPg perm) ++ R) := by
      have : (bcs (newPg perm) ++ R).toArray = cur := by
        rw [bcs_new, ← h7, hR, List.take_append_drop]
      unfold Blk
      rw [this]
      exact h3
    refine ⟨R, hX, ?_, hb.alloc _, hW⟩
    rw [perm_new perm hpm]
    exact Blk.new w7 _ _

def MInv (w wr : World) (W0 : Nat) (L : List RP) (X perm i : Nat) (d : Bool) (z : Value) : Prop :=
  Below W0 w wr ∧ match d with
    | true => ∃ m np, m ≤ i ∧ np.i = X ∧ PageAt wr W0 np (newPg perm) ∧ (∀ k, k < m → k < L.length → (L.getD k RP.nought).i < X) ∧ (∀ k, m ≤ k → k < L.length → X < (L.getD k RP.nought).i) ∧ wr.ownsRow W0 97 1 z (i + 1) ((L.take m ++ np :: (L.take i).drop m).map ptrP)
    | false => wr.ownsRow W0 97 1 z i ((L.take i).map ptrP) ∧ ∀ k, k < i → k < L.length → (L.getD k RP.nought).i < X

theorem mem_take_at {L : List RP} {m : Nat} {e : RP} (h : e ∈ L.take m) : ∃ k, k < m ∧ k < L.length ∧ L.getD k RP.nought = e := by
  obtain ⟨k, hk, rfl⟩ := List.getElem_of_mem h
  rw [List.length_take] at hk
  refine ⟨k, by omega, by omega, ?_⟩
  rw [List.getElem_take, List.getD_eq_getElem?_getD, List.getElem?_eq_getElem (by omega)]
  rfl
theorem mem_drop_at {L : List RP} {m : Nat} {e : RP} (h : e ∈ L.drop m) : ∃ k, m ≤ k ∧ k < L.length ∧ L.getD k RP.nought = e := by
  obtain ⟨k, hk, rfl⟩ := List.getElem_of_mem h
  rw [List.length_drop] at hk
  refine ⟨m + k, by omega, by omega, ?_⟩
  rw [List.getElem_drop, List.getD_eq_getElem?_getD, List.getElem?_eq_getElem (by omega)]
  rfl
/-- The list with the new page in its place. -/
theorem RefP.insert {w wr : World} {B g c W0 X perm m : Nat} {a : Option Addr} {L : List RP} {A : As} (h0 : RefP w B g a c L A) (hW0 : W0 = w.heap.size) (hBW : B ≤ W0) (hr : RefP wr B g a c L A) (hX : A X = none) {np : RP} (hnp : np.i = X) (hp : PageAt wr W0 np (newPg perm))
    (h1 : ∀ k, k < m → k < L.length → (L.getD k RP.nought).i < X) (h2 : ∀ k, m ≤ k → k < L.length → X < (L.getD k RP.nought).i) {a2 : Option Addr} {c2 : Nat} (hrow : PAt wr a2 (L.take m ++ np :: L.drop m)) :
    RefP (wr.setCell ⟨g, 0, none⟩ (.slice a2 (L.take m ++ np :: L.drop m).length c2)) B g a2 c2 (L.take m ++ np :: L.drop m) (upd A X (some (newPg perm))) ∧ RTurn B wr (wr.setCell ⟨g, 0, none⟩ (.slice a2 (L.take m ++ np :: L.drop m).length c2)) := by
  have hperm : (L.take m ++ np :: L.drop m).Perm (np :: L) := by
    have := List.perm_middle (a := np) (l₁ := L.take m) (l₂ := L.drop m)
    rw [List.take_append_drop] at this
    exact this
  refine RefP.renew hr.head hr.gB hrow ?_ ?_ ?_ ?_
  · rw [List.map_append, List.map_cons, List.pairwise_append]
    refine ⟨List.Pairwise.sublist (List.Sublist.map _ (List.take_sublist _ _)) hr.up, List.pairwise_cons.2 ⟨fun y hy => ?_, List.Pairwise.sublist (List.Sublist.map _ (List.drop_sublist _ _)) hr.up⟩, fun x hx y hy => ?_⟩
    · obtain ⟨e, he, rfl⟩ := List.mem_map.1 hy
      obtain ⟨k, q1, q2, rfl⟩ := mem_drop_at he
      rw [hnp]
      exact h2 k q1 q2
    · obtain ⟨e, he, rfl⟩ := List.mem_map.1 hx
      obtain ⟨k, q1, q2, rfl⟩ := mem_take_at he
      have hlt := h1 k q1 q2
      rcases List.mem_cons.1 hy with rfl | hy
      · rw [hnp]; exact hlt
      · obtain ⟨e', he', rfl⟩ := List.mem_map.1 hy
        obtain ⟨k', r1, r2, rfl⟩ := mem_drop_at he'
        exact Nat.lt_trans hlt (h2 k' r1 r2)
  · intro j hj
    rw [(hperm.map _).mem_iff, List.map_cons, List.mem_cons]
    unfold upd at hj
    by_cases hjX : j = X
    · exact .inl (by rw [hnp]; exact hjX)
    · rw [if_neg hjX] at hj
      exact .inr (hr.has j hj)
  · intro e he
    rw [hperm.mem_iff, List.mem_cons] at he
    rcases he with rfl | he
    · exact ⟨_, by unfold upd; rw [if_pos hnp], ⟨hp.lt, hp.head, hp.bytes, Nat.le_trans hBW hp.low⟩⟩
    · obtain ⟨f, h3, h4⟩ := hr.page e he
      refine ⟨f, ?_, h4⟩
      unfold upd
      rw [if_neg (by intro hi; rw [hi, hX] at h3; cases h3)]
      exact h3
  · rw [(hperm.map (fun z : RP => z.q)).nodup_iff, List.map_cons, List.nodup_cons]
    refine ⟨fun hm => ?_, hr.apart⟩
    obtain ⟨e, he, hq⟩ := List.mem_map.1 hm
    obtain ⟨f, _, h4⟩ := h0.page e he
    have := h4.bytes.lt
    have := hp.low
    omega

set_option maxHeartbeats 8000000 in
set_option maxRecDepth 100000 in
theorem rmap_loop (B g c : Nat) (a : Option Addr) (L : List RP) (A : As) (x perm : Nat) (hx : x < 1048576) (hx2 : x % 256 = 0) (hpm : perm < 8) (hf : A (x / 256) = none) (w : World) (h : RefP w B g a c L A) (hBw : B ≤ w.heap.size) :
    Calls Tryd.prog 38 #[.pointer (some ⟨g, 0, none⟩), .int .u32 (x : Int), .int .u8 (perm : Int)] w fun r w' => r = .returned (.int .i64 0) ∧ RefAt w' B g (upd A (x / 256) (some (newPg perm))) ∧ RTurn B w w' := by
  have H := Lib.hid h
  have HLen := Lib.hid h.len
  have HM := Lib.hid (rmay_is (x : Int) (by omega) w)
  have hd : decide ((x : Int) < 1048576 ∧ (x : Int) % 256 = 0) = true := by rw [decide_eq_true_eq]; omega
  rw [hd] at HM
  have HOf := Lib.hid (rof_none B g c a L A x (by omega) hf w h)
  obtain ⟨X, hX⟩ : ∃ X, X = x / 256 := ⟨_, rfl⟩
  have HX : Hid ((x : Int) = 256 * (X : Int) ∧ X < 4096) := Lib.hid (by omega)
  rw [← hX] at hf
  rw [← hX]
  have HF := Lib.hid hf
  have HPM := Lib.hid hpm
  have hd7 : decide ((7 : Int) < (perm : Int)) = false := by rw [decide_eq_false_iff_not]; omega
  have m1 : IntKind.u64.wrap (x : Int) = (x : Int) := by rw [IntKind.wrap_u64]; omega
  obtain ⟨W0, hW0⟩ : ∃ W0, W0 = w.heap.size := ⟨_, rfl⟩
  have HW0 := Lib.hid hW0
  have HBW := Lib.hid hBw
  obtain ⟨N, hN⟩ : ∃ N, N = L.length := ⟨_, rfl⟩
  have HN := Lib.hid hN
  obtain ⟨i0, hi, hz0, hz1, hz2⟩ := info_parts info_prpage
  obtain ⟨i1, hj, hy0, hy1, hy2⟩ := info_parts info_u8
  have HBz : Hid (i1.bytes * 256 ≤ 281474976710656) := Lib.hid (by rw [hy2]; decide)
  have HM0 : Hid (MInv w w W0 L X perm 0 false (.slice none 0 0)) := Lib.hid ⟨by rw [hW0]; exact Below.refl _ _, World.ownsRow_nil w W0 97 1, fun k hk => absurd hk (Nat.not_lt_zero _)⟩
  clear h hN hW0 hd hx hx2 hf hX hBw hpm
  go_enter Tryd.func38, Tryd.ntmps38
  go_wp2_with (first
    | (go_at_call 52; refine HM.out.mono ?_; rintro e w' ⟨rfl, rfl⟩)
    | (go_at_call 53; refine HOf.out.mono ?_; rintro r w' ⟨rfl, rfl⟩))
  go_loopw [7, 8, 9] (fun v7 v8 v9 wr => ∃ (i : Nat) (z : Value) (d : Bool), v9 = .int .i64 i ∧ v8 = .bool d ∧ z = v7 ∧ Hid (i ≤ N) ∧ Hid (MInv w' wr W0 L X perm i d z)) (fun _ _ v _ => N - (intOf v).toNat)
  case atStart => exact ⟨0, _, false, rfl, rfl, rfl, Lib.hid (Nat.zero_le _), HM0⟩
  case round =>
    obtain ⟨i, z, d, rfl, rfl, rfl, HI, HMI⟩ := hrel
    clear HM0
    have Hr : Hid (RefP wr B g a c L A) := Lib.hid (H.out.below (by rw [← HW0.out]; exact HMI.out.1))
    have hc := Hr.out.cell0
    rw [← HN.out] at hc
    have hWs : Hid (W0 ≤ wr.heap.size) := Lib.hid (by rw [HW0.out]; exact HMI.out.1.size)
    by_cases hlt : (i : Int) < (N : Int)
    · have hj2 : i < L.length := by have := HN.out; omega
      obtain ⟨k, rfl, hk⟩ := Hr.out.addr hj2
      obtain ⟨e, he⟩ : ∃ e, L.getD i RP.nought = e := ⟨_, rfl⟩
      have hm : e ∈ L := by rw [← he]; exact Hr.out.mem hj2
      obtain ⟨f1, hA, hei, c0, _⟩ := Hr.out.three hm
      have ck := hk i hj2
      rw [he] at ck
      simp only [ptrP] at ck
      obtain ⟨y, hy⟩ : ∃ y : Int, y = 256 * (e.i : Int) := ⟨_, rfl⟩
      rw [← hy] at c0
      have m3 : IntKind.i64.wrap ((i : Int) + 1) = (i : Int) + 1 := by rw [IntKind.wrap_i64]; have := HN.out; have := HLen.out; omega
      have HLT : Hid (i < N) := Lib.hid (by omega)
      have HI2 : Hid (i + 1 ≤ N) := Lib.hid (by omega)
      have K3 : Hid (i + 1 ≤ maxLen) := Lib.hid (by unfold maxLen; have := HN.out; have := HLen.out; omega)
      have K4 : Hid ((i + 1) * 8 ≤ 140737488355328) := Lib.hid (by have := HN.out; have := HLen.out; omega)
      have K5 : Hid (i + 1 + 1 ≤ maxLen) := Lib.hid (by unfold maxLen; have := HN.out; have := HLen.out; omega)
      have K6 : Hid ((i + 1 + 1) * 8 ≤ 140737488355328) := Lib.hid (by have := HN.out; have := HLen.out; omega)
      have HY : Hid ((x : Int) < y ↔ X < e.i) := Lib.hid (by have := HX.out; omega)
      have HNE : Hid (e.i ≠ X) := Lib.hid (by intro h; rw [h, HF.out] at hA; cases hA)
      have HE := Lib.hid he
      have HTk : Hid (L.take (i + 1) = L.take i ++ [e]) := Lib.hid (by rw [take_snoc L RP.nought i hj2, he])
      have HUP : Hid (∀ k, i < k → k < L.length → e.i < (L.getD k RP.nought).i) := Lib.hid fun k h1 h2 => by
        have := List.pairwise_iff_getElem.1 Hr.out.up i k (by simpa using hj2) (by simpa using h2) h1
        simp only [List.getElem_map] at this
        rw [← he, List.getD_eq_getElem?_getD, List.getElem?_eq_getElem hj2, List.getD_eq_getElem?_getD, List.getElem?_eq_getElem h2]
        exact this
      clear hk hA hei he hm hy hj2
      cases d with
      | false =>
        by_cases hyx : X < e.i
        · have t1 : (x : Int) < y := HY.out.2 hyx
          obtain ⟨cs, hcs⟩ : ∃ cs, cs = (L.take i).map ptrP := ⟨_, rfl⟩
          have HO : Hid (wr.ownsRow W0 97 1 z i cs) := Lib.hid (by rw [hcs]; exact HMI.out.2.1)
          have HCS := Lib.hid hcs
          have HL2 := Lib.hid HMI.out.2.2
          have HHX := Lib.hid hyx
          have HP0 := Lib.hid (fun (w7 : World) (h : w7.ownsRow W0 5 1 (.slice (some ⟨wr.heap.size, 0, none⟩) 256 256) 256 (madeCells (Value.int .u8 0).cells (256 * 1)).toList) => new_page (X := X) (perm := perm) HX.out.2 HPM.out hWs.out h)
          clear hcs hyx
          go_wp2_with (at_make; refine wpList_make_full _ rfl _ _ 56 rfl W0 5 i1 (.int .u8 0) 1 Tryd.underlying56 hj hy0 hy1 .i64 .i64 _ _ 256 rfl rfl rfl rfl HBz.out (by decide) hWs.out ?_)
          intro w7 hown hgrow
          obtain ⟨R, hP7⟩ := HP0.out w7 hown
          rw [← HX.out.1] at hP7
          obtain ⟨np, hnp⟩ : ∃ np : RP, np = ⟨X, w7.heap.size, wr.heap.size, 256, R⟩ := ⟨_, rfl⟩
          rw [← hnp] at hP7
          have HNP : Hid (np.i = X ∧ ptrP np = .pointer (some ⟨w7.heap.size, 0, none⟩)) := Lib.hid (by rw [hnp]; exact ⟨rfl, rfl⟩)
          have HP7 := Lib.hid hP7
          have HO7 := Lib.hid (own_none HO.out hgrow)
          have HB7 : Hid (Below W0 w' w7) := Lib.hid (HMI.out.1.grown hgrow hWs.out (fun k hk => by cases hk))
          have hW7 : Hid (W0 ≤ w7.heap.size) := Lib.hid (by rw [HW0.out]; exact HB7.out.size)
          clear hown hgrow hnp hP7 HP0 HO HMI hc ck c0
          go_wp2_with (at_builtin; refine wpList_append_own _ rfl _ _ 77 rfl W0 97 i0 (.pointer none) 1 8 Tryd.underlying77 hi hz0 hz1 hz2 rfl (by decide) _ _ _ rfl ((HO7.out.alloc _).alloc _) ⟨w7.heap.size + 1, 0, none⟩ 1 1 [.pointer (some ⟨w7.heap.size, 0, none⟩)] rfl rfl ?a11 ?a12 K3.out K4.out ?a15 ?_)
          try (case a11 => have h := cell_one_new (w7.alloc (.cells #[.int .u32 (x : Int), .int .u8 (perm : Int), .slice (some ⟨wr.heap.size, 0, none⟩) 256 256] 101)) (.pointer (some ⟨w7.heap.size, 0, none⟩)) 97; simpa using h)
          case a12 => first | rfl | (intro u hu; simp only [List.mem_cons, List.not_mem_nil, or_false] at hu; rcases hu with rfl; rfl)
          case a15 => have := hW7.out; simp; omega
          intro z1 w8 hown1 hgrow1 _
          have HP8 : Hid (PageAt w8 W0 np (newPg perm)) := Lib.hid (HP7.out.keep (fun j t cs hb ht => own_keep ((HO7.out.alloc _).alloc _) hgrow1 (hb.alloc _) (by rcases ht with rfl | rfl <;> decide)))
          have HB8 : Hid (Below W0 w' w8) := Lib.hid (((HB7.out.alloc hW7.out _).alloc (by have := hW7.out; simp; omega) _).grown hgrow1 (by have := hW7.out; simp; omega) (fun k hk => (HO7.out.lt k hk).1))
          have hW8 : Hid (W0 ≤ w8.heap.size) := Lib.hid (by rw [HW0.out]; exact HB8.out.size)
          obtain ⟨n1, hn1⟩ : ∃ n1, n1 = i + 1 := ⟨_, rfl⟩
          rw [← hn1] at hown1 K5 K6
          obtain ⟨cs1, hcs1⟩ : ∃ cs1, cs1 = cs ++ [.pointer (some ⟨w7.heap.size, 0, none⟩)] := ⟨_, rfl⟩
          rw [← hcs1] at hown1
          have HO8 := Lib.hid hown1
          have HCS1 := Lib.hid (And.intro hn1 hcs1)
          have Hr8 : Hid (RefP w8 B g (some ⟨k, 0, none⟩) c L A) := Lib.hid (H.out.below (by rw [← HW0.out]; exact HB8.out))
          have hc8 := Hr8.out.cell0
          rw [← HN.out] at hc8
          have ck8 : w8.cell? ⟨k, i, none⟩ = some (.pointer (some ⟨e.p, 0, none⟩)) := by
            obtain ⟨k2, hk2, hk3⟩ := Hr8.out.addr (j := i) (by have := HN.out; have := HLT.out; omega)
            simp only [Option.some.injEq, Addr.mk.injEq, and_true] at hk2
            subst hk2
            have := hk3 i (by have := HN.out; have := HLT.out; omega)
            rw [HE.out] at this
            exact this
          clear hown1 hgrow1 hn1 hcs1 HP7 HO7 HB7
          go_wp2_with (at_builtin; refine wpList_append_own _ rfl _ _ 77 rfl W0 97 i0 (.pointer none) 1 8 Tryd.underlying77 hi hz0 hz1 hz2 rfl (by decide) _ _ _ rfl (HO8.out.alloc _) ⟨w8.heap.size, 0, none⟩ 1 1 [.pointer (some ⟨e.p, 0, none⟩)] rfl rfl ?a21 ?a22 K5.out K6.out ?a25 ?_)
          try (case a21 => exact World.news_of_block (cs := #[.pointer (some ⟨e.p, 0, none⟩)]) (t := 97) (fr := (0, 0)) (heap_alloc_new w8 _))
          case a22 => first | rfl | (intro u hu; simp only [List.mem_cons, List.not_mem_nil, or_false] at hu; rcases hu with rfl; rfl)
          case a25 => have := hW8.out; simp; omega
          intro z2 w9 hown2 hgrow2 _
          have HM2 : Hid (MInv w' w9 W0 L X perm (i + 1) true z2) := Lib.hid ⟨appU_below HB8.out hW8.out HO8.out hgrow2, i, np, Nat.le_succ _, HNP.out.1,
            HP8.out.keep (fun j t cs hb ht => own_keep (HO8.out.alloc _) hgrow2 (hb.alloc _) (by rcases ht with rfl | rfl <;> decide)), HL2.out, fun k h1 h2 => by
              by_cases hki : k = i
              · subst hki; rw [HE.out]; exact HHX.out
              · exact Nat.lt_trans HHX.out (HUP.out k (by omega) h2), by
            have e1 : (L.take i ++ np :: (L.take (i + 1)).drop i).map ptrP = cs ++ [.pointer (some ⟨w7.heap.size, 0, none⟩)] ++ [.pointer (some ⟨e.p, 0, none⟩)] := by
              rw [HTk.out, List.drop_append_of_le_length (by rw [List.length_take]; have := HN.out; have := HLT.out; omega), List.drop_take, Nat.sub_self, List.take_zero, List.map_append, List.map_cons, HNP.out.2, HCS.out]
              simp [ptrP]
            rw [e1, ← HCS1.out.2, ← HCS1.out.1]
            exact hown2⟩
          clear hown2 hgrow2 HO8 HP8 HB8
          go_wp2
          go_roundw
          case rel => exact ⟨i + 1, z2, true, by go_num, rfl, rfl, HI2, HM2⟩
          case measure => simp [intOf]; have := HLT.out; omega
        · have t1 : ¬ (x : Int) < y := fun h => hyx (HY.out.1 h)
          obtain ⟨cs, hcs⟩ : ∃ cs, cs = (L.take i).map ptrP := ⟨_, rfl⟩
          have HO : Hid (wr.ownsRow W0 97 1 z i cs) := Lib.hid (by rw [hcs]; exact HMI.out.2.1)
          have HCS := Lib.hid hcs
          clear hcs
          have HL2 : Hid (∀ k, k < i + 1 → k < L.length → (L.getD k RP.nought).i < X) := Lib.hid fun k hk hk2 => by
            by_cases hki : k = i
            · subst hki; rw [HE.out]; have := HNE.out; omega
            · exact HMI.out.2.2 k (by omega) hk2
          clear hyx
          go_wp2_with (at_builtin; refine wpList_append_own _ rfl _ _ 77 rfl W0 97 i0 (.pointer none) 1 8 Tryd.underlying77 hi hz0 hz1 hz2 rfl (by decide) _ _ _ rfl (HO.out.alloc _) ⟨wr.heap.size, 0, none⟩ 1 1 [.pointer (some ⟨e.p, 0, none⟩)] rfl rfl ?a31 ?a32 K3.out K4.out ?a35 ?_)
          try (case a31 => exact World.news_of_block (cs := #[.pointer (some ⟨e.p, 0, none⟩)]) (t := 97) (fr := (0, 0)) (heap_alloc_new wr _))
          case a32 => first | rfl | (intro u hu; simp only [List.mem_cons, List.not_mem_nil, or_false] at hu; rcases hu with rfl; rfl)
          case a35 => have := hWs.out; simp; omega
          intro z' w2 hown' hgrow' _
          have HM2 : Hid (MInv w' w2 W0 L X perm (i + 1) false z') := Lib.hid ⟨appU_below HMI.out.1 hWs.out HO.out hgrow', by
            rw [HTk.out, List.map_append, ← HCS.out]; exact hown', HL2.out⟩
          clear hown' hgrow' HO HMI
          go_wp2
          go_roundw
          case rel => exact ⟨i + 1, z', false, by go_num, rfl, rfl, HI2, HM2⟩
          case measure => simp [intOf]; have := HLT.out; omega
      | true =>
        obtain ⟨m, np, q1, q2, q3, q4, q5, q6⟩ := HMI.out.2
        obtain ⟨cs, hcs⟩ : ∃ cs, cs = (L.take m ++ np :: (L.take i).drop m).map ptrP := ⟨_, rfl⟩
        obtain ⟨n1, hn1⟩ : ∃ n1, n1 = i + 1 := ⟨_, rfl⟩
        have HO : Hid (wr.ownsRow W0 97 1 z n1 cs) := Lib.hid (by rw [hcs, hn1]; exact q6)
        have HCS := Lib.hid (And.intro hcs hn1)
        rw [← hn1] at K5 K6
        clear hcs hn1
        have HQ := Lib.hid (And.intro q1 (And.intro q2 (And.intro q3 (And.intro q4 q5))))
        clear q1 q2 q3 q4 q5 q6
        go_wp2_with (at_builtin; refine wpList_append_own _ rfl _ _ 77 rfl W0 97 i0 (.pointer none) 1 8 Tryd.underlying77 hi hz0 hz1 hz2 rfl (by decide) _ _ _ rfl (HO.out.alloc _) ⟨wr.heap.size, 0, none⟩ 1 1 [.pointer (some ⟨e.p, 0, none⟩)] rfl rfl ?a41 ?a42 K5.out K6.out ?a45 ?_)
        try (case a41 => exact World.news_of_block (cs := #[.pointer (some ⟨e.p, 0, none⟩)]) (t := 97) (fr := (0, 0)) (heap_alloc_new wr _))
        case a42 => first | rfl | (intro u hu; simp only [List.mem_cons, List.not_mem_nil, or_false] at hu; rcases hu with rfl; rfl)
        case a45 => have := hWs.out; simp; omega
        intro z' w2 hown' hgrow' _
        have HM2 : Hid (MInv w' w2 W0 L X perm (i + 1) true z') := Lib.hid ⟨appU_below HMI.out.1 hWs.out HO.out hgrow', m, np, by have := HQ.out.1; omega, HQ.out.2.1,
          HQ.out.2.2.1.keep (fun j t cs hb ht => own_keep (HO.out.alloc _) hgrow' (hb.alloc _) (by rcases ht with rfl | rfl <;> decide)), HQ.out.2.2.2.1, HQ.out.2.2.2.2, by
          have e1 : (L.take m ++ np :: (L.take (i + 1)).drop m).map ptrP = (L.take m ++ np :: (L.take i).drop m).map ptrP ++ [.pointer (some ⟨e.p, 0, none⟩)] := by
            rw [HTk.out, List.drop_append_of_le_length (by rw [List.length_take]; have := HQ.out.1; have := HN.out; have := HLT.out; omega)]
            simp [ptrP]
          rw [e1, ← HCS.out.1, ← HCS.out.2]
          exact hown'⟩
        clear hown' hgrow' HO HMI
        go_wp2
        go_roundw
        case rel => exact ⟨i + 1, z', true, by go_num, rfl, rfl, HI2, HM2⟩
        case measure => simp [intOf]; have := HLT.out; omega
    · have hiN : i = L.length := by have := HI.out; have := HN.out; omega
      have HBT := Lib.hid (RTurn.ofBelow (B := B) (show Below w'.heap.size w' wr by rw [← HW0.out]; exact HMI.out.1))
      cases d with
      | true =>
        obtain ⟨m, np, q1, q2, q3, q4, q5, q6⟩ := HMI.out.2
        rw [hiN, List.take_length] at q6
        have hlenK : (L.take m ++ np :: L.drop m).length = L.length + 1 := by
          simp only [List.length_append, List.length_cons, List.length_take, List.length_drop]; omega
        rw [← hlenK] at q6
        obtain ⟨a2, c2, hz, hP⟩ := PAt.of_own q6
        have hR2 := RefP.insert H.out HW0.out (by rw [HW0.out]; exact HBW.out) Hr.out HF.out q2 q3 q4 q5 (c2 := c2) hP
        obtain ⟨K, hK⟩ : ∃ K, K = L.take m ++ np :: L.drop m := ⟨_, rfl⟩
        rw [← hK] at hz hR2
        have HR2 := Lib.hid hR2
        have HT2 := Lib.hid (HBT.out.trans hR2.2)
        have hfz := Hr.out.head.frozen 0
        clear q1 q2 q3 q4 q5 q6 hlenK hP hR2 hK hiN HMI
        subst hz
        go_wp2
        go_ret
        exact ⟨rfl, ⟨_, _, _, HR2.out.1⟩, HT2.out⟩
      | false =>
        obtain ⟨cs, hcs⟩ : ∃ cs, cs = (L.take i).map ptrP := ⟨_, rfl⟩
        have HO : Hid (wr.ownsRow W0 97 1 z i cs) := Lib.hid (by rw [hcs]; exact HMI.out.2.1)
        have HCS := Lib.hid hcs
        have HL2 := Lib.hid HMI.out.2.2
        have HP0 := Lib.hid (fun (w7 : World) (h : w7.ownsRow W0 5 1 (.slice (some ⟨wr.heap.size, 0, none⟩) 256 256) 256 (madeCells (Value.int .u8 0).cells (256 * 1)).toList) => new_page (X := X) (perm := perm) HX.out.2 HPM.out hWs.out h)
        have K3 : Hid (i + 1 ≤ maxLen) := Lib.hid (by unfold maxLen; have := HN.out; have := HLen.out; omega)
        have K4 : Hid ((i + 1) * 8 ≤ 140737488355328) := Lib.hid (by have := HN.out; have := HLen.out; omega)
        have HiN := Lib.hid hiN
        clear hcs hiN
        go_wp2_with (at_make; refine wpList_make_full _ rfl _ _ 56 rfl W0 5 i1 (.int .u8 0) 1 Tryd.underlying56 hj hy0 hy1 .i64 .i64 _ _ 256 rfl rfl rfl rfl HBz.out (by decide) hWs.out ?_)
        intro w7 hown hgrow
        obtain ⟨R, hP7⟩ := HP0.out w7 hown
        rw [← HX.out.1] at hP7
        obtain ⟨np, hnp⟩ : ∃ np : RP, np = ⟨X, w7.heap.size, wr.heap.size, 256, R⟩ := ⟨_, rfl⟩
        rw [← hnp] at hP7
        have HNP : Hid (np.i = X ∧ ptrP np = .pointer (some ⟨w7.heap.size, 0, none⟩)) := Lib.hid (by rw [hnp]; exact ⟨rfl, rfl⟩)
        have HP7 := Lib.hid hP7
        have HO7 := Lib.hid (own_none HO.out hgrow)
        have HB7 : Hid (Below W0 w' w7) := Lib.hid (HMI.out.1.grown hgrow hWs.out (fun k hk => by cases hk))
        have hW7 : Hid (W0 ≤ w7.heap.size) := Lib.hid (by rw [HW0.out]; exact HB7.out.size)
        clear hown hgrow hnp hP7 HP0 HO HMI hc
        go_wp2_with (at_builtin; refine wpList_append_own _ rfl _ _ 77 rfl W0 97 i0 (.pointer none) 1 8 Tryd.underlying77 hi hz0 hz1 hz2 rfl (by decide) _ _ _ rfl ((HO7.out.alloc _).alloc _) ⟨w7.heap.size + 1, 0, none⟩ 1 1 [.pointer (some ⟨w7.heap.size, 0, none⟩)] rfl rfl ?a51 ?a52 K3.out K4.out ?a55 ?_)
        try (case a51 => have h := cell_one_new (w7.alloc (.cells #[.int .u32 (x : Int), .int .u8 (perm : Int), .slice (some ⟨wr.heap.size, 0, none⟩) 256 256] 101)) (.pointer (some ⟨w7.heap.size, 0, none⟩)) 97; simpa using h)
        case a52 => first | rfl | (intro u hu; simp only [List.mem_cons, List.not_mem_nil, or_false] at hu; rcases hu with rfl; rfl)
        case a55 => have := hW7.out; simp; omega
        intro z1 w8 hown1 hgrow1 _
        have hP8 : PageAt w8 W0 np (newPg perm) := HP7.out.keep (fun j t cs hb ht => own_keep ((HO7.out.alloc _).alloc _) hgrow1 (hb.alloc _) (by rcases ht with rfl | rfl <;> decide))
        have hB8 : Below W0 w' w8 := ((HB7.out.alloc hW7.out _).alloc (by have := hW7.out; simp; omega) _).grown hgrow1 (by have := hW7.out; simp; omega) (fun k hk => (HO7.out.lt k hk).1)
        have hr8 : RefP w8 B g a c L A := H.out.below (by rw [← HW0.out]; exact hB8)
        have eK : (L.take i ++ np :: L.drop i).map ptrP = cs ++ [.pointer (some ⟨w7.heap.size, 0, none⟩)] := by
          rw [List.drop_of_length_le (by have := HiN.out; omega), List.map_append, List.map_cons, HNP.out.2, HCS.out]
          rfl
        have hlenK : (L.take i ++ np :: L.drop i).length = i + 1 := by
          have := HiN.out
          simp only [List.length_append, List.length_cons, List.length_take, List.length_drop]; omega
        rw [← eK, ← hlenK] at hown1
        obtain ⟨a2, c2, hz, hP⟩ := PAt.of_own hown1
        have hR2 := RefP.insert H.out HW0.out (by rw [HW0.out]; exact HBW.out) hr8 HF.out HNP.out.1 hP8 (m := i) (fun k h1 h2 => HL2.out k h1 h2) (fun k h1 h2 => by have := HiN.out; omega) (c2 := c2) hP
        obtain ⟨K, hK⟩ : ∃ K, K = L.take i ++ np :: L.drop i := ⟨_, rfl⟩
        rw [← hK] at hz hR2
        have HR2 := Lib.hid hR2
        have HT2 := Lib.hid ((RTurn.ofBelow (B := B) (show Below w'.heap.size w' w8 by rw [← HW0.out]; exact hB8)).trans hR2.2)
        have hc8 := hr8.cell0
        have hfz := hr8.head.frozen 0
        clear hown1 hgrow1 hP8 hB8 hr8 eK hlenK hP hR2 hK
        subst hz
        go_wp2
        go_ret
        exact ⟨rfl, ⟨_, _, _, HR2.out.1⟩, HT2.out⟩

set_option maxHeartbeats 2000000 in
set_option maxRecDepth 100000 in
theorem rmap_any (B g : Nat) (A : As) (x perm : Nat) (hx : x < 4294967296) (hpm : perm < 256) (w : World) (h : RefAt w B g A) (hBw : B ≤ w.heap.size) :
    Calls Tryd.prog 38 #[.pointer (some ⟨g, 0, none⟩), .int .u32 (x : Int), .int .u8 (perm : Int)] w fun r w' => r = .returned (.int .i64 (mapE A x perm)) ∧ RefAt w' B g (mapA A x perm) ∧ RTurn B w w' := by
  by_cases hp : x < 1048576 ∧ x % 256 = 0
  · by_cases h7 : perm < 8
    · cases hA : A (x / 256) with
      | some f =>
        have e : mapE A x perm = 9 := by unfold mapE; rw [if_neg (by omega), hA]; rfl
        rw [mapA_not (by rw [e]; decide), e]
        have HA := Lib.hid h
        obtain ⟨a, c, L, h⟩ := h
        have HM := Lib.hid (rmay_is (x : Int) (by omega) w)
        have hd : decide ((x : Int) < 1048576 ∧ (x : Int) % 256 = 0) = true := by rw [decide_eq_true_eq]; omega
        rw [hd] at HM
        have HOf := Lib.hid (rof_some B g c a L A x (by omega) f hA w h)
        have m1 : IntKind.u64.wrap (x : Int) = (x : Int) := by rw [IntKind.wrap_u64]; omega
        have hd7 : decide ((7 : Int) < (perm : Int)) = false := by rw [decide_eq_false_iff_not]; omega
        clear hp hd h hA hx e hBw h7 hpm
        go_enter Tryd.func38, Tryd.ntmps38
        go_wp2_with (first
          | (go_at_call 52; refine HM.out.mono ?_; rintro e w' ⟨rfl, rfl⟩)
          | (go_at_call 53; refine HOf.out.mono ?_; rintro r w' ⟨⟨e0, _, _, rfl⟩, rfl⟩))
        go_ret
        exact ⟨rfl, HA.out, RTurn.refl _ _⟩
      | none =>
        have e : mapE A x perm = 0 := by unfold mapE; rw [if_neg (by omega), hA]; rfl
        have e2 : mapA A x perm = upd A (x / 256) (some (newPg perm)) := by unfold mapA; rw [if_pos e]
        rw [e, e2]
        obtain ⟨a, c, L, h⟩ := h
        exact rmap_loop B g c a L A x perm hp.1 hp.2 h7 hA w h hBw
    · have e : mapE A x perm = 2 := mapE_arg (.inr (by omega))
      rw [mapA_not (by rw [e]; decide), e]
      have HA := Lib.hid h
      have HM := Lib.hid (rmay_is (x : Int) (by omega) w)
      have hd7 : decide ((7 : Int) < (perm : Int)) = true := by rw [decide_eq_true_eq]; omega
      have hd : decide ((x : Int) < 1048576 ∧ (x : Int) % 256 = 0) = true := by rw [decide_eq_true_eq]; omega
      rw [hd] at HM
      clear hp hd h hx e hBw h7 hpm
      go_enter Tryd.func38, Tryd.ntmps38
      go_wp2_with (go_at_call 52; refine HM.out.mono ?_; rintro e w' ⟨rfl, rfl⟩)
      go_ret
      exact ⟨rfl, HA.out, RTurn.refl _ _⟩
  · have e : mapE A x perm = 2 := mapE_arg (.inl hp)
    rw [mapA_not (by rw [e]; decide), e]
    have HA := Lib.hid h
    have HM := Lib.hid (rmay_is (x : Int) (by omega) w)
    have hd : decide ((x : Int) < 1048576 ∧ (x : Int) % 256 = 0) = false := by rw [decide_eq_false_iff_not]; omega
    rw [hd] at HM
    clear hp hd h hx e hBw hpm
    go_enter Tryd.func38, Tryd.ntmps38
    go_wp2_with (go_at_call 52; refine HM.out.mono ?_; rintro e w' ⟨rfl, rfl⟩)
    go_ret
    exact ⟨rfl, HA.out, RTurn.refl _ _⟩
end Go.Proofs.YtgdbhmlmioihpaaDoor
