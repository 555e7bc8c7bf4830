/- The document's own Unmap: the same as the program's; how a list of pages is renewed. -/
import Derived.Test.YtfickpjecehboaaEE
import Derived.Test.YtfickpjecehboaaSD
set_option linter.unusedVariables false
namespace Go.Proofs.Ytfickpjecehboaa
open Go.RowKit Go.Maps

theorem PageAt.keep {w w' : World} {B : Nat} {e : RP} {f : Pg} (h : PageAt w B e f) (hk : ∀ j t cs, Blk w j t cs → (t = 68 ∨ t = 5) → Blk w' j t cs) : PageAt w' B e f :=
  ⟨h.lt, hk _ _ _ h.head (.inl rfl), hk _ _ _ h.bytes (.inr rfl), h.low⟩
theorem PageAt.below {w w' : World} {B : Nat} {e : RP} {f : Pg} (h : PageAt w B e f) (hb : Below w.heap.size w w') : PageAt w' B e f := h.keep fun j t cs h1 _ => h1.below hb h1.lt
/-- What is no row of pointers stays, when such a row grows. -/
theorem own_keep {w w' : World} {base n : Nat} {z : Value} {xs : List Value} (ho : w.ownsRow base 66 1 z n xs) (hg : w.grownBy w' z.ownBlock) {j : Nat} {t : TypeId} {cs : List Value} (hb : Blk w j t cs) (ht : t ≠ 66) : Blk w' j t cs := by
  refine hb.grown hg ?_
  rcases ho.2 with ⟨rfl, _⟩ | ⟨k, cap, cur, rfl, _, h3, _⟩
  · intro he; cases he
  · intro he
    cases he
    unfold Blk at hb
    rw [h3] at hb
    injection hb with hb
    injection hb with _ hb
    exact ht hb.symm
/-- A row of one's own as a list of pages. -/
theorem PAt.of_own {w : World} {base : Nat} {v : Value} {L : List RP} (h : w.ownsRow base 66 1 v L.length (L.map ptrP)) : ∃ a c, v = .slice a L.length c ∧ PAt w a L := by
  rcases h.2 with ⟨h1, h2⟩ | ⟨g, cap, cur, h1, h2, h3, h4, h5, h6, h7⟩
  · exact ⟨none, 0, by rw [h1, h2], .inl (List.eq_nil_of_length_eq_zero h2)⟩
  · refine ⟨_, cap, h1, .inr ⟨g, cur.toList.drop (L.length * 1), rfl, ?_⟩⟩
    have : (L.map ptrP ++ cur.toList.drop (L.length * 1)).toArray = cur := by
      have e : L.map ptrP = cur.toList.take (L.length * 1) := by rw [h7]
      rw [e, List.take_append_drop]
    unfold Blk
    rw [this]
    exact h3
/-- The space's row becomes another one. -/
theorem RefP.renew {w : World} {B g c : Nat} {a : Option Addr} {L : List RP} {A : As} {x : Value} (hg : Blk w g 31 [x]) (gB : B ≤ g) (row : PAt w a L) (up : (L.map (·.i)).Pairwise (· < ·)) (has : ∀ i, (A i).isSome = true → i ∈ L.map (·.i))
    (page : ∀ e, e ∈ L → ∃ f, A e.i = some f ∧ PageAt w B e f) (apart : (L.map (·.q)).Nodup) : RefP (w.setCell ⟨g, 0, none⟩ (.slice a L.length c)) B g a c L A ∧ RTurn B w (w.setCell ⟨g, 0, none⟩ (.slice a L.length c)) := by
  have hfar : ∀ j t cs, Blk w j t cs → t ≠ 31 → Blk (w.setCell ⟨g, 0, none⟩ (.slice a L.length c)) j t cs := fun j t cs hb ht => hb.far (p := ⟨g, 0, none⟩) (hb.ne hg ht) _
  refine ⟨⟨gB, hg.set_ 0 _, ?_, up, has, fun e he => ?_, apart⟩, rfl, rfl, rfl, by simp, fun j hj hc => Below.heap_setCell w ⟨g, 0, none⟩ _ j ?_⟩
  · rcases row with h1 | ⟨k, R, h1, h2⟩
    · exact .inl h1
    · exact .inr ⟨k, R, h1, hfar _ _ _ h2 (by decide)⟩
  · obtain ⟨f, h1, h2⟩ := page e he
    exact ⟨f, h1, h2.keep fun j t cs hb ht => hfar j t cs hb (by rcases ht with rfl | rfl <;> decide)⟩
  · intro hjq
    have hjq : j = g := hjq
    rw [hjq] at hc
    unfold Blk at hg
    have h9 : g < B := hc _ _ _ hg (.inl rfl)
    omega
theorem appP_below {B n : Nat} {l : List Value} {v : Value} {w wr w1 : World} (hb : Below B w wr) (hB : B ≤ wr.heap.size) {wx : World} (hx : Below wr.heap.size wr wx) (hown : wr.ownsRow B 66 1 v n l) (hg : wx.grownBy w1 v.ownBlock) : Below B w w1 :=
  (hb.trans (hx.mono hB)).grown hg (Nat.le_trans hB hx.size) (fun k hk => (hown.lt k hk).1)

set_option maxHeartbeats 4000000 in
set_option maxRecDepth 100000 in
theorem runmap_loop (B g c : Nat) (a : Option Addr) (L : List RP) (A : As) (x : Nat) (hx : x < 1048576) (hx2 : x % 256 = 0) (f : Pg) (hf : A (x / 256) = some f) (w : World) (h : RefP w B g a c L A) (hBw : B ≤ w.heap.size) :
    Calls Try.prog 27 #[.pointer (some ⟨g, 0, none⟩), .int .u32 (x : Int)] w fun r w' => r = .returned (.int .i64 0) ∧ RefAt w' B g (upd A (x / 256) none) ∧ RTurn B w w' := by
  have H := Lib.hid h
  have HLen := Lib.hid h.len
  have HM := Lib.hid (rmay_is (x : Int) (by omega) w)
  have hd : decide ((x : Int) < 1048576 ∧ (x : Int) % 256 = 0) = true := by rw [decide_eq_true_eq]; omega
  rw [hd] at HM
  have HOf := Lib.hid (rof_some B g c a L A x (by omega) f hf w h)
  obtain ⟨X, hX⟩ : ∃ X, X = x / 256 := ⟨_, rfl⟩
  have HX : Hid ((x : Int) = 256 * (X : Int)) := Lib.hid (by omega)
  rw [← hX]
  have m1 : IntKind.u64.wrap (x : Int) = (x : Int) := by rw [IntKind.wrap_u64]; omega
  obtain ⟨W0, hW0⟩ : ∃ W0, W0 = w.heap.size := ⟨_, rfl⟩
  have HW0 := Lib.hid hW0
  have HBW := Lib.hid hBw
  obtain ⟨N, hN⟩ : ∃ N, N = L.length := ⟨_, rfl⟩
  have HN := Lib.hid hN
  obtain ⟨i0, hi, hz0, hz1, hz2⟩ := info_parts info_prpage
  have HO0 := Lib.hid (World.ownsRow_nil w W0 66 1)
  have HB0 := Lib.hid (show Below W0 w w by rw [hW0]; exact Below.refl _ _)
  clear h hN hW0 hd hx hx2 hf hX hBw
  go_enter Try.func27, Try.ntmps27
  go_wp2_with (first
    | (go_at_call 40; refine HM.out.mono ?_; rintro e w' ⟨rfl, rfl⟩)
    | (go_at_call 32; refine HOf.out.mono ?_; rintro r w' ⟨⟨e0, _, _, rfl⟩, rfl⟩))
  go_loopw [5, 6] (fun v5 v6 wr => ∃ (i : Nat) (z : Value) (K : List RP), v6 = .int .i64 i ∧ z = v5 ∧ Hid (i ≤ N) ∧ Hid (K = (L.take i).filter (fun e => e.i ≠ X)) ∧ Hid (wr.ownsRow W0 66 1 z K.length (K.map ptrP)) ∧ Hid (Below W0 w' wr)) (fun _ v _ => N - (intOf v).toNat)
  case atStart => exact ⟨0, _, [], rfl, rfl, Lib.hid (Nat.zero_le _), Lib.hid rfl, HO0, HB0⟩
  case round =>
    obtain ⟨i, z, K, rfl, rfl, HI, HK, HO, HB⟩ := hrel
    clear HO0 HB0
    have Hr : Hid (RefP wr B g a c L A) := Lib.hid (H.out.below (by rw [← HW0.out]; exact HB.out))
    have hc := Hr.out.cell0
    rw [← HN.out] at hc
    by_cases hlt : (i : Int) < (N : Int)
    · have hj : i < L.length := by have := HN.out; omega
      obtain ⟨k, rfl, hk⟩ := Hr.out.addr hj
      obtain ⟨e, he⟩ : ∃ e, L.getD i RP.nought = e := ⟨_, rfl⟩
      have hm : e ∈ L := by rw [← he]; exact Hr.out.mem hj
      obtain ⟨f1, hA, hei, c0, _⟩ := Hr.out.three hm
      have ck := hk i hj
      rw [he] at ck
      simp only [ptrP] at ck
      obtain ⟨y, hy⟩ : ∃ y : Int, y = 256 * (e.i : Int) := ⟨_, rfl⟩
      rw [← hy] at c0
      have HT : Hid ((L.take (i + 1)).filter (fun e => e.i ≠ X) = (L.take i).filter (fun e => e.i ≠ X) ++ if e.i ≠ X then [e] else []) := Lib.hid (by
        rw [take_snoc L RP.nought i hj, he, List.filter_append]
        congr 1
        by_cases h : e.i = X <;> simp [h])
      have m3 : IntKind.i64.wrap ((i : Int) + 1) = (i : Int) + 1 := by rw [IntKind.wrap_i64]; have := HN.out; have := HLen.out; omega
      have HLT : Hid (i < N) := Lib.hid (by omega)
      have HI2 : Hid (i + 1 ≤ N) := Lib.hid (by omega)
      have hKl : K.length ≤ i := by
        rw [HK.out]
        refine Nat.le_trans (List.length_filter_le _ _) ?_
        rw [List.length_take]
        omega
      have hWs : Hid (W0 ≤ wr.heap.size) := Lib.hid (by rw [HW0.out]; exact HB.out.size)
      have K3 : Hid (K.length + 1 ≤ maxLen) := Lib.hid (by unfold maxLen; have := HN.out; have := HLen.out; omega)
      have K4 : Hid ((K.length + 1) * 8 ≤ 140737488355328) := Lib.hid (by have := HN.out; have := HLen.out; omega)
      have HY : Hid (y = (x : Int) ↔ e.i = X) := Lib.hid (by have := HX.out; omega)
      clear hk hA hei he hm hy hj hKl
      by_cases hyx : e.i = X
      · have t1 : (y != (x : Int)) = false := by rw [bne_eq_false_iff_eq]; exact HY.out.2 hyx
        have HK2 : Hid (K = (L.take (i + 1)).filter (fun e => e.i ≠ X)) := Lib.hid (by rw [HT.out, if_neg (by simpa using hyx), List.append_nil]; exact HK.out)
        clear hyx
        go_wp2_with fail
        go_roundw
        case rel => exact ⟨i + 1, z, K, by go_num, rfl, HI2, HK2, HO, HB⟩
        case measure => simp [intOf]; have := HLT.out; omega
      · have t1 : (y != (x : Int)) = true := by rw [bne_iff_ne]; exact fun h => hyx (HY.out.1 h)
        have HK2 : Hid (K ++ [e] = (L.take (i + 1)).filter (fun e => e.i ≠ X)) := Lib.hid (by rw [HT.out, if_pos hyx, HK.out])
        clear hyx
        go_wp2_with (at_builtin; refine wpList_append_own _ rfl _ _ 29 rfl W0 66 i0 (.pointer none) 1 8 Try.underlying29 hi hz0 hz1 hz2 rfl (by decide) _ _ _ rfl (HO.out.alloc _) ⟨wr.heap.size, 0, none⟩ 1 1 [.pointer (some ⟨e.p, 0, none⟩)] rfl rfl ?c1 ?c2 K3.out K4.out ?c5 ?_)
        case c1 => exact World.news_of_block (cs := #[.pointer (some ⟨e.p, 0, none⟩)]) (t := 66) (fr := (0, 0)) (heap_alloc_new wr _)
        case c2 => intro u hu; simp only [List.mem_cons, List.not_mem_nil, or_false] at hu; rcases hu with rfl; rfl
        case c5 => have := hWs.out; simp; omega
        intro z' w2 hown' hgrow' _
        have hb3 := Lib.hid (appU_below HB.out hWs.out HO.out hgrow')
        have HO2 : Hid (w2.ownsRow W0 66 1 z' (K ++ [e]).length ((K ++ [e]).map ptrP)) := Lib.hid (by
          rw [List.length_append, List.map_append]
          exact hown')
        clear hown' hgrow' HO K3 K4
        go_wp2
        go_roundw
        case rel => exact ⟨i + 1, z', K ++ [e], by go_num, rfl, HI2, HK2, HO2, hb3⟩
        case measure => simp [intOf]; have := HLT.out; omega
    · have hiN : i = L.length := by have := HI.out; have := HN.out; omega
      have hKK : K = L.filter (fun e => e.i ≠ X) := by rw [HK.out, hiN, List.take_length]
      obtain ⟨a2, c2, hz, hP⟩ := PAt.of_own HO.out
      have hg0 := Hr.out.head
      have hfz := hg0.frozen 0
      have HR2 : Hid (RefP (wr.setCell ⟨g, 0, none⟩ (.slice a2 K.length c2)) B g a2 c2 K (upd A X none) ∧ RTurn B wr (wr.setCell ⟨g, 0, none⟩ (.slice a2 K.length c2))) := Lib.hid (by
        refine RefP.renew hg0 Hr.out.gB hP ?_ ?_ ?_ ?_
        · rw [hKK]
          exact List.Pairwise.sublist (List.Sublist.map _ List.filter_sublist) Hr.out.up
        · intro j hj
          unfold upd at hj
          by_cases hjX : j = X
          · rw [if_pos hjX] at hj; cases hj
          · rw [if_neg hjX] at hj
            obtain ⟨e, he, hei⟩ := List.mem_map.1 (Hr.out.has j hj)
            rw [hKK]
            exact List.mem_map.2 ⟨e, List.mem_filter.2 ⟨he, by simp; rw [hei]; exact hjX⟩, hei⟩
        · intro e he
          rw [hKK] at he
          obtain ⟨h1, h2⟩ := List.mem_filter.1 he
          obtain ⟨f1, h3, h4⟩ := Hr.out.page e h1
          simp at h2
          exact ⟨f1, by unfold upd; rw [if_neg h2]; exact h3, h4⟩
        · rw [hKK]
          exact List.Pairwise.sublist (List.Sublist.map _ List.filter_sublist) Hr.out.apart)
      have HT2 : Hid (RTurn B w' (wr.setCell ⟨g, 0, none⟩ (.slice a2 K.length c2))) := Lib.hid ((RTurn.ofBelow (by rw [← HW0.out]; exact HB.out) B).trans HR2.out.2)
      subst hz
      clear hKK hiN hP hg0 HO HK
      go_wp2
      go_ret
      exact ⟨rfl, ⟨_, _, _, HR2.out.1⟩, HT2.out⟩

set_option maxHeartbeats 1000000 in
set_option maxRecDepth 100000 in
theorem runmap_any (B g : Nat) (A : As) (x : Nat) (hx : x < 4294967296) (w : World) (h : RefAt w B g A) (hBw : B ≤ w.heap.size) :
    Calls Try.prog 27 #[.pointer (some ⟨g, 0, none⟩), .int .u32 (x : Int)] w fun r w' => r = .returned (.int .i64 (unmapE A x)) ∧ RefAt w' B g (unmapA A x) ∧ RTurn B w w' := by
  by_cases hp : x < 1048576 ∧ x % 256 = 0
  · cases hA : A (x / 256) with
    | none =>
      have e : unmapE A x = 3 := by unfold unmapE; rw [if_neg (by simpa using hp), hA]; rfl
      rw [unmapA_not (by rw [e]; decide), e]
      have HA := Lib.hid h
      obtain ⟨a, c, L, h⟩ := h
      have HM := Lib.hid (rmay_is (x : Int) (by omega) w)
      have hd : decide ((x : Int) < 1048576 ∧ (x : Int) % 256 = 0) = true := by rw [decide_eq_true_eq]; omega
      rw [hd] at HM
      have HOf := Lib.hid (rof_none B g c a L A x (by omega) hA w h)
      have m1 : IntKind.u64.wrap (x : Int) = (x : Int) := by rw [IntKind.wrap_u64]; omega
      clear hp hd h hA hx e hBw
      go_enter Try.func27, Try.ntmps27
      go_wp2_with (first
        | (go_at_call 40; refine HM.out.mono ?_; rintro e w' ⟨rfl, rfl⟩)
        | (go_at_call 32; refine HOf.out.mono ?_; rintro r w' ⟨rfl, rfl⟩))
      go_ret
      exact ⟨rfl, HA.out, RTurn.refl _ _⟩
    | some f =>
      have e : unmapE A x = 0 := by unfold unmapE; rw [if_neg (by simpa using hp), hA]; rfl
      have e2 : unmapA A x = upd A (x / 256) none := by unfold unmapA; rw [if_pos e]
      rw [e, e2]
      obtain ⟨a, c, L, h⟩ := h
      exact runmap_loop B g c a L A x hp.1 hp.2 f hA w h hBw
  · have e : unmapE A x = 2 := by unfold unmapE; rw [if_pos hp]
    rw [unmapA_not (by rw [e]; decide), e]
    have HA := Lib.hid h
    have HM := Lib.hid (rmay_is (x : Int) (by omega) w)
    have hd : decide ((x : Int) < 1048576 ∧ (x : Int) % 256 = 0) = false := by rw [decide_eq_false_iff_not]; omega
    rw [hd] at HM
    clear hp hd h hx e hBw
    go_enter Try.func27, Try.ntmps27
    go_wp2_with (go_at_call 40; refine HM.out.mono ?_; rintro e w' ⟨rfl, rfl⟩)
    go_ret
    exact ⟨rfl, HA.out, RTurn.refl _ _⟩
end Go.Proofs.Ytfickpjecehboaa
