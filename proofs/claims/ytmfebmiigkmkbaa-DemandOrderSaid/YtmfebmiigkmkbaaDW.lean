/- The document's extent: an extent into a row that rises, with the greatest number of blocks. (written by mk_dw.py) -/
import Derived.Test.YtmfebmiigkmkbaaDO
import Derived.Test.YtmfebmiigkmkbaaDV
set_option linter.unusedVariables false
set_option linter.unusedSimpArgs false
namespace Go.Proofs.Ytmfebmiigkmkbaa
open Go Go.RowKit Oj Dm

theorem wp_named {P : Program} {c : Code} {Q : Exit → Act → World → Prop} {a : Act} {W : World} (h : ∀ w', w' = W → c.wp P Q a w') : c.wp P Q a W := h W rfl
/-- What the document's extent answers: a row of its own. -/
def PutX (w : World) (l : List Xt) (i b : Int) (e : Ending) (w' : World) : Prop := ∃ v', e = .returned v' ∧ OwnX w' w.heap.size v' (insX i b l) ∧ Below w.heap.size w w'
theorem new2x (W : World) (a b : Value) : ∀ j u, [a, b][j]? = some u → (W.alloc (.cells #[a, b] 50)).cell? ((⟨W.heap.size, 0, none⟩ : Addr).add j) = some u :=
  World.news_of_block (cs := #[a, b]) (t := 50) (fr := (0, 0)) (heap_alloc_new W _)
theorem OwnX.more {w : World} {B : Nat} {v : Value} {l : List Xt} {i b : Int} (h : w.ownsRow B 50 2 v (l.length + 1) (l.flatMap xtCells ++ [.int .u32 i, .int .u32 b])) : OwnX w B v (l ++ [⟨i, b⟩]) := by
  unfold OwnX
  rw [List.length_append, List.flatMap_append]
  exact h
theorem OwnX.join {w : World} {B : Nat} {v : Value} {l l2 : List Xt} {k : Nat} (hk : k = l2.length) (h : w.ownsRow B 50 2 v (l.length + k) (l.flatMap xtCells ++ l2.flatMap xtCells)) : OwnX w B v (l ++ l2) := by
  subst hk
  unfold OwnX
  rw [List.length_append, List.flatMap_append]
  exact h
theorem one2 (a b : Int) : ∀ u ∈ [Value.int .u32 a, .int .u32 b], u.oneCell' = true := by
  intro u hu; simp only [List.mem_cons, List.not_mem_nil, or_false] at hu; rcases hu with rfl | rfl <;> rfl
theorem xt_cell {w : World} {b o n : Nat} {l : List Xt} (hn : n = l.length) (hcl : ∀ j, j < n → LieC w b (o + j * 2) (xtCells (l.getD j Xt.nought))) (q : Nat) (hq : q ≤ n) : ∀ j u, ((l.drop q).flatMap xtCells)[j]? = some u → w.cell? ((⟨b, o + q * 2, none⟩ : Addr).add j) = some u := by
  intro j u hu
  have h1 := (fm_take xt_len l q (by omega)).2
  rw [← h1, List.getElem?_drop, ← flat_all' xtCells Xt.nought l] at hu
  obtain ⟨r, i, hr, hi, hi2, hu2⟩ := flat_at (z := 2) l.length (fun _ _ => rfl) _ _ hu
  rw [Addr.add_mid, show o + q * 2 + j = o + r * 2 + i by omega]
  exact hcl r (by omega) i u hu2

theorem xt_one1 (x : Xt) : ∀ u ∈ xtCells x, u.oneCell' = true := by
  intro u hu; simp only [xtCells, List.mem_cons, List.not_mem_nil, or_false] at hu; rcases hu with rfl | rfl <;> rfl
set_option maxHeartbeats 8000000 in
set_option maxRecDepth 100000 in
theorem rextent_nil (a : Option Addr) (c : Nat) (hW : Wf (.slice a 0 c)) (i b : Int) (w : World) : Calls Try.prog 38 #[.slice a 0 c, .agg #[.int .u32 i, .int .u32 b]] w (PutX w [] i b) := by
  obtain ⟨i0, hi, hz0, hz1, hz2⟩ := info_parts infoExt
  have HI := Lib.hid (And.intro hi (And.intro hz0 (And.intro hz1 hz2)))
  have HK : Hid (0 + 1 ≤ maxLen ∧ (0 + 1) * 8 ≤ 140737488355328) := Lib.hid (by unfold maxLen; omega)
  have HK2 : Hid (1 + 0 ≤ maxLen ∧ (1 + 0) * 8 ≤ 140737488355328) := Lib.hid (by unfold maxLen; omega)
  have hcase : (a = none ∧ c = 0) ∨ (∃ b o sp, a = some ⟨b, o, sp⟩) := by
    rcases hW with h | ⟨ad, n, c', h, _⟩
    · injection h with h1 h2 h3; exact .inl ⟨h1, h3⟩
    · injection h with h1 h2 h3; exact .inr ⟨ad.block, ad.off, ad.spot, h1⟩
  have HB0 := Lib.hid (below_new1 w (.cells #[.int .u32 i, .int .u32 b] 50))
  have HX0 := Lib.hid (Blk.new w 50 [.int .u32 i, .int .u32 b])
  have HS0 : Hid (w.heap.size + 1 ≤ (w.alloc (.cells #[.int .u32 i, .int .u32 b] 50)).heap.size) := Lib.hid (by simp)
  have hd0 : decide ((0 : Nat) < 0) = false := rfl
  have hd1 : decide ((0 : Int) < 0) = false := rfl
  clear hi hz0 hz1 hz2 hW
  rcases hcase with ⟨rfl, rfl⟩ | ⟨bb, o, sp, rfl⟩
  case' inl => have hc0 : True := trivial
  case' inr => rcases Nat.eq_zero_or_pos c with hc0 | hc0
  all_goals
    try (obtain rfl := hc0)
    go_enter Try.func38, Try.ntmps38
    go_wp2_with fail
    go_loopw [5] (fun s wr => s = .int .i64 0 ∧ Hid (Below w.heap.size w wr) ∧ Hid (Blk wr w.heap.size 50 [.int .u32 i, .int .u32 b]) ∧ Hid (w.heap.size + 1 ≤ wr.heap.size)) (fun _ _ => 0)
    case atStart => exact ⟨rfl, HB0, HX0, HS0⟩
    case round =>
      clear HB0 HX0 HS0
      obtain ⟨rfl, HB, HX, HS⟩ := hrel
      go_upto_region 2 with (fail)
      go_quiet (fail)
      go_upto_region 4 with (fail)
      refine wp_named ?_; intro wa hwa
      have HBa : Hid (Below w.heap.size w wa) := Lib.hid (by rw [hwa]; exact below_drew HB.out _)
      have HXa : Hid (Blk wa w.heap.size 50 [.int .u32 i, .int .u32 b]) := Lib.hid (by rw [hwa]; exact HX.out.drewN _)
      have HSa : Hid (w.heap.size + 1 ≤ wa.heap.size) := Lib.hid (by rw [hwa]; exact HS.out)
      clear hwa HB HX HS
      go_upto_region 5 with (at_builtin; refine wpList_append_all rfl _ _ 23 rfl (w.heap.size + 1) 50 i0 (.agg #[.int .u32 0, .int .u32 0]) 2 8 Try.underlying23 HI.out.1 HI.out.2.1 HI.out.2.2.1 HI.out.2.2.2 rfl (by decide) rfl _ 0 (fun _ => []) rfl slC_any0 (fun _ h => absurd h (by omega)) (fun _ h => absurd h (by omega)) (by unfold maxLen; omega) (by omega) HSa.out ?_; intro v1 w1 h6 h7)
      have HO1 : Hid (OwnX w1 (w.heap.size + 1) v1 []) := Lib.hid h6
      have HB1 : Hid (Below w.heap.size w w1) := Lib.hid (below_call HBa.out (grown_none h7))
      have HX1 : Hid (Blk w1 w.heap.size 50 [.int .u32 i, .int .u32 b]) := Lib.hid (HXa.out.call (grown_none h7))
      have HS1 : Hid (w.heap.size + 1 ≤ w1.heap.size) := Lib.hid (Nat.le_trans HSa.out h7.size)
      clear h6 h7 HBa HXa HSa
      go_quiet (fail)
      go_upto_region 8 with (fail)
      refine wp_named ?_; intro w2 hw2
      have HB2 : Hid (Below w.heap.size w w2) := Lib.hid (by rw [hw2]; exact below_drew HB1.out _)
      have HX2 : Hid (Blk w2 w.heap.size 50 [.int .u32 i, .int .u32 b]) := Lib.hid (by rw [hw2]; exact HX1.out.drewN _)
      have HO2 : Hid (OwnX w2 (w.heap.size + 1) v1 []) := Lib.hid (by rw [hw2]; exact row_below HO1.out (below_drewN _ _))
      have HBx : Hid (w.heap.size + 1 ≤ (w2.alloc (.cells #[.int .u32 i, .int .u32 b] 50)).heap.size) := Lib.hid (by have := (below_box HB2.out (.cells #[.int .u32 i, .int .u32 b] 50)).size; have := HX2.out.lt; simp; omega)
      clear hw2 HB1 HX1 HS1 HO1
      have x0 : w2.cell? ⟨w.heap.size, 0, none⟩ = some (.int .u32 i) := HX2.out.cell 0
      have x1 : w2.cell? ⟨w.heap.size, 1, none⟩ = some (.int .u32 b) := HX2.out.cell 1
      go_upto_region 9 with (at_builtin; (refine wpList_append_own _ rfl _ _ 23 rfl (w.heap.size + 1) 50 i0 (.agg #[.int .u32 0, .int .u32 0]) 2 8 Try.underlying23 HI.out.1 HI.out.2.1 HI.out.2.2.1 HI.out.2.2.2 rfl (by decide) v1 0 _ rfl (World.ownsRow.alloc HO2.out _) ⟨w2.heap.size, 0, none⟩ 1 1 [.int .u32 i, .int .u32 b] rfl rfl (new2x _ _ _) (one2 _ _) HK.out.1 HK.out.2 HBx.out ?_); intro v2 w3 h6 h7 _)
      have HB3 : Hid (Below w.heap.size w w3) := Lib.hid ((below_box HB2.out _).grown h7 (below_box HB2.out _).size (fun q hq => by have := (World.ownsRow.lt HO2.out q hq).1; omega))
      have HO3 : Hid (OwnX w3 (w.heap.size + 1) v2 (insX i b [])) := Lib.hid (OwnX.more (l := []) h6)
      have HS3 : Hid (w.heap.size + 1 ≤ w3.heap.size) := Lib.hid (Nat.le_trans HBx.out h7.size)
      clear h6 h7 HO2 HB2 HX2 HBx x0 x1
      go_wp2_with (at_builtin; (first
        | refine wpList_append_own_none rfl _ _ 23 rfl (w.heap.size + 1) 50 i0 2 Try.underlying23 HI.out.1 v2 1 _ rfl HO3.out rfl ?_
        | (refine wpList_append_own _ rfl _ _ 23 rfl (w.heap.size + 1) 50 i0 (.agg #[.int .u32 0, .int .u32 0]) 2 8 Try.underlying23 HI.out.1 HI.out.2.1 HI.out.2.2.1 HI.out.2.2.2 rfl (by decide) v2 1 _ rfl HO3.out _ 0 _ [] rfl rfl (fun j u hu => by cases hu) (fun u hu => by cases hu) HK2.out.1 HK2.out.2 HS3.out ?_; intro v3 w4 h6 h7 _)))
      try (
        have HB4 : Hid (Below w.heap.size w w4) := Lib.hid (HB3.out.grown h7 HB3.out.size (fun q hq => by have := (World.ownsRow.lt HO3.out q hq).1; omega))
        have HO4 : Hid (OwnX w4 (w.heap.size + 1) v3 (insX i b [])) := Lib.hid (by rw [List.append_nil] at h6; exact h6)
        clear h6 h7)
      go_wp2_with fail
      go_ret
      first
        | exact ⟨_, rfl, row_base HO4.out (Nat.le_succ _), HB4.out⟩
        | exact ⟨_, rfl, row_base HO3.out (Nat.le_succ _), HB3.out⟩

set_option maxHeartbeats 32000000 in
set_option maxRecDepth 100000 in
theorem rextent_some (v : Value) (l : List Xt) (hl0 : 0 < l.length) (hl : l.length ≤ 1048576) (hW : Wf v) (i b : Int) (hi0 : 0 ≤ i) (hi1 : i < 4294967296) (hb0 : 0 ≤ b) (hb1 : b < 4294967296) (w : World) (hA : XtsAt w v l) (hf : ∀ j, j < l.length → xtFits (l.getD j Xt.nought)) : Calls Try.prog 38 #[v, .agg #[.int .u32 i, .int .u32 b]] w (PutX w l i b) := by
  obtain ⟨i0, hi, hz0, hz1, hz2⟩ := info_parts infoExt
  have HI := Lib.hid (And.intro hi (And.intro hz0 (And.intro hz1 hz2)))
  obtain ⟨a, c, rfl, h3⟩ := hA
  obtain ⟨bb, o, rfl, hbl, hcl⟩ := h3 hl0
  have hnc : l.length ≤ c := by
    rcases hW with h | ⟨ad, n, c', h, h1, _⟩
    · cases h
    · injection h with _ h2 h3; omega
  have hcm : c ≤ maxLen := by
    rcases hW with h | ⟨ad, n, c', h, h1, h4⟩
    · cases h
    · injection h with _ h2 h3; omega
  obtain ⟨n, hn⟩ : ∃ n, n = l.length := ⟨_, rfl⟩
  rw [← hn] at hcl hnc hl hl0 hf ⊢
  unfold maxLen at hcm
  have hni : (n : Int) ≤ 1048576 := by omega
  have hci : (n : Int) ≤ (c : Int) := by omega
  have hc63 : (c : Int) ≤ 9223372036854775807 := by omega
  have HN := Lib.hid hn
  have HCl := Lib.hid hcl
  have HF := Lib.hid hf
  have HB0 := Lib.hid (below_new1 w (.cells #[.int .u32 i, .int .u32 b] 50))
  have HX0 := Lib.hid (Blk.new w 50 [.int .u32 i, .int .u32 b])
  have HS0 : Hid (w.heap.size + 1 ≤ (w.alloc (.cells #[.int .u32 i, .int .u32 b] 50)).heap.size) := Lib.hid (by simp)
  clear hi hz0 hz1 hz2 h3 hn hcl hW hl hcm hf
  go_enter Try.func38, Try.ntmps38
  go_wp2_with fail
  go_loopw [5] (fun s wr => ∃ k : Nat, (k : Int) ≤ n ∧ s = .int .i64 k ∧ Hid (∀ j, j < k → (l.getD j Xt.nought).id < i) ∧ Hid (Below w.heap.size w wr) ∧ Hid (Blk wr w.heap.size 50 [.int .u32 i, .int .u32 b]) ∧ Hid (w.heap.size + 1 ≤ wr.heap.size)) (fun s _ => n - (intOf s).toNat)
  case atStart => exact ⟨0, by omega, rfl, Lib.hid fun j hj => absurd hj (by omega), HB0, HX0, HS0⟩
  case round =>
    clear HB0 HX0 HS0
    obtain ⟨k, hk, rfl, HK, HB, HX, HS⟩ := hrel
    have y0 : wr.cell? ⟨w.heap.size, 0, none⟩ = some (.int .u32 i) := HX.out.cell 0
    by_cases hlt : k < n
    · have hd : decide (k < n) = true := decide_eq_true hlt
      have hki : (k : Int) < (n : Int) := by omega
      obtain ⟨q, hq⟩ : ∃ q, q = (l.getD k Xt.nought).id := ⟨_, rfl⟩
      obtain ⟨xb, hxb⟩ : ∃ q, q = (l.getD k Xt.nought).bl := ⟨_, rfl⟩
      have hfk := HF.out k hlt
      unfold xtFits at hfk
      rw [← hq, ← hxb] at hfk
      obtain ⟨⟨f0, f1⟩, f2, f3⟩ := hfk
      have cU := ((HCl.out k hlt).below HB.out hbl).xt.1
      rw [← hq] at cU
      by_cases hqp : q < i
      · have HK2 : Hid (∀ j, j < k + 1 → (l.getD j Xt.nought).id < i) := Lib.hid fun j hj => by
          by_cases he : j = k
          · subst he; rw [← hq]; exact hqp
          · exact HK.out j (by omega)
        have hdq : decide (q < i) = true := decide_eq_true hqp
        clear hq HK hxb
        go_upto_region 2 with (fail)
        go_quiet (fail)
        go_wp2_with fail
        clear cU y0
        go_roundw
        case rel => exact ⟨k + 1, by omega, by go_num, HK2, Lib.hid (below_drew HB.out _), Lib.hid (HX.out.drewN _), HS⟩
        case measure => simp [intOf]; omega
      · have hpq : i ≤ q := by omega
        have hdq : decide (q < i) = false := decide_eq_false hqp
        have hput := insX_at i b l k (by rw [← HN.out]; omega) HK.out (fun _ => by rw [← hq]; exact hqp)
        by_cases hqe : q = i
        · have HP : Hid (insX i b l = (l.take k ++ [⟨i, max b xb⟩]) ++ l.drop (k + 1)) := Lib.hid (by rw [hput, if_pos ⟨by rw [← HN.out]; exact hlt, by rw [← hq]; exact hqe⟩, ← hxb]; simp)
          have HXB : Hid (xb = (l.getD k Xt.nought).bl ∧ q = (l.getD k Xt.nought).id) := Lib.hid ⟨hxb, hq⟩
          clear hput hqp hq HK hxb
          go_upto_region 2 with (fail)
          go_quiet (fail)
          go_upto_region 4 with (fail)
          refine wp_named ?_; intro wa hwa
          have HBa : Hid (Below w.heap.size w wa) := Lib.hid (by rw [hwa]; exact below_drew HB.out _)
          have HXa : Hid (Blk wa w.heap.size 50 [.int .u32 i, .int .u32 b]) := Lib.hid (by rw [hwa]; exact HX.out.drewN _)
          have HSa : Hid (w.heap.size + 1 ≤ wa.heap.size) := Lib.hid (by rw [hwa]; exact HS.out)
          have HCk : Hid (SlC wa (.slice (some ⟨bb, o, none⟩) k c) k 2 (fun j => xtCells (l.getD j Xt.nought))) := Lib.hid ⟨_, _, rfl, fun _ => ⟨bb, o, rfl, Nat.lt_of_lt_of_le hbl HBa.out.size, fun j hj => (HCl.out j (by omega)).below HBa.out hbl⟩⟩
          have HKm : Hid (k ≤ maxLen ∧ k * 8 ≤ 140737488355328) := Lib.hid (by unfold maxLen; omega)
          clear cU y0
          clear hwa HB HX HS
          go_upto_region 5 with (at_builtin; refine wpList_append_all rfl _ _ 23 rfl (w.heap.size + 1) 50 i0 (.agg #[.int .u32 0, .int .u32 0]) 2 8 Try.underlying23 HI.out.1 HI.out.2.1 HI.out.2.2.1 HI.out.2.2.2 rfl (by decide) rfl (.slice (some ⟨bb, o, none⟩) k c) k (fun j => xtCells (l.getD j Xt.nought)) rfl HCk.out (fun _ _ => rfl) (fun _ _ u hu => xt_one1 _ u hu) HKm.out.1 HKm.out.2 HSa.out ?_; intro v1 w1 h6 h7)
          obtain ⟨L1, hL1⟩ : ∃ L1, L1 = l.take k := ⟨_, rfl⟩
          have HLk : Hid (L1.length = k) := Lib.hid (by rw [hL1, List.length_take, ← HN.out]; omega)
          have HO1 : Hid (OwnX w1 (w.heap.size + 1) v1 L1) := Lib.hid (by
            unfold OwnX
            rw [HLk.out, hL1, ← flat_take xtCells Xt.nought l k (by rw [← HN.out]; omega)]
            exact h6)
          have HB1 : Hid (Below w.heap.size w w1) := Lib.hid (below_call HBa.out (grown_none h7))
          have HX1 : Hid (Blk w1 w.heap.size 50 [.int .u32 i, .int .u32 b]) := Lib.hid (HXa.out.call (grown_none h7))
          rw [← hL1] at HP
          clear h6 h7 HBa HXa HSa HCk HKm hL1
          obtain ⟨c0, c1⟩ := ((HCl.out k hlt).below HB1.out hbl).xt
          rw [← HXB.out.2, hqe] at c0
          rw [← HXB.out.1] at c1
          have y0 : w1.cell? ⟨w.heap.size, 0, none⟩ = some (.int .u32 i) := HX1.out.cell 0
          have y1 : w1.cell? ⟨w.heap.size, 1, none⟩ = some (.int .u32 b) := HX1.out.cell 1
          have g1 : w1.frozen? ⟨w.heap.size, 1, none⟩ = false := HX1.out.frozen 1
          have hlw : w.heap.size < w1.heap.size := HX1.out.lt
          clear hqe hdq hpq
          go_quiet (fail)
          go_upto_region 6 with (fail)
          refine wp_named ?_; intro w5 hw5
          have d0 : w5.cell? ⟨bb, o + k * 2 + 1, none⟩ = some (.int .u32 xb) := by rw [hw5]; exact c1
          have d1 : w5.cell? ⟨w.heap.size, 1, none⟩ = some (.int .u32 b) := by rw [hw5]; exact y1
          have d2 : w5.frozen? ⟨w.heap.size, 1, none⟩ = false := by rw [hw5]; exact g1
          have d3 : w.heap.size < w5.heap.size := by rw [hw5]; exact hlw
          have HB5 : Hid (Below w.heap.size w w5) := Lib.hid (by rw [hw5]; exact below_drew HB1.out _)
          have HX5 : Hid (Blk w5 w.heap.size 50 [.int .u32 i, .int .u32 b]) := Lib.hid (by rw [hw5]; exact HX1.out.drewN _)
          have HO5 : Hid (OwnX w5 (w.heap.size + 1) v1 L1) := Lib.hid (by rw [hw5]; exact row_below HO1.out (below_drewN _ _))
          clear hw5 c0 c1 y0 y1 g1 hlw HB1 HX1 HO1
          by_cases hle : xb ≤ b
          · have HP2 : Hid (max b xb = b) := Lib.hid (by omega)
            go_still_tail 9, (by kernel_rfl)
            go_upto_region 8 with (fail)
            refine wp_named ?_; intro w2 hw2
            obtain ⟨M, hM⟩ : ∃ M, M = b := ⟨_, rfl⟩
            have HB2 : Hid (Below w.heap.size w w2) := Lib.hid (by rw [hw2]; exact below_call (below_set HB5.out (Nat.le_refl _) 1 _) (below_drewN _ 1))
            have HX2 : Hid (Blk w2 w.heap.size 50 [.int .u32 i, .int .u32 M]) := Lib.hid (by rw [hw2, hM]; exact HX5.out.set_ 1 _)
            have HO2 : Hid (OwnX w2 (w.heap.size + 1) v1 L1) := Lib.hid (by rw [hw2]; exact row_below (World.ownsRow.kept HO5.out (grown_set w5 w.heap.size 1 _) (row_or HO5.out (Nat.lt_succ_self _))) (below_drewN _ 1))
            have HP3 : Hid (insX i b l = (L1 ++ [⟨i, M⟩]) ++ l.drop (k + 1)) := Lib.hid (by rw [hM, HP.out, HP2.out])
            clear HP HP2 hw2 hM d0 d1 d2 d3 HB5 HX5 HO5
            have HP := HP3
            clear HP3
            by_cases hck : c = k + 1
            · have HKN : Hid (n - (k + 1) = 0) := Lib.hid (by omega)
              have hcl0 : n ≤ k + 1 := by omega
              have hkn1 : (k : Int) + 1 = (n : Int) := by omega
              obtain rfl : c = n := by omega
              have HNK : Hid (c = k + 1) := Lib.hid (by omega)
              clear hcl0 hck hnc hci hki hlt hd hl0
              have HBx : Hid (w.heap.size + 1 ≤ (w2.alloc (.cells #[.int .u32 i, .int .u32 M] 50)).heap.size) := Lib.hid (by have := (below_box HB2.out (.cells #[.int .u32 i, .int .u32 M] 50)).size; have := HX2.out.lt; simp; omega)
              have HK3 : Hid (L1.length + 1 ≤ maxLen ∧ (L1.length + 1) * 8 ≤ 140737488355328) := Lib.hid (by rw [HLk.out]; unfold maxLen; omega)
              have x0 : w2.cell? ⟨w.heap.size, 0, none⟩ = some (.int .u32 i) := HX2.out.cell 0
              have x1 : w2.cell? ⟨w.heap.size, 1, none⟩ = some (.int .u32 M) := HX2.out.cell 1
              go_upto_region 9 with (at_builtin; (refine wpList_append_own _ rfl _ _ 23 rfl (w.heap.size + 1) 50 i0 (.agg #[.int .u32 0, .int .u32 0]) 2 8 Try.underlying23 HI.out.1 HI.out.2.1 HI.out.2.2.1 HI.out.2.2.2 rfl (by decide) v1 L1.length _ rfl (World.ownsRow.alloc HO2.out _) ⟨w2.heap.size, 0, none⟩ 1 1 [.int .u32 i, .int .u32 M] rfl rfl (new2x _ _ _) (one2 _ _) HK3.out.1 HK3.out.2 HBx.out ?_); intro v2 w3 h6 h7 _)
              have HB3 : Hid (Below w.heap.size w w3) := Lib.hid ((below_box HB2.out _).grown h7 (below_box HB2.out _).size (fun q hq => by have := (World.ownsRow.lt HO2.out q hq).1; omega))
              obtain ⟨L2, hL2⟩ : ∃ L2, L2 = L1 ++ [⟨i, M⟩] := ⟨_, rfl⟩
              have HO3 : Hid (OwnX w3 (w.heap.size + 1) v2 L2) := Lib.hid (by rw [hL2]; exact OwnX.more h6)
              have HLk2 : Hid (L2.length = k + 1) := Lib.hid (by rw [hL2, List.length_append, HLk.out]; rfl)
              have HS3 : Hid (w.heap.size + 1 ≤ w3.heap.size) := Lib.hid (Nat.le_trans HBx.out h7.size)
              have HL2 := Lib.hid hL2
              clear h6 h7 HO2 HB2 HX2 HBx HK3 hL2 x0 x1
              obtain ⟨L3, hL3⟩ : ∃ L3, L3 = l.drop (k + 1) := ⟨_, rfl⟩
              have HLr : Hid (L3.length = 0) := Lib.hid (by rw [hL3, List.length_drop, ← HN.out, HNK.out]; omega)
              have HP3 : Hid (insX i b l = L2 ++ L3) := Lib.hid (by rw [HP.out, HL2.out, hL3])
              have HNw : Hid (∀ j u, (L3.flatMap xtCells)[j]? = some u → w3.cell? ((⟨bb, o + (k + 1) * 2, none⟩ : Addr).add j) = some u) := Lib.hid (by
                rw [hL3]
                exact xt_cell HN.out (fun j hj => (HCl.out j hj).below HB3.out hbl) (k + 1) (by have := HNK.out; omega))
              have HK4 : Hid (L2.length + (0) ≤ maxLen ∧ (L2.length + (0)) * 8 ≤ 140737488355328) := Lib.hid (by rw [HLk2.out]; unfold maxLen; omega)
              clear hL3
              go_wp2_with (at_builtin; (refine wpList_append_own _ rfl _ _ 23 rfl (w.heap.size + 1) 50 i0 (.agg #[.int .u32 0, .int .u32 0]) 2 8 Try.underlying23 HI.out.1 HI.out.2.1 HI.out.2.2.1 HI.out.2.2.2 rfl (by decide) v2 L2.length _ rfl HO3.out _ (0) _ (L3.flatMap xtCells) rfl (by rw [fm_len xt_len, HLr.out]) (fun j u hu => absurd hu (by rw [List.eq_nil_of_length_eq_zero (HLr.out : L3.length = 0)]; simp)) (xts_one _) HK4.out.1 HK4.out.2 HS3.out ?_); intro v3 w4 h6 h7 _)
              have HB4 : Hid (Below w.heap.size w w4) := Lib.hid (HB3.out.grown h7 HB3.out.size (fun q hq => by have := (World.ownsRow.lt HO3.out q hq).1; omega))
              have HO4 : Hid (OwnX w4 (w.heap.size + 1) v3 (insX i b l)) := Lib.hid (by rw [HP3.out]; exact OwnX.join HLr.out.symm h6)
              clear h6 h7
              go_wp2_with fail
              go_ret
              exact ⟨_, rfl, row_base HO4.out (Nat.le_succ _), HB4.out⟩
            · have hw1 : IntKind.i64.wrap ((k : Int) + 1) = (k : Int) + 1 := by rw [IntKind.wrap_i64]; omega
              have htn : ((k : Int) + 1).toNat = k + 1 := by omega
              have hb5 : (k : Int) + 1 ≤ (n : Int) := by omega
              have HBx : Hid (w.heap.size + 1 ≤ (w2.alloc (.cells #[.int .u32 i, .int .u32 M] 50)).heap.size) := Lib.hid (by have := (below_box HB2.out (.cells #[.int .u32 i, .int .u32 M] 50)).size; have := HX2.out.lt; simp; omega)
              have HK3 : Hid (L1.length + 1 ≤ maxLen ∧ (L1.length + 1) * 8 ≤ 140737488355328) := Lib.hid (by rw [HLk.out]; unfold maxLen; omega)
              have x0 : w2.cell? ⟨w.heap.size, 0, none⟩ = some (.int .u32 i) := HX2.out.cell 0
              have x1 : w2.cell? ⟨w.heap.size, 1, none⟩ = some (.int .u32 M) := HX2.out.cell 1
              go_upto_region 9 with (at_builtin; (refine wpList_append_own _ rfl _ _ 23 rfl (w.heap.size + 1) 50 i0 (.agg #[.int .u32 0, .int .u32 0]) 2 8 Try.underlying23 HI.out.1 HI.out.2.1 HI.out.2.2.1 HI.out.2.2.2 rfl (by decide) v1 L1.length _ rfl (World.ownsRow.alloc HO2.out _) ⟨w2.heap.size, 0, none⟩ 1 1 [.int .u32 i, .int .u32 M] rfl rfl (new2x _ _ _) (one2 _ _) HK3.out.1 HK3.out.2 HBx.out ?_); intro v2 w3 h6 h7 _)
              have HB3 : Hid (Below w.heap.size w w3) := Lib.hid ((below_box HB2.out _).grown h7 (below_box HB2.out _).size (fun q hq => by have := (World.ownsRow.lt HO2.out q hq).1; omega))
              obtain ⟨L2, hL2⟩ : ∃ L2, L2 = L1 ++ [⟨i, M⟩] := ⟨_, rfl⟩
              have HO3 : Hid (OwnX w3 (w.heap.size + 1) v2 L2) := Lib.hid (by rw [hL2]; exact OwnX.more h6)
              have HLk2 : Hid (L2.length = k + 1) := Lib.hid (by rw [hL2, List.length_append, HLk.out]; rfl)
              have HS3 : Hid (w.heap.size + 1 ≤ w3.heap.size) := Lib.hid (Nat.le_trans HBx.out h7.size)
              have HL2 := Lib.hid hL2
              clear h6 h7 HO2 HB2 HX2 HBx HK3 hL2 x0 x1
              obtain ⟨L3, hL3⟩ : ∃ L3, L3 = l.drop (k + 1) := ⟨_, rfl⟩
              have HLr : Hid (L3.length = n - (k + 1)) := Lib.hid (by rw [hL3, List.length_drop, ← HN.out])
              have HP3 : Hid (insX i b l = L2 ++ L3) := Lib.hid (by rw [HP.out, HL2.out, hL3])
              have HNw : Hid (∀ j u, (L3.flatMap xtCells)[j]? = some u → w3.cell? ((⟨bb, o + (k + 1) * 2, none⟩ : Addr).add j) = some u) := Lib.hid (by
                rw [hL3]
                exact xt_cell HN.out (fun j hj => (HCl.out j hj).below HB3.out hbl) (k + 1) (by omega))
              have HK4 : Hid (L2.length + (n - (k + 1)) ≤ maxLen ∧ (L2.length + (n - (k + 1))) * 8 ≤ 140737488355328) := Lib.hid (by rw [HLk2.out]; unfold maxLen; omega)
              clear hL3
              go_wp2_with (at_builtin; (refine wpList_append_own _ rfl _ _ 23 rfl (w.heap.size + 1) 50 i0 (.agg #[.int .u32 0, .int .u32 0]) 2 8 Try.underlying23 HI.out.1 HI.out.2.1 HI.out.2.2.1 HI.out.2.2.2 rfl (by decide) v2 L2.length _ rfl HO3.out ⟨bb, o + (k + 1) * 2, none⟩ (n - (k + 1)) (c - (k + 1)) (L3.flatMap xtCells) rfl (by rw [fm_len xt_len, HLr.out]) HNw.out (xts_one _) HK4.out.1 HK4.out.2 HS3.out ?_); intro v3 w4 h6 h7 _)
              have HB4 : Hid (Below w.heap.size w w4) := Lib.hid (HB3.out.grown h7 HB3.out.size (fun q hq => by have := (World.ownsRow.lt HO3.out q hq).1; omega))
              have HO4 : Hid (OwnX w4 (w.heap.size + 1) v3 (insX i b l)) := Lib.hid (by rw [HP3.out]; exact OwnX.join HLr.out.symm h6)
              clear h6 h7
              go_wp2_with fail
              go_ret
              exact ⟨_, rfl, row_base HO4.out (Nat.le_succ _), HB4.out⟩
          · have HP2 : Hid (max b xb = xb) := Lib.hid (by omega)
            have hle2 : b < xb := by omega
            go_still_tail 9, (by kernel_rfl)
            go_upto_region 8 with (fail)
            refine wp_named ?_; intro w2 hw2
            obtain ⟨M, hM⟩ : ∃ M, M = xb := ⟨_, rfl⟩
            have HB2 : Hid (Below w.heap.size w w2) := Lib.hid (by rw [hw2]; exact below_call (below_set HB5.out (Nat.le_refl _) 1 _) (below_drewN _ 1))
            have HX2 : Hid (Blk w2 w.heap.size 50 [.int .u32 i, .int .u32 M]) := Lib.hid (by rw [hw2, hM]; exact HX5.out.set_ 1 _)
            have HO2 : Hid (OwnX w2 (w.heap.size + 1) v1 L1) := Lib.hid (by rw [hw2]; exact row_below (World.ownsRow.kept HO5.out (grown_set w5 w.heap.size 1 _) (row_or HO5.out (Nat.lt_succ_self _))) (below_drewN _ 1))
            have HP3 : Hid (insX i b l = (L1 ++ [⟨i, M⟩]) ++ l.drop (k + 1)) := Lib.hid (by rw [hM, HP.out, HP2.out])
            clear HP HP2 hw2 hM d0 d1 d2 d3 HB5 HX5 HO5
            have HP := HP3
            clear HP3
            by_cases hck : c = k + 1
            · have HKN : Hid (n - (k + 1) = 0) := Lib.hid (by omega)
              have hcl0 : n ≤ k + 1 := by omega
              have hkn1 : (k : Int) + 1 = (n : Int) := by omega
              obtain rfl : c = n := by omega
              have HNK : Hid (c = k + 1) := Lib.hid (by omega)
              clear hcl0 hck hnc hci hki hlt hd hl0
              have HBx : Hid (w.heap.size + 1 ≤ (w2.alloc (.cells #[.int .u32 i, .int .u32 M] 50)).heap.size) := Lib.hid (by have := (below_box HB2.out (.cells #[.int .u32 i, .int .u32 M] 50)).size; have := HX2.out.lt; simp; omega)
              have HK3 : Hid (L1.length + 1 ≤ maxLen ∧ (L1.length + 1) * 8 ≤ 140737488355328) := Lib.hid (by rw [HLk.out]; unfold maxLen; omega)
              have x0 : w2.cell? ⟨w.heap.size, 0, none⟩ = some (.int .u32 i) := HX2.out.cell 0
              have x1 : w2.cell? ⟨w.heap.size, 1, none⟩ = some (.int .u32 M) := HX2.out.cell 1
              go_upto_region 9 with (at_builtin; (refine wpList_append_own _ rfl _ _ 23 rfl (w.heap.size + 1) 50 i0 (.agg #[.int .u32 0, .int .u32 0]) 2 8 Try.underlying23 HI.out.1 HI.out.2.1 HI.out.2.2.1 HI.out.2.2.2 rfl (by decide) v1 L1.length _ rfl (World.ownsRow.alloc HO2.out _) ⟨w2.heap.size, 0, none⟩ 1 1 [.int .u32 i, .int .u32 M] rfl rfl (new2x _ _ _) (one2 _ _) HK3.out.1 HK3.out.2 HBx.out ?_); intro v2 w3 h6 h7 _)
              have HB3 : Hid (Below w.heap.size w w3) := Lib.hid ((below_box HB2.out _).grown h7 (below_box HB2.out _).size (fun q hq => by have := (World.ownsRow.lt HO2.out q hq).1; omega))
              obtain ⟨L2, hL2⟩ : ∃ L2, L2 = L1 ++ [⟨i, M⟩] := ⟨_, rfl⟩
              have HO3 : Hid (OwnX w3 (w.heap.size + 1) v2 L2) := Lib.hid (by rw [hL2]; exact OwnX.more h6)
              have HLk2 : Hid (L2.length = k + 1) := Lib.hid (by rw [hL2, List.length_append, HLk.out]; rfl)
              have HS3 : Hid (w.heap.size + 1 ≤ w3.heap.size) := Lib.hid (Nat.le_trans HBx.out h7.size)
              have HL2 := Lib.hid hL2
              clear h6 h7 HO2 HB2 HX2 HBx HK3 hL2 x0 x1
              obtain ⟨L3, hL3⟩ : ∃ L3, L3 = l.drop (k + 1) := ⟨_, rfl⟩
              have HLr : Hid (L3.length = 0) := Lib.hid (by rw [hL3, List.length_drop, ← HN.out, HNK.out]; omega)
              have HP3 : Hid (insX i b l = L2 ++ L3) := Lib.hid (by rw [HP.out, HL2.out, hL3])
              have HNw : Hid (∀ j u, (L3.flatMap xtCells)[j]? = some u → w3.cell? ((⟨bb, o + (k + 1) * 2, none⟩ : Addr).add j) = some u) := Lib.hid (by
                rw [hL3]
                exact xt_cell HN.out (fun j hj => (HCl.out j hj).below HB3.out hbl) (k + 1) (by have := HNK.out; omega))
              have HK4 : Hid (L2.length + (0) ≤ maxLen ∧ (L2.length + (0)) * 8 ≤ 140737488355328) := Lib.hid (by rw [HLk2.out]; unfold maxLen; omega)
              clear hL3
              go_wp2_with (at_builtin; (refine wpList_append_own _ rfl _ _ 23 rfl (w.heap.size + 1) 50 i0 (.agg #[.int .u32 0, .int .u32 0]) 2 8 Try.underlying23 HI.out.1 HI.out.2.1 HI.out.2.2.1 HI.out.2.2.2 rfl (by decide) v2 L2.length _ rfl HO3.out _ (0) _ (L3.flatMap xtCells) rfl (by rw [fm_len xt_len, HLr.out]) (fun j u hu => absurd hu (by rw [List.eq_nil_of_length_eq_zero (HLr.out : L3.length = 0)]; simp)) (xts_one _) HK4.out.1 HK4.out.2 HS3.out ?_); intro v3 w4 h6 h7 _)
              have HB4 : Hid (Below w.heap.size w w4) := Lib.hid (HB3.out.grown h7 HB3.out.size (fun q hq => by have := (World.ownsRow.lt HO3.out q hq).1; omega))
              have HO4 : Hid (OwnX w4 (w.heap.size + 1) v3 (insX i b l)) := Lib.hid (by rw [HP3.out]; exact OwnX.join HLr.out.symm h6)
              clear h6 h7
              go_wp2_with fail
              go_ret
              exact ⟨_, rfl, row_base HO4.out (Nat.le_succ _), HB4.out⟩
            · have hw1 : IntKind.i64.wrap ((k : Int) + 1) = (k : Int) + 1 := by rw [IntKind.wrap_i64]; omega
              have htn : ((k : Int) + 1).toNat = k + 1 := by omega
              have hb5 : (k : Int) + 1 ≤ (n : Int) := by omega
              have HBx : Hid (w.heap.size + 1 ≤ (w2.alloc (.cells #[.int .u32 i, .int .u32 M] 50)).heap.size) := Lib.hid (by have := (below_box HB2.out (.cells #[.int .u32 i, .int .u32 M] 50)).size; have := HX2.out.lt; simp; omega)
              have HK3 : Hid (L1.length + 1 ≤ maxLen ∧ (L1.length + 1) * 8 ≤ 140737488355328) := Lib.hid (by rw [HLk.out]; unfold maxLen; omega)
              have x0 : w2.cell? ⟨w.heap.size, 0, none⟩ = some (.int .u32 i) := HX2.out.cell 0
              have x1 : w2.cell? ⟨w.heap.size, 1, none⟩ = some (.int .u32 M) := HX2.out.cell 1
              go_upto_region 9 with (at_builtin; (refine wpList_append_own _ rfl _ _ 23 rfl (w.heap.size + 1) 50 i0 (.agg #[.int .u32 0, .int .u32 0]) 2 8 Try.underlying23 HI.out.1 HI.out.2.1 HI.out.2.2.1 HI.out.2.2.2 rfl (by decide) v1 L1.length _ rfl (World.ownsRow.alloc HO2.out _) ⟨w2.heap.size, 0, none⟩ 1 1 [.int .u32 i, .int .u32 M] rfl rfl (new2x _ _ _) (one2 _ _) HK3.out.1 HK3.out.2 HBx.out ?_); intro v2 w3 h6 h7 _)
              have HB3 : Hid (Below w.heap.size w w3) := Lib.hid ((below_box HB2.out _).grown h7 (below_box HB2.out _).size (fun q hq => by have := (World.ownsRow.lt HO2.out q hq).1; omega))
              obtain ⟨L2, hL2⟩ : ∃ L2, L2 = L1 ++ [⟨i, M⟩] := ⟨_, rfl⟩
              have HO3 : Hid (OwnX w3 (w.heap.size + 1) v2 L2) := Lib.hid (by rw [hL2]; exact OwnX.more h6)
              have HLk2 : Hid (L2.length = k + 1) := Lib.hid (by rw [hL2, List.length_append, HLk.out]; rfl)
              have HS3 : Hid (w.heap.size + 1 ≤ w3.heap.size) := Lib.hid (Nat.le_trans HBx.out h7.size)
              have HL2 := Lib.hid hL2
              clear h6 h7 HO2 HB2 HX2 HBx HK3 hL2 x0 x1
              obtain ⟨L3, hL3⟩ : ∃ L3, L3 = l.drop (k + 1) := ⟨_, rfl⟩
              have HLr : Hid (L3.length = n - (k + 1)) := Lib.hid (by rw [hL3, List.length_drop, ← HN.out])
              have HP3 : Hid (insX i b l = L2 ++ L3) := Lib.hid (by rw [HP.out, HL2.out, hL3])
              have HNw : Hid (∀ j u, (L3.flatMap xtCells)[j]? = some u → w3.cell? ((⟨bb, o + (k + 1) * 2, none⟩ : Addr).add j) = some u) := Lib.hid (by
                rw [hL3]
                exact xt_cell HN.out (fun j hj => (HCl.out j hj).below HB3.out hbl) (k + 1) (by omega))
              have HK4 : Hid (L2.length + (n - (k + 1)) ≤ maxLen ∧ (L2.length + (n - (k + 1))) * 8 ≤ 140737488355328) := Lib.hid (by rw [HLk2.out]; unfold maxLen; omega)
              clear hL3
              go_wp2_with (at_builtin; (refine wpList_append_own _ rfl _ _ 23 rfl (w.heap.size + 1) 50 i0 (.agg #[.int .u32 0, .int .u32 0]) 2 8 Try.underlying23 HI.out.1 HI.out.2.1 HI.out.2.2.1 HI.out.2.2.2 rfl (by decide) v2 L2.length _ rfl HO3.out ⟨bb, o + (k + 1) * 2, none⟩ (n - (k + 1)) (c - (k + 1)) (L3.flatMap xtCells) rfl (by rw [fm_len xt_len, HLr.out]) HNw.out (xts_one _) HK4.out.1 HK4.out.2 HS3.out ?_); intro v3 w4 h6 h7 _)
              have HB4 : Hid (Below w.heap.size w w4) := Lib.hid (HB3.out.grown h7 HB3.out.size (fun q hq => by have := (World.ownsRow.lt HO3.out q hq).1; omega))
              have HO4 : Hid (OwnX w4 (w.heap.size + 1) v3 (insX i b l)) := Lib.hid (by rw [HP3.out]; exact OwnX.join HLr.out.symm h6)
              clear h6 h7
              go_wp2_with fail
              go_ret
              exact ⟨_, rfl, row_base HO4.out (Nat.le_succ _), HB4.out⟩
        · have HP : Hid (insX i b l = (l.take k ++ [⟨i, b⟩]) ++ l.drop k) := Lib.hid (by rw [hput, if_neg (fun h => hqe (by rw [hq]; exact h.2))]; simp)
          have HXB : Hid (q = (l.getD k Xt.nought).id) := Lib.hid hq
          have hqp2 : (q == i) = false := beq_eq_false_iff_ne.2 hqe
          clear hput hqp hq HK hqe hxb
          go_upto_region 2 with (fail)
          go_quiet (fail)
          go_upto_region 4 with (fail)
          refine wp_named ?_; intro wa hwa
          have HBa : Hid (Below w.heap.size w wa) := Lib.hid (by rw [hwa]; exact below_drew HB.out _)
          have HXa : Hid (Blk wa w.heap.size 50 [.int .u32 i, .int .u32 b]) := Lib.hid (by rw [hwa]; exact HX.out.drewN _)
          have HSa : Hid (w.heap.size + 1 ≤ wa.heap.size) := Lib.hid (by rw [hwa]; exact HS.out)
          have HCk : Hid (SlC wa (.slice (some ⟨bb, o, none⟩) k c) k 2 (fun j => xtCells (l.getD j Xt.nought))) := Lib.hid ⟨_, _, rfl, fun _ => ⟨bb, o, rfl, Nat.lt_of_lt_of_le hbl HBa.out.size, fun j hj => (HCl.out j (by omega)).below HBa.out hbl⟩⟩
          have HKm : Hid (k ≤ maxLen ∧ k * 8 ≤ 140737488355328) := Lib.hid (by unfold maxLen; omega)
          clear cU y0
          clear hwa HB HX HS
          go_upto_region 5 with (at_builtin; refine wpList_append_all rfl _ _ 23 rfl (w.heap.size + 1) 50 i0 (.agg #[.int .u32 0, .int .u32 0]) 2 8 Try.underlying23 HI.out.1 HI.out.2.1 HI.out.2.2.1 HI.out.2.2.2 rfl (by decide) rfl (.slice (some ⟨bb, o, none⟩) k c) k (fun j => xtCells (l.getD j Xt.nought)) rfl HCk.out (fun _ _ => rfl) (fun _ _ u hu => xt_one1 _ u hu) HKm.out.1 HKm.out.2 HSa.out ?_; intro v1 w1 h6 h7)
          obtain ⟨L1, hL1⟩ : ∃ L1, L1 = l.take k := ⟨_, rfl⟩
          have HLk : Hid (L1.length = k) := Lib.hid (by rw [hL1, List.length_take, ← HN.out]; omega)
          have HO1 : Hid (OwnX w1 (w.heap.size + 1) v1 L1) := Lib.hid (by
            unfold OwnX
            rw [HLk.out, hL1, ← flat_take xtCells Xt.nought l k (by rw [← HN.out]; omega)]
            exact h6)
          have HB1 : Hid (Below w.heap.size w w1) := Lib.hid (below_call HBa.out (grown_none h7))
          have HX1 : Hid (Blk w1 w.heap.size 50 [.int .u32 i, .int .u32 b]) := Lib.hid (HXa.out.call (grown_none h7))
          rw [← hL1] at HP
          clear h6 h7 HBa HXa HSa HCk HKm hL1
          have c0 := ((HCl.out k hlt).below HB1.out hbl).xt.1
          rw [← HXB.out] at c0
          have y0 : w1.cell? ⟨w.heap.size, 0, none⟩ = some (.int .u32 i) := HX1.out.cell 0
          clear hdq hpq
          go_quiet (fail)
          go_upto_region 8 with (fail)
          refine wp_named ?_; intro w2 hw2
          obtain ⟨M, hM⟩ : ∃ M, M = b := ⟨_, rfl⟩
          have HB2 : Hid (Below w.heap.size w w2) := Lib.hid (by rw [hw2]; exact below_drew HB1.out _)
          have HX2 : Hid (Blk w2 w.heap.size 50 [.int .u32 i, .int .u32 M]) := Lib.hid (by rw [hw2, hM]; exact HX1.out.drewN _)
          have HO2 : Hid (OwnX w2 (w.heap.size + 1) v1 L1) := Lib.hid (by rw [hw2]; exact row_below HO1.out (below_drewN _ _))
          obtain ⟨E, hE⟩ : ∃ E, E = insX i b l := ⟨_, rfl⟩
          rw [← hE, ← hM] at HP
          rw [hE] at HP
          clear c0 y0 hw2 HB1 HX1 HO1 hM hE
          have HBx : Hid (w.heap.size + 1 ≤ (w2.alloc (.cells #[.int .u32 i, .int .u32 M] 50)).heap.size) := Lib.hid (by have := (below_box HB2.out (.cells #[.int .u32 i, .int .u32 M] 50)).size; have := HX2.out.lt; simp; omega)
          have HK3 : Hid (L1.length + 1 ≤ maxLen ∧ (L1.length + 1) * 8 ≤ 140737488355328) := Lib.hid (by rw [HLk.out]; unfold maxLen; omega)
          have x0 : w2.cell? ⟨w.heap.size, 0, none⟩ = some (.int .u32 i) := HX2.out.cell 0
          have x1 : w2.cell? ⟨w.heap.size, 1, none⟩ = some (.int .u32 M) := HX2.out.cell 1
          go_upto_region 9 with (at_builtin; (refine wpList_append_own _ rfl _ _ 23 rfl (w.heap.size + 1) 50 i0 (.agg #[.int .u32 0, .int .u32 0]) 2 8 Try.underlying23 HI.out.1 HI.out.2.1 HI.out.2.2.1 HI.out.2.2.2 rfl (by decide) v1 L1.length _ rfl (World.ownsRow.alloc HO2.out _) ⟨w2.heap.size, 0, none⟩ 1 1 [.int .u32 i, .int .u32 M] rfl rfl (new2x _ _ _) (one2 _ _) HK3.out.1 HK3.out.2 HBx.out ?_); intro v2 w3 h6 h7 _)
          have HB3 : Hid (Below w.heap.size w w3) := Lib.hid ((below_box HB2.out _).grown h7 (below_box HB2.out _).size (fun q hq => by have := (World.ownsRow.lt HO2.out q hq).1; omega))
          obtain ⟨L2, hL2⟩ : ∃ L2, L2 = L1 ++ [⟨i, M⟩] := ⟨_, rfl⟩
          have HO3 : Hid (OwnX w3 (w.heap.size + 1) v2 L2) := Lib.hid (by rw [hL2]; exact OwnX.more h6)
          have HLk2 : Hid (L2.length = k + 1) := Lib.hid (by rw [hL2, List.length_append, HLk.out]; rfl)
          have HS3 : Hid (w.heap.size + 1 ≤ w3.heap.size) := Lib.hid (Nat.le_trans HBx.out h7.size)
          have HL2 := Lib.hid hL2
          clear h6 h7 HO2 HB2 HX2 HBx HK3 hL2 x0 x1
          obtain ⟨L3, hL3⟩ : ∃ L3, L3 = l.drop (k) := ⟨_, rfl⟩
          have HLr : Hid (L3.length = n - (k)) := Lib.hid (by rw [hL3, List.length_drop, ← HN.out])
          have HP3 : Hid (insX i b l = L2 ++ L3) := Lib.hid (by rw [HP.out, HL2.out, hL3])
          have HNw : Hid (∀ j u, (L3.flatMap xtCells)[j]? = some u → w3.cell? ((⟨bb, o + (k) * 2, none⟩ : Addr).add j) = some u) := Lib.hid (by
            rw [hL3]
            exact xt_cell HN.out (fun j hj => (HCl.out j hj).below HB3.out hbl) (k) (by omega))
          have HK4 : Hid (L2.length + (n - (k)) ≤ maxLen ∧ (L2.length + (n - (k))) * 8 ≤ 140737488355328) := Lib.hid (by rw [HLk2.out]; unfold maxLen; omega)
          clear hL3
          go_wp2_with (at_builtin; (refine wpList_append_own _ rfl _ _ 23 rfl (w.heap.size + 1) 50 i0 (.agg #[.int .u32 0, .int .u32 0]) 2 8 Try.underlying23 HI.out.1 HI.out.2.1 HI.out.2.2.1 HI.out.2.2.2 rfl (by decide) v2 L2.length _ rfl HO3.out ⟨bb, o + (k) * 2, none⟩ (n - (k)) (c - (k)) (L3.flatMap xtCells) rfl (by rw [fm_len xt_len, HLr.out]) HNw.out (xts_one _) HK4.out.1 HK4.out.2 HS3.out ?_); intro v3 w4 h6 h7 _)
          have HB4 : Hid (Below w.heap.size w w4) := Lib.hid (HB3.out.grown h7 HB3.out.size (fun q hq => by have := (World.ownsRow.lt HO3.out q hq).1; omega))
          have HO4 : Hid (OwnX w4 (w.heap.size + 1) v3 (insX i b l)) := Lib.hid (by rw [HP3.out]; exact OwnX.join HLr.out.symm h6)
          clear h6 h7
          go_wp2_with fail
          go_ret
          exact ⟨_, rfl, row_base HO4.out (Nat.le_succ _), HB4.out⟩
    · have hd : decide (k < n) = false := decide_eq_false hlt
      have hkn : k ≤ n := by omega
      have HKN : Hid (n - k = 0) := Lib.hid (by omega)
      have hput := insX_at i b l k (by rw [← HN.out]; omega) HK.out (fun h => absurd h (by rw [← HN.out]; omega))
      have HP : Hid (insX i b l = (l.take k ++ [⟨i, b⟩]) ++ l.drop k) := Lib.hid (by rw [hput, if_neg (fun h => by rw [← HN.out] at h; omega)]; simp)
      clear hput HK
      have HKN2 : Hid (n = k) := Lib.hid (by omega)
      clear hlt
      go_upto_region 2 with (fail)
      go_quiet (fail)
      by_cases hck : c = k
      · have hck2 : k = c := hck.symm
        clear hck
        subst hck2
        obtain rfl : n = k := by omega
        go_upto_region 4 with (fail)
        refine wp_named ?_; intro wa hwa
        have HBa : Hid (Below w.heap.size w wa) := Lib.hid (by rw [hwa]; exact below_drew HB.out _)
        have HXa : Hid (Blk wa w.heap.size 50 [.int .u32 i, .int .u32 b]) := Lib.hid (by rw [hwa]; exact HX.out.drewN _)
        have HSa : Hid (w.heap.size + 1 ≤ wa.heap.size) := Lib.hid (by rw [hwa]; exact HS.out)
        have HCk : Hid (SlC wa (.slice (some ⟨bb, o, none⟩) n n) n 2 (fun j => xtCells (l.getD j Xt.nought))) := Lib.hid ⟨_, _, rfl, fun _ => ⟨bb, o, rfl, Nat.lt_of_lt_of_le hbl HBa.out.size, fun j hj => (HCl.out j (by omega)).below HBa.out hbl⟩⟩
        have HKm : Hid (n ≤ maxLen ∧ n * 8 ≤ 140737488355328) := Lib.hid (by unfold maxLen; omega)
        clear y0
        clear hwa HB HX HS
        go_upto_region 5 with (at_builtin; refine wpList_append_all rfl _ _ 23 rfl (w.heap.size + 1) 50 i0 (.agg #[.int .u32 0, .int .u32 0]) 2 8 Try.underlying23 HI.out.1 HI.out.2.1 HI.out.2.2.1 HI.out.2.2.2 rfl (by decide) rfl (.slice (some ⟨bb, o, none⟩) n n) n (fun j => xtCells (l.getD j Xt.nought)) rfl HCk.out (fun _ _ => rfl) (fun _ _ u hu => xt_one1 _ u hu) HKm.out.1 HKm.out.2 HSa.out ?_; intro v1 w1 h6 h7)
        obtain ⟨L1, hL1⟩ : ∃ L1, L1 = l.take n := ⟨_, rfl⟩
        have HLk : Hid (L1.length = n) := Lib.hid (by rw [hL1, List.length_take, ← HN.out]; omega)
        have HO1 : Hid (OwnX w1 (w.heap.size + 1) v1 L1) := Lib.hid (by
          unfold OwnX
          rw [HLk.out, hL1, ← flat_take xtCells Xt.nought l n (by rw [← HN.out]; omega)]
          exact h6)
        have HB1 : Hid (Below w.heap.size w w1) := Lib.hid (below_call HBa.out (grown_none h7))
        have HX1 : Hid (Blk w1 w.heap.size 50 [.int .u32 i, .int .u32 b]) := Lib.hid (HXa.out.call (grown_none h7))
        rw [← hL1] at HP
        clear h6 h7 HBa HXa HSa HCk HKm hL1
        go_quiet (fail)
        go_upto_region 8 with (fail)
        refine wp_named ?_; intro w2 hw2
        obtain ⟨M, hM⟩ : ∃ M, M = b := ⟨_, rfl⟩
        have HB2 : Hid (Below w.heap.size w w2) := Lib.hid (by rw [hw2]; exact below_drew HB1.out _)
        have HX2 : Hid (Blk w2 w.heap.size 50 [.int .u32 i, .int .u32 M]) := Lib.hid (by rw [hw2, hM]; exact HX1.out.drewN _)
        have HO2 : Hid (OwnX w2 (w.heap.size + 1) v1 L1) := Lib.hid (by rw [hw2]; exact row_below HO1.out (below_drewN _ _))
        obtain ⟨E, hE⟩ : ∃ E, E = insX i b l := ⟨_, rfl⟩
        rw [← hE, ← hM] at HP
        rw [hE] at HP
        clear hw2 HB1 HX1 HO1 hM hE
        have HBx : Hid (w.heap.size + 1 ≤ (w2.alloc (.cells #[.int .u32 i, .int .u32 M] 50)).heap.size) := Lib.hid (by have := (below_box HB2.out (.cells #[.int .u32 i, .int .u32 M] 50)).size; have := HX2.out.lt; simp; omega)
        have HK3 : Hid (L1.length + 1 ≤ maxLen ∧ (L1.length + 1) * 8 ≤ 140737488355328) := Lib.hid (by rw [HLk.out]; unfold maxLen; omega)
        have x0 : w2.cell? ⟨w.heap.size, 0, none⟩ = some (.int .u32 i) := HX2.out.cell 0
        have x1 : w2.cell? ⟨w.heap.size, 1, none⟩ = some (.int .u32 M) := HX2.out.cell 1
        go_upto_region 9 with (at_builtin; (refine wpList_append_own _ rfl _ _ 23 rfl (w.heap.size + 1) 50 i0 (.agg #[.int .u32 0, .int .u32 0]) 2 8 Try.underlying23 HI.out.1 HI.out.2.1 HI.out.2.2.1 HI.out.2.2.2 rfl (by decide) v1 L1.length _ rfl (World.ownsRow.alloc HO2.out _) ⟨w2.heap.size, 0, none⟩ 1 1 [.int .u32 i, .int .u32 M] rfl rfl (new2x _ _ _) (one2 _ _) HK3.out.1 HK3.out.2 HBx.out ?_); intro v2 w3 h6 h7 _)
        have HB3 : Hid (Below w.heap.size w w3) := Lib.hid ((below_box HB2.out _).grown h7 (below_box HB2.out _).size (fun q hq => by have := (World.ownsRow.lt HO2.out q hq).1; omega))
        obtain ⟨L2, hL2⟩ : ∃ L2, L2 = L1 ++ [⟨i, M⟩] := ⟨_, rfl⟩
        have HO3 : Hid (OwnX w3 (w.heap.size + 1) v2 L2) := Lib.hid (by rw [hL2]; exact OwnX.more h6)
        have HLk2 : Hid (L2.length = n + 1) := Lib.hid (by rw [hL2, List.length_append, HLk.out]; rfl)
        have HS3 : Hid (w.heap.size + 1 ≤ w3.heap.size) := Lib.hid (Nat.le_trans HBx.out h7.size)
        have HL2 := Lib.hid hL2
        clear h6 h7 HO2 HB2 HX2 HBx HK3 hL2 x0 x1
        obtain ⟨L3, hL3⟩ : ∃ L3, L3 = l.drop (n) := ⟨_, rfl⟩
        have HLr : Hid (L3.length = 0) := Lib.hid (by rw [hL3, List.length_drop, ← HN.out]; omega)
        have HP3 : Hid (insX i b l = L2 ++ L3) := Lib.hid (by rw [HP.out, HL2.out, hL3])
        have HNw : Hid (∀ j u, (L3.flatMap xtCells)[j]? = some u → w3.cell? ((⟨bb, o + (n) * 2, none⟩ : Addr).add j) = some u) := Lib.hid (by
          rw [hL3]
          exact xt_cell HN.out (fun j hj => (HCl.out j hj).below HB3.out hbl) (n) (by omega))
        have HK4 : Hid (L2.length + (0) ≤ maxLen ∧ (L2.length + (0)) * 8 ≤ 140737488355328) := Lib.hid (by rw [HLk2.out]; unfold maxLen; omega)
        clear hL3
        go_wp2_with (at_builtin; (refine wpList_append_own _ rfl _ _ 23 rfl (w.heap.size + 1) 50 i0 (.agg #[.int .u32 0, .int .u32 0]) 2 8 Try.underlying23 HI.out.1 HI.out.2.1 HI.out.2.2.1 HI.out.2.2.2 rfl (by decide) v2 L2.length _ rfl HO3.out _ (0) _ (L3.flatMap xtCells) rfl (by rw [fm_len xt_len, HLr.out]) (fun j u hu => absurd hu (by rw [List.eq_nil_of_length_eq_zero (HLr.out : L3.length = 0)]; simp)) (xts_one _) HK4.out.1 HK4.out.2 HS3.out ?_); intro v3 w4 h6 h7 _)
        have HB4 : Hid (Below w.heap.size w w4) := Lib.hid (HB3.out.grown h7 HB3.out.size (fun q hq => by have := (World.ownsRow.lt HO3.out q hq).1; omega))
        have HO4 : Hid (OwnX w4 (w.heap.size + 1) v3 (insX i b l)) := Lib.hid (by rw [HP3.out]; exact OwnX.join HLr.out.symm h6)
        clear h6 h7
        go_wp2_with fail
        go_ret
        exact ⟨_, rfl, row_base HO4.out (Nat.le_succ _), HB4.out⟩
      · have hck2 : ¬ (c = k) := hck
        go_upto_region 4 with (fail)
        refine wp_named ?_; intro wa hwa
        have HBa : Hid (Below w.heap.size w wa) := Lib.hid (by rw [hwa]; exact below_drew HB.out _)
        have HXa : Hid (Blk wa w.heap.size 50 [.int .u32 i, .int .u32 b]) := Lib.hid (by rw [hwa]; exact HX.out.drewN _)
        have HSa : Hid (w.heap.size + 1 ≤ wa.heap.size) := Lib.hid (by rw [hwa]; exact HS.out)
        have HCk : Hid (SlC wa (.slice (some ⟨bb, o, none⟩) k c) k 2 (fun j => xtCells (l.getD j Xt.nought))) := Lib.hid ⟨_, _, rfl, fun _ => ⟨bb, o, rfl, Nat.lt_of_lt_of_le hbl HBa.out.size, fun j hj => (HCl.out j (by omega)).below HBa.out hbl⟩⟩
        have HKm : Hid (k ≤ maxLen ∧ k * 8 ≤ 140737488355328) := Lib.hid (by unfold maxLen; omega)
        clear y0
        clear hwa HB HX HS
        go_upto_region 5 with (at_builtin; refine wpList_append_all rfl _ _ 23 rfl (w.heap.size + 1) 50 i0 (.agg #[.int .u32 0, .int .u32 0]) 2 8 Try.underlying23 HI.out.1 HI.out.2.1 HI.out.2.2.1 HI.out.2.2.2 rfl (by decide) rfl (.slice (some ⟨bb, o, none⟩) k c) k (fun j => xtCells (l.getD j Xt.nought)) rfl HCk.out (fun _ _ => rfl) (fun _ _ u hu => xt_one1 _ u hu) HKm.out.1 HKm.out.2 HSa.out ?_; intro v1 w1 h6 h7)
        obtain ⟨L1, hL1⟩ : ∃ L1, L1 = l.take k := ⟨_, rfl⟩
        have HLk : Hid (L1.length = k) := Lib.hid (by rw [hL1, List.length_take, ← HN.out]; omega)
        have HO1 : Hid (OwnX w1 (w.heap.size + 1) v1 L1) := Lib.hid (by
          unfold OwnX
          rw [HLk.out, hL1, ← flat_take xtCells Xt.nought l k (by rw [← HN.out]; omega)]
          exact h6)
        have HB1 : Hid (Below w.heap.size w w1) := Lib.hid (below_call HBa.out (grown_none h7))
        have HX1 : Hid (Blk w1 w.heap.size 50 [.int .u32 i, .int .u32 b]) := Lib.hid (HXa.out.call (grown_none h7))
        rw [← hL1] at HP
        clear h6 h7 HBa HXa HSa HCk HKm hL1
        go_quiet (fail)
        go_upto_region 8 with (fail)
        refine wp_named ?_; intro w2 hw2
        obtain ⟨M, hM⟩ : ∃ M, M = b := ⟨_, rfl⟩
        have HB2 : Hid (Below w.heap.size w w2) := Lib.hid (by rw [hw2]; exact below_drew HB1.out _)
        have HX2 : Hid (Blk w2 w.heap.size 50 [.int .u32 i, .int .u32 M]) := Lib.hid (by rw [hw2, hM]; exact HX1.out.drewN _)
        have HO2 : Hid (OwnX w2 (w.heap.size + 1) v1 L1) := Lib.hid (by rw [hw2]; exact row_below HO1.out (below_drewN _ _))
        obtain ⟨E, hE⟩ : ∃ E, E = insX i b l := ⟨_, rfl⟩
        rw [← hE, ← hM] at HP
        rw [hE] at HP
        clear hw2 HB1 HX1 HO1 hM hE
        have HBx : Hid (w.heap.size + 1 ≤ (w2.alloc (.cells #[.int .u32 i, .int .u32 M] 50)).heap.size) := Lib.hid (by have := (below_box HB2.out (.cells #[.int .u32 i, .int .u32 M] 50)).size; have := HX2.out.lt; simp; omega)
        have HK3 : Hid (L1.length + 1 ≤ maxLen ∧ (L1.length + 1) * 8 ≤ 140737488355328) := Lib.hid (by rw [HLk.out]; unfold maxLen; omega)
        have x0 : w2.cell? ⟨w.heap.size, 0, none⟩ = some (.int .u32 i) := HX2.out.cell 0
        have x1 : w2.cell? ⟨w.heap.size, 1, none⟩ = some (.int .u32 M) := HX2.out.cell 1
        go_upto_region 9 with (at_builtin; (refine wpList_append_own _ rfl _ _ 23 rfl (w.heap.size + 1) 50 i0 (.agg #[.int .u32 0, .int .u32 0]) 2 8 Try.underlying23 HI.out.1 HI.out.2.1 HI.out.2.2.1 HI.out.2.2.2 rfl (by decide) v1 L1.length _ rfl (World.ownsRow.alloc HO2.out _) ⟨w2.heap.size, 0, none⟩ 1 1 [.int .u32 i, .int .u32 M] rfl rfl (new2x _ _ _) (one2 _ _) HK3.out.1 HK3.out.2 HBx.out ?_); intro v2 w3 h6 h7 _)
        have HB3 : Hid (Below w.heap.size w w3) := Lib.hid ((below_box HB2.out _).grown h7 (below_box HB2.out _).size (fun q hq => by have := (World.ownsRow.lt HO2.out q hq).1; omega))
        obtain ⟨L2, hL2⟩ : ∃ L2, L2 = L1 ++ [⟨i, M⟩] := ⟨_, rfl⟩
        have HO3 : Hid (OwnX w3 (w.heap.size + 1) v2 L2) := Lib.hid (by rw [hL2]; exact OwnX.more h6)
        have HLk2 : Hid (L2.length = k + 1) := Lib.hid (by rw [hL2, List.length_append, HLk.out]; rfl)
        have HS3 : Hid (w.heap.size + 1 ≤ w3.heap.size) := Lib.hid (Nat.le_trans HBx.out h7.size)
        have HL2 := Lib.hid hL2
        clear h6 h7 HO2 HB2 HX2 HBx HK3 hL2 x0 x1
        obtain ⟨L3, hL3⟩ : ∃ L3, L3 = l.drop (k) := ⟨_, rfl⟩
        have HLr : Hid (L3.length = n - (k)) := Lib.hid (by rw [hL3, List.length_drop, ← HN.out])
        have HP3 : Hid (insX i b l = L2 ++ L3) := Lib.hid (by rw [HP.out, HL2.out, hL3])
        have HNw : Hid (∀ j u, (L3.flatMap xtCells)[j]? = some u → w3.cell? ((⟨bb, o + (k) * 2, none⟩ : Addr).add j) = some u) := Lib.hid (by
          rw [hL3]
          exact xt_cell HN.out (fun j hj => (HCl.out j hj).below HB3.out hbl) (k) (by omega))
        have HK4 : Hid (L2.length + (n - (k)) ≤ maxLen ∧ (L2.length + (n - (k))) * 8 ≤ 140737488355328) := Lib.hid (by rw [HLk2.out]; unfold maxLen; omega)
        clear hL3
        go_wp2_with (at_builtin; (refine wpList_append_own _ rfl _ _ 23 rfl (w.heap.size + 1) 50 i0 (.agg #[.int .u32 0, .int .u32 0]) 2 8 Try.underlying23 HI.out.1 HI.out.2.1 HI.out.2.2.1 HI.out.2.2.2 rfl (by decide) v2 L2.length _ rfl HO3.out ⟨bb, o + (k) * 2, none⟩ (n - (k)) (c - (k)) (L3.flatMap xtCells) rfl (by rw [fm_len xt_len, HLr.out]) HNw.out (xts_one _) HK4.out.1 HK4.out.2 HS3.out ?_); intro v3 w4 h6 h7 _)
        have HB4 : Hid (Below w.heap.size w w4) := Lib.hid (HB3.out.grown h7 HB3.out.size (fun q hq => by have := (World.ownsRow.lt HO3.out q hq).1; omega))
        have HO4 : Hid (OwnX w4 (w.heap.size + 1) v3 (insX i b l)) := Lib.hid (by rw [HP3.out]; exact OwnX.join HLr.out.symm h6)
        clear h6 h7
        go_wp2_with fail
        go_ret
        exact ⟨_, rfl, row_base HO4.out (Nat.le_succ _), HB4.out⟩

theorem rextent_any (v : Value) (l : List Xt) (hl : l.length ≤ 1048576) (hW : Wf v) (i b : Int) (hi0 : 0 ≤ i) (hi1 : i < 4294967296) (hb0 : 0 ≤ b) (hb1 : b < 4294967296) (w : World) (hA : XtsAt w v l) (hf : ∀ j, j < l.length → xtFits (l.getD j Xt.nought)) : Calls Try.prog 38 #[v, .agg #[.int .u32 i, .int .u32 b]] w (PutX w l i b) := by
  rcases Nat.eq_zero_or_pos l.length with h | h
  · have h0 : l = [] := List.eq_nil_of_length_eq_zero h
    subst h0
    obtain ⟨a, c, rfl, _⟩ := hA
    exact rextent_nil a c hW i b w
  · exact rextent_some v l h hl hW i b hi0 hi1 hb0 hb1 w hA hf
end Go.Proofs.Ytmfebmiigkmkbaa
