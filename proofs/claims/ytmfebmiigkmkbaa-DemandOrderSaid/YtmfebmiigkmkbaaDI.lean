/- slices.Insert of one element into a row of the call's own, at uint16 and at api.Extent. (written by mk_di.py) -/
import Derived.Test.YtmfebmiigkmkbaaDB
import Derived.Test.YtmfebmiigkmkbaaDG
import Derived.Laws.AppendOwnNone
set_option linter.unusedVariables false
set_option linter.unusedSimpArgs false
namespace Go.Proofs.Ytmfebmiigkmkbaa
open Go Go.RowKit Oj Dm

theorem infoU16 : (Try.prog.info? 51).map (fun i => (i.zero, i.size, i.bytes)) = some (some (.int .u16 0), 1, 2) := by kernel_rfl
theorem infoExt : (Try.prog.info? 50).map (fun i => (i.zero, i.size, i.bytes)) = some (some (.agg #[.int .u32 0, .int .u32 0]), 2, 8) := by kernel_rfl
theorem below_grown {B : Nat} {a b c : World} (h : Below B a b) {row : Option Nat} (h2 : b.grownBy c row) (hr : ∀ k, row = some k → B ≤ k) (hB : B ≤ b.heap.size) : Below B a c := h.grown h2 hB hr
theorem grown_trans {a b c : World} {row : Option Nat} (h : a.grownBy b row) (h2 : b.grownBy c row) : a.grownBy c row :=
  ⟨h2.os.trans h.os, h2.tape.trans h.tape, h2.output.trans h.output, Nat.le_trans h.size h2.size, fun k hk hne => (h2.block k (Nat.lt_of_lt_of_le hk h.size) hne).trans (h.block k hk hne)⟩
theorem grown_new {a b c : World} {row : Option Nat} (h : a.grownBy b row) {g : Nat} (hg : a.heap.size ≤ g) (h2 : b.grownBy c (some g)) : a.grownBy c row :=
  ⟨h2.os.trans h.os, h2.tape.trans h.tape, h2.output.trans h.output, Nat.le_trans h.size h2.size, fun k hk hne => (h2.block k (Nat.lt_of_lt_of_le hk h.size) (by simp; omega)).trans (h.block k hk hne)⟩
theorem grown_of_drew {w w2 : World} {row : Option Nat} (h : w.drew.grownBy w2 row) : w.grownBy w2 row := ⟨h.os, h.tape, h.output, h.size, h.block⟩
theorem blk_src {w : World} {g : Nat} {t : TypeId} {ys : List Value} (h : Blk w g t ys) : ∀ j u, ys[j]? = some u → w.cell? ((⟨g, 0, none⟩ : Addr).add j) = some u := by
  intro j u hu
  rw [Addr.add_mid, Nat.zero_add, h.cell j]
  exact hu
theorem row_src {w : World} {b : Nat} {t : TypeId} {cur : List Value} {x n : Nat} {xs : List Value} (h : w.heap[b]? = some (.cells cur.toArray t (0, 0))) (hx : cur.take n = xs) : ∀ j u, (xs.drop x)[j]? = some u → w.cell? ((⟨b, x, none⟩ : Addr).add j) = some u := by
  intro j u hu
  rw [Addr.add_mid, cell_of_row _ _ _ _ _ _ h]
  rw [← hx, List.getElem?_drop, List.getElem?_take] at hu
  split at hu
  · simpa using hu
  · cases hu

set_option maxHeartbeats 8000000 in
set_option maxRecDepth 100000 in
/-- At the end. -/
theorem insP_end (B : Nat) (v : Value) (n g : Nat) (xs ys : List Value) (w : World) (hown : w.ownsRow B 51 1 v n xs) (hn : n ≤ 1048576) (hg : Blk w g 51 ys) (hyl : ys.length = 1) (h1y : ∀ u ∈ ys, u.oneCell' = true) (hB : B ≤ w.heap.size) :
    Calls Try.prog 51 #[v, .int .i64 (n : Int), .slice (some ⟨g, 0, none⟩) 1 1] w fun e w' => ∃ v', e = .returned v' ∧ w'.ownsRow B 51 1 v' (n + 1) (xs ++ ys) ∧ w.grownBy w' v.ownBlock := by
  obtain ⟨i0, hi, hz0, hz1, hz2⟩ := info_parts infoU16
  have HO := Lib.hid hown
  have HG := Lib.hid hg
  have HI := Lib.hid (And.intro hi (And.intro hz0 (And.intro hz1 hz2)))
  have HY := Lib.hid (And.intro hyl h1y)
  have HBB := Lib.hid hB
  have hni : (n : Int) ≤ 1048576 := by omega
  have HK : Hid (n + 1 ≤ maxLen ∧ (n + 1) * 2 ≤ 140737488355328) := Lib.hid (by unfold maxLen; omega)
  rcases hown.2 with ⟨rfl, hn0⟩ | ⟨b, c, cur, rfl, _, _, hnc, hcm, _⟩
  · subst hn0
    clear hi hz0 hz1 hz2 hg hyl h1y hB hown hn
    go_enter Try.func51, Try.ntmps51
    go_wp2_with (at_builtin; (refine wpList_append_own _ rfl _ _ 24 rfl B 51 i0 (.int .u16 0) 1 2 Try.underlying24 HI.out.1 HI.out.2.1 HI.out.2.2.1 HI.out.2.2.2 rfl (by decide) _ _ _ rfl HO.out ⟨g, 0, none⟩ 1 1 ys rfl HY.out.1 (blk_src HG.out) HY.out.2 HK.out.1 HK.out.2 HBB.out ?_); intro v1 w1 h6 h7 _)
    have HA := Lib.hid h6
    have HC := Lib.hid h7
    clear h6 h7
    go_wp2_with fail
    go_ret
    exact ⟨_, rfl, HA.out, HC.out⟩
  · have hci : (n : Int) ≤ (c : Int) := by omega
    unfold maxLen at hcm
    have hc63 : (c : Int) ≤ 9223372036854775807 := by omega
    clear hi hz0 hz1 hz2 hg hyl h1y hB hown hn hcm
    by_cases hcn : c = n
    all_goals
      go_enter Try.func51, Try.ntmps51
      go_wp2_with (at_builtin; (refine wpList_append_own _ rfl _ _ 24 rfl B 51 i0 (.int .u16 0) 1 2 Try.underlying24 HI.out.1 HI.out.2.1 HI.out.2.2.1 HI.out.2.2.2 rfl (by decide) _ _ _ rfl HO.out ⟨g, 0, none⟩ 1 1 ys rfl HY.out.1 (blk_src HG.out) HY.out.2 HK.out.1 HK.out.2 HBB.out ?_); intro v1 w1 h6 h7 _)
      have HA := Lib.hid h6
      have HC := Lib.hid h7
      clear h6 h7
      go_wp2_with fail
      go_ret
      exact ⟨_, rfl, HA.out, HC.out⟩

set_option maxHeartbeats 8000000 in
set_option maxRecDepth 100000 in
/-- In place. -/
theorem insP_shift (B : Nat) (b c n k g : Nat) (xs ys cur : List Value) (w : World) (hcell : w.heap[b]? = some (.cells cur.toArray 51 (0, 0))) (hx : cur.take (n) = xs) (hxl : xs.length = n) (hcs : cur.length = c) (hBb : B ≤ b)
    (hk : k < n) (hn : n ≤ 1048576) (hroom : n + 1 ≤ c) (hcm : c ≤ maxLen) (hg : Blk w g 51 ys) (hyl : ys.length = 1) (hne : g ≠ b) (h1x : ∀ u ∈ xs, u.oneCell' = true) (h1y : ∀ u ∈ ys, u.oneCell' = true) :
    Calls Try.prog 51 #[.slice (some ⟨b, 0, none⟩) n c, .int .i64 (k : Int), .slice (some ⟨g, 0, none⟩) 1 1] w fun e w' => ∃ v', e = .returned v' ∧ w'.ownsRow B 51 1 v' (n + 1) (xs.take (k) ++ (ys ++ xs.drop (k))) ∧ w.grownBy w' (some b) := by
  have hsz : (Try.prog.info? 51).map (·.size) = some 1 := by
    obtain ⟨i0, hi, hz0, hz1, hz2⟩ := info_parts infoU16
    rw [hi]; simp [hz1]
  have HSZ := Lib.hid hsz
  have hcm2 := hcm
  unfold maxLen at hcm2
  have hb2 : ¬ (c = k + 1) := by omega
  have hb4 : ¬ (c = k) := by omega
  have hki : (k : Int) < (n : Int) := by omega
  have hne2 : ¬ ((k : Int) = (n : Int)) := by omega
  have hni : (n : Int) ≤ 1048576 := by omega
  have hri : (n : Int) + 1 ≤ (c : Int) := by omega
  have hc63 : (c : Int) ≤ 9223372036854775807 := by omega
  have hov : ∀ lb cb, (callFunc 54 #[.slice (some ⟨g, 0, none⟩) 1 1, .slice (some ⟨b, k + 1, none⟩) lb cb]).run Try.prog w = .ok (.value (.bool false)) w := fun lb cb => by
    rw [run_callFunc_extern Try.func54 (by kernel_rfl) (by kernel_rfl) (by kernel_rfl) (e := Extern.SlicesOverlaps.overlaps #[24, 24] #[4]) (by kernel_rfl),
      Lib.run_overlaps_apart w 24 4 51 Try.underlying24 1 (fun W => by kernel_rfl) ⟨g, 0, none⟩ ⟨b, k + 1, none⟩ 1 1 lb cb hne 51 51 ys.length cur.length
        (by unfold Blk at hg; simp [World.shape?, hg]) (by simp [World.shape?, hcell]) (by rw [hcs]; omega) (hg.frozen 0) (hg.frozen _)]
    rfl
  have HOV := Lib.hid hov
  have HCell := Lib.hid hcell
  have HG := Lib.hid hg
  have HH := Lib.hid (And.intro hx (And.intro hxl (And.intro hcs (And.intro hyl (And.intro h1x (And.intro h1y (And.intro hne (And.intro hBb hcm))))))))
  have HD : Hid ((xs.drop (k)).length = (n - k) * 1) := Lib.hid (by rw [List.length_drop, hxl]; omega)
  obtain ⟨D, hD⟩ : ∃ D, D = xs.drop (k) := ⟨_, rfl⟩
  have HDD := Lib.hid hD
  have hw1 : IntKind.i64.wrap ((k : Int) + 1) = (k : Int) + 1 := by rw [IntKind.wrap_i64]; omega
  have hbb1 : (0 : Int) ≤ (k : Int) + 1 := by omega
  have htn : ((k : Int) + 1).toNat = k + 1 := by omega
  have hb3 : (k : Int) ≤ (n : Int) + 1 := by omega
  have hb5 : (k : Int) + 1 ≤ (n : Int) + 1 := by omega
  have hnb5 : k + 1 ≤ n + 1 := by omega
  clear hsz hcell hx hxl hcs hBb hn hg hyl hne h1x h1y hcm hcm2 hD
  go_enter Try.func51, Try.ntmps51
  go_wp2_with (simp only [hov])
  clear hov
  go_region_law ((refine step_copyZ rfl (.tmp 73) (.tmp 76) 24 24 rfl 51 1 Try.underlying24 HSZ.out b (k + 1) (n - k) (c - (k + 1)) ⟨b, k, none⟩ (n + 1 - k) (c - k) (by simp [Act.eval, Act.put]) (by simp [Act.eval, Act.put]) cur 51 HCell.out D (n - k) (by simp only [Nat.min_def]; split <;> omega) (by rw [HDD.out]; exact HD.out) (by rw [HDD.out]; exact row_src HCell.out HH.out.1) (by rw [HDD.out, HD.out, HH.out.2.2.1]; omega) (by rw [HDD.out]; exact fun u hu => HH.out.2.2.2.2.1 u (List.mem_of_mem_drop hu)) ?_); intro w2 h6 h7)
  have HC2 := Lib.hid h6.out
  have HR2 := Lib.hid h7
  have HG2 : Hid (Blk w2 g 51 ys) := Lib.hid (Blk.grown (w := w.drew) (row := some b) HG.out.drew HR2.out (by simpa using HH.out.2.2.2.2.2.2.1))
  clear h6 h7
  go_wp2_with ((refine wpList_copyZ rfl (.tmp 80) (.tmp 81) 24 24 rfl 51 1 Try.underlying24 HSZ.out b (k) (n + 1 - k) (c - k) ⟨g, 0, none⟩ 1 1 rfl rfl (splice cur (k + 1) D) 51 HC2.out ys 1 (by simp only [Nat.min_def]; split <;> omega) (HH.out.2.2.2.1.trans (by decide)) (blk_src HG2.out) (by rw [HH.out.2.2.2.1, length_splice _ _ _ (by rw [HDD.out, HD.out, HH.out.2.2.1]; omega), HH.out.2.2.1]; omega) HH.out.2.2.2.2.2.1 ?_); intro w3 h6 h7)
  have HC3 := Lib.hid h6.out
  have HR3 := Lib.hid h7
  clear h6 h7
  go_wp2_with fail
  go_ret
  have hS := splice_shift cur xs ys (k) (n) 1 HH.out.1 HH.out.2.1 (by omega) (by rw [HH.out.2.2.1]; omega) HH.out.2.2.2.1
  have e1 : (k + 1) = (k) + 1 := by omega
  have e2 : (n + 1) * 1 = (n) + 1 := by omega
  have hC3 := HC3.out
  rw [HDD.out, e1] at hC3
  refine ⟨_, rfl, ⟨?_, .inr ⟨b, c, _, rfl, HH.out.2.2.2.2.2.2.2.1, hC3, by omega, HH.out.2.2.2.2.2.2.2.2, ?_, ?_⟩⟩, grown_trans (a := w) (b := w2) (grown_of_drew HR2.out) HR3.out⟩
  · have h1 := HH.out.2.1
    have h2 := HH.out.2.2.2.1
    simp only [List.length_append, List.length_take, List.length_drop]
    omega
  · simp only [List.size_toArray]
    rw [hS.1, HH.out.2.2.1]
    try omega
  · simp only []
    rw [e2]
    exact hS.2

set_option maxHeartbeats 8000000 in
set_option maxRecDepth 100000 in
/-- Into a new row. -/
theorem insP_grow (B : Nat) (b n k g : Nat) (xs ys cur : List Value) (w : World) (hcell : w.heap[b]? = some (.cells cur.toArray 51 (0, 0))) (hx : cur.take (n) = xs) (hxl : xs.length = n) (hB : B ≤ w.heap.size)
    (hk : k < n) (hn : n ≤ 1048576) (hg : Blk w g 51 ys) (hyl : ys.length = 1) (h1x : ∀ u ∈ xs, u.oneCell' = true) (h1y : ∀ u ∈ ys, u.oneCell' = true) :
    Calls Try.prog 51 #[.slice (some ⟨b, 0, none⟩) n n, .int .i64 (k : Int), .slice (some ⟨g, 0, none⟩) 1 1] w fun e w' => ∃ v', e = .returned v' ∧ w'.ownsRow B 51 1 v' (n + 1) (xs.take (k) ++ (ys ++ xs.drop (k))) ∧ w.grownBy w' (some b) := by
  obtain ⟨i0, hi, hz0, hzs, hzb⟩ := info_parts infoU16
  have hsz : (Try.prog.info? 51).map (·.size) = some 1 := by rw [hi]; simp [hzs]
  have HSZ := Lib.hid hsz
  have hbl : b < w.heap.size := (Array.getElem?_eq_some_iff.1 hcell).1
  have hgl := hg.lt
  obtain ⟨N, hN⟩ : ∃ N, N = w.heap.size := ⟨_, rfl⟩
  have hold : (Builtin.firstCells i0.size k (.slice (some ⟨b, 0, none⟩) k n)).run Try.prog w.drew = .ok (xs.take (k)).toArray w.drew := by
    rw [hzs]
    exact run_firstCells_some w.drew 1 k ⟨b, 0, none⟩ k n (xs.take (k)) (by rw [List.length_take, hxl]; omega) (fun j u hj => by
      refine row_src (x := 0) (w := w.drew) hcell hx j u ?_
      rw [List.drop_zero]
      rw [List.getElem?_take] at hj
      split at hj
      · exact hj
      · cases hj)
  obtain ⟨G, hG⟩ : ∃ G, G = grownCap w (n + 1) n 51 := ⟨_, rfl⟩
  have hGn : n + 1 ≤ G := by rw [hG]; exact grownCap_ge w _ _ _
  have hG63 : G ≤ 9223372036854775807 := by
    have := grownCap_le_maxLen w (n + 1) n 51 (by unfold maxLen; omega)
    rw [← hG] at this
    unfold maxLen at this
    omega
  obtain ⟨R0, hR0⟩ : ∃ R0 : List Value, R0 = xs.take (k) ++ ((Builtin.zeroCells (.int .u16 0 : Value).cells (n + 1 - k)).toList ++ (Builtin.zeroCells (.int .u16 0 : Value).cells (G - (n + 1))).toList) := ⟨_, rfl⟩
  have hzc : ∀ q, (Builtin.zeroCells (.int .u16 0 : Value).cells q).toList.length = q * 1 := fun q => by
    rw [Array.length_toList, size_zeroCells]
    rfl
  have hRl : R0.length = G * 1 := by
    rw [hR0, List.length_append, List.length_append, hzc, hzc, List.length_take, hxl]
    omega
  have hRt : R0.take (k) = xs.take (k) := by
    rw [hR0, List.take_append_of_le_length (by rw [List.length_take, hxl]; omega), List.take_take, Nat.min_self]
  have hrz : ∀ ty, (Builtin.append_ #[24, 3] ty #[.slice (some ⟨b, 0, none⟩) k n, .int .i64 ((n : Int) + 1 - (k : Int))]).run Try.prog w =
      .ok (.slice (some ⟨N, 0, none⟩) (n + 1) G) (w.drew.alloc (.cells R0.toArray 51)) := fun ty => by
    have h := Lib.run_append_grow_zeros w 24 3 ty 51 i0 (.int .u16 0) .i64 .i64 Try.underlying24 Try.underlying3 hi hz0 (some ⟨b, 0, none⟩) k n (xs.take (k)) hold (n + 1 - k) (by omega) (by omega) (by omega) (by omega) (by rw [hzb]; omega) (by rw [hzb]; exact growslice_fits (by omega) (by omega))
    have e1 : k + (n + 1 - k) = n + 1 := by omega
    have e2 : (((n + 1 - k : Nat)) : Int) = (n : Int) + 1 - (k : Int) := by omega
    rw [e1, e2, ← hG, ← hN] at h
    rw [h]
    congr 3
    rw [hR0]
    simp
  have HRZ := Lib.hid hrz
  have HCell := Lib.hid hcell
  have HG := Lib.hid hg
  have HH := Lib.hid (And.intro hx (And.intro hxl (And.intro hRl (And.intro hyl (And.intro h1x (And.intro h1y (And.intro hRt (And.intro hB hN))))))))
  have HG63 : Hid (G ≤ maxLen) := Lib.hid (by unfold maxLen; omega)
  have HD : Hid ((xs.drop (k)).length = (n - k) * 1) := Lib.hid (by rw [List.length_drop, hxl]; omega)
  obtain ⟨D, hD⟩ : ∃ D, D = xs.drop (k) := ⟨_, rfl⟩
  have HDD := Lib.hid hD
  have HR0 : Hid (Blk ((w.alloc (.cells R0.toArray 51)).drew) N 51 R0) := Lib.hid (by rw [hN]; exact Blk.new w.drew _ _)
  have HB1 : Hid (w.grownBy ((w.alloc (.cells R0.toArray 51)).drew) (some b)) := Lib.hid (grown_of_drew (World.grownBy_alloc w.drew _ _))
  have HG1 : Hid (Blk ((w.alloc (.cells R0.toArray 51)).drew) g 51 ys) := Lib.hid (Blk.alloc (w := w.drew) hg _)
  have HC1 : Hid (Blk ((w.alloc (.cells R0.toArray 51)).drew) b 51 cur) := Lib.hid (Blk.alloc (w := w.drew) (show Blk w.drew b 51 cur from hcell) _)
  have hNb : ¬ (b = N) := by omega
  have hNg : ¬ (g = N) := by omega
  have hki : (k : Int) < (n : Int) := by omega
  have hne2 : ¬ ((k : Int) = (n : Int)) := by omega
  have hni : (n : Int) ≤ 1048576 := by omega
  have hGi : (n : Int) + 1 ≤ (G : Int) := by omega
  have hG63i : (G : Int) ≤ 9223372036854775807 := by omega
  have hci : ¬ (n = k) := by omega
  have hGk : ¬ (G = k) := by omega
  have hGk1 : ¬ (G = k + 1) := by omega
  have hkn : k ≤ n := by omega
  have hw1 : IntKind.i64.wrap ((k : Int) + 1) = (k : Int) + 1 := by rw [IntKind.wrap_i64]; omega
  have hbb1 : (0 : Int) ≤ (k : Int) + 1 := by omega
  have htn : ((k : Int) + 1).toNat = k + 1 := by omega
  have hb5 : (k : Int) + 1 ≤ (n : Int) + 1 := by omega
  have hb3 : (k : Int) ≤ (n : Int) + 1 := by omega
  clear hi hz0 hzs hzb hsz hbl hgl hN hold hG hGn hG63 hR0 hzc hRl hRt hcell hx hxl hn hg hyl h1x h1y hB hD hrz
  go_enter Try.func51, Try.ntmps51
  go_upto_region 10 with (at_builtin; refine Lib.wpList_append_run _ rfl _ _ _ _ rfl _ _ rfl rfl _ _ (HRZ.out _) ?_)
  obtain ⟨w1, hw1'⟩ : ∃ w1, w1 = (w.alloc (.cells R0.toArray 51)).drew := ⟨_, rfl⟩
  rw [← hw1'] at HR0 HB1 HG1 HC1 ⊢
  clear hw1'
  go_wp2_with ((refine wpList_copyZ rfl (.tmp 43) (.tmp 44) 24 24 rfl 51 1 Try.underlying24 HSZ.out N (k) (n + 1 - k) (G - k) ⟨g, 0, none⟩ 1 1 rfl rfl R0 51 HR0.out ys 1 (by simp only [Nat.min_def]; split <;> omega) (HH.out.2.2.2.1.trans (by decide)) (blk_src HG1.out) (by rw [HH.out.2.2.2.1, HH.out.2.2.1]; omega) HH.out.2.2.2.2.2.1 ?_); intro w2 h6 h7)
  have HC2 := Lib.hid h6.out
  have HR2 := Lib.hid h7
  have HX2 : Hid (Blk w2 b 51 cur) := Lib.hid (Blk.grown (row := some N) HC1.out HR2.out (by simpa using hNb))
  clear h6 h7
  go_wp2_with fail
  go_region_law ((refine step_copyZ rfl (.tmp 50) (.tmp 53) 24 24 rfl 51 1 Try.underlying24 HSZ.out N (k + 1) (n - k) (G - (k + 1)) ⟨b, k, none⟩ (n - k) (n - k) (by simp [Act.eval, Act.put]) (by simp [Act.eval, Act.put]) (splice R0 (k) ys) 51 HC2.out D (n - k) (by simp only [Nat.min_def]; split <;> omega) (by rw [HDD.out]; exact HD.out) (by rw [HDD.out]; exact row_src (w := w2.drew) HX2.out HH.out.1) (by rw [HDD.out, HD.out, length_splice _ _ _ (by rw [HH.out.2.2.2.1, HH.out.2.2.1]; omega), HH.out.2.2.1]; omega) (by rw [HDD.out]; exact fun u hu => HH.out.2.2.2.2.1 u (List.mem_of_mem_drop hu)) ?_); intro w3 h6 h7)
  have HC3 := Lib.hid h6.out
  have HR3 := Lib.hid h7
  clear h6 h7
  go_wp2_with fail
  go_ret
  have hS := splice_fill R0 xs ys (k) (n) 1 HH.out.2.2.2.2.2.2.1 HH.out.2.1 (by omega) (by rw [HH.out.2.2.1]; omega) HH.out.2.2.2.1
  have e1 : (k + 1) = (k) + 1 := by omega
  have e2 : (n + 1) * 1 = (n) + 1 := by omega
  have hC3 := HC3.out
  rw [HDD.out, e1] at hC3
  refine ⟨_, rfl, ⟨?_, .inr ⟨N, G, _, rfl, by rw [HH.out.2.2.2.2.2.2.2.2]; exact HH.out.2.2.2.2.2.2.2.1, hC3, by omega, HG63.out, ?_, ?_⟩⟩, grown_new (grown_new HB1.out (by rw [HH.out.2.2.2.2.2.2.2.2]; exact Nat.le_refl _) HR2.out) (by rw [HH.out.2.2.2.2.2.2.2.2]; exact Nat.le_refl _) (grown_of_drew HR3.out)⟩
  · have h1 := HH.out.2.1
    have h2 := HH.out.2.2.2.1
    simp only [List.length_append, List.length_take, List.length_drop]
    omega
  · simp only [List.size_toArray]
    rw [hS.1, HH.out.2.2.1]
  · simp only []
    rw [e2]
    exact hS.2

/-- One element put in where it belongs. -/
theorem insP_any (B : Nat) (v : Value) (n k g : Nat) (xs ys : List Value) (w : World) (hown : w.ownsRow B 51 1 v n xs) (hk : k ≤ n) (hn : n ≤ 1048576) (hg : Blk w g 51 ys) (hyl : ys.length = 1) (hne : v.ownBlock ≠ some g) (h1x : ∀ u ∈ xs, u.oneCell' = true) (h1y : ∀ u ∈ ys, u.oneCell' = true) (hB : B ≤ w.heap.size) :
    Calls Try.prog 51 #[v, .int .i64 (k : Int), .slice (some ⟨g, 0, none⟩) 1 1] w fun e w' => ∃ v', e = .returned v' ∧ w'.ownsRow B 51 1 v' (n + 1) (xs.take (k) ++ (ys ++ xs.drop (k))) ∧ w.grownBy w' v.ownBlock := by
  have hxl : xs.length = n := by have := hown.1; omega
  by_cases hkn : k = n
  · subst hkn
    rw [List.take_of_length_le (by omega), List.drop_of_length_le (by omega), List.append_nil]
    exact insP_end B v k g xs ys w hown hn hg hyl h1y hB
  · rcases hown.2 with ⟨rfl, hn0⟩ | ⟨b, c, cur, rfl, hBb, hcell, hnc, hcm, hcs, htk⟩
    · omega
    · have hx : cur.toList.take (n) = xs := by
        rw [← htk]
        first | done | (congr 1; omega)
      have hcell' : w.heap[b]? = some (.cells cur.toList.toArray 51 (0, 0)) := by rw [Array.toArray_toList]; exact hcell
      by_cases hroom : n + 1 ≤ c
      · exact insP_shift B b c n k g xs ys cur.toList w hcell' hx hxl (by have h9 := hcs; rw [Array.length_toList]; omega) hBb (by omega) hn hroom hcm hg hyl (fun h => hne (by rw [h]; rfl)) h1x h1y
      · obtain rfl : c = n := by omega
        exact insP_grow B b c k g xs ys cur.toList w hcell' hx hxl hB (by omega) hn hg hyl h1x h1y

set_option maxHeartbeats 8000000 in
set_option maxRecDepth 100000 in
/-- At the end. -/
theorem insX_end (B : Nat) (v : Value) (n g : Nat) (xs ys : List Value) (w : World) (hown : w.ownsRow B 50 2 v n xs) (hn : n ≤ 1048576) (hg : Blk w g 50 ys) (hyl : ys.length = 2) (h1y : ∀ u ∈ ys, u.oneCell' = true) (hB : B ≤ w.heap.size) :
    Calls Try.prog 50 #[v, .int .i64 (n : Int), .slice (some ⟨g, 0, none⟩) 1 1] w fun e w' => ∃ v', e = .returned v' ∧ w'.ownsRow B 50 2 v' (n + 1) (xs ++ ys) ∧ w.grownBy w' v.ownBlock := by
  obtain ⟨i0, hi, hz0, hz1, hz2⟩ := info_parts infoExt
  have HO := Lib.hid hown
  have HG := Lib.hid hg
  have HI := Lib.hid (And.intro hi (And.intro hz0 (And.intro hz1 hz2)))
  have HY := Lib.hid (And.intro hyl h1y)
  have HBB := Lib.hid hB
  have hni : (n : Int) ≤ 1048576 := by omega
  have HK : Hid (n + 1 ≤ maxLen ∧ (n + 1) * 8 ≤ 140737488355328) := Lib.hid (by unfold maxLen; omega)
  rcases hown.2 with ⟨rfl, hn0⟩ | ⟨b, c, cur, rfl, _, _, hnc, hcm, _⟩
  · subst hn0
    clear hi hz0 hz1 hz2 hg hyl h1y hB hown hn
    go_enter Try.func50, Try.ntmps50
    go_wp2_with (at_builtin; (refine wpList_append_own _ rfl _ _ 23 rfl B 50 i0 (.agg #[.int .u32 0, .int .u32 0]) 2 8 Try.underlying23 HI.out.1 HI.out.2.1 HI.out.2.2.1 HI.out.2.2.2 rfl (by decide) _ _ _ rfl HO.out ⟨g, 0, none⟩ 1 1 ys rfl HY.out.1 (blk_src HG.out) HY.out.2 HK.out.1 HK.out.2 HBB.out ?_); intro v1 w1 h6 h7 _)
    have HA := Lib.hid h6
    have HC := Lib.hid h7
    clear h6 h7
    go_wp2_with fail
    go_ret
    exact ⟨_, rfl, HA.out, HC.out⟩
  · have hci : (n : Int) ≤ (c : Int) := by omega
    unfold maxLen at hcm
    have hc63 : (c : Int) ≤ 9223372036854775807 := by omega
    clear hi hz0 hz1 hz2 hg hyl h1y hB hown hn hcm
    by_cases hcn : c = n
    all_goals
      go_enter Try.func50, Try.ntmps50
      go_wp2_with (at_builtin; (refine wpList_append_own _ rfl _ _ 23 rfl B 50 i0 (.agg #[.int .u32 0, .int .u32 0]) 2 8 Try.underlying23 HI.out.1 HI.out.2.1 HI.out.2.2.1 HI.out.2.2.2 rfl (by decide) _ _ _ rfl HO.out ⟨g, 0, none⟩ 1 1 ys rfl HY.out.1 (blk_src HG.out) HY.out.2 HK.out.1 HK.out.2 HBB.out ?_); intro v1 w1 h6 h7 _)
      have HA := Lib.hid h6
      have HC := Lib.hid h7
      clear h6 h7
      go_wp2_with fail
      go_ret
      exact ⟨_, rfl, HA.out, HC.out⟩

set_option maxHeartbeats 8000000 in
set_option maxRecDepth 100000 in
/-- In place. -/
theorem insX_shift (B : Nat) (b c n k g : Nat) (xs ys cur : List Value) (w : World) (hcell : w.heap[b]? = some (.cells cur.toArray 50 (0, 0))) (hx : cur.take (n * 2) = xs) (hxl : xs.length = n * 2) (hcs : cur.length = c * 2) (hBb : B ≤ b)
    (hk : k < n) (hn : n ≤ 1048576) (hroom : n + 1 ≤ c) (hcm : c ≤ maxLen) (hg : Blk w g 50 ys) (hyl : ys.length = 2) (hne : g ≠ b) (h1x : ∀ u ∈ xs, u.oneCell' = true) (h1y : ∀ u ∈ ys, u.oneCell' = true) :
    Calls Try.prog 50 #[.slice (some ⟨b, 0, none⟩) n c, .int .i64 (k : Int), .slice (some ⟨g, 0, none⟩) 1 1] w fun e w' => ∃ v', e = .returned v' ∧ w'.ownsRow B 50 2 v' (n + 1) (xs.take (k * 2) ++ (ys ++ xs.drop (k * 2))) ∧ w.grownBy w' (some b) := by
  have hsz : (Try.prog.info? 50).map (·.size) = some 2 := by
    obtain ⟨i0, hi, hz0, hz1, hz2⟩ := info_parts infoExt
    rw [hi]; simp [hz1]
  have HSZ := Lib.hid hsz
  have hcm2 := hcm
  unfold maxLen at hcm2
  have hb2 : ¬ (c = k + 1) := by omega
  have hb4 : ¬ (c = k) := by omega
  have hki : (k : Int) < (n : Int) := by omega
  have hne2 : ¬ ((k : Int) = (n : Int)) := by omega
  have hni : (n : Int) ≤ 1048576 := by omega
  have hri : (n : Int) + 1 ≤ (c : Int) := by omega
  have hc63 : (c : Int) ≤ 9223372036854775807 := by omega
  have hov : ∀ lb cb, (callFunc 52 #[.slice (some ⟨g, 0, none⟩) 1 1, .slice (some ⟨b, (k + 1) * 2, none⟩) lb cb]).run Try.prog w = .ok (.value (.bool false)) w := fun lb cb => by
    rw [run_callFunc_extern Try.func52 (by kernel_rfl) (by kernel_rfl) (by kernel_rfl) (e := Extern.SlicesOverlaps.overlaps #[23, 23] #[4]) (by kernel_rfl),
      Lib.run_overlaps_apart w 23 4 50 Try.underlying23 2 (fun W => by kernel_rfl) ⟨g, 0, none⟩ ⟨b, (k + 1) * 2, none⟩ 1 1 lb cb hne 50 50 ys.length cur.length
        (by unfold Blk at hg; simp [World.shape?, hg]) (by simp [World.shape?, hcell]) (by rw [hcs]; omega) (hg.frozen 0) (hg.frozen _)]
    rfl
  have HOV := Lib.hid hov
  have HCell := Lib.hid hcell
  have HG := Lib.hid hg
  have HH := Lib.hid (And.intro hx (And.intro hxl (And.intro hcs (And.intro hyl (And.intro h1x (And.intro h1y (And.intro hne (And.intro hBb hcm))))))))
  have HD : Hid ((xs.drop (k * 2)).length = (n - k) * 2) := Lib.hid (by rw [List.length_drop, hxl]; omega)
  obtain ⟨D, hD⟩ : ∃ D, D = xs.drop (k * 2) := ⟨_, rfl⟩
  have HDD := Lib.hid hD
  have hw1 : IntKind.i64.wrap ((k : Int) + 1) = (k : Int) + 1 := by rw [IntKind.wrap_i64]; omega
  have hbb1 : (0 : Int) ≤ (k : Int) + 1 := by omega
  have htn : ((k : Int) + 1).toNat = k + 1 := by omega
  have hb3 : (k : Int) ≤ (n : Int) + 1 := by omega
  have hb5 : (k : Int) + 1 ≤ (n : Int) + 1 := by omega
  have hnb5 : k + 1 ≤ n + 1 := by omega
  clear hsz hcell hx hxl hcs hBb hn hg hyl hne h1x h1y hcm hcm2 hD
  go_enter Try.func50, Try.ntmps50
  go_wp2_with (simp only [hov])
  clear hov
  go_region_law ((refine step_copyZ rfl (.tmp 73) (.tmp 76) 23 23 rfl 50 2 Try.underlying23 HSZ.out b ((k + 1) * 2) (n - k) (c - (k + 1)) ⟨b, k * 2, none⟩ (n + 1 - k) (c - k) (by simp [Act.eval, Act.put]) (by simp [Act.eval, Act.put]) cur 50 HCell.out D (n - k) (by simp only [Nat.min_def]; split <;> omega) (by rw [HDD.out]; exact HD.out) (by rw [HDD.out]; exact row_src HCell.out HH.out.1) (by rw [HDD.out, HD.out, HH.out.2.2.1]; omega) (by rw [HDD.out]; exact fun u hu => HH.out.2.2.2.2.1 u (List.mem_of_mem_drop hu)) ?_); intro w2 h6 h7)
  have HC2 := Lib.hid h6.out
  have HR2 := Lib.hid h7
  have HG2 : Hid (Blk w2 g 50 ys) := Lib.hid (Blk.grown (w := w.drew) (row := some b) HG.out.drew HR2.out (by simpa using HH.out.2.2.2.2.2.2.1))
  clear h6 h7
  go_wp2_with ((refine wpList_copyZ rfl (.tmp 80) (.tmp 81) 23 23 rfl 50 2 Try.underlying23 HSZ.out b (k * 2) (n + 1 - k) (c - k) ⟨g, 0, none⟩ 1 1 rfl rfl (splice cur ((k + 1) * 2) D) 50 HC2.out ys 1 (by simp only [Nat.min_def]; split <;> omega) (HH.out.2.2.2.1.trans (by decide)) (blk_src HG2.out) (by rw [HH.out.2.2.2.1, length_splice _ _ _ (by rw [HDD.out, HD.out, HH.out.2.2.1]; omega), HH.out.2.2.1]; omega) HH.out.2.2.2.2.2.1 ?_); intro w3 h6 h7)
  have HC3 := Lib.hid h6.out
  have HR3 := Lib.hid h7
  clear h6 h7
  go_wp2_with fail
  go_ret
  have hS := splice_shift cur xs ys (k * 2) (n * 2) 2 HH.out.1 HH.out.2.1 (by omega) (by rw [HH.out.2.2.1]; omega) HH.out.2.2.2.1
  have e1 : ((k + 1) * 2) = (k * 2) + 2 := by omega
  have e2 : (n + 1) * 2 = (n * 2) + 2 := by omega
  have hC3 := HC3.out
  rw [HDD.out, e1] at hC3
  refine ⟨_, rfl, ⟨?_, .inr ⟨b, c, _, rfl, HH.out.2.2.2.2.2.2.2.1, hC3, by omega, HH.out.2.2.2.2.2.2.2.2, ?_, ?_⟩⟩, grown_trans (a := w) (b := w2) (grown_of_drew HR2.out) HR3.out⟩
  · have h1 := HH.out.2.1
    have h2 := HH.out.2.2.2.1
    simp only [List.length_append, List.length_take, List.length_drop]
    omega
  · simp only [List.size_toArray]
    rw [hS.1, HH.out.2.2.1]
    try omega
  · simp only []
    rw [e2]
    exact hS.2

set_option maxHeartbeats 8000000 in
set_option maxRecDepth 100000 in
/-- Into a new row. -/
theorem insX_grow (B : Nat) (b n k g : Nat) (xs ys cur : List Value) (w : World) (hcell : w.heap[b]? = some (.cells cur.toArray 50 (0, 0))) (hx : cur.take (n * 2) = xs) (hxl : xs.length = n * 2) (hB : B ≤ w.heap.size)
    (hk : k < n) (hn : n ≤ 1048576) (hg : Blk w g 50 ys) (hyl : ys.length = 2) (h1x : ∀ u ∈ xs, u.oneCell' = true) (h1y : ∀ u ∈ ys, u.oneCell' = true) :
    Calls Try.prog 50 #[.slice (some ⟨b, 0, none⟩) n n, .int .i64 (k : Int), .slice (some ⟨g, 0, none⟩) 1 1] w fun e w' => ∃ v', e = .returned v' ∧ w'.ownsRow B 50 2 v' (n + 1) (xs.take (k * 2) ++ (ys ++ xs.drop (k * 2))) ∧ w.grownBy w' (some b) := by
  obtain ⟨i0, hi, hz0, hzs, hzb⟩ := info_parts infoExt
  have hsz : (Try.prog.info? 50).map (·.size) = some 2 := by rw [hi]; simp [hzs]
  have HSZ := Lib.hid hsz
  have hbl : b < w.heap.size := (Array.getElem?_eq_some_iff.1 hcell).1
  have hgl := hg.lt
  obtain ⟨N, hN⟩ : ∃ N, N = w.heap.size := ⟨_, rfl⟩
  have hold : (Builtin.firstCells i0.size k (.slice (some ⟨b, 0, none⟩) k n)).run Try.prog w.drew = .ok (xs.take (k * 2)).toArray w.drew := by
    rw [hzs]
    exact run_firstCells_some w.drew 2 k ⟨b, 0, none⟩ k n (xs.take (k * 2)) (by rw [List.length_take, hxl]; omega) (fun j u hj => by
      refine row_src (x := 0) (w := w.drew) hcell hx j u ?_
      rw [List.drop_zero]
      rw [List.getElem?_take] at hj
      split at hj
      · exact hj
      · cases hj)
  obtain ⟨G, hG⟩ : ∃ G, G = grownCap w (n + 1) n 50 := ⟨_, rfl⟩
  have hGn : n + 1 ≤ G := by rw [hG]; exact grownCap_ge w _ _ _
  have hG63 : G ≤ 9223372036854775807 := by
    have := grownCap_le_maxLen w (n + 1) n 50 (by unfold maxLen; omega)
    rw [← hG] at this
    unfold maxLen at this
    omega
  obtain ⟨R0, hR0⟩ : ∃ R0 : List Value, R0 = xs.take (k * 2) ++ ((Builtin.zeroCells (.agg #[.int .u32 0, .int .u32 0] : Value).cells (n + 1 - k)).toList ++ (Builtin.zeroCells (.agg #[.int .u32 0, .int .u32 0] : Value).cells (G - (n + 1))).toList) := ⟨_, rfl⟩
  have hzc : ∀ q, (Builtin.zeroCells (.agg #[.int .u32 0, .int .u32 0] : Value).cells q).toList.length = q * 2 := fun q => by
    rw [Array.length_toList, size_zeroCells]
    rfl
  have hRl : R0.length = G * 2 := by
    rw [hR0, List.length_append, List.length_append, hzc, hzc, List.length_take, hxl]
    omega
  have hRt : R0.take (k * 2) = xs.take (k * 2) := by
    rw [hR0, List.take_append_of_le_length (by rw [List.length_take, hxl]; omega), List.take_take, Nat.min_self]
  have hrz : ∀ ty, (Builtin.append_ #[23, 3] ty #[.slice (some ⟨b, 0, none⟩) k n, .int .i64 ((n : Int) + 1 - (k : Int))]).run Try.prog w =
      .ok (.slice (some ⟨N, 0, none⟩) (n + 1) G) (w.drew.alloc (.cells R0.toArray 50)) := fun ty => by
    have h := Lib.run_append_grow_zeros w 23 3 ty 50 i0 (.agg #[.int .u32 0, .int .u32 0]) .i64 .i64 Try.underlying23 Try.underlying3 hi hz0 (some ⟨b, 0, none⟩) k n (xs.take (k * 2)) hold (n + 1 - k) (by omega) (by omega) (by omega) (by omega) (by rw [hzb]; omega) (by rw [hzb]; exact growslice_fits (by omega) (by omega))
    have e1 : k + (n + 1 - k) = n + 1 := by omega
    have e2 : (((n + 1 - k : Nat)) : Int) = (n : Int) + 1 - (k : Int) := by omega
    rw [e1, e2, ← hG, ← hN] at h
    rw [h]
    congr 3
    rw [hR0]
    simp
  have HRZ := Lib.hid hrz
  have HCell := Lib.hid hcell
  have HG := Lib.hid hg
  have HH := Lib.hid (And.intro hx (And.intro hxl (And.intro hRl (And.intro hyl (And.intro h1x (And.intro h1y (And.intro hRt (And.intro hB hN))))))))
  have HG63 : Hid (G ≤ maxLen) := Lib.hid (by unfold maxLen; omega)
  have HD : Hid ((xs.drop (k * 2)).length = (n - k) * 2) := Lib.hid (by rw [List.length_drop, hxl]; omega)
  obtain ⟨D, hD⟩ : ∃ D, D = xs.drop (k * 2) := ⟨_, rfl⟩
  have HDD := Lib.hid hD
  have HR0 : Hid (Blk ((w.alloc (.cells R0.toArray 50)).drew) N 50 R0) := Lib.hid (by rw [hN]; exact Blk.new w.drew _ _)
  have HB1 : Hid (w.grownBy ((w.alloc (.cells R0.toArray 50)).drew) (some b)) := Lib.hid (grown_of_drew (World.grownBy_alloc w.drew _ _))
  have HG1 : Hid (Blk ((w.alloc (.cells R0.toArray 50)).drew) g 50 ys) := Lib.hid (Blk.alloc (w := w.drew) hg _)
  have HC1 : Hid (Blk ((w.alloc (.cells R0.toArray 50)).drew) b 50 cur) := Lib.hid (Blk.alloc (w := w.drew) (show Blk w.drew b 50 cur from hcell) _)
  have hNb : ¬ (b = N) := by omega
  have hNg : ¬ (g = N) := by omega
  have hki : (k : Int) < (n : Int) := by omega
  have hne2 : ¬ ((k : Int) = (n : Int)) := by omega
  have hni : (n : Int) ≤ 1048576 := by omega
  have hGi : (n : Int) + 1 ≤ (G : Int) := by omega
  have hG63i : (G : Int) ≤ 9223372036854775807 := by omega
  have hci : ¬ (n = k) := by omega
  have hGk : ¬ (G = k) := by omega
  have hGk1 : ¬ (G = k + 1) := by omega
  have hkn : k ≤ n := by omega
  have hw1 : IntKind.i64.wrap ((k : Int) + 1) = (k : Int) + 1 := by rw [IntKind.wrap_i64]; omega
  have hbb1 : (0 : Int) ≤ (k : Int) + 1 := by omega
  have htn : ((k : Int) + 1).toNat = k + 1 := by omega
  have hb5 : (k : Int) + 1 ≤ (n : Int) + 1 := by omega
  have hb3 : (k : Int) ≤ (n : Int) + 1 := by omega
  clear hi hz0 hzs hzb hsz hbl hgl hN hold hG hGn hG63 hR0 hzc hRl hRt hcell hx hxl hn hg hyl h1x h1y hB hD hrz
  go_enter Try.func50, Try.ntmps50
  go_upto_region 10 with (at_builtin; refine Lib.wpList_append_run _ rfl _ _ _ _ rfl _ _ rfl rfl _ _ (HRZ.out _) ?_)
  obtain ⟨w1, hw1'⟩ : ∃ w1, w1 = (w.alloc (.cells R0.toArray 50)).drew := ⟨_, rfl⟩
  rw [← hw1'] at HR0 HB1 HG1 HC1 ⊢
  clear hw1'
  go_wp2_with ((refine wpList_copyZ rfl (.tmp 43) (.tmp 44) 23 23 rfl 50 2 Try.underlying23 HSZ.out N (k * 2) (n + 1 - k) (G - k) ⟨g, 0, none⟩ 1 1 rfl rfl R0 50 HR0.out ys 1 (by simp only [Nat.min_def]; split <;> omega) (HH.out.2.2.2.1.trans (by decide)) (blk_src HG1.out) (by rw [HH.out.2.2.2.1, HH.out.2.2.1]; omega) HH.out.2.2.2.2.2.1 ?_); intro w2 h6 h7)
  have HC2 := Lib.hid h6.out
  have HR2 := Lib.hid h7
  have HX2 : Hid (Blk w2 b 50 cur) := Lib.hid (Blk.grown (row := some N) HC1.out HR2.out (by simpa using hNb))
  clear h6 h7
  go_wp2_with fail
  go_region_law ((refine step_copyZ rfl (.tmp 50) (.tmp 53) 23 23 rfl 50 2 Try.underlying23 HSZ.out N ((k + 1) * 2) (n - k) (G - (k + 1)) ⟨b, k * 2, none⟩ (n - k) (n - k) (by simp [Act.eval, Act.put]) (by simp [Act.eval, Act.put]) (splice R0 (k * 2) ys) 50 HC2.out D (n - k) (by simp only [Nat.min_def]; split <;> omega) (by rw [HDD.out]; exact HD.out) (by rw [HDD.out]; exact row_src (w := w2.drew) HX2.out HH.out.1) (by rw [HDD.out, HD.out, length_splice _ _ _ (by rw [HH.out.2.2.2.1, HH.out.2.2.1]; omega), HH.out.2.2.1]; omega) (by rw [HDD.out]; exact fun u hu => HH.out.2.2.2.2.1 u (List.mem_of_mem_drop hu)) ?_); intro w3 h6 h7)
  have HC3 := Lib.hid h6.out
  have HR3 := Lib.hid h7
  clear h6 h7
  go_wp2_with fail
  go_ret
  have hS := splice_fill R0 xs ys (k * 2) (n * 2) 2 HH.out.2.2.2.2.2.2.1 HH.out.2.1 (by omega) (by rw [HH.out.2.2.1]; omega) HH.out.2.2.2.1
  have e1 : ((k + 1) * 2) = (k * 2) + 2 := by omega
  have e2 : (n + 1) * 2 = (n * 2) + 2 := by omega
  have hC3 := HC3.out
  rw [HDD.out, e1] at hC3
  refine ⟨_, rfl, ⟨?_, .inr ⟨N, G, _, rfl, by rw [HH.out.2.2.2.2.2.2.2.2]; exact HH.out.2.2.2.2.2.2.2.1, hC3, by omega, HG63.out, ?_, ?_⟩⟩, grown_new (grown_new HB1.out (by rw [HH.out.2.2.2.2.2.2.2.2]; exact Nat.le_refl _) HR2.out) (by rw [HH.out.2.2.2.2.2.2.2.2]; exact Nat.le_refl _) (grown_of_drew HR3.out)⟩
  · have h1 := HH.out.2.1
    have h2 := HH.out.2.2.2.1
    simp only [List.length_append, List.length_take, List.length_drop]
    omega
  · simp only [List.size_toArray]
    rw [hS.1, HH.out.2.2.1]
  · simp only []
    rw [e2]
    exact hS.2

/-- One element put in where it belongs. -/
theorem insX_any (B : Nat) (v : Value) (n k g : Nat) (xs ys : List Value) (w : World) (hown : w.ownsRow B 50 2 v n xs) (hk : k ≤ n) (hn : n ≤ 1048576) (hg : Blk w g 50 ys) (hyl : ys.length = 2) (hne : v.ownBlock ≠ some g) (h1x : ∀ u ∈ xs, u.oneCell' = true) (h1y : ∀ u ∈ ys, u.oneCell' = true) (hB : B ≤ w.heap.size) :
    Calls Try.prog 50 #[v, .int .i64 (k : Int), .slice (some ⟨g, 0, none⟩) 1 1] w fun e w' => ∃ v', e = .returned v' ∧ w'.ownsRow B 50 2 v' (n + 1) (xs.take (k * 2) ++ (ys ++ xs.drop (k * 2))) ∧ w.grownBy w' v.ownBlock := by
  have hxl : xs.length = n * 2 := by have := hown.1; omega
  by_cases hkn : k = n
  · subst hkn
    rw [List.take_of_length_le (by omega), List.drop_of_length_le (by omega), List.append_nil]
    exact insX_end B v k g xs ys w hown hn hg hyl h1y hB
  · rcases hown.2 with ⟨rfl, hn0⟩ | ⟨b, c, cur, rfl, hBb, hcell, hnc, hcm, hcs, htk⟩
    · omega
    · have hx : cur.toList.take (n * 2) = xs := by
        rw [← htk]
        first | done | (congr 1; omega)
      have hcell' : w.heap[b]? = some (.cells cur.toList.toArray 50 (0, 0)) := by rw [Array.toArray_toList]; exact hcell
      by_cases hroom : n + 1 ≤ c
      · exact insX_shift B b c n k g xs ys cur.toList w hcell' hx hxl (by have h9 := hcs; rw [Array.length_toList]; omega) hBb (by omega) hn hroom hcm hg hyl (fun h => hne (by rw [h]; rfl)) h1x h1y
      · obtain rfl : c = n := by omega
        exact insX_grow B b c k g xs ys cur.toList w hcell' hx hxl hB (by omega) hn hg hyl h1x h1y
end Go.Proofs.Ytmfebmiigkmkbaa
