/- ResolveApart, walked. (written by mk_xp.py) -/
import Derived.Test.YtfnofolahhoggaaXB
import Derived.Test.YtfnofolahhoggaaXR
import Derived.Test.YtfnofolahhoggaaUK
import Derived.Test.YtfnofolahhoggaaGL
import Derived.Deep.RegionHeld3
set_option linter.unusedVariables false
set_option linter.unusedSimpArgs false
namespace Go.Proofs.Ytfnofolahhoggaa
open Go Go.RowKit Go.Maps Oj Rv

theorem below_grownO {w0 w w' : World} (h : Below w0.heap.size w0 w) {b : Option Nat} (hg : w.grownBy w' b) (hb : ∀ k, b = some k → w0.heap.size ≤ k) : Below w0.heap.size w0 w' := h.grown hg h.size hb
/-- One symbol as a list of one. -/
theorem syms_one {w : World} {s : Sy} {vr vn : Value} (hr : RelsAt w vr s.rels) (hn : NotesAt w vn s.notes) : SymsAt (w.alloc (.cells (syCells s vr vn).toArray 50)) (.slice (some ⟨w.heap.size, 0, none⟩) 1 1) [s] := by
  have hb := below_new1 w (.cells (syCells s vr vn).toArray 50)
  have hB := Blk.new w 50 (syCells s vr vn)
  refine ⟨fun _ => vr, fun _ => vn, ⟨_, _, rfl, fun _ => ⟨w.heap.size, 0, rfl, hB.lt, fun j hj i u hu => ?_⟩⟩, fun j hj => ?_⟩
  · obtain rfl : j = 0 := by simp at hj; exact hj
    rw [show (0 + 0 * 7 + i) = i by omega, hB.cell i]
    exact hu
  · obtain rfl : j = 0 := by simp at hj; exact hj
    exact ⟨hr.below hb, hn.below hb⟩
theorem fits_add {l : List Ob} {n : Nat} {s : Sy} (hn : n < l.length) (hf : obsFit l) (ht : ∀ j, j < l.length → (l.getD j Ob.nought).syms.length * 88 ≤ 140737488351232) (hs : syFits s) : obsFit (addS l n s) := by
  refine ⟨by rw [add_len]; exact hf.1, fun j hj => ?_⟩
  rw [add_len] at hj
  by_cases h : j = n
  · subst h
    rw [add_at s hn]
    have h1 := hf.2 j hj
    have h2 := ht j hj
    refine ⟨h1.1, ?_, fun i hi => ?_⟩
    · show (symsN l j ++ [s]).length * 88 ≤ _
      rw [List.length_append, List.length_singleton]
      unfold symsN
      omega
    · show syFits ((symsN l j ++ [s]).getD i Sy.nought)
      have hi' : i < (symsN l j ++ [s]).length := hi
      rw [List.length_append, List.length_singleton] at hi'
      by_cases hlt : i < (symsN l j).length
      · have e : (symsN l j ++ [s]).getD i Sy.nought = (symsN l j).getD i Sy.nought := by rw [List.getD_eq_getElem?_getD, List.getD_eq_getElem?_getD, List.getElem?_append_left hlt]
        rw [e]
        exact h1.2.2 i hlt
      · have e : (symsN l j ++ [s]).getD i Sy.nought = s := by rw [List.getD_eq_getElem?_getD, List.getElem?_append_right (by omega), show i - (symsN l j).length = 0 by omega]; rfl
        rw [e]
        exact hs
  · rw [add_other s h]
    exact hf.2 j hj

set_option maxHeartbeats 16000000 in
set_option maxRecDepth 100000 in
theorem apart_any (l : List Ob) (v : Value) (A : Nat) (s : Sy) (v2 : Value) (nm : ByteArray) (hA8 : A < 256) (hf : obsFit l) (htt : ∀ j, j < l.length → (l.getD j Ob.nought).syms.length * 88 ≤ 140737488351232) (hfs : syFits s) (ht : nm.size ≤ 140737488355328) (w : World) (hA : ObsAt w v l) (hA2 : SymAt w v2 s) :
    Calls Try.prog 5 #[v, .int .u8 (A : Int), v2, .string nm] w fun e w' => e = .returned (.bool true) ∧ Below w.heap.size w w' := by
  obtain ⟨iS, hiS, hzS, hsS, hbS⟩ := info_parts infoSym
  have HI := Lib.hid (And.intro hiS (And.intro hzS (And.intro hsS hbS)))
  have HLg := Lib.hid (fun W (hq : Below w.heap.size w W) => large_any v l hf W (hA.below hq))
  have HCp := Lib.hid (fun W (hq : Below w.heap.size w W) => rcopyAll_any v l hf W (hA.below hq))
  have HAL := Lib.hid (fun W (hq : Below w.heap.size w W) => (hA.below hq : ObsAt W v l))
  have HF := Lib.hid hf
  have HTT := Lib.hid htt
  have HT := Lib.hid ht
  obtain ⟨S, ⟨a, c, rfl, _⟩, _⟩ := hA
  obtain ⟨vr, vn, rfl, hr, hn'⟩ := hA2
  have HRel := Lib.hid (fun W (hq : Below w.heap.size w W) => hr.below hq)
  have HNot := Lib.hid (fun W (hq : Below w.heap.size w W) => hn'.below hq)
  obtain ⟨ra, rc, hrv, _⟩ := hr
  obtain ⟨na, nc, hnv, _⟩ := hn'
  have HFS := Lib.hid hfs
  have HLs := Lib.hid (fun (W : World) (hq : Below w.heap.size w W) => large_any (.slice (some ⟨W.heap.size + 1, 0, none⟩) 1 1) [⟨[], [s]⟩] (obs_fit (x := ⟨[], [s]⟩) ⟨Nat.zero_le _, show 1 * 88 ≤ 140737488355328 by decide, fun j hj => by
    obtain rfl : j = 0 := by simp at hj; exact hj
    exact HFS.out⟩) ((W.alloc (.cells (syCells s vr vn).toArray 50)).alloc (.cells #[.string (tx []), .slice (some ⟨W.heap.size, 0, none⟩) 1 1] 43)) (by
    have h1 := syms_one (HRel.out W hq) (HNot.out W hq)
    have h2 := obs_one (x := ⟨[], [s]⟩) h1
    have h3 : (W.alloc (.cells (syCells s vr vn).toArray 50)).heap.size = W.heap.size + 1 := by simp
    rw [h3] at h2
    exact h2))
  obtain ⟨rn, hrn⟩ : ∃ rn, rn = s.rels.length := ⟨_, rfl⟩
  obtain ⟨nn, hnn⟩ : ∃ nn, nn = s.notes.length := ⟨_, rfl⟩
  rw [← hrn] at hrv
  rw [← hnn] at hnv
  subst hrv hnv
  obtain ⟨U, hU⟩ : ∃ u, u = tx s.name := ⟨_, rfl⟩
  obtain ⟨u1, g1⟩ : ∃ u, u = s.bind := ⟨_, rfl⟩
  obtain ⟨u2, g2⟩ : ∃ u, u = s.kind := ⟨_, rfl⟩
  obtain ⟨u3, g3⟩ : ∃ u, u = s.size := ⟨_, rfl⟩
  obtain ⟨u4, g4⟩ : ∃ u, u = tx s.bytes := ⟨_, rfl⟩
  unfold syCells at HLs
  rw [← hU, ← g1, ← g2, ← g3, ← g4] at HLs ⊢
  obtain ⟨s0, hs0⟩ : ∃ s0 : Sy, s0 = ⟨s.name, 0, s.kind, s.size, s.bytes, s.rels, s.notes⟩ := ⟨_, rfl⟩
  have HC0 : Hid (syCells s0 (.slice ra rn rc) (.slice na nn nc) = [.string U, .int .u8 0, .int .u8 u2, .int .u32 u3, .string u4, .slice ra rn rc, .slice na nn nc]) := Lib.hid (by rw [hs0, hU, g2, g3, g4]; rfl)
  have HF0 : Hid (syFits s0) := Lib.hid (by rw [hs0]; exact ⟨HFS.out.1, show (0 : Int) ≤ 0 ∧ (0 : Int) < 256 by decide, HFS.out.2.2⟩)
  have HRel := Lib.hid (show ∀ W, Below w.heap.size w W → RelsAt W (.slice ra rn rc) s0.rels from by rw [hs0]; exact HRel.out)
  have HNot := Lib.hid (show ∀ W, Below w.heap.size w W → NotesAt W (.slice na nn nc) s0.notes from by rw [hs0]; exact HNot.out)
  have HB0 : Hid (s0.bind = 0) := Lib.hid (by rw [hs0])
  obtain ⟨n, hn⟩ : ∃ n, n = l.length := ⟨_, rfl⟩
  have hni : (n : Int) ≤ 3518437208884 := by have := hf.1; omega
  have hti : (nm.size : Int) ≤ 140737488355328 := by omega
  rw [← hn] at HLg HCp HAL ⊢
  have HN := Lib.hid hn
  have HAv := Lib.hid (show ∀ (W : World), Below w.heap.size w W → Calls Try.prog 7 #[] W (fun e w' => e = .returned (.bool true) ∧ Below w.heap.size w w') from fun W hW => (valive_any W).mono (fun e w' h => ⟨h.1, below_call hW h.2⟩))
  have HB := Lib.hid (below_new1 w (.cells #[.string U, .int .u8 u1, .int .u8 u2, .int .u32 u3, .string u4, .slice ra rn rc, .slice na nn nc] 50))
  have HX := Lib.hid (Blk.new w 50 [.string U, .int .u8 u1, .int .u8 u2, .int .u32 u3, .string u4, .slice ra rn rc, .slice na nn nc])
  unfold LargePost at HLg HLs
  clear hn hf hfs htt ht hU g1 g2 g3 g4 hrn hnn hs0 hiS hzS hsS hbS
  go_enter Try.func5, Try.ntmps5
  go_wp2_with fail
  refine (HLg.out _ HB.out).mono ?_; rintro e w1 ⟨bl, rfl, -, q⟩
  have HB1 := Lib.hid (below_call HB.out q)
  have HX1 := Lib.hid (HX.out.call q)
  clear q HLg HB HX
  cases bl with
  | true =>
    go_wp2_with fail
    refine (HAv.out _ HB1.out).mono ?_; rintro e w99 ⟨rfl, q⟩
    have HQ := Lib.hid q
    clear q
    go_wp2_with fail
    go_ret
    exact ⟨rfl, HQ.out⟩
  | false =>
  have x0 := HX1.out.cell 0
  have x1 := HX1.out.cell 1
  have x2 := HX1.out.cell 2
  have x3 := HX1.out.cell 3
  have x4 := HX1.out.cell 4
  have x5 := HX1.out.cell 5
  have x6 := HX1.out.cell 6
  simp only [List.getElem?_cons_zero, List.getElem?_cons_succ] at x0 x1 x2 x3 x4 x5 x6
  have xl := HX1.out.lt
  go_wp2_with fail
  clear x0 x1 x2 x3 x4 x5 x6 xl
  refine (HLs.out w1 HB1.out).mono ?_; rintro e w2 ⟨bs, rfl, -, q⟩
  have qq := below_call (below_box (below_new1 w1 (.cells #[.string U, .int .u8 u1, .int .u8 u2, .int .u32 u3, .string u4, .slice ra rn rc, .slice na nn nc] 50)) (.cells #[.string (tx []), .slice (some ⟨w1.heap.size, 0, none⟩) 1 1] 43)) q
  have HB2 := Lib.hid (below_call HB1.out qq)
  have HX2 := Lib.hid (HX1.out.call qq)
  clear q qq HLs HB1 HX1
  cases bs with
  | true =>
    go_wp2_with fail
    refine (HAv.out _ HB2.out).mono ?_; rintro e w99 ⟨rfl, q⟩
    have HQ := Lib.hid q
    clear q
    go_wp2_with fail
    go_ret
    exact ⟨rfl, HQ.out⟩
  | false =>
  by_cases hn0 : n = 0
  · subst hn0
    go_wp2_with fail
    refine (HAv.out _ HB2.out).mono ?_; rintro e w99 ⟨rfl, q⟩
    have HQ := Lib.hid q
    clear q
    go_wp2_with fail
    go_ret
    exact ⟨rfl, HQ.out⟩
  have hn1 : (0 : Int) < (n : Int) := by omega
  have hn2 : ((n : Int) == 0) = false := by rw [beq_eq_false_iff_ne]; omega
  have hn3 : ¬ ((n : Int) = 0) := by omega
  by_cases h1024 : 1024 < nm.size
  · have hb : (1024 : Int) < (nm.size : Int) := by omega
    go_wp2_with fail
    refine (HAv.out _ HB2.out).mono ?_; rintro e w99 ⟨rfl, q⟩
    have HQ := Lib.hid q
    clear q
    go_wp2_with fail
    go_ret
    exact ⟨rfl, HQ.out⟩
  have hb : (nm.size : Int) ≤ 1024 := by omega
  clear h1024
  obtain ⟨r, hr⟩ : ∃ r, r = A % n := ⟨_, rfl⟩
  have hrn : r < n := by rw [hr]; exact Nat.mod_lt _ (by omega)
  have hv1 : IntKind.i64.wrap (A : Int) = (A : Int) := by rw [IntKind.wrap_i64]; omega
  have hv3 : (A : Int).tmod (n : Int) = (r : Int) := by rw [hr]; norm_cast
  have hv4 : IntKind.i64.wrap (r : Int) = (r : Int) := by rw [IntKind.wrap_i64]; omega
  have hri : (r : Int) < (n : Int) := by omega
  have HRN := Lib.hid hrn
  have xf := HX2.out.frozen 1
  have xl := HX2.out.lt
  have x1 := HX2.out.cell 1
  simp only [List.getElem?_cons_zero, List.getElem?_cons_succ] at x1
  go_upto_region 5 with (fail)
  refine wp_nameA ?_; intro w3 hw3
  have HB3 : Hid (Below w.heap.size w w3) := Lib.hid (by rw [hw3]; exact below_set' HB2.out (Nat.le_refl _) _ _)
  have HX3 : Hid (Blk w3 w.heap.size 50 [.string U, .int .u8 0, .int .u8 u2, .int .u32 u3, .string u4, .slice ra rn rc, .slice na nn nc]) := Lib.hid (by rw [hw3]; exact HX2.out.set_ 1 (.int .u8 0))
  have hv5 : (A : Int) % (n : Int) = (r : Int) := by rw [hr]; norm_cast
  rw [hv5]
  clear hw3 xf xl x1 HB2 HX2 hr hv5
  go_wp2_with fail
  refine (HCp.out _ HB3.out).mono ?_; rintro e w4 ⟨vm, SS, R, N, rfl, hC, q⟩
  have HB4 := Lib.hid (below_call HB3.out q)
  have HX4 := Lib.hid (HX3.out.call q)
  have HW3 := Lib.hid HX3.out.lt
  rw [HN.out] at hC
  obtain ⟨gm, cm, rfl, -, -⟩ := hC.row.form (by rw [← HN.out]; omega)
  have HC := Lib.hid hC
  clear q hC HCp HB3 HX3
  obtain ⟨aS, cS, hvS⟩ := row_slice (HC.out.each r (by rw [← HN.out]; exact hrn)).row
  obtain ⟨nS, hnS⟩ : ∃ nS, nS = (symsN l r).length := ⟨_, rfl⟩
  have HNS := Lib.hid hnS
  rw [← hnS] at hvS
  have HVS := Lib.hid hvS
  have hbS : (nS + 1) * 88 ≤ 140737488355328 := by have := HTT.out r (by rw [← HN.out]; exact hrn); unfold symsN at hnS; omega
  have HBS := Lib.hid hbS
  clear hnS hvS hbS
  rw [← HN.out]
  go_upto_region 6 with (fail)
  go_cut [] (fun wx => Hid (ObsAt wx (.slice (some ⟨gm, 0, none⟩) n cm) (addS l r s0)) ∧ Hid (Below w.heap.size w wx))
  case first =>
    obtain ⟨w5, hw5⟩ : ∃ w5, w5 = w4.drew := ⟨_, rfl⟩
    have HB5 : Hid (Below w.heap.size w w5) := Lib.hid (by rw [hw5]; exact HB4.out.drew)
    have HX5 : Hid (Blk w5 w.heap.size 50 [.string U, .int .u8 0, .int .u8 u2, .int .u32 u3, .string u4, .slice ra rn rc, .slice na nn nc]) := Lib.hid (by rw [hw5]; exact HX4.out.drew)
    have HC5 : Hid (CpA w5 w3.heap.size l l.length (.slice (some ⟨gm, 0, none⟩) l.length cm) SS R N) := Lib.hid (by rw [hw5]; exact HC.out.below (Below.refl _ _).drew)
    have HSX : Hid (∀ W : World, Blk W w.heap.size 50 [.string U, .int .u8 0, .int .u8 u2, .int .u32 u3, .string u4, .slice ra rn rc, .slice na nn nc] → (W.cell? ⟨w.heap.size, 0, none⟩ = some (.string U) ∧ W.cell? ⟨w.heap.size, 1, none⟩ = some (.int .u8 0) ∧ W.cell? ⟨w.heap.size, 2, none⟩ = some (.int .u8 u2) ∧ W.cell? ⟨w.heap.size, 3, none⟩ = some (.int .u32 u3)) ∧ (W.cell? ⟨w.heap.size, 4, none⟩ = some (.string u4) ∧ W.cell? ⟨w.heap.size, 5, none⟩ = some (.slice ra rn rc) ∧ W.cell? ⟨w.heap.size, 6, none⟩ = some (.slice na nn nc))) := Lib.hid (fun W h => ⟨⟨h.cell 0, h.cell 1, h.cell 2, h.cell 3⟩, h.cell 4, h.cell 5, h.cell 6⟩)
    refine wp_region_held_drew (S := fun W => (W.cell? ⟨w.heap.size, 0, none⟩ = some (.string U) ∧ W.cell? ⟨w.heap.size, 1, none⟩ = some (.int .u8 0) ∧ W.cell? ⟨w.heap.size, 2, none⟩ = some (.int .u8 u2) ∧ W.cell? ⟨w.heap.size, 3, none⟩ = some (.int .u32 u3)) ∧ (W.cell? ⟨w.heap.size, 4, none⟩ = some (.string u4) ∧ W.cell? ⟨w.heap.size, 5, none⟩ = some (.slice ra rn rc) ∧ W.cell? ⟨w.heap.size, 6, none⟩ = some (.slice na nn nc))) (by kernel_rfl) (HSX.out _ HX4.out) (fun hSw => ?_)
    rw [← hw5]
    rw [← hw5] at hSw
    clear hw5 HB4 HX4 HC
    have hdr : decide (r < n) = true := decide_eq_true hrn
    have HrowS := Lib.hid (HC5.out.each r (by rw [← HN.out]; exact hrn)).row
    have HrowO := Lib.hid HC5.out.row
    have hcellO : w5.cell? ⟨gm, r * 2 + 1, none⟩ = some (.slice aS nS cS) := by
      have h := HrowO.out.cellAt (r * 2 + 1) (by have := HN.out; omega)
      have hfg := flat_get (cs := fun j => obCells (l.getD j Ob.nought) (SS j)) (z := 2) l.length (fun _ _ => rfl) r 1 (by rw [← HN.out]; exact hrn) (by decide)
      rw [hfg] at h
      rw [h, ← HVS.out]
      rfl
    have hgl : gm < w5.heap.size := (own_lt HrowO.out (show (Value.slice (some ⟨gm, 0, none⟩) l.length cm).ownBlock = some gm from rfl)).2
    refine wpAnyH_take (i := 0) (v := .slice (some ⟨gm, 0, none⟩) n cm) rfl (by kernel_rfl) (by kernel_rfl) (by kernel_rfl) (fun _ _ _ h => h) (Or.inl ⟨by rfl, fun w hSw => by (try dsimp only at hSw); go_simp⟩) (by assumption) ?_
    try simp only [Act.put, List.setIfInBounds_toArray, List.set_cons_zero, List.set_cons_succ, List.getElem_toArray, List.getElem_cons_succ, List.getElem_cons_zero]
    refine wpAnyH_take (i := 1) (v := .int .i64 (r : Int)) rfl (by kernel_rfl) (by kernel_rfl) (by kernel_rfl) (fun _ _ _ h => h) (Or.inl ⟨by rfl, fun w hSw => by (try dsimp only at hSw); go_simp⟩) (by assumption) ?_
    try simp only [Act.put, List.setIfInBounds_toArray, List.set_cons_zero, List.set_cons_succ, List.getElem_toArray, List.getElem_cons_succ, List.getElem_cons_zero]
    refine wpAnyH_take (i := 2) (v := .slice (some ⟨gm, 0, none⟩) n cm) rfl (by kernel_rfl) (by kernel_rfl) (by kernel_rfl) (fun _ _ _ h => h) (Or.inl ⟨by rfl, fun w hSw => by (try dsimp only at hSw); go_simp⟩) (by assumption) ?_
    try simp only [Act.put, List.setIfInBounds_toArray, List.set_cons_zero, List.set_cons_succ, List.getElem_toArray, List.getElem_cons_succ, List.getElem_cons_zero]
    refine wpAnyH_take (i := 3) (v := .int .i64 (r : Int)) rfl (by kernel_rfl) (by kernel_rfl) (by kernel_rfl) (fun _ _ _ h => h) (Or.inl ⟨by rfl, fun w hSw => by (try dsimp only at hSw); go_simp⟩) (by assumption) ?_
    try simp only [Act.put, List.setIfInBounds_toArray, List.set_cons_zero, List.set_cons_succ, List.getElem_toArray, List.getElem_cons_succ, List.getElem_cons_zero]
    refine wpAnyH_take (i := 4) (v := .pointer (some ⟨gm, r * 2, none⟩)) rfl (by kernel_rfl) (by kernel_rfl) (by kernel_rfl) (fun _ _ _ h => h) (Or.inl ⟨by rfl, fun w hSw => by (try dsimp only at hSw); go_simp⟩) (by assumption) ?_
    try simp only [Act.put, List.setIfInBounds_toArray, List.set_cons_zero, List.set_cons_succ, List.getElem_toArray, List.getElem_cons_succ, List.getElem_cons_zero]
    refine wpAnyH_take (i := 5) (v := .pointer (some ⟨gm, r * 2 + 1, none⟩)) rfl (by kernel_rfl) (by kernel_rfl) (by kernel_rfl) (fun _ _ _ h => h) (Or.inl ⟨by rfl, fun w hSw => by (try dsimp only at hSw); go_simp⟩) (by assumption) ?_
    try simp only [Act.put, List.setIfInBounds_toArray, List.set_cons_zero, List.set_cons_succ, List.getElem_toArray, List.getElem_cons_succ, List.getElem_cons_zero]
    refine wpAnyH_take (i := 7) (v := .agg #[.string U, .int .u8 0, .int .u8 u2, .int .u32 u3, .string u4, .slice ra rn rc, .slice na nn nc]) rfl (by kernel_rfl) (by kernel_rfl) (by kernel_rfl) (fun _ _ _ h => h) (Or.inl ⟨by rfl, fun w hSw => by (try dsimp only at hSw); go_simp⟩) (by assumption) ?_
    try simp only [Act.put, List.setIfInBounds_toArray, List.set_cons_zero, List.set_cons_succ, List.getElem_toArray, List.getElem_cons_succ, List.getElem_cons_zero]
    have HKM : Hid (nS + 1 ≤ maxLen) := Lib.hid (by have := HBS.out; unfold maxLen; omega)
    have HXN := Lib.hid (HX5.out.alloc (.cells #[.string U, .int .u8 0, .int .u8 u2, .int .u32 u3, .string u4, .slice ra rn rc, .slice na nn nc] 50))
    have HNW := Lib.hid (new_sym w5 (.string U) (.int .u8 0) (.int .u8 u2) (.int .u32 u3) (.string u4) (.slice ra rn rc) (.slice na nn nc))
    have hone : Hid (∀ u ∈ ([.string U, .int .u8 0, .int .u8 u2, .int .u32 u3, .string u4, .slice ra rn rc, .slice na nn nc] : List Value), u.oneCell' = true) := Lib.hid (by rw [← HC0.out]; exact sy_one _ _ _ _ _ _ _)
    have HRSa := Lib.hid (HrowS.out.alloc (.cells #[.string U, .int .u8 0, .int .u8 u2, .int .u32 u3, .string u4, .slice ra rn rc, .slice na nn nc] 50))
    have HROa := Lib.hid (HrowO.out.alloc (.cells #[.string U, .int .u8 0, .int .u8 u2, .int .u32 u3, .string u4, .slice ra rn rc, .slice na nn nc] 50))
    have hcellA : (w5.alloc (.cells #[.string U, .int .u8 0, .int .u8 u2, .int .u32 u3, .string u4, .slice ra rn rc, .slice na nn nc] 50)).cell? ⟨gm, r * 2 + 1, none⟩ = some (.slice aS nS cS) := ((below_new1 w5 (.cells #[.string U, .int .u8 0, .int .u8 u2, .int .u32 u3, .string u4, .slice ra rn rc, .slice na nn nc] 50)).cell (p := ⟨gm, r * 2 + 1, none⟩) hgl).trans hcellO
    have HBa := Lib.hid (below_box HB5.out (.cells #[.string U, .int .u8 0, .int .u8 u2, .int .u32 u3, .string u4, .slice ra rn rc, .slice na nn nc] 50))
    have HBW : Hid (w3.heap.size ≤ (w5.alloc (.cells #[.string U, .int .u8 0, .int .u8 u2, .int .u32 u3, .string u4, .slice ra rn rc, .slice na nn nc] 50)).heap.size) := Lib.hid (by have h1 := own_lt HrowO.out (show (Value.slice (some ⟨gm, 0, none⟩) l.length cm).ownBlock = some gm from rfl); simp; omega)
    have HXO : Hid (∀ q : Nat, q = gm → w.heap.size ≠ q) := Lib.hid (fun q hq he => by
      have h := row_block HX5.out HrowO.out (by decide)
      exact h (by show some gm = some w.heap.size; rw [he, hq]))
    refine wpAnyH_ready (rs := [6, 8]) (by kernel_rfl) (by simp) ?_
    refine (AllReadyH.cons (o := _) rfl (fun K hK => ?_) (AllReadyH.cons (o := _) rfl (fun K hK => ?_) AllReadyH.nil))
    · go_simp
      refine hK.out _ _ (HSX.out _ HX5.out) (fun hSw => ?_)
      clear hK K
      try simp only [Act.put, List.setIfInBounds_toArray, List.set_cons_zero, List.set_cons_succ, List.getElem_toArray, List.getElem_cons_succ, List.getElem_cons_zero]
      refine wpAnyH_ready (rs := [8]) (by kernel_rfl) (by simp) ?_
      refine AllReadyH.cons (o := _) rfl (fun K hK => ?_) AllReadyH.nil
      go_simp
      refine hK.out _ _ (HSX.out _ HXN.out) (fun hSw => ?_)
      clear hK K
      try simp only [Act.put, List.setIfInBounds_toArray, List.set_cons_zero, List.set_cons_succ, List.getElem_toArray, List.getElem_cons_succ, List.getElem_cons_zero]
      refine wpAnyH_ready (rs := [9]) (by kernel_rfl) (by simp) ?_
      refine AllReadyH.cons (o := _) rfl (fun K hK => ?_) AllReadyH.nil
      refine step_append_lies _ (by rfl) _ _ 41 (by rfl) w3.heap.size 50 iS _ 7 88 Try.underlying41 HI.out.1 HI.out.2.1 HI.out.2.2.1 HI.out.2.2.2 rfl (by decide) (.slice aS nS cS) nS _ (by rfl) (by rw [← HVS.out, HNS.out]; exact HRSa.out) ⟨w5.heap.size, 0, none⟩ 1 1 [.string U, .int .u8 0, .int .u8 u2, .int .u32 u3, .string u4, .slice ra rn rc, .slice na nn nc] (by rfl) rfl HNW.out hone.out (by decide) HKM.out HBS.out (by have h1 := HRSa.out; have h2 := HROa.out; exact HBW.out) _ rfl ?_
      intro gv capv wa h6 h7 _ _
      rw [← HVS.out] at h7
      have hrowA := HROa.out.kept h7 (row_apart HROa.out HRSa.out (by decide))
      have HXA := Lib.hid (HXN.out.grown h7 (fun e => by have h := own_lt HRSa.out e.symm; have h2 := HW3.out; omega))
      have HBA := Lib.hid (below_grownO HBa.out h7 (fun k hk => Nat.le_trans (Nat.le_of_lt HW3.out) (own_lt HRSa.out hk).1))
      have m7 : wa.frozen? ⟨gm, r * 2 + 1, none⟩ = false := hrowA.frozenAt _
      have m8 : gm < wa.heap.size := (own_lt hrowA (show (Value.slice (some ⟨gm, 0, none⟩) l.length cm).ownBlock = some gm from rfl)).2
      have m9 : wa.cell? ⟨gm, r * 2 + 1, none⟩ = some (.slice aS nS cS) := by
        have h := hrowA.cellAt (r * 2 + 1) (by have := HN.out; omega)
        have hfg := flat_get (cs := fun j => obCells (l.getD j Ob.nought) (SS j)) (z := 2) l.length (fun _ _ => rfl) r 1 (by rw [← HN.out]; exact hrn) (by decide)
        rw [hfg] at h
        rw [h, ← HVS.out]
        rfl
      have HGM : Hid (w.heap.size ≤ gm) := Lib.hid (Nat.le_trans (Nat.le_of_lt HW3.out) (own_lt hrowA (show (Value.slice (some ⟨gm, 0, none⟩) l.length cm).ownBlock = some gm from rfl)).1)
      have HBX : Hid (Below w.heap.size w (wa.setCell ⟨gm, r * 2 + 1, none⟩ (.slice (some ⟨gv, 0, none⟩) (nS + 1) capv))) := Lib.hid (below_set' HBA.out HGM.out _ _)
      have HXX : Hid (Blk (wa.setCell ⟨gm, r * 2 + 1, none⟩ (.slice (some ⟨gv, 0, none⟩) (nS + 1) capv)) w.heap.size 50 [.string U, .int .u8 0, .int .u8 u2, .int .u32 u3, .string u4, .slice ra rn rc, .slice na nn nc]) := Lib.hid (HXA.out.far (p := ⟨gm, r * 2 + 1, none⟩) (HXO.out gm rfl) _)
      have HOX : Hid (ObsAt (wa.setCell ⟨gm, r * 2 + 1, none⟩ (.slice (some ⟨gv, 0, none⟩) (nS + 1) capv)) (.slice (some ⟨gm, 0, none⟩) n cm) (addS l r s0)) := Lib.hid (by
        rw [HN.out]
        refine apart_obs HC5.out (by rw [← HN.out]; exact hrn) s0 (vr := .slice ra rn rc) (vn := .slice na nn nc) (V := .slice (some ⟨gv, 0, none⟩) (nS + 1) capv) (B' := w3.heap.size) ?_ h7 (HRel.out _ HBX.out) (HNot.out _ HBX.out)
        rw [HC0.out]
        have e9 : (symsN l r).length + 1 = nS + 1 := by rw [HNS.out]
        rw [e9]
        exact h6)
      clear h6 h7 hrowA
      refine hK.out _ _ (HSX.out _ HXA.out) (fun hSw => ?_)
      clear hK K
      try simp only [Act.put, List.setIfInBounds_toArray, List.set_cons_zero, List.set_cons_succ, List.getElem_toArray, List.getElem_cons_succ, List.getElem_cons_zero]
      refine wpAnyH_take (i := 10) (v := .pointer (some ⟨gm, r * 2, none⟩)) rfl (by kernel_rfl) (by kernel_rfl) (by kernel_rfl) (fun _ _ _ h => h) (Or.inl ⟨by rfl, fun w hSw => by (try dsimp only at hSw); go_simp⟩) (by assumption) ?_
      try simp only [Act.put, List.setIfInBounds_toArray, List.set_cons_zero, List.set_cons_succ, List.getElem_toArray, List.getElem_cons_succ, List.getElem_cons_zero]
      refine wpAnyH_take (i := 11) (v := .pointer (some ⟨gm, r * 2 + 1, none⟩)) rfl (by kernel_rfl) (by kernel_rfl) (by kernel_rfl) (fun _ _ _ h => h) (Or.inl ⟨by rfl, fun w hSw => by (try dsimp only at hSw); go_simp⟩) (by assumption) ?_
      try simp only [Act.put, List.setIfInBounds_toArray, List.set_cons_zero, List.set_cons_succ, List.getElem_toArray, List.getElem_cons_succ, List.getElem_cons_zero]
      refine wpAnyH_ready (rs := [12]) (by kernel_rfl) (by simp) ?_
      refine AllReadyH.cons (o := _) rfl (fun K hK => ?_) AllReadyH.nil
      go_simp
      refine hK.out _ _ (HSX.out _ HXX.out) (fun hSw => ?_)
      clear hK K
      try simp only [Act.put, List.setIfInBounds_toArray, List.set_cons_zero, List.set_cons_succ, List.getElem_toArray, List.getElem_cons_succ, List.getElem_cons_zero]
      refine wpAnyH_done (by kernel_rfl) ?_ _
      go_wp2_with fail
      go_meet
      exact ⟨HOX, HBX⟩
    · go_simp
      refine hK.out _ _ (HSX.out _ HXN.out) (fun hSw => ?_)
      clear hK K
      try simp only [Act.put, List.setIfInBounds_toArray, List.set_cons_zero, List.set_cons_succ, List.getElem_toArray, List.getElem_cons_succ, List.getElem_cons_zero]
      refine wpAnyH_ready (rs := [6]) (by kernel_rfl) (by simp) ?_
      refine AllReadyH.cons (o := _) rfl (fun K hK => ?_) AllReadyH.nil
      go_simp
      refine hK.out _ _ (HSX.out _ HXN.out) (fun hSw => ?_)
      clear hK K
      try simp only [Act.put, List.setIfInBounds_toArray, List.set_cons_zero, List.set_cons_succ, List.getElem_toArray, List.getElem_cons_succ, List.getElem_cons_zero]
      refine wpAnyH_ready (rs := [9]) (by kernel_rfl) (by simp) ?_
      refine AllReadyH.cons (o := _) rfl (fun K hK => ?_) AllReadyH.nil
      refine step_append_lies _ (by rfl) _ _ 41 (by rfl) w3.heap.size 50 iS _ 7 88 Try.underlying41 HI.out.1 HI.out.2.1 HI.out.2.2.1 HI.out.2.2.2 rfl (by decide) (.slice aS nS cS) nS _ (by rfl) (by rw [← HVS.out, HNS.out]; exact HRSa.out) ⟨w5.heap.size, 0, none⟩ 1 1 [.string U, .int .u8 0, .int .u8 u2, .int .u32 u3, .string u4, .slice ra rn rc, .slice na nn nc] (by rfl) rfl HNW.out hone.out (by decide) HKM.out HBS.out (by have h1 := HRSa.out; have h2 := HROa.out; exact HBW.out) _ rfl ?_
      intro gv capv wa h6 h7 _ _
      rw [← HVS.out] at h7
      have hrowA := HROa.out.kept h7 (row_apart HROa.out HRSa.out (by decide))
      have HXA := Lib.hid (HXN.out.grown h7 (fun e => by have h := own_lt HRSa.out e.symm; have h2 := HW3.out; omega))
      have HBA := Lib.hid (below_grownO HBa.out h7 (fun k hk => Nat.le_trans (Nat.le_of_lt HW3.out) (own_lt HRSa.out hk).1))
      have m7 : wa.frozen? ⟨gm, r * 2 + 1, none⟩ = false := hrowA.frozenAt _
      have m8 : gm < wa.heap.size := (own_lt hrowA (show (Value.slice (some ⟨gm, 0, none⟩) l.length cm).ownBlock = some gm from rfl)).2
      have m9 : wa.cell? ⟨gm, r * 2 + 1, none⟩ = some (.slice aS nS cS) := by
        have h := hrowA.cellAt (r * 2 + 1) (by have := HN.out; omega)
        have hfg := flat_get (cs := fun j => obCells (l.getD j Ob.nought) (SS j)) (z := 2) l.length (fun _ _ => rfl) r 1 (by rw [← HN.out]; exact hrn) (by decide)
        rw [hfg] at h
        rw [h, ← HVS.out]
        rfl
      have HGM : Hid (w.heap.size ≤ gm) := Lib.hid (Nat.le_trans (Nat.le_of_lt HW3.out) (own_lt hrowA (show (Value.slice (some ⟨gm, 0, none⟩) l.length cm).ownBlock = some gm from rfl)).1)
      have HBX : Hid (Below w.heap.size w (wa.setCell ⟨gm, r * 2 + 1, none⟩ (.slice (some ⟨gv, 0, none⟩) (nS + 1) capv))) := Lib.hid (below_set' HBA.out HGM.out _ _)
      have HXX : Hid (Blk (wa.setCell ⟨gm, r * 2 + 1, none⟩ (.slice (some ⟨gv, 0, none⟩) (nS + 1) capv)) w.heap.size 50 [.string U, .int .u8 0, .int .u8 u2, .int .u32 u3, .string u4, .slice ra rn rc, .slice na nn nc]) := Lib.hid (HXA.out.far (p := ⟨gm, r * 2 + 1, none⟩) (HXO.out gm rfl) _)
      have HOX : Hid (ObsAt (wa.setCell ⟨gm, r * 2 + 1, none⟩ (.slice (some ⟨gv, 0, none⟩) (nS + 1) capv)) (.slice (some ⟨gm, 0, none⟩) n cm) (addS l r s0)) := Lib.hid (by
        rw [HN.out]
        refine apart_obs HC5.out (by rw [← HN.out]; exact hrn) s0 (vr := .slice ra rn rc) (vn := .slice na nn nc) (V := .slice (some ⟨gv, 0, none⟩) (nS + 1) capv) (B' := w3.heap.size) ?_ h7 (HRel.out _ HBX.out) (HNot.out _ HBX.out)
        rw [HC0.out]
        have e9 : (symsN l r).length + 1 = nS + 1 := by rw [HNS.out]
        rw [e9]
        exact h6)
      clear h6 h7 hrowA
      refine hK.out _ _ (HSX.out _ HXA.out) (fun hSw => ?_)
      clear hK K
      try simp only [Act.put, List.setIfInBounds_toArray, List.set_cons_zero, List.set_cons_succ, List.getElem_toArray, List.getElem_cons_succ, List.getElem_cons_zero]
      refine wpAnyH_take (i := 10) (v := .pointer (some ⟨gm, r * 2, none⟩)) rfl (by kernel_rfl) (by kernel_rfl) (by kernel_rfl) (fun _ _ _ h => h) (Or.inl ⟨by rfl, fun w hSw => by (try dsimp only at hSw); go_simp⟩) (by assumption) ?_
      try simp only [Act.put, List.setIfInBounds_toArray, List.set_cons_zero, List.set_cons_succ, List.getElem_toArray, List.getElem_cons_succ, List.getElem_cons_zero]
      refine wpAnyH_take (i := 11) (v := .pointer (some ⟨gm, r * 2 + 1, none⟩)) rfl (by kernel_rfl) (by kernel_rfl) (by kernel_rfl) (fun _ _ _ h => h) (Or.inl ⟨by rfl, fun w hSw => by (try dsimp only at hSw); go_simp⟩) (by assumption) ?_
      try simp only [Act.put, List.setIfInBounds_toArray, List.set_cons_zero, List.set_cons_succ, List.getElem_toArray, List.getElem_cons_succ, List.getElem_cons_zero]
      refine wpAnyH_ready (rs := [12]) (by kernel_rfl) (by simp) ?_
      refine AllReadyH.cons (o := _) rfl (fun K hK => ?_) AllReadyH.nil
      go_simp
      refine hK.out _ _ (HSX.out _ HXX.out) (fun hSw => ?_)
      clear hK K
      try simp only [Act.put, List.setIfInBounds_toArray, List.set_cons_zero, List.set_cons_succ, List.getElem_toArray, List.getElem_cons_succ, List.getElem_cons_zero]
      refine wpAnyH_done (by kernel_rfl) ?_ _
      go_wp2_with fail
      go_meet
      exact ⟨HOX, HBX⟩
  case rest =>
    obtain ⟨HO, HB⟩ := hcut
    clear HB4 HX4 HC HW3
    have hrl : r < l.length := by rw [← HN.out]; exact hrn
    have HRL := Lib.hid hrl
    obtain ⟨CN1, hCN1⟩ : ∃ CN, CN = tx (checkL l).1 := ⟨_, rfl⟩
    obtain ⟨E1, hE1⟩ : ∃ E, E = (checkL l).2 := ⟨_, rfl⟩
    obtain ⟨CN2, hCN2⟩ : ∃ CN, CN = tx (checkL (addS l r s0)).1 := ⟨_, rfl⟩
    obtain ⟨E2, hE2⟩ : ∃ E, E = (checkL (addS l r s0)).2 := ⟨_, rfl⟩
    have HFA := Lib.hid (fits_add hrl HF.out HTT.out HF0.out)
    have HSame := Lib.hid (fun (F : Int) (h : F ≠ (r : Int)) (h1 : E1 = 0) (h2 : E2 = 0) => fnd_add (l := l) (s := s0) (fr := F) hrl HB0.out h (by' nm) (by rw [← hE1]; exact h1) (by rw [← hE2]; exact h2))
    have C1 := Lib.hid (vcheck_any l (.slice a n c) HF.out wc (HAL.out _ HB.out))
    have C2 := Lib.hid (fun W (hq : ObsAt W (.slice (some ⟨gm, 0, none⟩) n cm) (addS l r s0)) => vcheck_any (addS l r s0) _ HFA.out W hq)
    have C3 := Lib.hid (fun F W (hq : ObsAt W (.slice a n c) l) => vFind_any l (.slice a n c) F nm HF.out HT.out W hq)
    have C4 := Lib.hid (fun F W (hq : ObsAt W (.slice (some ⟨gm, 0, none⟩) n cm) (addS l r s0)) => vFind_any (addS l r s0) _ F nm HFA.out HT.out W hq)
    rw [← hCN1, ← hE1] at C1
    rw [← hCN2, ← hE2] at C2
    clear hCN1 hE1 hCN2 hE2 hrl
    go_wp2_with fail
    refine C1.out.mono ?_; rintro e w7 ⟨rfl, q⟩
    have HB7 := Lib.hid (below_call HB.out q)
    have HO7 := Lib.hid (HO.out.below q)
    clear q HB HO C1
    go_wp2_with fail
    refine (C2.out _ HO7.out).mono ?_; rintro e w8 ⟨rfl, q⟩
    have HB := Lib.hid (below_call HB7.out q)
    have HO := Lib.hid (HO7.out.below q)
    clear q HB7 HO7 C2
    by_cases h1 : E1 = 0
    case neg =>
      have hb1 : (E1 != 0) = true := by rw [bne_iff_ne]; exact h1
      have hd1 : decide (E1 = 0) = false := decide_eq_false h1
      clear h1
      go_wp2_with fail
      refine (HAv.out _ HB.out).mono ?_; rintro e w99 ⟨rfl, q⟩
      have HQ := Lib.hid q
      clear q
      go_wp2_with fail
      go_ret
      exact ⟨rfl, HQ.out⟩
    by_cases h2 : E2 = 0
    case neg =>
      have hb2 : (E2 != 0) = true := by rw [bne_iff_ne]; exact h2
      have hd2 : decide (E2 = 0) = false := decide_eq_false h2
      subst h1
      clear h2
      go_wp2_with fail
      refine (HAv.out _ HB.out).mono ?_; rintro e w99 ⟨rfl, q⟩
      have HQ := Lib.hid q
      clear q
      go_wp2_with fail
      go_ret
      exact ⟨rfl, HQ.out⟩
    subst h1 h2
    have HSm := Lib.hid (fun (F : Int) (h : F ≠ (r : Int)) => HSame.out F h rfl rfl)
    clear HSame
    go_wp2_with fail
    go_loopw [15] (fun i wr => ∃ k : Nat, (k : Int) ≤ (n : Int) + 1 ∧ i = .int .i64 ((k : Int) - 1) ∧ Hid (Below w.heap.size w wr) ∧ Hid (ObsAt wr (.slice (some ⟨gm, 0, none⟩) n cm) (addS l r s0))) (fun i _ => n + 1 - (intOf i + 1).toNat)
    case atStart => exact ⟨0, by omega, rfl, HB, HO⟩
    case round =>
      clear HB HO
      obtain ⟨k, hk, rfl, HB, HO⟩ := hrel
      obtain ⟨F, hF⟩ : ∃ F : Int, F = (k : Int) - 1 := ⟨_, rfl⟩
      have hF1 : -1 ≤ F := by omega
      have hF2 : F ≤ (n : Int) := by omega
      have HK := Lib.hid hF
      rw [← hF]
      clear hF
      by_cases hlt : F < (n : Int)
      · have hvw : IntKind.i64.wrap (F + 1) = F + 1 := by rw [IntKind.wrap_i64]; omega
        have HMe : Hid (n + 1 - (F + 1 + 1).toNat < n + 1 - (F + 1).toNat) := Lib.hid (by omega)
        have D3 := Lib.hid (C3.out F _ (HAL.out _ HB.out))
        have D4 := Lib.hid (fun W hq => C4.out F W hq)
        obtain ⟨X, hX⟩ : ∃ X : Int, X = ((fndL l F (by' nm)).1.1 : Int) := ⟨_, rfl⟩
        obtain ⟨Y, hY⟩ : ∃ Y : Int, Y = ((fndL l F (by' nm)).1.2 : Int) := ⟨_, rfl⟩
        obtain ⟨Z, hZ⟩ : ∃ Z : Int, Z = (fndL l F (by' nm)).2 := ⟨_, rfl⟩
        obtain ⟨X2, hX2⟩ : ∃ X : Int, X = ((fndL (addS l r s0) F (by' nm)).1.1 : Int) := ⟨_, rfl⟩
        obtain ⟨Y2, hY2⟩ : ∃ Y : Int, Y = ((fndL (addS l r s0) F (by' nm)).1.2 : Int) := ⟨_, rfl⟩
        obtain ⟨Z2, hZ2⟩ : ∃ Z : Int, Z = (fndL (addS l r s0) F (by' nm)).2 := ⟨_, rfl⟩
        have HEq : Hid (F ≠ (r : Int) → X2 = X ∧ Y2 = Y ∧ Z2 = Z) := Lib.hid (fun h => by
          have h9 := HSm.out F h
          rw [hX2, hY2, hZ2, hX, hY, hZ, h9]
          exact ⟨rfl, rfl, rfl⟩)
        have D3 := Lib.hid (show Calls Try.prog 11 #[.slice a n c, .int .i64 F, .string nm] wr (fun e w' => e = .returned (.tuple #[.agg #[.int .i64 X, .int .i64 Y], .int .i64 Z]) ∧ Below wr.heap.size wr w') from by rw [hX, hY, hZ]; exact D3.out)
        have D4 := Lib.hid (show ∀ W, ObsAt W (.slice (some ⟨gm, 0, none⟩) n cm) (addS l r s0) → Calls Try.prog 11 #[.slice (some ⟨gm, 0, none⟩) n cm, .int .i64 F, .string nm] W (fun e w' => e = .returned (.tuple #[.agg #[.int .i64 X2, .int .i64 Y2], .int .i64 Z2]) ∧ Below W.heap.size W w') from fun W hq => by rw [hX2, hY2, hZ2]; exact D4.out W hq)
        clear hX hY hZ hX2 hY2 hZ2
        go_wp2_with fail
        refine D3.out.mono ?_; rintro e w9 ⟨rfl, q⟩
        have HB9 := Lib.hid (below_box (below_call HB.out q) (.cells #[.int .i64 X, .int .i64 Y] 24))
        have HO9 := Lib.hid ((HO.out.below q).below (below_new1 w9 (.cells #[.int .i64 X, .int .i64 Y] 24)))
        have HP9 := Lib.hid (Blk.new w9 24 [.int .i64 X, .int .i64 Y])
        clear q HB HO D3
        go_wp2_with fail
        refine (D4.out _ HO9.out).mono ?_; rintro e w10 ⟨rfl, q⟩
        have HB10 := Lib.hid (below_box (below_call HB9.out q) (.cells #[.int .i64 X2, .int .i64 Y2] 24))
        have HO10 := Lib.hid ((HO9.out.below q).below (below_new1 w10 (.cells #[.int .i64 X2, .int .i64 Y2] 24)))
        have HP10 := Lib.hid ((HP9.out.call q).alloc (.cells #[.int .i64 X2, .int .i64 Y2] 24))
        have HQ10 := Lib.hid (Blk.new w10 24 [.int .i64 X2, .int .i64 Y2])
        clear q HB9 HO9 HP9 D4
        obtain ⟨p0, p1, -, -, pl⟩ := HP10.out.st2
        obtain ⟨q0, q1, -, -, ql⟩ := HQ10.out.st2
        by_cases hFr : F = (r : Int)
        · have hb1 : (F != (r : Int)) = false := by rw [hFr]; exact bne_self_eq_false _
          have hb2 : decide (F = (r : Int)) = true := decide_eq_true hFr
          clear HEq hFr
          go_wp2_with fail
          go_roundw
          case rel => exact ⟨k + 1, by have := HK.out; omega, by have := HK.out; congr 1; omega, HB10, HO10⟩
          case measure => simp [intOf]; first | exact HMe.out | omega
        · have hb1 : (F != (r : Int)) = true := by rw [bne_iff_ne]; exact hFr
          have hb2 : decide (F = (r : Int)) = false := decide_eq_false hFr
          obtain ⟨rfl, rfl, rfl⟩ := HEq.out hFr
          clear HEq hFr
          go_wp2_with fail
          go_roundw
          case rel => exact ⟨k + 1, by have := HK.out; omega, by have := HK.out; congr 1; omega, HB10, HO10⟩
          case measure => simp [intOf]; first | exact HMe.out | omega
      · have hd : decide (F < (n : Int)) = false := decide_eq_false hlt
        clear hlt
        go_wp2_with fail
        refine (HAv.out _ HB.out).mono ?_; rintro e w99 ⟨rfl, q⟩
        have HQ := Lib.hid q
        clear q
        go_wp2_with fail
        go_ret
        exact ⟨rfl, HQ.out⟩
end Go.Proofs.Ytfnofolahhoggaa
