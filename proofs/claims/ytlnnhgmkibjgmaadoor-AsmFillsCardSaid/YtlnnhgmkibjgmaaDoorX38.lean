/- The maker's refer, walked. -/
import Derived.Test.YtlnnhgmkibjgmaaDoorX37
import Derived.Deep.AppendLies
import Derived.Deep.DeepCutAuto
set_option linter.unusedVariables false
set_option linter.unusedSimpArgs false
namespace Go.Proofs.YtlnnhgmkibjgmaaDoor
open Go Go.RowKit Go.Maps Oj Al

theorem new_rel (W : World) (a b c d : Value) : ∀ j u, [a, b, c, d][j]? = some u → (W.alloc (.cells #[a, b, c, d] 58)).cell? ((⟨W.heap.size, 0, none⟩ : Addr).add j) = some u :=
  World.news_of_block (cs := #[a, b, c, d]) (t := 58) (fr := (0, 0)) (heap_alloc_new W _)
theorem rlOne (a c : Int) (t : ByteArray) (d : Int) : ∀ u ∈ [Value.int .u32 a, .int .u8 c, .string t, .int .u32 d], u.oneCell' = true := by
  intro u hu
  simp only [List.mem_cons, List.not_mem_nil, or_false] at hu
  rcases hu with rfl | rfl | rfl | rfl <;> rfl
set_option maxHeartbeats 16000000 in
set_option maxRecDepth 100000 in
theorem refer_any (l : List Ln) (v : Value) (W : World) (g b n0 : Nat) (nm : ByteArray) (c1 c2 c3 c4 c6 : Value) (W0 : World) (hB0 : Below W0.heap.size W0 W) (hg0 : W0.heap.size ≤ g) (hl : l.length ≤ 1024) (hA : LinesAt W0 v l) (hF : lnsFit l)
    (hok : ∀ k, k < l.length → lnOk (l.getD k Ln.nought) = true) (hG : Blk W g 65 [.string nm, c1, c2, c3, c4, .slice none 0 0, c6, .map (some b)]) (hL : LabIs W b n0 (labM l l.length)) :
    Calls Tryd.prog 34 #[.pointer (some ⟨g, 0, none⟩), v] W (RefP W g l nm c1 c2 c3 c4 c6 (.map (some b))) := by
  obtain ⟨ao, c, rfl, h2⟩ := hA
  obtain ⟨iR, hi, hz, hs, hby⟩ := info_parts infoRel
  have HI := Lib.hid (And.intro hi (And.intro hz (And.intro hs hby)))
  have H2 := Lib.hid h2
  have HW0 : Hid (∀ wr, W.grownBy wr (some g) → Below W0.heap.size W0 wr) := Lib.hid (fun wr h => hB0.grown h hB0.size (fun k hk => by cases hk; exact hg0))
  have HNO : Hid (∀ k, k < l.length → toOk l k = false → ∀ w', W.grownBy w' (some g) → RefP W g l nm c1 c2 c3 c4 c6 (.map (some b)) (.returned (.int .i64 3)) w') := Lib.hid (fun k hk h w' hw => .inl ⟨allN_false hk h, rfl, hw⟩)
  have HYES : Hid ((∀ j, j < l.length → toOk l j = true) → ∀ vr w', RI W w' g b n0 (labM l l.length) nm c1 c2 c3 c4 c6 vr (relsL (by' nm) l l.length) → RefP W g l nm c1 c2 c3 c4 c6 (.map (some b)) (.returned (.int .i64 0)) w') := Lib.hid (fun h vr w' h1 => .inr ⟨allN_true h, rfl, h1.gb, vr, h1.mak, h1.row⟩)
  have HOK := Lib.hid hok
  have HLEN : Hid (∀ k, k < l.length → (l.getD k Ln.nought).to.length ≤ 140737488355328) := Lib.hid (fun k hk => (hF.2 k hk).2.2.2.2.2.2.1)
  have HRLE : Hid (∀ k, (relsL (by' nm) l k).length ≤ 2 * k) := Lib.hid (relsL_le (by' nm) l)
  have HM : Hid (∀ s, s ≠ [] → labM l l.length s = findL l s) := Lib.hid (fun s h => labM_find h)
  obtain ⟨M, hM⟩ : ∃ M, M = labM l l.length := ⟨_, rfl⟩
  rw [← hM] at hL HYES HM
  have HGW : Hid (g < W.heap.size) := Lib.hid hG.lt
  have HR0 : Hid (RI W W g b n0 M nm c1 c2 c3 c4 c6 (.slice none 0 0) (relsL (by' nm) l 0)) := Lib.hid ⟨hG, hL, ⟨rfl, rfl, rfl, Nat.le_refl _, fun _ _ _ => rfl⟩, World.ownsRow_nil W W.heap.size 58 4⟩
  obtain ⟨n, hn⟩ : ∃ n, n = l.length := ⟨_, rfl⟩
  have hni : (n : Int) ≤ 1024 := by omega
  rw [← hn] at HNO HYES HOK HLEN H2 ⊢
  clear hn hl hF hG hL hM h2 hok hi hz hs hby
  go_enter Tryd.func34, Tryd.ntmps34
  go_wp2_with fail
  go_loopw [12] (fun i wr => ∃ k : Nat, (k : Int) ≤ n ∧ i = .int .i64 k ∧ ∃ vr, Hid (RI W wr g b n0 M nm c1 c2 c3 c4 c6 vr (relsL (by' nm) l k)) ∧ Hid (∀ j, j < k → toOk l j = true)) (fun i _ => n - (intOf i).toNat)
  case atStart => exact ⟨0, by omega, rfl, _, HR0, Lib.hid (fun j hj => absurd hj (Nat.not_lt_zero j))⟩
  case round =>
    obtain ⟨k, hk, rfl, vr, hR, hO⟩ := hrel
    by_cases hlt : k < n
    · obtain ⟨gb, o, rfl, hbl, hcl⟩ := H2.out (by omega)
      have hcx := hcl k hlt
      have HLk := Lib.hid (HLEN.out k hlt)
      have HNk := Lib.hid (HNO.out k hlt)
      have HRF := Lib.hid (arefers_any (l.getD k Ln.nought))
      have HAD : Hid (adr (l.getD k Ln.nought) = false → relsL (by' nm) l (k + 1) = relsL (by' nm) l k ∧ toOk l k = true) := Lib.hid (fun h => ⟨by rw [relsL, relsAt_none h, List.append_nil], toOk_none (adr_none h)⟩)
      have HNM : Hid (adr (l.getD k Ln.nought) = true → (l.getD k Ln.nought).to = [] → relsL (by' nm) l (k + 1) = relsL (by' nm) l k ++ [⟨8 * (k : Int) + 4, 1, (l.getD k Ln.nought).name, (l.getD k Ln.nought).im⟩] ∧ toOk l k = true) := Lib.hid (fun h h2 => ⟨by rw [relsL, relsAt_name h h2], toOk_none h2⟩)
      have HTO : Hid ((l.getD k Ln.nought).to ≠ [] → ∀ i, findL l (l.getD k Ln.nought).to = some i → relsL (by' nm) l (k + 1) = relsL (by' nm) l k ++ [⟨8 * (k : Int) + 4, 1, by' nm, 8 * (i : Int)⟩] ∧ toOk l k = true) := Lib.hid (fun h i hi => ⟨by rw [relsL, relsAt_to (HOK.out k hlt) h hi], toOk_some hi⟩)
      have HTN : Hid ((l.getD k Ln.nought).to ≠ [] → findL l (l.getD k Ln.nought).to = none → toOk l k = false) := Lib.hid (fun h hi => toOk_no h hi)
      have HLE : Hid ((relsL (by' nm) l k).length + 1 ≤ 4096) := Lib.hid (by have := HRLE.out k; omega)
      have HOk : Hid (toOk l k = true → ∀ j, j < k + 1 → toOk l j = true) := Lib.hid (fun h j hj => by
        rcases Nat.lt_or_ge j k with h1 | h1
        · exact hO.out j h1
        · obtain rfl : j = k := by omega
          exact h)
      obtain ⟨LR, hLR⟩ : ∃ t, t = relsL (by' nm) l k := ⟨_, rfl⟩
      rw [← hLR] at hR HAD HNM HTO HLE
      obtain ⟨x, hx⟩ : ∃ x, x = l.getD k Ln.nought := ⟨_, rfl⟩
      rw [← hx] at hcx HLk HRF HAD HNM HTO HTN
      obtain ⟨A0, hA0⟩ : ∃ t, t = adr x := ⟨_, rfl⟩
      rw [← hA0] at HRF HAD HNM
      obtain ⟨lb, op, d, a, bb, im, dst, nam⟩ := x
      unfold lnCells at hcx
      unfold lnV at HRF
      simp only at hcx HLk HRF HNM HTO HTN
      have he := empty_eq (tx dst)
      rw [by_tx] at he
      obtain ⟨L, hL⟩ : ∃ L, L = tx lb := ⟨_, rfl⟩
      obtain ⟨T, hTt⟩ : ∃ L, L = tx dst := ⟨_, rfl⟩
      obtain ⟨N, hN⟩ : ∃ L, L = tx nam := ⟨_, rfl⟩
      rw [← hL, ← hTt, ← hN] at hcx HRF
      rw [← hTt] at he
      have HBY : Hid (by' T = dst) := Lib.hid (by rw [hTt, by_tx])
      have HTX : Hid (tx nam = N) := Lib.hid hN.symm
      have HTS : Hid (T.size ≤ 140737488355328) := Lib.hid (by rw [hTt]; exact HLk.out)
      have hbw := HW0.out wr hR.out.gb
      have y0 := (hbw.cell (p := ⟨gb, o + k * 8 + 0, none⟩) hbl).trans (hcx 0 _ rfl)
      have y1 := (hbw.cell (p := ⟨gb, o + k * 8 + 1, none⟩) hbl).trans (hcx 1 _ rfl)
      have y2 := (hbw.cell (p := ⟨gb, o + k * 8 + 2, none⟩) hbl).trans (hcx 2 _ rfl)
      have y3 := (hbw.cell (p := ⟨gb, o + k * 8 + 3, none⟩) hbl).trans (hcx 3 _ rfl)
      have y4 := (hbw.cell (p := ⟨gb, o + k * 8 + 4, none⟩) hbl).trans (hcx 4 _ rfl)
      have y5 := (hbw.cell (p := ⟨gb, o + k * 8 + 5, none⟩) hbl).trans (hcx 5 _ rfl)
      have y6 := (hbw.cell (p := ⟨gb, o + k * 8 + 6, none⟩) hbl).trans (hcx 6 _ rfl)
      have y7 := (hbw.cell (p := ⟨gb, o + k * 8 + 7, none⟩) hbl).trans (hcx 7 _ rfl)
      rw [Nat.add_zero] at y0
      have hdk : decide (k < n) = true := decide_eq_true hlt
      have hki : (k : Int) < 1024 := by omega
      have HWS : Hid (W.heap.size ≤ wr.heap.size) := Lib.hid hR.out.gb.size
      clear hcx hcl hx hA0 hLR hL hTt hN HLk hbw
      go_upto_region 4 with (fail)
      have HX1 := Lib.hid (Blk.new wr 42 [.string L, .int .u8 op, .int .u8 d, .int .u8 a, .int .u8 bb, .int .u32 im, .string T, .string N])
      have HR1 := Lib.hid (hR.out.below (below_new1 wr (.cells #[.string L, .int .u8 op, .int .u8 d, .int .u8 a, .int .u8 bb, .int .u32 im, .string T, .string N] 42)))
      obtain ⟨g3, hg3⟩ : ∃ t, t = wr.heap.size := ⟨_, rfl⟩
      obtain ⟨w3, hw3⟩ : ∃ t, t = wr.alloc (.cells #[.string L, .int .u8 op, .int .u8 d, .int .u8 a, .int .u8 bb, .int .u32 im, .string T, .string N] 42) := ⟨_, rfl⟩
      rw [← hw3] at HX1 HR1 ⊢
      rw [← hg3] at HX1 ⊢
      clear hw3 hg3 y0 y1 y2 y3 y4 y5 y6 y7 hR hO HWS
      obtain ⟨y0, y1, y2, y3, y4, y5, y6, y7⟩ := HX1.out.eight
      go_wp2_with fail
      refine (HRF.out _).mono ?_; rintro e w4 ⟨rfl, q4⟩
      have HX2 := Lib.hid (HX1.out.call q4)
      have HR2 := Lib.hid (HR1.out.below q4)
      clear q4 HX1 HR1 HRF y0 y1 y2 y3 y4 y5 y6 y7
      cases A0
      · have HR3 : Hid (RI W w4 g b n0 M nm c1 c2 c3 c4 c6 vr (relsL (by' nm) l (k + 1))) := Lib.hid (by rw [(HAD.out rfl).1]; exact HR2.out)
        have HO2 := Lib.hid (HOk.out (HAD.out rfl).2)
        clear HAD HNM HTO HTN HOk HR2 HX2 HBY he HNk
        go_wp2_with fail
        go_roundw
        case rel => exact ⟨k + 1, by omega, by go_num, _, HR3, HO2⟩
        case measure => simp [intOf]; omega
      go_upto_region 5 with (fail)
      have HOf : Hid (∀ W' : World, Calls Tryd.prog 54 #[.int .i64 (k : Int)] W' fun e w' => e = .returned (.int .u32 (8 * (k : Int))) ∧ W' = w') := Lib.hid (fun W' => aoffset_any k (by omega) W')
      have hR3 := Lib.hid (HR2.out.below (below_drewN w4 1))
      have HX3 : Hid (Blk (w4.drewN 1) g3 42 [.string L, .int .u8 op, .int .u8 d, .int .u8 a, .int .u8 bb, .int .u32 im, .string T, .string N]) := Lib.hid HX2.out
      obtain ⟨w5, hw5⟩ : ∃ t, t = w4.drew := ⟨_, rfl⟩
      have hR5 : Hid (RI W w5 g b n0 M nm c1 c2 c3 c4 c6 vr LR) := Lib.hid (by rw [hw5]; exact hR3.out)
      have HX5 : Hid (Blk w5 g3 42 [.string L, .int .u8 op, .int .u8 d, .int .u8 a, .int .u8 bb, .int .u32 im, .string T, .string N]) := Lib.hid (by rw [hw5]; exact HX3.out)
      have hS0 : w4.cell? ⟨g3, 7, none⟩ = some (.string N) ∧ w4.cell? ⟨g3, 5, none⟩ = some (.int .u32 im) := ⟨HX2.out.cell 7, HX2.out.cell 5⟩
      have HWN : Hid (W.heap.size ≤ w5.heap.size) := Lib.hid hR5.out.gb.size
      clear hR3 HX3 HX2 HR2
      go_cut [7] (fun s7 wx => ∃ g4, s7 = .pointer (some ⟨g4, 0, none⟩) ∧ Hid (Blk wx g4 58 [.int .u32 (8 * (k : Int) + 4), .int .u8 1, .string N, .int .u32 im]) ∧ Hid (Blk wx g3 42 [.string L, .int .u8 op, .int .u8 d, .int .u8 a, .int .u8 bb, .int .u32 im, .string T, .string N]) ∧ Hid (RI W wx g b n0 M nm c1 c2 c3 c4 c6 vr LR) ∧ Hid (W.heap.size ≤ g4 ∧ g ≠ g4 ∧ g3 ≠ g4 ∧ vr.ownBlock ≠ some g4))
      case first =>
        refine wp_region_held_drew (S := fun w' => w'.cell? ⟨g3, 7, none⟩ = some (.string N) ∧ w'.cell? ⟨g3, 5, none⟩ = some (.int .u32 im)) (by kernel_rfl) hS0 (fun hSw => ?_)
        rw [← hw5]
        rw [← hw5] at hSw
        clear hw5 hS0
        refine wpAnyH_take (i := 0) (v := .int .i64 (k : Int)) rfl (by kernel_rfl) (by kernel_rfl) (by kernel_rfl) (fun _ _ _ h => h) (Or.inl ⟨by rfl, fun w hSw => by (try dsimp only at hSw); go_simp⟩) (by assumption) ?_
        try simp only [Act.put, List.setIfInBounds_toArray, List.set_cons_zero, List.set_cons_succ, List.getElem_toArray, List.getElem_cons_succ, List.getElem_cons_zero]
        refine wpAnyH_take (i := 3) (v := .pointer (some ⟨g3, 7, none⟩)) rfl (by kernel_rfl) (by kernel_rfl) (by kernel_rfl) (fun _ _ _ h => h) (Or.inl ⟨by rfl, fun w hSw => by (try dsimp only at hSw); go_simp⟩) (by assumption) ?_
        try simp only [Act.put, List.setIfInBounds_toArray, List.set_cons_zero, List.set_cons_succ, List.getElem_toArray, List.getElem_cons_succ, List.getElem_cons_zero]
        refine wpAnyH_take (i := 4) (v := .string N) rfl (by kernel_rfl) (by kernel_rfl) (by kernel_rfl) (fun _ _ _ h => h) (Or.inl ⟨by rfl, fun w hSw => by (try dsimp only at hSw); go_simp⟩) (by assumption) ?_
        try simp only [Act.put, List.setIfInBounds_toArray, List.set_cons_zero, List.set_cons_succ, List.getElem_toArray, List.getElem_cons_succ, List.getElem_cons_zero]
        refine wpAnyH_take (i := 5) (v := .pointer (some ⟨g3, 1, none⟩)) rfl (by kernel_rfl) (by kernel_rfl) (by kernel_rfl) (fun _ _ _ h => h) (Or.inl ⟨by rfl, fun w hSw => by (try dsimp only at hSw); go_simp⟩) (by assumption) ?_
        try simp only [Act.put, List.setIfInBounds_toArray, List.set_cons_zero, List.set_cons_succ, List.getElem_toArray, List.getElem_cons_succ, List.getElem_cons_zero]
        refine wpAnyH_take (i := 6) (v := .pointer (some ⟨g3, 5, none⟩)) rfl (by kernel_rfl) (by kernel_rfl) (by kernel_rfl) (fun _ _ _ h => h) (Or.inl ⟨by rfl, fun w hSw => by (try dsimp only at hSw); go_simp⟩) (by assumption) ?_
        try simp only [Act.put, List.setIfInBounds_toArray, List.set_cons_zero, List.set_cons_succ, List.getElem_toArray, List.getElem_cons_succ, List.getElem_cons_zero]
        refine wpAnyH_take (i := 7) (v := .int .u32 im) rfl (by kernel_rfl) (by kernel_rfl) (by kernel_rfl) (fun _ _ _ h => h) (Or.inl ⟨by rfl, fun w hSw => by (try dsimp only at hSw); go_simp⟩) (by assumption) ?_
        try simp only [Act.put, List.setIfInBounds_toArray, List.set_cons_zero, List.set_cons_succ, List.getElem_toArray, List.getElem_cons_succ, List.getElem_cons_zero]
        have HSA : Hid (∀ o', (w5.alloc o').cell? ⟨g3, 7, none⟩ = some (.string N) ∧ (w5.alloc o').cell? ⟨g3, 5, none⟩ = some (.int .u32 im)) := Lib.hid (fun o' => ⟨(HX5.out.alloc o').cell 7, (HX5.out.alloc o').cell 5⟩)
        have HF4 := Lib.hid (Blk.new w5 58 [.int .u32 (8 * (k : Int) + 4), .int .u8 1, .string N, .int .u32 im])
        have HXA := Lib.hid (HX5.out.alloc (.cells #[.int .u32 (8 * (k : Int) + 4), .int .u8 1, .string N, .int .u32 im] 58))
        have HRA := Lib.hid (hR5.out.below (below_new1 w5 (.cells #[.int .u32 (8 * (k : Int) + 4), .int .u8 1, .string N, .int .u32 im] 58)))
        have HNA : Hid (W.heap.size ≤ w5.heap.size ∧ g ≠ w5.heap.size ∧ g3 ≠ w5.heap.size ∧ vr.ownBlock ≠ some w5.heap.size) := Lib.hid ⟨HWN.out, Nat.ne_of_lt hR5.out.mak.lt, Nat.ne_of_lt HX5.out.lt, hR5.out.rowlt (Nat.le_refl _)⟩
        have hwr : IntKind.u32.wrap (8 * (k : Int) + 4) = 8 * (k : Int) + 4 := by rw [IntKind.wrap_u32]; omega
        refine wpAnyH_ready (rs := [1, 9]) (by kernel_rfl) (by simp) ?_
        refine (AllReadyH.cons (o := _) rfl (fun K hK => ?_) (AllReadyH.cons (o := _) rfl (fun K hK => ?_) AllReadyH.nil))
        · go_simp
          refine (HOf.out _).mono ?_; rintro e w6 ⟨rfl, rfl⟩
          go_wp2_with fail
          refine hK.out _ _ (⟨HX5.out.cell 7, HX5.out.cell 5⟩) (fun hSw => ?_)
          clear hK K
          try simp only [Act.put, List.setIfInBounds_toArray, List.set_cons_zero, List.set_cons_succ, List.getElem_toArray, List.getElem_cons_succ, List.getElem_cons_zero]
          refine wpAnyH_take (i := 2) (v := .int .u32 (8 * (k : Int) + 4)) rfl (by kernel_rfl) (by kernel_rfl) (by kernel_rfl) (fun _ _ _ h => h) (Or.inl ⟨by rfl, fun w hSw => by (try dsimp only at hSw); go_simp⟩) (by assumption) ?_
          try simp only [Act.put, List.setIfInBounds_toArray, List.set_cons_zero, List.set_cons_succ, List.getElem_toArray, List.getElem_cons_succ, List.getElem_cons_zero]
          refine wpAnyH_take (i := 8) (v := .agg #[.int .u32 (8 * (k : Int) + 4), .int .u8 1, .string N, .int .u32 im]) rfl (by kernel_rfl) (by kernel_rfl) (by kernel_rfl) (fun _ _ _ h => h) (Or.inl ⟨by rfl, fun w hSw => by (try dsimp only at hSw); go_simp⟩) (by assumption) ?_
          try simp only [Act.put, List.setIfInBounds_toArray, List.set_cons_zero, List.set_cons_succ, List.getElem_toArray, List.getElem_cons_succ, List.getElem_cons_zero]
          refine wpAnyH_ready (rs := [9]) (by kernel_rfl) (by simp) ?_
          refine AllReadyH.cons (o := _) rfl (fun K hK => ?_) AllReadyH.nil
          go_simp
          refine hK.out _ _ (HSA.out _) (fun hSw => ?_)
          clear hK K
          try simp only [Act.put, List.setIfInBounds_toArray, List.set_cons_zero, List.set_cons_succ, List.getElem_toArray, List.getElem_cons_succ, List.getElem_cons_zero]
          refine wpAnyH_ready (rs := [10]) (by kernel_rfl) (by simp) ?_
          refine AllReadyH.cons (o := _) rfl (fun K hK => ?_) AllReadyH.nil
          go_simp
          refine hK.out _ _ (HSA.out _) (fun hSw => ?_)
          clear hK K
          try simp only [Act.put, List.setIfInBounds_toArray, List.set_cons_zero, List.set_cons_succ, List.getElem_toArray, List.getElem_cons_succ, List.getElem_cons_zero]
          refine wpAnyH_done (by kernel_rfl) ?_ _
          go_wp2_with fail
          go_meet
          exact ⟨_, rfl, HF4, HXA, HRA, HNA⟩
        · go_simp
          refine hK.out _ _ (HSA.out _) (fun hSw => ?_)
          clear hK K
          try simp only [Act.put, List.setIfInBounds_toArray, List.set_cons_zero, List.set_cons_succ, List.getElem_toArray, List.getElem_cons_succ, List.getElem_cons_zero]
          refine wpAnyH_ready (rs := [1]) (by kernel_rfl) (by simp) ?_
          refine AllReadyH.cons (o := _) rfl (fun K hK => ?_) AllReadyH.nil
          go_simp
          refine (HOf.out _).mono ?_; rintro e w6 ⟨rfl, rfl⟩
          go_wp2_with fail
          refine hK.out _ _ (HSA.out _) (fun hSw => ?_)
          clear hK K
          try simp only [Act.put, List.setIfInBounds_toArray, List.set_cons_zero, List.set_cons_succ, List.getElem_toArray, List.getElem_cons_succ, List.getElem_cons_zero]
          refine wpAnyH_take (i := 2) (v := .int .u32 (8 * (k : Int) + 4)) rfl (by kernel_rfl) (by kernel_rfl) (by kernel_rfl) (fun _ _ _ h => h) (Or.inl ⟨by rfl, fun w hSw => by (try dsimp only at hSw); go_simp⟩) (by assumption) ?_
          try simp only [Act.put, List.setIfInBounds_toArray, List.set_cons_zero, List.set_cons_succ, List.getElem_toArray, List.getElem_cons_succ, List.getElem_cons_zero]
          refine wpAnyH_take (i := 8) (v := .agg #[.int .u32 (8 * (k : Int) + 4), .int .u8 1, .string N, .int .u32 im]) rfl (by kernel_rfl) (by kernel_rfl) (by kernel_rfl) (fun _ _ _ h => h) (Or.inl ⟨by rfl, fun w hSw => by (try dsimp only at hSw); go_simp⟩) (by assumption) ?_
          try simp only [Act.put, List.setIfInBounds_toArray, List.set_cons_zero, List.set_cons_succ, List.getElem_toArray, List.getElem_cons_succ, List.getElem_cons_zero]
          refine wpAnyH_ready (rs := [10]) (by kernel_rfl) (by simp) ?_
          refine AllReadyH.cons (o := _) rfl (fun K hK => ?_) AllReadyH.nil
          go_simp
          refine hK.out _ _ (HSA.out _) (fun hSw => ?_)
          clear hK K
          try simp only [Act.put, List.setIfInBounds_toArray, List.set_cons_zero, List.set_cons_succ, List.getElem_toArray, List.getElem_cons_succ, List.getElem_cons_zero]
          refine wpAnyH_done (by kernel_rfl) ?_ _
          go_wp2_with fail
          go_meet
          exact ⟨_, rfl, HF4, HXA, HRA, HNA⟩
      case rest =>
        obtain ⟨g4, rfl, HG6, HX6, HR6, HNv⟩ := hcut
        obtain ⟨y0, y1, y2, y3, y4, y5, y6, y7⟩ := HX6.out.eight
        by_cases hd : dst = []
        · rw [decide_eq_true hd] at he
          have HEQ := Lib.hid (HNM.out trivial hd)
          have HO2 := Lib.hid (HOk.out HEQ.out.2)
          have HXV : Hid (rlCells ⟨8 * (k : Int) + 4, 1, nam, im⟩ = [.int .u32 (8 * (k : Int) + 4), .int .u8 1, .string N, .int .u32 im]) := Lib.hid (by rw [← HTX.out]; rfl)
          have HG8 := HG6
          have HR8 := HR6
          obtain ⟨w8, hw8⟩ : ∃ t, t = wc := ⟨_, rfl⟩
          rw [← hw8] at HG8 HR8 y0 y1 y2 y3 y4 y5 y6 y7 ⊢
          clear hw8 HG6 HR6 HX6 hd HAD HNM HTO HTN HOk HBY HTX HNk
          go_upto_region 11 with (fail)
          obtain ⟨avr, cvr, hvr⟩ := row_slice HR8.out.row
          subst hvr
          have hS0 : w8.cell? ⟨g4, 0, none⟩ = some (.int .u32 (8 * (k : Int) + 4)) ∧ w8.cell? ⟨g4, 1, none⟩ = some (.int .u8 1) ∧ w8.cell? ⟨g4, 2, none⟩ = some (.string N) ∧ w8.cell? ⟨g4, 3, none⟩ = some (.int .u32 im) := ⟨HG8.out.cell 0, HG8.out.cell 1, HG8.out.cell 2, HG8.out.cell 3⟩
          have HSS : Hid (∀ W', Blk W' g4 58 [.int .u32 (8 * (k : Int) + 4), .int .u8 1, .string N, .int .u32 im] → W'.cell? ⟨g4, 0, none⟩ = some (.int .u32 (8 * (k : Int) + 4)) ∧ W'.cell? ⟨g4, 1, none⟩ = some (.int .u8 1) ∧ W'.cell? ⟨g4, 2, none⟩ = some (.string N) ∧ W'.cell? ⟨g4, 3, none⟩ = some (.int .u32 im)) := Lib.hid (fun W' h => ⟨h.cell 0, h.cell 1, h.cell 2, h.cell 3⟩)
          have HM1 : Hid (LR.length + 1 ≤ maxLen) := Lib.hid (by have := HLE.out; unfold maxLen; omega)
          have HM2 : Hid ((LR.length + 1) * 32 ≤ 140737488355328) := Lib.hid (by have := HLE.out; omega)
          refine wp_region_held_drew (S := fun w' => w'.cell? ⟨g4, 0, none⟩ = some (.int .u32 (8 * (k : Int) + 4)) ∧ w'.cell? ⟨g4, 1, none⟩ = some (.int .u8 1) ∧ w'.cell? ⟨g4, 2, none⟩ = some (.string N) ∧ w'.cell? ⟨g4, 3, none⟩ = some (.int .u32 im)) (by kernel_rfl) hS0 (fun hSw => ?_)
          have HR9 : Hid (RI W w8.drew g b n0 M nm c1 c2 c3 c4 c6 (.slice avr LR.length cvr) LR) := Lib.hid (HR8.out.below (below_drewN w8 1))
          have HG9 : Hid (Blk w8.drew g4 58 [.int .u32 (8 * (k : Int) + 4), .int .u8 1, .string N, .int .u32 im]) := Lib.hid HG8.out
          clear HR8 HG8 hS0
          obtain ⟨w9, hw9⟩ : ∃ t, t = w8.drew := ⟨_, rfl⟩
          rw [← hw9] at HR9 HG9 hSw ⊢
          clear hw9
          refine wpAnyH_take (i := 0) (v := .pointer (some ⟨g, 0, none⟩)) rfl (by kernel_rfl) (by kernel_rfl) (by kernel_rfl) (fun _ _ _ h => h) (Or.inl ⟨by rfl, fun w hSw => by (try dsimp only at hSw); go_simp⟩) (by assumption) ?_
          try simp only [Act.put, List.setIfInBounds_toArray, List.set_cons_zero, List.set_cons_succ, List.getElem_toArray, List.getElem_cons_succ, List.getElem_cons_zero]
          refine wpAnyH_take (i := 1) (v := .pointer (some ⟨g, 0, none⟩)) rfl (by kernel_rfl) (by kernel_rfl) (by kernel_rfl) (fun _ _ _ h => h) (Or.inl ⟨by rfl, fun w hSw => by (try dsimp only at hSw); go_simp⟩) (by assumption) ?_
          try simp only [Act.put, List.setIfInBounds_toArray, List.set_cons_zero, List.set_cons_succ, List.getElem_toArray, List.getElem_cons_succ, List.getElem_cons_zero]
          refine wpAnyH_take (i := 2) (v := .pointer (some ⟨g, 0, none⟩)) rfl (by kernel_rfl) (by kernel_rfl) (by kernel_rfl) (fun _ _ _ h => h) (Or.inl ⟨by rfl, fun w hSw => by (try dsimp only at hSw); go_simp⟩) (by assumption) ?_
          try simp only [Act.put, List.setIfInBounds_toArray, List.set_cons_zero, List.set_cons_succ, List.getElem_toArray, List.getElem_cons_succ, List.getElem_cons_zero]
          refine wpAnyH_take (i := 3) (v := .pointer (some ⟨g, 0, none⟩)) rfl (by kernel_rfl) (by kernel_rfl) (by kernel_rfl) (fun _ _ _ h => h) (Or.inl ⟨by rfl, fun w hSw => by (try dsimp only at hSw); go_simp⟩) (by assumption) ?_
          try simp only [Act.put, List.setIfInBounds_toArray, List.set_cons_zero, List.set_cons_succ, List.getElem_toArray, List.getElem_cons_succ, List.getElem_cons_zero]
          refine wpAnyH_take (i := 4) (v := .pointer (some ⟨g, 5, none⟩)) rfl (by kernel_rfl) (by kernel_rfl) (by kernel_rfl) (fun _ _ _ h => h) (Or.inl ⟨by rfl, fun w hSw => by (try dsimp only at hSw); go_simp⟩) (by assumption) ?_
          try simp only [Act.put, List.setIfInBounds_toArray, List.set_cons_zero, List.set_cons_succ, List.getElem_toArray, List.getElem_cons_succ, List.getElem_cons_zero]
          refine wpAnyH_take (i := 6) (v := .agg #[.int .u32 (8 * (k : Int) + 4), .int .u8 1, .string N, .int .u32 im]) rfl (by kernel_rfl) (by kernel_rfl) (by kernel_rfl) (fun _ _ _ h => h) (Or.inl ⟨by rfl, fun w hSw => by (try dsimp only at hSw); go_simp⟩) (by assumption) ?_
          try simp only [Act.put, List.setIfInBounds_toArray, List.set_cons_zero, List.set_cons_succ, List.getElem_toArray, List.getElem_cons_succ, List.getElem_cons_zero]
          refine wpAnyH_ready (rs := [5, 7]) (by kernel_rfl) (by simp) ?_
          refine (AllReadyH.cons (o := _) rfl (fun K hK => ?_) (AllReadyH.cons (o := _) rfl (fun K hK => ?_) AllReadyH.nil))
          · have m5 := HR9.out.mak.cell 5
            simp only [List.getElem?_cons_zero, List.getElem?_cons_succ] at m5
            go_simp
            refine hK.out _ _ (HSS.out _ HG9.out) (fun hSw => ?_)
            clear hK K
            try simp only [Act.put, List.setIfInBounds_toArray, List.set_cons_zero, List.set_cons_succ, List.getElem_toArray, List.getElem_cons_succ, List.getElem_cons_zero]
            clear m5
            refine wpAnyH_ready (rs := [7]) (by kernel_rfl) (by simp) ?_
            refine AllReadyH.cons (o := _) rfl (fun K hK => ?_) AllReadyH.nil
            go_simp
            have HRA := Lib.hid (HR9.out.below (below_new1 w9 (.cells #[.int .u32 (8 * (k : Int) + 4), .int .u8 1, .string N, .int .u32 im] 58)))
            have HGA := Lib.hid (HG9.out.alloc (.cells #[.int .u32 (8 * (k : Int) + 4), .int .u8 1, .string N, .int .u32 im] 58))
            have HNW := Lib.hid (new_rel w9 (.int .u32 (8 * (k : Int) + 4)) (.int .u8 1) (.string N) (.int .u32 im))
            refine hK.out _ _ (HSS.out _ HGA.out) (fun hSw => ?_)
            clear hK K
            try simp only [Act.put, List.setIfInBounds_toArray, List.set_cons_zero, List.set_cons_succ, List.getElem_toArray, List.getElem_cons_succ, List.getElem_cons_zero]
            refine wpAnyH_ready (rs := [8]) (by kernel_rfl) (by simp) ?_
            refine AllReadyH.cons (o := _) rfl (fun K hK => ?_) AllReadyH.nil
            refine step_append_lies _ (by rfl) _ _ 27 (by rfl) W.heap.size 58 iR _ 4 32 Tryd.underlying27 HI.out.1 HI.out.2.1 HI.out.2.2.1 HI.out.2.2.2 rfl (by decide) _ LR.length _ (by rfl) HRA.out.row ⟨w9.heap.size, 0, none⟩ 1 1 [.int .u32 (8 * (k : Int) + 4), .int .u8 1, .string N, .int .u32 im] (by rfl) rfl HNW.out (rlOne _ _ _ _) (by decide) HM1.out HM2.out HRA.out.gb.size _ rfl ?_
            intro gv capv wa h6 h7 _ _
            rw [← HXV.out] at h6
            obtain ⟨hmk, hRI⟩ := HRA.out.grows h6 h7
            have HRB := Lib.hid hRI
            have HGB := Lib.hid (HGA.out.grown h7 (fun e => HNv.out.2.2.2 e.symm))
            have m7 : wa.frozen? ⟨g, 5, none⟩ = false := hmk.frozen 5
            have m8 : g < wa.heap.size := hmk.lt
            have m9 := hmk.cell 5
            simp only [List.getElem?_cons_zero, List.getElem?_cons_succ] at m9
            clear h6 h7 hRI hmk HRA HGA HNW
            refine hK.out _ _ (HSS.out _ HGB.out) (fun hSw => ?_)
            clear hK K
            try simp only [Act.put, List.setIfInBounds_toArray, List.set_cons_zero, List.set_cons_succ, List.getElem_toArray, List.getElem_cons_succ, List.getElem_cons_zero]
            refine wpAnyH_take (i := 9) (v := .pointer (some ⟨g, 0, none⟩)) rfl (by kernel_rfl) (by kernel_rfl) (by kernel_rfl) (fun _ _ _ h => h) (Or.inl ⟨by rfl, fun w hSw => by (try dsimp only at hSw); go_simp⟩) (by assumption) ?_
            try simp only [Act.put, List.setIfInBounds_toArray, List.set_cons_zero, List.set_cons_succ, List.getElem_toArray, List.getElem_cons_succ, List.getElem_cons_zero]
            refine wpAnyH_take (i := 10) (v := .pointer (some ⟨g, 0, none⟩)) rfl (by kernel_rfl) (by kernel_rfl) (by kernel_rfl) (fun _ _ _ h => h) (Or.inl ⟨by rfl, fun w hSw => by (try dsimp only at hSw); go_simp⟩) (by assumption) ?_
            try simp only [Act.put, List.setIfInBounds_toArray, List.set_cons_zero, List.set_cons_succ, List.getElem_toArray, List.getElem_cons_succ, List.getElem_cons_zero]
            refine wpAnyH_take (i := 11) (v := .pointer (some ⟨g, 5, none⟩)) rfl (by kernel_rfl) (by kernel_rfl) (by kernel_rfl) (fun _ _ _ h => h) (Or.inl ⟨by rfl, fun w hSw => by (try dsimp only at hSw); go_simp⟩) (by assumption) ?_
            try simp only [Act.put, List.setIfInBounds_toArray, List.set_cons_zero, List.set_cons_succ, List.getElem_toArray, List.getElem_cons_succ, List.getElem_cons_zero]
            refine wpAnyH_ready (rs := [12]) (by kernel_rfl) (by simp) ?_
            refine AllReadyH.cons (o := _) rfl (fun K hK => ?_) AllReadyH.nil
            go_simp
            have HGC := Lib.hid (HGB.out.far (p := ⟨g, 5, none⟩) (fun e => HNv.out.2.1 e.symm) (.slice (some ⟨gv, 0, none⟩) (LR.length + 1) capv))
            refine hK.out _ _ (HSS.out _ HGC.out) (fun hSw => ?_)
            clear hK K
            try simp only [Act.put, List.setIfInBounds_toArray, List.set_cons_zero, List.set_cons_succ, List.getElem_toArray, List.getElem_cons_succ, List.getElem_cons_zero]
            refine wpAnyH_done (by kernel_rfl) ?_ _
            rw [← HEQ.out.1] at HRB
            clear HGB HGC HG9 HXV HSS HNv m7 m8 m9 hSw HEQ
            go_wp2_with fail
            go_roundw
            case rel => exact ⟨k + 1, by omega, by go_num, _, HRB, HO2⟩
            case measure => simp [intOf]; omega
          · go_simp
            have HRA := Lib.hid (HR9.out.below (below_new1 w9 (.cells #[.int .u32 (8 * (k : Int) + 4), .int .u8 1, .string N, .int .u32 im] 58)))
            have HGA := Lib.hid (HG9.out.alloc (.cells #[.int .u32 (8 * (k : Int) + 4), .int .u8 1, .string N, .int .u32 im] 58))
            have HNW := Lib.hid (new_rel w9 (.int .u32 (8 * (k : Int) + 4)) (.int .u8 1) (.string N) (.int .u32 im))
            refine hK.out _ _ (HSS.out _ HGA.out) (fun hSw => ?_)
            clear hK K
            try simp only [Act.put, List.setIfInBounds_toArray, List.set_cons_zero, List.set_cons_succ, List.getElem_toArray, List.getElem_cons_succ, List.getElem_cons_zero]
            refine wpAnyH_ready (rs := [5]) (by kernel_rfl) (by simp) ?_
            refine AllReadyH.cons (o := _) rfl (fun K hK => ?_) AllReadyH.nil
            have m5 := HRA.out.mak.cell 5
            simp only [List.getElem?_cons_zero, List.getElem?_cons_succ] at m5
            go_simp
            refine hK.out _ _ (HSS.out _ HGA.out) (fun hSw => ?_)
            clear hK K
            try simp only [Act.put, List.setIfInBounds_toArray, List.set_cons_zero, List.set_cons_succ, List.getElem_toArray, List.getElem_cons_succ, List.getElem_cons_zero]
            clear m5
            refine wpAnyH_ready (rs := [8]) (by kernel_rfl) (by simp) ?_
            refine AllReadyH.cons (o := _) rfl (fun K hK => ?_) AllReadyH.nil
            refine step_append_lies _ (by rfl) _ _ 27 (by rfl) W.heap.size 58 iR _ 4 32 Tryd.underlying27 HI.out.1 HI.out.2.1 HI.out.2.2.1 HI.out.2.2.2 rfl (by decide) _ LR.length _ (by rfl) HRA.out.row ⟨w9.heap.size, 0, none⟩ 1 1 [.int .u32 (8 * (k : Int) + 4), .int .u8 1, .string N, .int .u32 im] (by rfl) rfl HNW.out (rlOne _ _ _ _) (by decide) HM1.out HM2.out HRA.out.gb.size _ rfl ?_
            intro gv capv wa h6 h7 _ _
            rw [← HXV.out] at h6
            obtain ⟨hmk, hRI⟩ := HRA.out.grows h6 h7
            have HRB := Lib.hid hRI
            have HGB := Lib.hid (HGA.out.grown h7 (fun e => HNv.out.2.2.2 e.symm))
            have m7 : wa.frozen? ⟨g, 5, none⟩ = false := hmk.frozen 5
            have m8 : g < wa.heap.size := hmk.lt
            have m9 := hmk.cell 5
            simp only [List.getElem?_cons_zero, List.getElem?_cons_succ] at m9
            clear h6 h7 hRI hmk HRA HGA HNW
            refine hK.out _ _ (HSS.out _ HGB.out) (fun hSw => ?_)
            clear hK K
            try simp only [Act.put, List.setIfInBounds_toArray, List.set_cons_zero, List.set_cons_succ, List.getElem_toArray, List.getElem_cons_succ, List.getElem_cons_zero]
            refine wpAnyH_take (i := 9) (v := .pointer (some ⟨g, 0, none⟩)) rfl (by kernel_rfl) (by kernel_rfl) (by kernel_rfl) (fun _ _ _ h => h) (Or.inl ⟨by rfl, fun w hSw => by (try dsimp only at hSw); go_simp⟩) (by assumption) ?_
            try simp only [Act.put, List.setIfInBounds_toArray, List.set_cons_zero, List.set_cons_succ, List.getElem_toArray, List.getElem_cons_succ, List.getElem_cons_zero]
            refine wpAnyH_take (i := 10) (v := .pointer (some ⟨g, 0, none⟩)) rfl (by kernel_rfl) (by kernel_rfl) (by kernel_rfl) (fun _ _ _ h => h) (Or.inl ⟨by rfl, fun w hSw => by (try dsimp only at hSw); go_simp⟩) (by assumption) ?_
            try simp only [Act.put, List.setIfInBounds_toArray, List.set_cons_zero, List.set_cons_succ, List.getElem_toArray, List.getElem_cons_succ, List.getElem_cons_zero]
            refine wpAnyH_take (i := 11) (v := .pointer (some ⟨g, 5, none⟩)) rfl (by kernel_rfl) (by kernel_rfl) (by kernel_rfl) (fun _ _ _ h => h) (Or.inl ⟨by rfl, fun w hSw => by (try dsimp only at hSw); go_simp⟩) (by assumption) ?_
            try simp only [Act.put, List.setIfInBounds_toArray, List.set_cons_zero, List.set_cons_succ, List.getElem_toArray, List.getElem_cons_succ, List.getElem_cons_zero]
            refine wpAnyH_ready (rs := [12]) (by kernel_rfl) (by simp) ?_
            refine AllReadyH.cons (o := _) rfl (fun K hK => ?_) AllReadyH.nil
            go_simp
            have HGC := Lib.hid (HGB.out.far (p := ⟨g, 5, none⟩) (fun e => HNv.out.2.1 e.symm) (.slice (some ⟨gv, 0, none⟩) (LR.length + 1) capv))
            refine hK.out _ _ (HSS.out _ HGC.out) (fun hSw => ?_)
            clear hK K
            try simp only [Act.put, List.setIfInBounds_toArray, List.set_cons_zero, List.set_cons_succ, List.getElem_toArray, List.getElem_cons_succ, List.getElem_cons_zero]
            refine wpAnyH_done (by kernel_rfl) ?_ _
            rw [← HEQ.out.1] at HRB
            clear HGB HGC HG9 HXV HSS HNv m7 m8 m9 hSw HEQ
            go_wp2_with fail
            go_roundw
            case rel => exact ⟨k + 1, by omega, by go_num, _, HRB, HO2⟩
            case measure => simp [intOf]; omega
        · rw [decide_eq_false hd] at he
          go_upto_region 7 with (fail)
          clear y0 y1 y2 y3 y4 y5 y6 y7 he
          have HCl : Hid (∀ W', Below wc.heap.size wc W' → W'.cell? ⟨g, 7, none⟩ = some (.map (some b)) ∧ W'.cell? ⟨g3, 6, none⟩ = some (.string T)) := Lib.hid (fun W' hW => ⟨(HR6.out.mak.below hW HR6.out.mak.lt).cell 7, (HX6.out.below hW HX6.out.lt).cell 6⟩)
          obtain ⟨V, hV⟩ : ∃ V : Int, V = (8 * ((M dst).getD 0 : Nat) : Int) := ⟨_, rfl⟩
          obtain ⟨B, hB⟩ : ∃ B, B = (M dst).isSome := ⟨_, rfl⟩
          have HLo : Hid (∀ W', Below wc.heap.size wc W' → (Instr.lookup 63 (.map (some b)) (.string T) true).run Tryd.prog W' = .ok (.tuple #[.int .u32 V, .bool B]) W') := Lib.hid (fun W' hW => by
            have h := (HR6.out.lab.below hW).look T HTS.out
            rw [HBY.out, ← hV, ← hB] at h
            exact h)
          have HMd := HM.out dst hd
          rw [HMd] at hV hB
          have HV := Lib.hid hV
          have HBk := Lib.hid hB
          clear hV hB HMd
          refine qy_region (C := fun W' => Below wc.heap.size wc W') (by kernel_rfl) (by kernel_rfl) (Below.refl _ _).drew ?_
          refine qy_by rfl (.pointer (some ⟨g, 0, none⟩)) (fun W' hW => by simp [go_sem]) ?_
          simp only [Act.put, List.setIfInBounds_toArray, List.set_cons_zero, List.set_cons_succ]
          refine qy_by rfl (.pointer (some ⟨g, 0, none⟩)) (fun W' hW => by simp [go_sem]) ?_
          simp only [Act.put, List.setIfInBounds_toArray, List.set_cons_zero, List.set_cons_succ]
          refine qy_by rfl (.pointer (some ⟨g, 7, none⟩)) (fun W' hW => by simp [go_sem]) ?_
          simp only [Act.put, List.setIfInBounds_toArray, List.set_cons_zero, List.set_cons_succ]
          refine qy_by rfl (.map (some b)) (fun W' hW => by simp [go_sem, (HCl.out W' hW).1]) ?_
          simp only [Act.put, List.setIfInBounds_toArray, List.set_cons_zero, List.set_cons_succ]
          refine qy_by rfl (.pointer (some ⟨g3, 6, none⟩)) (fun W' hW => by simp [go_sem]) ?_
          simp only [Act.put, List.setIfInBounds_toArray, List.set_cons_zero, List.set_cons_succ]
          refine qy_by rfl (.string T) (fun W' hW => by simp [go_sem, (HCl.out W' hW).2]) ?_
          simp only [Act.put, List.setIfInBounds_toArray, List.set_cons_zero, List.set_cons_succ]
          refine qy_by rfl (.tuple #[.int .u32 V, .bool B]) (fun W' hW => by simp [go_sem, HLo.out W' hW]) ?_
          simp only [Act.put, List.setIfInBounds_toArray, List.set_cons_zero, List.set_cons_succ]
          refine qy_by rfl (.tuple #[.int .u32 V, .bool B]) (fun W' hW => by simp [go_sem]) ?_
          simp only [Act.put, List.setIfInBounds_toArray, List.set_cons_zero, List.set_cons_succ]
          refine qy_by rfl (.int .u32 V) (fun W' hW => by simp [go_sem]) ?_
          simp only [Act.put, List.setIfInBounds_toArray, List.set_cons_zero, List.set_cons_succ]
          refine qy_by rfl (.bool B) (fun W' hW => by simp [go_sem]) ?_
          simp only [Act.put, List.setIfInBounds_toArray, List.set_cons_zero, List.set_cons_succ]
          refine qy_by rfl (.int .u32 V) (fun W' hW => by simp [go_sem]) ?_
          simp only [Act.put, List.setIfInBounds_toArray, List.set_cons_zero, List.set_cons_succ]
          refine qy_by rfl (.bool B) (fun W' hW => by simp [go_sem]) ?_
          simp only [Act.put, List.setIfInBounds_toArray, List.set_cons_zero, List.set_cons_succ]
          refine wpQuiet_nil ?_
          intro w6 q6
          have HG7 := Lib.hid (HG6.out.call q6)
          have HR7 := Lib.hid (HR6.out.below q6)
          clear q6 HG6 HR6 HX6 HCl HLo HNM HAD
          cases B
          · have hnone : findL l dst = none := by have := HBk.out; cases h : findL l dst with | none => rfl | some j => rw [h] at this; cases this
            have HP := Lib.hid (HNk.out (HTN.out hd hnone) w6 HR7.out.gb)
            clear hnone hd HTO HTN HOk HBk HG7 HR7 HV HNk
            go_wp2_with fail
            go_ret
            exact HP.out
          · obtain ⟨i, hi⟩ : ∃ i, findL l dst = some i := by have := HBk.out; cases h : findL l dst with | none => rw [h] at this; cases this | some j => exact ⟨j, rfl⟩
            have HEQ := Lib.hid (HTO.out hd i hi)
            have HO2 := Lib.hid (HOk.out HEQ.out.2)
            have hVi : V = 8 * (i : Int) := by rw [HV.out, hi]; rfl
            subst hVi
            have HXV : Hid (rlCells ⟨8 * (k : Int) + 4, 1, by' nm, 8 * (i : Int)⟩ = [.int .u32 (8 * (k : Int) + 4), .int .u8 1, .string nm, .int .u32 (8 * (i : Int))]) := Lib.hid (by simp only [rlCells, tx_by])
            have m0 := HR7.out.mak.cell 0
            simp only [List.getElem?_cons_zero] at m0
            have m1 := HG7.out.cell 2
            have m2 := HG7.out.cell 3
            simp only [List.getElem?_cons_zero, List.getElem?_cons_succ] at m1 m2
            have m3 : w6.frozen? ⟨g4, 2, none⟩ = false := HG7.out.frozen 2
            have m4 : w6.frozen? ⟨g4, 3, none⟩ = false := HG7.out.frozen 3
            have m5 : g4 < w6.heap.size := HG7.out.lt
            clear hi hd HTO HTN HOk HBk HV HNk HBY HTX
            go_upto_region 11 with (fail)
            have HG8 : Hid (Blk ((w6.setCell ⟨g4, 2, none⟩ (.string nm)).setCell ⟨g4, 3, none⟩ (.int .u32 (8 * (i : Int)))) g4 58 [.int .u32 (8 * (k : Int) + 4), .int .u8 1, .string nm, .int .u32 (8 * (i : Int))]) := Lib.hid ((HG7.out.set_ 2 (.string nm)).set_ 3 (.int .u32 (8 * (i : Int))))
            have HR8 := Lib.hid ((HR7.out.set4 HG7.out HNv.out.1 HNv.out.2.1 HNv.out.2.2.2 2 (.string nm)).set4 (HG7.out.set_ 2 (.string nm)) HNv.out.1 HNv.out.2.1 HNv.out.2.2.2 3 (.int .u32 (8 * (i : Int))))
            obtain ⟨w8, hw8⟩ : ∃ t, t = (w6.setCell ⟨g4, 2, none⟩ (.string nm)).setCell ⟨g4, 3, none⟩ (.int .u32 (8 * (i : Int))) := ⟨_, rfl⟩
            rw [← hw8] at HG8 HR8 ⊢
            clear hw8 HG7 HR7 m0 m1 m2 m3 m4 m5
            obtain ⟨avr, cvr, hvr⟩ := row_slice HR8.out.row
            subst hvr
            have hS0 : w8.cell? ⟨g4, 0, none⟩ = some (.int .u32 (8 * (k : Int) + 4)) ∧ w8.cell? ⟨g4, 1, none⟩ = some (.int .u8 1) ∧ w8.cell? ⟨g4, 2, none⟩ = some (.string nm) ∧ w8.cell? ⟨g4, 3, none⟩ = some (.int .u32 (8 * (i : Int))) := ⟨HG8.out.cell 0, HG8.out.cell 1, HG8.out.cell 2, HG8.out.cell 3⟩
            have HSS : Hid (∀ W', Blk W' g4 58 [.int .u32 (8 * (k : Int) + 4), .int .u8 1, .string nm, .int .u32 (8 * (i : Int))] → W'.cell? ⟨g4, 0, none⟩ = some (.int .u32 (8 * (k : Int) + 4)) ∧ W'.cell? ⟨g4, 1, none⟩ = some (.int .u8 1) ∧ W'.cell? ⟨g4, 2, none⟩ = some (.string nm) ∧ W'.cell? ⟨g4, 3, none⟩ = some (.int .u32 (8 * (i : Int)))) := Lib.hid (fun W' h => ⟨h.cell 0, h.cell 1, h.cell 2, h.cell 3⟩)
            have HM1 : Hid (LR.length + 1 ≤ maxLen) := Lib.hid (by have := HLE.out; unfold maxLen; omega)
            have HM2 : Hid ((LR.length + 1) * 32 ≤ 140737488355328) := Lib.hid (by have := HLE.out; omega)
            refine wp_region_held_drew (S := fun w' => w'.cell? ⟨g4, 0, none⟩ = some (.int .u32 (8 * (k : Int) + 4)) ∧ w'.cell? ⟨g4, 1, none⟩ = some (.int .u8 1) ∧ w'.cell? ⟨g4, 2, none⟩ = some (.string nm) ∧ w'.cell? ⟨g4, 3, none⟩ = some (.int .u32 (8 * (i : Int)))) (by kernel_rfl) hS0 (fun hSw => ?_)
            have HR9 : Hid (RI W w8.drew g b n0 M nm c1 c2 c3 c4 c6 (.slice avr LR.length cvr) LR) := Lib.hid (HR8.out.below (below_drewN w8 1))
            have HG9 : Hid (Blk w8.drew g4 58 [.int .u32 (8 * (k : Int) + 4), .int .u8 1, .string nm, .int .u32 (8 * (i : Int))]) := Lib.hid HG8.out
            clear HR8 HG8 hS0
            obtain ⟨w9, hw9⟩ : ∃ t, t = w8.drew := ⟨_, rfl⟩
            rw [← hw9] at HR9 HG9 hSw ⊢
            clear hw9
            refine wpAnyH_take (i := 0) (v := .pointer (some ⟨g, 0, none⟩)) rfl (by kernel_rfl) (by kernel_rfl) (by kernel_rfl) (fun _ _ _ h => h) (Or.inl ⟨by rfl, fun w hSw => by (try dsimp only at hSw); go_simp⟩) (by assumption) ?_
            try simp only [Act.put, List.setIfInBounds_toArray, List.set_cons_zero, List.set_cons_succ, List.getElem_toArray, List.getElem_cons_succ, List.getElem_cons_zero]
            refine wpAnyH_take (i := 1) (v := .pointer (some ⟨g, 0, none⟩)) rfl (by kernel_rfl) (by kernel_rfl) (by kernel_rfl) (fun _ _ _ h => h) (Or.inl ⟨by rfl, fun w hSw => by (try dsimp only at hSw); go_simp⟩) (by assumption) ?_
            try simp only [Act.put, List.setIfInBounds_toArray, List.set_cons_zero, List.set_cons_succ, List.getElem_toArray, List.getElem_cons_succ, List.getElem_cons_zero]
            refine wpAnyH_take (i := 2) (v := .pointer (some ⟨g, 0, none⟩)) rfl (by kernel_rfl) (by kernel_rfl) (by kernel_rfl) (fun _ _ _ h => h) (Or.inl ⟨by rfl, fun w hSw => by (try dsimp only at hSw); go_simp⟩) (by assumption) ?_
            try simp only [Act.put, List.setIfInBounds_toArray, List.set_cons_zero, List.set_cons_succ, List.getElem_toArray, List.getElem_cons_succ, List.getElem_cons_zero]
            refine wpAnyH_take (i := 3) (v := .pointer (some ⟨g, 0, none⟩)) rfl (by kernel_rfl) (by kernel_rfl) (by kernel_rfl) (fun _ _ _ h => h) (Or.inl ⟨by rfl, fun w hSw => by (try dsimp only at hSw); go_simp⟩) (by assumption) ?_
            try simp only [Act.put, List.setIfInBounds_toArray, List.set_cons_zero, List.set_cons_succ, List.getElem_toArray, List.getElem_cons_succ, List.getElem_cons_zero]
            refine wpAnyH_take (i := 4) (v := .pointer (some ⟨g, 5, none⟩)) rfl (by kernel_rfl) (by kernel_rfl) (by kernel_rfl) (fun _ _ _ h => h) (Or.inl ⟨by rfl, fun w hSw => by (try dsimp only at hSw); go_simp⟩) (by assumption) ?_
            try simp only [Act.put, List.setIfInBounds_toArray, List.set_cons_zero, List.set_cons_succ, List.getElem_toArray, List.getElem_cons_succ, List.getElem_cons_zero]
            refine wpAnyH_take (i := 6) (v := .agg #[.int .u32 (8 * (k : Int) + 4), .int .u8 1, .string nm, .int .u32 (8 * (i : Int))]) rfl (by kernel_rfl) (by kernel_rfl) (by kernel_rfl) (fun _ _ _ h => h) (Or.inl ⟨by rfl, fun w hSw => by (try dsimp only at hSw); go_simp⟩) (by assumption) ?_
            try simp only [Act.put, List.setIfInBounds_toArray, List.set_cons_zero, List.set_cons_succ, List.getElem_toArray, List.getElem_cons_succ, List.getElem_cons_zero]
            refine wpAnyH_ready (rs := [5, 7]) (by kernel_rfl) (by simp) ?_
            refine (AllReadyH.cons (o := _) rfl (fun K hK => ?_) (AllReadyH.cons (o := _) rfl (fun K hK => ?_) AllReadyH.nil))
            · have m5 := HR9.out.mak.cell 5
              simp only [List.getElem?_cons_zero, List.getElem?_cons_succ] at m5
              go_simp
              refine hK.out _ _ (HSS.out _ HG9.out) (fun hSw => ?_)
              clear hK K
              try simp only [Act.put, List.setIfInBounds_toArray, List.set_cons_zero, List.set_cons_succ, List.getElem_toArray, List.getElem_cons_succ, List.getElem_cons_zero]
              clear m5
              refine wpAnyH_ready (rs := [7]) (by kernel_rfl) (by simp) ?_
              refine AllReadyH.cons (o := _) rfl (fun K hK => ?_) AllReadyH.nil
              go_simp
              have HRA := Lib.hid (HR9.out.below (below_new1 w9 (.cells #[.int .u32 (8 * (k : Int) + 4), .int .u8 1, .string nm, .int .u32 (8 * (i : Int))] 58)))
              have HGA := Lib.hid (HG9.out.alloc (.cells #[.int .u32 (8 * (k : Int) + 4), .int .u8 1, .string nm, .int .u32 (8 * (i : Int))] 58))
              have HNW := Lib.hid (new_rel w9 (.int .u32 (8 * (k : Int) + 4)) (.int .u8 1) (.string nm) (.int .u32 (8 * (i : Int))))
              refine hK.out _ _ (HSS.out _ HGA.out) (fun hSw => ?_)
              clear hK K
              try simp only [Act.put, List.setIfInBounds_toArray, List.set_cons_zero, List.set_cons_succ, List.getElem_toArray, List.getElem_cons_succ, List.getElem_cons_zero]
              refine wpAnyH_ready (rs := [8]) (by kernel_rfl) (by simp) ?_
              refine AllReadyH.cons (o := _) rfl (fun K hK => ?_) AllReadyH.nil
              refine step_append_lies _ (by rfl) _ _ 27 (by rfl) W.heap.size 58 iR _ 4 32 Tryd.underlying27 HI.out.1 HI.out.2.1 HI.out.2.2.1 HI.out.2.2.2 rfl (by decide) _ LR.length _ (by rfl) HRA.out.row ⟨w9.heap.size, 0, none⟩ 1 1 [.int .u32 (8 * (k : Int) + 4), .int .u8 1, .string nm, .int .u32 (8 * (i : Int))] (by rfl) rfl HNW.out (rlOne _ _ _ _) (by decide) HM1.out HM2.out HRA.out.gb.size _ rfl ?_
              intro gv capv wa h6 h7 _ _
              rw [← HXV.out] at h6
              obtain ⟨hmk, hRI⟩ := HRA.out.grows h6 h7
              have HRB := Lib.hid hRI
              have HGB := Lib.hid (HGA.out.grown h7 (fun e => HNv.out.2.2.2 e.symm))
              have m7 : wa.frozen? ⟨g, 5, none⟩ = false := hmk.frozen 5
              have m8 : g < wa.heap.size := hmk.lt
              have m9 := hmk.cell 5
              simp only [List.getElem?_cons_zero, List.getElem?_cons_succ] at m9
              clear h6 h7 hRI hmk HRA HGA HNW
              refine hK.out _ _ (HSS.out _ HGB.out) (fun hSw => ?_)
              clear hK K
              try simp only [Act.put, List.setIfInBounds_toArray, List.set_cons_zero, List.set_cons_succ, List.getElem_toArray, List.getElem_cons_succ, List.getElem_cons_zero]
              refine wpAnyH_take (i := 9) (v := .pointer (some ⟨g, 0, none⟩)) rfl (by kernel_rfl) (by kernel_rfl) (by kernel_rfl) (fun _ _ _ h => h) (Or.inl ⟨by rfl, fun w hSw => by (try dsimp only at hSw); go_simp⟩) (by assumption) ?_
              try simp only [Act.put, List.setIfInBounds_toArray, List.set_cons_zero, List.set_cons_succ, List.getElem_toArray, List.getElem_cons_succ, List.getElem_cons_zero]
              refine wpAnyH_take (i := 10) (v := .pointer (some ⟨g, 0, none⟩)) rfl (by kernel_rfl) (by kernel_rfl) (by kernel_rfl) (fun _ _ _ h => h) (Or.inl ⟨by rfl, fun w hSw => by (try dsimp only at hSw); go_simp⟩) (by assumption) ?_
              try simp only [Act.put, List.setIfInBounds_toArray, List.set_cons_zero, List.set_cons_succ, List.getElem_toArray, List.getElem_cons_succ, List.getElem_cons_zero]
              refine wpAnyH_take (i := 11) (v := .pointer (some ⟨g, 5, none⟩)) rfl (by kernel_rfl) (by kernel_rfl) (by kernel_rfl) (fun _ _ _ h => h) (Or.inl ⟨by rfl, fun w hSw => by (try dsimp only at hSw); go_simp⟩) (by assumption) ?_
              try simp only [Act.put, List.setIfInBounds_toArray, List.set_cons_zero, List.set_cons_succ, List.getElem_toArray, List.getElem_cons_succ, List.getElem_cons_zero]
              refine wpAnyH_ready (rs := [12]) (by kernel_rfl) (by simp) ?_
              refine AllReadyH.cons (o := _) rfl (fun K hK => ?_) AllReadyH.nil
              go_simp
              have HGC := Lib.hid (HGB.out.far (p := ⟨g, 5, none⟩) (fun e => HNv.out.2.1 e.symm) (.slice (some ⟨gv, 0, none⟩) (LR.length + 1) capv))
              refine hK.out _ _ (HSS.out _ HGC.out) (fun hSw => ?_)
              clear hK K
              try simp only [Act.put, List.setIfInBounds_toArray, List.set_cons_zero, List.set_cons_succ, List.getElem_toArray, List.getElem_cons_succ, List.getElem_cons_zero]
              refine wpAnyH_done (by kernel_rfl) ?_ _
              rw [← HEQ.out.1] at HRB
              clear HGB HGC HG9 HXV HSS HNv m7 m8 m9 hSw HEQ
              go_wp2_with fail
              go_roundw
              case rel => exact ⟨k + 1, by omega, by go_num, _, HRB, HO2⟩
              case measure => simp [intOf]; omega
            · go_simp
              have HRA := Lib.hid (HR9.out.below (below_new1 w9 (.cells #[.int .u32 (8 * (k : Int) + 4), .int .u8 1, .string nm, .int .u32 (8 * (i : Int))] 58)))
              have HGA := Lib.hid (HG9.out.alloc (.cells #[.int .u32 (8 * (k : Int) + 4), .int .u8 1, .string nm, .int .u32 (8 * (i : Int))] 58))
              have HNW := Lib.hid (new_rel w9 (.int .u32 (8 * (k : Int) + 4)) (.int .u8 1) (.string nm) (.int .u32 (8 * (i : Int))))
              refine hK.out _ _ (HSS.out _ HGA.out) (fun hSw => ?_)
              clear hK K
              try simp only [Act.put, List.setIfInBounds_toArray, List.set_cons_zero, List.set_cons_succ, List.getElem_toArray, List.getElem_cons_succ, List.getElem_cons_zero]
              refine wpAnyH_ready (rs := [5]) (by kernel_rfl) (by simp) ?_
              refine AllReadyH.cons (o := _) rfl (fun K hK => ?_) AllReadyH.nil
              have m5 := HRA.out.mak.cell 5
              simp only [List.getElem?_cons_zero, List.getElem?_cons_succ] at m5
              go_simp
              refine hK.out _ _ (HSS.out _ HGA.out) (fun hSw => ?_)
              clear hK K
              try simp only [Act.put, List.setIfInBounds_toArray, List.set_cons_zero, List.set_cons_succ, List.getElem_toArray, List.getElem_cons_succ, List.getElem_cons_zero]
              clear m5
              refine wpAnyH_ready (rs := [8]) (by kernel_rfl) (by simp) ?_
              refine AllReadyH.cons (o := _) rfl (fun K hK => ?_) AllReadyH.nil
              refine step_append_lies _ (by rfl) _ _ 27 (by rfl) W.heap.size 58 iR _ 4 32 Tryd.underlying27 HI.out.1 HI.out.2.1 HI.out.2.2.1 HI.out.2.2.2 rfl (by decide) _ LR.length _ (by rfl) HRA.out.row ⟨w9.heap.size, 0, none⟩ 1 1 [.int .u32 (8 * (k : Int) + 4), .int .u8 1, .string nm, .int .u32 (8 * (i : Int))] (by rfl) rfl HNW.out (rlOne _ _ _ _) (by decide) HM1.out HM2.out HRA.out.gb.size _ rfl ?_
              intro gv capv wa h6 h7 _ _
              rw [← HXV.out] at h6
              obtain ⟨hmk, hRI⟩ := HRA.out.grows h6 h7
              have HRB := Lib.hid hRI
              have HGB := Lib.hid (HGA.out.grown h7 (fun e => HNv.out.2.2.2 e.symm))
              have m7 : wa.frozen? ⟨g, 5, none⟩ = false := hmk.frozen 5
              have m8 : g < wa.heap.size := hmk.lt
              have m9 := hmk.cell 5
              simp only [List.getElem?_cons_zero, List.getElem?_cons_succ] at m9
              clear h6 h7 hRI hmk HRA HGA HNW
              refine hK.out _ _ (HSS.out _ HGB.out) (fun hSw => ?_)
              clear hK K
              try simp only [Act.put, List.setIfInBounds_toArray, List.set_cons_zero, List.set_cons_succ, List.getElem_toArray, List.getElem_cons_succ, List.getElem_cons_zero]
              refine wpAnyH_take (i := 9) (v := .pointer (some ⟨g, 0, none⟩)) rfl (by kernel_rfl) (by kernel_rfl) (by kernel_rfl) (fun _ _ _ h => h) (Or.inl ⟨by rfl, fun w hSw => by (try dsimp only at hSw); go_simp⟩) (by assumption) ?_
              try simp only [Act.put, List.setIfInBounds_toArray, List.set_cons_zero, List.set_cons_succ, List.getElem_toArray, List.getElem_cons_succ, List.getElem_cons_zero]
              refine wpAnyH_take (i := 10) (v := .pointer (some ⟨g, 0, none⟩)) rfl (by kernel_rfl) (by kernel_rfl) (by kernel_rfl) (fun _ _ _ h => h) (Or.inl ⟨by rfl, fun w hSw => by (try dsimp only at hSw); go_simp⟩) (by assumption) ?_
              try simp only [Act.put, List.setIfInBounds_toArray, List.set_cons_zero, List.set_cons_succ, List.getElem_toArray, List.getElem_cons_succ, List.getElem_cons_zero]
              refine wpAnyH_take (i := 11) (v := .pointer (some ⟨g, 5, none⟩)) rfl (by kernel_rfl) (by kernel_rfl) (by kernel_rfl) (fun _ _ _ h => h) (Or.inl ⟨by rfl, fun w hSw => by (try dsimp only at hSw); go_simp⟩) (by assumption) ?_
              try simp only [Act.put, List.setIfInBounds_toArray, List.set_cons_zero, List.set_cons_succ, List.getElem_toArray, List.getElem_cons_succ, List.getElem_cons_zero]
              refine wpAnyH_ready (rs := [12]) (by kernel_rfl) (by simp) ?_
              refine AllReadyH.cons (o := _) rfl (fun K hK => ?_) AllReadyH.nil
              go_simp
              have HGC := Lib.hid (HGB.out.far (p := ⟨g, 5, none⟩) (fun e => HNv.out.2.1 e.symm) (.slice (some ⟨gv, 0, none⟩) (LR.length + 1) capv))
              refine hK.out _ _ (HSS.out _ HGC.out) (fun hSw => ?_)
              clear hK K
              try simp only [Act.put, List.setIfInBounds_toArray, List.set_cons_zero, List.set_cons_succ, List.getElem_toArray, List.getElem_cons_succ, List.getElem_cons_zero]
              refine wpAnyH_done (by kernel_rfl) ?_ _
              rw [← HEQ.out.1] at HRB
              clear HGB HGC HG9 HXV HSS HNv m7 m8 m9 hSw HEQ
              go_wp2_with fail
              go_roundw
              case rel => exact ⟨k + 1, by omega, by go_num, _, HRB, HO2⟩
              case measure => simp [intOf]; omega
    · obtain rfl : k = n := by omega
      have HP := Lib.hid (HYES.out hO.out vr wr hR.out)
      clear hlt hk hR hO HYES HNO HLEN H2 HOK
      go_wp2_with fail
      go_ret
      exact HP.out
end Go.Proofs.YtlnnhgmkibjgmaaDoor
