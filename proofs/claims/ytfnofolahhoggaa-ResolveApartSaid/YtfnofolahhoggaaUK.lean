/- The program's Winners. -/
import Derived.Test.YtfnofolahhoggaaUJ
set_option linter.unusedVariables false
set_option linter.unusedSimpArgs false
namespace Go.Proofs.Ytfnofolahhoggaa
open Go Go.RowKit Go.Maps Oj Rv

theorem len_allB {l : List Ob} (h : linkOk l = true) : ∀ {i : Nat}, i ≤ l.length → (allB l i).length ≤ 64 * i
  | 0, _ => Nat.le_refl _
  | i + 1, hi => by
    have h1 := len_allB h (show i ≤ l.length by omega)
    have h2 := (link_ob h (show i < l.length by omega)).1
    rw [allB, List.length_append]
    unfold rowP
    rw [List.length_map, List.length_range]
    omega
theorem len_pre {l : List Ob} (h : linkOk l = true) {i j : Nat} (hi : i < l.length) (hj : j ≤ 64) : (pre l i j).length ≤ 1048576 := by
  have h1 := len_allB h (show i ≤ l.length by omega)
  have h2 := link_len h
  unfold pre rowP
  rw [List.length_append, List.length_map, List.length_range]
  omega
/-- Is a symbol that is not local its name's winner? By the place alone. -/
theorem win_place {l : List Ob} (h : linkOk l = true) {i j : Nat} (hi : i < l.length) (hj : j < (symsN l i).length) (hb : (symP l (i, j)).bind ≠ 0) : isWin l (i, j) = decide (((winL l (symP l (i, j)).name).getD (0, 0)).1 = i ∧ ((winL l (symP l (i, j)).name).getD (0, 0)).2 = j) := by
  have h1 := link_bind h hi hj
  have h2 := win_of (l := l) (p := (i, j)) (allB_of hi hj) (by omega)
  unfold isWin
  rw [decide_eq_false hb, Bool.false_or]
  cases hw : winL l (symP l (i, j)).name with
  | none => rw [hw] at h2; cases h2
  | some p =>
    obtain ⟨x, y⟩ := p
    simp only [Option.getD_some, Option.some.injEq, Prod.mk.injEq]
theorem win_loc {l : List Ob} {p : Nat × Nat} (hb : (symP l p).bind = 0) : isWin l p = true := by unfold isWin; rw [decide_eq_true hb, Bool.true_or]
/-- What a call that makes places and names no name answers. -/
def WnPost (w : World) (R : List (Nat × Nat) × Int) (e : Ending) (w' : World) : Prop := ∃ v, e = .returned (.tuple #[v, .int .i64 R.2]) ∧ OwnP w' w.heap.size v R.1 ∧ Below w.heap.size w w'

set_option maxHeartbeats 8000000 in
set_option maxRecDepth 100000 in
theorem vWinners_any (l : List Ob) (v : Value) (hf : obsFit l) (w : World) (hA : ObsAt w v l) : Calls Try.prog 15 #[v] w (WnPost w (winsL l)) := by
  have HO := Lib.hid (ofp_any l v hf w hA)
  obtain ⟨a, c, rfl, h2⟩ := hA.two
  obtain ⟨n, hn⟩ : ∃ n, n = l.length := ⟨_, rfl⟩
  have hni : (n : Int) ≤ 3518437208884 := by have := hf.1; omega
  rw [← hn] at HO h2 ⊢
  have HN := Lib.hid hn
  have HF := Lib.hid hf
  have H2 := Lib.hid h2
  obtain ⟨CN, hCN⟩ : ∃ CN, CN = (checkL l).1 := ⟨_, rfl⟩
  obtain ⟨E, hE⟩ : ∃ E, E = (checkL l).2 := ⟨_, rfl⟩
  obtain ⟨R, hR⟩ : ∃ R, R = winsL l := ⟨_, rfl⟩
  have HR1 : Hid (E ≠ 0 → R = ([], E)) := Lib.hid (fun h => by rw [hR]; unfold winsL; rw [← hE, if_pos h])
  have HR2 : Hid (E = 0 → R = ((allP l).filter (isWin l), 0)) := Lib.hid (fun h => by rw [hR]; unfold winsL; rw [← hE, if_neg (fun hn => hn h)])
  have HLK : Hid (E = 0 → linkOk l = true) := Lib.hid (fun h => (check_link_of (by rw [← hE]; exact h)).1)
  have HOE := Lib.hid (show Calls Try.prog 21 #[.slice a n c] w (fun e w' => Below w.heap.size w w' ∧ ∃ (o : Option Nat) (ra : Option Addr) (rn rc : Nat), e = .returned (.tuple #[.agg #[.map o, .slice ra rn rc], .string (tx CN), .int .i64 E]) ∧ (E = 0 → Value.slice ra rn rc = Value.slice a n c ∧ ∃ b m, o = some b ∧ EntIs w' b m (entB l (allP l)))) from HO.out.mono (fun e w' h => by unfold OfP at h; rw [← hCN, ← hE] at h; exact h))
  rw [← hR]
  clear hn hf hCN hE hR HO h2 hA
  go_enter Try.func15, Try.ntmps15
  go_wp2_with fail
  refine HOE.out.mono ?_; rintro e w2 ⟨q2, o, ra, rn, rc, rfl, hok⟩
  have HOK := Lib.hid hok
  have HB3 := Lib.hid (below_box q2 (.cells #[.map o, .slice ra rn rc] 60))
  have HY3 := Lib.hid (Blk.new w2 60 [.map o, .slice ra rn rc])
  clear q2 hok HOE
  by_cases h0 : E = 0
  · subst h0
    obtain ⟨hv, b, m, rfl, hEn⟩ := HOK.out rfl
    cases hv
    have HE3 := Lib.hid (hEn.below (below_new1 w2 (.cells #[.map (some b), .slice a n c] 60)))
    clear hEn HOK
    have HL := Lib.hid (HLK.out rfl)
    have HRa := Lib.hid (HR2.out rfl)
    clear HR1 HR2 HLK
    have HL16 := Lib.hid (link_len HL.out)
    obtain ⟨w5, hw5⟩ : ∃ w5, w5 = w2.alloc (.cells #[.map (some b), .slice a n c] 60) := ⟨_, rfl⟩
    rw [← hw5] at HB3 HY3 HE3
    have HI0 : Hid (OwnP w5 w5.heap.size (.slice none 0 0) ((allB l 0).filter (isWin l))) := Lib.hid (OwnP.nil w5 w5.heap.size)
    have HBI := Lib.hid (Below.refl w5.heap.size w5)
    go_wp2_with fail
    rw [← hw5]
    clear hw5
    go_loopw [7, 26] (fun v7 i wr => ∃ k : Nat, (k : Int) ≤ n ∧ i = .int .i64 k ∧ Hid (Below w5.heap.size w5 wr) ∧ Hid (OwnP wr w5.heap.size v7 ((allB l k).filter (isWin l)))) (fun _ i _ => n - (intOf i).toNat)
    case atStart => exact ⟨0, by omega, rfl, HBI, HI0⟩
    case round =>
      clear HBI HI0
      obtain ⟨k, hk, rfl, HB, HI⟩ := hrel
      by_cases hlt : k < n
      · obtain ⟨wo, rfl⟩ : ∃ wo, wo = wr := ⟨_, rfl⟩
        obtain ⟨gb, o', ai, ci, rfl, hbl, c0, c1, hj⟩ := H2.out k hlt
        have hkl : k < l.length := by rw [← HN.out]; exact hlt
        have hd : decide (k < n) = true := decide_eq_true hlt
        obtain ⟨mm, hm⟩ : ∃ mm, mm = (symsN l k).length := ⟨_, rfl⟩
        have hm64 : (mm : Int) ≤ 64 := by have := (link_ob HL.out hkl).1; omega
        have hk16 : (k : Int) < 16 := by have := HL16.out; omega
        rw [← hm] at c1 hj
        have HM := Lib.hid hm
        have HJ := Lib.hid hj
        have HKL := Lib.hid hkl
        obtain ⟨M, hM⟩ : ∃ M, M = tx (l.getD k Ob.nought).name := ⟨_, rfl⟩
        rw [← hM] at c0
        have HBw := Lib.hid (below_call HB3.out HB.out)
        have hbr : gb < wo.heap.size := Nat.lt_of_lt_of_le hbl HBw.out.size
        have d0 := (HBw.out.cell (p := ⟨gb, o' + k * 2, none⟩) hbl).trans c0
        have d1 := (HBw.out.cell (p := ⟨gb, o' + k * 2 + 1, none⟩) hbl).trans c1
        have HB1 := Lib.hid (below_box HB.out (.cells #[.string M, .slice ai mm ci] 43))
        have HI1 := Lib.hid (HI.out.below (below_new1 wo (.cells #[.string M, .slice ai mm ci] 43)))
        rw [← pre_zero] at HI1
        clear hm hj hkl hM c0 c1 HB HI HBw
        go_wp2_with fail
        clear d0 d1
        go_loopw [7, 34] (fun v7 i wr => ∃ j : Nat, (j : Int) ≤ mm ∧ i = .int .i64 j ∧ Hid (Below w5.heap.size w5 wr) ∧ Hid (OwnP wr w5.heap.size v7 ((pre l k j).filter (isWin l)))) (fun _ i _ => mm - (intOf i).toNat)
        case atStart => exact ⟨0, by omega, rfl, HB1, HI1⟩
        case round =>
          clear HB1 HI1 hbr
          obtain ⟨j, hj, rfl, HB, HI⟩ := hrel
          by_cases hjt : j < mm
          · obtain ⟨bi, oi, vr, vn, rfl, hbi, hL, hr0, hn0⟩ := HJ.out j hjt
            have hjl : j < (symsN l k).length := by rw [← HM.out]; exact hjt
            have hd2 : decide (j < mm) = true := decide_eq_true hjt
            have hj64 : (j : Int) < 64 := by omega
            have hfs := (HF.out.2 k HKL.out).2.2 j hjl
            have HBw := Lib.hid (below_call HB3.out HB.out)
            obtain ⟨c0, c1, c2, c3, c4, c5, c6⟩ := (hL.below HBw.out hbi).sy
            have hbr : bi < wr.heap.size := Nat.lt_of_lt_of_le hbi HBw.out.size
            obtain ⟨ra, rc, hrv, _⟩ := hr0
            obtain ⟨na, nc, hnv, _⟩ := hn0
            have hnl : (tx (symP l (k, j)).name).size ≤ 140737488355328 := by rw [tx_size]; exact hfs.1
            have hbd : (symP l (k, j)).bind = 0 ∨ (symP l (k, j)).bind ≠ 0 := by omega
            have HWL := Lib.hid (fun (h : (symP l (k, j)).bind = 0) => win_loc h)
            have HWP := Lib.hid (fun (h : (symP l (k, j)).bind ≠ 0) => win_place HL.out HKL.out hjl h)
            have HFN := Lib.hid (filter_next l k j)
            have HLN : Hid (((pre l k j).filter (isWin l)).length ≤ 1048576) := Lib.hid (Nat.le_trans (List.length_filter_le _ _) (len_pre HL.out HKL.out (by omega)))
            subst hrv hnv
            obtain ⟨s, hs⟩ : ∃ s, s = symP l (k, j) := ⟨_, rfl⟩
            rw [← hs] at c0 c1 c2 c3 c4 c5 c6 hnl hbd HWL HWP
            have hby : by' (tx s.name) = s.name := by_tx _
            rw [← hby] at HWP
            obtain ⟨U, hU⟩ : ∃ u, u = tx s.name := ⟨_, rfl⟩
            obtain ⟨u1, g1⟩ : ∃ u, u = s.bind := ⟨_, rfl⟩
            obtain ⟨u2, g2⟩ : ∃ u, u = s.kind := ⟨_, rfl⟩
            obtain ⟨u3, g3⟩ : ∃ u, u = s.size := ⟨_, rfl⟩
            obtain ⟨u4, g4⟩ : ∃ u, u = tx s.bytes := ⟨_, rfl⟩
            obtain ⟨rn, hrn⟩ : ∃ x, x = s.rels.length := ⟨_, rfl⟩
            obtain ⟨nn, hnn⟩ : ∃ x, x = s.notes.length := ⟨_, rfl⟩
            rw [← hU] at c0 hnl HWP
            rw [← g1] at c1 hbd HWL HWP
            rw [← g2] at c2
            rw [← g3] at c3
            rw [← g4] at c4
            rw [← hrn] at c5
            rw [← hnn] at c6
            have HEa := Lib.hid (((HE3.out.below HB.out).below (below_new1 wr (.cells #[.string U, .int .u8 u1, .int .u8 u2, .int .u32 u3, .string u4, .slice ra rn rc, .slice na nn nc] 50))).below (below_new1 _ (.cells #[.int .i64 (k : Int), .int .i64 (j : Int)] 24)))
            have HBa := Lib.hid (below_box (below_box HB.out (.cells #[.string U, .int .u8 u1, .int .u8 u2, .int .u32 u3, .string u4, .slice ra rn rc, .slice na nn nc] 50)) (.cells #[.int .i64 (k : Int), .int .i64 (j : Int)] 24))
            have HIa := Lib.hid ((HI.out.below (below_new1 wr (.cells #[.string U, .int .u8 u1, .int .u8 u2, .int .u32 u3, .string u4, .slice ra rn rc, .slice na nn nc] 50))).below (below_new1 _ (.cells #[.int .i64 (k : Int), .int .i64 (j : Int)] 24)))
            have HYa := Lib.hid ((Blk.new wr 50 [.string U, .int .u8 u1, .int .u8 u2, .int .u32 u3, .string u4, .slice ra rn rc, .slice na nn nc]).alloc (.cells #[.int .i64 (k : Int), .int .i64 (j : Int)] 24))
            have hZa := Blk.new (wr.alloc (.cells #[.string U, .int .u8 u1, .int .u8 u2, .int .u32 u3, .string u4, .slice ra rn rc, .slice na nn nc] 50)) 24 [.int .i64 (k : Int), .int .i64 (j : Int)]
            have hsz : (wr.alloc (.cells #[.string U, .int .u8 u1, .int .u8 u2, .int .u32 u3, .string u4, .slice ra rn rc, .slice na nn nc] 50)).heap.size = wr.heap.size + 1 := by simp
            rw [hsz] at hZa
            have HZa := Lib.hid hZa
            have HW := Lib.hid (winner_all l b m U hnl _ HEa.out)
            obtain ⟨X, Y, B, hp, hp2, hB, hX, hY⟩ := plT_parts (winL l (by' U))
            rw [hp] at HW
            have HWP2 : Hid (u1 ≠ 0 → isWin l (k, j) = decide (X = (k : Int) ∧ Y = (j : Int))) := Lib.hid (fun h => by
              rw [HWP.out h, hX, hY]
              exact decide_eq_decide.2 ⟨fun h => ⟨by rw [h.1], by rw [h.2]⟩, fun h => ⟨by omega, by omega⟩⟩)
            have v0 := (HB.out.cell (p := ⟨w2.heap.size, 0, none⟩) HY3.out.lt).trans (HY3.out.cell 0)
            simp only [List.getElem?_cons_zero] at v0
            have hl0 : w2.heap.size < wr.heap.size := Nat.lt_of_lt_of_le HY3.out.lt HB.out.size
            clear hs hU g1 g2 g3 g4 hrn hnn hfs hL hnl hjl hp hp2 hB hX hY hsz hZa HEa HB HI HWP hby HBw
            go_wp2_with fail
            clear v0 hl0 c0 c1 c2 c3 c4 c5 c6
            refine HW.out.mono ?_; rintro e w6 ⟨rfl, q6⟩
            have HB6 := Lib.hid (below_box (below_call HBa.out q6) (.cells #[.int .i64 X, .int .i64 Y] 24))
            have HI6 := Lib.hid ((HIa.out.below q6).below (below_new1 w6 (.cells #[.int .i64 X, .int .i64 Y] 24)))
            have HY6 := Lib.hid ((HYa.out.call q6).alloc (.cells #[.int .i64 X, .int .i64 Y] 24))
            have HZ6 := Lib.hid ((HZa.out.call q6).alloc (.cells #[.int .i64 X, .int .i64 Y] 24))
            clear q6 HW HBa HIa HYa HZa
            have s1 := HY6.out.cell 1
            simp only [List.getElem?_cons_zero, List.getElem?_cons_succ] at s1
            have hl1 := HY6.out.lt
            obtain ⟨t0, t1, -, -, hl2⟩ := HZ6.out.st2
            obtain ⟨W, hW⟩ : ∃ W, W = isWin l (k, j) := ⟨_, rfl⟩
            obtain ⟨aa, ca, hvv⟩ := HI6.out.slice
            obtain ⟨na', hna⟩ : ∃ na', na' = ((pre l k j).filter (isWin l)).length := ⟨_, rfl⟩
            rw [← hna] at hvv
            subst hvv
            clear hna
            have HADD : Hid (W = true → ∀ v7 w7, OwnP w7 w5.heap.size v7 ((pre l k j).filter (isWin l) ++ [(k, j)]) → OwnP w7 w5.heap.size v7 ((pre l k (j + 1)).filter (isWin l))) := Lib.hid (fun h v7 w7 h7 => by rw [HFN.out, if_pos (by rw [← hW]; exact h)]; exact h7)
            have HNOT : Hid (W = false → ∀ v7 w7, OwnP w7 w5.heap.size v7 ((pre l k j).filter (isWin l)) → OwnP w7 w5.heap.size v7 ((pre l k (j + 1)).filter (isWin l))) := Lib.hid (fun h v7 w7 h7 => by rw [HFN.out, if_neg (by rw [← hW, h]; simp), List.append_nil]; exact h7)
            rw [← hW] at HWL HWP2
            clear hW HFN HY6
            by_cases hb0 : u1 = 0
            · have HWt : Hid (W = true) := Lib.hid (HWL.out hb0)
              have hbt : (u1 == 0) = true := by rw [hb0]; rfl
              clear hb0 hbd HWL HWP2 HNOT
              go_wp2_with (at_builtin; refine wpList_addPl rfl _ _ rfl w5.heap.size _ _ (k, j) rfl HI6.out _ _ rfl rfl (w6.heap.size + 1) (by simp) rfl HLN.out HB6.out.size ?_; intro v7 w7 hI7 hgrow)
              have HI7 := Lib.hid (HADD.out HWt.out v7 w7 hI7)
              have HB7 := Lib.hid (hgrow w5 (Nat.le_refl _) HB6.out)
              clear hI7 hgrow HADD HWt HB6 HI6 HZ6 s1 t0 t1 hl1 hl2
              go_wp2_with fail
              go_roundw
              case rel => exact ⟨j + 1, by omega, by go_num, HB7, HI7⟩
              case measure => simp [intOf]; omega
            · have hbt : (u1 == 0) = false := by rw [beq_eq_false_iff_ne]; exact hb0
              have hWP := HWP2.out hb0
              clear hb0 hbd HWL HWP2
              by_cases hX : X = (k : Int)
              · subst hX
                by_cases hY : Y = (j : Int)
                · subst hY
                  have HWt : Hid (W = true) := Lib.hid (by rw [hWP]; exact decide_eq_true ⟨rfl, rfl⟩)
                  clear hWP HNOT
                  go_wp2_with (at_builtin; refine wpList_addPl rfl _ _ rfl w5.heap.size _ _ (k, j) rfl HI6.out _ _ rfl rfl (w6.heap.size + 1) (by simp) rfl HLN.out HB6.out.size ?_; intro v7 w7 hI7 hgrow)
                  have HI7 := Lib.hid (HADD.out HWt.out v7 w7 hI7)
                  have HB7 := Lib.hid (hgrow w5 (Nat.le_refl _) HB6.out)
                  clear hI7 hgrow HADD HWt HB6 HI6 HZ6 s1 t0 t1 hl1 hl2
                  go_wp2_with fail
                  go_roundw
                  case rel => exact ⟨j + 1, by omega, by go_num, HB7, HI7⟩
                  case measure => simp [intOf]; omega
                · have HWf : Hid (W = false) := Lib.hid (by rw [hWP]; exact decide_eq_false (fun h => hY h.2))
                  have HI7 := Lib.hid (HNOT.out HWf.out _ _ HI6.out)
                  have hne : ((j : Int) == Y) = false := by rw [beq_eq_false_iff_ne]; exact fun h => hY h.symm
                  have hne2 : decide ((j : Int) = Y) = false := decide_eq_false (fun h => hY h.symm)
                  clear hWP HNOT HADD HWf HI6
                  go_wp2_with fail
                  go_roundw
                  case rel => exact ⟨j + 1, by omega, by go_num, HB6, HI7⟩
                  case measure => simp [intOf]; omega
              · have HWf : Hid (W = false) := Lib.hid (by rw [hWP]; exact decide_eq_false (fun h => hX h.1))
                have HI7 := Lib.hid (HNOT.out HWf.out _ _ HI6.out)
                have hne : ((k : Int) == X) = false := by rw [beq_eq_false_iff_ne]; exact fun h => hX h.symm
                have hne2 : decide ((k : Int) = X) = false := decide_eq_false (fun h => hX h.symm)
                clear hWP HNOT HADD HWf HI6
                go_wp2_with fail
                go_roundw
                case rel => exact ⟨j + 1, by omega, by go_num, HB6, HI7⟩
                case measure => simp [intOf]; omega
          · obtain rfl : j = mm := by omega
            have hd2 : decide (j < j) = false := decide_eq_false (by omega)
            rw [HM.out, pre_row] at HI
            clear hjt
            go_wp2_with fail
            go_roundw
            case rel => exact ⟨k + 1, by omega, by go_num, HB, HI⟩
            case measure => simp [intOf]; omega
      · obtain rfl : k = n := by omega
        have hd : decide (k < k) = false := decide_eq_false (by omega)
        have HBw := Lib.hid (below_call HB3.out HB.out)
        have HI7 := Lib.hid (HI.out.base HB3.out.size)
        have HRR : Hid (R = ((allB l k).filter (isWin l), 0)) := Lib.hid (by rw [HRa.out]; unfold allP; rw [← HN.out])
        clear hlt HI HB HRa
        go_wp2_with fail
        go_ret2
        exact ⟨_, by rw [HRR.out]; rfl, by rw [HRR.out]; exact HI7.out, HBw.out⟩
  · have hb : (E != 0) = true := by rw [bne_iff_ne]; exact h0
    have hd : decide (E = 0) = false := decide_eq_false h0
    have HR : Hid (R = ([], E)) := Lib.hid (HR1.out h0)
    clear HR1 HR2 HOK HY3 h0 HLK
    go_wp2_with fail
    go_ret2
    exact ⟨.slice none 0 0, by rw [HR.out]; rfl, by rw [HR.out]; exact OwnP.nil _ _, HB3.out⟩
end Go.Proofs.Ytfnofolahhoggaa
