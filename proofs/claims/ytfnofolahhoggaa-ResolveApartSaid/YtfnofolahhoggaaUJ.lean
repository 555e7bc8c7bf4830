/- The program's Refs. -/
import Derived.Test.YtfnofolahhoggaaUI
set_option linter.unusedVariables false
set_option linter.unusedSimpArgs false
namespace Go.Proofs.Ytfnofolahhoggaa
open Go Go.RowKit Go.Maps Oj Rv

theorem hasL_of {l : List Ob} {x y : Int} (h : hasL l x y = true) : ∃ i j : Nat, x = i ∧ y = j ∧ i < l.length ∧ j < (symsN l i).length := by
  unfold hasL at h
  have h := of_decide_eq_true h
  obtain ⟨h1, h2, h3, h4⟩ := h
  obtain ⟨i, rfl⟩ := Int.eq_ofNat_of_zero_le h1
  obtain ⟨j, rfl⟩ := Int.eq_ofNat_of_zero_le h3
  rw [Int.toNat_natCast] at h4
  exact ⟨i, j, rfl, rfl, by omega, by omega⟩
set_option maxHeartbeats 8000000 in
set_option maxRecDepth 100000 in
theorem vRefs_any (l : List Ob) (v : Value) (x y : Int) (hf : obsFit l) (w : World) (hA : ObsAt w v l) :
    Calls Try.prog 13 #[v, .agg #[.int .i64 x, .int .i64 y]] w (RfPost w (refsL l x y)) := by
  have HO := Lib.hid (fun W (hq : Below w.heap.size w W) => ofp_any l v hf W (hA.below hq))
  have HH := Lib.hid (fun om W (hq : Below w.heap.size w W) => vhas_any l v om x y hf W (hA.below hq))
  have HS := Lib.hid (fun W (hq : Below w.heap.size w W) => hA.below hq)
  obtain ⟨a, c, rfl, h2⟩ := hA.two
  obtain ⟨n, hn⟩ : ∃ n, n = l.length := ⟨_, rfl⟩
  have hni : (n : Int) ≤ 3518437208884 := by have := hf.1; omega
  rw [← hn] at HO HS HH h2 ⊢
  have HN := Lib.hid hn
  have HF := Lib.hid hf
  have H2 := Lib.hid h2
  have HB0 := Lib.hid (below_new1 w (.cells #[.int .i64 x, .int .i64 y] 24))
  have HX0 := Lib.hid (Blk.new w 24 [.int .i64 x, .int .i64 y])
  obtain ⟨CN, hCN⟩ : ∃ CN, CN = (checkL l).1 := ⟨_, rfl⟩
  obtain ⟨E, hE⟩ : ∃ E, E = (checkL l).2 := ⟨_, rfl⟩
  obtain ⟨T, hT⟩ : ∃ T, T = hasL l x y := ⟨_, rfl⟩
  obtain ⟨R, hR⟩ : ∃ R, R = refsL l x y := ⟨_, rfl⟩
  have HR1 : Hid (E ≠ 0 → R = ([], CN, E)) := Lib.hid (fun h => by rw [hR]; unfold refsL; rw [← hE, if_pos h, hCN, hE])
  have HR2 : Hid (E = 0 → T = false → R = ([], [], 2)) := Lib.hid (fun h h2 => by rw [hR]; unfold refsL; rw [← hE, if_neg (fun hn => hn h), ← hT, h2, if_neg (by simp)])
  have HR3 : Hid (E = 0 → T = true → (∀ k, badL l x (symP l (x.toNat, y.toNat)).rels = some k → R = ([], ((symP l (x.toNat, y.toNat)).rels.getD k Rl.nought).name, 121)) ∧ (badL l x (symP l (x.toNat, y.toNat)).rels = none → R = (refN l x (symP l (x.toNat, y.toNat)).rels (symP l (x.toNat, y.toNat)).rels.length, [], 0))) := Lib.hid (fun h h2 => by
    rw [hR]; unfold refsL; rw [← hE, if_neg (fun hn => hn h), ← hT, h2, if_pos rfl]
    exact ⟨fun k hk => by rw [hk], fun hk => by rw [hk]⟩)
  have HT : Hid (T = true → ∃ i j : Nat, x = i ∧ y = j ∧ i < l.length ∧ j < (symsN l i).length) := Lib.hid (fun h => hasL_of (by rw [← hT]; exact h))
  have HLK : Hid (E = 0 → linkOk l = true) := Lib.hid (fun h => (check_link_of (by rw [← hE]; exact h)).1)
  have HHB := Lib.hid (fun om W (hq : Below w.heap.size w W) => show Calls Try.prog 26 #[.agg #[.map om, .slice a n c], .agg #[.int .i64 x, .int .i64 y]] W (fun e w' => e = .returned (.bool T) ∧ Below W.heap.size W w') from by have := HH.out om W hq; rw [← hT] at this; exact this)
  have HOE := Lib.hid (fun W (hq : Below w.heap.size w W) => show Calls Try.prog 21 #[.slice a n c] W (fun e w' => Below W.heap.size W w' ∧ ∃ (o : Option Nat) (ra : Option Addr) (rn rc : Nat), e = .returned (.tuple #[.agg #[.map o, .slice ra rn rc], .string (tx CN), .int .i64 E]) ∧ (E = 0 → Value.slice ra rn rc = Value.slice a n c ∧ ∃ b m, o = some b ∧ EntIs w' b m (entB l (allP l)))) from (HO.out W hq).mono (fun e w' h => by unfold OfP at h; rw [← hCN, ← hE] at h; exact h))
  rw [← hR]
  clear hn hf hCN hE hR hT HO HH h2 hA
  go_enter Try.func13, Try.ntmps13
  go_wp2_with fail
  refine (HOE.out _ HB0.out).mono ?_; rintro e w2 ⟨q2, o, ra, rn, rc, rfl, hok⟩
  have HB2 := Lib.hid (below_call HB0.out q2)
  have HX2 := Lib.hid (HX0.out.call q2)
  have HOK := Lib.hid hok
  clear q2 hok HOE HB0 HX0
  have HB3 := Lib.hid (below_box HB2.out (.cells #[.map o, .slice ra rn rc] 60))
  have HX3 := Lib.hid (HX2.out.alloc (.cells #[.map o, .slice ra rn rc] 60))
  have HY3 := Lib.hid (Blk.new w2 60 [.map o, .slice ra rn rc])
  by_cases h0 : E = 0
  · subst h0
    obtain ⟨hv, b, m, rfl, hEn⟩ := HOK.out rfl
    cases hv
    have HEn := Lib.hid (hEn.below (below_new1 w2 (.cells #[.map (some b), .slice a n c] 60)))
    clear hEn HOK
    obtain ⟨z0, z1, -⟩ := HY3.out.st2
    obtain ⟨p0, p1, -⟩ := HX3.out.st2
    cases T with
    | false =>
      have HR : Hid (R = ([], [], 2)) := Lib.hid (HR2.out rfl rfl)
      clear HR1 HR2 HR3 HT
      go_wp2_with fail
      refine (HHB.out _ _ HB3.out).mono ?_; rintro e w4 ⟨rfl, q4⟩
      have HB4 := Lib.hid (below_call HB3.out q4)
      clear q4 z0 z1 p0 p1
      go_wp2_with fail
      go_ret3
      exact ⟨.slice none 0 0, by rw [HR.out]; rfl, by rw [HR.out]; exact OwnP.nil _ _, HB4.out⟩
    | true =>
      obtain ⟨i, j, rfl, rfl, hi, hj⟩ := HT.out rfl
      have hR3 := HR3.out rfl rfl
      rw [Int.toNat_natCast, Int.toNat_natCast] at hR3
      obtain ⟨gb, o', ai, ci, rfl, hbl, -, c1, hrow⟩ := H2.out i (by rw [HN.out]; exact hi)
      obtain ⟨bi, oi, vr, vn, rfl, hbi, hL, hr0, hn0⟩ := hrow j hj
      obtain ⟨mm, hmm⟩ : ∃ mm, mm = (symsN l i).length := ⟨_, rfl⟩
      have hfs := (HF.out.2 i hi).2.2 j hj
      have hmi : (mm : Int) ≤ 1599289640402 := by have := (HF.out.2 i hi).2.1; unfold symsN at hmm; omega
      obtain ⟨ar, cr, hvr, hrl⟩ := hr0
      subst hvr
      have c5 := hL.sy.2.2.2.2.2.1
      obtain ⟨s, hs⟩ : ∃ s, s = symP l (i, j) := ⟨_, rfl⟩
      have hfr := hfs.2.2.2.2.2.1
      have hfn := hfs.2.2.2.2.2.2.2.1
      have hfr' : (symP l (i, j)).rels.length * 32 ≤ 140737488355328 := hfr
      have hfn' : ∀ q, q < (symP l (i, j)).rels.length → rlFits ((symP l (i, j)).rels.getD q Rl.nought) := hfn
      rw [← hs] at hR3 c5 hrl hfr' hfn'
      obtain ⟨rs, hrs⟩ : ∃ rs, rs = s.rels := ⟨_, rfl⟩
      rw [← hrs] at hR3 c5 hrl hfr' hfn'
      obtain ⟨k, hk⟩ : ∃ k, k = rs.length := ⟨_, rfl⟩
      have hk1 : k ≤ 1024 := by
        have h1 := link_sym (HLK.out rfl) hi hj
        unfold symOk at h1
        simp only [Bool.and_eq_true] at h1
        have h2 := h1.1.2
        unfold relsOk at h2
        rw [Bool.and_eq_true] at h2
        have h3 := of_decide_eq_true h2.1
        rw [hk, hrs, hs]
        exact h3
      have hki : (k : Int) ≤ 1024 := by omega
      rw [← hmm] at c1
      rw [← hk] at c5 hrl hfn'
      have hjm : j < mm := by rw [hmm]; exact hj
      have hin : i < n := by rw [HN.out]; exact hi
      have HK := Lib.hid hk
      have HR4 := Lib.hid hR3
      have HRL := Lib.hid hrl
      have HFN := Lib.hid hfn'
      have HFd := Lib.hid (fun (nm : ByteArray) (ht : nm.size ≤ 140737488355328) W (h1 : EntIs W b m (entB l (allP l))) (h2 : Below w.heap.size w W) => vfind_any l b m (.slice (some ⟨gb, o', none⟩) n c) (i : Int) nm HF.out (.inr ⟨by omega, by omega⟩) ht W h1 (HS.out W h2))
      clear HR1 HR2 HR3 HT hi hj hrow hL hn0 hfs hfr hfn hfr' hfn' hs hrs hk hmm hrl hR3
      go_wp2_with fail
      refine (HHB.out _ _ HB3.out).mono ?_; rintro e w4 ⟨rfl, q4⟩
      have HB4 := Lib.hid (below_call HB3.out q4)
      have HX4 := Lib.hid (HX3.out.call q4)
      have HY4 := Lib.hid (HY3.out.call q4)
      have HE4 := Lib.hid (HEn.out.below q4)
      clear q4 z0 z1 p0 p1 HB3 HX3 HY3 HEn HB2 HX2
      obtain ⟨p0, p1, -⟩ := HX4.out.st2
      have d1 := (HB4.out.cell (p := ⟨gb, o' + i * 2 + 1, none⟩) hbl).trans c1
      have d5 := (HB4.out.cell (p := ⟨bi, oi + j * 7 + 5, none⟩) hbi).trans c5
      have hg1 : decide (i < n) = true := decide_eq_true hin
      have hg2 : decide (j < mm) = true := decide_eq_true hjm
      clear c1 c5
      go_upto_region 6 with (fail)
      go_quiet (fail)
      clear p0 p1 d1 d5 hg1 hg2
      refine ex_named ?_; intro w5 hw5
      have q5 : Below w4.heap.size w4 w5 := by rw [hw5]; exact below_drewN _ _
      have HB5 := Lib.hid (below_call HB4.out q5)
      have HX5 := Lib.hid (HX4.out.call q5)
      have HY5 := Lib.hid (HY4.out.call q5)
      have HE5 := Lib.hid (HE4.out.below q5)
      clear q5 hw5 HB4 HX4 HY4 HE4
      have HI0 := Lib.hid (OwnP.nil w5 w5.heap.size)
      have HBI := Lib.hid (Below.refl w5.heap.size w5)
      go_wp2_with fail
      go_loopw [4, 38] (fun v4 i' wr => ∃ q : Nat, (q : Int) ≤ k ∧ i' = .int .i64 q ∧ Hid (∀ r, r < q → (relN l i rs r).isNone = false) ∧ Hid (Below w5.heap.size w5 wr) ∧ Hid (OwnP wr w5.heap.size v4 (refN l i rs q))) (fun _ i' _ => k - (intOf i').toNat)
      case atStart => exact ⟨0, by omega, rfl, Lib.hid (fun r hr => absurd hr (Nat.not_lt_zero r)), HBI, HI0⟩
      case round =>
        clear HBI HI0
        obtain ⟨q, hq, rfl, HKq, HB, HI⟩ := hrel
        by_cases hlt : q < k
        · have hd : decide (q < k) = true := decide_eq_true hlt
          obtain ⟨br, orr, rfl, hbr, hcl⟩ := HRL.out (by omega)
          have HBw := Lib.hid (below_call HB5.out HB.out)
          obtain ⟨xr, hxr⟩ : ∃ xr, xr = rs.getD q Rl.nought := ⟨_, rfl⟩
          have hcx := (hcl q hlt).below HBw.out hbr
          have hfx := HFN.out q hlt
          rw [← hxr] at hcx hfx
          obtain ⟨r0, r1, r2, r3⟩ := hcx.rl
          have hbw : br < wr.heap.size := Nat.lt_of_lt_of_le hbr HBw.out.size
          have hsz : (tx xr.name).size ≤ 140737488355328 := by rw [tx_size]; exact hfx.2.2.2
          have HRN : Hid (relN l i rs q = findL l i (by' (tx xr.name))) := Lib.hid (by unfold relN; rw [← hxr, by_tx])
          have HNM : Hid ((rs.getD q Rl.nought).name = by' (tx xr.name)) := Lib.hid (by rw [← hxr, by_tx])
          obtain ⟨U, hU⟩ : ∃ U, U = tx xr.name := ⟨_, rfl⟩
          obtain ⟨x0, hx0⟩ : ∃ z, z = xr.off := ⟨_, rfl⟩
          obtain ⟨x1, hx1⟩ : ∃ z, z = xr.kind := ⟨_, rfl⟩
          obtain ⟨x3, hx3⟩ : ∃ z, z = xr.add := ⟨_, rfl⟩
          rw [← hU] at r2 hsz HRN HNM
          rw [← hx0] at r0
          rw [← hx1] at r1
          rw [← hx3] at r3
          have HCl := Lib.hid (fun W => sclone_any U hsz W)
          have hEa := (HE5.out.below HB.out).below (below_new1 wr (.cells #[.int .u32 x0, .int .u8 x1, .string U, .int .u32 x3] 54))
          have HBa := Lib.hid (below_box HBw.out (.cells #[.int .u32 x0, .int .u8 x1, .string U, .int .u32 x3] 54))
          have HBb := Lib.hid (below_box HB.out (.cells #[.int .u32 x0, .int .u8 x1, .string U, .int .u32 x3] 54))
          have HIa := Lib.hid (HI.out.below (below_new1 wr (.cells #[.int .u32 x0, .int .u8 x1, .string U, .int .u32 x3] 54)))
          have HZa := Lib.hid (Blk.new wr 54 [.int .u32 x0, .int .u8 x1, .string U, .int .u32 x3])
          have HFa := Lib.hid (HFd.out U hsz _ hEa HBa.out)
          obtain ⟨X, Y, B, hp, hp2, hB, hX, hY⟩ := plT_parts (findL l i (by' U))
          rw [hp] at HFa
          have HPB := Lib.hid hB
          have HPX := Lib.hid (And.intro hX hY)
          have u0 := (HB.out.cell (p := ⟨w2.heap.size, 0, none⟩) HY5.out.lt).trans (HY5.out.cell 0)
          have u1 := (HB.out.cell (p := ⟨w2.heap.size, 1, none⟩) HY5.out.lt).trans (HY5.out.cell 1)
          have u2 := (HB.out.cell (p := ⟨w.heap.size, 0, none⟩) HX5.out.lt).trans (HX5.out.cell 0)
          simp only [List.getElem?_cons_zero, List.getElem?_cons_succ] at u0 u1 u2
          have hl0 : w2.heap.size < wr.heap.size := Nat.lt_of_lt_of_le HY5.out.lt HB.out.size
          have hl1 : w.heap.size < wr.heap.size := Nat.lt_of_lt_of_le HX5.out.lt HB.out.size
          clear hp hp2 hB hX hY hU hx0 hx1 hx3 hxr hcx hfx hcl hsz hEa HB HI HBw
          go_wp2_with fail
          clear u0 u1 u2 hl0 hl1 r0 r1 r2 r3
          refine HFa.out.mono ?_; rintro e w6 ⟨rfl, q6⟩
          have HB6 := Lib.hid (below_box (below_call HBb.out q6) (.cells #[.int .i64 X, .int .i64 Y] 24))
          have HW6 := Lib.hid (below_box (below_call HBa.out q6) (.cells #[.int .i64 X, .int .i64 Y] 24))
          have HI6 := Lib.hid ((HIa.out.below q6).below (below_new1 w6 (.cells #[.int .i64 X, .int .i64 Y] 24)))
          have HZ6 := Lib.hid ((HZa.out.call q6).alloc (.cells #[.int .i64 X, .int .i64 Y] 24))
          clear q6 HFa HBa HBb HIa HZa
          cases B with
          | false =>
            have HRR : Hid (R = ([], by' U, 121)) := Lib.hid (by
              have h1 : relN l i rs q = none := by
                rw [HRN.out]
                have := HPB.out
                cases h : findL l i (by' U) with
                | none => rfl
                | some p => rw [h] at this; cases this
              rw [HR4.out.1 q (bad_hit (by rw [← HK.out]; exact hlt) h1 HKq.out), HNM.out])
            have t2 := HZ6.out.cell 2
            simp only [List.getElem?_cons_zero, List.getElem?_cons_succ] at t2
            have hl6 := HZ6.out.lt
            clear HPB HPX HRN HNM HI6
            go_wp2_with fail
            refine (HCl.out _).mono ?_; rintro e w7 ⟨rfl, q7⟩
            have HW7 := Lib.hid (below_call HW6.out q7)
            clear q7 t2 hl6
            go_wp2_with fail
            go_ret3
            exact ⟨.slice none 0 0, by rw [HRR.out, tx_by]; rfl, by rw [HRR.out]; exact OwnP.nil _ _, HW7.out⟩
          | true =>
            have HSome : Hid (relN l i rs q = some (X.toNat, Y.toNat) ∧ X = (X.toNat : Int) ∧ Y = (Y.toNat : Int)) := Lib.hid (by
              have h1 := HPB.out
              obtain ⟨h2, h3⟩ := HPX.out
              rw [HRN.out]
              cases h : findL l i (by' U) with
              | none => rw [h] at h1; cases h1
              | some p =>
                rw [h] at h2 h3
                simp only [Option.getD_some] at h2 h3
                rw [h2, h3]
                simp)
            have HKq2 : Hid (∀ r, r < q + 1 → (relN l i rs r).isNone = false) := Lib.hid (fun r hr => by
              by_cases hx : r = q
              · subst hx; rw [HSome.out.1]; rfl
              · exact HKq.out r (by omega))
            have HNX : Hid (refN l i rs (q + 1) = refN l i rs q ++ [(X.toNat, Y.toNat)]) := Lib.hid (by rw [refN_next, HSome.out.1]; rfl)
            obtain ⟨aa, ca, hvv⟩ := HI6.out.slice
            obtain ⟨na, hna⟩ : ∃ na, na = (refN l i rs q).length := ⟨_, rfl⟩
            rw [← hna] at hvv
            subst hvv
            have hnl : (refN l i rs q).length ≤ 1048576 := by unfold refN; rw [List.length_map, List.length_range]; omega
            have t0 := (Blk.new w6 24 [.int .i64 X, .int .i64 Y]).cell 0
            have t1 := (Blk.new w6 24 [.int .i64 X, .int .i64 Y]).cell 1
            clear HPB HPX HRN HNM HZ6 hna
            go_wp2_with (at_builtin; refine wpList_addPl rfl _ _ rfl w5.heap.size _ (refN l i rs q) (X.toNat, Y.toNat) rfl HI6.out X Y HSome.out.2.1 HSome.out.2.2 (w6.heap.size + 1) (by simp) rfl hnl HB6.out.size ?_; intro v7 w7 hI7 hgrow)
            have HI7 : Hid (OwnP w7 w5.heap.size v7 (refN l i rs (q + 1))) := Lib.hid (by rw [HNX.out]; exact hI7)
            have HB7 := Lib.hid (hgrow w5 (Nat.le_refl _) HB6.out)
            clear hI7 hgrow t0 t1 HI6 HB6 HW6 HSome HNX hnl
            go_wp2_with fail
            go_roundw
            case rel => exact ⟨q + 1, by omega, by go_num, HKq2, HB7, HI7⟩
            case measure => simp [intOf]; omega
        · obtain rfl : q = k := by omega
          have hd : decide (q < q) = false := decide_eq_false (by omega)
          have HRR : Hid (R = (refN l i rs q, [], 0)) := Lib.hid (by
            rw [HR4.out.2 (bad_none (fun r hr => HKq.out r (by rw [HK.out]; exact hr))), ← HK.out])
          have HBw := Lib.hid (below_call HB5.out HB.out)
          have HIb := Lib.hid (HI.out.base HB5.out.size)
          clear hlt HKq HB HI
          go_wp2_with fail
          go_ret3
          exact ⟨_, by rw [HRR.out]; rfl, by rw [HRR.out]; exact HIb.out, HBw.out⟩
  · have hb : (E != 0) = true := by rw [bne_iff_ne]; exact h0
    have hd : decide (E = 0) = false := decide_eq_false h0
    have HR : Hid (R = ([], CN, E)) := Lib.hid (HR1.out h0)
    clear HR1 HR2 HR3 HOK HY3 h0 HHB
    go_wp2_with fail
    go_ret3
    exact ⟨.slice none 0 0, by rw [HR.out]; rfl, by rw [HR.out]; exact OwnP.nil _ _, HB3.out⟩
end Go.Proofs.Ytfnofolahhoggaa
