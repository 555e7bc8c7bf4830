/- The program's of: a resolver for objects. -/
import Derived.Test.YtfnofolahhoggaaUE
import Derived.Deep.DeepCutAuto
set_option linter.unusedVariables false
set_option linter.unusedSimpArgs false
namespace Go.Proofs.Ytfnofolahhoggaa
open Go Go.RowKit Go.Maps Oj Rv

theorem wp_named {P : Program} {c : Code} {Q : Exit → Act → World → Prop} {a : Act} {W : World} (h : ∀ w', w' = W → c.wp P Q a w') : c.wp P Q a W := h W rfl
set_option maxHeartbeats 8000000 in
set_option maxRecDepth 100000 in
theorem of_any (l : List Ob) (v : Value) (hf : obsFit l) (w : World) (hA : ObsAt w v l) : Calls Try.prog 21 #[v] w (OfPost w l v) := by
  have HLk := Lib.hid (fun W (hq : Below w.heap.size w W) => linkable_any l v hf W (hA.below hq))
  obtain ⟨a, c, rfl, h2⟩ := hA.two
  obtain ⟨n, hn⟩ : ∃ n, n = l.length := ⟨_, rfl⟩
  have hni : (n : Int) ≤ 3518437208884 := by have := hf.1; omega
  rw [← hn] at h2 HLk ⊢
  have H2 := Lib.hid h2
  have HN := Lib.hid hn
  have HF := Lib.hid hf.2
  have HB0 := Lib.hid (below_new1 w (.cells #[.map none, .slice none 0 0] 60))
  have HX0 := Lib.hid (Blk.new w 60 [.map none, .slice none 0 0])
  obtain ⟨L, hL⟩ : ∃ L, L = linkOk l := ⟨_, rfl⟩
  rw [← hL] at HLk
  have HL := Lib.hid hL
  clear hn h2 hf hA hL
  cases L with
  | false =>
    go_enter Try.func21, Try.ntmps21
    go_wp2_with fail
    refine (HLk.out _ HB0.out).mono ?_; rintro e w2 ⟨rfl, q2⟩
    have HB2 := Lib.hid (below_call HB0.out q2)
    have HX2 := Lib.hid (HX0.out.call q2)
    clear q2
    obtain ⟨e0, e1, f0, f1, hl2⟩ := HX2.out.st2
    go_wp2_with fail
    refine bodyPost_ret (res_rs_tmp Try.results21 _ _ w.heap.size _ _ _ _ rfl rfl rfl (HX2.out.put2 _ _)) rfl ⟨below_put2 HB2.out (Nat.le_refl _) _ _, .inl ⟨HL.out.symm, rfl⟩⟩
  | true =>
    have hmm := @run_makeMap Try.prog
    go_enter Try.func21, Try.ntmps21
    go_wp2_with fail
    refine (HLk.out _ HB0.out).mono ?_; rintro e w2 ⟨rfl, q2⟩
    have HB2 := Lib.hid (below_call HB0.out q2)
    have HX2 := Lib.hid (HX0.out.call q2)
    clear q2
    obtain ⟨e0, e1, f0, f1, hl2⟩ := HX2.out.st2
    go_upto_region 4 with (fail)
    refine wp_named ?_; intro w3 hw3
    have hsz : ((w2.setCell ⟨w.heap.size, 0, none⟩ (.map (some w2.heap.size))).setCell ⟨w.heap.size, 1, none⟩ (.slice a n c)).heap.size = w2.heap.size := by simp
    have hE0 := EntIs.made ((w2.setCell ⟨w.heap.size, 0, none⟩ (.map (some w2.heap.size))).setCell ⟨w.heap.size, 1, none⟩ (.slice a n c))
    rw [hsz, ← hw3] at hE0
    have HX3 : Hid (Blk w3 w.heap.size 60 [.map (some w2.heap.size), .slice a n c]) := Lib.hid (by rw [hw3]; exact (HX2.out.put2 _ _).alloc _)
    have HB3 : Hid (Below w.heap.size w w3) := Lib.hid (by rw [hw3]; exact below_box (below_put2 HB2.out (Nat.le_refl _) _ _) _)
    obtain ⟨b, hb⟩ : ∃ b, b = w2.heap.size := ⟨_, rfl⟩
    rw [← hb] at hE0 HX3 ⊢
    have HLO : Hid (w.heap.size ≤ b) := Lib.hid (by rw [hb]; exact HB2.out.size)
    have HNE : Hid (w.heap.size ≠ b) := Lib.hid (by omega)
    have HE3 : Hid (∃ m, m ≤ 64 * 0 ∧ EntIs w3 b m (entB l (allB l 0))) := Lib.hid ⟨0, Nat.le_refl _, hE0.to (fun nm => ent_nil l nm)⟩
    have HL16 := Lib.hid (link_len HL.out.symm)
    have HL64 := Lib.hid (fun i (hi : i < l.length) => (link_ob HL.out.symm hi).1)
    have HBD := Lib.hid (fun i j (hi : i < l.length) (hj : j < (symsN l i).length) => link_bind HL.out.symm hi hj)
    clear hE0 hb hsz hw3 HX2 HB2 e0 e1 f0 f1 hl2 HB0 HX0 hmm
    go_wp2_with fail
    go_loopw [18] (fun i wr => ∃ k : Nat, (k : Int) ≤ n ∧ i = .int .i64 k ∧ Hid (∀ p ∈ allB l k, dupP l p = false) ∧ Hid (Below w.heap.size w wr) ∧ Hid (Blk wr w.heap.size 60 [.map (some b), .slice a n c]) ∧ Hid (∃ m, m ≤ 64 * k ∧ EntIs wr b m (entB l (allB l k)))) (fun i _ => n - (intOf i).toNat)
    case atStart => exact ⟨0, by omega, rfl, Lib.hid fun p hp => absurd hp (by simp [allB]), HB3, HX3, HE3⟩
    case round =>
      clear HB3 HX3 HE3
      obtain ⟨k, hk, rfl, HK, HB, HX, HE⟩ := hrel
      by_cases hlt : k < n
      · obtain ⟨wo, rfl⟩ : ∃ wo, wo = wr := ⟨_, rfl⟩
        obtain ⟨gb, o, ai, ci, rfl, hbl, c0, c1, hj⟩ := H2.out k hlt
        have hkl : k < l.length := by rw [← HN.out]; exact hlt
        have hd : decide (k < n) = true := decide_eq_true hlt
        obtain ⟨m, hm⟩ : ∃ m, m = (symsN l k).length := ⟨_, rfl⟩
        have hm64 : (m : Int) ≤ 64 := by have := HL64.out k hkl; omega
        have hk16 : (k : Int) < 16 := by have := HL16.out; omega
        rw [← hm] at c1 hj
        have HM := Lib.hid hm
        have HJ := Lib.hid hj
        have HKL := Lib.hid hkl
        obtain ⟨M, hM⟩ : ∃ M, M = tx (l.getD k Ob.nought).name := ⟨_, rfl⟩
        rw [← hM] at c0
        have hbr : gb < wo.heap.size := Nat.lt_of_lt_of_le hbl HB.out.size
        have d0 := (HB.out.cell (p := ⟨gb, o + k * 2, none⟩) hbl).trans c0
        have d1 := (HB.out.cell (p := ⟨gb, o + k * 2 + 1, none⟩) hbl).trans c1
        have HB1 := Lib.hid (below_box HB.out (.cells #[.string M, .slice ai m ci] 43))
        have HX1 := Lib.hid (HX.out.alloc (.cells #[.string M, .slice ai m ci] 43))
        have HE1 : Hid (∃ q, q ≤ 64 * k + 0 ∧ EntIs (wo.alloc (.cells #[.string M, .slice ai m ci] 43)) b q (entB l (pre l k 0))) := Lib.hid (by
          obtain ⟨q, h1, h2⟩ := HE.out
          exact ⟨q, h1, by rw [pre_zero]; exact h2.below (below_new1 _ _)⟩)
        have HK1 : Hid (∀ p ∈ pre l k 0, dupP l p = false) := Lib.hid (by rw [pre_zero]; exact HK.out)
        clear hm hj hkl hM c0 c1 HB HX HE HK
        go_wp2_with fail
        clear d0 d1
        go_loopw [26] (fun i wr => ∃ j : Nat, (j : Int) ≤ m ∧ i = .int .i64 j ∧ Hid (∀ p ∈ pre l k j, dupP l p = false) ∧ Hid (Below w.heap.size w wr) ∧ Hid (Blk wr w.heap.size 60 [.map (some b), .slice (some ⟨gb, o, none⟩) n c]) ∧ Hid (∃ q, q ≤ 64 * k + j ∧ EntIs wr b q (entB l (pre l k j)))) (fun i _ => m - (intOf i).toNat)
        case atStart => exact ⟨0, by omega, rfl, HK1, HB1, HX1, HE1⟩
        case round =>
          clear HB1 HX1 HE1 HK1 hbr
          obtain ⟨j, hj, rfl, HK, HB, HX, HE⟩ := hrel
          by_cases hjt : j < m
          · obtain ⟨bi, oi, vr, vn, rfl, hbi, hL, hr0, hn0⟩ := HJ.out j hjt
            have hjl : j < (symsN l k).length := by rw [← HM.out]; exact hjt
            have hd2 : decide (j < m) = true := decide_eq_true hjt
            have hfs := (HF.out k HKL.out).2.2 j hjl
            obtain ⟨c0, c1, c2, c3, c4, c5, c6⟩ := (hL.below HB.out hbi).sy
            have hbr : bi < wr.heap.size := Nat.lt_of_lt_of_le hbi HB.out.size
            obtain ⟨ra, rc, hrv, _⟩ := hr0
            obtain ⟨na, nc, hnv, _⟩ := hn0
            obtain ⟨q, hq, hEq⟩ := HE.out
            have hnl : (symP l (k, j)).name.length ≤ 140737488355328 := hfs.1
            subst hrv hnv
            have HC := Lib.hid (fun W (hW : EntIs W b q (entB l (pre l k j))) => enter_all l k j (HBD.out k j HKL.out hjl) b q ra na (symP l (k, j)).rels.length rc (symP l (k, j)).notes.length nc hnl (by unfold maxLen; omega) W hW)
            have HCl := Lib.hid (fun W => sclone_any (tx (symP l (k, j)).name) (by rw [tx_size]; exact hnl) W)
            have HDH : Hid ((∀ p ∈ pre l k j, dupP l p = false) → dupP l (k, j) = true → dupL l = some (k, j)) := Lib.hid (fun h1 h2 => dup_hit HKL.out hjl h1 h2)
            have HDN : Hid ((∀ p ∈ pre l k j, dupP l p = false) → dupP l (k, j) = false → ∀ p ∈ pre l k (j + 1), dupP l p = false) := Lib.hid (fun h1 h2 => dup_next h1 h2)
            obtain ⟨s, hs⟩ : ∃ s, s = symP l (k, j) := ⟨_, rfl⟩
            rw [← hs] at HC HCl c0 c1 c2 c3 c4 c5 c6
            obtain ⟨U, hU⟩ : ∃ u, u = tx s.name := ⟨_, rfl⟩
            obtain ⟨u1, g1⟩ : ∃ u, u = s.bind := ⟨_, rfl⟩
            obtain ⟨u2, g2⟩ : ∃ u, u = s.kind := ⟨_, rfl⟩
            obtain ⟨u3, g3⟩ : ∃ u, u = s.size := ⟨_, rfl⟩
            obtain ⟨u4, g4⟩ : ∃ u, u = tx s.bytes := ⟨_, rfl⟩
            obtain ⟨rn, hrn⟩ : ∃ x, x = s.rels.length := ⟨_, rfl⟩
            obtain ⟨nn, hnn⟩ : ∃ x, x = s.notes.length := ⟨_, rfl⟩
            rw [← hU] at HC HCl c0
            rw [← g1] at HC c1
            rw [← g2] at HC c2
            rw [← g3] at HC c3
            rw [← g4] at HC c4
            rw [← hrn] at HC c5
            rw [← hnn] at HC c6
            have HU : Hid (U = tx (symP l (k, j)).name) := Lib.hid (by rw [hU, hs])
            have HEq := Lib.hid hEq
            have HQ := Lib.hid hq
            obtain ⟨D, hD⟩ : ∃ D, D = dupP l (k, j) := ⟨_, rfl⟩
            rw [← hD] at HC HDH HDN
            clear hs hU g1 g2 g3 g4 hrn hnn hfs hL hEq hq hnl hjl hD HE
            have HBa := Lib.hid (below_box HB.out (.cells #[.string U, .int .u8 u1, .int .u8 u2, .int .u32 u3, .string u4, .slice ra rn rc, .slice na nn nc] 50))
            have HXa := Lib.hid (HX.out.alloc (.cells #[.string U, .int .u8 u1, .int .u8 u2, .int .u32 u3, .string u4, .slice ra rn rc, .slice na nn nc] 50))
            have HYa := Lib.hid (Blk.new wr 50 [.string U, .int .u8 u1, .int .u8 u2, .int .u32 u3, .string u4, .slice ra rn rc, .slice na nn nc])
            have HEa := Lib.hid (HEq.out.below (below_new1 wr (.cells #[.string U, .int .u8 u1, .int .u8 u2, .int .u32 u3, .string u4, .slice ra rn rc, .slice na nn nc] 50)))
            have HNY : Hid (wr.heap.size ≠ b) := Lib.hid (by have := HEq.out.lt; omega)
            have y0 := HXa.out.cell 0
            clear HB HX HEq
            go_wp2_with fail
            clear y0
            refine (HC.out _ HEa.out).mono ?_; rintro e w5 ⟨rfl, hg5, hE5⟩
            have HB5 := Lib.hid (below_grown HBa.out hg5 HLO.out)
            have HX5 := Lib.hid (HXa.out.grown hg5 (by intro h; injection h with h; exact HNE.out h))
            have HY5 := Lib.hid (HYa.out.grown hg5 (by intro h; injection h with h; exact HNY.out h))
            have HE5 := Lib.hid hE5
            clear hg5 hE5 HC HBa HXa HYa HEa
            cases D with
            | true =>
              have HP : Hid (dupL l = some (k, j)) := Lib.hid (HDH.out HK.out rfl)
              rw [if_pos (rfl : true = true)]
              have y0 := HY5.out.cell 0
              clear HE5 HK HDH HDN
              go_wp2_with fail
              refine (HCl.out _).mono ?_; rintro e w6 ⟨rfl, q6⟩
              have HB6 := Lib.hid (below_call HB5.out q6)
              have HX6 := Lib.hid (HX5.out.call q6)
              clear q6 y0
              obtain ⟨e0, e1, f0, f1, hl2⟩ := HX6.out.st2
              go_wp2_with fail
              refine bodyPost_ret (res_rs_tmp Try.results21 _ _ w.heap.size _ _ _ _ rfl rfl rfl (HX6.out.put2 _ _)) rfl ⟨below_put2 HB6.out (Nat.le_refl _) _ _, .inr (.inl ⟨HL.out.symm, (k, j), HP.out, by rw [← HU.out]; rfl⟩)⟩
            | false =>
              have HK6 := Lib.hid (HDN.out HK.out rfl)
              have HE6 : Hid (∃ r, r ≤ 64 * k + (j + 1) ∧ EntIs w5 b r (entB l (pre l k (j + 1)))) := Lib.hid ⟨q + 1, by have := HQ.out; omega, HE5.out rfl⟩
              rw [if_neg (by simp)]
              clear HE5 HK HDH HDN HQ
              go_wp2_with fail
              go_roundw
              case rel => exact ⟨j + 1, by omega, by go_num, HK6, HB5, HX5, HE6⟩
              case measure => simp [intOf]; omega
          · obtain rfl : j = m := by omega
            have hd2 : decide (j < j) = false := decide_eq_false (by omega)
            have HK6 : Hid (∀ p ∈ allB l (k + 1), dupP l p = false) := Lib.hid (by rw [← pre_row, ← HM.out]; exact HK.out)
            have HE6 : Hid (∃ r, r ≤ 64 * (k + 1) ∧ EntIs wr b r (entB l (allB l (k + 1)))) := Lib.hid (by
              obtain ⟨r, h1, h2⟩ := HE.out
              exact ⟨r, by omega, by rw [← pre_row, ← HM.out]; exact h2⟩)
            clear hjt HK HE
            go_wp2_with fail
            go_roundw
            case rel => exact ⟨k + 1, by omega, by go_num, HK6, HB, HX, HE6⟩
            case measure => simp [intOf]; omega
      · obtain rfl : k = n := by omega
        have hd : decide (k < k) = false := decide_eq_false (by omega)
        have HP : Hid (dupL l = none) := Lib.hid (dup_none (by unfold allP; rw [← HN.out]; exact HK.out))
        have HE6 : Hid (∃ r, EntIs wr b r (entB l (allP l))) := Lib.hid (by
          obtain ⟨r, h1, h2⟩ := HE.out
          exact ⟨r, by unfold allP; rw [← HN.out]; exact h2⟩)
        clear hlt HK HE
        obtain ⟨e0, e1, f0, f1, hl2⟩ := HX.out.st2
        go_wp2_with fail
        refine bodyPost_ret (res_rs_tmp Try.results21 _ _ w.heap.size _ _ _ _ rfl rfl rfl (HX.out.put2 _ _)) rfl ⟨below_put2 HB.out (Nat.le_refl _) _ _, .inr (.inr ⟨HL.out.symm, HP.out, ?_⟩)⟩
        obtain ⟨r, h1⟩ := HE6.out
        exact ⟨b, r, (h1.kept (grown_put2 _ _ _ _) (by intro h; injection h with h; exact HNE.out h.symm)), rfl⟩
end Go.Proofs.Ytfnofolahhoggaa
