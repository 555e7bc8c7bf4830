/- The document's Make (package aediculeref10). (written by mk_ad.py) -/
import Derived.Test.YtlnnhgmkibjgmaaDoorX27
import Derived.LoopTactic
import Derived.IntWalk
import Derived.Deep.RegionHeld3
import Derived.Deep.AppendLies
set_option linter.unusedVariables false
set_option linter.unusedSimpArgs false
namespace Go.Proofs.YtlnnhgmkibjgmaaDoor
open Go Go.RowKit Oj Al

set_option maxHeartbeats 32000000 in
set_option maxRecDepth 100000 in
theorem kmake_any (nm : ByteArray) (hnm : nm.size ≤ 140737488355328) (bi : Int) (LN : List Nt) (vn : Value) (l : List Ln) (vl : Value) (w : World) (hN : NotesAt w vn LN) (hNf : LN.length * 12 ≤ 140737488355328) (hNs : ∀ j, j < LN.length → ntFits (LN.getD j Nt.nought)) (hbi : 0 ≤ bi ∧ bi < 256) (hL : LinesAt w vl l) (hLf : lnsFit l) :
    Calls Tryd.prog 10 #[.string nm, .int .u8 bi, vn, vl] w (MkPost w (mkE (by' nm) bi LN l) (mkS (by' nm) bi LN l)) := by
  obtain ⟨iR, hi, hz, hs, hb⟩ := info_parts infoRel
  have HI := Lib.hid (And.intro hi (And.intro hz (And.intro hs hb)))
  clear hi hz hs hb
  obtain ⟨iN, hi, hz, hs, hb⟩ := info_parts infoNote
  have HJ := Lib.hid (And.intro hi (And.intro hz (And.intro hs hb)))
  clear hi hz hs hb
  obtain ⟨al, cl, rfl, h2⟩ := hL
  have HNC := Lib.hid hN
  obtain ⟨an, cn, rfl, _⟩ := hN
  obtain ⟨n, hn⟩ : ∃ n, n = l.length := ⟨_, rfl⟩
  obtain ⟨m, hm⟩ : ∃ n, n = LN.length := ⟨_, rfl⟩
  obtain ⟨E, hE⟩ : ∃ E, E = mkE (by' nm) bi LN l := ⟨_, rfl⟩
  obtain ⟨X, hX⟩ : ∃ X, X = mkS (by' nm) bi LN l := ⟨_, rfl⟩
  have HLong : Hid (1024 < n → E = 5 ∧ X = Sy.nought) := Lib.hid (fun h => by rw [hE, hX]; exact mk_long (by omega))
  have HArg : Hid (n ≤ 1024 → ∀ k, k < n → lnOk (l.getD k Ln.nought) = false → E = 2 ∧ X = Sy.nought) := Lib.hid (fun h k hk h2 => by rw [hE, hX]; exact mk_arg (by omega) (by omega) h2)
  have HHave : Hid (n ≤ 1024 → (∀ k, k < n → lnOk (l.getD k Ln.nought) = true) → ∀ k, k < n → lblOk l k = false → E = 9 ∧ X = Sy.nought) := Lib.hid (fun h h2 k hk h3 => by rw [hE, hX]; exact mk_have (by omega) (fun j hj => h2 j (by omega)) (by omega) h3)
  have HNone : Hid (n ≤ 1024 → (∀ k, k < n → lnOk (l.getD k Ln.nought) = true) → (∀ k, k < n → lblOk l k = true) → ∀ k, k < n → toOk l k = false → E = 3 ∧ X = Sy.nought) := Lib.hid (fun h h2 h3 k hk h4 => by rw [hE, hX]; exact mk_none (by omega) (fun j hj => h2 j (by omega)) (fun j hj => h3 j (by omega)) (by omega) h4)
  have HDone : Hid (n ≤ 1024 → (∀ k, k < n → lnOk (l.getD k Ln.nought) = true) → (∀ k, k < n → lblOk l k = true) → (∀ k, k < n → toOk l k = true) → (symOk (symL (by' nm) bi LN l) = true → E = 0 ∧ X = symL (by' nm) bi LN l) ∧ (symOk (symL (by' nm) bi LN l) = false → E = 2 ∧ X = Sy.nought)) := Lib.hid (fun h h2 h3 h4 => by rw [hE, hX]; exact mk_all (by omega) (fun j hj => h2 j (by omega)) (fun j hj => h3 j (by omega)) (fun j hj => h4 j (by omega)))
  rw [← hE, ← hX]
  have HFt : Hid (∀ k, k < n → lnFits (l.getD k Ln.nought)) := Lib.hid (fun k hk => hLf.2 k (by omega))
  have HFind : Hid (∀ U W, Below w.heap.size w W → Calls Tryd.prog 37 #[.slice al n cl, .string U] W fun e w' => e = .returned (findLV (findL l (by' U))) ∧ W = w') := Lib.hid (fun U W hW => kfind_any _ l U W (by rw [hn]; exact SlC.below (show LinesAt w _ l from ⟨al, cl, rfl, h2⟩) hW (Nat.le_refl _)) hLf.1)
  have HOwn : Hid (∀ k, k < n → ∃ i, findL l (l.getD k Ln.nought).label = some i ∧ i ≤ k) := Lib.hid (fun k hk => findL_own (by omega))
  have HBL : Hid (∀ k, k < n → bytesL (l.take (k + 1)) = bytesL (l.take k) ++ lineB (l.getD k Ln.nought)) := Lib.hid (fun k hk => bytesL_snoc l k (by omega))
  have HSz : Hid (∀ k, (bytesL (l.take k)).length ≤ 8 * n) := Lib.hid (fun k => by rw [bytesL_length, List.length_take]; omega)
  have HFi : Hid (∀ lab i, findL l lab = some i → i < n) := Lib.hid (fun lab i h => by have := (findL_some h).1; omega)
  have HTake : Hid (∀ k, k = n → bytesL (l.take k) = bytesL l) := Lib.hid (fun k hk => by rw [hk, hn, List.take_length])
  have HLn : Hid (n = l.length) := Lib.hid hn
  have hni : (n : Int) ≤ 2513169434916 := by have := hLf.1; omega
  rw [← hn] at h2 ⊢
  have H2 := Lib.hid h2
  have HMn := Lib.hid hm
  rw [← hm] at hNf ⊢
  have hmi : (m : Int) ≤ 11728124029610 := by omega
  have HMk : Hid (m ≤ maxLen ∧ m * 12 ≤ 140737488355328) := Lib.hid ⟨by unfold maxLen; omega, hNf⟩
  have HSFit : Hid (n ≤ 1024 → syFits (symL (by' nm) bi LN l)) := Lib.hid (fun h => symL_fits (by rw [by_length]; exact hnm) hbi hLf (by omega) (by omega) hNs)
  have HEnc : Hid (∀ k, k < n → lnOk (l.getD k Ln.nought) = true → ∀ W, Calls Tryd.prog 38 #[inV (l.getD k Ln.nought).op (l.getD k Ln.nought).d (l.getD k Ln.nought).a (l.getD k Ln.nought).b (im0 (l.getD k Ln.nought))] W fun e w' => e = .returned (.tuple #[.string (tx (lineB (l.getD k Ln.nought))), .int .i64 0]) ∧ Below W.heap.size W w') := Lib.hid (fun k hk hok W => enc_line (hLf.2 k (by omega)) hok W)
  have HRels : Hid (∀ k, relsL (by' nm) l (k + 1) = relsL (by' nm) l k ++ relsAt (by' nm) l k) := Lib.hid (fun k => rfl)
  have HRl : Hid (∀ k, k ≤ n → (relsL (by' nm) l k).length ≤ 2048 ∨ 1024 < n) := Lib.hid (fun k hk => by
    have := relsL_le (by' nm) l k
    omega)
  have HFin : Hid (∀ k, k = n → (⟨by' nm, bi, 1, 8 * (n : Int), bytesL (l.take k), relsL (by' nm) l k, LN⟩ : Sy) = symL (by' nm) bi LN l) := Lib.hid (fun k hk => by
    unfold symL
    rw [hk, hn, List.take_length])
  have hsz : (nm.size : Int) ≤ 140737488355328 := by omega
  clear h2 hn hm hE hX hNf hLf hNs hnm
  go_enter Tryd.func10, Tryd.ntmps10
  go_upto_region 1 with (fail)
  have HB0 := Lib.hid (below_new1 w (.cells #[.string ⟨#[]⟩, .int .u8 0, .int .u8 0, .int .u32 0, .string ⟨#[]⟩, .slice none 0 0, .slice none 0 0] 29))
  have HX0 := Lib.hid (Blk.new w 29 [.string ⟨#[]⟩, .int .u8 0, .int .u8 0, .int .u32 0, .string ⟨#[]⟩, .slice none 0 0, .slice none 0 0])
  obtain ⟨wb, hwb⟩ : ∃ wb, wb = w.alloc (.cells #[.string ⟨#[]⟩, .int .u8 0, .int .u8 0, .int .u32 0, .string ⟨#[]⟩, .slice none 0 0, .slice none 0 0] 29) := ⟨_, rfl⟩
  rw [← hwb] at HB0 HX0 ⊢
  clear hwb
  by_cases hlong : 1024 < n
  · obtain ⟨e1, e2⟩ := HLong.out hlong
    subst e1 e2
    have hli : (1024 : Int) < (n : Int) := by omega
    clear hlong HLong HArg HHave HNone HDone HFt HFind HOwn HBL HSz HFi HTake HLn HSFit
    have x0 : wb.cell? ⟨w.heap.size, 0, none⟩ = some (.string ⟨#[]⟩) := HX0.out.cell 0
    have f0 : wb.frozen? ⟨w.heap.size, 0, none⟩ = false := HX0.out.frozen 0
    have x1 : wb.cell? ⟨w.heap.size, 1, none⟩ = some (.int .u8 0) := HX0.out.cell 1
    have f1 : wb.frozen? ⟨w.heap.size, 1, none⟩ = false := HX0.out.frozen 1
    have x2 : wb.cell? ⟨w.heap.size, 2, none⟩ = some (.int .u8 0) := HX0.out.cell 2
    have f2 : wb.frozen? ⟨w.heap.size, 2, none⟩ = false := HX0.out.frozen 2
    have x3 : wb.cell? ⟨w.heap.size, 3, none⟩ = some (.int .u32 0) := HX0.out.cell 3
    have f3 : wb.frozen? ⟨w.heap.size, 3, none⟩ = false := HX0.out.frozen 3
    have x4 : wb.cell? ⟨w.heap.size, 4, none⟩ = some (.string ⟨#[]⟩) := HX0.out.cell 4
    have f4 : wb.frozen? ⟨w.heap.size, 4, none⟩ = false := HX0.out.frozen 4
    have x5 : wb.cell? ⟨w.heap.size, 5, none⟩ = some (.slice none 0 0) := HX0.out.cell 5
    have f5 : wb.frozen? ⟨w.heap.size, 5, none⟩ = false := HX0.out.frozen 5
    have x6 : wb.cell? ⟨w.heap.size, 6, none⟩ = some (.slice none 0 0) := HX0.out.cell 6
    have f6 : wb.frozen? ⟨w.heap.size, 6, none⟩ = false := HX0.out.frozen 6
    have z2 : w.heap.size < wb.heap.size := HX0.out.lt
    go_wp2_with fail
    have HY := (((((((HX0.out.set_ 0 (.string ⟨#[]⟩)).set_ 1 (.int .u8 0)).set_ 2 (.int .u8 0)).set_ 3 (.int .u32 0)).set_ 4 (.string ⟨#[]⟩)).set_ 5 (.slice none 0 0)).set_ 6 (.slice none 0 0))
    refine bodyPost_ret (res_sy_tmp Tryd.results10 _ _ w.heap.size _ _ _ _ _ _ _ _ rfl rfl HY) rfl ⟨_, rfl, sy_zero _, ?_⟩
    exact (below_set (below_set (below_set (below_set (below_set (below_set (below_set HB0.out (Nat.le_refl _) 0 _) (Nat.le_refl _) 1 _) (Nat.le_refl _) 2 _) (Nat.le_refl _) 3 _) (Nat.le_refl _) 4 _) (Nat.le_refl _) 5 _) (Nat.le_refl _) 6 _)
  have hle : n ≤ 1024 := by omega
  have hli : (n : Int) ≤ 1024 := by omega
  have HA1 := Lib.hid (HArg.out hle)
  have HH1 := Lib.hid (HHave.out hle)
  have HN1 := Lib.hid (HNone.out hle)
  have HD1 := Lib.hid (HDone.out hle)
  clear hlong hle HLong HArg HHave HNone HDone
  go_wp2_with fail
  go_loopw [10] (fun i wr => ∃ k : Nat, (k : Int) ≤ n ∧ i = .int .i64 k ∧ Hid (∀ j, j < k → lnOk (l.getD j Ln.nought) = true) ∧ Hid (Below w.heap.size w wr) ∧ Hid (Blk wr w.heap.size 29 zS)) (fun i _ => n - (intOf i).toNat)
  case atStart => exact ⟨0, by omega, rfl, Lib.hid (fun j hj => absurd hj (by omega)), HB0, HX0⟩
  case round =>
    clear HB0 HX0
    obtain ⟨k, hk, rfl, HK, HB, HX⟩ := hrel
    by_cases hlt : k < n
    · have hd : decide (k < n) = true := decide_eq_true hlt
      obtain ⟨b, o, rfl, hbl, hcl⟩ := H2.out (by omega)
      have hbr : b < wr.heap.size := Nat.lt_of_lt_of_le hbl HB.out.size
      have hL := ((hcl k hlt).below HB.out hbl)
      have HM := Lib.hid (kmay_any _ (HFt.out k hlt) wr)
      obtain ⟨x, hx⟩ : ∃ x, x = l.getD k Ln.nought := ⟨_, rfl⟩
      rw [← hx] at hL HM
      obtain ⟨d0, d1, d2, d3, d4, d5, d6, d7⟩ := hL.ln
      unfold lnV at HM
      obtain ⟨q, hq⟩ : ∃ q, q = lnOk x := ⟨_, rfl⟩
      rw [← hq] at HM
      have HQ : Hid (q = lnOk (l.getD k Ln.nought)) := Lib.hid (by rw [hq, hx])
      obtain ⟨y0, g0⟩ : ∃ u, u = tx x.label := ⟨_, rfl⟩
      obtain ⟨y1, g1⟩ : ∃ u, u = x.op := ⟨_, rfl⟩
      obtain ⟨y2, g2⟩ : ∃ u, u = x.d := ⟨_, rfl⟩
      obtain ⟨y3, g3⟩ : ∃ u, u = x.a := ⟨_, rfl⟩
      obtain ⟨y4, g4⟩ : ∃ u, u = x.b := ⟨_, rfl⟩
      obtain ⟨y5, g5⟩ : ∃ u, u = x.im := ⟨_, rfl⟩
      obtain ⟨y6, g6⟩ : ∃ u, u = tx x.to := ⟨_, rfl⟩
      obtain ⟨y7, g7⟩ : ∃ u, u = tx x.name := ⟨_, rfl⟩
      simp only [← g0, ← g1, ← g2, ← g3, ← g4, ← g5, ← g6, ← g7] at d0 d1 d2 d3 d4 d5 d6 d7 HM
      clear hL hcl hx hq g0 g1 g2 g3 g4 g5 g6 g7
      go_wp2_with fail
      refine HM.out.mono ?_; rintro e w2 ⟨rfl, q2⟩
      have HB2 := Lib.hid (below_call HB.out q2)
      have HX2 := Lib.hid (HX.out.call q2)
      clear q2 HM HB HX d0 d1 d2 d3 d4 d5 d6 d7 hbr
      cases q
      · obtain ⟨e1, e2⟩ := HA1.out k hlt HQ.out.symm
        subst e1 e2
        clear HA1 HH1 HN1 HD1 HFt HFind HOwn HBL HSz HFi HTake HLn HSFit HQ HK
        have x0 : w2.cell? ⟨w.heap.size, 0, none⟩ = some (.string ⟨#[]⟩) := HX2.out.cell 0
        have f0 : w2.frozen? ⟨w.heap.size, 0, none⟩ = false := HX2.out.frozen 0
        have x1 : w2.cell? ⟨w.heap.size, 1, none⟩ = some (.int .u8 0) := HX2.out.cell 1
        have f1 : w2.frozen? ⟨w.heap.size, 1, none⟩ = false := HX2.out.frozen 1
        have x2 : w2.cell? ⟨w.heap.size, 2, none⟩ = some (.int .u8 0) := HX2.out.cell 2
        have f2 : w2.frozen? ⟨w.heap.size, 2, none⟩ = false := HX2.out.frozen 2
        have x3 : w2.cell? ⟨w.heap.size, 3, none⟩ = some (.int .u32 0) := HX2.out.cell 3
        have f3 : w2.frozen? ⟨w.heap.size, 3, none⟩ = false := HX2.out.frozen 3
        have x4 : w2.cell? ⟨w.heap.size, 4, none⟩ = some (.string ⟨#[]⟩) := HX2.out.cell 4
        have f4 : w2.frozen? ⟨w.heap.size, 4, none⟩ = false := HX2.out.frozen 4
        have x5 : w2.cell? ⟨w.heap.size, 5, none⟩ = some (.slice none 0 0) := HX2.out.cell 5
        have f5 : w2.frozen? ⟨w.heap.size, 5, none⟩ = false := HX2.out.frozen 5
        have x6 : w2.cell? ⟨w.heap.size, 6, none⟩ = some (.slice none 0 0) := HX2.out.cell 6
        have f6 : w2.frozen? ⟨w.heap.size, 6, none⟩ = false := HX2.out.frozen 6
        have z2 : w.heap.size < w2.heap.size := HX2.out.lt
        go_wp2_with fail
        have HY := (((((((HX2.out.set_ 0 (.string ⟨#[]⟩)).set_ 1 (.int .u8 0)).set_ 2 (.int .u8 0)).set_ 3 (.int .u32 0)).set_ 4 (.string ⟨#[]⟩)).set_ 5 (.slice none 0 0)).set_ 6 (.slice none 0 0))
        refine bodyPost_ret (res_sy_tmp Tryd.results10 _ _ w.heap.size _ _ _ _ _ _ _ _ rfl rfl HY) rfl ⟨_, rfl, sy_zero _, ?_⟩
        exact (below_set (below_set (below_set (below_set (below_set (below_set (below_set HB2.out (Nat.le_refl _) 0 _) (Nat.le_refl _) 1 _) (Nat.le_refl _) 2 _) (Nat.le_refl _) 3 _) (Nat.le_refl _) 4 _) (Nat.le_refl _) 5 _) (Nat.le_refl _) 6 _)
      · have HK2 : Hid (∀ j, j < k + 1 → lnOk (l.getD j Ln.nought) = true) := Lib.hid (fun j hj => by
          by_cases hj2 : j = k
          · subst hj2; exact HQ.out.symm
          · exact HK.out j (by omega))
        clear HK HQ
        go_wp2_with fail
        go_roundw
        case rel => exact ⟨k + 1, by omega, by go_num, HK2, HB2, HX2⟩
        case measure => simp [intOf]; omega
    · have hd : decide (k < n) = false := decide_eq_false hlt
      have HOK : Hid (∀ j, j < n → lnOk (l.getD j Ln.nought) = true) := Lib.hid (fun j hj => HK.out j (by omega))
      have HH2 := Lib.hid (HH1.out HOK.out)
      have HN2 := Lib.hid (HN1.out HOK.out)
      have HD2 := Lib.hid (HD1.out HOK.out)
      clear hlt HK HA1 HH1 HN1 HD1
      obtain ⟨wo, rfl⟩ : ∃ wo, wo = wr := ⟨_, rfl⟩
      go_wp2_with fail
      go_loopw [11] (fun i wr => ∃ k : Nat, (k : Int) ≤ n ∧ i = .int .i64 k ∧ Hid (∀ j, j < k → lblOk l j = true) ∧ Hid (Below w.heap.size w wr) ∧ Hid (Blk wr w.heap.size 29 zS)) (fun i _ => n - (intOf i).toNat)
      case atStart => exact ⟨0, by omega, rfl, Lib.hid (fun j hj => absurd hj (by omega)), HB, HX⟩
      case round =>
        clear HB HX
        obtain ⟨k2, hk2, rfl, HK, HB, HX⟩ := hrel
        by_cases hlt : k2 < n
        · have hd2 : decide (k2 < n) = true := decide_eq_true hlt
          obtain ⟨b, o, rfl, hbl, hcl⟩ := H2.out (by omega)
          have hbr : b < wr.heap.size := Nat.lt_of_lt_of_le hbl HB.out.size
          have d0 := ((hcl k2 hlt).below HB.out hbl).ln.1
          obtain ⟨i, hi1, hi2⟩ := HOwn.out k2 hlt
          obtain ⟨U, hU⟩ : ∃ U, U = tx (l.getD k2 Ln.nought).label := ⟨_, rfl⟩
          have HF := HFind.out U wr HB.out
          rw [hU, by_tx, hi1, ← hU] at HF
          unfold findLV at HF
          have HFF := Lib.hid HF
          have he := empty_eq U
          rw [hU, by_tx, ← hU] at he
          rw [← hU] at d0
          have hii : (i : Int) ≤ k2 := by omega
          have HLb : Hid (lblOk l k2 = (decide ((l.getD k2 Ln.nought).label = []) || decide (i = k2))) := Lib.hid (by
            unfold lblOk
            rw [hi1]
            by_cases h : i = k2
            · subst h; simp
            · simp [h])
          clear hU hcl hi1 HF
          go_wp2_with fail
          refine HFF.out.mono ?_; rintro e w2 ⟨rfl, rfl⟩
          clear HFF
          by_cases hem : (l.getD k2 Ln.nought).label = []
          · rw [decide_eq_true hem] at he
            have HK2 : Hid (∀ j, j < k2 + 1 → lblOk l j = true) := Lib.hid (fun j hj => by
              by_cases hj2 : j = k2
              · subst hj2; rw [HLb.out, decide_eq_true hem]; rfl
              · exact HK.out j (by omega))
            clear hem HLb HK
            go_wp2_with fail
            clear d0 he
            go_roundw
            case rel => exact ⟨k2 + 1, by omega, by go_num, HK2, HB, HX⟩
            case measure => simp [intOf]; omega
          · rw [decide_eq_false hem] at he
            by_cases hik : i = k2
            · have HK2 : Hid (∀ j, j < k2 + 1 → lblOk l j = true) := Lib.hid (fun j hj => by
                by_cases hj2 : j = k2
                · rw [hj2, HLb.out, decide_eq_true hik, Bool.or_true]
                · exact HK.out j (by omega))
              subst hik
              have hq : ((i : Int) != (i : Int)) = false := by simp
              clear hem HLb HK
              go_wp2_with fail
              clear d0 he
              go_roundw
              case rel => exact ⟨i + 1, by omega, by go_num, HK2, HB, HX⟩
              case measure => simp [intOf]; omega
            · have hq : ((i : Int) != (k2 : Int)) = true := bne_iff_ne.2 (fun h => hik (by omega))
              obtain ⟨e1, e2⟩ := HH2.out k2 hlt (by rw [HLb.out, decide_eq_false hem, decide_eq_false hik]; rfl)
              subst e1 e2
              clear hem hik HLb HK HH2 HN2 HD2 HFt HFind HOwn HBL HSz HFi HTake HLn HSFit HOK
              have x0 : wr.cell? ⟨w.heap.size, 0, none⟩ = some (.string ⟨#[]⟩) := HX.out.cell 0
              have f0 : wr.frozen? ⟨w.heap.size, 0, none⟩ = false := HX.out.frozen 0
              have x1 : wr.cell? ⟨w.heap.size, 1, none⟩ = some (.int .u8 0) := HX.out.cell 1
              have f1 : wr.frozen? ⟨w.heap.size, 1, none⟩ = false := HX.out.frozen 1
              have x2 : wr.cell? ⟨w.heap.size, 2, none⟩ = some (.int .u8 0) := HX.out.cell 2
              have f2 : wr.frozen? ⟨w.heap.size, 2, none⟩ = false := HX.out.frozen 2
              have x3 : wr.cell? ⟨w.heap.size, 3, none⟩ = some (.int .u32 0) := HX.out.cell 3
              have f3 : wr.frozen? ⟨w.heap.size, 3, none⟩ = false := HX.out.frozen 3
              have x4 : wr.cell? ⟨w.heap.size, 4, none⟩ = some (.string ⟨#[]⟩) := HX.out.cell 4
              have f4 : wr.frozen? ⟨w.heap.size, 4, none⟩ = false := HX.out.frozen 4
              have x5 : wr.cell? ⟨w.heap.size, 5, none⟩ = some (.slice none 0 0) := HX.out.cell 5
              have f5 : wr.frozen? ⟨w.heap.size, 5, none⟩ = false := HX.out.frozen 5
              have x6 : wr.cell? ⟨w.heap.size, 6, none⟩ = some (.slice none 0 0) := HX.out.cell 6
              have f6 : wr.frozen? ⟨w.heap.size, 6, none⟩ = false := HX.out.frozen 6
              have z2 : w.heap.size < wr.heap.size := HX.out.lt
              go_wp2_with fail
              have HY := (((((((HX.out.set_ 0 (.string ⟨#[]⟩)).set_ 1 (.int .u8 0)).set_ 2 (.int .u8 0)).set_ 3 (.int .u32 0)).set_ 4 (.string ⟨#[]⟩)).set_ 5 (.slice none 0 0)).set_ 6 (.slice none 0 0))
              refine bodyPost_ret (res_sy_tmp Tryd.results10 _ _ w.heap.size _ _ _ _ _ _ _ _ rfl rfl HY) rfl ⟨_, rfl, sy_zero _, ?_⟩
              exact (below_set (below_set (below_set (below_set (below_set (below_set (below_set HB.out (Nat.le_refl _) 0 _) (Nat.le_refl _) 1 _) (Nat.le_refl _) 2 _) (Nat.le_refl _) 3 _) (Nat.le_refl _) 4 _) (Nat.le_refl _) 5 _) (Nat.le_refl _) 6 _)
        · have hd2 : decide (k2 < n) = false := decide_eq_false hlt
          have HLB : Hid (∀ j, j < n → lblOk l j = true) := Lib.hid (fun j hj => HK.out j (by omega))
          have HN3 := Lib.hid (HN2.out HLB.out)
          have HD3 := Lib.hid (HD2.out HLB.out)
          clear hlt HK HH2 HN2 HD2
          obtain ⟨wp, rfl⟩ : ∃ wo, wo = wr := ⟨_, rfl⟩
          obtain ⟨csN, hcsN⟩ : ∃ f : Nat → List Value, f = fun j => ntCells (LN.getD j Nt.nought) := ⟨_, rfl⟩
          have HNs : Hid ((∀ j, j < m → (csN j).length = 3) ∧ (∀ j, j < m → ∀ u ∈ csN j, u.oneCell' = true) ∧ SlC wp (.slice an m cn) m 3 csN) := Lib.hid ⟨fun j _ => by rw [hcsN]; rfl, fun j _ => by rw [hcsN]; exact nt_one _, by
            rw [hcsN, HMn.out]
            have := (HNC.out.below HB.out)
            rw [← HMn.out] at this ⊢
            unfold NotesAt at this
            rw [← HMn.out] at this
            exact this⟩
          have HcN := Lib.hid hcsN
          clear hcsN HNC
          go_wp2_with (at_builtin; refine wpList_append_all rfl _ _ 22 rfl w.heap.size 76 iN _ 3 12 Tryd.underlying22 HJ.out.1 HJ.out.2.1 HJ.out.2.2.1 HJ.out.2.2.2 rfl (by decide) rfl (.slice an m cn) m csN rfl HNs.out.2.2 HNs.out.1 HNs.out.2.1 HMk.out.1 HMk.out.2 HB.out.size ?_)
          intro v1 w1 h6 h7
          have HB1 := Lib.hid (below_call HB.out (grown_none h7))
          have HX1 := Lib.hid (HX.out.call (grown_none h7))
          have HO1 : Hid (OwnN w1 w.heap.size v1 LN) := Lib.hid (by unfold OwnN; rw [← HMn.out, ← HcN.out]; exact h6)
          obtain ⟨a1, c1, hv1⟩ := row_slice h6
          subst hv1
          clear h6 h7 HNs HcN HB HX HMk
          have hwr : IntKind.u32.wrap (8 * (n : Int)) = 8 * (n : Int) := by rw [IntKind.wrap_u32]; omega
          go_upto_region 15 with (fail)
          obtain ⟨g, hg⟩ : ∃ t, t = w1.heap.size := ⟨_, rfl⟩
          have M1 : Hid (Mk w (w1.alloc (.cells #[.string nm, .int .u8 bi, .int .u8 1, .int .u32 (8 * (n : Int)), .string ⟨#[]⟩, .slice none 0 0, .slice a1 m c1] 29)) g nm bi (8 * (n : Int)) ⟨#[]⟩ (.slice none 0 0) (.slice a1 m c1) [] LN) := Lib.hid ⟨below_box HB1.out _, HX1.out.alloc _, by rw [hg]; exact Blk.new w1 _ _, World.ownsRow_nil _ _ _ _, World.ownsRow.alloc HO1.out _, by have := HX1.out.lt; omega⟩
          obtain ⟨w2, hw2⟩ : ∃ t, t = w1.alloc (.cells #[.string nm, .int .u8 bi, .int .u8 1, .int .u32 (8 * (n : Int)), .string ⟨#[]⟩, .slice none 0 0, .slice a1 m c1] 29) := ⟨_, rfl⟩
          rw [← hw2] at M1 ⊢
          try rw [← hg]
          clear hw2 hg HB1 HX1 HO1 hwr
          go_wp2_with fail
          go_loopw [15] (fun i wr => ∃ (k : Nat) (bs : ByteArray) (vr : Value), (k : Int) ≤ n ∧ i = .int .i64 k ∧ Hid (∀ j, j < k → toOk l j = true) ∧ Hid (bs = tx (bytesL (l.take k))) ∧ Hid (Mk w wr g nm bi (8 * (n : Int)) bs vr (.slice a1 m c1) (relsL (by' nm) l k) LN)) (fun i _ => n - (intOf i).toNat)
          case atStart => exact ⟨0, ⟨#[]⟩, .slice none 0 0, by omega, rfl, Lib.hid (fun j hj => absurd hj (by omega)), Lib.hid rfl, M1⟩
          case round =>
            clear M1
            obtain ⟨k3, bs, vr, hk3, rfl, HK, HBs, MM⟩ := hrel
            obtain ⟨a5, c5', hv5⟩ := row_slice MM.out.rels
            subst hv5
            by_cases hlt : k3 < n
            · have hd3 : decide (k3 < n) = true := decide_eq_true hlt
              obtain ⟨b, o, rfl, hbl, hcl⟩ := H2.out (by omega)
              have hbr : b < wr.heap.size := Nat.lt_of_lt_of_le hbl MM.out.low.size
              have HLie := Lib.hid (fun W (hW : Below w.heap.size w W) => ((hcl k3 hlt).below hW hbl).ln)
              have HBr := Lib.hid (fun W => kbare_any (l.getD k3 Ln.nought) W)
              have HE1 := Lib.hid (HEnc.out k3 hlt (HOK.out k3 hlt))
              have HBL1 := Lib.hid (HBL.out k3 hlt)
              have hLk := HOK.out k3 hlt
              have hRk := HRels.out k3
              obtain ⟨x, hx⟩ : ∃ x, x = l.getD k3 Ln.nought := ⟨_, rfl⟩
              have hTo : toOk l k3 = (decide (x.to = []) || (findL l x.to).isSome) := by rw [hx]; rfl
              have hRa : relsAt (by' nm) l k3 = (if x.name ≠ [] then [⟨8 * (k3 : Int) + 4, 1, x.name, x.im⟩] else []) ++ (if x.to ≠ [] then [⟨8 * (k3 : Int) + 4, 1, by' nm, 8 * (((findL l x.to).getD 0 : Nat) : Int)⟩] else []) := by rw [hx]; rfl
              rw [← hx] at HLie HBr HE1 HBL1 hLk
              unfold lnV inV at HBr
              unfold inV at HE1
              obtain ⟨I0, k8⟩ : ∃ b, b = im0 x := ⟨_, rfl⟩
              obtain ⟨S, hS⟩ : ∃ S, S = tx (lineB x) := ⟨_, rfl⟩
              have hSs : (S.size : Int) = 8 := by rw [hS, tx_size, lineB_length]; rfl
              have hbsz : (bs.size : Int) ≤ 8192 := by have := HSz.out k3; rw [HBs.out, tx_size]; omega
              have HB2s : Hid (bs ++ S = tx (bytesL (l.take (k3 + 1)))) := Lib.hid (by rw [HBs.out, hS, tx_append, HBL1.out])
              rw [← k8] at HBr HE1
              rw [← hS] at HE1
              have hboth : ¬ (x.to ≠ [] ∧ x.name ≠ []) := by
                intro hh
                unfold lnOk at hLk
                rw [decide_eq_true hh.1, decide_eq_true hh.2] at hLk
                simp at hLk
              have h1e := empty_eq (tx x.to)
              have h2e := empty_eq (tx x.name)
              rw [by_tx] at h1e h2e
              have HFT : Hid (∀ W, Below w.heap.size w W → Calls Tryd.prog 37 #[.slice (some ⟨b, o, none⟩) n cl, .string (tx x.to)] W fun e w' => e = .returned (findLV (findL l x.to)) ∧ W = w') := Lib.hid (fun W hW => by have := HFind.out (tx x.to) W hW; rw [by_tx] at this; exact this)
              obtain ⟨y0, g0⟩ : ∃ u, u = tx x.label := ⟨_, rfl⟩
              obtain ⟨y1, g1⟩ : ∃ u, u = x.op := ⟨_, rfl⟩
              obtain ⟨y2, g2⟩ : ∃ u, u = x.d := ⟨_, rfl⟩
              obtain ⟨y3, g3⟩ : ∃ u, u = x.a := ⟨_, rfl⟩
              obtain ⟨y4, g4⟩ : ∃ u, u = x.b := ⟨_, rfl⟩
              obtain ⟨y5, g5⟩ : ∃ u, u = x.im := ⟨_, rfl⟩
              obtain ⟨y6, g6⟩ : ∃ u, u = tx x.to := ⟨_, rfl⟩
              obtain ⟨y7, g7⟩ : ∃ u, u = tx x.name := ⟨_, rfl⟩
              simp only [← g0, ← g1, ← g2, ← g3, ← g4, ← g5, ← g6, ← g7] at HLie HBr HE1 HFT h1e h2e
              have HN7 : Hid (x.name = by' y7) := Lib.hid (by rw [g7, by_tx])
              have HI5 : Hid (x.im = y5) := Lib.hid g5.symm
              obtain ⟨d0, d1, d2, d3, d4, d5, d6, d7⟩ := HLie.out wr MM.out.low
              clear hcl hx g0 g1 g2 g3 g4 g5 g6 g7 k8 hS hLk HBL1
              go_wp2_with fail
              refine (HBr.out _).mono ?_; rintro e w3 ⟨rfl, q3⟩
              have M3 := Lib.hid (MM.out.below q3)
              clear q3 MM HBr
              go_wp2_with fail
              refine (HE1.out _).mono ?_; rintro e w4 ⟨rfl, q4⟩
              have M4 := Lib.hid (M3.out.below q4)
              clear q4 M3 HE1 d0 d1 d2 d3 d4 d5 d6 d7 hbr
              have s4 : w4.cell? ⟨g, 4, none⟩ = some (.string bs) := M4.out.ob.cell 4
              have t4 : w4.frozen? ⟨g, 4, none⟩ = false := M4.out.ob.frozen 4
              have z4 : g < w4.heap.size := M4.out.ob.lt
              go_upto_region 20 with (fail)
              have M5 := Lib.hid (M4.out.bytes (bs ++ S))
              obtain ⟨w5, hw5⟩ : ∃ t, t = w4.setCell ⟨g, 4, none⟩ (.string (bs ++ S)) := ⟨_, rfl⟩
              rw [← hw5] at M5 ⊢
              clear hw5 s4 t4 z4 M4 hSs hbsz
              obtain ⟨B2, hB2⟩ : ∃ t, t = bs ++ S := ⟨_, rfl⟩
              rw [← hB2] at M5 HB2s
              clear hB2
              have hoff : IntKind.u32.wrap (8 * (k3 : Int) + 4) = 8 * (k3 : Int) + 4 := by rw [IntKind.wrap_u32]; omega
              have hkr : (relsL (by' nm) l k3).length ≤ 2048 := by have := HRl.out k3 (by omega); omega
              have HKb : Hid ((relsL (by' nm) l k3).length + 1 ≤ maxLen ∧ ((relsL (by' nm) l k3).length + 1) * 32 ≤ 140737488355328) := Lib.hid (by unfold maxLen; omega)
              clear hkr
              obtain ⟨d0, d1, d2, d3, d4, d5, d6, d7⟩ := HLie.out w5 M5.out.low
              have hbr : b < w5.heap.size := Nat.lt_of_lt_of_le hbl M5.out.low.size
              obtain ⟨LR, hLR⟩ : ∃ t, t = relsL (by' nm) l k3 := ⟨_, rfl⟩
              rw [← hLR] at M5 HKb hRk
              clear hLR
              by_cases hnm : x.name = []
              · rw [decide_eq_true hnm] at h2e
                by_cases hto : x.to = []
                · rw [decide_eq_true hto] at h1e
                  have HK2 : Hid (∀ j, j < k3 + 1 → toOk l j = true) := Lib.hid (fun j hj => by
                    by_cases hj2 : j = k3
                    · rw [hj2, hTo, decide_eq_true hto]; rfl
                    · exact HK.out j (by omega))
                  have hR2 : relsL (by' nm) l (k3 + 1) = LR := by rw [hRk, hRa, if_neg (by simp [hnm]), if_neg (by simp [hto])]; simp
                  have hR3 := Lib.hid hR2
                  clear hnm hto hTo hRa hRk hboth HK HFT HLie hR2
                  go_wp2_with fail
                  clear d0 d1 d2 d3 d4 d5 d6 d7 hbr hoff h1e h2e
                  go_roundw
                  case rel => exact ⟨k3 + 1, B2, .slice a5 LR.length c5', by omega, by go_num, HK2, HB2s, by rw [hR3.out]; exact M5⟩
                  case measure => simp [intOf]; omega
                · rw [decide_eq_false hto] at h1e
                  have HFd := HFT.out w5 M5.out.low
                  cases hfi : findL l x.to with
                  | none =>
                    rw [hfi] at HFd
                    unfold findLV at HFd
                    obtain ⟨e1, e2⟩ := HN3.out k3 hlt (by rw [hTo, hfi, decide_eq_false hto]; rfl)
                    subst e1 e2
                    have HFF := Lib.hid HFd
                    clear HFd hnm hto hTo hRa hRk hboth HK HFT HLie hfi HN3 HD3 HFt HFind HOwn HBL HSz HFi HTake HLn HSFit HOK HLB HRels HRl HFin HEnc
                    go_wp2_with fail
                    refine HFF.out.mono ?_; rintro e w6 ⟨rfl, rfl⟩
                    clear HFF d0 d1 d2 d3 d4 d5 d6 d7 hoff
                    have x0 : w5.cell? ⟨w.heap.size, 0, none⟩ = some (.string ⟨#[]⟩) := M5.out.res.cell 0
                    have f0 : w5.frozen? ⟨w.heap.size, 0, none⟩ = false := M5.out.res.frozen 0
                    have x1 : w5.cell? ⟨w.heap.size, 1, none⟩ = some (.int .u8 0) := M5.out.res.cell 1
                    have f1 : w5.frozen? ⟨w.heap.size, 1, none⟩ = false := M5.out.res.frozen 1
                    have x2 : w5.cell? ⟨w.heap.size, 2, none⟩ = some (.int .u8 0) := M5.out.res.cell 2
                    have f2 : w5.frozen? ⟨w.heap.size, 2, none⟩ = false := M5.out.res.frozen 2
                    have x3 : w5.cell? ⟨w.heap.size, 3, none⟩ = some (.int .u32 0) := M5.out.res.cell 3
                    have f3 : w5.frozen? ⟨w.heap.size, 3, none⟩ = false := M5.out.res.frozen 3
                    have x4 : w5.cell? ⟨w.heap.size, 4, none⟩ = some (.string ⟨#[]⟩) := M5.out.res.cell 4
                    have f4 : w5.frozen? ⟨w.heap.size, 4, none⟩ = false := M5.out.res.frozen 4
                    have x5 : w5.cell? ⟨w.heap.size, 5, none⟩ = some (.slice none 0 0) := M5.out.res.cell 5
                    have f5 : w5.frozen? ⟨w.heap.size, 5, none⟩ = false := M5.out.res.frozen 5
                    have x6 : w5.cell? ⟨w.heap.size, 6, none⟩ = some (.slice none 0 0) := M5.out.res.cell 6
                    have f6 : w5.frozen? ⟨w.heap.size, 6, none⟩ = false := M5.out.res.frozen 6
                    have z2 : w.heap.size < w5.heap.size := M5.out.res.lt
                    go_wp2_with fail
                    have HY := (((((((M5.out.res.set_ 0 (.string ⟨#[]⟩)).set_ 1 (.int .u8 0)).set_ 2 (.int .u8 0)).set_ 3 (.int .u32 0)).set_ 4 (.string ⟨#[]⟩)).set_ 5 (.slice none 0 0)).set_ 6 (.slice none 0 0))
                    refine bodyPost_ret (res_sy_tmp Tryd.results10 _ _ w.heap.size _ _ _ _ _ _ _ _ rfl rfl HY) rfl ⟨_, rfl, sy_zero _, ?_⟩
                    exact (below_set (below_set (below_set (below_set (below_set (below_set (below_set M5.out.low (Nat.le_refl _) 0 _) (Nat.le_refl _) 1 _) (Nat.le_refl _) 2 _) (Nat.le_refl _) 3 _) (Nat.le_refl _) 4 _) (Nat.le_refl _) 5 _) (Nat.le_refl _) 6 _)
                  | some i =>
                    rw [hfi] at HFd
                    unfold findLV at HFd
                    have HFF := Lib.hid HFd
                    have hin : i < n := HFi.out x.to i hfi
                    have hini : (i : Int) < 1024 := by omega
                    have HK2 : Hid (∀ j, j < k3 + 1 → toOk l j = true) := Lib.hid (fun j hj => by
                      by_cases hj2 : j = k3
                      · rw [hj2, hTo, hfi]; simp
                      · exact HK.out j (by omega))
                    have hR2 : relsL (by' nm) l (k3 + 1) = LR ++ [⟨8 * (k3 : Int) + 4, 1, by' nm, 8 * (i : Int)⟩] := by rw [hRk, hRa, if_neg (by simp [hnm]), if_pos hto, hfi]; simp
                    have HR2 := Lib.hid hR2
                    have hoi : IntKind.u32.wrap (8 * (i : Int)) = 8 * (i : Int) := by rw [IntKind.wrap_u32]; omega
                    clear HFd hnm hto hTo hRa hRk hboth HK HFT HLie hfi hR2 hin
                    have s5 : w5.cell? ⟨g, 5, none⟩ = some (.slice a5 LR.length c5') := M5.out.ob.cell 5
                    have HBx : Hid (w.heap.size ≤ (w5.alloc (.cells #[.int .u32 (8 * (k3 : Int) + 4), .int .u8 1, .string nm, .int .u32 (8 * (i : Int))] 58)).heap.size) := Lib.hid (below_box M5.out.low _).size
                    have HNw : Hid (∀ j u, ([.int .u32 (8 * (k3 : Int) + 4), .int .u8 1, .string nm, .int .u32 (8 * (i : Int))] : List Value)[j]? = some u → (w5.alloc (.cells #[.int .u32 (8 * (k3 : Int) + 4), .int .u8 1, .string nm, .int .u32 (8 * (i : Int))] 58)).cell? ((⟨w5.heap.size, 0, none⟩ : Addr).add j) = some u) := Lib.hid (World.news_of_block (cs := #[.int .u32 (8 * (k3 : Int) + 4), .int .u8 1, .string nm, .int .u32 (8 * (i : Int))]) (t := 58) (heap_alloc_new w5 _))
                    have HOn : Hid (∀ u ∈ ([.int .u32 (8 * (k3 : Int) + 4), .int .u8 1, .string nm, .int .u32 (8 * (i : Int))] : List Value), u.oneCell' = true) := Lib.hid (by intro u hu; simp only [List.mem_cons, List.not_mem_nil, or_false] at hu; rcases hu with rfl | rfl | rfl | rfl <;> rfl)
                    go_wp2_with fail
                    refine HFF.out.mono ?_; rintro e w6 ⟨rfl, rfl⟩
                    clear HFF
                    go_wp2_with (at_builtin; (refine wpList_append_own _ rfl _ _ 27 rfl w.heap.size 58 iR _ 4 32 Tryd.underlying27 HI.out.1 HI.out.2.1 HI.out.2.2.1 HI.out.2.2.2 rfl (by decide) _ _ _ rfl (World.ownsRow.alloc M5.out.rels _) ⟨w5.heap.size, 0, none⟩ 1 1 [.int .u32 (8 * (k3 : Int) + 4), .int .u8 1, .string nm, .int .u32 (8 * (i : Int))] rfl rfl HNw.out HOn.out HKb.out.1 HKb.out.2 HBx.out ?_))
                    intro v6 w6 h6 h7 _
                    have m5 := M5.out.below (below_new1 w5 (.cells #[.int .u32 (8 * (k3 : Int) + 4), .int .u8 1, .string nm, .int .u32 (8 * (i : Int))] 58))
                    have h6' : w6.ownsRow w.heap.size 58 4 v6 (LR.length + 1) (flat (fun j => rlCells (LR.getD j Rl.nought)) LR.length ++ rlCells ⟨8 * (k3 : Int) + 4, 1, by' nm, 8 * (i : Int)⟩) := by unfold rlCells at h6 ⊢; rw [tx_by]; exact h6
                    obtain ⟨a7, c7, hv7⟩ := row_slice h6
                    subst hv7
                    have M7 := Lib.hid (m5.more h6' h7)
                    have hgr := (m5.grows h6' h7).2.2.2.1
                    have s6 : w6.cell? ⟨g, 5, none⟩ = some (.slice a5 LR.length c5') := hgr.cell 5
                    have f6 : w6.frozen? ⟨g, 5, none⟩ = false := hgr.frozen 5
                    have z6 : g < w6.heap.size := hgr.lt
                    clear h6 h7 h6' m5 hgr s5 HBx HNw HOn HKb M5 hoi hini
                    clear d0 d1 d2 d3 d4 d5 d6 d7 hbr hoff h1e h2e
                    go_wp2_with fail
                    clear s6 f6 z6
                    go_roundw
                    case rel => exact ⟨k3 + 1, B2, .slice a7 (LR.length + 1) c7, by omega, by go_num, HK2, HB2s, by rw [HR2.out]; exact M7⟩
                    case measure => simp [intOf]; omega
              · rw [decide_eq_false hnm] at h2e
                have hto : x.to = [] := by
                  by_cases h : x.to = []
                  · exact h
                  · exact absurd ⟨h, hnm⟩ hboth
                rw [decide_eq_true hto] at h1e
                have HK2 : Hid (∀ j, j < k3 + 1 → toOk l j = true) := Lib.hid (fun j hj => by
                  by_cases hj2 : j = k3
                  · rw [hj2, hTo, decide_eq_true hto]; rfl
                  · exact HK.out j (by omega))
                have hR2 : relsL (by' nm) l (k3 + 1) = LR ++ [⟨8 * (k3 : Int) + 4, 1, by' y7, y5⟩] := by rw [hRk, hRa, if_pos hnm, if_neg (by simp [hto]), HN7.out, HI5.out]; simp
                have HR2 := Lib.hid hR2
                clear hnm hto hTo hRa hRk hboth HK HFT hR2
                have s5 : w5.cell? ⟨g, 5, none⟩ = some (.slice a5 LR.length c5') := M5.out.ob.cell 5
                go_upto_region 22 with (fail)
                refine wp_region_held_drew (S := fun w' => w'.cell? ⟨b, o + k3 * 8 + 7, none⟩ = some (.string y7) ∧ w'.cell? ⟨b, o + k3 * 8 + 5, none⟩ = some (.int .u32 y5)) (by kernel_rfl) ⟨d7, d5⟩ (fun hSw => ?_)
                refine wpAnyH_take (i := 0) (v := .pointer (some ⟨g, 5, none⟩)) rfl (by kernel_rfl) (by kernel_rfl) (by kernel_rfl) (fun _ _ _ h => h) (Or.inl ⟨by rfl, fun w hSw => by (try dsimp only at hSw); go_simp⟩) (by assumption) ?_
                try simp only [Act.put, List.setIfInBounds_toArray, List.set_cons_zero, List.set_cons_succ, List.getElem_toArray, List.getElem_cons_succ, List.getElem_cons_zero]
                refine wpAnyH_take (i := 2) (v := .int .u32 (8 * (k3 : Int) + 4)) rfl (by kernel_rfl) (by kernel_rfl) (by kernel_rfl) (fun _ _ _ h => h) (Or.inl ⟨by rfl, fun w hSw => by (try dsimp only at hSw); go_simp⟩) (by assumption) ?_
                try simp only [Act.put, List.setIfInBounds_toArray, List.set_cons_zero, List.set_cons_succ, List.getElem_toArray, List.getElem_cons_succ, List.getElem_cons_zero]
                refine wpAnyH_take (i := 3) (v := .slice (some ⟨b, o, none⟩) n cl) rfl (by kernel_rfl) (by kernel_rfl) (by kernel_rfl) (fun _ _ _ h => h) (Or.inl ⟨by rfl, fun w hSw => by (try dsimp only at hSw); go_simp⟩) (by assumption) ?_
                try simp only [Act.put, List.setIfInBounds_toArray, List.set_cons_zero, List.set_cons_succ, List.getElem_toArray, List.getElem_cons_succ, List.getElem_cons_zero]
                refine wpAnyH_take (i := 4) (v := .int .i64 (k3 : Int)) rfl (by kernel_rfl) (by kernel_rfl) (by kernel_rfl) (fun _ _ _ h => h) (Or.inl ⟨by rfl, fun w hSw => by (try dsimp only at hSw); go_simp⟩) (by assumption) ?_
                try simp only [Act.put, List.setIfInBounds_toArray, List.set_cons_zero, List.set_cons_succ, List.getElem_toArray, List.getElem_cons_succ, List.getElem_cons_zero]
                refine wpAnyH_take (i := 5) (v := .pointer (some ⟨b, o + k3 * 8, none⟩)) rfl (by kernel_rfl) (by kernel_rfl) (by kernel_rfl) (fun _ _ _ h => h) (Or.inl ⟨by rfl, fun w hSw => by (try dsimp only at hSw); go_simp⟩) (by assumption) ?_
                try simp only [Act.put, List.setIfInBounds_toArray, List.set_cons_zero, List.set_cons_succ, List.getElem_toArray, List.getElem_cons_succ, List.getElem_cons_zero]
                refine wpAnyH_take (i := 6) (v := .pointer (some ⟨b, o + k3 * 8 + 7, none⟩)) rfl (by kernel_rfl) (by kernel_rfl) (by kernel_rfl) (fun _ _ _ h => h) (Or.inl ⟨by rfl, fun w hSw => by (try dsimp only at hSw); go_simp⟩) (by assumption) ?_
                try simp only [Act.put, List.setIfInBounds_toArray, List.set_cons_zero, List.set_cons_succ, List.getElem_toArray, List.getElem_cons_succ, List.getElem_cons_zero]
                refine wpAnyH_take (i := 7) (v := .string y7) rfl (by kernel_rfl) (by kernel_rfl) (by kernel_rfl) (fun _ _ _ h => h) (Or.inl ⟨by rfl, fun w hSw => by (try dsimp only at hSw); go_simp⟩) (by assumption) ?_
                try simp only [Act.put, List.setIfInBounds_toArray, List.set_cons_zero, List.set_cons_succ, List.getElem_toArray, List.getElem_cons_succ, List.getElem_cons_zero]
                refine wpAnyH_take (i := 8) (v := .slice (some ⟨b, o, none⟩) n cl) rfl (by kernel_rfl) (by kernel_rfl) (by kernel_rfl) (fun _ _ _ h => h) (Or.inl ⟨by rfl, fun w hSw => by (try dsimp only at hSw); go_simp⟩) (by assumption) ?_
                try simp only [Act.put, List.setIfInBounds_toArray, List.set_cons_zero, List.set_cons_succ, List.getElem_toArray, List.getElem_cons_succ, List.getElem_cons_zero]
                refine wpAnyH_take (i := 9) (v := .int .i64 (k3 : Int)) rfl (by kernel_rfl) (by kernel_rfl) (by kernel_rfl) (fun _ _ _ h => h) (Or.inl ⟨by rfl, fun w hSw => by (try dsimp only at hSw); go_simp⟩) (by assumption) ?_
                try simp only [Act.put, List.setIfInBounds_toArray, List.set_cons_zero, List.set_cons_succ, List.getElem_toArray, List.getElem_cons_succ, List.getElem_cons_zero]
                refine wpAnyH_take (i := 10) (v := .pointer (some ⟨b, o + k3 * 8, none⟩)) rfl (by kernel_rfl) (by kernel_rfl) (by kernel_rfl) (fun _ _ _ h => h) (Or.inl ⟨by rfl, fun w hSw => by (try dsimp only at hSw); go_simp⟩) (by assumption) ?_
                try simp only [Act.put, List.setIfInBounds_toArray, List.set_cons_zero, List.set_cons_succ, List.getElem_toArray, List.getElem_cons_succ, List.getElem_cons_zero]
                refine wpAnyH_take (i := 11) (v := .pointer (some ⟨b, o + k3 * 8 + 1, none⟩)) rfl (by kernel_rfl) (by kernel_rfl) (by kernel_rfl) (fun _ _ _ h => h) (Or.inl ⟨by rfl, fun w hSw => by (try dsimp only at hSw); go_simp⟩) (by assumption) ?_
                try simp only [Act.put, List.setIfInBounds_toArray, List.set_cons_zero, List.set_cons_succ, List.getElem_toArray, List.getElem_cons_succ, List.getElem_cons_zero]
                refine wpAnyH_take (i := 12) (v := .pointer (some ⟨b, o + k3 * 8 + 1 + 4, none⟩)) rfl (by kernel_rfl) (by kernel_rfl) (by kernel_rfl) (fun _ _ _ h => h) (Or.inl ⟨by rfl, fun w hSw => by (try dsimp only at hSw); go_simp⟩) (by assumption) ?_
                try simp only [Act.put, List.setIfInBounds_toArray, List.set_cons_zero, List.set_cons_succ, List.getElem_toArray, List.getElem_cons_succ, List.getElem_cons_zero]
                refine wpAnyH_take (i := 13) (v := .int .u32 y5) rfl (by kernel_rfl) (by kernel_rfl) (by kernel_rfl) (fun _ _ _ h => h) (Or.inl ⟨by rfl, fun w hSw => by (try dsimp only at hSw); go_simp⟩) (by assumption) ?_
                try simp only [Act.put, List.setIfInBounds_toArray, List.set_cons_zero, List.set_cons_succ, List.getElem_toArray, List.getElem_cons_succ, List.getElem_cons_zero]
                refine wpAnyH_take (i := 14) (v := .agg #[.int .u32 (8 * (k3 : Int) + 4), .int .u8 1, .string y7, .int .u32 y5]) rfl (by kernel_rfl) (by kernel_rfl) (by kernel_rfl) (fun _ _ _ h => h) (Or.inl ⟨by rfl, fun w hSw => by (try dsimp only at hSw); go_simp⟩) (by assumption) ?_
                try simp only [Act.put, List.setIfInBounds_toArray, List.set_cons_zero, List.set_cons_succ, List.getElem_toArray, List.getElem_cons_succ, List.getElem_cons_zero]
                have m5 := Lib.hid ((M5.out.below (below_new1 w5 (.cells #[.int .u32 (8 * (k3 : Int) + 4), .int .u8 1, .string y7, .int .u32 y5] 58))).below (Below.refl _ _).drew)
                have s5d : (w5.alloc (.cells #[.int .u32 (8 * (k3 : Int) + 4), .int .u8 1, .string y7, .int .u32 y5] 58)).drew.cell? ⟨g, 5, none⟩ = some (.slice a5 LR.length c5') := m5.out.ob.cell 5
                have HBx : Hid (w.heap.size ≤ (w5.alloc (.cells #[.int .u32 (8 * (k3 : Int) + 4), .int .u8 1, .string y7, .int .u32 y5] 58)).heap.size) := Lib.hid (below_box M5.out.low _).size
                have HNw : Hid (∀ j u, ([.int .u32 (8 * (k3 : Int) + 4), .int .u8 1, .string y7, .int .u32 y5] : List Value)[j]? = some u → (w5.alloc (.cells #[.int .u32 (8 * (k3 : Int) + 4), .int .u8 1, .string y7, .int .u32 y5] 58)).drew.cell? ((⟨w5.heap.size, 0, none⟩ : Addr).add j) = some u) := Lib.hid (World.news_of_block (cs := #[.int .u32 (8 * (k3 : Int) + 4), .int .u8 1, .string y7, .int .u32 y5]) (t := 58) (heap_alloc_new w5 _))
                have HOn : Hid (∀ u ∈ ([.int .u32 (8 * (k3 : Int) + 4), .int .u8 1, .string y7, .int .u32 y5] : List Value), u.oneCell' = true) := Lib.hid (by intro u hu; simp only [List.mem_cons, List.not_mem_nil, or_false] at hu; rcases hu with rfl | rfl | rfl | rfl <;> rfl)
                have HLie7 := HLie
                refine wpAnyH_ready (rs := [1, 15]) (by kernel_rfl) (by simp) ?_
                refine AllReadyH.cons (o := _) rfl (fun K hK => ?_) (AllReadyH.cons (o := _) rfl (fun K hK => ?_) AllReadyH.nil)
                · go_simp
                  refine hK.out _ _ ⟨(HLie.out _ M5.out.low.drew).2.2.2.2.2.2.2, (HLie.out _ M5.out.low.drew).2.2.2.2.2.1⟩ (fun hSw2 => ?_)
                  clear hK K
                  try simp only [Act.put, List.setIfInBounds_toArray, List.set_cons_zero, List.set_cons_succ, List.getElem_toArray, List.getElem_cons_succ, List.getElem_cons_zero]
                  refine wpAnyH_ready (rs := [15]) (by kernel_rfl) (by simp) ?_
                  refine AllReadyH.cons (o := _) rfl (fun K hK => ?_) AllReadyH.nil
                  go_simp
                  refine hK.out _ _ ⟨(HLie.out _ (below_box M5.out.low (.cells #[.int .u32 (8 * (k3 : Int) + 4), .int .u8 1, .string y7, .int .u32 y5] 58)).drew).2.2.2.2.2.2.2, (HLie.out _ (below_box M5.out.low (.cells #[.int .u32 (8 * (k3 : Int) + 4), .int .u8 1, .string y7, .int .u32 y5] 58)).drew).2.2.2.2.2.1⟩ (fun hSw2 => ?_)
                  clear hK K
                  try simp only [Act.put, List.setIfInBounds_toArray, List.set_cons_zero, List.set_cons_succ, List.getElem_toArray, List.getElem_cons_succ, List.getElem_cons_zero]
                  refine wpAnyH_ready (rs := [16]) (by kernel_rfl) (by simp) ?_
                  refine AllReadyH.cons (o := _) rfl (fun K hK => ?_) AllReadyH.nil
                  refine step_append_lies _ (by rfl) _ _ _ (by rfl) w.heap.size 58 iR _ 4 32 Tryd.underlying27 HI.out.1 HI.out.2.1 HI.out.2.2.1 HI.out.2.2.2 rfl (by decide) (.slice a5 LR.length c5') LR.length _ (by rfl) ((World.ownsRow.alloc M5.out.rels _).drew) ⟨w5.heap.size, 0, none⟩ 1 1 [.int .u32 (8 * (k3 : Int) + 4), .int .u8 1, .string y7, .int .u32 y5] (by rfl) (by rfl) HNw.out HOn.out (by decide) HKb.out.1 HKb.out.2 HBx.out (w5.heap.size + 1) (by simp) ?_
                  intro gg cap w6 h6 h7 h8 h9
                  have h6' : w6.ownsRow w.heap.size 58 4 (.slice (some ⟨gg, 0, none⟩) (LR.length + 1) cap) (LR.length + 1) (flat (fun j => rlCells (LR.getD j Rl.nought)) LR.length ++ rlCells ⟨8 * (k3 : Int) + 4, 1, by' y7, y5⟩) := by unfold rlCells at h6 ⊢; rw [tx_by]; exact h6
                  have M7 := Lib.hid (m5.out.more h6' h7)
                  have hgr := m5.out.grows h6' h7
                  have HLow := Lib.hid hgr.2.1
                  have s6 : w6.cell? ⟨g, 5, none⟩ = some (.slice a5 LR.length c5') := hgr.2.2.2.1.cell 5
                  have f6 : w6.frozen? ⟨g, 5, none⟩ = false := hgr.2.2.2.1.frozen 5
                  have z6 : g < w6.heap.size := hgr.2.2.2.1.lt
                  clear h6 h7 h6' hgr h8 h9
                  refine hK.out _ _ ⟨(HLie.out _ HLow.out).2.2.2.2.2.2.2, (HLie.out _ HLow.out).2.2.2.2.2.1⟩ (fun hSw3 => ?_)
                  clear hK K
                  try simp only [Act.put, List.setIfInBounds_toArray, List.set_cons_zero, List.set_cons_succ, List.getElem_toArray, List.getElem_cons_succ, List.getElem_cons_zero]
                  refine wpAnyH_take (i := 17) (v := .pointer (some ⟨g, 5, none⟩)) rfl (by kernel_rfl) (by kernel_rfl) (by kernel_rfl) (fun _ _ _ h => h) (Or.inl ⟨by rfl, fun w hSw => by (try dsimp only at hSw); go_simp⟩) (by assumption) ?_
                  try simp only [Act.put, List.setIfInBounds_toArray, List.set_cons_zero, List.set_cons_succ, List.getElem_toArray, List.getElem_cons_succ, List.getElem_cons_zero]
                  refine wpAnyH_ready (rs := [18]) (by kernel_rfl) (by simp) ?_
                  refine AllReadyH.cons (o := _) rfl (fun K hK => ?_) AllReadyH.nil
                  go_simp
                  refine hK.out _ _ ⟨(HLie.out _ M7.out.low).2.2.2.2.2.2.2, (HLie.out _ M7.out.low).2.2.2.2.2.1⟩ (fun hSw4 => ?_)
                  clear hK K
                  try simp only [Act.put, List.setIfInBounds_toArray, List.set_cons_zero, List.set_cons_succ, List.getElem_toArray, List.getElem_cons_succ, List.getElem_cons_zero]
                  refine wpAnyH_done (by kernel_rfl) ?_ _
                  clear s5 s5d s6 f6 z6 hSw HLie HBx HNw HOn HKb m5 M5 HLow
                  clear d0 d1 d2 d3 d4 d5 d6 d7 hbr hoff
                  obtain ⟨w7, hw7⟩ : ∃ t, t = w6.setCell ⟨g, 5, none⟩ (.slice (some ⟨gg, 0, none⟩) (LR.length + 1) cap) := ⟨_, rfl⟩
                  rw [← hw7] at M7 ⊢
                  clear hw7
                  have d6 : w7.cell? ⟨b, o + k3 * 8 + 6, none⟩ = some (.string y6) := (HLie7.out w7 M7.out.low).2.2.2.2.2.2.1
                  have hbr : b < w7.heap.size := Nat.lt_of_lt_of_le hbl M7.out.low.size
                  go_wp2_with fail
                  clear d6 hbr h1e h2e HLie7
                  go_roundw
                  case rel => exact ⟨k3 + 1, B2, .slice (some ⟨gg, 0, none⟩) (LR.length + 1) cap, by omega, by go_num, HK2, HB2s, by rw [HR2.out]; exact M7⟩
                  case measure => simp [intOf]; omega
                · go_simp
                  refine hK.out _ _ ⟨(HLie.out _ (below_box M5.out.low (.cells #[.int .u32 (8 * (k3 : Int) + 4), .int .u8 1, .string y7, .int .u32 y5] 58)).drew).2.2.2.2.2.2.2, (HLie.out _ (below_box M5.out.low (.cells #[.int .u32 (8 * (k3 : Int) + 4), .int .u8 1, .string y7, .int .u32 y5] 58)).drew).2.2.2.2.2.1⟩ (fun hSw2 => ?_)
                  clear hK K
                  try simp only [Act.put, List.setIfInBounds_toArray, List.set_cons_zero, List.set_cons_succ, List.getElem_toArray, List.getElem_cons_succ, List.getElem_cons_zero]
                  refine wpAnyH_ready (rs := [1]) (by kernel_rfl) (by simp) ?_
                  refine AllReadyH.cons (o := _) rfl (fun K hK => ?_) AllReadyH.nil
                  go_simp
                  refine hK.out _ _ ⟨(HLie.out _ (below_box M5.out.low (.cells #[.int .u32 (8 * (k3 : Int) + 4), .int .u8 1, .string y7, .int .u32 y5] 58)).drew).2.2.2.2.2.2.2, (HLie.out _ (below_box M5.out.low (.cells #[.int .u32 (8 * (k3 : Int) + 4), .int .u8 1, .string y7, .int .u32 y5] 58)).drew).2.2.2.2.2.1⟩ (fun hSw2 => ?_)
                  clear hK K
                  try simp only [Act.put, List.setIfInBounds_toArray, List.set_cons_zero, List.set_cons_succ, List.getElem_toArray, List.getElem_cons_succ, List.getElem_cons_zero]
                  refine wpAnyH_ready (rs := [16]) (by kernel_rfl) (by simp) ?_
                  refine AllReadyH.cons (o := _) rfl (fun K hK => ?_) AllReadyH.nil
                  refine step_append_lies _ (by rfl) _ _ _ (by rfl) w.heap.size 58 iR _ 4 32 Tryd.underlying27 HI.out.1 HI.out.2.1 HI.out.2.2.1 HI.out.2.2.2 rfl (by decide) (.slice a5 LR.length c5') LR.length _ (by rfl) ((World.ownsRow.alloc M5.out.rels _).drew) ⟨w5.heap.size, 0, none⟩ 1 1 [.int .u32 (8 * (k3 : Int) + 4), .int .u8 1, .string y7, .int .u32 y5] (by rfl) (by rfl) HNw.out HOn.out (by decide) HKb.out.1 HKb.out.2 HBx.out (w5.heap.size + 1) (by simp) ?_
                  intro gg cap w6 h6 h7 h8 h9
                  have h6' : w6.ownsRow w.heap.size 58 4 (.slice (some ⟨gg, 0, none⟩) (LR.length + 1) cap) (LR.length + 1) (flat (fun j => rlCells (LR.getD j Rl.nought)) LR.length ++ rlCells ⟨8 * (k3 : Int) + 4, 1, by' y7, y5⟩) := by unfold rlCells at h6 ⊢; rw [tx_by]; exact h6
                  have M7 := Lib.hid (m5.out.more h6' h7)
                  have hgr := m5.out.grows h6' h7
                  have HLow := Lib.hid hgr.2.1
                  have s6 : w6.cell? ⟨g, 5, none⟩ = some (.slice a5 LR.length c5') := hgr.2.2.2.1.cell 5
                  have f6 : w6.frozen? ⟨g, 5, none⟩ = false := hgr.2.2.2.1.frozen 5
                  have z6 : g < w6.heap.size := hgr.2.2.2.1.lt
                  clear h6 h7 h6' hgr h8 h9
                  refine hK.out _ _ ⟨(HLie.out _ HLow.out).2.2.2.2.2.2.2, (HLie.out _ HLow.out).2.2.2.2.2.1⟩ (fun hSw3 => ?_)
                  clear hK K
                  try simp only [Act.put, List.setIfInBounds_toArray, List.set_cons_zero, List.set_cons_succ, List.getElem_toArray, List.getElem_cons_succ, List.getElem_cons_zero]
                  refine wpAnyH_take (i := 17) (v := .pointer (some ⟨g, 5, none⟩)) rfl (by kernel_rfl) (by kernel_rfl) (by kernel_rfl) (fun _ _ _ h => h) (Or.inl ⟨by rfl, fun w hSw => by (try dsimp only at hSw); go_simp⟩) (by assumption) ?_
                  try simp only [Act.put, List.setIfInBounds_toArray, List.set_cons_zero, List.set_cons_succ, List.getElem_toArray, List.getElem_cons_succ, List.getElem_cons_zero]
                  refine wpAnyH_ready (rs := [18]) (by kernel_rfl) (by simp) ?_
                  refine AllReadyH.cons (o := _) rfl (fun K hK => ?_) AllReadyH.nil
                  go_simp
                  refine hK.out _ _ ⟨(HLie.out _ M7.out.low).2.2.2.2.2.2.2, (HLie.out _ M7.out.low).2.2.2.2.2.1⟩ (fun hSw4 => ?_)
                  clear hK K
                  try simp only [Act.put, List.setIfInBounds_toArray, List.set_cons_zero, List.set_cons_succ, List.getElem_toArray, List.getElem_cons_succ, List.getElem_cons_zero]
                  refine wpAnyH_done (by kernel_rfl) ?_ _
                  clear s5 s5d s6 f6 z6 hSw HLie HBx HNw HOn HKb m5 M5 HLow
                  clear d0 d1 d2 d3 d4 d5 d6 d7 hbr hoff
                  obtain ⟨w7, hw7⟩ : ∃ t, t = w6.setCell ⟨g, 5, none⟩ (.slice (some ⟨gg, 0, none⟩) (LR.length + 1) cap) := ⟨_, rfl⟩
                  rw [← hw7] at M7 ⊢
                  clear hw7
                  have d6 : w7.cell? ⟨b, o + k3 * 8 + 6, none⟩ = some (.string y6) := (HLie7.out w7 M7.out.low).2.2.2.2.2.2.1
                  have hbr : b < w7.heap.size := Nat.lt_of_lt_of_le hbl M7.out.low.size
                  go_wp2_with fail
                  clear d6 hbr h1e h2e HLie7
                  go_roundw
                  case rel => exact ⟨k3 + 1, B2, .slice (some ⟨gg, 0, none⟩) (LR.length + 1) cap, by omega, by go_num, HK2, HB2s, by rw [HR2.out]; exact M7⟩
                  case measure => simp [intOf]; omega
            · have hd3 : decide (k3 < n) = false := decide_eq_false hlt
              have HTo : Hid (∀ j, j < n → toOk l j = true) := Lib.hid (fun j hj => HK.out j (by omega))
              have hkn : k3 = n := by omega
              have HSy := Lib.hid (rsym_any _ (HSFit.out (by omega)) _ wr (by
                have h := MM.out.sym
                rw [HBs.out, by_tx, HFin.out k3 hkn] at h
                exact h))
              have HKp : Hid (∀ W0 W, Mk w W0 g nm bi (8 * (n : Int)) bs (.slice a5 (relsL (by' nm) l k3).length c5') (.slice a1 m c1) (relsL (by' nm) l k3) LN → W0.grownBy W (some w.heap.size) → SymAt W (.agg #[.string nm, .int .u8 bi, .int .u8 1, .int .u32 (8 * (n : Int)), .string bs, .slice a5 (relsL (by' nm) l k3).length c5', .slice a1 m c1]) (symL (by' nm) bi LN l)) := Lib.hid (fun W0 W hM hW => by
                have h := hM.kept hW
                have hb : by' bs = bytesL (l.take k3) := by rw [HBs.out, by_tx]
                rw [hb, HFin.out k3 hkn] at h
                exact h)
              have HDn := Lib.hid (HD3.out HTo.out)
              obtain ⟨qs, hqs⟩ : ∃ q, q = symOk (symL (by' nm) bi LN l) := ⟨_, rfl⟩
              have hbst : tx (by' bs) = bs := tx_by bs
              have HSz2 : Hid (tx (bytesL (l.take k3)) = bs) := Lib.hid HBs.out.symm
              rw [← hqs] at HSy HDn
              rw [← HBs.out] at HSy
              obtain ⟨LL, hLL⟩ : ∃ t, t = (relsL (by' nm) l k3).length := ⟨_, rfl⟩
              have s0 : wr.cell? ⟨g, 0, none⟩ = some (.string nm) := MM.out.ob.cell 0
              have s1 : wr.cell? ⟨g, 1, none⟩ = some (.int .u8 bi) := MM.out.ob.cell 1
              have s2 : wr.cell? ⟨g, 2, none⟩ = some (.int .u8 1) := MM.out.ob.cell 2
              have s3 : wr.cell? ⟨g, 3, none⟩ = some (.int .u32 (8 * (n : Int))) := MM.out.ob.cell 3
              have s4 : wr.cell? ⟨g, 4, none⟩ = some (.string bs) := MM.out.ob.cell 4
              have s5 : wr.cell? ⟨g, 5, none⟩ = some (.slice a5 (relsL (by' nm) l k3).length c5') := MM.out.ob.cell 5
              have s6 : wr.cell? ⟨g, 6, none⟩ = some (.slice a1 m c1) := MM.out.ob.cell 6
              clear hlt HK hkn HN3 HD3 HFt HFind HOwn HBL HSz HFi HTake HSFit HOK HLB HRels HRl HFin HEnc HTo hbst HSz2 hqs HBs
              go_wp2_with fail
              refine HSy.out.mono ?_; rintro e w6 ⟨rfl, q6⟩
              have M6 := Lib.hid (MM.out.below q6)
              clear q6 MM HSy s0 s1 s2 s3 s4 s5 s6
              cases qs
              · obtain ⟨e1, e2⟩ := HDn.out.2 rfl
                subst e1 e2
                clear HDn HKp
                have x0 : w6.cell? ⟨w.heap.size, 0, none⟩ = some (.string ⟨#[]⟩) := M6.out.res.cell 0
                have f0 : w6.frozen? ⟨w.heap.size, 0, none⟩ = false := M6.out.res.frozen 0
                have x1 : w6.cell? ⟨w.heap.size, 1, none⟩ = some (.int .u8 0) := M6.out.res.cell 1
                have f1 : w6.frozen? ⟨w.heap.size, 1, none⟩ = false := M6.out.res.frozen 1
                have x2 : w6.cell? ⟨w.heap.size, 2, none⟩ = some (.int .u8 0) := M6.out.res.cell 2
                have f2 : w6.frozen? ⟨w.heap.size, 2, none⟩ = false := M6.out.res.frozen 2
                have x3 : w6.cell? ⟨w.heap.size, 3, none⟩ = some (.int .u32 0) := M6.out.res.cell 3
                have f3 : w6.frozen? ⟨w.heap.size, 3, none⟩ = false := M6.out.res.frozen 3
                have x4 : w6.cell? ⟨w.heap.size, 4, none⟩ = some (.string ⟨#[]⟩) := M6.out.res.cell 4
                have f4 : w6.frozen? ⟨w.heap.size, 4, none⟩ = false := M6.out.res.frozen 4
                have x5 : w6.cell? ⟨w.heap.size, 5, none⟩ = some (.slice none 0 0) := M6.out.res.cell 5
                have f5 : w6.frozen? ⟨w.heap.size, 5, none⟩ = false := M6.out.res.frozen 5
                have x6 : w6.cell? ⟨w.heap.size, 6, none⟩ = some (.slice none 0 0) := M6.out.res.cell 6
                have f6 : w6.frozen? ⟨w.heap.size, 6, none⟩ = false := M6.out.res.frozen 6
                have z2 : w.heap.size < w6.heap.size := M6.out.res.lt
                go_wp2_with fail
                have HY := (((((((M6.out.res.set_ 0 (.string ⟨#[]⟩)).set_ 1 (.int .u8 0)).set_ 2 (.int .u8 0)).set_ 3 (.int .u32 0)).set_ 4 (.string ⟨#[]⟩)).set_ 5 (.slice none 0 0)).set_ 6 (.slice none 0 0))
                refine bodyPost_ret (res_sy_tmp Tryd.results10 _ _ w.heap.size _ _ _ _ _ _ _ _ rfl rfl HY) rfl ⟨_, rfl, sy_zero _, ?_⟩
                exact (below_set (below_set (below_set (below_set (below_set (below_set (below_set M6.out.low (Nat.le_refl _) 0 _) (Nat.le_refl _) 1 _) (Nat.le_refl _) 2 _) (Nat.le_refl _) 3 _) (Nat.le_refl _) 4 _) (Nat.le_refl _) 5 _) (Nat.le_refl _) 6 _)
              · obtain ⟨e1, e2⟩ := HDn.out.1 rfl
                subst e1 e2
                clear HDn
                obtain ⟨vS, hvS⟩ : ∃ v : Value, v = .slice a5 (relsL (by' nm) l k3).length c5' := ⟨_, rfl⟩
                have s0 : w6.cell? ⟨g, 0, none⟩ = some (.string nm) := M6.out.ob.cell 0
                have s1 : w6.cell? ⟨g, 1, none⟩ = some (.int .u8 bi) := M6.out.ob.cell 1
                have s2 : w6.cell? ⟨g, 2, none⟩ = some (.int .u8 1) := M6.out.ob.cell 2
                have s3 : w6.cell? ⟨g, 3, none⟩ = some (.int .u32 (8 * (n : Int))) := M6.out.ob.cell 3
                have s4 : w6.cell? ⟨g, 4, none⟩ = some (.string bs) := M6.out.ob.cell 4
                have s5 : w6.cell? ⟨g, 5, none⟩ = some (.slice a5 (relsL (by' nm) l k3).length c5') := M6.out.ob.cell 5
                have s6 : w6.cell? ⟨g, 6, none⟩ = some (.slice a1 m c1) := M6.out.ob.cell 6
                have x0 : w6.cell? ⟨w.heap.size, 0, none⟩ = some (.string ⟨#[]⟩) := M6.out.res.cell 0
                have f0 : w6.frozen? ⟨w.heap.size, 0, none⟩ = false := M6.out.res.frozen 0
                have x1 : w6.cell? ⟨w.heap.size, 1, none⟩ = some (.int .u8 0) := M6.out.res.cell 1
                have f1 : w6.frozen? ⟨w.heap.size, 1, none⟩ = false := M6.out.res.frozen 1
                have x2 : w6.cell? ⟨w.heap.size, 2, none⟩ = some (.int .u8 0) := M6.out.res.cell 2
                have f2 : w6.frozen? ⟨w.heap.size, 2, none⟩ = false := M6.out.res.frozen 2
                have x3 : w6.cell? ⟨w.heap.size, 3, none⟩ = some (.int .u32 0) := M6.out.res.cell 3
                have f3 : w6.frozen? ⟨w.heap.size, 3, none⟩ = false := M6.out.res.frozen 3
                have x4 : w6.cell? ⟨w.heap.size, 4, none⟩ = some (.string ⟨#[]⟩) := M6.out.res.cell 4
                have f4 : w6.frozen? ⟨w.heap.size, 4, none⟩ = false := M6.out.res.frozen 4
                have x5 : w6.cell? ⟨w.heap.size, 5, none⟩ = some (.slice none 0 0) := M6.out.res.cell 5
                have f5 : w6.frozen? ⟨w.heap.size, 5, none⟩ = false := M6.out.res.frozen 5
                have x6 : w6.cell? ⟨w.heap.size, 6, none⟩ = some (.slice none 0 0) := M6.out.res.cell 6
                have f6 : w6.frozen? ⟨w.heap.size, 6, none⟩ = false := M6.out.res.frozen 6
                have z2 : w.heap.size < w6.heap.size := M6.out.res.lt
                go_wp2_with fail
                have HY := (((((((M6.out.res.set_ 0 (.string nm)).set_ 1 (.int .u8 bi)).set_ 2 (.int .u8 1)).set_ 3 (.int .u32 (8 * (n : Int)))).set_ 4 (.string bs)).set_ 5 (.slice a5 (relsL (by' nm) l k3).length c5')).set_ 6 (.slice a1 m c1))
                have HGr := (gb8 (gb8 (gb8 (gb8 (gb8 (gb8 (grown_set w6 w.heap.size 0 (.string nm)) (grown_set _ w.heap.size 1 (.int .u8 bi))) (grown_set _ w.heap.size 2 (.int .u8 1))) (grown_set _ w.heap.size 3 (.int .u32 (8 * (n : Int))))) (grown_set _ w.heap.size 4 (.string bs))) (grown_set _ w.heap.size 5 (.slice a5 (relsL (by' nm) l k3).length c5'))) (grown_set _ w.heap.size 6 (.slice a1 m c1)))
                refine bodyPost_ret (res_sy_tmp Tryd.results10 _ _ w.heap.size _ _ _ _ _ _ _ _ rfl rfl HY) rfl ⟨_, rfl, HKp.out _ _ M6.out HGr, ?_⟩
                exact (below_set (below_set (below_set (below_set (below_set (below_set (below_set M6.out.low (Nat.le_refl _) 0 _) (Nat.le_refl _) 1 _) (Nat.le_refl _) 2 _) (Nat.le_refl _) 3 _) (Nat.le_refl _) 4 _) (Nat.le_refl _) 5 _) (Nat.le_refl _) 6 _)
end Go.Proofs.YtlnnhgmkibjgmaaDoor
