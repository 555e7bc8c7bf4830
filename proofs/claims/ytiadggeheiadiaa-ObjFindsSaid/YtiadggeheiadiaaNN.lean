/- The program's Names. -/
import Derived.Test.YtiadggeheiadiaaNG
import Derived.Test.YtiadggeheiadiaaOO
import Derived.Test.YtiadggeheiadiaaMS
import Derived.Test.YtiadggeheiadiaaPIS
import Derived.Test.YtiadggeheiadiaaCL
import Derived.Test.YtiadggeheiadiaaSA
import Derived.Sort.OwnSorted
import Derived.Lib.OwnBridge
import Derived.Shelf.Slices.In.SortNone
set_option linter.unusedVariables false
set_option linter.unusedSimpArgs false
namespace Go.Proofs.Ytiadggeheiadiaa
open Go Go.RowKit Oj

theorem OwnL.below {B : Nat} {L : List (List UInt8)} {v : Value} {w w' : World} (h : OwnL B L v w) (hb : Below w.heap.size w w') : OwnL B L v w' := row_below h hb
theorem ObsAt.get {w : World} {v : Value} {l : List Ob} (h : ObsAt w v l) : ∃ a c, v = .slice a l.length c ∧ (0 < l.length → ∃ b o, a = some ⟨b, o, none⟩ ∧ b < w.heap.size ∧ ∀ j, j < l.length → ∃ vs, LieC w b (o + j * 2) (obCells (l.getD j Ob.nought) vs) ∧ SymsAt w vs (l.getD j Ob.nought).syms) := by
  obtain ⟨S, ⟨a, c, rfl, h2⟩, h3⟩ := h
  refine ⟨a, c, rfl, fun hn => ?_⟩
  obtain ⟨b, o, h4, h5, h6⟩ := h2 hn
  exact ⟨b, o, h4, h5, fun j hj => ⟨S j, h6 j hj, h3 j hj⟩⟩
theorem ObAt.mk {w : World} {vs : Value} {x : Ob} (h : SymsAt w vs x.syms) : ObAt w (.agg #[.string (tx x.name), vs]) x := ⟨vs, rfl, h⟩

set_option maxHeartbeats 4000000 in
set_option maxRecDepth 100000 in
/-- The sort and what follows it. -/
theorem sort_compact (L : List (List UInt8)) (B : Nat) (v : Value) (w0 w : World) (hO : OwnL B L v w) (hb : Below B w0 w) (hB : B ≤ w.heap.size) (hL : L.length ≤ 1048576) :
    Calls Try.prog 31 #[v] w fun e w1 => e = .returned (.tuple #[]) ∧ Below B w0 w1 ∧ Calls Try.prog 32 #[v] w1 fun e w2 => ∃ v', e = .returned v' ∧ OwnL B (putAll L) v' w2 ∧ Below B w0 w2 := by
  unfold OwnL at hO
  rcases hO.2 with ⟨rfl, h0⟩ | ⟨g, cap, cur, rfl, hBg, hg, hnc, hcm, hcs, htk⟩
  · have hL0 : L = [] := List.length_eq_zero_iff.1 h0
    subst hL0
    refine (Any.slices_Sort_string_none Try.laysSort none 0 w).mono ?_
    rintro e w1 ⟨rfl, rfl⟩
    refine ⟨rfl, hb, ?_⟩
    refine (Any.slices_Compact_string_empty Try.laysCompact none 0 _).mono ?_
    rintro e w2 ⟨rfl, rfl⟩
    exact ⟨_, rfl, ownL_nil _ _, hb⟩
  · have hlt : g < w.heap.size := (Array.getElem?_eq_some_iff.1 hg).1
    have hH := holds_of_block (ss := L) hg (by rw [Nat.mul_one] at htk; exact htk)
    refine (Any.slices_Sort_string Try.laysSort g 0 cap L w hH hlt (by omega)).mono ?_
    rintro e w1 ⟨rfl, n, os, rfl⟩
    have hb1 := hb.grown (grownBy_sorted (w := w) (g := g) (n := n) (os := os) (L.mergeSort leT).toArray) hB (fun k hk => by cases hk; exact hBg)
    refine ⟨rfl, hb1, ?_⟩
    have hl2 : (L.mergeSort leT).length = L.length := List.length_mergeSort L
    have hs := ownsRow_sorted (w := w) (n := n) (os := os) (ts := L.mergeSort leT) hl2 hBg hg hnc hcm hcs
    obtain ⟨w1, hw1⟩ : ∃ w1, w1 = Go.Sort.grow (Go.Sort.putRow Go.Proofs.encStr (Go.Sort.ahead w n) g 0 (L.mergeSort leT).toArray) os := ⟨_, rfl⟩
    rw [← hw1] at hs hb1
    have hgoal : Calls Try.prog 32 #[.slice (some ⟨g, 0, none⟩) L.length cap] w1 fun e w2 => ∃ v', e = .returned v' ∧ w2.ownsRow B 9 1 v' (putAll L).length (strsV (putAll L)) ∧ Below B w0 w2 := by
      obtain ⟨g2, cap2, hv, _, hlt2, _, _, _, hH2⟩ := Lib.holds_of_ownsRow hs (by intro h; cases h)
      cases hv
      have hc := Any.slices_Compact_string Try.laysCompact g 0 cap (L.mergeSort leT) w1 hH2 (by omega) (by omega)
      rw [hl2] at hc
      refine hc.mono ?_
      rintro e w2 ⟨rfl, q, rfl⟩
      have hle := Lib.compact_length_le (L.mergeSort leT)
      have hr := Lib.ownsRow_putRow (q := q) (k := (Lib.compact (L.mergeSort leT)).length) (ys := Lib.compact (L.mergeSort leT) ++ List.replicate (L.length - (Lib.compact (L.mergeSort leT)).length) []) hs (by simp; omega) (by omega)
      rw [List.take_left] at hr
      have hb2 := Lib.below_putRow (enc := Go.Proofs.encStr) (q := q) (d := (Lib.compact (L.mergeSort leT) ++ List.replicate (L.length - (Lib.compact (L.mergeSort leT)).length) []).toArray) hb1 hBg
      rw [sorted_put] at hr hb2 ⊢
      exact ⟨_, rfl, hr, hb2⟩
    rw [hw1] at hgoal
    exact hgoal

set_option maxHeartbeats 16000000 in
set_option maxRecDepth 100000 in
theorem onames_any (v : Value) (l : List Ob) (hf : obsFit l) (hl : l.length ≤ 20) (w : World) (hA : ObsAt w v l) : Calls Try.prog 19 #[v] w fun e w' => ∃ v', e = .returned v' ∧ OwnL w.heap.size (putAll (namesL l)) v' w' ∧ Below w.heap.size w w' := by
  obtain ⟨a, c, rfl, h2⟩ := hA.get
  obtain ⟨i0, hi, hz0, hz1, hz2⟩ := info_parts infoStr
  have HI0 := Lib.hid (And.intro hi (And.intro hz0 (And.intro hz1 hz2)))
  obtain ⟨n, hn⟩ : ∃ n, n = l.length := ⟨_, rfl⟩
  have HF := Lib.hid (show ∀ j, j < n → obFits (l.getD j Ob.nought) from by rw [hn]; exact hf.2)
  rw [← hn] at h2 ⊢
  have hni : (n : Int) ≤ 20 := by omega
  have H2 := Lib.hid h2
  have HLen := Lib.hid hn
  have HFin := Lib.hid (fun (v : Value) W (hO : OwnL w.heap.size (namesL l) v W) (hb : Below w.heap.size w W) => sort_compact (namesL l) w.heap.size v w W hO hb hb.size (by have := namesL_length l; omega))
  clear hn h2 hf hl hA hi hz0 hz1 hz2
  go_enter Try.func19, Try.ntmps19
  go_wp2_with fail
  go_loopw [3, 10] (fun t3 i wr => ∃ k : Nat, (k : Int) ≤ n ∧ i = .int .i64 k ∧ Hid (OwnL w.heap.size (namesL (l.take k)) t3 wr) ∧ Hid (Below w.heap.size w wr)) (fun _ i _ => n - (intOf i).toNat)
  case atStart => exact ⟨0, by omega, rfl, Lib.hid (ownL_nil _ _), Lib.hid (Below.refl _ _)⟩
  case round =>
    obtain ⟨k, hk, rfl, HO, HB⟩ := hrel
    by_cases hlt : k < n
    · have hd : decide (k < n) = true := decide_eq_true hlt
      obtain ⟨b, o, rfl, hbl, hcl⟩ := H2.out (by omega)
      obtain ⟨x, hx⟩ : ∃ x, x = l.getD k Ob.nought := ⟨_, rfl⟩
      obtain ⟨vs, hL, hS⟩ := hcl k hlt
      have hfx := HF.out k hlt
      have hsn := namesL_snoc l k (by rw [← HLen.out]; exact hlt)
      rw [← hx] at hL hS hfx hsn
      obtain ⟨c0, c1⟩ := (hL.below HB.out hbl).ob
      have HI := Lib.hid (fun W (hq : Below w.heap.size w W) => isobject_any _ x hfx W ((ObAt.mk hS).below hq))
      obtain ⟨p, hp⟩ : ∃ p, p = obOk x := ⟨_, rfl⟩
      obtain ⟨M, hM⟩ : ∃ M, M = tx x.name := ⟨_, rfl⟩
      have HSN : Hid (namesL (l.take (k + 1)) = namesL (l.take k) ++ if p = true then x.syms.map (·.name) else []) := Lib.hid (by rw [hsn, hp]; rfl)
      have hS88 := hfx.2.1
      have HFS := Lib.hid hfx.2.2
      obtain ⟨a2, cc, rfl, hsy⟩ := hS.get
      obtain ⟨m, hm⟩ : ∃ m, m = x.syms.length := ⟨_, rfl⟩
      rw [← hp, ← hM, ← hm] at HI
      rw [← hM] at c0
      rw [← hm] at c1 hsy hS88
      have HSY := Lib.hid hsy
      have HM := Lib.hid hm
      have hmi : (m : Int) ≤ 1599289640401 := by omega
      have hbr : b < wr.heap.size := Nat.lt_of_lt_of_le hbl HB.out.size
      have H64 : Hid (p = true → m ≤ 64) := Lib.hid (by
        rw [hp, hm]
        intro h
        unfold obOk at h
        simp only [Bool.and_eq_true, decide_eq_true_eq] at h
        exact h.1.2)
      have HBa := Lib.hid (below_box HB.out (.cells #[.string M, .slice a2 m cc] 24))
      have HYa := Lib.hid (Blk.new wr 24 [.string M, .slice a2 m cc])
      have HOa := Lib.hid (HO.out.below (below_new1 wr (.cells #[.string M, .slice a2 m cc] 24)))
      have HKl : Hid ((namesL (l.take k)).length ≤ 1280) := Lib.hid (by
        have h1 := namesL_length (l.take k)
        have h3 := List.length_take_le k l
        have h4 : (n : Int) ≤ 20 := hni
        omega)
      clear hcl hL hS hx hfx hsn hp hM hsy hm hS88
      go_wp2_with fail
      refine (HI.out _ HBa.out).mono ?_; rintro e w2 ⟨rfl, q2⟩
      have HB2 := Lib.hid (below_call HBa.out q2)
      have HY2 := Lib.hid (HYa.out.call q2)
      have HO2 := Lib.hid (HOa.out.below q2)
      clear q2 c0 c1 hbr HBa HYa HOa HB HO
      cases p
      · have HO3 : Hid (OwnL w.heap.size (namesL (l.take (k + 1))) _ w2) := Lib.hid (by rw [HSN.out, if_neg (by decide), List.append_nil]; exact HO2.out)
        clear HO2 HY2 HSN
        go_wp2_with fail
        go_roundw
        case rel => exact ⟨k + 1, by omega, by go_num, HO3, HB2⟩
        case measure => simp [intOf]; omega
      have b1 : w2.cell? ⟨wr.heap.size, 1, none⟩ = some (.slice a2 m cc) := HY2.out.cell 1
      have h64 := H64.out rfl
      have hm64 : (m : Int) ≤ 64 := by omega
      have HSN2 : Hid (namesL (l.take (k + 1)) = namesL (l.take k) ++ x.syms.map (·.name)) := Lib.hid (by rw [HSN.out, if_pos rfl])
      clear H64 h64 HSN hmi
      go_wp2_with fail
      clear b1 HY2
      go_loopw [3, 20] (fun t3 i wi => ∃ j : Nat, (j : Int) ≤ m ∧ i = .int .i64 j ∧ Hid (OwnL w.heap.size (namesL (l.take k) ++ (x.syms.map (·.name)).take j) t3 wi) ∧ Hid (Below w.heap.size w wi)) (fun _ i _ => m - (intOf i).toNat)
      case atStart => exact ⟨0, by omega, rfl, Lib.hid (by rw [List.take_zero, List.append_nil]; exact HO2.out), HB2⟩
      case round =>
        clear HO2 HB2
        obtain ⟨j, hj, rfl, HO, HB⟩ := hrel
        by_cases hjm : j < m
        · have hd2 : decide (j < m) = true := decide_eq_true hjm
          obtain ⟨b2, o2, rfl, hbl2, hcl2⟩ := HSY.out (by omega)
          obtain ⟨vr, vn, hL, ⟨ra, rc, rfl, _⟩, ⟨na, nc, rfl, _⟩⟩ := hcl2 j hjm
          have hfs := HFS.out j (by rw [← HM.out]; exact hjm)
          obtain ⟨s, hs⟩ : ∃ s, s = x.syms.getD j Sy.nought := ⟨_, rfl⟩
          rw [← hs] at hL hfs
          obtain ⟨c0, c1, c2, c3, c4, c5, c6⟩ := (hL.below HB.out hbl2).sy
          obtain ⟨u0, g0⟩ : ∃ u, u = tx s.name := ⟨_, rfl⟩
          obtain ⟨u1, g1⟩ : ∃ u, u = s.bind := ⟨_, rfl⟩
          obtain ⟨u2, g2⟩ : ∃ u, u = s.kind := ⟨_, rfl⟩
          obtain ⟨u3, g3⟩ : ∃ u, u = s.size := ⟨_, rfl⟩
          obtain ⟨u4, g4⟩ : ∃ u, u = tx s.bytes := ⟨_, rfl⟩
          obtain ⟨rn, hrn⟩ : ∃ y, y = s.rels.length := ⟨_, rfl⟩
          obtain ⟨nn, hnn⟩ : ∃ y, y = s.notes.length := ⟨_, rfl⟩
          rw [← hrn] at c5
          rw [← hnn] at c6
          have HCl := Lib.hid (fun W => sclone_any u0 (by rw [g0, tx_size]; exact hfs.1) W)
          rw [← g0] at c0
          rw [← g1] at c1
          rw [← g2] at c2
          rw [← g3] at c3
          rw [← g4] at c4
          have HT : Hid ((x.syms.map (·.name)).take (j + 1) = (x.syms.map (·.name)).take j ++ [s.name]) := Lib.hid (by
            rw [List.take_succ_eq_append_getElem (by rw [List.length_map, ← HM.out]; exact hjm), List.getElem_map, hs]
            simp [List.getD, show j < x.syms.length by rw [← HM.out]; exact hjm])
          have HU := Lib.hid g0
          have hbr : b2 < wr.heap.size := Nat.lt_of_lt_of_le hbl2 HB.out.size
          have HBa := Lib.hid (below_box HB.out (.cells #[.string u0, .int .u8 u1, .int .u8 u2, .int .u32 u3, .string u4, .slice ra rn rc, .slice na nn nc] 40))
          have HOa := Lib.hid (HO.out.below (below_new1 wr (.cells #[.string u0, .int .u8 u1, .int .u8 u2, .int .u32 u3, .string u4, .slice ra rn rc, .slice na nn nc] 40)))
          clear hcl2 hL hfs hs g0 g1 g2 g3 g4 hrn hnn
          go_wp2_with fail
          refine (HCl.out _).mono ?_; rintro e w3 ⟨rfl, q3⟩
          have HB3 := Lib.hid (below_call HBa.out q3)
          have HO3 := Lib.hid (HOa.out.below q3)
          clear q3 c0 c1 c2 c3 c4 c5 c6 hbr HBa HOa HB HO HCl
          obtain ⟨L1, hL1⟩ : ∃ L1, L1 = namesL (l.take k) ++ (x.syms.map (·.name)).take j := ⟨_, rfl⟩
          have HN2 : Hid (namesL (l.take k) ++ (x.syms.map (·.name)).take (j + 1) = L1 ++ [s.name]) := Lib.hid (by rw [HT.out, hL1, List.append_assoc])
          have HK : Hid (L1.length + 1 ≤ maxLen ∧ (L1.length + 1) * 16 ≤ 140737488355328) := Lib.hid (by
            have h1 := HKl.out
            have h3 : ((x.syms.map (·.name)).take j).length ≤ j := List.length_take_le _ _
            have h4 : L1.length = (namesL (l.take k)).length + ((x.syms.map (·.name)).take j).length := by rw [hL1, List.length_append]
            unfold maxLen
            omega)
          have HBx : Hid (w.heap.size ≤ (w3.alloc (.cells #[.string u0] 9)).heap.size) := Lib.hid (below_box HB3.out _).size
          rw [← hL1] at HO3
          clear hL1 HT
          go_wp2_with (at_builtin; refine wpList_append_own _ rfl _ _ 48 rfl w.heap.size 9 i0 (.string ⟨#[]⟩) 1 16 Try.underlying48 HI0.out.1 HI0.out.2.1 HI0.out.2.2.1 HI0.out.2.2.2 rfl (by decide) _ _ _ rfl (World.ownsRow.alloc HO3.out _) ⟨w3.heap.size, 0, none⟩ 1 1 [.string u0] rfl rfl (new_str _ _) (fun u hu => by rw [List.mem_singleton] at hu; rw [hu]; rfl) HK.out.1 HK.out.2 HBx.out ?_)
          intro z' w4 hown' hgrow _
          have HB4 : Hid (Below w.heap.size w w4) := Lib.hid ((below_box HB3.out _).grown hgrow (below_box HB3.out _).size (fun q hq => (World.ownsRow.lt HO3.out q hq).1))
          have HO4 : Hid (OwnL w.heap.size (namesL (l.take k) ++ (x.syms.map (·.name)).take (j + 1)) z' w4) := Lib.hid (by
            rw [HN2.out]
            unfold OwnL
            rw [List.length_append, show strsV (L1 ++ [s.name]) = strsV L1 ++ [.string u0] from by rw [HU.out]; simp [strsV]]
            exact hown')
          clear hown' hgrow HO3 HB3 HN2 HK HBx HU
          go_wp2_with fail
          go_roundw
          case rel => exact ⟨j + 1, by omega, by go_num, HO4, HB4⟩
          case measure => simp [intOf]; omega
        · have hd2 : decide (j < m) = false := decide_eq_false hjm
          have HO5 : Hid (OwnL w.heap.size (namesL (l.take (k + 1))) _ wr) := Lib.hid (by
            rw [HSN2.out]
            have := HO.out
            rw [List.take_of_length_le (l := x.syms.map (·.name)) (by rw [List.length_map, ← HM.out]; omega)] at this
            exact this)
          clear hjm HO
          go_wp2_with fail
          go_roundw
          case rel => exact ⟨k + 1, by omega, by go_num, HO5, HB⟩
          case measure => simp [intOf]; omega
    · have hd : decide (k < n) = false := decide_eq_false hlt
      have hall : l.take k = l := List.take_of_length_le (by rw [← HLen.out]; omega)
      rw [hall] at HO
      have HS := Lib.hid (HFin.out _ wr HO.out HB.out)
      clear hlt hall HO
      go_wp2_with fail
      refine HS.out.mono ?_; rintro e w1 ⟨rfl, hb1, hc⟩
      have HC := Lib.hid hc
      clear hc hb1
      go_wp2_with fail
      refine HC.out.mono ?_; rintro e w2 ⟨v', rfl, hO, hb2⟩
      have HR := Lib.hid (And.intro hO hb2)
      clear hO hb2
      go_wp2_with fail
      go_ret
      exact ⟨_, rfl, HR.out.1, HR.out.2⟩
end Go.Proofs.Ytiadggeheiadiaa
