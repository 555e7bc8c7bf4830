/- AsmMakes, walked, given what the program's package asm is held to. -/
import Derived.Test.YtlnnhgmkibjgmaaDoorX30
import Derived.Test.YtlnnhgmkibjgmaaDoorX12
set_option linter.unusedVariables false
set_option linter.unusedSimpArgs false
namespace Go.Proofs.YtlnnhgmkibjgmaaDoor
open Go Go.RowKit Oj Al

theorem infoLine : (Tryd.prog.info? 42).map (fun i => (i.zero, i.size, i.bytes)) = some (some (.agg #[.string ⟨#[]⟩, .int .u8 0, .int .u8 0, .int .u8 0, .int .u8 0, .int .u32 0, .string ⟨#[]⟩, .string ⟨#[]⟩]), 8, 56) := by kernel_rfl
theorem ln_one (x : Ln) : ∀ u ∈ lnCells x, u.oneCell' = true := by
  intro u hu
  simp only [lnCells, List.mem_cons, List.not_mem_nil, or_false] at hu
  rcases hu with rfl | rfl | rfl | rfl | rfl | rfl | rfl | rfl <;> rfl
theorem nought_fits : syFits Sy.nought := ⟨by decide, by decide, by decide, by decide, by decide, by decide, by decide, fun j hj => absurd hj (Nat.not_lt_zero j), fun j hj => absurd hj (Nat.not_lt_zero j)⟩
theorem mkS_fits {nm : List UInt8} {bi : Int} {nt : List Nt} {l : List Ln} (hn : nm.length ≤ 140737488355328) (hb : 0 ≤ bi ∧ bi < 256) (hf : lnsFit l) (hm : nt.length * 12 ≤ 140737488355328) (hs : ∀ j, j < nt.length → ntFits (nt.getD j Nt.nought)) : syFits (mkS nm bi nt l) := by
  unfold mkS
  by_cases h : mkE nm bi nt l = 0
  · rw [if_pos h]
    refine symL_fits hn hb hf ?_ hm hs
    rcases Nat.lt_or_ge 1024 l.length with h2 | h2
    · rw [(mk_long h2).1] at h; cases h
    · exact h2
  · rw [if_neg h]; exact nought_fits
set_option maxHeartbeats 16000000 in
set_option maxRecDepth 100000 in
theorem makes_any (hP : AsmOK) (nm : ByteArray) (hnm : nm.size ≤ 140737488355328) (bi : Int) (LN : List Nt) (vn : Value) (l : List Ln) (vl : Value) (w : World) (hN : NotesAt w vn LN) (hNf : LN.length * 12 ≤ 140737488355328) (hNs : ∀ j, j < LN.length → ntFits (LN.getD j Nt.nought)) (hbi : 0 ≤ bi ∧ bi < 256) (hL : LinesAt w vl l) (hLf : lnsFit l) (hT : I.Tabled w) :
    Calls Tryd.prog 3 #[.string nm, .int .u8 bi, vn, vl] w fun e w' => e = .returned (.bool true) ∧ Below w.heap.size w w' := by
  obtain ⟨iL, hi, hz, hs, hb⟩ := info_parts infoLine
  have HI := Lib.hid (And.intro hi (And.intro hz (And.intro hs hb)))
  clear hi hz hs hb
  obtain ⟨iN, hi, hz, hs, hb⟩ := info_parts infoNote
  have HJ := Lib.hid (And.intro hi (And.intro hz (And.intro hs hb)))
  clear hi hz hs hb
  have HAl := Lib.hid (fun W (hW : Below w.heap.size w W) => aalive_any hP W (hT.below hW))
  obtain ⟨an, cn, hvn, _⟩ := id hN
  obtain ⟨al, cl, hvl, _⟩ := id hL
  subst hvn hvl
  have HLg := Lib.hid (fun W (hW : Below w.heap.size w W) => long_any l _ an LN.length cn W (SlC.below hL hW (Nat.le_refl _)) hLf (by omega))
  have HKM := Lib.hid (fun W (hW : Below w.heap.size w W) => kmake_any nm hnm bi LN _ l _ W (SlC.below hN hW (Nat.le_refl _)) hNf hNs hbi (SlC.below hL hW (Nat.le_refl _)) hLf)
  have HPM := Lib.hid (fun vn vl W (hW : Below w.heap.size w W) (h1 : NotesAt W vn LN) (h2 : LinesAt W vl l) => hP.make nm bi LN vn l vl W hnm hbi h1 hNf hNs h2 hLf (hT.below hW))
  have HSm := Lib.hid (fun v v2 W (h1 : SymAt W v (mkS (by' nm) bi LN l)) (h2 : SymAt W v2 (mkS (by' nm) bi LN l)) => rsamesym_any _ (mkS_fits (by rw [by_length]; exact hnm) hbi hLf hNf hNs) v v2 W h1 h2)
  have HKS := Lib.hid (fun v W (hW : Below w.heap.size w W) (h1 : LinesAt W v l) => ksame_any l v _ W h1 (SlC.below hL hW (Nat.le_refl _)) hLf.1)
  obtain ⟨E, hE⟩ : ∃ E, E = mkE (by' nm) bi LN l := ⟨_, rfl⟩
  obtain ⟨X, hX⟩ : ∃ X, X = mkS (by' nm) bi LN l := ⟨_, rfl⟩
  rw [← hX] at HSm HKM HPM
  rw [← hE] at HKM HPM
  obtain ⟨csN, hcsN⟩ : ∃ f : Nat → List Value, f = fun j => ntCells (LN.getD j Nt.nought) := ⟨_, rfl⟩
  obtain ⟨csL, hcsL⟩ : ∃ f : Nat → List Value, f = fun j => lnCells (l.getD j Ln.nought) := ⟨_, rfl⟩
  obtain ⟨n, hn⟩ : ∃ n, n = l.length := ⟨_, rfl⟩
  obtain ⟨m, hm⟩ : ∃ n, n = LN.length := ⟨_, rfl⟩
  have HNs : Hid ((∀ j, j < m → (csN j).length = 3) ∧ (∀ j, j < m → ∀ u ∈ csN j, u.oneCell' = true) ∧ (∀ W, Below w.heap.size w W → SlC W (.slice an m cn) m 3 csN) ∧ m ≤ maxLen ∧ m * 12 ≤ 140737488355328) := Lib.hid ⟨fun j _ => by rw [hcsN]; rfl, fun j _ => by rw [hcsN]; exact nt_one _, fun W hW => by rw [hcsN, hm]; exact SlC.below hN hW (Nat.le_refl _), by unfold maxLen; omega, by omega⟩
  have HLs : Hid ((∀ j, j < n → (csL j).length = 8) ∧ (∀ j, j < n → ∀ u ∈ csL j, u.oneCell' = true) ∧ SlC w (.slice al n cl) n 8 csL ∧ n ≤ maxLen ∧ n * 56 ≤ 140737488355328) := Lib.hid ⟨fun j _ => by rw [hcsL]; rfl, fun j _ => by rw [hcsL]; exact ln_one _, by rw [hcsL, hn]; exact hL, by have := hLf.1; unfold maxLen; omega, by rw [hn]; exact hLf.1⟩
  have HOL : Hid (∀ B v W, W.ownsRow B 42 8 v n (flat csL n) → LinesAt W v l) := Lib.hid (fun B v W h => by
    rw [hcsL, hn] at h
    exact slC_of_row (fun _ _ => rfl) h)
  have HON : Hid (∀ B v W, W.ownsRow B 76 3 v m (flat csN m) → NotesAt W v LN) := Lib.hid (fun B v W h => by
    rw [hcsN, hm] at h
    exact slC_of_row (fun _ _ => rfl) h)
  rw [← hn, ← hm] at HLg
  rw [← hn] at HKM HKS ⊢
  rw [← hm] at HKM ⊢
  have hsz : (nm.size : Int) ≤ 140737488355328 := by omega
  have HB0 := Lib.hid (Below.refl w.heap.size w)
  clear hcsN hcsL hn hm hE hX hN hL hLf hNf hNs hT hbi hnm
  go_enter Tryd.func3, Tryd.ntmps3
  go_wp2_with fail
  refine (HLg.out _ HB0.out).mono ?_; rintro e w1 ⟨b, rfl, _, q1⟩
  have B1 := Lib.hid (below_call HB0.out q1)
  clear q1 HB0 HLg
  have hcase : b = true ∨ (b = false ∧ (1024 : Int) < (nm.size : Int)) ∨ (b = false ∧ (nm.size : Int) ≤ 1024) := by
    cases b
    · rcases Int.lt_or_le 1024 (nm.size : Int) with h | h
      · exact .inr (.inl ⟨rfl, h⟩)
      · exact .inr (.inr ⟨rfl, h⟩)
    · exact .inl rfl
  rcases hcase with rfl | ⟨rfl, hg⟩ | ⟨rfl, hg⟩
  · go_wp2_with fail
    refine (HAl.out _ B1.out).mono ?_; rintro e w2 ⟨rfl, q2⟩
    have B2 := Lib.hid (below_call B1.out q2)
    clear q2
    go_wp2_with fail
    go_ret
    exact ⟨rfl, B2.out⟩
  · go_wp2_with fail
    refine (HAl.out _ B1.out).mono ?_; rintro e w2 ⟨rfl, q2⟩
    have B2 := Lib.hid (below_call B1.out q2)
    clear q2
    go_wp2_with fail
    go_ret
    exact ⟨rfl, B2.out⟩
  have HL1 : Hid (SlC w1 (.slice al n cl) n 8 csL) := Lib.hid (SlC.below HLs.out.2.2.1 B1.out (Nat.le_refl _))
  go_wp2_with (at_builtin; first
    | (refine wpList_append_all rfl _ _ 23 rfl w.heap.size 42 iL _ 8 56 Tryd.underlying23 HI.out.1 HI.out.2.1 HI.out.2.2.1 HI.out.2.2.2 rfl (by decide) rfl (.slice al n cl) n csL rfl HL1.out HLs.out.1 HLs.out.2.1 HLs.out.2.2.2.1 HLs.out.2.2.2.2 B1.out.size ?_))
  intro v2 w2 h6 h7
  have B2 := Lib.hid (below_call B1.out (grown_none h7))
  have R2 := Lib.hid h6
  obtain ⟨a2, c2, hv2⟩ := row_slice h6
  subst hv2
  clear h6 h7 B1 HL1
  have HN2 : Hid (SlC w2 (.slice an m cn) m 3 csN) := Lib.hid (HNs.out.2.2.1 w2 B2.out)
  go_wp2_with (at_builtin; refine wpList_append_all rfl _ _ 22 rfl w.heap.size 76 iN _ 3 12 Tryd.underlying22 HJ.out.1 HJ.out.2.1 HJ.out.2.2.1 HJ.out.2.2.2 rfl (by decide) rfl (.slice an m cn) m csN rfl HN2.out HNs.out.1 HNs.out.2.1 HNs.out.2.2.2.1 HNs.out.2.2.2.2 B2.out.size ?_)
  intro v3 w3 h6 h7
  have B3 := Lib.hid (below_call B2.out (grown_none h7))
  have R3 := Lib.hid (row_below R2.out (grown_none h7))
  have L3 := Lib.hid (HOL.out _ _ _ R3.out)
  have P3 := Lib.hid (HPM.out v3 _ w3 B3.out (HON.out _ _ _ h6) L3.out)
  obtain ⟨a3, c3, hv3⟩ := row_slice h6
  subst hv3
  clear h6 h7 B2 R2 HN2 R3 HPM
  unfold MkPost at P3
  go_wp2_with fail
  refine P3.out.mono ?_; rintro e w4 ⟨v4, rfl, s4, q4⟩
  obtain ⟨ar, cr, an4, cn4, rfl, _, _⟩ := s4.parts
  obtain ⟨n0, e0⟩ : ∃ u, u = tx X.name := ⟨_, rfl⟩
  obtain ⟨n1, e1⟩ : ∃ u, u = X.bind := ⟨_, rfl⟩
  obtain ⟨n2, e2⟩ : ∃ u, u = X.kind := ⟨_, rfl⟩
  obtain ⟨n3, e3⟩ : ∃ u, u = X.size := ⟨_, rfl⟩
  obtain ⟨n4, e4⟩ : ∃ u, u = tx X.bytes := ⟨_, rfl⟩
  obtain ⟨rl, e5⟩ : ∃ u, u = X.rels.length := ⟨_, rfl⟩
  obtain ⟨nl, e6⟩ : ∃ u, u = X.notes.length := ⟨_, rfl⟩
  have HPt : Hid (∀ W v, SymAt W v X → ∃ ar cr an cn, v = .agg #[.string n0, .int .u8 n1, .int .u8 n2, .int .u32 n3, .string n4, .slice ar rl cr, .slice an nl cn]) := Lib.hid (fun W v h => by
    obtain ⟨ar, cr, an, cn, he, _, _⟩ := h.parts
    rw [e0, e1, e2, e3, e4, e5, e6]
    exact ⟨ar, cr, an, cn, he⟩)
  simp only [← e0, ← e1, ← e2, ← e3, ← e4, ← e5, ← e6] at s4 ⊢
  have B4 := Lib.hid (below_box (below_call B3.out q4) (.cells #[.string n0, .int .u8 n1, .int .u8 n2, .int .u32 n3, .string n4, .slice ar rl cr, .slice an4 nl cn4] 29))
  have q44 := below_call q4 (below_new1 w4 (.cells #[.string n0, .int .u8 n1, .int .u8 n2, .int .u32 n3, .string n4, .slice ar rl cr, .slice an4 nl cn4] 29))
  have L4 := Lib.hid (SlC.below L3.out q44 (Nat.le_refl _))
  have S4 := Lib.hid (s4.below (below_new1 w4 (.cells #[.string n0, .int .u8 n1, .int .u8 n2, .int .u32 n3, .string n4, .slice ar rl cr, .slice an4 nl cn4] 29)))
  have X4 := Lib.hid (Blk.new w4 29 [.string n0, .int .u8 n1, .int .u8 n2, .int .u32 n3, .string n4, .slice ar rl cr, .slice an4 nl cn4])
  clear q4 q44 s4 B3 L3 P3 e0 e1 e2 e3 e4 e5 e6
  go_upto_region 5 with (fail)
  obtain ⟨w5, hw5⟩ : ∃ t, t = w4.alloc (.cells #[.string n0, .int .u8 n1, .int .u8 n2, .int .u32 n3, .string n4, .slice ar rl cr, .slice an4 nl cn4] 29) := ⟨_, rfl⟩
  obtain ⟨g4, hg4⟩ : ∃ t, t = w4.heap.size := ⟨_, rfl⟩
  rw [← hw5] at B4 L4 S4 X4 ⊢
  rw [← hg4] at X4 ⊢
  clear hw5 hg4
  have K5 := Lib.hid (HKM.out w5 B4.out)
  unfold MkPost at K5
  go_wp2_with fail
  refine K5.out.mono ?_; rintro e w6 ⟨v6, rfl, s6, q6⟩
  obtain ⟨ar6, cr6, an6, cn6, rfl⟩ := HPt.out _ _ s6
  have B6 := Lib.hid (below_box (below_call B4.out q6) (.cells #[.string n0, .int .u8 n1, .int .u8 n2, .int .u32 n3, .string n4, .slice ar6 rl cr6, .slice an6 nl cn6] 29))
  have q66 := below_call q6 (below_new1 w6 (.cells #[.string n0, .int .u8 n1, .int .u8 n2, .int .u32 n3, .string n4, .slice ar6 rl cr6, .slice an6 nl cn6] 29))
  have L6 := Lib.hid (SlC.below L4.out q66 (Nat.le_refl _))
  have S6 := Lib.hid (S4.out.below q66)
  have X6 := Lib.hid (X4.out.call q66)
  have T6 := Lib.hid (s6.below (below_new1 w6 (.cells #[.string n0, .int .u8 n1, .int .u8 n2, .int .u32 n3, .string n4, .slice ar6 rl cr6, .slice an6 nl cn6] 29)))
  have Y6 := Lib.hid (Blk.new w6 29 [.string n0, .int .u8 n1, .int .u8 n2, .int .u32 n3, .string n4, .slice ar6 rl cr6, .slice an6 nl cn6])
  clear q6 q66 s6 B4 L4 S4 X4 K5 HKM HPt
  go_upto_region 6 with (fail)
  obtain ⟨w7, hw7⟩ : ∃ t, t = w6.alloc (.cells #[.string n0, .int .u8 n1, .int .u8 n2, .int .u32 n3, .string n4, .slice ar6 rl cr6, .slice an6 nl cn6] 29) := ⟨_, rfl⟩
  obtain ⟨g6, hg6⟩ : ∃ t, t = w6.heap.size := ⟨_, rfl⟩
  rw [← hw7] at B6 L6 S6 X6 T6 Y6 ⊢
  rw [← hg6] at Y6 ⊢
  clear hw7 hg6
  have x0 : w7.cell? ⟨g4, 0, none⟩ = some (.string n0) := X6.out.cell 0
  have y0 : w7.cell? ⟨g6, 0, none⟩ = some (.string n0) := Y6.out.cell 0
  have x1 : w7.cell? ⟨g4, 1, none⟩ = some (.int .u8 n1) := X6.out.cell 1
  have y1 : w7.cell? ⟨g6, 1, none⟩ = some (.int .u8 n1) := Y6.out.cell 1
  have x2 : w7.cell? ⟨g4, 2, none⟩ = some (.int .u8 n2) := X6.out.cell 2
  have y2 : w7.cell? ⟨g6, 2, none⟩ = some (.int .u8 n2) := Y6.out.cell 2
  have x3 : w7.cell? ⟨g4, 3, none⟩ = some (.int .u32 n3) := X6.out.cell 3
  have y3 : w7.cell? ⟨g6, 3, none⟩ = some (.int .u32 n3) := Y6.out.cell 3
  have x4 : w7.cell? ⟨g4, 4, none⟩ = some (.string n4) := X6.out.cell 4
  have y4 : w7.cell? ⟨g6, 4, none⟩ = some (.string n4) := Y6.out.cell 4
  have x5 : w7.cell? ⟨g4, 5, none⟩ = some (.slice ar rl cr) := X6.out.cell 5
  have y5 : w7.cell? ⟨g6, 5, none⟩ = some (.slice ar6 rl cr6) := Y6.out.cell 5
  have x6 : w7.cell? ⟨g4, 6, none⟩ = some (.slice an4 nl cn4) := X6.out.cell 6
  have y6 : w7.cell? ⟨g6, 6, none⟩ = some (.slice an6 nl cn6) := Y6.out.cell 6
  go_wp2_with fail
  refine (HSm.out _ _ _ S6.out T6.out).mono ?_; rintro e w8 ⟨rfl, q8⟩
  have B8 := Lib.hid (below_call B6.out q8)
  have L8 := Lib.hid (SlC.below L6.out q8 (Nat.le_refl _))
  clear q8 B6 L6 S6 T6 X6 Y6 HSm x0 x1 x2 x3 x4 x5 x6 y0 y1 y2 y3 y4 y5 y6
  go_wp2_with fail
  refine (HKS.out _ _ B8.out L8.out).mono ?_; rintro e w9 ⟨rfl, q9⟩
  have B9 := Lib.hid (below_call B8.out q9)
  clear q9 B8 L8 HKS
  go_wp2_with fail
  refine (HAl.out _ B9.out).mono ?_; rintro e w10 ⟨rfl, q10⟩
  have B10 := Lib.hid (below_call B9.out q10)
  clear q10 B9
  go_wp2_with fail
  go_ret
  exact ⟨rfl, B10.out⟩
end Go.Proofs.YtlnnhgmkibjgmaaDoor
