/- The program's Get. -/
import Derived.Test.YtbpdoiikleaidaaX31
set_option linter.unusedVariables false
set_option linter.unusedSimpArgs false
namespace Go.Proofs.Ytbpdoiikleaidaa
open Go Go.RowKit Oj Pk Of

def noO : List Value := [.string ⟨#[]⟩, .slice none 0 0]
/-- What stands in a call of Get: the reader, the result's block, the reading's. -/
structure Fq (w0 w : World) (p b6 : Nat) (r : Rd) : Prop where
  rd : RpAt w p r
  res : Blk w w0.heap.size 24 noO
  bx : Blk w b6 71 [.pointer (some ⟨p, 0, none⟩)]
  low : Below w0.heap.size w0 w
  hp : w0.heap.size ≤ p
section
variable {w0 w w' : World} {p b6 : Nat} {r r2 : Rd}
theorem Fq.sz (h : Fq w0 w p b6 r) : w0.heap.size ≤ w.heap.size := h.low.size
theorem fq_low {B : Nat} {a b c : World} (h : Below B a b) {row : Option Nat} (h2 : b.grownBy c row) (hr : ∀ k, row = some k → B ≤ k) (hB : B ≤ b.heap.size) : Below B a c :=
  ⟨h2.os.trans h.os, h2.tape.trans h.tape, h2.output.trans h.output, Nat.le_trans h.size h2.size, fun k hk => (h2.block k (Nat.lt_of_lt_of_le hk hB) (fun e => by have := hr k e.symm; omega)).trans (h.block k hk)⟩
theorem Fq.read (h : Fq w0 w p b6 r) (hr : RpAt w' p r2) (hg : w.grownBy w' (some p)) : Fq w0 w' p b6 r2 :=
  ⟨hr, h.res.grown hg (fun e => Blk.ne h.res h.rd (by decide) (Option.some.inj e)), h.bx.grown hg (fun e => Blk.ne h.bx h.rd (by decide) (Option.some.inj e)), fq_low h.low hg (fun k hk => by cases hk; exact h.hp) h.sz, h.hp⟩
theorem Fq.below (h : Fq w0 w p b6 r) (hb : Below w.heap.size w w') : Fq w0 w' p b6 r :=
  ⟨h.rd.below hb, h.res.below hb h.res.lt, h.bx.below hb h.bx.lt, h.low.trans (hb.mono h.sz), h.hp⟩
end
theorem cutV_magic (s : List UInt8) : cutV (tx s) ⟨#[65, 79, 66, 49]⟩ = if s.take 4 = magic then .tuple #[.string (tx (s.drop 4)), .bool true] else .tuple #[.string (tx s), .bool false] := by
  unfold cutV
  rw [by_tx]
  rfl
set_option maxHeartbeats 8000000 in
set_option maxRecDepth 100000 in
theorem fget_any (s : List UInt8) (w : World) (hs : s.length ≤ 4194304) : Calls Try.prog 13 #[.string (tx s)] w fun e w' => ∃ v : Value, ∃ c : Int, e = .returned (.tuple #[v, .int .i64 c]) ∧ Below w.heap.size w w' ∧ GetPost w.heap.size (getO s) c v w' := by
  have HCut := Lib.hid (fun W => cutp_any (tx s) ⟨#[65, 79, 66, 49]⟩ W (by rw [tx_size]; omega) (by decide))
  rw [cutV_magic] at HCut
  rw [getO_cut]
  have hX := Blk.new w 24 noO
  have hB := below_new1 w (.cells #[.string ⟨#[]⟩, .slice none 0 0] 24)
  have HX := Lib.hid hX
  have HB := Lib.hid hB
  by_cases hm : s.take 4 = magic
  · rw [if_pos hm] at HCut ⊢
    obtain ⟨T, hT⟩ : ∃ T, T = tx (s.drop 4) := ⟨_, rfl⟩
    obtain ⟨q0, hq0⟩ : ∃ q, q = (⟨s.drop 4, 0⟩ : Rd) := ⟨_, rfl⟩
    have hl0 : q0.S.length ≤ 4194304 := by rw [hq0]; simp only [List.length_drop]; omega
    have HNew : Hid (∀ W, Calls Try.prog 25 #[.string T] W fun x w' => ∃ p, x = .returned (.pointer (some ⟨p, 0, none⟩)) ∧ W.heap.size ≤ p ∧ RpAt w' p q0 ∧ Below W.heap.size W w') := Lib.hid (fun W => by
      have h := pnew_any T W
      unfold RpNew at h
      rw [hT, by_tx, ← hq0] at h
      rw [hT]
      exact h)
    have HOb := Lib.hid (fun p W (h : RpAt W p q0) => gobj_any W h hl0)
    obtain ⟨x, hx⟩ : ∃ x, x = (rdB q0).1 := ⟨_, rfl⟩
    obtain ⟨q1, hq1⟩ : ∃ q, q = (rdB q0).2 := ⟨_, rfl⟩
    have hfit : obFits x := by
      rw [hx]
      unfold rdB
      exact rd_obFits (Nat.le_trans (text_one_len q0) hl0) (num2_lt _) (Nat.le_trans (num_len 2) (Nat.le_trans text_len hl0))
    rw [← hx, ← hq1] at HOb
    rw [← hq0, ← hx, ← hq1]
    unfold GObPost at HOb
    rw [← hT] at HCut
    have HEnd := Lib.hid (fun p W (h : RpAt W p q1) => pdend_any W h)
    obtain ⟨F, hF⟩ : ∃ F, F = (fin q1).E := ⟨_, rfl⟩
    obtain ⟨q2, hq2⟩ : ∃ q, q = fin q1 := ⟨_, rfl⟩
    rw [← hF, ← hq2] at HEnd
    have HCk := Lib.hid (fun v W (h : ObAt W v x) => ocheck_any v x hfit W h)
    obtain ⟨ok, hok⟩ : ∃ b, b = obOk x := ⟨_, rfl⟩
    rw [← hok] at HCk
    obtain ⟨G, hG⟩ : ∃ G, G = if (fin q1).E = 0 ∧ obOk x = true then some x else none := ⟨_, rfl⟩
    rw [← hG]
    have HG : Hid (G = if F = 0 ∧ ok = true then some x else none) := Lib.hid (by rw [hG, hF, hok])
    obtain ⟨nm, hnm⟩ : ∃ t, t = tx x.name := ⟨_, rfl⟩
    obtain ⟨SS, hSS⟩ : ∃ t, t = x.syms := ⟨_, rfl⟩
    obtain ⟨k, hk⟩ : ∃ k, k = SS.length := ⟨_, rfl⟩
    rw [← hnm, ← hSS, ← hk] at HOb
    have HAt : Hid (∀ W a c R N B, Cp8 W B SS k (.slice a k c) R N → ObOwn W B (.agg #[.string nm, .slice a k c]) x) := Lib.hid (fun W a c R N B h => by
      rw [hnm]
      rw [hk] at h ⊢
      rw [hSS] at h ⊢
      exact ⟨a, c, R, N, rfl, h⟩)
    clear hm hT hq0 hl0 hx hq1 hfit hF hq2 hok hG hnm hSS hk hX hB hs
    go_enter Try.func13, Try.ntmps13
    go_wp2_with fail
    refine (HCut.out _).mono ?_; rintro e w1 ⟨rfl, rfl⟩
    clear HCut
    go_wp2_with fail
    refine (HNew.out _).mono ?_; rintro e w2 ⟨p, rfl, hp, hr, hb⟩
    have D2 : Hid (Fq w (w2.alloc (.cells #[.pointer (some ⟨p, 0, none⟩)] 71)) p w2.heap.size q0) := Lib.hid (by
      have hp2 : w.heap.size ≤ p := Nat.le_trans HB.out.size hp
      have hb3 := below1 w2 (.cells #[.pointer (some ⟨p, 0, none⟩)] 71)
      have hx2 := HX.out.below hb HX.out.lt
      exact ⟨hr.below hb3, hx2.below hb3 hx2.lt, Blk.new w2 71 [.pointer (some ⟨p, 0, none⟩)], (HB.out.trans (hb.mono HB.out.size)).trans (hb3.mono (Nat.le_trans HB.out.size hb.size)), hp2⟩)
    clear hp hr hb HNew HX HB
    obtain ⟨b6, hb6⟩ : ∃ t, t = w2.heap.size := ⟨_, rfl⟩
    go_upto_region 5 with (fail)
    obtain ⟨w3, hw⟩ : ∃ t, t = w2.alloc (.cells #[.pointer (some ⟨p, 0, none⟩)] 71) := ⟨_, rfl⟩
    rw [← hw, ← hb6] at D2
    rw [← hw]
    try rw [← hb6]
    clear hw hb6
    have c0 : w3.cell? ⟨b6, 0, none⟩ = some (.pointer (some ⟨p, 0, none⟩)) := D2.out.bx.cell 0
    have HO := Lib.hid (HOb.out p w3 D2.out.rd)
    unfold rdg at HO
    go_wp2_with fail
    refine HO.out.mono ?_; rintro e w4 ⟨a, c, R, N, rfl, hc, hr, hg⟩
    have D4 := Lib.hid ((D2.out.read hr hg).below (below_new1 w4 (.cells #[.string nm, .slice a k c] 24)))
    have C4 := Lib.hid ((hc.mono D2.out.sz).below (below_new1 w4 (.cells #[.string nm, .slice a k c] 24)))
    have B4 := Lib.hid (Blk.new w4 24 [.string nm, .slice a k c])
    clear hc hr hg HO D2 c0 HOb
    go_upto_region 6 with (fail)
    obtain ⟨w5, hw⟩ : ∃ t, t = w4.alloc (.cells #[.string nm, .slice a k c] 24) := ⟨_, rfl⟩
    obtain ⟨go, hgo⟩ : ∃ t, t = w4.heap.size := ⟨_, rfl⟩
    rw [← hw] at D4 C4 B4
    rw [← hgo] at B4
    rw [← hw]
    try rw [← hgo]
    clear hw hgo
    have c0 : w5.cell? ⟨b6, 0, none⟩ = some (.pointer (some ⟨p, 0, none⟩)) := D4.out.bx.cell 0
    have HE := Lib.hid (HEnd.out p w5 D4.out.rd)
    go_wp2_with fail
    refine HE.out.mono ?_; rintro e w6 ⟨rfl, hr, hg⟩
    have D6 := Lib.hid (D4.out.read hr hg)
    have C6 := Lib.hid (C4.out.pd D4.out.rd hg)
    have B6 := Lib.hid (B4.out.grown hg (fun e => Blk.ne B4.out D4.out.rd (by decide) (Option.some.inj e)))
    clear hr hg HE D4 C4 B4 c0 HEnd
    obtain ⟨bF, hbF⟩ : ∃ b, (F != 0) = b := ⟨_, rfl⟩
    have x0 : w6.cell? ⟨w.heap.size, 0, none⟩ = some (.string ⟨#[]⟩) := D6.out.res.cell 0
    have x1 : w6.cell? ⟨w.heap.size, 1, none⟩ = some (.slice none 0 0) := D6.out.res.cell 1
    have f0 : w6.frozen? ⟨w.heap.size, 0, none⟩ = false := D6.out.res.frozen 0
    have f1 : w6.frozen? ⟨w.heap.size, 1, none⟩ = false := D6.out.res.frozen 1
    have z2 : w.heap.size < w6.heap.size := D6.out.res.lt
    have y0 : w6.cell? ⟨go, 0, none⟩ = some (.string nm) := B6.out.cell 0
    have y1 : w6.cell? ⟨go, 1, none⟩ = some (.slice a k c) := B6.out.cell 1
    cases bF
    case' true =>
      have HGN : Hid (G = none) := Lib.hid (by rw [HG.out, if_neg (fun h => by rw [h.1] at hbF; cases hbF)])
      go_wp2_with fail
      have HY := (D6.out.res.set_ 0 (.string ⟨#[]⟩)).set_ 1 (.slice none 0 0)
      refine bodyPost_ret (res_ob_tmp Try.results13 _ _ w.heap.size _ _ _ rfl rfl HY) rfl ⟨_, _, rfl, ?_, ?_⟩
      · exact fq_low (fq_low D6.out.low (grown_set _ w.heap.size 0 _) (fun k hk => by cases hk; exact Nat.le_refl _) D6.out.sz) (grown_set _ w.heap.size 1 _) (fun k hk => by cases hk; exact Nat.le_refl _) (by simp; exact D6.out.sz)
      · rw [HGN.out]; exact ⟨rfl, rfl⟩
    case' false =>
      have HGF : Hid (G = if ok = true then some x else none) := Lib.hid (by
        have hF0 : F = 0 := Decidable.byContradiction (fun h => by rw [bne_iff_ne.2 h] at hbF; cases hbF)
        rw [HG.out]
        simp only [hF0, true_and])
      have HC2 := Lib.hid (HCk.out _ w6 (HAt.out w6 a c R N w.heap.size C6.out).ob)
      clear HG HCk
      go_wp2_with fail
      refine HC2.out.mono ?_; rintro e w7 ⟨rfl, q7⟩
      have D7 := Lib.hid (D6.out.below q7)
      have C7 := Lib.hid (C6.out.below q7)
      have B7 := Lib.hid (B6.out.below q7 B6.out.lt)
      clear q7 HC2 D6 C6 B6 x0 x1 f0 f1 z2 y0 y1
      have x0 : w7.cell? ⟨w.heap.size, 0, none⟩ = some (.string ⟨#[]⟩) := D7.out.res.cell 0
      have x1 : w7.cell? ⟨w.heap.size, 1, none⟩ = some (.slice none 0 0) := D7.out.res.cell 1
      have f0 : w7.frozen? ⟨w.heap.size, 0, none⟩ = false := D7.out.res.frozen 0
      have f1 : w7.frozen? ⟨w.heap.size, 1, none⟩ = false := D7.out.res.frozen 1
      have z2 : w.heap.size < w7.heap.size := D7.out.res.lt
      have y0 : w7.cell? ⟨go, 0, none⟩ = some (.string nm) := B7.out.cell 0
      have y1 : w7.cell? ⟨go, 1, none⟩ = some (.slice a k c) := B7.out.cell 1
      cases ok
      case' false =>
        have HGN : Hid (G = none) := Lib.hid (by rw [HGF.out]; rfl)
        simp only [okI]
        go_wp2_with fail
        have HY := (D7.out.res.set_ 0 (.string ⟨#[]⟩)).set_ 1 (.slice none 0 0)
        refine bodyPost_ret (res_ob_tmp Try.results13 _ _ w.heap.size _ _ _ rfl rfl HY) rfl ⟨_, _, rfl, ?_, ?_⟩
        · exact fq_low (fq_low D7.out.low (grown_set _ w.heap.size 0 _) (fun k hk => by cases hk; exact Nat.le_refl _) D7.out.sz) (grown_set _ w.heap.size 1 _) (fun k hk => by cases hk; exact Nat.le_refl _) (by simp; exact D7.out.sz)
        · rw [HGN.out]; exact ⟨rfl, rfl⟩
      case' true =>
        have HGN : Hid (G = some x) := Lib.hid (by rw [HGF.out]; rfl)
        simp only [okI]
        go_wp2_with fail
        have HY := (D7.out.res.set_ 0 (.string nm)).set_ 1 (.slice a k c)
        refine bodyPost_ret (res_ob_tmp Try.results13 _ _ w.heap.size _ _ _ rfl rfl HY) rfl ⟨_, _, rfl, ?_, ?_⟩
        · exact fq_low (fq_low D7.out.low (grown_set _ w.heap.size 0 _) (fun k hk => by cases hk; exact Nat.le_refl _) D7.out.sz) (grown_set _ w.heap.size 1 _) (fun k hk => by cases hk; exact Nat.le_refl _) (by simp; exact D7.out.sz)
        · rw [HGN.out]
          have c7 := (C7.out.obj D7.out.res (grown_set w7 w.heap.size 0 (.string nm))).obj (D7.out.res.set_ 0 (.string nm)) (grown_set _ w.heap.size 1 (.slice a k c))
          exact ⟨rfl, HAt.out _ a c R N _ c7⟩
  · rw [if_neg hm] at HCut ⊢
    obtain ⟨T, hT⟩ : ∃ T, T = tx s := ⟨_, rfl⟩
    rw [← hT] at HCut ⊢
    have x0 : (w.alloc (.cells #[.string ⟨#[]⟩, .slice none 0 0] 24)).cell? ⟨w.heap.size, 0, none⟩ = some (.string ⟨#[]⟩) := hX.cell 0
    have x1 : (w.alloc (.cells #[.string ⟨#[]⟩, .slice none 0 0] 24)).cell? ⟨w.heap.size, 1, none⟩ = some (.slice none 0 0) := hX.cell 1
    have f0 : (w.alloc (.cells #[.string ⟨#[]⟩, .slice none 0 0] 24)).frozen? ⟨w.heap.size, 0, none⟩ = false := hX.frozen 0
    have f1 : (w.alloc (.cells #[.string ⟨#[]⟩, .slice none 0 0] 24)).frozen? ⟨w.heap.size, 1, none⟩ = false := hX.frozen 1
    have z2 : w.heap.size < (w.alloc (.cells #[.string ⟨#[]⟩, .slice none 0 0] 24)).heap.size := hX.lt
    clear hm hT hs hX hB
    go_enter Try.func13, Try.ntmps13
    go_wp2_with fail
    refine (HCut.out _).mono ?_; rintro e w1 ⟨rfl, rfl⟩
    clear HCut
    go_wp2_with fail
    exact bodyPost_ret (res_ob_tmp Try.results13 _ _ w.heap.size _ _ _ rfl rfl HX.out) rfl ⟨_, _, rfl, HB.out, ⟨rfl, rfl⟩⟩
end Go.Proofs.Ytbpdoiikleaidaa
