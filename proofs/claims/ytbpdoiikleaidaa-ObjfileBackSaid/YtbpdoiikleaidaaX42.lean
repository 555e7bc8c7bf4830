/- The document's sym, walked. (written by mk_fc.py) -/
import Derived.Test.YtbpdoiikleaidaaX21
set_option linter.unusedVariables false
set_option linter.unusedSimpArgs false
namespace Go.Proofs.Ytbpdoiikleaidaa
open Go Go.RowKit Oj Pk Of

/-- What reading a symbol hands back. -/
def SymPost (g : Nat) (s : Sy) (r2 : Rd) (w : World) (e : Ending) (w' : World) : Prop :=
  ∃ ar cr an cn, e = .returned (.agg #[.string (tx s.name), .int .u8 s.bind, .int .u8 s.kind, .int .u32 s.size, .string (tx s.bytes), .slice ar s.rels.length cr, .slice an s.notes.length cn]) ∧
    OwnR w' w.heap.size (.slice ar s.rels.length cr) s.rels ∧ OwnN w' w.heap.size (.slice an s.notes.length cn) s.notes ∧ RdAt w' g r2 ∧ w.grownBy w' (some g)
set_option maxHeartbeats 16000000 in
set_option maxRecDepth 100000 in
theorem dsym_any (g : Nat) (r : Rd) (w : World) (h : RdAt w g r) (lr : r.S.length ≤ 1048576) : Calls Try.prog 31 #[.pointer (some ⟨g, 0, none⟩)] w (SymPost g (rdS r).1 (rdS r).2 w) := by
  obtain ⟨nm, hnm⟩ : ∃ t, t = tx (text r).1 := ⟨_, rfl⟩
  obtain ⟨r1, hr1⟩ : ∃ t, t = (text r).2 := ⟨_, rfl⟩
  have Hnm : Hid (∀ W, RdAt W g r → Calls Try.prog 29 #[.pointer (some ⟨g, 0, none⟩)] W fun e w' => e = .returned (.string nm) ∧ RdAt w' g r1 ∧ W.grownBy w' (some g)) := Lib.hid (fun W hW => by rw [hnm, hr1]; exact dword_any W hW (by omega))
  have lr1 : r1.S.length ≤ 1048576 := by rw [hr1]; exact Nat.le_trans text_len lr
  obtain ⟨vb, hvb⟩ : ∃ t, t = (num r1 1).1 := ⟨_, rfl⟩
  obtain ⟨r2, hr2⟩ : ∃ t, t = (num r1 1).2 := ⟨_, rfl⟩
  have Hvb : Hid (∀ W, RdAt W g r1 → Calls Try.prog 30 #[.pointer (some ⟨g, 0, none⟩), .int .i64 1] W fun e w' => e = .returned (.int .u32 (vb : Nat)) ∧ RdAt w' g r2 ∧ W.grownBy w' (some g)) := Lib.hid (fun W hW => by rw [hvb, hr2]; exact done_any 1 W hW (by omega))
  have bvb : vb < 256 := by rw [hvb]; exact num1_lt r1
  have lr2 : r2.S.length ≤ 1048576 := by rw [hr2]; exact Nat.le_trans (num_len 1) lr1
  have ibvb : (vb : Int) < 256 := by omega
  obtain ⟨vk, hvk⟩ : ∃ t, t = (num r2 1).1 := ⟨_, rfl⟩
  obtain ⟨r3, hr3⟩ : ∃ t, t = (num r2 1).2 := ⟨_, rfl⟩
  have Hvk : Hid (∀ W, RdAt W g r2 → Calls Try.prog 30 #[.pointer (some ⟨g, 0, none⟩), .int .i64 1] W fun e w' => e = .returned (.int .u32 (vk : Nat)) ∧ RdAt w' g r3 ∧ W.grownBy w' (some g)) := Lib.hid (fun W hW => by rw [hvk, hr3]; exact done_any 1 W hW (by omega))
  have bvk : vk < 256 := by rw [hvk]; exact num1_lt r2
  have lr3 : r3.S.length ≤ 1048576 := by rw [hr3]; exact Nat.le_trans (num_len 1) lr2
  have ibvk : (vk : Int) < 256 := by omega
  obtain ⟨vz, hvz⟩ : ∃ t, t = (num r3 4).1 := ⟨_, rfl⟩
  obtain ⟨r4, hr4⟩ : ∃ t, t = (num r3 4).2 := ⟨_, rfl⟩
  have Hvz : Hid (∀ W, RdAt W g r3 → Calls Try.prog 30 #[.pointer (some ⟨g, 0, none⟩), .int .i64 4] W fun e w' => e = .returned (.int .u32 (vz : Nat)) ∧ RdAt w' g r4 ∧ W.grownBy w' (some g)) := Lib.hid (fun W hW => by rw [hvz, hr4]; exact done_any 4 W hW (by omega))
  have bvz : vz < 4294967296 := by rw [hvz]; exact num4_lt r3
  have lr4 : r4.S.length ≤ 1048576 := by rw [hr4]; exact Nat.le_trans (num_len 4) lr3
  have ibvz : (vz : Int) < 4294967296 := by omega
  obtain ⟨bys, hbys⟩ : ∃ t, t = tx (text r4).1 := ⟨_, rfl⟩
  obtain ⟨r5, hr5⟩ : ∃ t, t = (text r4).2 := ⟨_, rfl⟩
  have Hbys : Hid (∀ W, RdAt W g r4 → Calls Try.prog 29 #[.pointer (some ⟨g, 0, none⟩)] W fun e w' => e = .returned (.string bys) ∧ RdAt w' g r5 ∧ W.grownBy w' (some g)) := Lib.hid (fun W hW => by rw [hbys, hr5]; exact dword_any W hW (by omega))
  have lr5 : r5.S.length ≤ 1048576 := by rw [hr5]; exact Nat.le_trans text_len lr4
  obtain ⟨n, hn⟩ : ∃ t, t = (num r5 2).1 := ⟨_, rfl⟩
  obtain ⟨r6, hr6⟩ : ∃ t, t = (num r5 2).2 := ⟨_, rfl⟩
  have Hn : Hid (∀ W, RdAt W g r5 → Calls Try.prog 30 #[.pointer (some ⟨g, 0, none⟩), .int .i64 2] W fun e w' => e = .returned (.int .u32 (n : Nat)) ∧ RdAt w' g r6 ∧ W.grownBy w' (some g)) := Lib.hid (fun W hW => by rw [hn, hr6]; exact done_any 2 W hW (by omega))
  have bn : n < 65536 := by rw [hn]; exact num2_lt r5
  have lr6 : r6.S.length ≤ 1048576 := by rw [hr6]; exact Nat.le_trans (num_len 2) lr5
  have ibn : (n : Int) < 65536 := by omega
  obtain ⟨RS, hRS⟩ : ∃ t, t = (many rdR n r6).1 := ⟨_, rfl⟩
  obtain ⟨r7, hr7⟩ : ∃ t, t = (many rdR n r6).2 := ⟨_, rfl⟩
  have HM : Hid (many rdR n r6 = (RS, r7)) := Lib.hid (by rw [hRS, hr7])
  have lr7 : r7.S.length ≤ 1048576 := by rw [hr7]; exact Nat.le_trans (many_len rdR_len n r6) lr6
  obtain ⟨m, hm⟩ : ∃ t, t = (num r7 1).1 := ⟨_, rfl⟩
  obtain ⟨r8, hr8⟩ : ∃ t, t = (num r7 1).2 := ⟨_, rfl⟩
  have Hm : Hid (∀ W, RdAt W g r7 → Calls Try.prog 30 #[.pointer (some ⟨g, 0, none⟩), .int .i64 1] W fun e w' => e = .returned (.int .u32 (m : Nat)) ∧ RdAt w' g r8 ∧ W.grownBy w' (some g)) := Lib.hid (fun W hW => by rw [hm, hr8]; exact done_any 1 W hW (by omega))
  have bm : m < 256 := by rw [hm]; exact num1_lt r7
  have lr8 : r8.S.length ≤ 1048576 := by rw [hr8]; exact Nat.le_trans (num_len 1) lr7
  have ibm : (m : Int) < 256 := by omega
  obtain ⟨NS, hNS⟩ : ∃ t, t = (many rdN m r8).1 := ⟨_, rfl⟩
  obtain ⟨r9, hr9⟩ : ∃ t, t = (many rdN m r8).2 := ⟨_, rfl⟩
  have HM2 : Hid (many rdN m r8 = (NS, r9)) := Lib.hid (by rw [hNS, hr9])
  obtain ⟨S, hS⟩ : ∃ t, t = (rdS r).1 := ⟨_, rfl⟩
  have HS : Hid (S.name = by' nm ∧ S.bind = (vb : Int) ∧ S.kind = (vk : Int) ∧ S.size = (vz : Int) ∧ S.bytes = by' bys ∧ S.rels = RS ∧ S.notes = NS ∧ (rdS r).2 = r9) := Lib.hid (by
    rw [hS, hnm, hbys, by_tx, by_tx, hRS, hNS, hvb, hvk, hvz, hr9, hm, hr8, hr7, hn, hr6, hr5, hr4, hr3, hr2, hr1]
    exact ⟨rfl, rfl, rfl, rfl, rfl, rfl, rfl, rfl⟩)
  rw [← hS]
  have HRr := Lib.hid h
  have hgw : g < w.heap.size := Blk.lt h
  obtain ⟨iR, hiR, hzR, hsR, hbR⟩ := info_parts infoRel
  obtain ⟨iN, hiN, hzN, hsN, hbN⟩ := info_parts infoNote
  have HI := Lib.hid (And.intro (And.intro hiR (And.intro hzR (And.intro hsR hbR))) (And.intro hiN (And.intro hzN (And.intro hsN hbN))))
  clear hiR hzR hsR hbR hiN hzN hsN hbN h hnm hvb hvk hvz hbys hn hr1 hr2 hr3 hr4 hr5 hr6 hRS hr7 hm hr8 hNS hr9 hS
  have wb1 : IntKind.u8.wrap (vb : Int) = vb := u8_small bvb
  have wk1 : IntKind.u8.wrap (vk : Int) = vk := u8_small bvk
  go_enter Try.func31, Try.ntmps31
  go_upto_region 1 with (fail)
  have HZ := Lib.hid (Blk.new w 47 zeroS)
  have HR0 := Lib.hid (RdAt.below HRr.out (below_new1 w (.cells #[.string ⟨#[]⟩, .int .u8 0, .int .u8 0, .int .u32 0, .string ⟨#[]⟩, .slice none 0 0, .slice none 0 0] 47)))
  go_wp2_with fail
  refine (Hnm.out _ HR0.out).mono ?_; rintro e w1 ⟨rfl, hr, hg⟩
  have D2 : Hid (Ds w (w1.alloc (.cells #[.string nm, .int .u8 0, .int .u8 0, .int .u32 0, .string ⟨#[]⟩, .slice none 0 0, .slice none 0 0] 47)) g w.heap.size w1.heap.size r1 [.string nm, .int .u8 0, .int .u8 0, .int .u32 0, .string ⟨#[]⟩, .slice none 0 0, .slice none 0 0]) := Lib.hid (by
    have g1 : w.grownBy w1 (some g) := gb_trans (World.grownBy_alloc w _ (some g)) hg
    have hs : w.heap.size + 1 ≤ w1.heap.size := by have := hg.size; simpa using this
    exact ⟨Blk.alloc hr _, (HZ.out.grown hg (fun e => by cases e; omega)).alloc _, Blk.new w1 _ _, gb_trans g1 (World.grownBy_alloc w1 _ (some g)), hgw, Nat.le_refl _, by omega, by omega⟩)
  clear hr hg HR0 HZ Hnm
  obtain ⟨gs, hgs⟩ : ∃ t, t = w1.heap.size := ⟨_, rfl⟩
  go_upto_region 2 with (fail)
  obtain ⟨w2, hw⟩ : ∃ t, t = w1.alloc (.cells #[.string nm, .int .u8 0, .int .u8 0, .int .u32 0, .string ⟨#[]⟩, .slice none 0 0, .slice none 0 0] 47) := ⟨_, rfl⟩
  rw [← hw] at D2 ⊢
  rw [← hgs] at D2 ⊢
  clear hw hgs
  go_wp2_with fail
  refine (Hvb.out _ D2.out.rd).mono ?_; rintro e w3 ⟨rfl, hr, hg⟩
  have D3 := Lib.hid (D2.out.read hr hg)
  clear hr hg D2 Hvb
  have c5 : w3.cell? ⟨gs, 1, none⟩ = some (.int .u8 0) := D3.out.sym.cell 1
  have f5 : w3.frozen? ⟨gs, 1, none⟩ = false := D3.out.sym.frozen 1
  have z5 : gs < w3.heap.size := D3.out.sym.lt
  go_upto_region 3 with (fail)
  have D4 := Lib.hid (D3.out.set_ 1 (.int .u8 (vb : Int)))
  simp only [List.set_cons_zero, List.set_cons_succ] at D4
  obtain ⟨w4, hw⟩ : ∃ t, t = w3.setCell ⟨gs, 1, none⟩ (.int .u8 (vb : Int)) := ⟨_, rfl⟩
  rw [← hw] at D4 ⊢
  clear hw c5 f5 z5 D3
  go_wp2_with fail
  refine (Hvk.out _ D4.out.rd).mono ?_; rintro e w5 ⟨rfl, hr, hg⟩
  have D5 := Lib.hid (D4.out.read hr hg)
  clear hr hg D4 Hvk
  have c5 : w5.cell? ⟨gs, 2, none⟩ = some (.int .u8 0) := D5.out.sym.cell 2
  have f5 : w5.frozen? ⟨gs, 2, none⟩ = false := D5.out.sym.frozen 2
  have z5 : gs < w5.heap.size := D5.out.sym.lt
  go_upto_region 4 with (fail)
  have D6 := Lib.hid (D5.out.set_ 2 (.int .u8 (vk : Int)))
  simp only [List.set_cons_zero, List.set_cons_succ] at D6
  obtain ⟨w6, hw⟩ : ∃ t, t = w5.setCell ⟨gs, 2, none⟩ (.int .u8 (vk : Int)) := ⟨_, rfl⟩
  rw [← hw] at D6 ⊢
  clear hw c5 f5 z5 D5
  go_wp2_with fail
  refine (Hvz.out _ D6.out.rd).mono ?_; rintro e w7 ⟨rfl, hr, hg⟩
  have D7 := Lib.hid (D6.out.read hr hg)
  clear hr hg D6 Hvz
  have c5 : w7.cell? ⟨gs, 3, none⟩ = some (.int .u32 0) := D7.out.sym.cell 3
  have f5 : w7.frozen? ⟨gs, 3, none⟩ = false := D7.out.sym.frozen 3
  have z5 : gs < w7.heap.size := D7.out.sym.lt
  go_upto_region 5 with (fail)
  have D8 := Lib.hid (D7.out.set_ 3 (.int .u32 (vz : Int)))
  simp only [List.set_cons_zero, List.set_cons_succ] at D8
  obtain ⟨w8, hw⟩ : ∃ t, t = w7.setCell ⟨gs, 3, none⟩ (.int .u32 (vz : Int)) := ⟨_, rfl⟩
  rw [← hw] at D8 ⊢
  clear hw c5 f5 z5 D7
  go_wp2_with fail
  refine (Hbys.out _ D8.out.rd).mono ?_; rintro e w9 ⟨rfl, hr, hg⟩
  have D9 := Lib.hid (D8.out.read hr hg)
  clear hr hg D8 Hbys
  have c5 : w9.cell? ⟨gs, 4, none⟩ = some (.string ⟨#[]⟩) := D9.out.sym.cell 4
  have f5 : w9.frozen? ⟨gs, 4, none⟩ = false := D9.out.sym.frozen 4
  have z5 : gs < w9.heap.size := D9.out.sym.lt
  go_upto_region 6 with (fail)
  have D10 := Lib.hid (D9.out.set_ 4 (.string bys))
  simp only [List.set_cons_zero, List.set_cons_succ] at D10
  obtain ⟨w10, hw⟩ : ∃ t, t = w9.setCell ⟨gs, 4, none⟩ (.string bys) := ⟨_, rfl⟩
  rw [← hw] at D10 ⊢
  clear hw c5 f5 z5 D9
  go_wp2_with fail
  refine (Hn.out _ D10.out.rd).mono ?_; rintro e w11 ⟨rfl, hr, hg⟩
  have D11 := Lib.hid (D10.out.read hr hg)
  clear hr hg D10 Hn
  go_wp2_with fail
  clear wb1 wk1
  have D12 := D11
  clear D11
  go_loopw [5] (fun i wr => ∃ (j : Nat) (rj : Rd) (acc : List Rl) (v5 : Value), (j : Int) ≤ n ∧ i = .int .u32 (j : Int) ∧ Hid (acc.length = j) ∧ Hid (many rdR n r6 = (acc ++ (many rdR (n - j) rj).1, (many rdR (n - j) rj).2)) ∧ Hid (rj.S.length ≤ 1048576) ∧ Hid (Ds w wr g w.heap.size gs rj [.string nm, .int .u8 (vb : Int), .int .u8 (vk : Int), .int .u32 (vz : Int), .string bys, v5, .slice none 0 0]) ∧ Hid (OwnR wr w.heap.size v5 acc)) (fun i _ => n - (intOf i).toNat)
  case atStart => exact ⟨0, r6, [], .slice none 0 0, by omega, rfl, Lib.hid rfl, Lib.hid (by simp), Lib.hid lr6, D12, Lib.hid (World.ownsRow_nil _ _ _ _)⟩
  case round =>
    clear D12
    obtain ⟨j, rj, acc, v5, hj, rfl, HLa, HMa, HLj, DD, OO⟩ := hrel
    obtain ⟨a5, c5', hv5⟩ := row_slice OO.out
    subst hv5
    have lrj := HLj.out
    have e1 : wr.cell? ⟨g, 1, none⟩ = some (.int .i64 rj.E) := (RdAt.cells DD.out.rd).2.1
    by_cases hcont : j < n ∧ rj.E = 0
    · obtain ⟨hjn, hE⟩ := hcont
      rw [hE] at e1
      have hd : decide (j < n) = true := decide_eq_true hjn
      have hgl : g < wr.heap.size := Blk.lt DD.out.rd
      obtain ⟨y0, hy0⟩ : ∃ t, t = (num rj 4).1 := ⟨_, rfl⟩
      obtain ⟨q1, hq1⟩ : ∃ t, t = (num rj 4).2 := ⟨_, rfl⟩
      have Hy0 : Hid (∀ W, RdAt W g rj → Calls Try.prog 30 #[.pointer (some ⟨g, 0, none⟩), .int .i64 4] W fun e w' => e = .returned (.int .u32 (y0 : Nat)) ∧ RdAt w' g q1 ∧ W.grownBy w' (some g)) := Lib.hid (fun W hW => by rw [hy0, hq1]; exact done_any 4 W hW (by omega))
      have by0 : y0 < 4294967296 := by rw [hy0]; exact num4_lt rj
      have lq1 : q1.S.length ≤ 1048576 := by rw [hq1]; exact Nat.le_trans (num_len 4) lrj
      have iby0 : (y0 : Int) < 4294967296 := by omega
      obtain ⟨y1, hy1⟩ : ∃ t, t = (num q1 1).1 := ⟨_, rfl⟩
      obtain ⟨q2, hq2⟩ : ∃ t, t = (num q1 1).2 := ⟨_, rfl⟩
      have Hy1 : Hid (∀ W, RdAt W g q1 → Calls Try.prog 30 #[.pointer (some ⟨g, 0, none⟩), .int .i64 1] W fun e w' => e = .returned (.int .u32 (y1 : Nat)) ∧ RdAt w' g q2 ∧ W.grownBy w' (some g)) := Lib.hid (fun W hW => by rw [hy1, hq2]; exact done_any 1 W hW (by omega))
      have by1 : y1 < 256 := by rw [hy1]; exact num1_lt q1
      have lq2 : q2.S.length ≤ 1048576 := by rw [hq2]; exact Nat.le_trans (num_len 1) lq1
      have iby1 : (y1 : Int) < 256 := by omega
      obtain ⟨y2, hy2⟩ : ∃ t, t = tx (text q2).1 := ⟨_, rfl⟩
      obtain ⟨q3, hq3⟩ : ∃ t, t = (text q2).2 := ⟨_, rfl⟩
      have Hy2 : Hid (∀ W, RdAt W g q2 → Calls Try.prog 29 #[.pointer (some ⟨g, 0, none⟩)] W fun e w' => e = .returned (.string y2) ∧ RdAt w' g q3 ∧ W.grownBy w' (some g)) := Lib.hid (fun W hW => by rw [hy2, hq3]; exact dword_any W hW (by omega))
      have lq3 : q3.S.length ≤ 1048576 := by rw [hq3]; exact Nat.le_trans text_len lq2
      obtain ⟨y3, hy3⟩ : ∃ t, t = (num q3 4).1 := ⟨_, rfl⟩
      obtain ⟨q4, hq4⟩ : ∃ t, t = (num q3 4).2 := ⟨_, rfl⟩
      have Hy3 : Hid (∀ W, RdAt W g q3 → Calls Try.prog 30 #[.pointer (some ⟨g, 0, none⟩), .int .i64 4] W fun e w' => e = .returned (.int .u32 (y3 : Nat)) ∧ RdAt w' g q4 ∧ W.grownBy w' (some g)) := Lib.hid (fun W hW => by rw [hy3, hq4]; exact done_any 4 W hW (by omega))
      have by3 : y3 < 4294967296 := by rw [hy3]; exact num4_lt q3
      have lq4 : q4.S.length ≤ 1048576 := by rw [hq4]; exact Nat.le_trans (num_len 4) lq3
      have iby3 : (y3 : Int) < 4294967296 := by omega
      have hx : rdR rj = (⟨(y0 : Int), (y1 : Int), by' y2, (y3 : Int)⟩, q4) := by
        rw [hy2, hy3, hq4, hq3, hy1, hq2, hy0, hq1, by_tx]
        rfl
      have HN2 : Hid (many rdR n r6 = ((acc ++ [⟨(y0 : Int), (y1 : Int), by' y2, (y3 : Int)⟩]) ++ (many rdR (n - (j + 1)) q4).1, (many rdR (n - (j + 1)) q4).2)) := Lib.hid (by
        have e := many_step (f := rdR) (n := n - (j + 1)) hE
        rw [show n - (j + 1) + 1 = n - j by omega, hx] at e
        rw [HMa.out, e]
        simp)
      have HAc : Hid ((acc ++ [(⟨(y0 : Int), (y1 : Int), by' y2, (y3 : Int)⟩ : Rl)]).length = j + 1) := Lib.hid (by rw [List.length_append, HLa.out]; rfl)
      have wy1 : IntKind.u8.wrap (y1 : Int) = y1 := u8_small by1
      have HL4 := Lib.hid lq4
      clear hx hy0 hy1 hy2 hy3 hq1 hq2 hq3 hq4 hE HMa
      go_wp2_with fail
      refine (Hy0.out _ DD.out.rd).mono ?_; rintro e w3 ⟨rfl, hr, hg⟩
      have D2 := Lib.hid (DD.out.read hr hg)
      have O2 : Hid (OwnR w3 w.heap.size (.slice a5 acc.length c5') acc) := Lib.hid (DD.out.row hg OO.out)
      clear hr hg DD OO Hy0 e1 hgl
      obtain ⟨gr, hgr⟩ : ∃ t, t = w3.heap.size := ⟨_, rfl⟩
      have HGR : Hid (w.heap.size ≤ gr ∧ gr ≠ w.heap.size ∧ gr ≠ gs ∧ gr ≠ g ∧ (Value.slice a5 acc.length c5').ownBlock ≠ some gr) := Lib.hid ⟨by rw [hgr]; exact Nat.le_of_lt (Nat.lt_of_le_of_lt D2.out.hs D2.out.sym.lt), by have := D2.out.res.lt; omega, by have := D2.out.sym.lt; omega, by have := Blk.lt D2.out.rd; omega, fun he => by have := (World.ownsRow.lt O2.out _ he).2; omega⟩
      have D3 := Lib.hid (D2.out.alloc (.cells #[.int .u32 (y0 : Int), .int .u8 0, .string ⟨#[]⟩, .int .u32 0] 49))
      have O3 : Hid (OwnR (w3.alloc (.cells #[.int .u32 (y0 : Int), .int .u8 0, .string ⟨#[]⟩, .int .u32 0] 49)) w.heap.size (.slice a5 acc.length c5') acc) := Lib.hid (World.ownsRow.alloc O2.out _)
      have B3 := Lib.hid (Blk.new w3 49 [.int .u32 (y0 : Int), .int .u8 0, .string ⟨#[]⟩, .int .u32 0])
      go_upto_region 11 with (fail)
      obtain ⟨w4, hw⟩ : ∃ t, t = w3.alloc (.cells #[.int .u32 (y0 : Int), .int .u8 0, .string ⟨#[]⟩, .int .u32 0] 49) := ⟨_, rfl⟩
      rw [← hw] at D3 O3 B3 ⊢
      rw [← hgr] at B3 ⊢
      clear hw hgr D2 O2
      go_wp2_with fail
      refine (Hy1.out _ D3.out.rd).mono ?_; rintro e w5 ⟨rfl, hr, hg⟩
      have D5 := Lib.hid (D3.out.read hr hg)
      have O5 : Hid (OwnR w5 w.heap.size (.slice a5 acc.length c5') acc) := Lib.hid (D3.out.row hg O3.out)
      have B5 := Lib.hid (B3.out.grown hg (fun e => HGR.out.2.2.2.1 (by cases e; rfl)))
      clear hr hg D3 O3 B3 Hy1
      have s5 : w5.cell? ⟨gr, 1, none⟩ = some (.int .u8 0) := B5.out.cell 1
      have f5 : w5.frozen? ⟨gr, 1, none⟩ = false := B5.out.frozen 1
      have z5 : gr < w5.heap.size := B5.out.lt
      go_upto_region 12 with (fail)
      have D6 := Lib.hid (D5.out.other (grown_set w5 gr 1 (.int .u8 (y1 : Int))) (fun k hk => by cases hk; exact ⟨HGR.out.1, HGR.out.2.1, HGR.out.2.2.1⟩))
      have O6 : Hid (OwnR (w5.setCell ⟨gr, 1, none⟩ (.int .u8 (y1 : Int))) w.heap.size (.slice a5 acc.length c5') acc) := Lib.hid (World.ownsRow.kept O5.out (grown_set w5 gr 1 (.int .u8 (y1 : Int))) (.inr HGR.out.2.2.2.2))
      have B6 := Lib.hid (B5.out.set_ 1 (.int .u8 (y1 : Int)))
      simp only [List.set_cons_zero, List.set_cons_succ] at B6
      obtain ⟨w6, hw⟩ : ∃ t, t = w5.setCell ⟨gr, 1, none⟩ (.int .u8 (y1 : Int)) := ⟨_, rfl⟩
      rw [← hw] at D6 O6 B6 ⊢
      clear hw s5 f5 z5 D5 O5 B5
      go_wp2_with fail
      refine (Hy2.out _ D6.out.rd).mono ?_; rintro e w7 ⟨rfl, hr, hg⟩
      have D7 := Lib.hid (D6.out.read hr hg)
      have O7 : Hid (OwnR w7 w.heap.size (.slice a5 acc.length c5') acc) := Lib.hid (D6.out.row hg O6.out)
      have B7 := Lib.hid (B6.out.grown hg (fun e => HGR.out.2.2.2.1 (by cases e; rfl)))
      clear hr hg D6 O6 B6 Hy2
      have s5 : w7.cell? ⟨gr, 2, none⟩ = some (.string ⟨#[]⟩) := B7.out.cell 2
      have f5 : w7.frozen? ⟨gr, 2, none⟩ = false := B7.out.frozen 2
      have z5 : gr < w7.heap.size := B7.out.lt
      go_upto_region 13 with (fail)
      have D8 := Lib.hid (D7.out.other (grown_set w7 gr 2 (.string y2)) (fun k hk => by cases hk; exact ⟨HGR.out.1, HGR.out.2.1, HGR.out.2.2.1⟩))
      have O8 : Hid (OwnR (w7.setCell ⟨gr, 2, none⟩ (.string y2)) w.heap.size (.slice a5 acc.length c5') acc) := Lib.hid (World.ownsRow.kept O7.out (grown_set w7 gr 2 (.string y2)) (.inr HGR.out.2.2.2.2))
      have B8 := Lib.hid (B7.out.set_ 2 (.string y2))
      simp only [List.set_cons_zero, List.set_cons_succ] at B8
      obtain ⟨w8, hw⟩ : ∃ t, t = w7.setCell ⟨gr, 2, none⟩ (.string y2) := ⟨_, rfl⟩
      rw [← hw] at D8 O8 B8 ⊢
      clear hw s5 f5 z5 D7 O7 B7
      go_wp2_with fail
      refine (Hy3.out _ D8.out.rd).mono ?_; rintro e w9 ⟨rfl, hr, hg⟩
      have D9 := Lib.hid (D8.out.read hr hg)
      have O9 : Hid (OwnR w9 w.heap.size (.slice a5 acc.length c5') acc) := Lib.hid (D8.out.row hg O8.out)
      have B9 := Lib.hid (B8.out.grown hg (fun e => HGR.out.2.2.2.1 (by cases e; rfl)))
      clear hr hg D8 O8 B8 Hy3
      have s5 : w9.cell? ⟨gr, 3, none⟩ = some (.int .u32 0) := B9.out.cell 3
      have f5 : w9.frozen? ⟨gr, 3, none⟩ = false := B9.out.frozen 3
      have z5 : gr < w9.heap.size := B9.out.lt
      go_upto_region 14 with (fail)
      have D10 := Lib.hid (D9.out.other (grown_set w9 gr 3 (.int .u32 (y3 : Int))) (fun k hk => by cases hk; exact ⟨HGR.out.1, HGR.out.2.1, HGR.out.2.2.1⟩))
      have O10 : Hid (OwnR (w9.setCell ⟨gr, 3, none⟩ (.int .u32 (y3 : Int))) w.heap.size (.slice a5 acc.length c5') acc) := Lib.hid (World.ownsRow.kept O9.out (grown_set w9 gr 3 (.int .u32 (y3 : Int))) (.inr HGR.out.2.2.2.2))
      have B10 := Lib.hid (B9.out.set_ 3 (.int .u32 (y3 : Int)))
      simp only [List.set_cons_zero, List.set_cons_succ] at B10
      obtain ⟨w10, hw⟩ : ∃ t, t = w9.setCell ⟨gr, 3, none⟩ (.int .u32 (y3 : Int)) := ⟨_, rfl⟩
      rw [← hw] at D10 O10 B10 ⊢
      clear hw s5 f5 z5 D9 O9 B9
      have r0 : w10.cell? ⟨gr, 0, none⟩ = some (.int .u32 (y0 : Int)) := B10.out.cell 0
      have r1' : w10.cell? ⟨gr, 1, none⟩ = some (.int .u8 (y1 : Int)) := B10.out.cell 1
      have r2' : w10.cell? ⟨gr, 2, none⟩ = some (.string y2) := B10.out.cell 2
      have r3' : w10.cell? ⟨gr, 3, none⟩ = some (.int .u32 (y3 : Int)) := B10.out.cell 3
      have s5 : w10.cell? ⟨gs, 5, none⟩ = some (.slice a5 acc.length c5') := D10.out.sym.cell 5
      have HK : Hid (acc.length + 1 ≤ maxLen ∧ (acc.length + 1) * 32 ≤ 140737488355328) := Lib.hid (by rw [HLa.out]; unfold maxLen; omega)
      have HBx : Hid (w.heap.size ≤ (w10.alloc (.cells #[.int .u32 (y0 : Int), .int .u8 (y1 : Int), .string y2, .int .u32 (y3 : Int)] 49)).heap.size) := Lib.hid (by have := D10.out.low.size; simp; omega)
      have HNw : Hid (∀ j u, [Value.int .u32 (y0 : Int), .int .u8 (y1 : Int), .string y2, .int .u32 (y3 : Int)][j]? = some u → (w10.alloc (.cells #[.int .u32 (y0 : Int), .int .u8 (y1 : Int), .string y2, .int .u32 (y3 : Int)] 49)).cell? ((⟨w10.heap.size, 0, none⟩ : Addr).add j) = some u) := Lib.hid (World.news_of_block (cs := #[.int .u32 (y0 : Int), .int .u8 (y1 : Int), .string y2, .int .u32 (y3 : Int)]) (t := 49) (fr := (0, 0)) (heap_alloc_new w10 _))
      have HOn : Hid (∀ u ∈ [Value.int .u32 (y0 : Int), .int .u8 (y1 : Int), .string y2, .int .u32 (y3 : Int)], u.oneCell' = true) := Lib.hid (by intro u hu; simp only [List.mem_cons, List.not_mem_nil, or_false] at hu; rcases hu with rfl | rfl | rfl | rfl <;> rfl)
      go_wp2_with (at_builtin; (refine wpList_append_own _ rfl _ _ 44 rfl w.heap.size 49 iR _ 4 32 Try.underlying44 HI.out.1.1 HI.out.1.2.1 HI.out.1.2.2.1 HI.out.1.2.2.2 rfl (by decide) _ _ _ rfl (World.ownsRow.alloc O10.out _) ⟨w10.heap.size, 0, none⟩ 1 1 [.int .u32 (y0 : Int), .int .u8 (y1 : Int), .string y2, .int .u32 (y3 : Int)] rfl rfl HNw.out HOn.out HK.out.1 HK.out.2 HBx.out ?_))
      intro v6 w11 h6 h7 _
      have hcat : flat (fun j => rlCells (acc.getD j Rl.nought)) acc.length ++ [.int .u32 (y0 : Int), .int .u8 (y1 : Int), .string y2, .int .u32 (y3 : Int)] = flat (fun j => rlCells ((acc ++ [(⟨(y0 : Int), (y1 : Int), by' y2, (y3 : Int)⟩ : Rl)]).getD j Rl.nought)) (acc ++ [(⟨(y0 : Int), (y1 : Int), by' y2, (y3 : Int)⟩ : Rl)]).length := by
        rw [List.length_append, List.length_singleton, flat]
        congr 1
        · exact flat_congr _ (fun j hj => by rw [List.getD_eq_getElem?_getD, List.getD_eq_getElem?_getD, List.getElem?_append_left hj])
        · simp [rlCells, tx_by]
      have D11 : Hid (Ds w w11 g w.heap.size gs q4 _) := Lib.hid ((D10.out.alloc _).other h7 (fun k hk => ⟨(World.ownsRow.lt O10.out k hk).1, fun e => row_block D10.out.res O10.out (by decide) (by rw [hk, e]), fun e => row_block D10.out.sym O10.out (by decide) (by rw [hk, e])⟩))
      have O11 : Hid (OwnR w11 w.heap.size v6 (acc ++ [(⟨(y0 : Int), (y1 : Int), by' y2, (y3 : Int)⟩ : Rl)])) := Lib.hid (by
        unfold OwnR
        rw [← hcat, List.length_append]
        exact h6)
      obtain ⟨a6, c6, hv6⟩ := row_slice O11.out
      clear h6 h7 hcat r0 r1' r2' r3' s5 HK HBx HNw HOn D10 O10 B10 HGR
      subst hv6
      have s5 : w11.cell? ⟨gs, 5, none⟩ = some (.slice a5 acc.length c5') := D11.out.sym.cell 5
      have f5 : w11.frozen? ⟨gs, 5, none⟩ = false := D11.out.sym.frozen 5
      have z5 : gs < w11.heap.size := D11.out.sym.lt
      go_wp2_with fail
      have D13 := Lib.hid (D11.out.set_ 5 (.slice a6 (acc ++ [(⟨(y0 : Int), (y1 : Int), by' y2, (y3 : Int)⟩ : Rl)]).length c6))
      simp only [List.set_cons_zero, List.set_cons_succ] at D13
      have O13 : Hid (OwnR (w11.setCell ⟨gs, 5, none⟩ (.slice a6 (acc ++ [(⟨(y0 : Int), (y1 : Int), by' y2, (y3 : Int)⟩ : Rl)]).length c6)) w.heap.size (.slice a6 (acc ++ [(⟨(y0 : Int), (y1 : Int), by' y2, (y3 : Int)⟩ : Rl)]).length c6) (acc ++ [(⟨(y0 : Int), (y1 : Int), by' y2, (y3 : Int)⟩ : Rl)])) := Lib.hid (World.ownsRow.kept O11.out (grown_set w11 gs 5 _) (.inr (row_block D11.out.sym O11.out (by decide))))
      clear s5 f5 z5 D11 O11
      go_roundw
      case rel => simp only [List.length_append, List.length_singleton] at D13 O13 ⊢; exact ⟨j + 1, q4, acc ++ [(⟨(y0 : Int), (y1 : Int), by' y2, (y3 : Int)⟩ : Rl)], .slice a6 (acc.length + 1) c6, by omega, by go_num, Lib.hid (by rw [List.length_append, HLa.out]; rfl), HN2, HL4, D13, O13⟩
      case measure => simp [intOf]; omega
    · obtain ⟨rfl, rfl⟩ : RS = acc ∧ r7 = rj := by
        have e := HMa.out
        rw [HM.out] at e
        have e2 : many rdR (n - j) rj = ([], rj) := by
          by_cases hE : rj.E = 0
          · rw [show n - j = 0 by omega]; rfl
          · exact many_stuck hE _
        rw [e2] at e
        simp only [List.append_nil, Prod.mk.injEq] at e
        exact e
      have hgl : g < wr.heap.size := Blk.lt DD.out.rd
      obtain ⟨z, hz⟩ : ∃ z, z = r7.E := ⟨_, rfl⟩
      rw [← hz] at e1
      clear HMa
      by_cases hjn : j < n
      case' pos =>
        have hd : decide (j < n) = true := decide_eq_true hjn
        have hd2 : (z == 0) = false := beq_eq_false_iff_ne.2 (fun h => hcont ⟨hjn, by rw [← hz]; exact h⟩)
      case' neg =>
        have hd : decide (j < n) = false := decide_eq_false hjn
      all_goals (
        clear hz hcont
        go_wp2_with fail
        refine (Hm.out _ DD.out.rd).mono ?_; rintro e w12 ⟨rfl, hr, hg⟩
        have E1 := Lib.hid (DD.out.read hr hg)
        have F1 : Hid (OwnR w12 w.heap.size (Value.slice a5 RS.length c5') RS) := Lib.hid (DD.out.row hg OO.out)
        clear hr hg DD OO Hm
        try clear e1 hd hd2 z
        clear hd hjn hgl
        go_wp2_with fail
        obtain ⟨wo, rfl⟩ : ∃ wo, wo = wr := ⟨_, rfl⟩
        go_loopw [7] (fun i wr => ∃ (k : Nat) (rk : Rd) (bcc : List Nt) (v6 : Value), (k : Int) ≤ m ∧ i = .int .u32 (k : Int) ∧ Hid (bcc.length = k) ∧ Hid (many rdN m r8 = (bcc ++ (many rdN (m - k) rk).1, (many rdN (m - k) rk).2)) ∧ Hid (rk.S.length ≤ 1048576) ∧ Hid (Ds w wr g w.heap.size gs rk [.string nm, .int .u8 (vb : Int), .int .u8 (vk : Int), .int .u32 (vz : Int), .string bys, (Value.slice a5 RS.length c5'), v6]) ∧ Hid (OwnR wr w.heap.size (Value.slice a5 RS.length c5') RS) ∧ Hid (OwnN wr w.heap.size v6 bcc)) (fun i _ => m - (intOf i).toNat)
        case atStart => exact ⟨0, r8, [], .slice none 0 0, by omega, rfl, Lib.hid rfl, Lib.hid (by simp), Lib.hid lr8, E1, F1, Lib.hid (World.ownsRow_nil _ _ _ _)⟩
        case round =>
          clear E1 F1
          obtain ⟨k, rk, bcc, v6, hk, rfl, HLb, HMb, HLk, DD, OO, PP⟩ := hrel
          obtain ⟨a6, c6', hv6⟩ := row_slice PP.out
          subst hv6
          have lrk := HLk.out
          have e1 : wr.cell? ⟨g, 1, none⟩ = some (.int .i64 rk.E) := (RdAt.cells DD.out.rd).2.1
          by_cases hcont : k < m ∧ rk.E = 0
          · obtain ⟨hkm, hE⟩ := hcont
            rw [hE] at e1
            have hd : decide (k < m) = true := decide_eq_true hkm
            have hgl : g < wr.heap.size := Blk.lt DD.out.rd
            obtain ⟨y0, hy0⟩ : ∃ t, t = (num rk 1).1 := ⟨_, rfl⟩
            obtain ⟨q1, hq1⟩ : ∃ t, t = (num rk 1).2 := ⟨_, rfl⟩
            have Hy0 : Hid (∀ W, RdAt W g rk → Calls Try.prog 30 #[.pointer (some ⟨g, 0, none⟩), .int .i64 1] W fun e w' => e = .returned (.int .u32 (y0 : Nat)) ∧ RdAt w' g q1 ∧ W.grownBy w' (some g)) := Lib.hid (fun W hW => by rw [hy0, hq1]; exact done_any 1 W hW (by omega))
            have by0 : y0 < 256 := by rw [hy0]; exact num1_lt rk
            have lq1 : q1.S.length ≤ 1048576 := by rw [hq1]; exact Nat.le_trans (num_len 1) lrk
            have iby0 : (y0 : Int) < 256 := by omega
            obtain ⟨y1, hy1⟩ : ∃ t, t = (num q1 4).1 := ⟨_, rfl⟩
            obtain ⟨q2, hq2⟩ : ∃ t, t = (num q1 4).2 := ⟨_, rfl⟩
            have Hy1 : Hid (∀ W, RdAt W g q1 → Calls Try.prog 30 #[.pointer (some ⟨g, 0, none⟩), .int .i64 4] W fun e w' => e = .returned (.int .u32 (y1 : Nat)) ∧ RdAt w' g q2 ∧ W.grownBy w' (some g)) := Lib.hid (fun W hW => by rw [hy1, hq2]; exact done_any 4 W hW (by omega))
            have by1 : y1 < 4294967296 := by rw [hy1]; exact num4_lt q1
            have lq2 : q2.S.length ≤ 1048576 := by rw [hq2]; exact Nat.le_trans (num_len 4) lq1
            have iby1 : (y1 : Int) < 4294967296 := by omega
            obtain ⟨y2, hy2⟩ : ∃ t, t = (num q2 4).1 := ⟨_, rfl⟩
            obtain ⟨q3, hq3⟩ : ∃ t, t = (num q2 4).2 := ⟨_, rfl⟩
            have Hy2 : Hid (∀ W, RdAt W g q2 → Calls Try.prog 30 #[.pointer (some ⟨g, 0, none⟩), .int .i64 4] W fun e w' => e = .returned (.int .u32 (y2 : Nat)) ∧ RdAt w' g q3 ∧ W.grownBy w' (some g)) := Lib.hid (fun W hW => by rw [hy2, hq3]; exact done_any 4 W hW (by omega))
            have by2 : y2 < 4294967296 := by rw [hy2]; exact num4_lt q2
            have lq3 : q3.S.length ≤ 1048576 := by rw [hq3]; exact Nat.le_trans (num_len 4) lq2
            have iby2 : (y2 : Int) < 4294967296 := by omega
            have hx : rdN rk = ((⟨(y0 : Int), (y1 : Int), (y2 : Int)⟩ : Nt), q3) := by
              rw [hy2, hq3, hy1, hq2, hy0, hq1]
              rfl
            have HN2 : Hid (many rdN m r8 = ((bcc ++ [(⟨(y0 : Int), (y1 : Int), (y2 : Int)⟩ : Nt)]) ++ (many rdN (m - (k + 1)) q3).1, (many rdN (m - (k + 1)) q3).2)) := Lib.hid (by
              have e := many_step (f := rdN) (n := m - (k + 1)) hE
              rw [show m - (k + 1) + 1 = m - k by omega, hx] at e
              rw [HMb.out, e]
              simp)
            have HAc : Hid ((bcc ++ [(⟨(y0 : Int), (y1 : Int), (y2 : Int)⟩ : Nt)]).length = k + 1) := Lib.hid (by rw [List.length_append, HLb.out]; rfl)
            have wy0 : IntKind.u8.wrap (y0 : Int) = y0 := u8_small by0
            have HL3 := Lib.hid lq3
            have G0 := DD
            have P0 := OO
            have Q0 := PP
            clear hx hy0 hy1 hy2 hq1 hq2 hq3 hE HMb DD OO PP
            go_wp2_with fail
            refine (Hy0.out _ G0.out.rd).mono ?_; rintro e w20 ⟨rfl, hr, hg⟩
            have G1 := Lib.hid (G0.out.read hr hg)
            have P1 : Hid (OwnR w20 w.heap.size (Value.slice a5 RS.length c5') RS) := Lib.hid (G0.out.row hg P0.out)
            have Q1 : Hid (OwnN w20 w.heap.size (Value.slice a6 bcc.length c6') bcc) := Lib.hid (G0.out.row hg Q0.out)
            clear hr hg G0 P0 Q0 Hy0
            clear e1 hgl
            obtain ⟨gr, hgr⟩ : ∃ t, t = w20.heap.size := ⟨_, rfl⟩
            have HGR : Hid (w.heap.size ≤ gr ∧ gr ≠ w.heap.size ∧ gr ≠ gs ∧ gr ≠ g ∧ (Value.slice a5 RS.length c5').ownBlock ≠ some gr ∧ (Value.slice a6 bcc.length c6').ownBlock ≠ some gr) := Lib.hid ⟨by rw [hgr]; exact Nat.le_of_lt (Nat.lt_of_le_of_lt G1.out.hs G1.out.sym.lt), by have := G1.out.res.lt; omega, by have := G1.out.sym.lt; omega, by have := Blk.lt G1.out.rd; omega, fun he => by have := (World.ownsRow.lt P1.out _ he).2; omega, fun he => by have := (World.ownsRow.lt Q1.out _ he).2; omega⟩
            have G2 := Lib.hid (G1.out.alloc (.cells #[.int .u8 (y0 : Int), .int .u32 0, .int .u32 0] 65))
            have P2 : Hid (OwnR (w20.alloc (.cells #[.int .u8 (y0 : Int), .int .u32 0, .int .u32 0] 65)) w.heap.size (Value.slice a5 RS.length c5') RS) := Lib.hid (World.ownsRow.alloc P1.out _)
            have Q2 : Hid (OwnN (w20.alloc (.cells #[.int .u8 (y0 : Int), .int .u32 0, .int .u32 0] 65)) w.heap.size (Value.slice a6 bcc.length c6') bcc) := Lib.hid (World.ownsRow.alloc Q1.out _)
            have B2 := Lib.hid (Blk.new w20 65 [.int .u8 (y0 : Int), .int .u32 0, .int .u32 0])
            go_upto_region 20 with (fail)
            obtain ⟨w21, hw⟩ : ∃ t, t = w20.alloc (.cells #[.int .u8 (y0 : Int), .int .u32 0, .int .u32 0] 65) := ⟨_, rfl⟩
            rw [← hw] at G2 P2 Q2 B2 ⊢
            rw [← hgr] at B2 ⊢
            clear hw hgr G1 P1 Q1
            go_wp2_with fail
            refine (Hy1.out _ G2.out.rd).mono ?_; rintro e w22 ⟨rfl, hr, hg⟩
            have G3 := Lib.hid (G2.out.read hr hg)
            have P3 : Hid (OwnR w22 w.heap.size (Value.slice a5 RS.length c5') RS) := Lib.hid (G2.out.row hg P2.out)
            have Q3 : Hid (OwnN w22 w.heap.size (Value.slice a6 bcc.length c6') bcc) := Lib.hid (G2.out.row hg Q2.out)
            have B3 := Lib.hid (B2.out.grown hg (fun e => HGR.out.2.2.2.1 (by cases e; rfl)))
            clear B2
            clear hr hg G2 P2 Q2 Hy1
            have s5 : w22.cell? ⟨gr, 1, none⟩ = some (.int .u32 0) := B3.out.cell 1
            have f5 : w22.frozen? ⟨gr, 1, none⟩ = false := B3.out.frozen 1
            have z5 : gr < w22.heap.size := B3.out.lt
            go_upto_region 21 with (fail)
            have G4 := Lib.hid (G3.out.other (grown_set w22 gr 1 (.int .u32 (y1 : Int))) (fun k hk => by cases hk; exact ⟨HGR.out.1, HGR.out.2.1, HGR.out.2.2.1⟩))
            have P4 : Hid (OwnR (w22.setCell ⟨gr, 1, none⟩ (.int .u32 (y1 : Int))) w.heap.size (Value.slice a5 RS.length c5') RS) := Lib.hid (World.ownsRow.kept P3.out (grown_set w22 gr 1 (.int .u32 (y1 : Int))) (.inr HGR.out.2.2.2.2.1))
            have Q4 : Hid (OwnN (w22.setCell ⟨gr, 1, none⟩ (.int .u32 (y1 : Int))) w.heap.size (Value.slice a6 bcc.length c6') bcc) := Lib.hid (World.ownsRow.kept Q3.out (grown_set w22 gr 1 (.int .u32 (y1 : Int))) (.inr HGR.out.2.2.2.2.2))
            have B4 := Lib.hid (B3.out.set_ 1 (.int .u32 (y1 : Int)))
            simp only [List.set_cons_zero, List.set_cons_succ] at B4
            obtain ⟨w23, hw⟩ : ∃ t, t = w22.setCell ⟨gr, 1, none⟩ (.int .u32 (y1 : Int)) := ⟨_, rfl⟩
            rw [← hw] at G4 P4 Q4 B4 ⊢
            clear hw s5 f5 z5 G3 P3 Q3 B3
            go_wp2_with fail
            refine (Hy2.out _ G4.out.rd).mono ?_; rintro e w24 ⟨rfl, hr, hg⟩
            have G5 := Lib.hid (G4.out.read hr hg)
            have P5 : Hid (OwnR w24 w.heap.size (Value.slice a5 RS.length c5') RS) := Lib.hid (G4.out.row hg P4.out)
            have Q5 : Hid (OwnN w24 w.heap.size (Value.slice a6 bcc.length c6') bcc) := Lib.hid (G4.out.row hg Q4.out)
            have B5 := Lib.hid (B4.out.grown hg (fun e => HGR.out.2.2.2.1 (by cases e; rfl)))
            clear B4
            clear hr hg G4 P4 Q4 Hy2
            have s5 : w24.cell? ⟨gr, 2, none⟩ = some (.int .u32 0) := B5.out.cell 2
            have f5 : w24.frozen? ⟨gr, 2, none⟩ = false := B5.out.frozen 2
            have z5 : gr < w24.heap.size := B5.out.lt
            go_upto_region 22 with (fail)
            have G6 := Lib.hid (G5.out.other (grown_set w24 gr 2 (.int .u32 (y2 : Int))) (fun k hk => by cases hk; exact ⟨HGR.out.1, HGR.out.2.1, HGR.out.2.2.1⟩))
            have P6 : Hid (OwnR (w24.setCell ⟨gr, 2, none⟩ (.int .u32 (y2 : Int))) w.heap.size (Value.slice a5 RS.length c5') RS) := Lib.hid (World.ownsRow.kept P5.out (grown_set w24 gr 2 (.int .u32 (y2 : Int))) (.inr HGR.out.2.2.2.2.1))
            have Q6 : Hid (OwnN (w24.setCell ⟨gr, 2, none⟩ (.int .u32 (y2 : Int))) w.heap.size (Value.slice a6 bcc.length c6') bcc) := Lib.hid (World.ownsRow.kept Q5.out (grown_set w24 gr 2 (.int .u32 (y2 : Int))) (.inr HGR.out.2.2.2.2.2))
            have B6 := Lib.hid (B5.out.set_ 2 (.int .u32 (y2 : Int)))
            simp only [List.set_cons_zero, List.set_cons_succ] at B6
            obtain ⟨w25, hw⟩ : ∃ t, t = w24.setCell ⟨gr, 2, none⟩ (.int .u32 (y2 : Int)) := ⟨_, rfl⟩
            rw [← hw] at G6 P6 Q6 B6 ⊢
            clear hw s5 f5 z5 G5 P5 Q5 B5
            have r0 : w25.cell? ⟨gr, 0, none⟩ = some (.int .u8 (y0 : Int)) := B6.out.cell 0
            have r1' : w25.cell? ⟨gr, 1, none⟩ = some (.int .u32 (y1 : Int)) := B6.out.cell 1
            have r2' : w25.cell? ⟨gr, 2, none⟩ = some (.int .u32 (y2 : Int)) := B6.out.cell 2
            have s5 : w25.cell? ⟨gs, 6, none⟩ = some (Value.slice a6 bcc.length c6') := G6.out.sym.cell 6
            have HK : Hid (bcc.length + 1 ≤ maxLen ∧ (bcc.length + 1) * 12 ≤ 140737488355328) := Lib.hid (by rw [HLb.out]; unfold maxLen; omega)
            have HBx : Hid (w.heap.size ≤ (w25.alloc (.cells #[.int .u8 (y0 : Int), .int .u32 (y1 : Int), .int .u32 (y2 : Int)] 65)).heap.size) := Lib.hid (by have := G6.out.low.size; simp; omega)
            have HNw : Hid (∀ j u, [Value.int .u8 (y0 : Int), .int .u32 (y1 : Int), .int .u32 (y2 : Int)][j]? = some u → (w25.alloc (.cells #[.int .u8 (y0 : Int), .int .u32 (y1 : Int), .int .u32 (y2 : Int)] 65)).cell? ((⟨w25.heap.size, 0, none⟩ : Addr).add j) = some u) := Lib.hid (World.news_of_block (cs := #[.int .u8 (y0 : Int), .int .u32 (y1 : Int), .int .u32 (y2 : Int)]) (t := 65) (fr := (0, 0)) (heap_alloc_new w25 _))
            have HOn : Hid (∀ u ∈ [Value.int .u8 (y0 : Int), .int .u32 (y1 : Int), .int .u32 (y2 : Int)], u.oneCell' = true) := Lib.hid (by intro u hu; simp only [List.mem_cons, List.not_mem_nil, or_false] at hu; rcases hu with rfl | rfl | rfl <;> rfl)
            go_wp2_with (at_builtin; (refine wpList_append_own _ rfl _ _ 45 rfl w.heap.size 65 iN _ 3 12 Try.underlying45 HI.out.2.1 HI.out.2.2.1 HI.out.2.2.2.1 HI.out.2.2.2.2 rfl (by decide) _ _ _ rfl (World.ownsRow.alloc Q6.out _) ⟨w25.heap.size, 0, none⟩ 1 1 [.int .u8 (y0 : Int), .int .u32 (y1 : Int), .int .u32 (y2 : Int)] rfl rfl HNw.out HOn.out HK.out.1 HK.out.2 HBx.out ?_))
            intro v7 w26 h6 h7 _
            have hcat : flat (fun j => ntCells (bcc.getD j Nt.nought)) bcc.length ++ [.int .u8 (y0 : Int), .int .u32 (y1 : Int), .int .u32 (y2 : Int)] = flat (fun j => ntCells ((bcc ++ [(⟨(y0 : Int), (y1 : Int), (y2 : Int)⟩ : Nt)]).getD j Nt.nought)) (bcc.length + 1) := by
              rw [flat]
              congr 1
              · exact flat_congr _ (fun j hj => by rw [List.getD_eq_getElem?_getD, List.getD_eq_getElem?_getD, List.getElem?_append_left hj])
              · simp [ntCells]
            have G7 : Hid (Ds w w26 g w.heap.size gs q3 _) := Lib.hid ((G6.out.alloc _).other h7 (fun k hk => ⟨(World.ownsRow.lt Q6.out k hk).1, fun e => row_block G6.out.res Q6.out (by decide) (by rw [hk, e]), fun e => row_block G6.out.sym Q6.out (by decide) (by rw [hk, e])⟩))
            have P7 : Hid (OwnR w26 w.heap.size (Value.slice a5 RS.length c5') RS) := Lib.hid (World.ownsRow.kept (World.ownsRow.alloc P6.out _) h7 (row_apart P6.out Q6.out (by decide)))
            have Q7 : Hid (OwnN w26 w.heap.size v7 (bcc ++ [(⟨(y0 : Int), (y1 : Int), (y2 : Int)⟩ : Nt)])) := Lib.hid (by
              unfold OwnN
              rw [List.length_append, List.length_singleton, ← hcat]
              exact h6)
            obtain ⟨a7, c7, hv7⟩ := row_slice Q7.out
            rw [List.length_append, List.length_singleton] at hv7
            clear h6 h7 hcat r0 r1' r2' s5 HK HBx HNw HOn G6 P6 Q6 B6 HGR
            subst hv7
            have s5 : w26.cell? ⟨gs, 6, none⟩ = some (Value.slice a6 bcc.length c6') := G7.out.sym.cell 6
            have f5 : w26.frozen? ⟨gs, 6, none⟩ = false := G7.out.sym.frozen 6
            have z5 : gs < w26.heap.size := G7.out.sym.lt
            go_wp2_with fail
            have G8 := Lib.hid (G7.out.set_ 6 (Value.slice a7 (bcc.length + 1) c7))
            simp only [List.set_cons_zero, List.set_cons_succ] at G8
            have P8 : Hid (OwnR (w26.setCell ⟨gs, 6, none⟩ (Value.slice a7 (bcc.length + 1) c7)) w.heap.size (Value.slice a5 RS.length c5') RS) := Lib.hid (World.ownsRow.kept P7.out (grown_set w26 gs 6 _) (.inr (row_block G7.out.sym P7.out (by decide))))
            have Q8 : Hid (OwnN (w26.setCell ⟨gs, 6, none⟩ (Value.slice a7 (bcc.length + 1) c7)) w.heap.size (Value.slice a7 (bcc.length + 1) c7) (bcc ++ [(⟨(y0 : Int), (y1 : Int), (y2 : Int)⟩ : Nt)])) := Lib.hid (World.ownsRow.kept Q7.out (grown_set w26 gs 6 _) (.inr (row_block G7.out.sym Q7.out (by decide))))
            clear s5 f5 z5 G7 P7 Q7
            go_roundw
            case rel => exact ⟨k + 1, q3, bcc ++ [(⟨(y0 : Int), (y1 : Int), (y2 : Int)⟩ : Nt)], (Value.slice a7 (bcc.length + 1) c7), by omega, by go_num, HAc, HN2, HL3, G8, P8, Q8⟩
            case measure => simp [intOf]; omega
          · obtain ⟨rfl, rfl⟩ : NS = bcc ∧ r9 = rk := by
              have e := HMb.out
              rw [HM2.out] at e
              have e2 : many rdN (m - k) rk = ([], rk) := by
                by_cases hE : rk.E = 0
                · rw [show m - k = 0 by omega]; rfl
                · exact many_stuck hE _
              rw [e2] at e
              simp only [List.append_nil, Prod.mk.injEq] at e
              exact e
            have hgl : g < wr.heap.size := Blk.lt DD.out.rd
            obtain ⟨z, hz⟩ : ∃ z, z = r9.E := ⟨_, rfl⟩
            rw [← hz] at e1
            clear HMb
            by_cases hkm : k < m
            case' pos =>
              have hd : decide (k < m) = true := decide_eq_true hkm
              have hd2 : (z == 0) = false := beq_eq_false_iff_ne.2 (fun h => hcont ⟨hkm, by rw [← hz]; exact h⟩)
            case' neg =>
              have hd : decide (k < m) = false := decide_eq_false hkm
            all_goals (
              clear hz hcont
              have d0 : wr.cell? ⟨gs, 0, none⟩ = some (.string nm) := DD.out.sym.cell 0
              have d1 : wr.cell? ⟨gs, 1, none⟩ = some (.int .u8 (vb : Int)) := DD.out.sym.cell 1
              have d2 : wr.cell? ⟨gs, 2, none⟩ = some (.int .u8 (vk : Int)) := DD.out.sym.cell 2
              have d3 : wr.cell? ⟨gs, 3, none⟩ = some (.int .u32 (vz : Int)) := DD.out.sym.cell 3
              have d4 : wr.cell? ⟨gs, 4, none⟩ = some (.string bys) := DD.out.sym.cell 4
              have d5 : wr.cell? ⟨gs, 5, none⟩ = some ((Value.slice a5 RS.length c5')) := DD.out.sym.cell 5
              have d6 : wr.cell? ⟨gs, 6, none⟩ = some ((Value.slice a6 NS.length c6')) := DD.out.sym.cell 6
              have x0 : wr.cell? ⟨w.heap.size, 0, none⟩ = some (.string ⟨#[]⟩) := DD.out.res.cell 0
              have f0 : wr.frozen? ⟨w.heap.size, 0, none⟩ = false := DD.out.res.frozen 0
              have x1 : wr.cell? ⟨w.heap.size, 1, none⟩ = some (.int .u8 0) := DD.out.res.cell 1
              have f1 : wr.frozen? ⟨w.heap.size, 1, none⟩ = false := DD.out.res.frozen 1
              have x2 : wr.cell? ⟨w.heap.size, 2, none⟩ = some (.int .u8 0) := DD.out.res.cell 2
              have f2 : wr.frozen? ⟨w.heap.size, 2, none⟩ = false := DD.out.res.frozen 2
              have x3 : wr.cell? ⟨w.heap.size, 3, none⟩ = some (.int .u32 0) := DD.out.res.cell 3
              have f3 : wr.frozen? ⟨w.heap.size, 3, none⟩ = false := DD.out.res.frozen 3
              have x4 : wr.cell? ⟨w.heap.size, 4, none⟩ = some (.string ⟨#[]⟩) := DD.out.res.cell 4
              have f4 : wr.frozen? ⟨w.heap.size, 4, none⟩ = false := DD.out.res.frozen 4
              have x5 : wr.cell? ⟨w.heap.size, 5, none⟩ = some (.slice none 0 0) := DD.out.res.cell 5
              have f5 : wr.frozen? ⟨w.heap.size, 5, none⟩ = false := DD.out.res.frozen 5
              have x6 : wr.cell? ⟨w.heap.size, 6, none⟩ = some (.slice none 0 0) := DD.out.res.cell 6
              have f6 : wr.frozen? ⟨w.heap.size, 6, none⟩ = false := DD.out.res.frozen 6
              have hg2 : w.heap.size < wr.heap.size := DD.out.res.lt
              go_wp2_with fail
              have HY := (((((((DD.out.res.set_ 0 (.string nm)).set_ 1 (.int .u8 (vb : Int))).set_ 2 (.int .u8 (vk : Int))).set_ 3 (.int .u32 (vz : Int))).set_ 4 (.string bys)).set_ 5 ((Value.slice a5 RS.length c5'))).set_ 6 ((Value.slice a6 NS.length c6')))
              have HG := (gb_trans (gb_trans (gb_trans (gb_trans (gb_trans (gb_trans (grown_set wr w.heap.size 0 (.string nm)) (grown_set _ w.heap.size 1 (.int .u8 (vb : Int)))) (grown_set _ w.heap.size 2 (.int .u8 (vk : Int)))) (grown_set _ w.heap.size 3 (.int .u32 (vz : Int)))) (grown_set _ w.heap.size 4 (.string bys))) (grown_set _ w.heap.size 5 ((Value.slice a5 RS.length c5')))) (grown_set _ w.heap.size 6 ((Value.slice a6 NS.length c6'))))
              refine bodyPost_ret (v := .agg #[.string nm, .int .u8 (vb : Int), .int .u8 (vk : Int), .int .u32 (vz : Int), .string bys, (Value.slice a5 RS.length c5'), (Value.slice a6 NS.length c6')]) (results_cell_row Try.results31 _ _ w.heap.size 47 _ (0, 0) _ rfl HY Try.underlying47 rfl (by kernel_rfl)) rfl ?_
              obtain ⟨s0, s1, s2, s3, s4, s5, s6, s7⟩ := HS.out
              unfold SymPost
              rw [s0, s1, s2, s3, s4, s5, s6, s7, tx_by, tx_by]
              refine ⟨a5, c5', a6, c6', rfl, World.ownsRow.kept OO.out HG (.inr (row_block DD.out.res OO.out (by decide))), World.ownsRow.kept PP.out HG (.inr (row_block DD.out.res PP.out (by decide))), Blk.grown DD.out.rd HG (fun e => ?_), gb_new DD.out.low HG (fun k hk => by cases hk; exact Nat.le_refl _)⟩
              have := Option.some.inj e
              omega))
end Go.Proofs.Ytbpdoiikleaidaa
