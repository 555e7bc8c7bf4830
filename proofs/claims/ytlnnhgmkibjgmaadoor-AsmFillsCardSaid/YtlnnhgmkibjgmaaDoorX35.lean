/- Some texts of one proof, one behind the other; each has its own head below. -/
import Derived.Test.YtlnnhgmkibjgmaaDoorX34
import Derived.Test.YtlnnhgmkibjgmaaDoorQT
import Derived.Deep.Quiet
import Derived.StillTail
import Derived.Deep.MidRow
import Derived.Below
import Derived.Deep.RegionHeld3
/- A region that draws its order, whose operations read, and call what makes memory: one walk in the order of the text, at a class of worlds chosen by the prover. No program is named. -/
section
set_option linter.unusedVariables false
namespace Go.Proofs.YtlnnhgmkibjgmaaDoor
open Go Go.RowKit
section
variable {P : Program} {ops : Array Oper} {C : World → Prop} {Q : Act → Prop} {a : Act} {o : Oper} {rest : List Oper}
theorem qy_region {id : Nat} {Q : Exit → Act → World → Prop} {w : World} {l : List Oper} (hm : P.follows .mixedOrders = true) (hB : Region.lexB .any l.toArray = true) (hC : C { w with drawn := w.drawn + 1 })
    (h : wpQuiet P l.toArray C (fun a' => ∀ w', C w' → Q .normal a' w') l a) : (Code.region id l.toArray true).wp P Q a w :=
  wp_region_quiet (C := C) hm hB hC (by simpa using h)
theorem qy_wanted (h : o.guard = none) (ys : Nat → Option Bool) : Region.wanted o ys = true := by unfold Region.wanted; rw [h]
theorem qy_by (hgd : o.guard = none) (v : Value) (h : ∀ w, C w → (execOp a.eval o).run P w = .ok (.value v) w) (hk : wpQuiet P ops C Q rest (a.put o.dst v)) : wpQuiet P ops C Q (o :: rest) a :=
  wpQuiet_step fun K hK => by
    rw [if_pos (qy_wanted hgd _)]
    exact ⟨v, fun w hw => by unfold Oper.quietAt; rw [h w hw]; exact ⟨rfl, rfl⟩, hK _ hk⟩
theorem qy_call (hgd : o.guard = none) (f : FuncId) (args : Array Value) (v : Value) (h : ∀ w, C w → (execOp a.eval o).run P w = .ok (.enter f args) w) (hc : ∀ w, C w → Calls P f args w fun e w' => e = .returned v ∧ C w')
    (hk : wpQuiet P ops C Q rest (a.put o.dst v)) : wpQuiet P ops C Q (o :: rest) a :=
  wpQuiet_step fun K hK => by
    rw [if_pos (qy_wanted hgd _)]
    exact ⟨v, fun w hw => by unfold Oper.quietAt; rw [h w hw]; exact ⟨rfl, hc w hw⟩, hK _ hk⟩
end
end Go.Proofs.YtlnnhgmkibjgmaaDoor
end

/- The maker's label, walked. -/
section
set_option linter.unusedVariables false
set_option linter.unusedSimpArgs false
namespace Go.Proofs.YtlnnhgmkibjgmaaDoor
open Go Go.RowKit Go.Maps Oj Al

/-- What label leaves. -/
def LabP (W : World) (g : Nat) (l : List Ln) (c0 c1 c2 c3 c4 c5 c6 : Value) (e : Ending) (W' : World) : Prop :=
  (allN l.length (lblOk l) = false ∧ e = .returned (.int .i64 9) ∧ W.grownBy W' (some g)) ∨
  (allN l.length (lblOk l) = true ∧ e = .returned (.int .i64 0) ∧ W.grownBy W' (some g) ∧ ∃ b n, W.heap.size ≤ b ∧ Blk W' g 65 [c0, c1, c2, c3, c4, c5, c6, .map (some b)] ∧ LabIs W' b n (labM l l.length))
set_option maxHeartbeats 4000000 in
set_option maxRecDepth 100000 in
theorem label_any (l : List Ln) (v : Value) (W : World) (g : Nat) (c0 c1 c2 c3 c4 c5 c6 c7 : Value) (W0 : World) (hB0 : Below W0.heap.size W0 W) (hg0 : W0.heap.size ≤ g) (hl : l.length ≤ 1024) (hA : LinesAt W0 v l) (hF : lnsFit l) (hG : Blk W g 65 [c0, c1, c2, c3, c4, c5, c6, c7]) :
    Calls Tryd.prog 33 #[.pointer (some ⟨g, 0, none⟩), v] W (LabP W g l c0 c1 c2 c3 c4 c5 c6) := by
  obtain ⟨ao, c, rfl, h2⟩ := hA
  have H2 := Lib.hid h2
  have HW0 : Hid (∀ wr, W.grownBy wr (some g) → Below W0.heap.size W0 wr) := Lib.hid (fun wr h => hB0.grown h hB0.size (fun k hk => by cases hk; exact hg0))
  have HNO : Hid (∀ k, k < l.length → lblOk l k = false → ∀ w', W.grownBy w' (some g) → LabP W g l c0 c1 c2 c3 c4 c5 c6 (.returned (.int .i64 9)) w') := Lib.hid (fun k hk h w' hw => .inl ⟨allN_false hk h, rfl, hw⟩)
  have HYES : Hid ((∀ j, j < l.length → lblOk l j = true) → ∀ b n w', W.grownBy w' (some g) → W.heap.size ≤ b → Blk w' g 65 [c0, c1, c2, c3, c4, c5, c6, .map (some b)] → LabIs w' b n (labM l l.length) → LabP W g l c0 c1 c2 c3 c4 c5 c6 (.returned (.int .i64 0)) w') := Lib.hid (fun h b n w' h1 h2 h3 h4 => .inr ⟨allN_true h, rfl, h1, b, n, h2, h3, h4⟩)
  have HDUP : Hid (∀ k j, k < l.length → (l.getD k Ln.nought).label ≠ [] → labM l k (l.getD k Ln.nought).label = some j → lblOk l k = false) := Lib.hid (fun k j hk h0 h => lbl_dup hk h0 h)
  have HNEW : Hid (∀ k, k < l.length → (l.getD k Ln.nought).label ≠ [] → labM l k (l.getD k Ln.nought).label = none → lblOk l k = true) := Lib.hid (fun k hk h0 h => lbl_new hk h0 h)
  have HLEN : Hid (∀ k, k < l.length → (l.getD k Ln.nought).label.length ≤ 140737488355328) := Lib.hid (fun k hk => (hF.2 k hk).1)
  obtain ⟨n, hn⟩ : ∃ n, n = l.length := ⟨_, rfl⟩
  have hni : (n : Int) ≤ 1024 := by omega
  rw [← hn] at HNO HYES HDUP HNEW HLEN H2 ⊢
  have HG := Lib.hid hG
  obtain ⟨y0, y1, y2, y3, y4, y5, y6, y7⟩ := hG.eight
  have f7 : W.frozen? ⟨g, 7, none⟩ = false := hG.frozen 7
  have hlt : g < W.heap.size := hG.lt
  clear hn hl hF hG h2
  have hsz : (W.setCell ⟨g, 7, none⟩ (.map (some W.heap.size))).heap.size = W.heap.size := by simp
  have HM0 : Hid (LabIs ((W.setCell ⟨g, 7, none⟩ (.map (some W.heap.size))).alloc (.map #[] 0)) W.heap.size 0 (fun _ => none)) := Lib.hid (by have h := LabIs.made (W.setCell ⟨g, 7, none⟩ (.map (some W.heap.size))); rw [hsz] at h; exact h)
  have HG0 : Hid (Blk ((W.setCell ⟨g, 7, none⟩ (.map (some W.heap.size))).alloc (.map #[] 0)) g 65 [c0, c1, c2, c3, c4, c5, c6, .map (some W.heap.size)]) := Lib.hid ((HG.out.set_ 7 (.map (some W.heap.size))).alloc (.map #[] 0))
  have HB0 := Lib.hid (gb8 (grown_set W g 7 (.map (some W.heap.size))) (gb_of (below_new1 (W.setCell ⟨g, 7, none⟩ (.map (some W.heap.size))) (.map #[] 0)) (some g)))
  clear hsz
  have hmm := @run_makeMap Tryd.prog
  go_enter Tryd.func33, Tryd.ntmps33
  go_upto_region 2 with (fail)
  obtain ⟨b, hb⟩ : ∃ b, b = W.heap.size := ⟨_, rfl⟩
  obtain ⟨w1, hw1⟩ : ∃ w1, w1 = (W.setCell ⟨g, 7, none⟩ (.map (some W.heap.size))).alloc (.map #[] 0) := ⟨_, rfl⟩
  rw [← hw1] at HM0 HG0 HB0 ⊢
  rw [← hb] at HM0 HG0
  have HLO : Hid (W.heap.size ≤ b) := Lib.hid (by rw [hb]; exact Nat.le_refl _)
  have HNE : Hid (g ≠ b) := Lib.hid (by rw [hb]; omega)
  have HI0 : Hid (LabIs w1 b 0 (labM l 0)) := Lib.hid (HM0.out.to (fun s => by unfold labM; split <;> rfl))
  clear hw1 hb y0 y1 y2 y3 y4 y5 y6 y7 f7 hlt HM0 HG hmm
  go_wp2_with fail
  go_loopw [15] (fun i wr => ∃ k : Nat, (k : Int) ≤ n ∧ i = .int .i64 k ∧ Hid (Blk wr g 65 [c0, c1, c2, c3, c4, c5, c6, .map (some b)]) ∧ Hid (LabIs wr b k (labM l k)) ∧ Hid (W.grownBy wr (some g)) ∧ Hid (∀ j, j < k → lblOk l j = true)) (fun i _ => n - (intOf i).toNat)
  case atStart => exact ⟨0, by omega, rfl, HG0, HI0, HB0, Lib.hid (fun j hj => absurd hj (Nat.not_lt_zero j))⟩
  case round =>
    obtain ⟨k, hk, rfl, hR, hL_, hb, hO⟩ := hrel
    by_cases hlt : k < n
    · obtain ⟨gb, o, rfl, hbl, hcl⟩ := H2.out (by omega)
      have hcx := hcl k hlt
      have HDk := Lib.hid (HDUP.out k)
      have HNk := Lib.hid (HNEW.out k hlt)
      have HLk := Lib.hid (HLEN.out k hlt)
      have HSKIP : Hid ((l.getD k Ln.nought).label = [] → (∀ s, labM l (k + 1) s = labM l k s) ∧ lblOk l k = true) := Lib.hid (fun h => ⟨labM_skip h, lbl_none h⟩)
      have HADD : Hid ((l.getD k Ln.nought).label ≠ [] → labM l k (l.getD k Ln.nought).label = none → ∀ s, labM l (k + 1) s = if s = (l.getD k Ln.nought).label then some k else labM l k s) := Lib.hid labM_new
      have HOk : Hid (lblOk l k = true → ∀ j, j < k + 1 → lblOk l j = true) := Lib.hid (fun h j hj => by
        rcases Nat.lt_or_ge j k with h1 | h1
        · exact hO.out j h1
        · obtain rfl : j = k := by omega
          exact h)
      obtain ⟨x, hx⟩ : ∃ x, x = l.getD k Ln.nought := ⟨_, rfl⟩
      rw [← hx] at hcx HDk HNk HLk HSKIP HADD
      obtain ⟨lb, op, d, a, bb, im, dst, nm⟩ := x
      unfold lnCells at hcx
      simp only at hcx HDk HNk HLk HSKIP HADD
      have he := empty_eq (tx lb)
      rw [by_tx] at he
      obtain ⟨L, hL⟩ : ∃ L, L = tx lb := ⟨_, rfl⟩
      obtain ⟨T, hTt⟩ : ∃ L, L = tx dst := ⟨_, rfl⟩
      obtain ⟨N, hN⟩ : ∃ L, L = tx nm := ⟨_, rfl⟩
      rw [← hL, ← hTt, ← hN] at hcx
      rw [← hL] at he
      have hby : by' L = lb := by rw [hL, by_tx]
      have HLS : Hid (L.size ≤ 140737488355328) := Lib.hid (by rw [hL]; exact HLk.out)
      have hbw := HW0.out wr hb.out
      have y0 := (hbw.cell (p := ⟨gb, o + k * 8 + 0, none⟩) hbl).trans (hcx 0 _ rfl)
      have y1 := (hbw.cell (p := ⟨gb, o + k * 8 + 1, none⟩) hbl).trans (hcx 1 _ rfl)
      have y2 := (hbw.cell (p := ⟨gb, o + k * 8 + 2, none⟩) hbl).trans (hcx 2 _ rfl)
      have y3 := (hbw.cell (p := ⟨gb, o + k * 8 + 3, none⟩) hbl).trans (hcx 3 _ rfl)
      have y4 := (hbw.cell (p := ⟨gb, o + k * 8 + 4, none⟩) hbl).trans (hcx 4 _ rfl)
      have y5 := (hbw.cell (p := ⟨gb, o + k * 8 + 5, none⟩) hbl).trans (hcx 5 _ rfl)
      have y6 := (hbw.cell (p := ⟨gb, o + k * 8 + 6, none⟩) hbl).trans (hcx 6 _ rfl)
      have y7 := (hbw.cell (p := ⟨gb, o + k * 8 + 7, none⟩) hbl).trans (hcx 7 _ rfl)
      rw [Nat.add_zero] at y0
      have hdk : decide (k < n) = true := decide_eq_true hlt
      have hki : (k : Int) < 1024 := by omega
      have HBY := Lib.hid hby
      clear hcx hcl hx hL hTt hN HLk hbw hby
      go_upto_region 5 with (fail)
      have HX1 := Lib.hid (Blk.new wr 42 [.string L, .int .u8 op, .int .u8 d, .int .u8 a, .int .u8 bb, .int .u32 im, .string T, .string N])
      have HG1 := Lib.hid (hR.out.alloc (.cells #[.string L, .int .u8 op, .int .u8 d, .int .u8 a, .int .u8 bb, .int .u32 im, .string T, .string N] 42))
      have HL1 := Lib.hid (hL_.out.below (below_new1 wr (.cells #[.string L, .int .u8 op, .int .u8 d, .int .u8 a, .int .u8 bb, .int .u32 im, .string T, .string N] 42)))
      have HB1 := Lib.hid (gb8 hb.out (gb_of (below_new1 wr (.cells #[.string L, .int .u8 op, .int .u8 d, .int .u8 a, .int .u8 bb, .int .u32 im, .string T, .string N] 42)) (some g)))
      obtain ⟨g3, hg3⟩ : ∃ t, t = wr.heap.size := ⟨_, rfl⟩
      obtain ⟨w3, hw3⟩ : ∃ t, t = wr.alloc (.cells #[.string L, .int .u8 op, .int .u8 d, .int .u8 a, .int .u8 bb, .int .u32 im, .string T, .string N] 42) := ⟨_, rfl⟩
      rw [← hw3] at HX1 HG1 HL1 HB1 ⊢
      rw [← hg3] at HX1 ⊢
      clear hw3 hg3 y0 y1 y2 y3 y4 y5 y6 y7 hR hL_ hb hO
      have z0 := HX1.out.eight.1
      by_cases hd : lb = []
      · rw [decide_eq_true hd] at he
        have HL2 : Hid (LabIs w3 b (k + 1) (labM l (k + 1))) := Lib.hid ((HL1.out.to (HSKIP.out hd).1).mono (Nat.le_succ k))
        have HO2 := Lib.hid (HOk.out (HSKIP.out hd).2)
        clear hd HL1 HDk HNk HSKIP HADD HOk HX1 HBY
        go_wp2_with fail
        go_roundw
        case rel => exact ⟨k + 1, by omega, by go_num, HG1, HL2, HB1, HO2⟩
        case measure => simp [intOf]; omega
      · rw [decide_eq_false hd] at he
        go_upto_region 6 with (fail)
        have HCl : Hid (∀ W', Below w3.heap.size w3 W' → W'.cell? ⟨g, 7, none⟩ = some (.map (some b)) ∧ W'.cell? ⟨g3, 0, none⟩ = some (.string L)) := Lib.hid (fun W' hW => ⟨(HG1.out.below hW HG1.out.lt).cell 7, (HX1.out.below hW HX1.out.lt).cell 0⟩)
        obtain ⟨V, hV⟩ : ∃ V : Int, V = (8 * ((labM l k lb).getD 0 : Nat) : Int) := ⟨_, rfl⟩
        obtain ⟨B, hB⟩ : ∃ B, B = (labM l k lb).isSome := ⟨_, rfl⟩
        have HLo : Hid (∀ W', Below w3.heap.size w3 W' → (Instr.lookup 63 (.map (some b)) (.string L) true).run Tryd.prog W' = .ok (.tuple #[.int .u32 V, .bool B]) W') := Lib.hid (fun W' hW => by
          have h := (HL1.out.below hW).look L HLS.out
          rw [HBY.out, ← hV, ← hB] at h
          exact h)
        have HBk : Hid (B = (labM l k lb).isSome) := Lib.hid hB
        clear hV hB he z0
        refine qy_region (C := fun W' => Below w3.heap.size w3 W') (by kernel_rfl) (by kernel_rfl) (Below.refl _ _).drew ?_
        refine qy_by rfl (.pointer (some ⟨g, 0, none⟩)) (fun W' hW => by simp [go_sem]) ?_
        simp only [Act.put, List.setIfInBounds_toArray, List.set_cons_zero, List.set_cons_succ]
        refine qy_by rfl (.pointer (some ⟨g, 0, none⟩)) (fun W' hW => by simp [go_sem]) ?_
        simp only [Act.put, List.setIfInBounds_toArray, List.set_cons_zero, List.set_cons_succ]
        refine qy_by rfl (.pointer (some ⟨g, 7, none⟩)) (fun W' hW => by simp [go_sem]) ?_
        simp only [Act.put, List.setIfInBounds_toArray, List.set_cons_zero, List.set_cons_succ]
        refine qy_by rfl (.map (some b)) (fun W' hW => by simp [go_sem, (HCl.out W' hW).1]) ?_
        simp only [Act.put, List.setIfInBounds_toArray, List.set_cons_zero, List.set_cons_succ]
        refine qy_by rfl (.pointer (some ⟨g3, 0, none⟩)) (fun W' hW => by simp [go_sem]) ?_
        simp only [Act.put, List.setIfInBounds_toArray, List.set_cons_zero, List.set_cons_succ]
        refine qy_by rfl (.string L) (fun W' hW => by simp [go_sem, (HCl.out W' hW).2]) ?_
        simp only [Act.put, List.setIfInBounds_toArray, List.set_cons_zero, List.set_cons_succ]
        refine qy_by rfl (.tuple #[.int .u32 V, .bool B]) (fun W' hW => by simp [go_sem, HLo.out W' hW]) ?_
        simp only [Act.put, List.setIfInBounds_toArray, List.set_cons_zero, List.set_cons_succ]
        refine qy_by rfl (.tuple #[.int .u32 V, .bool B]) (fun W' hW => by simp [go_sem]) ?_
        simp only [Act.put, List.setIfInBounds_toArray, List.set_cons_zero, List.set_cons_succ]
        refine qy_by rfl (.int .u32 V) (fun W' hW => by simp [go_sem]) ?_
        simp only [Act.put, List.setIfInBounds_toArray, List.set_cons_zero, List.set_cons_succ]
        refine qy_by rfl (.bool B) (fun W' hW => by simp [go_sem]) ?_
        simp only [Act.put, List.setIfInBounds_toArray, List.set_cons_zero, List.set_cons_succ]
        refine qy_by rfl (.int .u32 V) (fun W' hW => by simp [go_sem]) ?_
        simp only [Act.put, List.setIfInBounds_toArray, List.set_cons_zero, List.set_cons_succ]
        refine qy_by rfl (.bool B) (fun W' hW => by simp [go_sem]) ?_
        simp only [Act.put, List.setIfInBounds_toArray, List.set_cons_zero, List.set_cons_succ]
        refine wpQuiet_nil ?_
        intro w4 q4
        have HX2 := Lib.hid (HX1.out.call q4)
        have HG2 := Lib.hid (HG1.out.call q4)
        have HL2 := Lib.hid (HL1.out.below q4)
        have HB2 := Lib.hid (gb8 HB1.out (gb_of q4 (some g)))
        clear q4 HX1 HG1 HL1 HB1 HCl HLo HSKIP
        cases B
        · have hnone : labM l k lb = none := by have := HBk.out; cases h : labM l k lb with | none => rfl | some j => rw [h] at this; cases this
          have HO2 := Lib.hid (HOk.out (HNk.out hd hnone))
          have HA2 := Lib.hid (HADD.out hd hnone)
          clear hnone hd HDk HNk HADD HOk HBk
          go_upto_region 9 with (fail)
          have HCl : Hid (∀ W', Below w4.heap.size w4 W' → W'.cell? ⟨g, 7, none⟩ = some (.map (some b)) ∧ W'.cell? ⟨g3, 0, none⟩ = some (.string L)) := Lib.hid (fun W' hW => ⟨(HG2.out.below hW HG2.out.lt).cell 7, (HX2.out.below hW HX2.out.lt).cell 0⟩)
          have HOf : Hid (∀ W' : World, Below w4.heap.size w4 W' → Calls Tryd.prog 54 #[.int .i64 (k : Int)] W' fun e w' => e = .returned (.int .u32 (8 * (k : Int))) ∧ Below w4.heap.size w4 w') := Lib.hid (fun W' hW => (aoffset_any k (by omega) W').mono (by rintro e w' ⟨h, rfl⟩; exact ⟨h, hW⟩))
          refine wp_region_quiet_tail_in (C := fun W' => Below w4.heap.size w4 W') 8 (by kernel_rfl) (by kernel_rfl) ((Below.refl _ _).drew) ?_
          simp only [List.take_succ_cons, List.take_zero, List.drop_succ_cons, List.drop_zero]
          refine qy_by rfl (.pointer (some ⟨g, 0, none⟩)) (fun W' hW => by simp [go_sem]) ?_
          simp only [Act.put, List.setIfInBounds_toArray, List.set_cons_zero, List.set_cons_succ]
          refine qy_by rfl (.pointer (some ⟨g, 0, none⟩)) (fun W' hW => by simp [go_sem]) ?_
          simp only [Act.put, List.setIfInBounds_toArray, List.set_cons_zero, List.set_cons_succ]
          refine qy_by rfl (.pointer (some ⟨g, 7, none⟩)) (fun W' hW => by simp [go_sem]) ?_
          simp only [Act.put, List.setIfInBounds_toArray, List.set_cons_zero, List.set_cons_succ]
          refine qy_by rfl (.map (some b)) (fun W' hW => by simp [go_sem, (HCl.out W' hW).1]) ?_
          simp only [Act.put, List.setIfInBounds_toArray, List.set_cons_zero, List.set_cons_succ]
          refine qy_by rfl (.pointer (some ⟨g3, 0, none⟩)) (fun W' hW => by simp [go_sem]) ?_
          simp only [Act.put, List.setIfInBounds_toArray, List.set_cons_zero, List.set_cons_succ]
          refine qy_by rfl (.string L) (fun W' hW => by simp [go_sem, (HCl.out W' hW).2]) ?_
          simp only [Act.put, List.setIfInBounds_toArray, List.set_cons_zero, List.set_cons_succ]
          refine qy_by rfl (.int .i64 (k : Int)) (fun W' hW => by simp [go_sem]) ?_
          simp only [Act.put, List.setIfInBounds_toArray, List.set_cons_zero, List.set_cons_succ]
          refine qy_call rfl 54 #[.int .i64 (k : Int)] (.int .u32 (8 * (k : Int))) (fun W' _ => by simp [go_sem]) (fun W' hW => HOf.out W' hW) ?_
          simp only [Act.put, List.setIfInBounds_toArray, List.set_cons_zero, List.set_cons_succ]
          refine wpQuiet_nil ?_
          intro w5 q5
          have HG3 := Lib.hid (HG2.out.call q5)
          have HL3 := Lib.hid (HL2.out.below q5)
          have HB3 := Lib.hid (gb8 HB2.out (gb_of q5 (some g)))
          have HSZ3 : Hid (W.heap.size ≤ b) := HLO
          clear q5 HX2 HG2 HL2 HB2 HCl HOf
          refine wpList_lab rfl _ _ _ rfl b k k (labM l k) rfl HL3.out (by unfold maxLen; omega) L HLS.out rfl rfl (by omega) ?_
          intro w6 hl6 hg6
          have HG4 := Lib.hid (HG3.out.grown hg6 (by intro e; injection e with e; exact HNE.out e))
          have HL4 : Hid (LabIs w6 b (k + 1) (labM l (k + 1))) := Lib.hid (hl6.to (fun s => by rw [HA2.out s, HBY.out]))
          have HB4 := Lib.hid (gb_far HB3.out hg6 HLO.out)
          clear hl6 hg6 HG3 HL3 HB3 HA2
          go_wp2_with fail
          go_roundw
          case rel => exact ⟨k + 1, by omega, by go_num, HG4, HL4, HB4, HO2⟩
          case measure => simp [intOf]; omega
        · obtain ⟨j, hj⟩ : ∃ j, labM l k lb = some j := by have := HBk.out; cases h : labM l k lb with | none => rw [h] at this; cases this | some j => exact ⟨j, rfl⟩
          have HP := Lib.hid (HNO.out k hlt (HDk.out j hlt hd hj) w4 HB2.out)
          clear hj hd HDk HNk HADD HOk HBk HX2 HG2 HL2 HB2
          go_wp2_with fail
          go_ret
          exact HP.out
    · obtain rfl : k = n := by omega
      have HP := Lib.hid (HYES.out hO.out b k wr hb.out HLO.out hR.out hL_.out)
      clear hlt hk hR hL_ hO HYES HNO HDUP HNEW HLEN H2
      go_wp2_with fail
      go_ret
      exact HP.out
end Go.Proofs.YtlnnhgmkibjgmaaDoor
end
