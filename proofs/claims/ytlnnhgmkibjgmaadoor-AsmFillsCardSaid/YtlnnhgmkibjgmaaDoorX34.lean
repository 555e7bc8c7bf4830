/- Some texts of one proof, one behind the other; each has its own head below. -/
import Derived.Test.YtlnnhgmkibjgmaaDoorX27
import Derived.Maps.OwnSet
import Derived.BigQuiet
import Derived.StringKeys
/- The maker's encode. -/
section
set_option linter.unusedVariables false
set_option linter.unusedSimpArgs false
namespace Go.Proofs.YtlnnhgmkibjgmaaDoor
open Go Go.RowKit Oj Al

theorem infoInsn : (Tryd.prog.info? 40).map (fun i => (i.zero, i.size, i.bytes)) = some (some (.agg #[.int .u8 0, .int .u8 0, .int .u8 0, .int .u8 0, .int .u32 0]), 5, 8) := by kernel_rfl
/-- What encode leaves. -/
def EncP (W : World) (g : Nat) (l : List Ln) (c0 c1 c2 c5 c6 c7 : Value) (e : Ending) (W' : World) : Prop :=
  (allN l.length (fun k => lnOk (l.getD k Ln.nought)) = false ∧ e = .returned (.int .i64 2) ∧ Below W.heap.size W W') ∨
  (allN l.length (fun k => lnOk (l.getD k Ln.nought)) = true ∧ e = .returned (.int .i64 0) ∧ W.grownBy W' (some g) ∧ Blk W' g 65 [c0, c1, c2, .int .u32 (8 * (l.length : Int)), .string (tx (bytesL l)), c5, c6, c7])
theorem gb_of {w w' : World} (h : Below w.heap.size w w') (o : Option Nat) : w.grownBy w' o := ⟨h.os, h.tape, h.output, h.size, fun i hi _ => h.block i hi⟩
set_option maxHeartbeats 4000000 in
set_option maxRecDepth 100000 in
theorem encode_any (l : List Ln) (v : Value) (W : World) (g : Nat) (c0 c1 c2 c3 c4 c5 c6 c7 : Value) (hl : l.length ≤ 1024) (hT : I.Tabled W) (hA : LinesAt W v l) (hF : lnsFit l) (hG : Blk W g 65 [c0, c1, c2, c3, c4, c5, c6, c7]) :
    Calls Tryd.prog 32 #[.pointer (some ⟨g, 0, none⟩), v] W (EncP W g l c0 c1 c2 c5 c6 c7) := by
  obtain ⟨ao, c, rfl, h2⟩ := hA
  obtain ⟨i0, hi, hz, hs, hby⟩ := info_parts infoInsn
  have HI := Lib.hid (And.intro hi (And.intro hz (And.intro hs hby)))
  have HIS : Hid (∀ k, k < l.length → ∀ w', Below W.heap.size W w' → Calls Tryd.prog 51 #[lnV (l.getD k Ln.nought)] w' fun e w'' => e = .returned (.bool (lnOk (l.getD k Ln.nought))) ∧ Below w'.heap.size w' w'') := Lib.hid (fun k hk w' hw => aisline_any _ (hF.2 k hk) w' (hT.below hw))
  have HPL : Hid (∀ k w', Calls Tryd.prog 52 #[lnV (l.getD k Ln.nought)] w' fun e w'' => e = .returned (inV (l.getD k Ln.nought).op (l.getD k Ln.nought).d (l.getD k Ln.nought).a (l.getD k Ln.nought).b (im0 (l.getD k Ln.nought))) ∧ Below w'.heap.size w' w'') := Lib.hid (fun k w' => aplain_any _ w')
  have H2 := Lib.hid h2
  have HNO : Hid (∀ k, k < l.length → lnOk (l.getD k Ln.nought) = false → ∀ w', Below W.heap.size W w' → EncP W g l c0 c1 c2 c5 c6 c7 (.returned (.int .i64 2)) w') := Lib.hid (fun k hk h w' hw => .inl ⟨allN_false hk h, rfl, hw⟩)
  have HYES : Hid ((∀ j, j < l.length → lnOk (l.getD j Ln.nought) = true) → ∀ w', W.grownBy w' (some g) → Blk w' g 65 [c0, c1, c2, .int .u32 (8 * (l.length : Int)), .string (tx (bytesL l)), c5, c6, c7] → EncP W g l c0 c1 c2 c5 c6 c7 (.returned (.int .i64 0)) w') := Lib.hid (fun h w' h1 h2 => .inr ⟨allN_true h, rfl, h1, h2⟩)
  have HALL : Hid ((∀ j, j < l.length → lnOk (l.getD j Ln.nought) = true) → ∀ v' w', SlC w' v' l.length 5 (fun j => inL (l.getD j Ln.nought)) → Below W.heap.size W w' → Calls Tryd.prog 53 #[v'] w' fun e w'' => e = .returned (.tuple #[.string (tx (bytesL l)), .int .i64 0]) ∧ Below w'.heap.size w' w'') := Lib.hid (fun h v' w' h1 h2 => iall_any l v' w' hl (hT.below h2) h1 hF h)
  have HSZ : Hid ((tx (bytesL l)).size = 8 * l.length) := Lib.hid (bytesL_length l)
  obtain ⟨n, hn⟩ : ∃ n, n = l.length := ⟨_, rfl⟩
  have hni : (n : Int) ≤ 1024 := by omega
  obtain ⟨PP, hPP⟩ : ∃ P, P = EncP W g l c0 c1 c2 c5 c6 c7 := ⟨_, rfl⟩
  have hPP2 : EncP W g l c0 c1 c2 c5 c6 c7 = fun e w' => PP e w' := by rw [hPP]
  obtain ⟨BS, hBS⟩ : ∃ BS, BS = tx (bytesL l) := ⟨_, rfl⟩
  rw [← hBS] at HYES HALL HSZ
  rw [← hn] at HIS HNO HYES HALL HSZ H2 ⊢
  have HG := Lib.hid hG
  have HB0 := Lib.hid (Below.refl W.heap.size W)
  have HT := Lib.hid hT
  have HR0 := Lib.hid (World.ownsRow_nil W W.heap.size 40 5)
  clear hn hl hT hF hG h2 hi hz hs hby hBS hPP hPP2 PP
  go_enter Tryd.func32, Tryd.ntmps32
  go_wp2_with fail
  go_loopw [5, 10] (fun cv i wr => ∃ k : Nat, (k : Int) ≤ n ∧ i = .int .i64 k ∧ Hid (wr.ownsRow W.heap.size 40 5 cv k (flat (fun j => inL (l.getD j Ln.nought)) k)) ∧ Hid (Below W.heap.size W wr) ∧ Hid (∀ j, j < k → lnOk (l.getD j Ln.nought) = true)) (fun _ i _ => n - (intOf i).toNat)
  case atStart => exact ⟨0, by omega, rfl, HR0, HB0, Lib.hid (fun j hj => absurd hj (Nat.not_lt_zero j))⟩
  case round =>
    obtain ⟨k, hk, rfl, hR, hb, hO⟩ := hrel
    obtain ⟨avn, cvn, rfl⟩ := row_slice hR.out
    by_cases hlt : k < n
    · obtain ⟨gb, o, rfl, hbl, hcl⟩ := H2.out (by omega)
      have HISk := HIS.out k hlt
      have HPLk := HPL.out k
      have HNk := Lib.hid (HNO.out k hlt)
      have hcx := (hcl k hlt)
      have HOk : Hid (lnOk (l.getD k Ln.nought) = true → ∀ j, j < k + 1 → lnOk (l.getD j Ln.nought) = true) := Lib.hid (fun h j hj => by
        rcases Nat.lt_or_ge j k with h1 | h1
        · exact hO.out j h1
        · obtain rfl : j = k := by omega
          exact h)
      have HFL : Hid (flat (fun j => inL (l.getD j Ln.nought)) (k + 1) = flat (fun j => inL (l.getD j Ln.nought)) k ++ inL (l.getD k Ln.nought)) := Lib.hid rfl
      obtain ⟨x, hx⟩ : ∃ x, x = l.getD k Ln.nought := ⟨_, rfl⟩
      rw [← hx] at HISk HPLk HNk hcx HOk HFL
      obtain ⟨okk, hok⟩ : ∃ t, t = lnOk x := ⟨_, rfl⟩
      rw [← hok] at HISk HNk HOk
      obtain ⟨J, hJ⟩ : ∃ t, t = im0 x := ⟨_, rfl⟩
      rw [← hJ] at HPLk
      obtain ⟨lb, op, d, a, b, im, dst, nm⟩ := x
      unfold lnV at HISk HPLk
      unfold inV at HPLk
      simp only at HISk HPLk
      have HFM : Hid (flat (fun j => inL (l.getD j Ln.nought)) (k + 1) = flat (fun j => inL (l.getD j Ln.nought)) k ++ [.int .u8 op, .int .u8 d, .int .u8 a, .int .u8 b, .int .u32 J]) := Lib.hid (by rw [HFL.out, hJ]; rfl)
      clear HFL
      obtain ⟨L, hL⟩ : ∃ L, L = tx lb := ⟨_, rfl⟩
      obtain ⟨T, hTt⟩ : ∃ L, L = tx dst := ⟨_, rfl⟩
      obtain ⟨N, hN⟩ : ∃ L, L = tx nm := ⟨_, rfl⟩
      unfold lnCells at hcx
      simp only at hcx
      rw [← hL, ← hTt, ← hN] at HISk HPLk hcx
      have y0 := (hb.out.cell (p := ⟨gb, o + k * 8 + 0, none⟩) hbl).trans (hcx 0 _ rfl)
      have y1 := (hb.out.cell (p := ⟨gb, o + k * 8 + 1, none⟩) hbl).trans (hcx 1 _ rfl)
      have y2 := (hb.out.cell (p := ⟨gb, o + k * 8 + 2, none⟩) hbl).trans (hcx 2 _ rfl)
      have y3 := (hb.out.cell (p := ⟨gb, o + k * 8 + 3, none⟩) hbl).trans (hcx 3 _ rfl)
      have y4 := (hb.out.cell (p := ⟨gb, o + k * 8 + 4, none⟩) hbl).trans (hcx 4 _ rfl)
      have y5 := (hb.out.cell (p := ⟨gb, o + k * 8 + 5, none⟩) hbl).trans (hcx 5 _ rfl)
      have y6 := (hb.out.cell (p := ⟨gb, o + k * 8 + 6, none⟩) hbl).trans (hcx 6 _ rfl)
      have y7 := (hb.out.cell (p := ⟨gb, o + k * 8 + 7, none⟩) hbl).trans (hcx 7 _ rfl)
      rw [Nat.add_zero] at y0
      have HISx := Lib.hid HISk
      have HPLx := Lib.hid HPLk
      have HX1 := Lib.hid (Blk.new wr 42 [.string L, .int .u8 op, .int .u8 d, .int .u8 a, .int .u8 b, .int .u32 im, .string T, .string N])
      have HB1 := Lib.hid (below_call hb.out (below_new1 wr (.cells #[.string L, .int .u8 op, .int .u8 d, .int .u8 a, .int .u8 b, .int .u32 im, .string T, .string N] 42)))
      have HR1 := Lib.hid (row_below hR.out (below_new1 wr (.cells #[.string L, .int .u8 op, .int .u8 d, .int .u8 a, .int .u8 b, .int .u32 im, .string T, .string N] 42)))
      have hdk : decide (k < n) = true := decide_eq_true hlt
      clear HISk HPLk hcx hcl hx hL hTt hN hok hJ hR hb hO
      go_wp2_with fail
      refine (HISx.out _ HB1.out).mono ?_
      rintro e w1 ⟨rfl, q⟩
      have HX2 := Lib.hid (HX1.out.call q)
      have HB2 := Lib.hid (below_call HB1.out q)
      have HR2 := Lib.hid (row_below HR1.out q)
      clear HX1 HB1 HR1 q HISx y0 y1 y2 y3 y4 y5 y6 y7
      cases okk
      · have HP := Lib.hid (HNk.out rfl _ HB2.out)
        clear HNk HOk HX2 HR2
        go_wp2_with fail
        go_ret
        exact HP.out
      · have HOO := Lib.hid (HOk.out rfl)
        clear HOk HNk
        obtain ⟨y0, y1, y2, y3, y4, y5, y6, y7⟩ := HX2.out.eight
        go_wp2_with fail
        refine (HPLx.out _).mono ?_
        rintro e w2 ⟨rfl, q⟩
        have hnb := below_new1 w2 (.cells #[.int .u8 op, .int .u8 d, .int .u8 a, .int .u8 b, .int .u32 J] 40)
        have HB3 := Lib.hid (below_call (below_call HB2.out q) hnb)
        have HR3 := Lib.hid (row_below (row_below HR2.out q) hnb)
        have HN3 : Hid (∀ j u, [Value.int .u8 op, .int .u8 d, .int .u8 a, .int .u8 b, .int .u32 J][j]? = some u → (w2.alloc (.cells #[.int .u8 op, .int .u8 d, .int .u8 a, .int .u8 b, .int .u32 J] 40)).cell? ((⟨w2.heap.size, 0, none⟩ : Addr).add j) = some u) := Lib.hid (fun j u hu => by
          have h3 := (Blk.new w2 40 [.int .u8 op, .int .u8 d, .int .u8 a, .int .u8 b, .int .u32 J]).cell j
          rw [hu] at h3
          rw [show (⟨w2.heap.size, 0, none⟩ : Addr).add j = ⟨w2.heap.size, j, none⟩ by rw [Addr.add_mid, Nat.zero_add]]
          exact h3)
        have HO3 : Hid (∀ u ∈ [Value.int .u8 op, .int .u8 d, .int .u8 a, .int .u8 b, .int .u32 J], u.oneCell' = true) := Lib.hid (by
          intro u hu
          simp only [List.mem_cons, List.not_mem_nil, or_false] at hu
          rcases hu with rfl | rfl | rfl | rfl | rfl <;> rfl)
        have HM3 : Hid (k + 1 ≤ maxLen) := Lib.hid (by unfold maxLen; omega)
        have HY3 : Hid ((k + 1) * 8 ≤ 140737488355328) := Lib.hid (by omega)
        have HS3 := Lib.hid (HB3.out.size)
        clear q hnb HB2 HR2 HX2 HPLx y0 y1 y2 y3 y4 y5 y6 y7
        go_wp2_with (at_builtin; refine wpList_append_own _ rfl _ _ 87 rfl W.heap.size 40 i0 _ 5 8 Tryd.underlying87 HI.out.1 HI.out.2.1 HI.out.2.2.1 HI.out.2.2.2 rfl (by decide) _ k _ rfl HR3.out ⟨w2.heap.size, 0, none⟩ 1 1 [.int .u8 op, .int .u8 d, .int .u8 a, .int .u8 b, .int .u32 J] rfl rfl HN3.out HO3.out HM3.out HY3.out HS3.out ?_)
        intro v3 w3 h6 h7 _
        have HB4 := Lib.hid (HB3.out.grown h7 HB3.out.size (fun q hq => (World.ownsRow.lt HR3.out q hq).1))
        have HR4 : Hid (w3.ownsRow W.heap.size 40 5 v3 (k + 1) (flat (fun j => inL (l.getD j Ln.nought)) (k + 1))) := Lib.hid (by rw [HFM.out]; exact h6)
        clear h6 h7 HB3 HR3 HN3 HO3 HM3 HY3 HS3 HFM
        go_wp2_with fail
        go_roundw
        case rel => exact ⟨k + 1, by omega, by go_num, HR4, HB4, HOO⟩
        case measure => simp [intOf]; omega
    · obtain rfl : k = n := by omega
      have hSl := slC_of_row (cs := fun j => inL (l.getD j Ln.nought)) (z := 5) (fun _ _ => rfl) hR.out
      have HAL := Lib.hid (HALL.out hO.out _ wr hSl hb.out)
      have HY := Lib.hid (HYES.out hO.out)
      have HGr := Lib.hid (HG.out.below hb.out HG.out.lt)
      clear hSl hlt hk hR hO HALL HYES HNO HIS HPL H2
      go_wp2_with fail
      refine HAL.out.mono ?_
      rintro e w1 ⟨rfl, q⟩
      have HG1 := Lib.hid (HGr.out.call q)
      have HB1 := Lib.hid (below_call hb.out q)
      clear q HAL HGr hb
      have f3 : w1.frozen? ⟨g, 3, none⟩ = false := HG1.out.frozen 3
      have f4 : w1.frozen? ⟨g, 4, none⟩ = false := HG1.out.frozen 4
      have hlt : g < w1.heap.size := HG1.out.lt
      obtain ⟨y0, y1, y2, y3, y4, y5, y6, y7⟩ := HG1.out.eight
      go_upto_region 10 with (fail)
      have HG2 : Hid (Blk (w1.setCell ⟨g, 4, none⟩ (.string BS)) g 65 [c0, c1, c2, c3, .string BS, c5, c6, c7]) := Lib.hid (HG1.out.set_ 4 (.string BS))
      have q2 := gb8 (gb_of HB1.out (some g)) (grown_set w1 g 4 (.string BS))
      obtain ⟨w2, hw2⟩ : ∃ w2, w2 = w1.setCell ⟨g, 4, none⟩ (.string BS) := ⟨_, rfl⟩
      rw [← hw2] at HG2 q2 ⊢
      have Q2 := Lib.hid q2
      clear hw2 q2 HG1 HB1 f3 f4 hlt y0 y1 y2 y3 y4 y5 y6 y7
      have hszi : (BS.size : Int) = 8 * (k : Int) := by have := HSZ.out; omega
      have y4 := HG2.out.eight.2.2.2.2.1
      have y3 := HG2.out.eight.2.2.2.1
      have f3 : w2.frozen? ⟨g, 3, none⟩ = false := HG2.out.frozen 3
      have hlt : g < w2.heap.size := HG2.out.lt
      have HFIN := Lib.hid (HY.out _ (gb8 Q2.out (grown_set w2 g 3 (.int .u32 (8 * (k : Int))))) (HG2.out.set_ 3 (.int .u32 (8 * (k : Int)))))
      clear HSZ HY HG2 Q2
      go_wp2_with fail
      go_ret
      exact HFIN.out
end Go.Proofs.YtlnnhgmkibjgmaaDoor
end

/- The maker's label: a map from each label to where its line is. -/
section
set_option linter.unusedVariables false
set_option linter.unusedSimpArgs false
namespace Go.Proofs.YtlnnhgmkibjgmaaDoor
open Go Go.RowKit Go.Maps Oj Al

/-- The line ahead of the k-th that has that label. -/
def labM (l : List Ln) (k : Nat) (s : List UInt8) : Option Nat := if s = [] then none else (List.range k).find? fun j => decide ((l.getD j Ln.nought).label = s)
theorem labM_skip {l : List Ln} {k : Nat} (h : (l.getD k Ln.nought).label = []) (s : List UInt8) : labM l (k + 1) s = labM l k s := by
  unfold labM
  split
  · rfl
  · rename_i hs
    rw [List.range_succ, List.find?_append]
    cases (List.range k).find? fun j => decide ((l.getD j Ln.nought).label = s) with
    | some j => rfl
    | none =>
      simp only [Option.none_or, List.find?_cons, List.find?_nil, h]
      rw [decide_eq_false (fun e => hs e.symm)]
theorem labM_new {l : List Ln} {k : Nat} (h0 : (l.getD k Ln.nought).label ≠ []) (h : labM l k (l.getD k Ln.nought).label = none) (s : List UInt8) : labM l (k + 1) s = if s = (l.getD k Ln.nought).label then some k else labM l k s := by
  by_cases hs : s = (l.getD k Ln.nought).label
  · rw [if_pos hs]
    subst hs
    unfold labM at h ⊢
    rw [if_neg h0] at h ⊢
    rw [List.range_succ, List.find?_append, h]
    simp
  · rw [if_neg hs]
    unfold labM
    split
    · rfl
    · rw [List.range_succ, List.find?_append]
      cases (List.range k).find? fun j => decide ((l.getD j Ln.nought).label = s) with
      | some j => rfl
      | none =>
        simp only [Option.none_or, List.find?_cons, List.find?_nil]
        rw [decide_eq_false (fun e => hs e.symm)]
theorem labM_lt {l : List Ln} {k j : Nat} {s : List UInt8} (h : labM l k s = some j) : j < k ∧ (l.getD j Ln.nought).label = s ∧ ∀ i, i < j → (l.getD i Ln.nought).label ≠ s := by
  unfold labM at h
  split at h
  · cases h
  · rw [List.find?_range_eq_some] at h
    obtain ⟨h1, h2, h3⟩ := h
    exact ⟨by simpa using h2, by simpa using h1, fun i hi => by simpa using h3 i hi⟩
theorem lbl_dup {l : List Ln} {k j : Nat} (hk : k < l.length) (h0 : (l.getD k Ln.nought).label ≠ []) (h : labM l k (l.getD k Ln.nought).label = some j) : lblOk l k = false := by
  obtain ⟨h1, h2, h3⟩ := labM_lt h
  have h4 := findL_at (l := l) (k := j) (by omega) h2 h3
  unfold lblOk
  rw [h4, decide_eq_false h0, decide_eq_false (by intro e; injection e with e; omega)]
  rfl
theorem lbl_none {l : List Ln} {k : Nat} (h0 : (l.getD k Ln.nought).label = []) : lblOk l k = true := by unfold lblOk; rw [decide_eq_true h0]; rfl
theorem lbl_new {l : List Ln} {k : Nat} (hk : k < l.length) (h0 : (l.getD k Ln.nought).label ≠ []) (h : labM l k (l.getD k Ln.nought).label = none) : lblOk l k = true := by
  have h4 : findL l (l.getD k Ln.nought).label = some k := by
    refine findL_at hk rfl fun j hj => ?_
    unfold labM at h
    rw [if_neg h0, List.find?_range_eq_none] at h
    simpa using h j hj
  unfold lblOk
  rw [h4, decide_eq_true rfl, Bool.or_true]

theorem wfU32 {a : Int} (h0 : 0 ≤ a) (h1 : a < 4294967296) : (Lit.int .u32 a).wf = true := by
  have e1 : IntKind.u32.min = 0 := rfl
  have e2 : IntKind.u32.max = 4294967295 := rfl
  simp only [Lit.wf, e1, e2, Bool.and_eq_true, decide_eq_true_eq]
  omega
theorem keyedS : Keyed Tryd.prog 9 := string_keyed Tryd.underlying9
theorem isKeyS (s : List UInt8) : WideAt.IsKeyLit (.string s) := by trivial
theorem zeroU (w : World) : (zeroValue 26).run Tryd.prog w = .ok (.int .u32 0) w := by kernel_rfl
/-- Block b is a map of at most n entries: to each text that M knows, eight times its number. -/
def LabIs (w : World) (b n : Nat) (M : List UInt8 → Option Nat) : Prop :=
  ∃ D : DataW Unit, w.ownsMap Tryd.prog 9 (plainElem Tryd.prog 26) b n D ∧ ∀ s, D.atKey (.string s) (.lit (.int .u32 0)) = .lit (.int .u32 (8 * ((M s).getD 0 : Nat))) ∧ Maps.has D (.string s) = (M s).isSome
theorem LabIs.look {w : World} {b n : Nat} {M : List UInt8 → Option Nat} (h : LabIs w b n M) (t : ByteArray) (ht : t.size ≤ 140737488355328) :
    (Instr.lookup 63 (.map (some b)) (.string t) true).run Tryd.prog w = .ok (.tuple #[.int .u32 (8 * ((M (by' t)).getD 0 : Nat)), .bool (M (by' t)).isSome]) w := by
  obtain ⟨D, hown, hD⟩ := h
  obtain ⟨v, ps, hrun, hv⟩ := hown.look_ok keyedS Tryd.underlying63 (zeroU w) (zd := .lit (.int .u32 0)) (zp := []) (plainElem_int Tryd.underlying26 (by decide)) (Go.WideMaps.keyOf_string_mk Tryd.underlying9 (by unfold maxLen; omega) : keyOf Tryd.prog 9 (.string t) = some (.string t.data.toList))
  rw [hrun]
  rw [(hD t.data.toList).1] at hv
  obtain ⟨c, rfl, hc, _⟩ := plainElem_int_inv Tryd.underlying26 hv
  simp only [Prod.mk.injEq, DataW.lit.injEq, Lit.int.injEq, true_and] at hc
  rw [(hD t.data.toList).2]
  have e : t.data.toList = by' t := rfl
  rw [e] at hc ⊢
  rw [← hc.1]
theorem LabIs.lt {w : World} {b n : Nat} {M : List UInt8 → Option Nat} (h : LabIs w b n M) : b < w.heap.size := by
  obtain ⟨D, hown, _⟩ := h; exact hown.lt
theorem LabIs.kept {w w' : World} {b n : Nat} {M : List UInt8 → Option Nat} {row : Option Nat} (h : LabIs w b n M) (hg : w.grownBy w' row) (hne : some b ≠ row) : LabIs w' b n M := by
  obtain ⟨D, hown, r⟩ := h
  exact ⟨D, hown.kept hg hne, r⟩
theorem LabIs.below {w w' : World} {b n : Nat} {M : List UInt8 → Option Nat} (h : LabIs w b n M) (hb : Below w.heap.size w w') : LabIs w' b n M := h.kept (gb_of hb none) (by simp)
theorem LabIs.made (w : World) : LabIs (w.alloc (.map #[] 0)) w.heap.size 0 (fun _ => none) :=
  ⟨.map [], World.ownsMap_made w _ _ _, fun s => ⟨rfl, rfl⟩⟩
theorem LabIs.to {w : World} {b n : Nat} {M M' : List UInt8 → Option Nat} (h : LabIs w b n M) (he : ∀ s, M' s = M s) : LabIs w b n M' := by
  obtain ⟨D, hown, r⟩ := h
  exact ⟨D, hown, fun s => by rw [he s]; exact r s⟩
theorem LabIs.mono {w : World} {b n n' : Nat} {M : List UInt8 → Option Nat} (h : LabIs w b n M) (hn : n ≤ n') : LabIs w b n' M := by
  obtain ⟨D, hown, r⟩ := h
  exact ⟨D, hown.mono hn, r⟩
/-- A label more, at the operation. -/
theorem wpList_lab {w : World} {ops : Array Oper} {rest : List Oper} {o : Oper} {a : Act} {Q : Exit → Act → World → Prop}
    (hg : o.guard = none) (m x v : Operand) (hop : o.op = Op.mapUpdate 63 m x v) (b n i : Nat) (M : List UInt8 → Option Nat) (hm : a.eval m = .map (some b)) (h : LabIs w b n M) (hn : n < maxLen)
    (t : ByteArray) (ht : t.size ≤ 140737488355328) (hx : a.eval x = .string t) (hv : a.eval v = .int .u32 (8 * (i : Int))) (hi : i ≤ 1024)
    (hK : ∀ w', LabIs w' b (n + 1) (fun s => if s = by' t then some i else M s) → w.grownBy w' (some b) → wpList Tryd.prog ops Q rest (a.put o.dst undef) w') :
    wpList Tryd.prog ops Q (o :: rest) a w := by
  obtain ⟨D, hown, hD⟩ := h
  have hw : (Lit.int .u32 (8 * (i : Int))).wf = true := wfU32 (by omega) (by omega)
  refine wpList_mapUpdate_own w hg m x v 63 hop 9 26 keyedS Tryd.underlying63 (plainElem Tryd.prog 26) b n D hm hown hn _ _ _ hx hv (Go.WideMaps.keyOf_string_mk Tryd.underlying9 (by unfold maxLen; omega)) (.lit (.int .u32 (8 * (i : Int)))) [] (plainElem_int Tryd.underlying26 hw) ?_
  intro w' h1 h2
  refine hK w' ⟨_, h1, fun s => ?_⟩ h2
  have e : t.data.toList = by' t := rfl
  rw [e]
  dsimp only
  by_cases hs : s = by' t
  · rw [if_pos hs, hs]
    exact ⟨atKey_put_same hown.isMap (isKeyS _) _ _, has_put_same hown.isMap (isKeyS _) _⟩
  · rw [if_neg hs, atKey_put_other (by simpa using hs), has_put_other (by simpa using hs)]
    exact hD s
theorem gb_far {a b c : World} {g : Option Nat} {r : Nat} (h : a.grownBy b g) (h2 : b.grownBy c (some r)) (hr : a.heap.size ≤ r) : a.grownBy c g :=
  ⟨h2.os.trans h.os, h2.tape.trans h.tape, h2.output.trans h.output, Nat.le_trans h.size h2.size, fun k hk hn => (h2.block k (Nat.lt_of_lt_of_le hk h.size) (by intro e; cases e; omega)).trans (h.block k hk hn)⟩
end Go.Proofs.YtlnnhgmkibjgmaaDoor
end
