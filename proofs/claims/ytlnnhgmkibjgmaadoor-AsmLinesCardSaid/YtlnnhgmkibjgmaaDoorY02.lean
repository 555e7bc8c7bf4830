/- AsmLines, walked. -/
import Derived.Test.YtlnnhgmkibjgmaaDoorX43
import Derived.Test.YtlnnhgmkibjgmaaDoorY01
import Derived.Test.YtlnnhgmkibjgmaaDoorQT
import Derived.Test.YtlnnhgmkibjgmaaDoorX35
import Derived.BigQuiet
import Derived.Deep.DeepCutAuto
import Derived.Deep.RegionHeld3
import Derived.Lib.AppendZeros
set_option linter.unusedVariables false
set_option linter.unusedSimpArgs false
namespace Go.Proofs.YtlnnhgmkibjgmaaDoor
open Go Go.RowKit Oj Al

theorem wpList_append_sl {P : Program} {w : World} {ops : Array Oper} {rest : List Oper} {o : Oper} {a : Act} {Q : Exit → Act → World → Prop} (hgd : o.guard = none) (s x : Operand) (t : TypeId)
    (ho : o.op = .call { callee := .builtin .append, args := #[s, x], argTypes := #[t, t] })
    (B : Nat) (e : TypeId) (i : TypeInfo) (z : Value) (size bytes : Nat) (ht : P.underlying t = some (.slice e)) (hi : P.info? e = some i) (hz : i.zero = some z)
    (hsize : i.size = size) (hby : i.bytes = bytes) (hzs : z.cells.size = size) (hsz : 0 < size)
    (v1 : Value) (n : Nat) (xs : List Value) (hs : a.eval s = v1) (hown : w.ownsRow B e size v1 n xs) (v : Value) (m : Nat) (cs : Nat → List Value) (hx : a.eval x = v) (hv : SlC w v m size cs) (hcs : ∀ j, j < m → (cs j).length = size)
    (h1 : ∀ j, j < m → ∀ u ∈ cs j, u.oneCell' = true) (hb1 : n + m ≤ maxLen) (hbytes : (n + m) * bytes ≤ 140737488355328) (hB : B ≤ w.heap.size)
    (h : ∀ v' w', w'.ownsRow B e size v' (n + m) (xs ++ flat cs m) → w.grownBy w' v1.ownBlock → wpList P ops Q rest (a.put o.dst v') w') : wpList P ops Q (o :: rest) a w := by
  obtain ⟨ao, c, rfl, h2⟩ := hv
  cases ao with
  | none =>
    have hm0 : m = 0 := by
      rcases Nat.eq_zero_or_pos m with h0 | h0
      · exact h0
      · obtain ⟨b, o, h3, _⟩ := h2 h0; cases h3
    subst hm0
    have hrun : (Builtin.append_ #[t, t] o.type #[v1, .slice none 0 c]).run P w = .ok v1 w := by
      rcases hown.2 with ⟨hv, _⟩ | ⟨g, cap, cur, hv, _, _, hnc, _⟩
      · rw [hv]
        simp [Builtin.append_, run_underlying ht, sizeOf, typeInfo, hi, Builtin.lenOf, Builtin.firstCells]
      · rw [hv]
        simp [Builtin.append_, run_underlying ht, sizeOf, typeInfo, hi, Builtin.lenOf, Builtin.firstCells, hnc, storeCells]
    refine Lib.wpList_append_run w hgd s x t t ho _ _ hs hx _ _ hrun (h _ _ ?_ ⟨rfl, rfl, rfl, Nat.le_refl _, fun _ _ _ => rfl⟩)
    rw [flat, List.append_nil]
    exact hown
  | some ad =>
    refine wpList_append_own w hgd s x t ho B e i z size bytes ht hi hz hsize hby hzs hsz v1 n xs hs hown ad m c (flat cs m) hx (flat_length m hcs) ?_ (flat_all m h1) hb1 hbytes hB (fun v' w' h6 h7 _ => h v' w' h6 h7)
    intro q u hm
    obtain ⟨j, i', hj, rfl, hi', hu⟩ := flat_at m hcs q u hm
    obtain ⟨b, o', h3, h4, h5⟩ := h2 (by omega)
    cases h3
    rw [Addr.add_mid, ← Nat.add_assoc]
    exact h5 j hj i' u hu
def cells13 (op d a b im : Int) (T N : ByteArray) : List Value := [[.string ⟨#[]⟩, .int .u8 op, .int .u8 d, .int .u8 a, .int .u8 b, .int .u32 0, .string ⟨#[]⟩, .string ⟨#[]⟩],
  [.string ⟨#[]⟩, .int .u8 op, .int .u8 d, .int .u8 a, .int .u8 0, .int .u32 im, .string ⟨#[]⟩, .string ⟨#[]⟩],
  [.string ⟨#[]⟩, .int .u8 32, .int .u8 d, .int .u8 0, .int .u8 0, .int .u32 im, .string ⟨#[]⟩, .string ⟨#[]⟩],
  [.string ⟨#[]⟩, .int .u8 32, .int .u8 d, .int .u8 0, .int .u8 0, .int .u32 im, .string ⟨#[]⟩, .string N],
  [.string ⟨#[]⟩, .int .u8 op, .int .u8 d, .int .u8 a, .int .u8 0, .int .u32 im, .string ⟨#[]⟩, .string ⟨#[]⟩],
  [.string ⟨#[]⟩, .int .u8 op, .int .u8 0, .int .u8 a, .int .u8 b, .int .u32 im, .string ⟨#[]⟩, .string ⟨#[]⟩],
  [.string ⟨#[]⟩, .int .u8 op, .int .u8 d, .int .u8 0, .int .u8 0, .int .u32 im, .string ⟨#[]⟩, .string N],
  [.string ⟨#[]⟩, .int .u8 op, .int .u8 0, .int .u8 0, .int .u8 b, .int .u32 im, .string ⟨#[]⟩, .string N],
  [.string ⟨#[]⟩, .int .u8 40, .int .u8 0, .int .u8 0, .int .u8 0, .int .u32 0, .string T, .string ⟨#[]⟩],
  [.string ⟨#[]⟩, .int .u8 op, .int .u8 0, .int .u8 a, .int .u8 b, .int .u32 0, .string T, .string ⟨#[]⟩],
  [.string ⟨#[]⟩, .int .u8 41, .int .u8 15, .int .u8 0, .int .u8 0, .int .u32 0, .string ⟨#[]⟩, .string N],
  [.string ⟨#[]⟩, .int .u8 42, .int .u8 0, .int .u8 15, .int .u8 0, .int .u32 0, .string ⟨#[]⟩, .string ⟨#[]⟩],
  [.string ⟨#[]⟩, .int .u8 50, .int .u8 0, .int .u8 0, .int .u8 0, .int .u32 im, .string ⟨#[]⟩, .string ⟨#[]⟩]].flatten
def want13 (op d a b im : Int) (dst nam : List UInt8) : List Ln := [⟨[], op, d, a, b, 0, [], []⟩, ⟨[], op, d, a, 0, im, [], []⟩, ⟨[], 32, d, 0, 0, im, [], []⟩, ⟨[], 32, d, 0, 0, im, [], nam⟩, ⟨[], op, d, a, 0, im, [], []⟩, ⟨[], op, 0, a, b, im, [], []⟩, ⟨[], op, d, 0, 0, im, [], nam⟩, ⟨[], op, 0, 0, b, im, [], nam⟩, ⟨[], 40, 0, 0, 0, 0, dst, []⟩, ⟨[], op, 0, a, b, 0, dst, []⟩, ⟨[], 41, 15, 0, 0, 0, [], nam⟩, ⟨[], 42, 0, 15, 0, 0, [], []⟩, ⟨[], 50, 0, 0, 0, im, [], []⟩]
theorem want_cells (op d a b im : Int) (dst nam : List UInt8) (T N : ByteArray) (hT : T = tx dst) (hN : N = tx nam) : flatL lnCells Ln.nought (want13 op d a b im dst nam) = (cells13 op d a b im T N) := by
  subst hT hN
  rfl
theorem lines_blk {w : World} {g : Nat} {L : List Ln} {c : Nat} {cs : List Value} (h : Blk w g 42 cs) (hc : flatL lnCells Ln.nought L = cs) : LinesAt w (.slice (some ⟨g, 0, none⟩) L.length c) L :=
  ⟨_, c, rfl, fun _ => ⟨g, 0, rfl, h.lt, fun j hj i u hu => by
    have hi : i < 8 := (List.getElem?_eq_some_iff.1 hu).1
    rw [show (0 + j * 8 + i) = j * 8 + i by omega, h.cell (j * 8 + i), ← hc, flatL_at L j i hj hi]
    exact hu⟩⟩
set_option maxHeartbeats 32000000 in
set_option maxRecDepth 100000 in
theorem alines_any (x : Ln) (hfx : lnFits x) (l m : List Ln) (vl vm : Value) (w : World) (hL : LinesAt w vl l) (hM : LinesAt w vm m) (hlf : lnsFit l) (hmf : lnsFit m) (hT : I.Tabled w) :
    Calls Tryd.prog 5 #[lnV x, vl, vm] w fun e w' => e = .returned (.bool true) ∧ Below w.heap.size w w' := by
  obtain ⟨al, cl, hvl⟩ : ∃ al cl, vl = .slice al l.length cl := by obtain ⟨a, c, h, _⟩ := id hL; exact ⟨a, c, h⟩
  obtain ⟨am, cm, hvm⟩ : ∃ al cl, vm = .slice al m.length cl := by obtain ⟨a, c, h, _⟩ := id hM; exact ⟨a, c, h⟩
  subst hvl hvm
  have HAl : Hid (∀ W, Below w.heap.size w W → Calls Tryd.prog 8 #[] W fun e w' => e = .returned (.bool true) ∧ Below W.heap.size W w') := Lib.hid (fun W hW => aalive_any asmOK W (hT.below hW))
  have HL1 : Hid (∀ W, Below w.heap.size w W → Calls Tryd.prog 7 #[.slice al l.length cl, .slice none 0 0] W (LongPost l.length 0 W)) := Lib.hid (fun W hW => long_any l _ none 0 0 W (SlC.below hL hW (Nat.le_refl _)) hlf (Nat.zero_le _))
  have HL2 : Hid (∀ W, Below w.heap.size w W → Calls Tryd.prog 7 #[.slice am m.length cm, .slice none 0 0] W (LongPost m.length 0 W)) := Lib.hid (fun W hW => long_any m _ none 0 0 W (SlC.below hM hW (Nat.le_refl _)) hmf (Nat.zero_le _))
  have hone : lnsFit [x] := ⟨by simp, fun j hj => by
    obtain rfl : j = 0 := by simp at hj; exact hj
    exact hfx⟩
  have HL3 := Lib.hid (fun (W : World) => long_any [x] _ none 0 0 (W.alloc (.cells #[.string (tx x.label), .int .u8 x.op, .int .u8 x.d, .int .u8 x.a, .int .u8 x.b, .int .u32 x.im, .string (tx x.to), .string (tx x.name)] 42)) (lines_one W x) hone (Nat.zero_le _))
  unfold LongPost at HL1 HL2 HL3
  obtain ⟨lb, op, d, a, b, im, dst, nam⟩ := x
  have HFX := Lib.hid hfx
  obtain ⟨f1, ⟨o0, o1⟩, ⟨d0, d1⟩, ⟨a0, a1⟩, ⟨b0, b1⟩, ⟨i0, i1⟩, f7, f8⟩ := hfx
  unfold lnV
  simp only at HL3 f1 o0 o1 d0 d1 a0 a1 b0 b1 i0 i1 f7 f8 ⊢
  obtain ⟨L, hL0⟩ : ∃ L, L = tx lb := ⟨_, rfl⟩
  obtain ⟨T, hT0⟩ : ∃ L, L = tx dst := ⟨_, rfl⟩
  obtain ⟨N, hN0⟩ : ∃ L, L = tx nam := ⟨_, rfl⟩
  rw [← hL0, ← hT0, ← hN0] at HL3 ⊢
  have hTs : T.size ≤ 140737488355328 := by rw [hT0]; exact f7
  have hNs : N.size ≤ 140737488355328 := by rw [hN0]; exact f8
  have HWC := Lib.hid (want_cells op d a b im dst nam T N hT0 hN0)
  have HML := Lib.hid (And.intro hL (And.intro hM (And.intro hlf hmf)))
  have HX0 := Lib.hid (Blk.new w 42 [.string L, .int .u8 op, .int .u8 d, .int .u8 a, .int .u8 b, .int .u32 im, .string T, .string N])
  have B0 := Lib.hid (below_new1 w (.cells #[.string L, .int .u8 op, .int .u8 d, .int .u8 a, .int .u8 b, .int .u32 im, .string T, .string N] 42))
  have HLT := Lib.hid (And.intro hL0 (And.intro hT0 hN0))
  clear hL0 hT0 hN0 hone f1 f7 f8 o0 o1 d0 d1 a0 a1 b0 b1 i0 i1 hL hM hlf hmf hT
  go_enter Tryd.func5, Tryd.ntmps5
  go_wp2_with fail
  refine (HL1.out _ B0.out).mono ?_; rintro e w1 ⟨b1, rfl, hb1, q1⟩
  have B1 := Lib.hid (below_call B0.out q1)
  have X1 := Lib.hid (HX0.out.call q1)
  clear q1 HX0 B0 HL1
  cases b1
  case true =>
    go_wp2_with fail
    refine (HAl.out _ B1.out).mono ?_; rintro e w9 ⟨rfl, q9⟩
    have B9 := Lib.hid (below_call B1.out q9)
    clear q9
    go_wp2_with fail
    go_ret
    exact ⟨rfl, B9.out⟩

  have HB1 := Lib.hid (hb1 rfl).1
  clear hb1
  go_wp2_with fail
  refine (HL2.out _ B1.out).mono ?_; rintro e w2 ⟨b2, rfl, hb2, q2⟩
  have B2 := Lib.hid (below_call B1.out q2)
  have X2 := Lib.hid (X1.out.call q2)
  clear q2 X1 B1 HL2
  cases b2
  case true =>
    go_wp2_with fail
    refine (HAl.out _ B2.out).mono ?_; rintro e w9 ⟨rfl, q9⟩
    have B9 := Lib.hid (below_call B2.out q9)
    clear q9
    go_wp2_with fail
    go_ret
    exact ⟨rfl, B9.out⟩

  have HB2 := Lib.hid (hb2 rfl).1
  clear hb2
  obtain ⟨y0, y1, y2, y3, y4, y5, y6, y7⟩ := X2.out.eight
  go_wp2_with fail
  refine (HL3.out w2).mono ?_; rintro e w3 ⟨b3, rfl, hb3, q3⟩
  have q33 := below_call (below_new1 w2 (.cells #[.string L, .int .u8 op, .int .u8 d, .int .u8 a, .int .u8 b, .int .u32 im, .string T, .string N] 42)) q3
  have B3 := Lib.hid (below_call B2.out q33)
  have X3 := Lib.hid (X2.out.call q33)
  clear q3 q33 X2 B2 HL3 hb3 y0 y1 y2 y3 y4 y5 y6 y7
  cases b3
  case true =>
    go_wp2_with fail
    refine (HAl.out _ B3.out).mono ?_; rintro e w9 ⟨rfl, q9⟩
    have B9 := Lib.hid (below_call B3.out q9)
    clear q9
    go_wp2_with fail
    go_ret
    exact ⟨rfl, B9.out⟩

  obtain ⟨y0, y1, y2, y3, y4, y5, y6, y7⟩ := X3.out.eight
  go_upto_region 3 with (fail)
  go_quiet (fail)
  have B4 := Lib.hid (below_drew B3.out nq)
  have X4 : Hid (Blk (w3.drewN nq) w.heap.size 42 [.string L, .int .u8 op, .int .u8 d, .int .u8 a, .int .u8 b, .int .u32 im, .string T, .string N]) := Lib.hid X3.out
  obtain ⟨w4, hw4⟩ : ∃ t, t = w3.drewN nq := ⟨_, rfl⟩
  rw [← hw4] at B4 X4 ⊢
  clear hw4 B3 X3 y0 y1 y2 y3 y4 y5 y6 y7
  obtain ⟨y0, y1, y2, y3, y4, y5, y6, y7⟩ := X4.out.eight
  have G5 := Lib.hid (Blk.new w4 42 (cells13 op d a b im T N))
  have hnb := below_new1 w4 (.cells (cells13 op d a b im T N).toArray 42)
  have B5 := Lib.hid (below_call B4.out hnb)
  have X5 := Lib.hid (X4.out.call hnb)
  go_upto_region 5 with (fail)
  clear hnb B4 X4 y0 y1 y2 y3 y4 y5 y6 y7
  change Code.wp _ _ _ _ (w4.alloc (.cells (cells13 op d a b im T N).toArray 42))
  obtain ⟨gw, hgw⟩ : ∃ t, t = w4.heap.size := ⟨_, rfl⟩
  obtain ⟨w5, hw5⟩ : ∃ t, t = w4.alloc (.cells (cells13 op d a b im T N).toArray 42) := ⟨_, rfl⟩
  rw [← hw5] at G5 B5 X5 ⊢
  rw [← hgw] at G5 ⊢
  clear hw5 hgw
  have HCb : Hid (∀ W', Below w5.heap.size w5 W' → W'.cell? ⟨w.heap.size, 6, none⟩ = some (.string T) ∧ W'.cell? ⟨w.heap.size, 7, none⟩ = some (.string N)) := Lib.hid (fun W' hW => ⟨(X5.out.below hW X5.out.lt).cell 6, (X5.out.below hW X5.out.lt).cell 7⟩)
  have HK0 : Hid (∀ W', Below w5.heap.size w5 W' → Calls Tryd.prog 15 #[.int .u8 op, .int .u8 d, .int .u8 a, .int .u8 b] W' fun e w' => e = .returned (.agg #[.string ⟨#[]⟩, .int .u8 op, .int .u8 d, .int .u8 a, .int .u8 b, .int .u32 0, .string ⟨#[]⟩, .string ⟨#[]⟩]) ∧ Below w5.heap.size w5 w') := Lib.hid (fun W' hW => (ar_raw op d a b W').mono (fun e w' h => ⟨h.1, below_call hW h.2⟩))
  have HK1 : Hid (∀ W', Below w5.heap.size w5 W' → Calls Tryd.prog 16 #[.int .u8 op, .int .u8 d, .int .u8 a, .int .u32 im] W' fun e w' => e = .returned (.agg #[.string ⟨#[]⟩, .int .u8 op, .int .u8 d, .int .u8 a, .int .u8 0, .int .u32 im, .string ⟨#[]⟩, .string ⟨#[]⟩]) ∧ Below w5.heap.size w5 w') := Lib.hid (fun W' hW => (ai_raw op d a im W').mono (fun e w' h => ⟨h.1, below_call hW h.2⟩))
  have HK2 : Hid (∀ W', Below w5.heap.size w5 W' → Calls Tryd.prog 17 #[.int .u8 d, .int .u32 im] W' fun e w' => e = .returned (.agg #[.string ⟨#[]⟩, .int .u8 32, .int .u8 d, .int .u8 0, .int .u8 0, .int .u32 im, .string ⟨#[]⟩, .string ⟨#[]⟩]) ∧ Below w5.heap.size w5 w') := Lib.hid (fun W' hW => (ali_raw d im W').mono (fun e w' h => ⟨h.1, below_call hW h.2⟩))
  have HK3 : Hid (∀ W', Below w5.heap.size w5 W' → Calls Tryd.prog 18 #[.int .u8 d, .string N, .int .u32 im] W' fun e w' => e = .returned (.agg #[.string ⟨#[]⟩, .int .u8 32, .int .u8 d, .int .u8 0, .int .u8 0, .int .u32 im, .string ⟨#[]⟩, .string N]) ∧ Below w5.heap.size w5 w') := Lib.hid (fun W' hW => (ala_raw N d im hNs W').mono (fun e w' h => ⟨h.1, below_call hW h.2⟩))
  have HK4 : Hid (∀ W', Below w5.heap.size w5 W' → Calls Tryd.prog 19 #[.int .u8 op, .int .u8 d, .int .u8 a, .int .u32 im] W' fun e w' => e = .returned (.agg #[.string ⟨#[]⟩, .int .u8 op, .int .u8 d, .int .u8 a, .int .u8 0, .int .u32 im, .string ⟨#[]⟩, .string ⟨#[]⟩]) ∧ Below w5.heap.size w5 w') := Lib.hid (fun W' hW => (ald_raw op d a im W').mono (fun e w' h => ⟨h.1, below_call hW h.2⟩))
  have HK5 : Hid (∀ W', Below w5.heap.size w5 W' → Calls Tryd.prog 20 #[.int .u8 op, .int .u8 b, .int .u8 a, .int .u32 im] W' fun e w' => e = .returned (.agg #[.string ⟨#[]⟩, .int .u8 op, .int .u8 0, .int .u8 a, .int .u8 b, .int .u32 im, .string ⟨#[]⟩, .string ⟨#[]⟩]) ∧ Below w5.heap.size w5 w') := Lib.hid (fun W' hW => (ast_raw op b a im W').mono (fun e w' h => ⟨h.1, below_call hW h.2⟩))
  have HK6 : Hid (∀ W', Below w5.heap.size w5 W' → Calls Tryd.prog 21 #[.int .u8 op, .int .u8 d, .string N, .int .u32 im] W' fun e w' => e = .returned (.agg #[.string ⟨#[]⟩, .int .u8 op, .int .u8 d, .int .u8 0, .int .u8 0, .int .u32 im, .string ⟨#[]⟩, .string N]) ∧ Below w5.heap.size w5 w') := Lib.hid (fun W' hW => (aldat_raw N op d im hNs W').mono (fun e w' h => ⟨h.1, below_call hW h.2⟩))
  have HK7 : Hid (∀ W', Below w5.heap.size w5 W' → Calls Tryd.prog 22 #[.int .u8 op, .int .u8 b, .string N, .int .u32 im] W' fun e w' => e = .returned (.agg #[.string ⟨#[]⟩, .int .u8 op, .int .u8 0, .int .u8 0, .int .u8 b, .int .u32 im, .string ⟨#[]⟩, .string N]) ∧ Below w5.heap.size w5 w') := Lib.hid (fun W' hW => (astat_raw N op b im hNs W').mono (fun e w' h => ⟨h.1, below_call hW h.2⟩))
  have HK8 : Hid (∀ W', Below w5.heap.size w5 W' → Calls Tryd.prog 23 #[.string T] W' fun e w' => e = .returned (.agg #[.string ⟨#[]⟩, .int .u8 40, .int .u8 0, .int .u8 0, .int .u8 0, .int .u32 0, .string T, .string ⟨#[]⟩]) ∧ Below w5.heap.size w5 w') := Lib.hid (fun W' hW => (ajmp_raw T hTs W').mono (fun e w' h => ⟨h.1, below_call hW h.2⟩))
  have HK9 : Hid (∀ W', Below w5.heap.size w5 W' → Calls Tryd.prog 24 #[.int .u8 op, .int .u8 a, .int .u8 b, .string T] W' fun e w' => e = .returned (.agg #[.string ⟨#[]⟩, .int .u8 op, .int .u8 0, .int .u8 a, .int .u8 b, .int .u32 0, .string T, .string ⟨#[]⟩]) ∧ Below w5.heap.size w5 w') := Lib.hid (fun W' hW => (abr_raw T op a b hTs W').mono (fun e w' h => ⟨h.1, below_call hW h.2⟩))
  have HK10 : Hid (∀ W', Below w5.heap.size w5 W' → Calls Tryd.prog 25 #[.string N] W' fun e w' => e = .returned (.agg #[.string ⟨#[]⟩, .int .u8 41, .int .u8 15, .int .u8 0, .int .u8 0, .int .u32 0, .string ⟨#[]⟩, .string N]) ∧ Below w5.heap.size w5 w') := Lib.hid (fun W' hW => (acall_raw N hNs W').mono (fun e w' h => ⟨h.1, below_call hW h.2⟩))
  have HK11 : Hid (∀ W', Below w5.heap.size w5 W' → Calls Tryd.prog 26 #[] W' fun e w' => e = .returned (.agg #[.string ⟨#[]⟩, .int .u8 42, .int .u8 0, .int .u8 15, .int .u8 0, .int .u32 0, .string ⟨#[]⟩, .string ⟨#[]⟩]) ∧ Below w5.heap.size w5 w') := Lib.hid (fun W' hW => (aret_raw W').mono (fun e w' h => ⟨h.1, below_call hW h.2⟩))
  have HK12 : Hid (∀ W', Below w5.heap.size w5 W' → Calls Tryd.prog 27 #[.int .u32 im] W' fun e w' => e = .returned (.agg #[.string ⟨#[]⟩, .int .u8 50, .int .u8 0, .int .u8 0, .int .u8 0, .int .u32 im, .string ⟨#[]⟩, .string ⟨#[]⟩]) ∧ Below w5.heap.size w5 w') := Lib.hid (fun W' hW => (asys_raw im W').mono (fun e w' h => ⟨h.1, below_call hW h.2⟩))
  refine wp_region_quiet_tail_in (C := fun W' => Below w5.heap.size w5 W') 55 (by kernel_rfl) (by kernel_rfl) (Below.refl _ _).drew ?_
  simp only [List.take_succ_cons, List.take_zero, List.drop_succ_cons, List.drop_zero]
  refine qy_by rfl (.int .u8 op) (fun W' hW => by simp [go_sem]) ?_
  simp only [Act.put, List.setIfInBounds_toArray, List.set_cons_zero, List.set_cons_succ]
  refine qy_by rfl (.int .u8 d) (fun W' hW => by simp [go_sem]) ?_
  simp only [Act.put, List.setIfInBounds_toArray, List.set_cons_zero, List.set_cons_succ]
  refine qy_by rfl (.int .u8 a) (fun W' hW => by simp [go_sem]) ?_
  simp only [Act.put, List.setIfInBounds_toArray, List.set_cons_zero, List.set_cons_succ]
  refine qy_by rfl (.int .u8 b) (fun W' hW => by simp [go_sem]) ?_
  simp only [Act.put, List.setIfInBounds_toArray, List.set_cons_zero, List.set_cons_succ]
  refine qy_call rfl 15 #[.int .u8 op, .int .u8 d, .int .u8 a, .int .u8 b] (.agg #[.string ⟨#[]⟩, .int .u8 op, .int .u8 d, .int .u8 a, .int .u8 b, .int .u32 0, .string ⟨#[]⟩, .string ⟨#[]⟩]) (fun W' _ => by simp [go_sem]) (fun W' hW => HK0.out W' hW) ?_
  simp only [Act.put, List.setIfInBounds_toArray, List.set_cons_zero, List.set_cons_succ]
  refine qy_by rfl (.int .u8 op) (fun W' hW => by simp [go_sem]) ?_
  simp only [Act.put, List.setIfInBounds_toArray, List.set_cons_zero, List.set_cons_succ]
  refine qy_by rfl (.int .u8 d) (fun W' hW => by simp [go_sem]) ?_
  simp only [Act.put, List.setIfInBounds_toArray, List.set_cons_zero, List.set_cons_succ]
  refine qy_by rfl (.int .u8 a) (fun W' hW => by simp [go_sem]) ?_
  simp only [Act.put, List.setIfInBounds_toArray, List.set_cons_zero, List.set_cons_succ]
  refine qy_by rfl (.int .u32 im) (fun W' hW => by simp [go_sem]) ?_
  simp only [Act.put, List.setIfInBounds_toArray, List.set_cons_zero, List.set_cons_succ]
  refine qy_call rfl 16 #[.int .u8 op, .int .u8 d, .int .u8 a, .int .u32 im] (.agg #[.string ⟨#[]⟩, .int .u8 op, .int .u8 d, .int .u8 a, .int .u8 0, .int .u32 im, .string ⟨#[]⟩, .string ⟨#[]⟩]) (fun W' _ => by simp [go_sem]) (fun W' hW => HK1.out W' hW) ?_
  simp only [Act.put, List.setIfInBounds_toArray, List.set_cons_zero, List.set_cons_succ]
  refine qy_by rfl (.int .u8 d) (fun W' hW => by simp [go_sem]) ?_
  simp only [Act.put, List.setIfInBounds_toArray, List.set_cons_zero, List.set_cons_succ]
  refine qy_by rfl (.int .u32 im) (fun W' hW => by simp [go_sem]) ?_
  simp only [Act.put, List.setIfInBounds_toArray, List.set_cons_zero, List.set_cons_succ]
  refine qy_call rfl 17 #[.int .u8 d, .int .u32 im] (.agg #[.string ⟨#[]⟩, .int .u8 32, .int .u8 d, .int .u8 0, .int .u8 0, .int .u32 im, .string ⟨#[]⟩, .string ⟨#[]⟩]) (fun W' _ => by simp [go_sem]) (fun W' hW => HK2.out W' hW) ?_
  simp only [Act.put, List.setIfInBounds_toArray, List.set_cons_zero, List.set_cons_succ]
  refine qy_by rfl (.int .u8 d) (fun W' hW => by simp [go_sem]) ?_
  simp only [Act.put, List.setIfInBounds_toArray, List.set_cons_zero, List.set_cons_succ]
  refine qy_by rfl (.pointer (some ⟨w.heap.size, 7, none⟩)) (fun W' hW => by simp [go_sem]) ?_
  simp only [Act.put, List.setIfInBounds_toArray, List.set_cons_zero, List.set_cons_succ]
  refine qy_by rfl (.string N) (fun W' hW => by simp [go_sem, (HCb.out W' hW).2]) ?_
  simp only [Act.put, List.setIfInBounds_toArray, List.set_cons_zero, List.set_cons_succ]
  refine qy_by rfl (.int .u32 im) (fun W' hW => by simp [go_sem]) ?_
  simp only [Act.put, List.setIfInBounds_toArray, List.set_cons_zero, List.set_cons_succ]
  refine qy_call rfl 18 #[.int .u8 d, .string N, .int .u32 im] (.agg #[.string ⟨#[]⟩, .int .u8 32, .int .u8 d, .int .u8 0, .int .u8 0, .int .u32 im, .string ⟨#[]⟩, .string N]) (fun W' _ => by simp [go_sem]) (fun W' hW => HK3.out W' hW) ?_
  simp only [Act.put, List.setIfInBounds_toArray, List.set_cons_zero, List.set_cons_succ]
  refine qy_by rfl (.int .u8 op) (fun W' hW => by simp [go_sem]) ?_
  simp only [Act.put, List.setIfInBounds_toArray, List.set_cons_zero, List.set_cons_succ]
  refine qy_by rfl (.int .u8 d) (fun W' hW => by simp [go_sem]) ?_
  simp only [Act.put, List.setIfInBounds_toArray, List.set_cons_zero, List.set_cons_succ]
  refine qy_by rfl (.int .u8 a) (fun W' hW => by simp [go_sem]) ?_
  simp only [Act.put, List.setIfInBounds_toArray, List.set_cons_zero, List.set_cons_succ]
  refine qy_by rfl (.int .u32 im) (fun W' hW => by simp [go_sem]) ?_
  simp only [Act.put, List.setIfInBounds_toArray, List.set_cons_zero, List.set_cons_succ]
  refine qy_call rfl 19 #[.int .u8 op, .int .u8 d, .int .u8 a, .int .u32 im] (.agg #[.string ⟨#[]⟩, .int .u8 op, .int .u8 d, .int .u8 a, .int .u8 0, .int .u32 im, .string ⟨#[]⟩, .string ⟨#[]⟩]) (fun W' _ => by simp [go_sem]) (fun W' hW => HK4.out W' hW) ?_
  simp only [Act.put, List.setIfInBounds_toArray, List.set_cons_zero, List.set_cons_succ]
  refine qy_by rfl (.int .u8 op) (fun W' hW => by simp [go_sem]) ?_
  simp only [Act.put, List.setIfInBounds_toArray, List.set_cons_zero, List.set_cons_succ]
  refine qy_by rfl (.int .u8 b) (fun W' hW => by simp [go_sem]) ?_
  simp only [Act.put, List.setIfInBounds_toArray, List.set_cons_zero, List.set_cons_succ]
  refine qy_by rfl (.int .u8 a) (fun W' hW => by simp [go_sem]) ?_
  simp only [Act.put, List.setIfInBounds_toArray, List.set_cons_zero, List.set_cons_succ]
  refine qy_by rfl (.int .u32 im) (fun W' hW => by simp [go_sem]) ?_
  simp only [Act.put, List.setIfInBounds_toArray, List.set_cons_zero, List.set_cons_succ]
  refine qy_call rfl 20 #[.int .u8 op, .int .u8 b, .int .u8 a, .int .u32 im] (.agg #[.string ⟨#[]⟩, .int .u8 op, .int .u8 0, .int .u8 a, .int .u8 b, .int .u32 im, .string ⟨#[]⟩, .string ⟨#[]⟩]) (fun W' _ => by simp [go_sem]) (fun W' hW => HK5.out W' hW) ?_
  simp only [Act.put, List.setIfInBounds_toArray, List.set_cons_zero, List.set_cons_succ]
  refine qy_by rfl (.int .u8 op) (fun W' hW => by simp [go_sem]) ?_
  simp only [Act.put, List.setIfInBounds_toArray, List.set_cons_zero, List.set_cons_succ]
  refine qy_by rfl (.int .u8 d) (fun W' hW => by simp [go_sem]) ?_
  simp only [Act.put, List.setIfInBounds_toArray, List.set_cons_zero, List.set_cons_succ]
  refine qy_by rfl (.pointer (some ⟨w.heap.size, 7, none⟩)) (fun W' hW => by simp [go_sem]) ?_
  simp only [Act.put, List.setIfInBounds_toArray, List.set_cons_zero, List.set_cons_succ]
  refine qy_by rfl (.string N) (fun W' hW => by simp [go_sem, (HCb.out W' hW).2]) ?_
  simp only [Act.put, List.setIfInBounds_toArray, List.set_cons_zero, List.set_cons_succ]
  refine qy_by rfl (.int .u32 im) (fun W' hW => by simp [go_sem]) ?_
  simp only [Act.put, List.setIfInBounds_toArray, List.set_cons_zero, List.set_cons_succ]
  refine qy_call rfl 21 #[.int .u8 op, .int .u8 d, .string N, .int .u32 im] (.agg #[.string ⟨#[]⟩, .int .u8 op, .int .u8 d, .int .u8 0, .int .u8 0, .int .u32 im, .string ⟨#[]⟩, .string N]) (fun W' _ => by simp [go_sem]) (fun W' hW => HK6.out W' hW) ?_
  simp only [Act.put, List.setIfInBounds_toArray, List.set_cons_zero, List.set_cons_succ]
  refine qy_by rfl (.int .u8 op) (fun W' hW => by simp [go_sem]) ?_
  simp only [Act.put, List.setIfInBounds_toArray, List.set_cons_zero, List.set_cons_succ]
  refine qy_by rfl (.int .u8 b) (fun W' hW => by simp [go_sem]) ?_
  simp only [Act.put, List.setIfInBounds_toArray, List.set_cons_zero, List.set_cons_succ]
  refine qy_by rfl (.pointer (some ⟨w.heap.size, 7, none⟩)) (fun W' hW => by simp [go_sem]) ?_
  simp only [Act.put, List.setIfInBounds_toArray, List.set_cons_zero, List.set_cons_succ]
  refine qy_by rfl (.string N) (fun W' hW => by simp [go_sem, (HCb.out W' hW).2]) ?_
  simp only [Act.put, List.setIfInBounds_toArray, List.set_cons_zero, List.set_cons_succ]
  refine qy_by rfl (.int .u32 im) (fun W' hW => by simp [go_sem]) ?_
  simp only [Act.put, List.setIfInBounds_toArray, List.set_cons_zero, List.set_cons_succ]
  refine qy_call rfl 22 #[.int .u8 op, .int .u8 b, .string N, .int .u32 im] (.agg #[.string ⟨#[]⟩, .int .u8 op, .int .u8 0, .int .u8 0, .int .u8 b, .int .u32 im, .string ⟨#[]⟩, .string N]) (fun W' _ => by simp [go_sem]) (fun W' hW => HK7.out W' hW) ?_
  simp only [Act.put, List.setIfInBounds_toArray, List.set_cons_zero, List.set_cons_succ]
  refine qy_by rfl (.pointer (some ⟨w.heap.size, 6, none⟩)) (fun W' hW => by simp [go_sem]) ?_
  simp only [Act.put, List.setIfInBounds_toArray, List.set_cons_zero, List.set_cons_succ]
  refine qy_by rfl (.string T) (fun W' hW => by simp [go_sem, (HCb.out W' hW).1]) ?_
  simp only [Act.put, List.setIfInBounds_toArray, List.set_cons_zero, List.set_cons_succ]
  refine qy_call rfl 23 #[.string T] (.agg #[.string ⟨#[]⟩, .int .u8 40, .int .u8 0, .int .u8 0, .int .u8 0, .int .u32 0, .string T, .string ⟨#[]⟩]) (fun W' _ => by simp [go_sem]) (fun W' hW => HK8.out W' hW) ?_
  simp only [Act.put, List.setIfInBounds_toArray, List.set_cons_zero, List.set_cons_succ]
  refine qy_by rfl (.int .u8 op) (fun W' hW => by simp [go_sem]) ?_
  simp only [Act.put, List.setIfInBounds_toArray, List.set_cons_zero, List.set_cons_succ]
  refine qy_by rfl (.int .u8 a) (fun W' hW => by simp [go_sem]) ?_
  simp only [Act.put, List.setIfInBounds_toArray, List.set_cons_zero, List.set_cons_succ]
  refine qy_by rfl (.int .u8 b) (fun W' hW => by simp [go_sem]) ?_
  simp only [Act.put, List.setIfInBounds_toArray, List.set_cons_zero, List.set_cons_succ]
  refine qy_by rfl (.pointer (some ⟨w.heap.size, 6, none⟩)) (fun W' hW => by simp [go_sem]) ?_
  simp only [Act.put, List.setIfInBounds_toArray, List.set_cons_zero, List.set_cons_succ]
  refine qy_by rfl (.string T) (fun W' hW => by simp [go_sem, (HCb.out W' hW).1]) ?_
  simp only [Act.put, List.setIfInBounds_toArray, List.set_cons_zero, List.set_cons_succ]
  refine qy_call rfl 24 #[.int .u8 op, .int .u8 a, .int .u8 b, .string T] (.agg #[.string ⟨#[]⟩, .int .u8 op, .int .u8 0, .int .u8 a, .int .u8 b, .int .u32 0, .string T, .string ⟨#[]⟩]) (fun W' _ => by simp [go_sem]) (fun W' hW => HK9.out W' hW) ?_
  simp only [Act.put, List.setIfInBounds_toArray, List.set_cons_zero, List.set_cons_succ]
  refine qy_by rfl (.pointer (some ⟨w.heap.size, 7, none⟩)) (fun W' hW => by simp [go_sem]) ?_
  simp only [Act.put, List.setIfInBounds_toArray, List.set_cons_zero, List.set_cons_succ]
  refine qy_by rfl (.string N) (fun W' hW => by simp [go_sem, (HCb.out W' hW).2]) ?_
  simp only [Act.put, List.setIfInBounds_toArray, List.set_cons_zero, List.set_cons_succ]
  refine qy_call rfl 25 #[.string N] (.agg #[.string ⟨#[]⟩, .int .u8 41, .int .u8 15, .int .u8 0, .int .u8 0, .int .u32 0, .string ⟨#[]⟩, .string N]) (fun W' _ => by simp [go_sem]) (fun W' hW => HK10.out W' hW) ?_
  simp only [Act.put, List.setIfInBounds_toArray, List.set_cons_zero, List.set_cons_succ]
  refine qy_call rfl 26 #[] (.agg #[.string ⟨#[]⟩, .int .u8 42, .int .u8 0, .int .u8 15, .int .u8 0, .int .u32 0, .string ⟨#[]⟩, .string ⟨#[]⟩]) (fun W' _ => by simp [go_sem]) (fun W' hW => HK11.out W' hW) ?_
  simp only [Act.put, List.setIfInBounds_toArray, List.set_cons_zero, List.set_cons_succ]
  refine qy_by rfl (.int .u32 im) (fun W' hW => by simp [go_sem]) ?_
  simp only [Act.put, List.setIfInBounds_toArray, List.set_cons_zero, List.set_cons_succ]
  refine qy_call rfl 27 #[.int .u32 im] (.agg #[.string ⟨#[]⟩, .int .u8 50, .int .u8 0, .int .u8 0, .int .u8 0, .int .u32 im, .string ⟨#[]⟩, .string ⟨#[]⟩]) (fun W' _ => by simp [go_sem]) (fun W' hW => HK12.out W' hW) ?_
  simp only [Act.put, List.setIfInBounds_toArray, List.set_cons_zero, List.set_cons_succ]
  refine wpQuiet_nil ?_
  intro w6 q6
  have B6 := Lib.hid (below_call B5.out q6)
  have X6 := Lib.hid (X5.out.call q6)
  have G6 := Lib.hid (G5.out.call q6)
  clear q6 B5 X5 G5 HCb HK0 HK1 HK2 HK3 HK4 HK5 HK6 HK7 HK8 HK9 HK10 HK11 HK12
  have GG7 := Lib.hid (Blk.new w6 42 (cells13 op d a b im T N))
  have hnb := below_new1 w6 (.cells (cells13 op d a b im T N).toArray 42)
  have B7 := Lib.hid (below_call B6.out hnb)
  have X7 := Lib.hid (X6.out.call hnb)
  have G7 := Lib.hid (G6.out.call hnb)
  go_upto_region 6 with (fail)
  change Code.wp _ _ _ _ (w6.alloc (.cells (cells13 op d a b im T N).toArray 42))
  clear hnb B6 X6 G6
  obtain ⟨gg, hgg⟩ : ∃ t, t = w6.heap.size := ⟨_, rfl⟩
  obtain ⟨w7, hw7⟩ : ∃ t, t = w6.alloc (.cells (cells13 op d a b im T N).toArray 42) := ⟨_, rfl⟩
  rw [← hw7] at GG7 B7 X7 G7 ⊢
  rw [← hgg] at GG7 ⊢
  clear hw7 hgg
  have Y8 := Lib.hid (Blk.new w7 42 [.string ⟨#[113]⟩, .int .u8 op, .int .u8 d, .int .u8 a, .int .u8 b, .int .u32 im, .string T, .string N])
  have hnb := below_new1 w7 (.cells #[.string ⟨#[113]⟩, .int .u8 op, .int .u8 d, .int .u8 a, .int .u8 b, .int .u32 im, .string T, .string N] 42)
  have B8 := Lib.hid (below_call B7.out hnb)
  have X8 := Lib.hid (X7.out.call hnb)
  have G8 := Lib.hid (G7.out.call hnb)
  have GG8 := Lib.hid (GG7.out.call hnb)
  obtain ⟨y0, y1, y2, y3, y4, y5, y6, y7⟩ := X7.out.eight
  clear hnb
  go_upto_region 8 with (fail)
  clear B7 X7 G7 GG7 y0 y1 y2 y3 y4 y5 y6 y7
  obtain ⟨gy, hgy⟩ : ∃ t, t = w7.heap.size := ⟨_, rfl⟩
  obtain ⟨w8, hw8⟩ : ∃ t, t = w7.alloc (.cells #[.string ⟨#[113]⟩, .int .u8 op, .int .u8 d, .int .u8 a, .int .u8 b, .int .u32 im, .string T, .string N] 42) := ⟨_, rfl⟩
  rw [← hw8] at Y8 B8 X8 G8 GG8 ⊢
  rw [← hgy] at Y8 ⊢
  clear hw8 hgy
  obtain ⟨iL, hi, hz, hs, hby⟩ := info_parts infoLG
  have HI := Lib.hid (And.intro hi (And.intro hz (And.intro hs hby)))
  have HLw : Hid (SlC w8 (.slice al l.length cl) l.length 8 fun j => lnCells (l.getD j Ln.nought)) := Lib.hid (SlC.below HML.out.1 B8.out (Nat.le_refl _))
  have HMa : Hid (l.length ≤ maxLen) := Lib.hid (by have := HB1.out; unfold maxLen; omega)
  have HMb : Hid (l.length * 56 ≤ 140737488355328) := Lib.hid HML.out.2.2.1.1
  have HMc : Hid (l.length + m.length ≤ maxLen) := Lib.hid (by have := HB1.out; have := HB2.out; unfold maxLen; omega)
  have HMd : Hid ((l.length + m.length) * 56 ≤ 140737488355328) := Lib.hid (by have := HB1.out; have := HB2.out; omega)
  clear hi hz hs hby
  go_wp2_with (at_builtin; refine wpList_append_all rfl _ _ 23 rfl w8.heap.size 42 iL _ 8 56 Tryd.underlying23 HI.out.1 HI.out.2.1 HI.out.2.2.1 HI.out.2.2.2 rfl (by decide) rfl (.slice al l.length cl) l.length (fun j => lnCells (l.getD j Ln.nought)) rfl HLw.out (fun _ _ => rfl) (fun _ _ => L_one _) HMa.out HMb.out (Nat.le_refl _) ?_)
  intro v9 w9 h6 h7
  obtain ⟨a9, c9, hv9⟩ := row_slice h6
  subst hv9
  have R9 := Lib.hid h6
  have LT8 : Hid (w.heap.size < w8.heap.size ∧ gw < w8.heap.size ∧ gg < w8.heap.size ∧ gy < w8.heap.size) := Lib.hid ⟨X8.out.lt, G8.out.lt, GG8.out.lt, Y8.out.lt⟩
  have HNB : Hid (∀ g, g < w8.heap.size → some g ≠ (Value.slice a9 l.length c9).ownBlock) := Lib.hid (fun g hg e => by have := (World.ownsRow.lt R9.out g e.symm).1; omega)
  have X9 := Lib.hid (X8.out.call (grown_none h7))
  have Y9 := Lib.hid (Y8.out.call (grown_none h7))
  have G9 := Lib.hid (G8.out.call (grown_none h7))
  have GG9 := Lib.hid (GG8.out.call (grown_none h7))
  have B9 := Lib.hid (below_call B8.out (grown_none h7))
  have HS9 : Hid (w8.heap.size ≤ w9.heap.size) := Lib.hid h7.size
  have HMw : Hid (SlC w9 (.slice am m.length cm) m.length 8 fun j => lnCells (m.getD j Ln.nought)) := Lib.hid (SlC.below HML.out.2.1 B9.out (Nat.le_refl _))
  have HRL : Hid (∀ k, (Value.slice a9 l.length c9).ownBlock = some k → w.heap.size ≤ k) := Lib.hid (fun k hk => by have := (World.ownsRow.lt R9.out k hk).1; have := LT8.out.1; omega)
  clear h6 h7 X8 Y8 G8 GG8 HLw
  go_wp2_with (at_builtin; refine wpList_append_sl rfl _ _ 23 rfl w8.heap.size 42 iL _ 8 56 Tryd.underlying23 HI.out.1 HI.out.2.1 HI.out.2.2.1 HI.out.2.2.2 rfl (by decide) _ l.length _ rfl R9.out (.slice am m.length cm) m.length (fun j => lnCells (m.getD j Ln.nought)) rfl HMw.out (fun _ _ => rfl) (fun _ _ => L_one _) HMc.out HMd.out HS9.out ?_)
  intro v10 w10 h6 h7
  have hrow : w10.ownsRow w8.heap.size 42 8 v10 (l ++ m).length (flatL lnCells Ln.nought (l ++ m)) := by rw [List.length_append, flatL_append]; exact h6
  obtain ⟨LM, hLM⟩ : ∃ t, t = l ++ m := ⟨_, rfl⟩
  rw [← hLM] at hrow
  obtain ⟨a10, c10, hv10⟩ := row_slice hrow
  subst hv10
  have R10 := Lib.hid hrow
  have X10 := Lib.hid (X9.out.grown h7 (HNB.out _ LT8.out.1))
  have Y10 := Lib.hid (Y9.out.grown h7 (HNB.out _ LT8.out.2.2.2))
  have G10 := Lib.hid (G9.out.grown h7 (HNB.out _ LT8.out.2.1))
  have GG10 := Lib.hid (GG9.out.grown h7 (HNB.out _ LT8.out.2.2.1))
  have B10 := Lib.hid (B9.out.grown h7 B9.out.size HRL.out)
  clear h6 h7 hrow R9 X9 Y9 G9 GG9 B9 HNB HRL HS9 HMw HI HMa HMb HMc HMd
  have HSM : Hid (∀ W', Blk W' gw 42 (cells13 op d a b im T N) → Blk W' gg 42 (cells13 op d a b im T N) → Calls Tryd.prog 12 #[.slice (some ⟨gg, 0, none⟩) 13 13, .slice (some ⟨gw, 0, none⟩) 13 13] W' fun e w' => e = .returned (.bool true) ∧ Below W'.heap.size W' w') := Lib.hid (fun W' h1 h2 => ksame_any (want13 op d a b im dst nam) _ _ W' (lines_blk h2 HWC.out) (lines_blk h1 HWC.out) (Nat.le_of_ble_eq_true rfl))
  have HAT := Lib.hid (fun W' => aat_raw ⟨#[113]⟩ L T N op d a b im (by decide) hTs hNs W')
  unfold lnR at HAT
  have hlen : LM.length * 56 ≤ 140737488355328 := by rw [hLM, List.length_append]; have := HB1.out; have := HB2.out; omega
  have hfit : ∀ j, j < LM.length → lnFits (LM.getD j Ln.nought) := fun j hj => by
    rw [hLM] at hj ⊢
    rcases Nat.lt_or_ge j l.length with h | h
    · rw [List.getD_eq_getElem?_getD, List.getElem?_append_left h, ← List.getD_eq_getElem?_getD]
      exact HML.out.2.2.1.2 j h
    · rw [List.getD_eq_getElem?_getD, List.getElem?_append_right h, ← List.getD_eq_getElem?_getD]
      exact HML.out.2.2.2.2 _ (by rw [List.length_append] at hj; omega)
  have HJ2 : Hid (∀ W' gs, Blk W' gs 23 [.slice al l.length cl, .slice am m.length cm] → Below w.heap.size w W' → Calls Tryd.prog 29 #[.slice (some ⟨gs, 0, none⟩) 2 2] W' (CatL W' LM)) := Lib.hid (fun W' gs h1 h2 => by
    have e : [l, m].flatten = LM := by rw [hLM]; simp
    have h := ajoin_any [l, m] (.slice (some ⟨gs, 0, none⟩) 2 2) W' ⟨fun j => if j = 0 then .slice al l.length cl else .slice am m.length cm, ⟨_, _, rfl, fun _ => ⟨gs, 0, rfl, h1.lt, fun j hj i u hu => by
      have hj2 : j < 2 := hj
      have h01 : j = 0 ∨ j = 1 := by omega
      have hi : i = 0 := by have := (List.getElem?_eq_some_iff.1 hu).1; simp at this; omega
      subst hi
      rcases h01 with rfl | rfl
      · exact (h1.cell 0).trans hu
      · exact (h1.cell 1).trans hu⟩⟩, fun j hj => by
      have hj2 : j < 2 := hj
      have h01 : j = 0 ∨ j = 1 := by omega
      rcases h01 with rfl | rfl
      · exact SlC.below HML.out.1 h2 (Nat.le_refl _)
      · exact SlC.below HML.out.2.1 h2 (Nat.le_refl _)⟩ (by rw [e]; exact hlen) (Nat.le_of_ble_eq_true rfl) (by rw [e]; exact hfit)
    rw [e] at h
    exact h)
  have HJ0 : Hid (∀ W', Calls Tryd.prog 29 #[.slice none 0 0] W' (CatL W' [])) := Lib.hid (fun W' => ajoin_any [] (.slice none 0 0) W' ⟨fun _ => .slice none 0 0, ⟨none, 0, rfl, fun h => absurd h (by decide)⟩, fun j hj => absurd hj (Nat.not_lt_zero j)⟩ (by decide) (by decide) (fun j hj => absurd hj (Nat.not_lt_zero j)))
  have HSJ : Hid (∀ W' B v1 v2, W'.ownsRow B 42 8 v1 LM.length (flatL lnCells Ln.nought LM) → ∀ B2, W'.ownsRow B2 42 8 v2 LM.length (flatL lnCells Ln.nought LM) → Calls Tryd.prog 12 #[v1, v2] W' fun e w' => e = .returned (.bool true) ∧ Below W'.heap.size W' w') := Lib.hid (fun W' B v1 v2 h1 B2 h2 => ksame_any LM v1 v2 W' (slC_of_row (cs := fun j => lnCells (LM.getD j Ln.nought)) (z := 8) (fun _ _ => rfl) h1) (slC_of_row (cs := fun j => lnCells (LM.getD j Ln.nought)) (z := 8) (fun _ _ => rfl) h2) hlen)
  have HSS : Hid (∀ W', Blk W' w.heap.size 42 [.string L, .int .u8 op, .int .u8 d, .int .u8 a, .int .u8 b, .int .u32 im, .string T, .string N] → Blk W' gy 42 [.string ⟨#[113]⟩, .int .u8 op, .int .u8 d, .int .u8 a, .int .u8 b, .int .u32 im, .string T, .string N] → (W'.cell? ⟨w.heap.size, 0, none⟩ = some (.string L) ∧ W'.cell? ⟨w.heap.size, 1, none⟩ = some (.int .u8 op) ∧ W'.cell? ⟨w.heap.size, 2, none⟩ = some (.int .u8 d) ∧ W'.cell? ⟨w.heap.size, 3, none⟩ = some (.int .u8 a) ∧ W'.cell? ⟨w.heap.size, 4, none⟩ = some (.int .u8 b) ∧ W'.cell? ⟨w.heap.size, 5, none⟩ = some (.int .u32 im) ∧ W'.cell? ⟨w.heap.size, 6, none⟩ = some (.string T) ∧ W'.cell? ⟨w.heap.size, 7, none⟩ = some (.string N) ∧ W'.cell? ⟨gy, 0, none⟩ = some (.string ⟨#[113]⟩) ∧ W'.cell? ⟨gy, 1, none⟩ = some (.int .u8 op) ∧ W'.cell? ⟨gy, 2, none⟩ = some (.int .u8 d) ∧ W'.cell? ⟨gy, 3, none⟩ = some (.int .u8 a) ∧ W'.cell? ⟨gy, 4, none⟩ = some (.int .u8 b) ∧ W'.cell? ⟨gy, 5, none⟩ = some (.int .u32 im) ∧ W'.cell? ⟨gy, 6, none⟩ = some (.string T) ∧ W'.cell? ⟨gy, 7, none⟩ = some (.string N))) := Lib.hid (fun W' h1 h2 => ⟨h1.cell 0, h1.cell 1, h1.cell 2, h1.cell 3, h1.cell 4, h1.cell 5, h1.cell 6, h1.cell 7, h2.cell 0, h2.cell 1, h2.cell 2, h2.cell 3, h2.cell 4, h2.cell 5, h2.cell 6, h2.cell 7⟩)
  clear hlen hfit hLM HFX HWC HML HLT HB1 HB2 LT8 hTs hNs
  go_upto_region 9 with (fail)
  have X11 : Hid (Blk w10.drew w.heap.size 42 [.string L, .int .u8 op, .int .u8 d, .int .u8 a, .int .u8 b, .int .u32 im, .string T, .string N]) := Lib.hid X10.out
  have Y11 : Hid (Blk w10.drew gy 42 [.string ⟨#[113]⟩, .int .u8 op, .int .u8 d, .int .u8 a, .int .u8 b, .int .u32 im, .string T, .string N]) := Lib.hid Y10.out
  have G11 : Hid (Blk w10.drew gw 42 (cells13 op d a b im T N)) := Lib.hid G10.out
  have GG11 : Hid (Blk w10.drew gg 42 (cells13 op d a b im T N)) := Lib.hid GG10.out
  have B11 : Hid (Below w.heap.size w w10.drew) := Lib.hid (below_drew B10.out 1)
  have R11 : Hid (w10.drew.ownsRow w8.heap.size 42 8 (.slice a10 LM.length c10) LM.length (flatL lnCells Ln.nought LM)) := Lib.hid (row_below R10.out (below_drewN w10 1))
  refine wp_region_held_drew (S := fun w' => w'.cell? ⟨w.heap.size, 0, none⟩ = some (.string L) ∧ w'.cell? ⟨w.heap.size, 1, none⟩ = some (.int .u8 op) ∧ w'.cell? ⟨w.heap.size, 2, none⟩ = some (.int .u8 d) ∧ w'.cell? ⟨w.heap.size, 3, none⟩ = some (.int .u8 a) ∧ w'.cell? ⟨w.heap.size, 4, none⟩ = some (.int .u8 b) ∧ w'.cell? ⟨w.heap.size, 5, none⟩ = some (.int .u32 im) ∧ w'.cell? ⟨w.heap.size, 6, none⟩ = some (.string T) ∧ w'.cell? ⟨w.heap.size, 7, none⟩ = some (.string N) ∧ w'.cell? ⟨gy, 0, none⟩ = some (.string ⟨#[113]⟩) ∧ w'.cell? ⟨gy, 1, none⟩ = some (.int .u8 op) ∧ w'.cell? ⟨gy, 2, none⟩ = some (.int .u8 d) ∧ w'.cell? ⟨gy, 3, none⟩ = some (.int .u8 a) ∧ w'.cell? ⟨gy, 4, none⟩ = some (.int .u8 b) ∧ w'.cell? ⟨gy, 5, none⟩ = some (.int .u32 im) ∧ w'.cell? ⟨gy, 6, none⟩ = some (.string T) ∧ w'.cell? ⟨gy, 7, none⟩ = some (.string N)) (by kernel_rfl) (HSS.out _ X11.out Y11.out) (fun hSw => ?_)
  obtain ⟨w11, hw11⟩ : ∃ t, t = w10.drew := ⟨_, rfl⟩
  rw [← hw11] at X11 Y11 G11 GG11 B11 R11 hSw ⊢
  clear hw11 X10 Y10 G10 GG10 B10 R10
  refine wpAnyH_take (i := 0) (v := .slice (some ⟨gg, 0, none⟩) 13 13) rfl (by kernel_rfl) (by kernel_rfl) (by kernel_rfl) (fun _ _ _ h => h) (Or.inl ⟨by rfl, fun w hSw => by (try dsimp only at hSw); go_simp⟩) (by assumption) ?_
  try simp only [Act.put, List.setIfInBounds_toArray, List.set_cons_zero, List.set_cons_succ, List.getElem_toArray, List.getElem_cons_succ, List.getElem_cons_zero]
  refine wpAnyH_take (i := 1) (v := .slice (some ⟨gw, 0, none⟩) 13 13) rfl (by kernel_rfl) (by kernel_rfl) (by kernel_rfl) (fun _ _ _ h => h) (Or.inl ⟨by rfl, fun w hSw => by (try dsimp only at hSw); go_simp⟩) (by assumption) ?_
  try simp only [Act.put, List.setIfInBounds_toArray, List.set_cons_zero, List.set_cons_succ, List.getElem_toArray, List.getElem_cons_succ, List.getElem_cons_zero]
  refine wpAnyH_ready (rs := [2]) (by kernel_rfl) (by simp) ?_
  refine AllReadyH.cons (o := _) rfl (fun K hK => ?_) AllReadyH.nil
  go_simp
  refine (HSM.out _ G11.out GG11.out).mono ?_; rintro e w12 ⟨rfl, q⟩
  have X12 := Lib.hid (X11.out.call q)
  have Y12 := Lib.hid (Y11.out.call q)
  have B12 := Lib.hid (below_call B11.out q)
  have R12 := Lib.hid (row_below R11.out q)
  clear q X11 Y11 B11 R11 G11 GG11 HSM
  go_wp2_with fail
  refine hK.out _ _ (HSS.out _ X12.out Y12.out) (fun hSw => ?_)
  clear hK K
  try simp only [Act.put, List.setIfInBounds_toArray, List.set_cons_zero, List.set_cons_succ, List.getElem_toArray, List.getElem_cons_succ, List.getElem_cons_zero]
  refine wpAnyH_take (i := 3) (v := .bool true) rfl (by kernel_rfl) (by kernel_rfl) (by kernel_rfl) (fun _ _ _ h => h) (Or.inl ⟨by rfl, fun w hSw => by (try dsimp only at hSw); go_simp⟩) (by assumption) ?_
  try simp only [Act.put, List.setIfInBounds_toArray, List.set_cons_zero, List.set_cons_succ, List.getElem_toArray, List.getElem_cons_succ, List.getElem_cons_zero]
  refine wpAnyH_take (i := 4) (v := .agg #[.string L, .int .u8 op, .int .u8 d, .int .u8 a, .int .u8 b, .int .u32 im, .string T, .string N]) rfl (by kernel_rfl) (by kernel_rfl) (by kernel_rfl) (fun _ _ _ h => h) (Or.inl ⟨by rfl, fun w hSw => by (try dsimp only at hSw); go_simp⟩) (by assumption) ?_
  try simp only [Act.put, List.setIfInBounds_toArray, List.set_cons_zero, List.set_cons_succ, List.getElem_toArray, List.getElem_cons_succ, List.getElem_cons_zero]
  refine wpAnyH_take (i := 6) (v := .agg #[.string ⟨#[113]⟩, .int .u8 op, .int .u8 d, .int .u8 a, .int .u8 b, .int .u32 im, .string T, .string N]) rfl (by kernel_rfl) (by kernel_rfl) (by kernel_rfl) (fun _ _ _ h => h) (Or.inl ⟨by rfl, fun w hSw => by (try dsimp only at hSw); go_simp⟩) (by assumption) ?_
  try simp only [Act.put, List.setIfInBounds_toArray, List.set_cons_zero, List.set_cons_succ, List.getElem_toArray, List.getElem_cons_succ, List.getElem_cons_zero]
  refine wpAnyH_ready (rs := [5]) (by kernel_rfl) (by simp) ?_
  refine AllReadyH.cons (o := _) rfl (fun K hK => ?_) AllReadyH.nil
  go_simp
  refine (HAT.out _).mono ?_; rintro e w13 ⟨rfl, q⟩
  have X13 := Lib.hid (X12.out.call q)
  have Y13 := Lib.hid (Y12.out.call q)
  have B13 := Lib.hid (below_call B12.out q)
  have R13 := Lib.hid (row_below R12.out q)
  clear q X12 Y12 B12 R12 HAT
  go_wp2_with fail
  refine hK.out _ _ (HSS.out _ X13.out Y13.out) (fun hSw => ?_)
  clear hK K
  try simp only [Act.put, List.setIfInBounds_toArray, List.set_cons_zero, List.set_cons_succ, List.getElem_toArray, List.getElem_cons_succ, List.getElem_cons_zero]
  refine wpAnyH_take (i := 7) (v := .bool true) rfl (by kernel_rfl) (by kernel_rfl) (by kernel_rfl) (fun _ _ _ h => h) (Or.inl ⟨by rfl, fun w hSw => by (try dsimp only at hSw); go_simp⟩) (by assumption) ?_
  try simp only [Act.put, List.setIfInBounds_toArray, List.set_cons_zero, List.set_cons_succ, List.getElem_toArray, List.getElem_cons_succ, List.getElem_cons_zero]
  refine wpAnyH_take (i := 8) (v := .bool true) rfl (by kernel_rfl) (by kernel_rfl) (by kernel_rfl) (fun _ _ _ h => h) (Or.inl ⟨by rfl, fun w hSw => by (try dsimp only at hSw); go_simp⟩) (by assumption) ?_
  try simp only [Act.put, List.setIfInBounds_toArray, List.set_cons_zero, List.set_cons_succ, List.getElem_toArray, List.getElem_cons_succ, List.getElem_cons_zero]
  refine wpAnyH_take (i := 9) (v := .bool true) rfl (by kernel_rfl) (by kernel_rfl) (by kernel_rfl) (fun _ _ _ h => h) (Or.inl ⟨by rfl, fun w hSw => by (try dsimp only at hSw); go_simp⟩) (by assumption) ?_
  try simp only [Act.put, List.setIfInBounds_toArray, List.set_cons_zero, List.set_cons_succ, List.getElem_toArray, List.getElem_cons_succ, List.getElem_cons_zero]
  refine wpAnyH_take (i := 10) (v := .slice al l.length cl) rfl (by kernel_rfl) (by kernel_rfl) (by kernel_rfl) (fun _ _ _ h => h) (Or.inl ⟨by rfl, fun w hSw => by (try dsimp only at hSw); go_simp⟩) (by assumption) ?_
  try simp only [Act.put, List.setIfInBounds_toArray, List.set_cons_zero, List.set_cons_succ, List.getElem_toArray, List.getElem_cons_succ, List.getElem_cons_zero]
  refine wpAnyH_take (i := 11) (v := .slice am m.length cm) rfl (by kernel_rfl) (by kernel_rfl) (by kernel_rfl) (fun _ _ _ h => h) (Or.inl ⟨by rfl, fun w hSw => by (try dsimp only at hSw); go_simp⟩) (by assumption) ?_
  try simp only [Act.put, List.setIfInBounds_toArray, List.set_cons_zero, List.set_cons_succ, List.getElem_toArray, List.getElem_cons_succ, List.getElem_cons_zero]
  refine wpAnyH_take (i := 14) (v := .slice a10 LM.length c10) rfl (by kernel_rfl) (by kernel_rfl) (by kernel_rfl) (fun _ _ _ h => h) (Or.inl ⟨by rfl, fun w hSw => by (try dsimp only at hSw); go_simp⟩) (by assumption) ?_
  try simp only [Act.put, List.setIfInBounds_toArray, List.set_cons_zero, List.set_cons_succ, List.getElem_toArray, List.getElem_cons_succ, List.getElem_cons_zero]
  refine wpAnyH_ready (rs := [12]) (by kernel_rfl) (by simp) ?_
  refine AllReadyH.cons (o := _) rfl (fun K hK => ?_) AllReadyH.nil
  go_simp
  have GS := Lib.hid (Blk.new w13 23 [.slice al l.length cl, .slice am m.length cm])
  have hnb := below_new1 w13 (.cells #[.slice al l.length cl, .slice am m.length cm] 23)
  have X14 := Lib.hid (X13.out.call hnb)
  have Y14 := Lib.hid (Y13.out.call hnb)
  have B14 := Lib.hid (below_call B13.out hnb)
  have R14 := Lib.hid (row_below R13.out hnb)
  clear hnb X13 Y13 B13 R13
  refine hK.out _ _ (HSS.out _ X14.out Y14.out) (fun hSw => ?_)
  clear hK K
  try simp only [Act.put, List.setIfInBounds_toArray, List.set_cons_zero, List.set_cons_succ, List.getElem_toArray, List.getElem_cons_succ, List.getElem_cons_zero]
  obtain ⟨gs, hgs⟩ : ∃ t, t = w13.heap.size := ⟨_, rfl⟩
  obtain ⟨w14, hw14⟩ : ∃ t, t = w13.alloc (.cells #[.slice al l.length cl, .slice am m.length cm] 23) := ⟨_, rfl⟩
  rw [← hw14] at GS X14 Y14 B14 R14 hSw ⊢
  rw [← hgs] at GS ⊢
  clear hw14 hgs
  refine wpAnyH_ready (rs := [13]) (by kernel_rfl) (by simp) ?_
  refine AllReadyH.cons (o := _) rfl (fun K hK => ?_) AllReadyH.nil
  go_simp
  refine (HJ2.out _ _ GS.out B14.out).mono ?_; rintro e w15 ⟨vj, rfl, hj, q⟩
  obtain ⟨aj, cj, hvj⟩ := row_slice hj
  subst hvj
  have HJR := Lib.hid hj
  have X15 := Lib.hid (X14.out.call q)
  have Y15 := Lib.hid (Y14.out.call q)
  have B15 := Lib.hid (below_call B14.out q)
  have R15 := Lib.hid (row_below R14.out q)
  clear q hj X14 Y14 B14 R14 GS HJ2
  go_wp2_with fail
  refine hK.out _ _ (HSS.out _ X15.out Y15.out) (fun hSw => ?_)
  clear hK K
  try simp only [Act.put, List.setIfInBounds_toArray, List.set_cons_zero, List.set_cons_succ, List.getElem_toArray, List.getElem_cons_succ, List.getElem_cons_zero]
  refine wpAnyH_ready (rs := [15]) (by kernel_rfl) (by simp) ?_
  refine AllReadyH.cons (o := _) rfl (fun K hK => ?_) AllReadyH.nil
  go_simp
  refine (HSJ.out _ _ _ _ HJR.out _ R15.out).mono ?_; rintro e w16 ⟨rfl, q⟩
  have X16 := Lib.hid (X15.out.call q)
  have Y16 := Lib.hid (Y15.out.call q)
  have B16 := Lib.hid (below_call B15.out q)
  clear q X15 Y15 B15 R15 HJR HSJ
  go_wp2_with fail
  refine hK.out _ _ (HSS.out _ X16.out Y16.out) (fun hSw => ?_)
  clear hK K
  try simp only [Act.put, List.setIfInBounds_toArray, List.set_cons_zero, List.set_cons_succ, List.getElem_toArray, List.getElem_cons_succ, List.getElem_cons_zero]
  refine wpAnyH_take (i := 16) (v := .bool true) rfl (by kernel_rfl) (by kernel_rfl) (by kernel_rfl) (fun _ _ _ h => h) (Or.inl ⟨by rfl, fun w hSw => by (try dsimp only at hSw); go_simp⟩) (by assumption) ?_
  try simp only [Act.put, List.setIfInBounds_toArray, List.set_cons_zero, List.set_cons_succ, List.getElem_toArray, List.getElem_cons_succ, List.getElem_cons_zero]
  refine wpAnyH_take (i := 17) (v := .bool true) rfl (by kernel_rfl) (by kernel_rfl) (by kernel_rfl) (fun _ _ _ h => h) (Or.inl ⟨by rfl, fun w hSw => by (try dsimp only at hSw); go_simp⟩) (by assumption) ?_
  try simp only [Act.put, List.setIfInBounds_toArray, List.set_cons_zero, List.set_cons_succ, List.getElem_toArray, List.getElem_cons_succ, List.getElem_cons_zero]
  refine wpAnyH_ready (rs := [18]) (by kernel_rfl) (by simp) ?_
  refine AllReadyH.cons (o := _) rfl (fun K hK => ?_) AllReadyH.nil
  go_simp
  refine (HJ0.out _).mono ?_; rintro e w17 ⟨vj, rfl, hj, q⟩
  obtain ⟨ak, ck, hvj⟩ := row_slice hj
  simp only [List.length_nil] at hvj
  subst hvj
  have X17 := Lib.hid (X16.out.call q)
  have Y17 := Lib.hid (Y16.out.call q)
  have B17 := Lib.hid (below_call B16.out q)
  clear q hj X16 Y16 B16 HJ0
  go_wp2_with fail
  refine hK.out _ _ (HSS.out _ X17.out Y17.out) (fun hSw => ?_)
  clear hK K
  try simp only [Act.put, List.setIfInBounds_toArray, List.set_cons_zero, List.set_cons_succ, List.getElem_toArray, List.getElem_cons_succ, List.getElem_cons_zero]
  refine wpAnyH_take (i := 19) (v := .int .i64 0) rfl (by kernel_rfl) (by kernel_rfl) (by kernel_rfl) (fun _ _ _ h => h) (Or.inl ⟨by rfl, fun w hSw => by (try dsimp only at hSw); go_simp⟩) (by assumption) ?_
  try simp only [Act.put, List.setIfInBounds_toArray, List.set_cons_zero, List.set_cons_succ, List.getElem_toArray, List.getElem_cons_succ, List.getElem_cons_zero]
  refine wpAnyH_take (i := 20) (v := .bool true) rfl (by kernel_rfl) (by kernel_rfl) (by kernel_rfl) (fun _ _ _ h => h) (Or.inl ⟨by rfl, fun w hSw => by (try dsimp only at hSw); go_simp⟩) (by assumption) ?_
  try simp only [Act.put, List.setIfInBounds_toArray, List.set_cons_zero, List.set_cons_succ, List.getElem_toArray, List.getElem_cons_succ, List.getElem_cons_zero]
  refine wpAnyH_take (i := 21) (v := .bool true) rfl (by kernel_rfl) (by kernel_rfl) (by kernel_rfl) (fun _ _ _ h => h) (Or.inl ⟨by rfl, fun w hSw => by (try dsimp only at hSw); go_simp⟩) (by assumption) ?_
  try simp only [Act.put, List.setIfInBounds_toArray, List.set_cons_zero, List.set_cons_succ, List.getElem_toArray, List.getElem_cons_succ, List.getElem_cons_zero]
  refine wpAnyH_take (i := 22) (v := .bool true) rfl (by kernel_rfl) (by kernel_rfl) (by kernel_rfl) (fun _ _ _ h => h) (Or.inl ⟨by rfl, fun w hSw => by (try dsimp only at hSw); go_simp⟩) (by assumption) ?_
  try simp only [Act.put, List.setIfInBounds_toArray, List.set_cons_zero, List.set_cons_succ, List.getElem_toArray, List.getElem_cons_succ, List.getElem_cons_zero]
  refine wpAnyH_ready (rs := [23]) (by kernel_rfl) (by simp) ?_
  refine AllReadyH.cons (o := _) rfl (fun K hK => ?_) AllReadyH.nil
  go_simp
  refine (HAl.out _ B17.out).mono ?_; rintro e w18 ⟨rfl, q⟩
  have X18 := Lib.hid (X17.out.call q)
  have Y18 := Lib.hid (Y17.out.call q)
  have B18 := Lib.hid (below_call B17.out q)
  clear q X17 Y17 B17
  go_wp2_with fail
  refine hK.out _ _ (HSS.out _ X18.out Y18.out) (fun hSw => ?_)
  clear hK K
  try simp only [Act.put, List.setIfInBounds_toArray, List.set_cons_zero, List.set_cons_succ, List.getElem_toArray, List.getElem_cons_succ, List.getElem_cons_zero]
  refine wpAnyH_take (i := 24) (v := .bool true) rfl (by kernel_rfl) (by kernel_rfl) (by kernel_rfl) (fun _ _ _ h => h) (Or.inl ⟨by rfl, fun w hSw => by (try dsimp only at hSw); go_simp⟩) (by assumption) ?_
  try simp only [Act.put, List.setIfInBounds_toArray, List.set_cons_zero, List.set_cons_succ, List.getElem_toArray, List.getElem_cons_succ, List.getElem_cons_zero]
  refine wpAnyH_take (i := 25) (v := .bool true) rfl (by kernel_rfl) (by kernel_rfl) (by kernel_rfl) (fun _ _ _ h => h) (Or.inl ⟨by rfl, fun w hSw => by (try dsimp only at hSw); go_simp⟩) (by assumption) ?_
  try simp only [Act.put, List.setIfInBounds_toArray, List.set_cons_zero, List.set_cons_succ, List.getElem_toArray, List.getElem_cons_succ, List.getElem_cons_zero]
  refine wpAnyH_done (by kernel_rfl) ?_ _
  clear hSw X18 Y18 HSS
  go_wp2_with fail
  go_ret
  exact ⟨rfl, B18.out⟩
end Go.Proofs.YtlnnhgmkibjgmaaDoor
