/- What the program's package asm is held to; the statements' alive, given that. -/
import Derived.Test.YtlnnhgmkibjgmaaDoorX28
import Derived.Test.YtlnnhgmkibjgmaaDoorX29
import Derived.Test.YtlnnhgmkibjgmaaDoorX15
set_option linter.unusedVariables false
set_option linter.unusedSimpArgs false
namespace Go.Proofs.YtlnnhgmkibjgmaaDoor
open Go Go.RowKit Oj Al

def datE (s : Sy) : Int := if (s.kind = 2 ∨ s.kind = 3) ∧ symOk s = true then 0 else 2
def datS (s : Sy) : Sy := if (s.kind = 2 ∨ s.kind = 3) ∧ symOk s = true then s else Sy.nought
/-- A call that answers a line. -/
def LnPost (w : World) (x : Ln) (e : Ending) (w' : World) : Prop := e = .returned (lnV x) ∧ Below w.heap.size w w'
structure AsmOK : Prop where
  make : ∀ (nm : ByteArray) (bi : Int) (LN : List Nt) (vn : Value) (l : List Ln) (vl : Value) (w : World), nm.size ≤ 140737488355328 → (0 ≤ bi ∧ bi < 256) → NotesAt w vn LN → LN.length * 12 ≤ 140737488355328 → (∀ j, j < LN.length → ntFits (LN.getD j Nt.nought)) → LinesAt w vl l → lnsFit l → I.Tabled w →
    Calls Tryd.prog 9 #[.string nm, .int .u8 bi, vn, vl] w (MkPost w (mkE (by' nm) bi LN l) (mkS (by' nm) bi LN l))
  data : ∀ (s : Sy) (vn : Value) (w : World), syFits s → s.rels = [] → NotesAt w vn s.notes → I.Tabled w →
    Calls Tryd.prog 13 #[.string (tx s.name), .int .u8 s.bind, .int .u8 s.kind, .int .u32 s.size, .string (tx s.bytes), vn] w (MkPost w (datE s) (datS s))
  r_ : ∀ (op d a b : Int) (w : World), (0 ≤ op ∧ op < 256) → (0 ≤ d ∧ d < 256) → (0 ≤ a ∧ a < 256) → (0 ≤ b ∧ b < 256) → Calls Tryd.prog 15 #[.int .u8 op, .int .u8 d, .int .u8 a, .int .u8 b] w (LnPost w ⟨[], op, d, a, b, 0, [], []⟩)
  i_ : ∀ (op d a n : Int) (w : World), (0 ≤ op ∧ op < 256) → (0 ≤ d ∧ d < 256) → (0 ≤ a ∧ a < 256) → (0 ≤ n ∧ n < 4294967296) → Calls Tryd.prog 16 #[.int .u8 op, .int .u8 d, .int .u8 a, .int .u32 n] w (LnPost w ⟨[], op, d, a, 0, n, [], []⟩)
  li : ∀ (d n : Int) (w : World), (0 ≤ d ∧ d < 256) → (0 ≤ n ∧ n < 4294967296) → Calls Tryd.prog 17 #[.int .u8 d, .int .u32 n] w (LnPost w ⟨[], 32, d, 0, 0, n, [], []⟩)
  la : ∀ (d : Int) (t : ByteArray) (n : Int) (w : World), (0 ≤ d ∧ d < 256) → t.size ≤ 140737488355328 → (0 ≤ n ∧ n < 4294967296) → Calls Tryd.prog 18 #[.int .u8 d, .string t, .int .u32 n] w (LnPost w ⟨[], 32, d, 0, 0, n, [], by' t⟩)
  ld : ∀ (op d a n : Int) (w : World), (0 ≤ op ∧ op < 256) → (0 ≤ d ∧ d < 256) → (0 ≤ a ∧ a < 256) → (0 ≤ n ∧ n < 4294967296) → Calls Tryd.prog 19 #[.int .u8 op, .int .u8 d, .int .u8 a, .int .u32 n] w (LnPost w ⟨[], op, d, a, 0, n, [], []⟩)
  st : ∀ (op b a n : Int) (w : World), (0 ≤ op ∧ op < 256) → (0 ≤ b ∧ b < 256) → (0 ≤ a ∧ a < 256) → (0 ≤ n ∧ n < 4294967296) → Calls Tryd.prog 20 #[.int .u8 op, .int .u8 b, .int .u8 a, .int .u32 n] w (LnPost w ⟨[], op, 0, a, b, n, [], []⟩)
  ldat : ∀ (op d : Int) (t : ByteArray) (n : Int) (w : World), (0 ≤ op ∧ op < 256) → (0 ≤ d ∧ d < 256) → t.size ≤ 140737488355328 → (0 ≤ n ∧ n < 4294967296) → Calls Tryd.prog 21 #[.int .u8 op, .int .u8 d, .string t, .int .u32 n] w (LnPost w ⟨[], op, d, 0, 0, n, [], by' t⟩)
  stat : ∀ (op b : Int) (t : ByteArray) (n : Int) (w : World), (0 ≤ op ∧ op < 256) → (0 ≤ b ∧ b < 256) → t.size ≤ 140737488355328 → (0 ≤ n ∧ n < 4294967296) → Calls Tryd.prog 22 #[.int .u8 op, .int .u8 b, .string t, .int .u32 n] w (LnPost w ⟨[], op, 0, 0, b, n, [], by' t⟩)
  br : ∀ (op a b : Int) (t : ByteArray) (w : World), (0 ≤ op ∧ op < 256) → (0 ≤ a ∧ a < 256) → (0 ≤ b ∧ b < 256) → t.size ≤ 140737488355328 → Calls Tryd.prog 24 #[.int .u8 op, .int .u8 a, .int .u8 b, .string t] w (LnPost w ⟨[], op, 0, a, b, 0, by' t, []⟩)
  call : ∀ (t : ByteArray) (w : World), t.size ≤ 140737488355328 → Calls Tryd.prog 25 #[.string t] w (LnPost w ⟨[], 41, 15, 0, 0, 0, [], by' t⟩)
  ret : ∀ (w : World), Calls Tryd.prog 26 #[] w (LnPost w ⟨[], 42, 0, 15, 0, 0, [], []⟩)
  sys : ∀ (n : Int) (w : World), (0 ≤ n ∧ n < 4294967296) → Calls Tryd.prog 27 #[.int .u32 n] w (LnPost w ⟨[], 50, 0, 0, 0, n, [], []⟩)
  jmp : ∀ (t : ByteArray) (w : World), t.size ≤ 140737488355328 → Calls Tryd.prog 23 #[.string t] w (LnPost w ⟨[], 40, 0, 0, 0, 0, by' t, []⟩)
  at_ : ∀ (lab : ByteArray) (x : Ln) (w : World), lab.size ≤ 140737488355328 → lnFits x → Calls Tryd.prog 28 #[.string lab, lnV x] w (LnPost w { x with label := by' lab })
theorem SymAt.parts {w : World} {v : Value} {s : Sy} (h : SymAt w v s) : ∃ ar cr an cn, v = .agg #[.string (tx s.name), .int .u8 s.bind, .int .u8 s.kind, .int .u32 s.size, .string (tx s.bytes), .slice ar s.rels.length cr, .slice an s.notes.length cn] ∧ RelsAt w (.slice ar s.rels.length cr) s.rels ∧ NotesAt w (.slice an s.notes.length cn) s.notes := by
  obtain ⟨vr, vn, rfl, h1, h2⟩ := h
  obtain ⟨ar, cr, rfl, _⟩ := id h1
  obtain ⟨an, cn, rfl, _⟩ := id h2
  exact ⟨ar, cr, an, cn, rfl, h1, h2⟩
theorem lines_one (w : World) (x : Ln) : LinesAt (w.alloc (.cells #[.string (tx x.label), .int .u8 x.op, .int .u8 x.d, .int .u8 x.a, .int .u8 x.b, .int .u32 x.im, .string (tx x.to), .string (tx x.name)] 42)) (.slice (some ⟨w.heap.size, 0, none⟩) 1 1) [x] := by
  have h := Blk.new w 42 (lnCells x)
  refine ⟨_, 1, rfl, fun _ => ⟨w.heap.size, 0, rfl, h.lt, fun j hj i u hu => ?_⟩⟩
  obtain rfl : j = 0 := by simp at hj; exact hj
  rw [show (0 + 0 * 8 + i) = i by omega]
  exact (h.cell i).trans hu
def again : List UInt8 := [97, 103, 97, 105, 110]
def main' : List UInt8 := [109, 97, 105, 110]
def exL : Ln := ⟨again, 40, 0, 0, 0, 0, again, []⟩
def exX : Ln := ⟨[], 40, 0, 0, 0, 0, [120], []⟩
def exD : Sy := ⟨[100], 0, 2, 4, [97, 98], [], []⟩
theorem exL_E : mkE main' 1 [] [exL] = 0 := by decide +kernel
theorem exX_E : mkE main' 1 [] [exX] = 3 := by decide +kernel
theorem exD_E : symOk exD = true := by decide +kernel
theorem exL_fits : lnsFit [exL] := ⟨by decide, fun j hj => by
  obtain rfl : j = 0 := by simp at hj; exact hj
  exact ⟨by decide, by decide, by decide, by decide, by decide, by decide, by decide, by decide⟩⟩
theorem exX_fits : lnsFit [exX] := ⟨by decide, fun j hj => by
  obtain rfl : j = 0 := by simp at hj; exact hj
  exact ⟨by decide, by decide, by decide, by decide, by decide, by decide, by decide, by decide⟩⟩
theorem no_notes (w : World) : NotesAt w (.slice none 0 0) [] := ⟨none, 0, rfl, fun h => absurd h (by decide)⟩
theorem exL_lab : symL main' 1 [] [exL] = ⟨main', 1, 1, 8, [40, 0, 0, 0, 0, 0, 0, 0], [⟨4, 1, main', 0⟩], []⟩ := by rfl
set_option maxHeartbeats 8000000 in
set_option maxRecDepth 100000 in
theorem aalive_any (hP : AsmOK) (w : World) (hT : I.Tabled w) : Calls Tryd.prog 8 #[] w fun e w' => e = .returned (.bool true) ∧ Below w.heap.size w w' := by
  have HJ1 : Hid (∀ W, Calls Tryd.prog 23 #[.string ⟨#[97, 103, 97, 105, 110]⟩] W (LnPost W ⟨[], 40, 0, 0, 0, 0, again, []⟩)) := Lib.hid (fun W => hP.jmp _ W (by decide))
  have HJ2 : Hid (∀ W, Calls Tryd.prog 23 #[.string ⟨#[120]⟩] W (LnPost W exX)) := Lib.hid (fun W => hP.jmp _ W (by decide))
  have HA : Hid (∀ W, Calls Tryd.prog 28 #[.string ⟨#[97, 103, 97, 105, 110]⟩, lnV ⟨[], 40, 0, 0, 0, 0, again, []⟩] W (LnPost W exL)) := Lib.hid (fun W => hP.at_ _ _ W (by decide) ⟨by decide, by decide, by decide, by decide, by decide, by decide, by decide, by decide⟩)
  have HM1 : Hid (∀ W, Below w.heap.size w W → Calls Tryd.prog 9 #[.string ⟨#[109, 97, 105, 110]⟩, .int .u8 1, .slice none 0 0, .slice (some ⟨W.heap.size, 0, none⟩) 1 1] (W.alloc (.cells #[.string (tx exL.label), .int .u8 exL.op, .int .u8 exL.d, .int .u8 exL.a, .int .u8 exL.b, .int .u32 exL.im, .string (tx exL.to), .string (tx exL.name)] 42)) fun e w' => ∃ b o cr an cn, e = .returned (.tuple #[.agg #[.string ⟨#[109, 97, 105, 110]⟩, .int .u8 1, .int .u8 1, .int .u32 8, .string ⟨#[40, 0, 0, 0, 0, 0, 0, 0]⟩, .slice (some ⟨b, o, none⟩) 1 cr, .slice an 0 cn], .int .i64 0]) ∧ b < w'.heap.size ∧ LieC w' b o (rlCells ⟨4, 1, main', 0⟩) ∧ Below W.heap.size W w') := Lib.hid (fun W hW => by
    have hb := below_new1 W (.cells #[.string (tx exL.label), .int .u8 exL.op, .int .u8 exL.d, .int .u8 exL.a, .int .u8 exL.b, .int .u32 exL.im, .string (tx exL.to), .string (tx exL.name)] 42)
    refine (hP.make ⟨#[109, 97, 105, 110]⟩ 1 [] _ [exL] _ _ (by decide) (by decide) (no_notes _) (by decide) (fun j hj => absurd hj (Nat.not_lt_zero j)) (lines_one W exL) exL_fits (hT.below (below_call hW hb))).mono ?_
    rintro e w' ⟨v, rfl, hv, hq⟩
    have e1 : mkE (by' ⟨#[109, 97, 105, 110]⟩) 1 [] [exL] = 0 := exL_E
    have e2 : mkS (by' ⟨#[109, 97, 105, 110]⟩) 1 [] [exL] = ⟨main', 1, 1, 8, [40, 0, 0, 0, 0, 0, 0, 0], [⟨4, 1, main', 0⟩], []⟩ := by unfold mkS; rw [e1, if_pos rfl]; exact exL_lab
    rw [e2] at hv
    rw [e1]
    obtain ⟨ar, cr, an, cn, rfl, h1, h2⟩ := hv.parts
    obtain ⟨a', c', he, h3⟩ := h1
    injection he with q1 q2 q3
    subst q1
    obtain ⟨b, o, rfl, h4, h5⟩ := h3 (by decide)
    refine ⟨b, o, cr, an, cn, rfl, h4, ?_, below_call hb hq⟩
    have := h5 0 (by decide)
    simpa using this)
  have HM2 : Hid (∀ W, Below w.heap.size w W → Calls Tryd.prog 9 #[.string ⟨#[109, 97, 105, 110]⟩, .int .u8 1, .slice none 0 0, .slice (some ⟨W.heap.size, 0, none⟩) 1 1] (W.alloc (.cells #[.string (tx exX.label), .int .u8 exX.op, .int .u8 exX.d, .int .u8 exX.a, .int .u8 exX.b, .int .u32 exX.im, .string (tx exX.to), .string (tx exX.name)] 42)) fun e w' => ∃ ar cr an cn, e = .returned (.tuple #[.agg #[.string ⟨#[]⟩, .int .u8 0, .int .u8 0, .int .u32 0, .string ⟨#[]⟩, .slice ar 0 cr, .slice an 0 cn], .int .i64 3]) ∧ Below W.heap.size W w') := Lib.hid (fun W hW => by
    have hb := below_new1 W (.cells #[.string (tx exX.label), .int .u8 exX.op, .int .u8 exX.d, .int .u8 exX.a, .int .u8 exX.b, .int .u32 exX.im, .string (tx exX.to), .string (tx exX.name)] 42)
    refine (hP.make ⟨#[109, 97, 105, 110]⟩ 1 [] _ [exX] _ _ (by decide) (by decide) (no_notes _) (by decide) (fun j hj => absurd hj (Nat.not_lt_zero j)) (lines_one W exX) exX_fits (hT.below (below_call hW hb))).mono ?_
    rintro e w' ⟨v, rfl, hv, hq⟩
    have e1 : mkE (by' ⟨#[109, 97, 105, 110]⟩) 1 [] [exX] = 3 := exX_E
    have e2 : mkS (by' ⟨#[109, 97, 105, 110]⟩) 1 [] [exX] = Sy.nought := by unfold mkS; rw [e1, if_neg (by decide)]
    rw [e2] at hv
    rw [e1]
    obtain ⟨ar, cr, an, cn, rfl, _, _⟩ := hv.parts
    exact ⟨ar, cr, an, cn, rfl, below_call hb hq⟩)
  have HD : Hid (∀ W, Below w.heap.size w W → Calls Tryd.prog 13 #[.string ⟨#[100]⟩, .int .u8 0, .int .u8 2, .int .u32 4, .string ⟨#[97, 98]⟩, .slice none 0 0] W fun e w' => ∃ ar cr an cn, e = .returned (.tuple #[.agg #[.string ⟨#[100]⟩, .int .u8 0, .int .u8 2, .int .u32 4, .string ⟨#[97, 98]⟩, .slice ar 0 cr, .slice an 0 cn], .int .i64 0]) ∧ Below W.heap.size W w') := Lib.hid (fun W hW => by
    refine (hP.data exD _ W ⟨by decide, by decide, by decide, by decide, by decide, by decide, by decide, fun j hj => absurd hj (Nat.not_lt_zero j), fun j hj => absurd hj (Nat.not_lt_zero j)⟩ rfl (no_notes W) (hT.below hW)).mono ?_
    rintro e w' ⟨v, rfl, hv, hq⟩
    have e1 : datE exD = 0 := by unfold datE; rw [if_pos ⟨.inl rfl, exD_E⟩]
    have e2 : datS exD = exD := by unfold datS; rw [if_pos ⟨.inl rfl, exD_E⟩]
    rw [e2] at hv
    rw [e1]
    obtain ⟨ar, cr, an, cn, rfl, _, _⟩ := hv.parts
    exact ⟨ar, cr, an, cn, rfl, hq⟩)
  unfold LnPost lnV at HJ1 HJ2 HA
  have ea : tx again = ⟨#[97, 103, 97, 105, 110]⟩ := rfl
  have e0 : tx [] = ⟨#[]⟩ := rfl
  have em : tx main' = ⟨#[109, 97, 105, 110]⟩ := rfl
  have ex : tx [120] = ⟨#[120]⟩ := rfl
  simp only [exL, exX, ea, e0, ex] at HJ1 HJ2 HA HM1 HM2
  clear ea e0 ex
  have HB0 := Lib.hid (Below.refl w.heap.size w)
  have HLC : Hid (∀ W b o, LieC W b o (rlCells ⟨4, 1, main', 0⟩) → W.cell? ⟨b, o, none⟩ = some (.int .u32 4) ∧ W.cell? ⟨b, o + 1, none⟩ = some (.int .u8 1) ∧ W.cell? ⟨b, o + 2, none⟩ = some (.string ⟨#[109, 97, 105, 110]⟩) ∧ W.cell? ⟨b, o + 3, none⟩ = some (.int .u32 0)) := Lib.hid (fun W b o h => by have := h.rl; rw [em] at this; exact this)
  clear em hT
  go_enter Tryd.func8, Tryd.ntmps8
  go_wp2_with fail
  refine (HJ1.out _).mono ?_; rintro e w1 ⟨rfl, q1⟩
  have B1 := Lib.hid (below_call HB0.out q1)
  clear q1 HB0 HJ1
  go_wp2_with fail
  refine (HA.out _).mono ?_; rintro e w2 ⟨rfl, q2⟩
  have B2 := Lib.hid (below_call B1.out q2)
  clear q2 B1 HA
  go_wp2_with fail
  refine (HM1.out _ B2.out).mono ?_; rintro e w3 ⟨b, o, cr, an, cn, rfl, hbl, hL, q3⟩
  have B3 := Lib.hid (below_box (below_call B2.out q3) (.cells #[.string ⟨#[109, 97, 105, 110]⟩, .int .u8 1, .int .u8 1, .int .u32 8, .string ⟨#[40, 0, 0, 0, 0, 0, 0, 0]⟩, .slice (some ⟨b, o, none⟩) 1 cr, .slice an 0 cn] 29))
  have X3 := Lib.hid (Blk.new w3 29 [.string ⟨#[109, 97, 105, 110]⟩, .int .u8 1, .int .u8 1, .int .u32 8, .string ⟨#[40, 0, 0, 0, 0, 0, 0, 0]⟩, .slice (some ⟨b, o, none⟩) 1 cr, .slice an 0 cn])
  have L3 := Lib.hid (hL.below (below_new1 w3 (.cells #[.string ⟨#[109, 97, 105, 110]⟩, .int .u8 1, .int .u8 1, .int .u32 8, .string ⟨#[40, 0, 0, 0, 0, 0, 0, 0]⟩, .slice (some ⟨b, o, none⟩) 1 cr, .slice an 0 cn] 29)) hbl)
  have N3 := Lib.hid (Nat.lt_of_lt_of_le hbl (below_new1 w3 (.cells #[.string ⟨#[109, 97, 105, 110]⟩, .int .u8 1, .int .u8 1, .int .u32 8, .string ⟨#[40, 0, 0, 0, 0, 0, 0, 0]⟩, .slice (some ⟨b, o, none⟩) 1 cr, .slice an 0 cn] 29)).size)
  clear q3 hL hbl B2 HM1
  go_upto_region 2 with (fail)
  obtain ⟨w4, hw4⟩ : ∃ t, t = w3.alloc (.cells #[.string ⟨#[109, 97, 105, 110]⟩, .int .u8 1, .int .u8 1, .int .u32 8, .string ⟨#[40, 0, 0, 0, 0, 0, 0, 0]⟩, .slice (some ⟨b, o, none⟩) 1 cr, .slice an 0 cn] 29) := ⟨_, rfl⟩
  obtain ⟨g3, hg3⟩ : ∃ t, t = w3.heap.size := ⟨_, rfl⟩
  rw [← hw4] at B3 X3 L3 N3 ⊢
  rw [← hg3] at X3 ⊢
  clear hw4 hg3
  go_wp2_with fail
  refine (HJ2.out _).mono ?_; rintro e w5 ⟨rfl, q5⟩
  have B5 := Lib.hid (below_call B3.out q5)
  have X5 := Lib.hid (X3.out.call q5)
  have L5 := Lib.hid (L3.out.below q5 N3.out)
  have N5 := Lib.hid (Nat.lt_of_lt_of_le N3.out q5.size)
  clear q5 B3 X3 L3 N3 HJ2
  go_wp2_with fail
  refine (HM2.out _ B5.out).mono ?_; rintro e w6 ⟨ar2, cr2, an2, cn2, rfl, q6⟩
  have B6 := Lib.hid (below_box (below_call B5.out q6) (.cells #[.string ⟨#[]⟩, .int .u8 0, .int .u8 0, .int .u32 0, .string ⟨#[]⟩, .slice ar2 0 cr2, .slice an2 0 cn2] 29))
  have q66 := below_call q6 (below_new1 w6 (.cells #[.string ⟨#[]⟩, .int .u8 0, .int .u8 0, .int .u32 0, .string ⟨#[]⟩, .slice ar2 0 cr2, .slice an2 0 cn2] 29))
  have X6 := Lib.hid (X5.out.call q66)
  have L6 := Lib.hid (L5.out.below q66 N5.out)
  have N6 := Lib.hid (Nat.lt_of_lt_of_le N5.out q66.size)
  clear q6 q66 B5 X5 L5 N5 HM2
  go_upto_region 3 with (fail)
  obtain ⟨w7, hw7⟩ : ∃ t, t = w6.alloc (.cells #[.string ⟨#[]⟩, .int .u8 0, .int .u8 0, .int .u32 0, .string ⟨#[]⟩, .slice ar2 0 cr2, .slice an2 0 cn2] 29) := ⟨_, rfl⟩
  rw [← hw7] at B6 X6 L6 N6 ⊢
  clear hw7
  go_wp2_with fail
  refine (HD.out _ B6.out).mono ?_; rintro e w8 ⟨ar3, cr3, an3, cn3, rfl, q8⟩
  have B8 := Lib.hid (below_box (below_call B6.out q8) (.cells #[.string ⟨#[100]⟩, .int .u8 0, .int .u8 2, .int .u32 4, .string ⟨#[97, 98]⟩, .slice ar3 0 cr3, .slice an3 0 cn3] 29))
  have q88 := below_call q8 (below_new1 w8 (.cells #[.string ⟨#[100]⟩, .int .u8 0, .int .u8 2, .int .u32 4, .string ⟨#[97, 98]⟩, .slice ar3 0 cr3, .slice an3 0 cn3] 29))
  have X8 := Lib.hid (X6.out.call q88)
  have Y8 := Lib.hid (Blk.new w8 29 [.string ⟨#[100]⟩, .int .u8 0, .int .u8 2, .int .u32 4, .string ⟨#[97, 98]⟩, .slice ar3 0 cr3, .slice an3 0 cn3])
  have L8 := Lib.hid (L6.out.below q88 N6.out)
  have N8 := Lib.hid (Nat.lt_of_lt_of_le N6.out q88.size)
  clear q8 q88 B6 X6 L6 N6 HD
  go_upto_region 4 with (fail)
  obtain ⟨w9, hw9⟩ : ∃ t, t = w8.alloc (.cells #[.string ⟨#[100]⟩, .int .u8 0, .int .u8 2, .int .u32 4, .string ⟨#[97, 98]⟩, .slice ar3 0 cr3, .slice an3 0 cn3] 29) := ⟨_, rfl⟩
  obtain ⟨g8, hg8⟩ : ∃ t, t = w8.heap.size := ⟨_, rfl⟩
  rw [← hw9] at B8 X8 Y8 L8 N8 ⊢
  rw [← hg8] at Y8 ⊢
  clear hw9 hg8
  have x4 : w9.cell? ⟨g3, 4, none⟩ = some (.string ⟨#[40, 0, 0, 0, 0, 0, 0, 0]⟩) := X8.out.cell 4
  have x5 : w9.cell? ⟨g3, 5, none⟩ = some (.slice (some ⟨b, o, none⟩) 1 cr) := X8.out.cell 5
  have y3 : w9.cell? ⟨g8, 3, none⟩ = some (.int .u32 4) := Y8.out.cell 3
  obtain ⟨c0, c1, c2, c3⟩ := HLC.out _ _ _ L8.out
  have hbr := N8.out
  go_wp2_with fail
  go_ret
  exact ⟨rfl, B8.out⟩
end Go.Proofs.YtlnnhgmkibjgmaaDoor
