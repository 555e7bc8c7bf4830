/- Some texts of one proof, one behind the other; each has its own head below. -/
import Derived.Test.YtlnnhgmkibjgmaaDoorX03
import Derived.Test.YtlnnhgmkibjgmaaDoorX17
import Derived.Test.YtlnnhgmkibjgmaaDoorX18
import Derived.Test.YtlnnhgmkibjgmaaDoorCards
import Derived.Test.YtlnnhgmkibjgmaaDoorTie
import Derived.SevenTiedAt
import Derived.ShutString
import Derived.ChangeMaps5
import Derived.ProofKit
import Derived.ChangeSlices
import Derived.Carry
/- The same at the program's types: a relocation, a note, a symbol, a line; lists of these. -/
section
set_option linter.unusedVariables false
namespace Go.Proofs.YtlnnhgmkibjgmaaDoor
open Go Go.ChangeShapes Go.WideShapes Go.RowKit Oj Al

theorem zRel : Tryd.prog.cellsOf 58 = 4 := by kernel_rfl
theorem zNote : Tryd.prog.cellsOf 76 = 3 := by kernel_rfl
theorem zSym : Tryd.prog.cellsOf 29 = 7 := by kernel_rfl
theorem yRel : Tryd.prog.bytesOf 58 = 32 := by kernel_rfl
theorem yNote : Tryd.prog.bytesOf 76 = 12 := by kernel_rfl
theorem ySym : Tryd.prog.bytesOf 29 = 88 := by kernel_rfl
theorem z8 : Tryd.prog.cellsOf 5 = 1 := by kernel_rfl
theorem z32 : Tryd.prog.cellsOf 26 = 1 := by kernel_rfl
theorem zStr : Tryd.prog.cellsOf 9 = 1 := by kernel_rfl
theorem zRels : Tryd.prog.cellsOf 27 = 1 := by kernel_rfl
theorem zNotes : Tryd.prog.cellsOf 22 = 1 := by kernel_rfl
theorem zSyms : Tryd.prog.cellsOf 121 = 1 := by kernel_rfl

section
variable {H : Type} {enc : TypeId × Value → H} {W : World} {base : Nat} {spare : Nat → Bool} {held : Bool}
theorem bn32 {n : Int} (h : (Lit.int .u32 n).wf = true) : 0 ≤ n ∧ n < 4294967296 := by have := bounds_u32 h; omega
theorem bn8 {n : Int} (h : (Lit.int .u8 n).wf = true) : 0 ≤ n ∧ n < 256 := by have := bounds_u8 h; omega
theorem by_tx_eq (s : ByteArray) : tx (by' s) = s := tx_by s
set_option maxRecDepth 100000 in
theorem rel_of {fuel : Nat} {cs : List Value} {x : DataW H × List MemPlace} (h : DataW.trod enc Tryd.prog W 0 spare held fuel 58 cs = some x) (hs : Sm Tryd.prog 58 x.1) : ∃ r : Rl, cs = rlCells r ∧ rlFits r := by
  obtain ⟨xs, n, _, rfl, hl, hxl, hg⟩ := DataW.trod_struct Tryd.underlying58 h
  rw [zRel] at hl
  match cs, hl with
  | [v0, v1, v2, v3], _ =>
    match xs, hxl with
    | [y0, y1, y2, y3], _ =>
      have g0 : DataW.trod enc Tryd.prog W 0 spare held n 26 [v0] = some y0 := by simpa [z8, z32, zStr] using hg 0 _ rfl
      have g1 : DataW.trod enc Tryd.prog W 0 spare held n 5 [v1] = some y1 := by simpa [z8, z32, zStr] using hg 1 _ rfl
      have g2 : DataW.trod enc Tryd.prog W 0 spare held n 9 [v2] = some y2 := by simpa [z8, z32, zStr] using hg 2 _ rfl
      have g3 : DataW.trod enc Tryd.prog W 0 spare held n 26 [v3] = some y3 := by simpa [z8, z32, zStr] using hg 3 _ rfl
      obtain ⟨n0, e0, f0, w0⟩ := DataW.trod_int Tryd.underlying26 g0
      obtain ⟨n1, e1, f1, w1⟩ := DataW.trod_int Tryd.underlying5 g1
      obtain ⟨n2, e2, f2, w2⟩ := DataW.trod_string Tryd.underlying9 g2
      obtain ⟨n3, e3, f3, w3⟩ := DataW.trod_int Tryd.underlying26 g3
      simp at e0 e1 e2 e3
      subst e0 e1 e2 e3 f0 f1 f2 f3
      have hq := sm_str (sm_field (i := 2) Tryd.underlying58 hs rfl rfl)
      have := reach_le2
      refine ⟨⟨n0, n1, by' n2, n3⟩, by rw [rlCells, tx_by], bn32 w0, bn8 w1, bn32 w3, ?_⟩
      exact Nat.le_trans hq this
set_option maxRecDepth 100000 in
theorem note_of {fuel : Nat} {cs : List Value} {x : DataW H × List MemPlace} (h : DataW.trod enc Tryd.prog W base spare held fuel 76 cs = some x) : ∃ r : Nt, cs = ntCells r ∧ ntFits r := by
  obtain ⟨xs, n, _, rfl, hl, hxl, hg⟩ := DataW.trod_struct Tryd.underlying76 h
  rw [zNote] at hl
  match cs, hl with
  | [v0, v1, v2], _ =>
    match xs, hxl with
    | [y0, y1, y2], _ =>
      have g0 : DataW.trod enc Tryd.prog W base spare held n 5 [v0] = some y0 := by simpa [z8, z32, zStr] using hg 0 _ rfl
      have g1 : DataW.trod enc Tryd.prog W base spare held n 26 [v1] = some y1 := by simpa [z8, z32, zStr] using hg 1 _ rfl
      have g2 : DataW.trod enc Tryd.prog W base spare held n 26 [v2] = some y2 := by simpa [z8, z32, zStr] using hg 2 _ rfl
      obtain ⟨n0, e0, f0, w0⟩ := DataW.trod_int Tryd.underlying5 g0
      obtain ⟨n1, e1, f1, w1⟩ := DataW.trod_int Tryd.underlying26 g1
      obtain ⟨n2, e2, f2, w2⟩ := DataW.trod_int Tryd.underlying26 g2
      simp at e0 e1 e2
      subst e0 e1 e2
      exact ⟨⟨n0, n1, n2⟩, rfl, bn8 w0, bn32 w1, bn32 w2⟩
theorem range_getD {α : Type} (X : Nat → α) (n j : Nat) (d : α) (hj : j < n) : ((List.range n).map X).getD j d = X j := by simp [List.getD_eq_getElem?_getD, hj]
theorem rels_of {fuel : Nat} {cs : List Value} {x : DataW H × List MemPlace} (h : DataW.trod enc Tryd.prog W 0 spare held fuel 27 cs = some x) (hs : Sm Tryd.prog 27 x.1) :
    ∃ v l, cs = [v] ∧ RelsAt W v l ∧ l.length * 32 ≤ 140737488355328 ∧ ∀ j, j < l.length → rlFits (l.getD j Rl.nought) := by
  obtain ⟨v, n, X, CS, h1, h2, h3, h4⟩ := open_sl Rl.nought Tryd.underlying27 zRel (by decide) yRel (fun (r : Rl) cs => cs = rlCells r ∧ rlFits r) (fun _ _ _ h hs => rel_of h hs) h hs
  have := reach_le2
  have hl : ((List.range n).map X).length = n := by simp
  refine ⟨v, (List.range n).map X, h1, ?_, by rw [hl]; omega, fun j hj => ?_⟩
  · unfold RelsAt
    rw [hl]
    exact h2.congr fun j hj => by rw [range_getD X n j _ hj]; exact (h4 j hj).1
  · rw [hl] at hj
    rw [range_getD X n j _ hj]
    exact (h4 j hj).2
theorem notes_of {fuel : Nat} {cs : List Value} {x : DataW H × List MemPlace} (h : DataW.trod enc Tryd.prog W 0 spare held fuel 22 cs = some x) (hs : Sm Tryd.prog 22 x.1) :
    ∃ v l, cs = [v] ∧ NotesAt W v l ∧ l.length * 12 ≤ 140737488355328 ∧ ∀ j, j < l.length → ntFits (l.getD j Nt.nought) := by
  obtain ⟨v, n, X, CS, h1, h2, h3, h4⟩ := open_sl Nt.nought Tryd.underlying22 zNote (by decide) yNote (fun (r : Nt) cs => cs = ntCells r ∧ ntFits r) (fun _ _ _ h _ => note_of h) h hs
  have := reach_le2
  have hl : ((List.range n).map X).length = n := by simp
  refine ⟨v, (List.range n).map X, h1, ?_, by rw [hl]; omega, fun j hj => ?_⟩
  · unfold NotesAt
    rw [hl]
    exact h2.congr fun j hj => by rw [range_getD X n j _ hj]; exact (h4 j hj).1
  · rw [hl] at hj
    rw [range_getD X n j _ hj]
    exact (h4 j hj).2
set_option maxRecDepth 100000 in
theorem sym_of {fuel : Nat} {cs : List Value} {x : DataW H × List MemPlace} (h : DataW.trod enc Tryd.prog W 0 spare held fuel 29 cs = some x) (hs : Sm Tryd.prog 29 x.1) :
    ∃ y : Sy × Value × Value, cs = syCells y.1 y.2.1 y.2.2 ∧ RelsAt W y.2.1 y.1.rels ∧ NotesAt W y.2.2 y.1.notes ∧ syFits y.1 := by
  obtain ⟨xs, n, _, rfl, hl, hxl, hg⟩ := DataW.trod_struct Tryd.underlying29 h
  rw [zSym] at hl
  match cs, hl with
  | [v0, v1, v2, v3, v4, v5, v6], _ =>
    match xs, hxl with
    | [y0, y1, y2, y3, y4, y5, y6], _ =>
      have g0 : DataW.trod enc Tryd.prog W 0 spare held n 9 [v0] = some y0 := by simpa [z8, z32, zStr, zRels, zNotes] using hg 0 _ rfl
      have g1 : DataW.trod enc Tryd.prog W 0 spare held n 5 [v1] = some y1 := by simpa [z8, z32, zStr, zRels, zNotes] using hg 1 _ rfl
      have g2 : DataW.trod enc Tryd.prog W 0 spare held n 5 [v2] = some y2 := by simpa [z8, z32, zStr, zRels, zNotes] using hg 2 _ rfl
      have g3 : DataW.trod enc Tryd.prog W 0 spare held n 26 [v3] = some y3 := by simpa [z8, z32, zStr, zRels, zNotes] using hg 3 _ rfl
      have g4 : DataW.trod enc Tryd.prog W 0 spare held n 9 [v4] = some y4 := by simpa [z8, z32, zStr, zRels, zNotes] using hg 4 _ rfl
      have g5 : DataW.trod enc Tryd.prog W 0 spare held n 27 [v5] = some y5 := by simpa [z8, z32, zStr, zRels, zNotes] using hg 5 _ rfl
      have g6 : DataW.trod enc Tryd.prog W 0 spare held n 22 [v6] = some y6 := by simpa [z8, z32, zStr, zRels, zNotes] using hg 6 _ rfl
      obtain ⟨vr, lr, e5, r1, r2, r3⟩ := rels_of g5 (sm_field (i := 5) Tryd.underlying29 hs rfl rfl)
      obtain ⟨vn, ln, e6, t1, t2, t3⟩ := notes_of g6 (sm_field (i := 6) Tryd.underlying29 hs rfl rfl)
      obtain ⟨n0, e0, f0, w0⟩ := DataW.trod_string Tryd.underlying9 g0
      obtain ⟨n1, e1, f1, w1⟩ := DataW.trod_int Tryd.underlying5 g1
      obtain ⟨n2, e2, f2, w2⟩ := DataW.trod_int Tryd.underlying5 g2
      obtain ⟨n3, e3, f3, w3⟩ := DataW.trod_int Tryd.underlying26 g3
      obtain ⟨n4, e4, f4, w4⟩ := DataW.trod_string Tryd.underlying9 g4
      simp at e0 e1 e2 e3 e4 e5 e6
      subst e0 e1 e2 e3 e4 e5 e6 f0 f4
      have q0 := sm_str (sm_field (i := 0) Tryd.underlying29 hs rfl rfl)
      have q4 := sm_str (sm_field (i := 4) Tryd.underlying29 hs rfl rfl)
      have := reach_le2
      exact ⟨⟨⟨by' n0, n1, n2, n3, by' n4, lr, ln⟩, v5, v6⟩, by rw [syCells, tx_by, tx_by], r1, t1, Nat.le_trans q0 this, bn8 w1, bn8 w2, bn32 w3, Nat.le_trans q4 this, r2, t2, r3, t3⟩
theorem syms_of {fuel : Nat} {cs : List Value} {x : DataW H × List MemPlace} (h : DataW.trod enc Tryd.prog W 0 spare held fuel 121 cs = some x) (hs : Sm Tryd.prog 121 x.1) :
    ∃ v l, cs = [v] ∧ SymsAt W v l ∧ l.length * 88 ≤ 140737488355328 ∧ ∀ j, j < l.length → syFits (l.getD j Sy.nought) := by
  obtain ⟨v, n, X, CS, h1, h2, h3, h4⟩ := open_sl (Sy.nought, undef, undef) Tryd.underlying121 zSym (by decide) ySym (fun (y : Sy × Value × Value) cs => cs = syCells y.1 y.2.1 y.2.2 ∧ RelsAt W y.2.1 y.1.rels ∧ NotesAt W y.2.2 y.1.notes ∧ syFits y.1) (fun _ _ _ h hs => sym_of h hs) h hs
  have := reach_le2
  have hl : ((List.range n).map fun i => (X i).1).length = n := by simp
  refine ⟨v, (List.range n).map fun i => (X i).1, h1, ⟨fun j => (X j).2.1, fun j => (X j).2.2, ?_, fun j hj => ?_⟩, by rw [hl]; omega, fun j hj => ?_⟩
  · rw [hl]
    exact h2.congr fun j hj => by rw [range_getD (fun i => (X i).1) n j _ hj]; exact (h4 j hj).1
  · rw [hl] at hj
    rw [range_getD (fun i => (X i).1) n j _ hj]
    exact ⟨(h4 j hj).2.1, (h4 j hj).2.2.1⟩
  · rw [hl] at hj
    rw [range_getD (fun i => (X i).1) n j _ hj]
    exact (h4 j hj).2.2.2
end
theorem zLine : Tryd.prog.cellsOf 42 = 8 := by kernel_rfl
theorem yLine : Tryd.prog.bytesOf 42 = 56 := by kernel_rfl
theorem zInsn : Tryd.prog.cellsOf 40 = 5 := by kernel_rfl
section
variable {H : Type} {enc : TypeId × Value → H} {W : World} {base : Nat} {spare : Nat → Bool} {held : Bool}
set_option maxRecDepth 100000 in
theorem insn_of {fuel : Nat} {cs : List Value} {x : DataW H × List MemPlace} (h : DataW.trod enc Tryd.prog W base spare held fuel 40 cs = some x) : ∃ op d a b im, cs = [.int .u8 op, .int .u8 d, .int .u8 a, .int .u8 b, .int .u32 im] ∧ (0 ≤ op ∧ op < 256) ∧ (0 ≤ d ∧ d < 256) ∧ (0 ≤ a ∧ a < 256) ∧ (0 ≤ b ∧ b < 256) ∧ (0 ≤ im ∧ im < 4294967296) := by
  obtain ⟨xs, n, _, rfl, hl, hxl, hg⟩ := DataW.trod_struct Tryd.underlying40 h
  rw [zInsn] at hl
  match cs, hl with
  | [v0, v1, v2, v3, v4], _ =>
    match xs, hxl with
    | [y0, y1, y2, y3, y4], _ =>
      have g0 : DataW.trod enc Tryd.prog W base spare held n 5 [v0] = some y0 := by simpa [z8, z32, zStr] using hg 0 _ rfl
      have g1 : DataW.trod enc Tryd.prog W base spare held n 5 [v1] = some y1 := by simpa [z8, z32, zStr] using hg 1 _ rfl
      have g2 : DataW.trod enc Tryd.prog W base spare held n 5 [v2] = some y2 := by simpa [z8, z32, zStr] using hg 2 _ rfl
      have g3 : DataW.trod enc Tryd.prog W base spare held n 5 [v3] = some y3 := by simpa [z8, z32, zStr] using hg 3 _ rfl
      have g4 : DataW.trod enc Tryd.prog W base spare held n 26 [v4] = some y4 := by simpa [z8, z32, zStr] using hg 4 _ rfl
      obtain ⟨n0, e0, f0, w0⟩ := DataW.trod_int Tryd.underlying5 g0
      obtain ⟨n1, e1, f1, w1⟩ := DataW.trod_int Tryd.underlying5 g1
      obtain ⟨n2, e2, f2, w2⟩ := DataW.trod_int Tryd.underlying5 g2
      obtain ⟨n3, e3, f3, w3⟩ := DataW.trod_int Tryd.underlying5 g3
      obtain ⟨n4, e4, f4, w4⟩ := DataW.trod_int Tryd.underlying26 g4
      simp at e0 e1 e2 e3 e4
      subst e0 e1 e2 e3 e4
      exact ⟨n0, n1, n2, n3, n4, rfl, bn8 w0, bn8 w1, bn8 w2, bn8 w3, bn32 w4⟩
set_option maxRecDepth 100000 in
theorem line_of {fuel : Nat} {cs : List Value} {x : DataW H × List MemPlace} (h : DataW.trod enc Tryd.prog W 0 spare held fuel 42 cs = some x) (hs : Sm Tryd.prog 42 x.1) : ∃ r : Ln, cs = lnCells r ∧ lnFits r := by
  obtain ⟨xs, n, _, rfl, hl, hxl, hg⟩ := DataW.trod_struct Tryd.underlying42 h
  rw [zLine] at hl
  match cs, hl with
  | [v0, v1, v2, v3, v4, v5, v6, v7], _ =>
    match xs, hxl with
    | [y0, y1, y2, y3], _ =>
      have g0 : DataW.trod enc Tryd.prog W 0 spare held n 9 [v0] = some y0 := by simpa [z8, z32, zStr, zInsn] using hg 0 _ rfl
      have g1 : DataW.trod enc Tryd.prog W 0 spare held n 40 [v1, v2, v3, v4, v5] = some y1 := by simpa [z8, z32, zStr, zInsn] using hg 1 _ rfl
      have g2 : DataW.trod enc Tryd.prog W 0 spare held n 9 [v6] = some y2 := by simpa [z8, z32, zStr, zInsn] using hg 2 _ rfl
      have g3 : DataW.trod enc Tryd.prog W 0 spare held n 9 [v7] = some y3 := by simpa [z8, z32, zStr, zInsn] using hg 3 _ rfl
      obtain ⟨n0, e0, f0, w0⟩ := DataW.trod_string Tryd.underlying9 g0
      obtain ⟨op, d, a, b, im, e1, o1, d1, a1, b1, i1⟩ := insn_of g1
      obtain ⟨n2, e2, f2, w2⟩ := DataW.trod_string Tryd.underlying9 g2
      obtain ⟨n3, e3, f3, w3⟩ := DataW.trod_string Tryd.underlying9 g3
      simp at e0 e1 e2 e3
      obtain ⟨k1, k2, k3, k4, k5⟩ := e1
      subst e0 k1 k2 k3 k4 k5 e2 e3 f0 f2 f3
      have q0 := sm_str (sm_field (i := 0) Tryd.underlying42 hs rfl rfl)
      have q2 := sm_str (sm_field (i := 2) Tryd.underlying42 hs rfl rfl)
      have q3 := sm_str (sm_field (i := 3) Tryd.underlying42 hs rfl rfl)
      have := reach_le2
      exact ⟨⟨by' n0, op, d, a, b, im, by' n2, by' n3⟩, by rw [lnCells, tx_by, tx_by, tx_by], Nat.le_trans q0 this, o1, d1, a1, b1, i1, Nat.le_trans q2 this, Nat.le_trans q3 this⟩
theorem lines_of {fuel : Nat} {cs : List Value} {x : DataW H × List MemPlace} (h : DataW.trod enc Tryd.prog W 0 spare held fuel 23 cs = some x) (hs : Sm Tryd.prog 23 x.1) :
    ∃ v l, cs = [v] ∧ LinesAt W v l ∧ lnsFit l := by
  obtain ⟨v, n, X, CS, h1, h2, h3, h4⟩ := open_sl Ln.nought Tryd.underlying23 zLine (by decide) yLine (fun (r : Ln) cs => cs = lnCells r ∧ lnFits r) (fun _ _ _ h hs => line_of h hs) h hs
  have := reach_le2
  have hl : ((List.range n).map X).length = n := by simp
  refine ⟨v, (List.range n).map X, h1, ?_, by rw [hl]; omega, fun j hj => ?_⟩
  · unfold LinesAt
    rw [hl]
    exact h2.congr fun j hj => by rw [range_getD X n j _ hj]; exact (h4 j hj).1
  · rw [hl] at hj
    rw [range_getD X n j _ hj]
    exact (h4 j hj).2
end
end Go.Proofs.YtlnnhgmkibjgmaaDoor
end

/- The frames of stage 10: arguments that lead to memory; what came in. -/
section
set_option linter.unusedVariables false
namespace Go.Proofs.YtlnnhgmkibjgmaaDoor
open Go Go.ChangeShapes Go.WideShapes Go.ChangeAt Go.RowKit Oj Al
open Go.ChangeMaps (open_string shut_string)

section
variable {H : Type} {enc : TypeId × Value → H} {P : Program}
/-- law_post, where the arguments lead to memory. -/
theorem law_post_at {f : Func} {s : ChangeSpec} {W W' : World} {args : Array Value} {x : Bool} {ds : List (DataW H)} {before : List MemPlace}
    (hW : DataW.Whole enc P f.params.toList s.vars false W args.toList ds [] before) (hvar : s.vars = []) (hs : s.fn H (ds ++ []) = { results := [.lit (.bool x)], args := ds })
    (hf : f.resultTypes = #[4]) (hty : P.underlying 4 = some .bool)
    (hargs : DataW.TrodAll enc P W' 0 (fun b => decide (b < W.heap.size)) true f.params.toList args.toList ds before) (hb : Below W.heap.size W W') :
    s.post enc P f false true false false W args (.bool x) W' := by
  have hlt : ∀ p ∈ before, p.block < W.heap.size := fun p hp => hW.lt p hp
  have hres : ∀ (b : Nat) (sp : Nat → Bool) (hd : Bool), DataW.TrodAll enc P W' b sp hd f.resultTypes.toList ((Value.bool x).resultList f.resultTypes.size) (s.fn H (ds ++ [])).results [] := by
    intro b sp hd
    rw [hs, hf]
    exact trodAll_mk1 (shut_bool hty x)
  have hargs' : DataW.TrodAll enc P W' 0 (fun b => decide (b < W.heap.size)) true f.params.toList args.toList (s.fn H (ds ++ [])).args before := by
    rw [hs]
    exact hargs
  have hvars : ∀ sp : Nat → Bool, DataW.TrodVars enc P W' sp s.vars (s.fn H (ds ++ [])).vars [] := by
    intro sp
    rw [hs, hvar]
    rfl
  refine ⟨ds, [], before, [], before, [], hW, hres _ _ _, hargs', hvars _, World.keptBut_mono (fun p hp => ⟨hp, Or.inr (by simpa using hp)⟩) (hb.frame (· ∈ before)), fun h => ?_⟩
  cases h
end
theorem laidOut : laidOutB Tryd.prog = true := by kernel_rfl


section
variable {H : Type} {enc : TypeId × Value → H} {W : World} {b0 : Nat} {v : Value} {d : DataW H} {p : List MemPlace} {spare : Nat → Bool} {held : Bool}
set_option maxRecDepth 100000 in
theorem sym_arg (hv : Value.okWide Tryd.prog W .any b0 29 v) (h0 : DataW.Trod enc Tryd.prog W 0 spare held 29 v d p) (hs : Sm Tryd.prog 29 d) : ∃ x : Sy, SymAt W v x ∧ syFits x := by
  obtain ⟨cs, rfl, hsz⟩ := okWide_struct Tryd.underlying29 hv
  obtain ⟨fuel, hf⟩ := h0
  obtain ⟨y, h1, h2, h3, h4⟩ := sym_of hf hs
  refine ⟨y.1, ⟨y.2.1, y.2.2, ?_, h2, h3⟩, h4⟩
  have e' : cs.toList = syCells y.1 y.2.1 y.2.2 := by simpa [Value.cells] using h1
  congr 1
  apply Array.toList_inj.1
  exact e'
set_option maxRecDepth 100000 in
theorem line_arg (hv : Value.okWide Tryd.prog W .any b0 42 v) (h0 : DataW.Trod enc Tryd.prog W 0 spare held 42 v d p) (hs : Sm Tryd.prog 42 d) : ∃ x : Ln, v = lnV x ∧ lnFits x := by
  obtain ⟨cs, rfl, hsz⟩ := okWide_struct Tryd.underlying42 hv
  obtain ⟨fuel, hf⟩ := h0
  obtain ⟨y, h1, h2⟩ := line_of hf hs
  refine ⟨y, ?_, h2⟩
  have e' : cs.toList = lnCells y := by simpa [Value.cells] using h1
  unfold lnV
  congr 1
  apply Array.toList_inj.1
  exact e'
theorem lines_arg {a : Option Addr} {n c : Nat} (h0 : DataW.Trod enc Tryd.prog W 0 spare held 23 (.slice a n c) d p) (hs : Sm Tryd.prog 23 d) : ∃ l : List Ln, LinesAt W (.slice a n c) l ∧ lnsFit l := by
  obtain ⟨fuel, hf⟩ := h0
  obtain ⟨v, l, h1, h2, h3⟩ := lines_of hf hs
  have : v = .slice a n c := by simp [Value.cells] at h1; exact h1.symm
  subst this
  exact ⟨l, h2, h3⟩
theorem notes_arg {a : Option Addr} {n c : Nat} (h0 : DataW.Trod enc Tryd.prog W 0 spare held 22 (.slice a n c) d p) (hs : Sm Tryd.prog 22 d) : ∃ l : List Nt, NotesAt W (.slice a n c) l ∧ l.length * 12 ≤ 140737488355328 ∧ ∀ j, j < l.length → ntFits (l.getD j Nt.nought) := by
  obtain ⟨fuel, hf⟩ := h0
  obtain ⟨v, l, h1, h2, h3, h4⟩ := notes_of hf hs
  have : v = .slice a n c := by simp [Value.cells] at h1; exact h1.symm
  subst this
  exact ⟨l, h2, h3, h4⟩
end
end Go.Proofs.YtlnnhgmkibjgmaaDoor
end
