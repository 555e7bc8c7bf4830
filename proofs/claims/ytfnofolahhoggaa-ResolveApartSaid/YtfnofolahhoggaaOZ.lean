/- The same at the program's types: a relocation, a note, a symbol, an object; lists of these. -/
import Derived.Test.YtfnofolahhoggaaOY
set_option linter.unusedVariables false
namespace Go.Proofs.Ytfnofolahhoggaa
open Go Go.ChangeShapes Go.WideShapes Go.RowKit Oj

theorem zRel : Try.prog.cellsOf 54 = 4 := by kernel_rfl
theorem zNote : Try.prog.cellsOf 81 = 3 := by kernel_rfl
theorem zSym : Try.prog.cellsOf 50 = 7 := by kernel_rfl
theorem zObj : Try.prog.cellsOf 43 = 2 := by kernel_rfl
theorem yRel : Try.prog.bytesOf 54 = 32 := by kernel_rfl
theorem yNote : Try.prog.bytesOf 81 = 12 := by kernel_rfl
theorem ySym : Try.prog.bytesOf 50 = 88 := by kernel_rfl
theorem yObj : Try.prog.bytesOf 43 = 40 := by kernel_rfl
theorem z8 : Try.prog.cellsOf 5 = 1 := by kernel_rfl
theorem z32 : Try.prog.cellsOf 46 = 1 := by kernel_rfl
theorem zStr : Try.prog.cellsOf 9 = 1 := by kernel_rfl
theorem zRels : Try.prog.cellsOf 47 = 1 := by kernel_rfl
theorem zNotes : Try.prog.cellsOf 48 = 1 := by kernel_rfl
theorem zSyms : Try.prog.cellsOf 41 = 1 := by kernel_rfl

section
variable {H : Type} {enc : TypeId × Value → H} {W : World} {base : Nat} {spare : Nat → Bool} {held : Bool}
theorem bn32 {n : Int} (h : (Lit.int .u32 n).wf = true) : 0 ≤ n ∧ n < 4294967296 := by have := bounds_u32 h; omega
theorem bn8 {n : Int} (h : (Lit.int .u8 n).wf = true) : 0 ≤ n ∧ n < 256 := by have := bounds_u8 h; omega
theorem by_tx_eq (s : ByteArray) : tx (by' s) = s := tx_by s
set_option maxRecDepth 100000 in
theorem rel_of {fuel : Nat} {cs : List Value} {x : DataW H × List MemPlace} (h : DataW.trod enc Try.prog W 0 spare held fuel 54 cs = some x) (hs : Sm Try.prog 54 x.1) : ∃ r : Rl, cs = rlCells r ∧ rlFits r := by
  obtain ⟨xs, n, _, rfl, hl, hxl, hg⟩ := DataW.trod_struct Try.underlying54 h
  rw [zRel] at hl
  match cs, hl with
  | [v0, v1, v2, v3], _ =>
    match xs, hxl with
    | [y0, y1, y2, y3], _ =>
      have g0 : DataW.trod enc Try.prog W 0 spare held n 46 [v0] = some y0 := by simpa [z8, z32, zStr] using hg 0 _ rfl
      have g1 : DataW.trod enc Try.prog W 0 spare held n 5 [v1] = some y1 := by simpa [z8, z32, zStr] using hg 1 _ rfl
      have g2 : DataW.trod enc Try.prog W 0 spare held n 9 [v2] = some y2 := by simpa [z8, z32, zStr] using hg 2 _ rfl
      have g3 : DataW.trod enc Try.prog W 0 spare held n 46 [v3] = some y3 := by simpa [z8, z32, zStr] using hg 3 _ rfl
      obtain ⟨n0, e0, f0, w0⟩ := DataW.trod_int Try.underlying46 g0
      obtain ⟨n1, e1, f1, w1⟩ := DataW.trod_int Try.underlying5 g1
      obtain ⟨n2, e2, f2, w2⟩ := DataW.trod_string Try.underlying9 g2
      obtain ⟨n3, e3, f3, w3⟩ := DataW.trod_int Try.underlying46 g3
      simp at e0 e1 e2 e3
      subst e0 e1 e2 e3 f0 f1 f2 f3
      have hq := sm_str (sm_field (i := 2) Try.underlying54 hs rfl rfl)
      have := reach_le2
      refine ⟨⟨n0, n1, by' n2, n3⟩, by rw [rlCells, tx_by], bn32 w0, bn8 w1, bn32 w3, ?_⟩
      exact Nat.le_trans hq this
set_option maxRecDepth 100000 in
theorem note_of {fuel : Nat} {cs : List Value} {x : DataW H × List MemPlace} (h : DataW.trod enc Try.prog W base spare held fuel 81 cs = some x) : ∃ r : Nt, cs = ntCells r ∧ ntFits r := by
  obtain ⟨xs, n, _, rfl, hl, hxl, hg⟩ := DataW.trod_struct Try.underlying81 h
  rw [zNote] at hl
  match cs, hl with
  | [v0, v1, v2], _ =>
    match xs, hxl with
    | [y0, y1, y2], _ =>
      have g0 : DataW.trod enc Try.prog W base spare held n 5 [v0] = some y0 := by simpa [z8, z32, zStr] using hg 0 _ rfl
      have g1 : DataW.trod enc Try.prog W base spare held n 46 [v1] = some y1 := by simpa [z8, z32, zStr] using hg 1 _ rfl
      have g2 : DataW.trod enc Try.prog W base spare held n 46 [v2] = some y2 := by simpa [z8, z32, zStr] using hg 2 _ rfl
      obtain ⟨n0, e0, f0, w0⟩ := DataW.trod_int Try.underlying5 g0
      obtain ⟨n1, e1, f1, w1⟩ := DataW.trod_int Try.underlying46 g1
      obtain ⟨n2, e2, f2, w2⟩ := DataW.trod_int Try.underlying46 g2
      simp at e0 e1 e2
      subst e0 e1 e2
      exact ⟨⟨n0, n1, n2⟩, rfl, bn8 w0, bn32 w1, bn32 w2⟩
theorem range_getD {α : Type} (X : Nat → α) (n j : Nat) (d : α) (hj : j < n) : ((List.range n).map X).getD j d = X j := by simp [List.getD_eq_getElem?_getD, hj]
theorem rels_of {fuel : Nat} {cs : List Value} {x : DataW H × List MemPlace} (h : DataW.trod enc Try.prog W 0 spare held fuel 47 cs = some x) (hs : Sm Try.prog 47 x.1) :
    ∃ v l, cs = [v] ∧ RelsAt W v l ∧ l.length * 32 ≤ 140737488355328 ∧ ∀ j, j < l.length → rlFits (l.getD j Rl.nought) := by
  obtain ⟨v, n, X, CS, h1, h2, h3, h4⟩ := open_sl Rl.nought Try.underlying47 zRel (by decide) yRel (fun (r : Rl) cs => cs = rlCells r ∧ rlFits r) (fun _ _ _ h hs => rel_of h hs) h hs
  have := reach_le2
  have hl : ((List.range n).map X).length = n := by simp
  refine ⟨v, (List.range n).map X, h1, ?_, by rw [hl]; omega, fun j hj => ?_⟩
  · unfold RelsAt
    rw [hl]
    exact h2.congr fun j hj => by rw [range_getD X n j _ hj]; exact (h4 j hj).1
  · rw [hl] at hj
    rw [range_getD X n j _ hj]
    exact (h4 j hj).2
theorem notes_of {fuel : Nat} {cs : List Value} {x : DataW H × List MemPlace} (h : DataW.trod enc Try.prog W 0 spare held fuel 48 cs = some x) (hs : Sm Try.prog 48 x.1) :
    ∃ v l, cs = [v] ∧ NotesAt W v l ∧ l.length * 12 ≤ 140737488355328 ∧ ∀ j, j < l.length → ntFits (l.getD j Nt.nought) := by
  obtain ⟨v, n, X, CS, h1, h2, h3, h4⟩ := open_sl Nt.nought Try.underlying48 zNote (by decide) yNote (fun (r : Nt) cs => cs = ntCells r ∧ ntFits r) (fun _ _ _ h _ => note_of h) h hs
  have := reach_le2
  have hl : ((List.range n).map X).length = n := by simp
  refine ⟨v, (List.range n).map X, h1, ?_, by rw [hl]; omega, fun j hj => ?_⟩
  · unfold NotesAt
    rw [hl]
    exact h2.congr fun j hj => by rw [range_getD X n j _ hj]; exact (h4 j hj).1
  · rw [hl] at hj
    rw [range_getD X n j _ hj]
    exact (h4 j hj).2
set_option maxRecDepth 100000 in
theorem sym_of {fuel : Nat} {cs : List Value} {x : DataW H × List MemPlace} (h : DataW.trod enc Try.prog W 0 spare held fuel 50 cs = some x) (hs : Sm Try.prog 50 x.1) :
    ∃ y : Sy × Value × Value, cs = syCells y.1 y.2.1 y.2.2 ∧ RelsAt W y.2.1 y.1.rels ∧ NotesAt W y.2.2 y.1.notes ∧ syFits y.1 := by
  obtain ⟨xs, n, _, rfl, hl, hxl, hg⟩ := DataW.trod_struct Try.underlying50 h
  rw [zSym] at hl
  match cs, hl with
  | [v0, v1, v2, v3, v4, v5, v6], _ =>
    match xs, hxl with
    | [y0, y1, y2, y3, y4, y5, y6], _ =>
      have g0 : DataW.trod enc Try.prog W 0 spare held n 9 [v0] = some y0 := by simpa [z8, z32, zStr, zRels, zNotes] using hg 0 _ rfl
      have g1 : DataW.trod enc Try.prog W 0 spare held n 5 [v1] = some y1 := by simpa [z8, z32, zStr, zRels, zNotes] using hg 1 _ rfl
      have g2 : DataW.trod enc Try.prog W 0 spare held n 5 [v2] = some y2 := by simpa [z8, z32, zStr, zRels, zNotes] using hg 2 _ rfl
      have g3 : DataW.trod enc Try.prog W 0 spare held n 46 [v3] = some y3 := by simpa [z8, z32, zStr, zRels, zNotes] using hg 3 _ rfl
      have g4 : DataW.trod enc Try.prog W 0 spare held n 9 [v4] = some y4 := by simpa [z8, z32, zStr, zRels, zNotes] using hg 4 _ rfl
      have g5 : DataW.trod enc Try.prog W 0 spare held n 47 [v5] = some y5 := by simpa [z8, z32, zStr, zRels, zNotes] using hg 5 _ rfl
      have g6 : DataW.trod enc Try.prog W 0 spare held n 48 [v6] = some y6 := by simpa [z8, z32, zStr, zRels, zNotes] using hg 6 _ rfl
      obtain ⟨vr, lr, e5, r1, r2, r3⟩ := rels_of g5 (sm_field (i := 5) Try.underlying50 hs rfl rfl)
      obtain ⟨vn, ln, e6, t1, t2, t3⟩ := notes_of g6 (sm_field (i := 6) Try.underlying50 hs rfl rfl)
      obtain ⟨n0, e0, f0, w0⟩ := DataW.trod_string Try.underlying9 g0
      obtain ⟨n1, e1, f1, w1⟩ := DataW.trod_int Try.underlying5 g1
      obtain ⟨n2, e2, f2, w2⟩ := DataW.trod_int Try.underlying5 g2
      obtain ⟨n3, e3, f3, w3⟩ := DataW.trod_int Try.underlying46 g3
      obtain ⟨n4, e4, f4, w4⟩ := DataW.trod_string Try.underlying9 g4
      simp at e0 e1 e2 e3 e4 e5 e6
      subst e0 e1 e2 e3 e4 e5 e6 f0 f4
      have q0 := sm_str (sm_field (i := 0) Try.underlying50 hs rfl rfl)
      have q4 := sm_str (sm_field (i := 4) Try.underlying50 hs rfl rfl)
      have := reach_le2
      exact ⟨⟨⟨by' n0, n1, n2, n3, by' n4, lr, ln⟩, v5, v6⟩, by rw [syCells, tx_by, tx_by], r1, t1, Nat.le_trans q0 this, bn8 w1, bn8 w2, bn32 w3, Nat.le_trans q4 this, r2, t2, r3, t3⟩
theorem syms_of {fuel : Nat} {cs : List Value} {x : DataW H × List MemPlace} (h : DataW.trod enc Try.prog W 0 spare held fuel 41 cs = some x) (hs : Sm Try.prog 41 x.1) :
    ∃ v l, cs = [v] ∧ SymsAt W v l ∧ l.length * 88 ≤ 140737488355328 ∧ ∀ j, j < l.length → syFits (l.getD j Sy.nought) := by
  obtain ⟨v, n, X, CS, h1, h2, h3, h4⟩ := open_sl (Sy.nought, undef, undef) Try.underlying41 zSym (by decide) ySym (fun (y : Sy × Value × Value) cs => cs = syCells y.1 y.2.1 y.2.2 ∧ RelsAt W y.2.1 y.1.rels ∧ NotesAt W y.2.2 y.1.notes ∧ syFits y.1) (fun _ _ _ h hs => sym_of h hs) h hs
  have := reach_le2
  have hl : ((List.range n).map fun i => (X i).1).length = n := by simp
  refine ⟨v, (List.range n).map fun i => (X i).1, h1, ⟨fun j => (X j).2.1, fun j => (X j).2.2, ?_, fun j hj => ?_⟩, by rw [hl]; omega, fun j hj => ?_⟩
  · rw [hl]
    exact h2.congr fun j hj => by rw [range_getD (fun i => (X i).1) n j _ hj]; exact (h4 j hj).1
  · rw [hl] at hj
    rw [range_getD (fun i => (X i).1) n j _ hj]
    exact ⟨(h4 j hj).2.1, (h4 j hj).2.2.1⟩
  · rw [hl] at hj
    rw [range_getD (fun i => (X i).1) n j _ hj]
    exact (h4 j hj).2.2.2
set_option maxRecDepth 100000 in
theorem obj_of {fuel : Nat} {cs : List Value} {x : DataW H × List MemPlace} (h : DataW.trod enc Try.prog W 0 spare held fuel 43 cs = some x) (hs : Sm Try.prog 43 x.1) :
    ∃ y : Ob × Value, cs = obCells y.1 y.2 ∧ SymsAt W y.2 y.1.syms ∧ obFits y.1 := by
  obtain ⟨xs, n, _, rfl, hl, hxl, hg⟩ := DataW.trod_struct Try.underlying43 h
  rw [zObj] at hl
  match cs, hl with
  | [v0, v1], _ =>
    match xs, hxl with
    | [y0, y1], _ =>
      have g0 : DataW.trod enc Try.prog W 0 spare held n 9 [v0] = some y0 := by simpa [zStr, zSyms] using hg 0 _ rfl
      have g1 : DataW.trod enc Try.prog W 0 spare held n 41 [v1] = some y1 := by simpa [zStr, zSyms] using hg 1 _ rfl
      obtain ⟨vs, l, e1, r1, r2, r3⟩ := syms_of g1 (sm_field (i := 1) Try.underlying43 hs rfl rfl)
      obtain ⟨n0, e0, f0, w0⟩ := DataW.trod_string Try.underlying9 g0
      simp at e0 e1
      subst e0 e1 f0
      have q0 := sm_str (sm_field (i := 0) Try.underlying43 hs rfl rfl)
      have := reach_le2
      exact ⟨⟨⟨by' n0, l⟩, v1⟩, by rw [obCells, tx_by], r1, Nat.le_trans q0 this, r2, r3⟩
theorem objs_of {fuel : Nat} {cs : List Value} {x : DataW H × List MemPlace} (h : DataW.trod enc Try.prog W 0 spare held fuel 22 cs = some x) (hs : Sm Try.prog 22 x.1) :
    ∃ v l, cs = [v] ∧ ObsAt W v l ∧ obsFit l := by
  obtain ⟨v, n, X, CS, h1, h2, h3, h4⟩ := open_sl (Ob.nought, undef) Try.underlying22 zObj (by decide) yObj (fun (y : Ob × Value) cs => cs = obCells y.1 y.2 ∧ SymsAt W y.2 y.1.syms ∧ obFits y.1) (fun _ _ _ h hs => obj_of h hs) h hs
  have := reach_le2
  have hl : ((List.range n).map fun i => (X i).1).length = n := by simp
  refine ⟨v, (List.range n).map fun i => (X i).1, h1, ⟨fun j => (X j).2, ?_, fun j hj => ?_⟩, by rw [hl]; omega, fun j hj => ?_⟩
  · rw [hl]
    exact h2.congr fun j hj => by rw [range_getD (fun i => (X i).1) n j _ hj]; exact (h4 j hj).1
  · rw [hl] at hj
    rw [range_getD (fun i => (X i).1) n j _ hj]
    exact (h4 j hj).2.1
  · rw [hl] at hj
    rw [range_getD (fun i => (X i).1) n j _ hj]
    exact (h4 j hj).2.2
end
end Go.Proofs.Ytfnofolahhoggaa
