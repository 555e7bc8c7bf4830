/- What came in, opened; a law's last step (out of obj/FR, asm/OF). -/
import Derived.Test.YtfnofolahhoggaaOZ
import Derived.Test.YtfnofolahhoggaaUM
import Derived.Test.YtfnofolahhoggaaRows
import Derived.ProofKit
import Derived.ShutString
import Derived.ChangeSlices
import Derived.Carry
import Derived.ChangeMaps5
import Derived.SizedLaws
import Derived.OpenShut
set_option linter.unusedVariables false
namespace Go.Proofs.Ytfnofolahhoggaa
open Go Go.ChangeShapes Go.WideShapes Go.ChangeAt Go.RowKit Oj Rv
open Go.ChangeMaps (open_string shut_string)

section
variable {H : Type} {enc : TypeId × Value → H} {P : Program}
/-- law_post, where the arguments lead to memory. -/
theorem law_post_at {f : Func} {s : ChangeSpec} {W W' : World} {args : Array Value} {x : Bool} {ds : List (DataW H)} {before : List MemPlace}
    (hW : DataW.Whole enc P f.params.toList s.vars false W args.toList ds [] before) (hvar : s.vars = []) (hs : s.fn H (ds ++ []) = { results := [.lit (.bool x)], args := ds })
    (hf : f.resultTypes = #[4]) (hty : P.underlying 4 = some .bool)
    (hargs : DataW.TrodAll enc P W' 0 (fun b => decide (b < W.heap.size)) true f.params.toList args.toList ds before) (hb : Below W.heap.size W W') :
    s.post enc P f false true false false W args (.bool x) W' := by
  have hlt : ∀ p ∈ before, p.block < W.heap.size := fun p hp => hW.lt p hp
  have hres : ∀ (b : Nat) (sp : Nat → Bool) (hd : Bool), DataW.TrodAll enc P W' b sp hd f.resultTypes.toList ((Value.bool x).resultList f.resultTypes.size) (s.fn H (ds ++ [])).results [] := by
    intro b sp hd
    rw [hs, hf]
    exact trodAll_mk1 (shut_bool hty x)
  have hargs' : DataW.TrodAll enc P W' 0 (fun b => decide (b < W.heap.size)) true f.params.toList args.toList (s.fn H (ds ++ [])).args before := by
    rw [hs]
    exact hargs
  have hvars : ∀ sp : Nat → Bool, DataW.TrodVars enc P W' sp s.vars (s.fn H (ds ++ [])).vars [] := by
    intro sp
    rw [hs, hvar]
    rfl
  refine ⟨ds, [], before, [], before, [], hW, hres _ _ _, hargs', hvars _, World.keptBut_mono (fun p hp => ⟨hp, Or.inr (by simpa using hp)⟩) (hb.frame (· ∈ before)), fun h => ?_⟩
  cases h
end
theorem laidOut : laidOutB Try.prog = true := by kernel_rfl
theorem own : ownKnob Try.prog.godebug = none := by kernel_rfl
theorem reach_le : reachBytes ≤ 140737488355328 := by decide
theorem reach_le3 : reachBytes ≤ 140737488351232 := by decide
theorem zPlace : Try.prog.cellsOf 24 = 2 := by kernel_rfl
theorem zInt : Try.prog.cellsOf 3 = 1 := by kernel_rfl
section
variable {H : Type} {enc : TypeId × Value → H} {W : World} {base : Nat} {spare : Nat → Bool} {held : Bool}
/-- Lists of symbols, objects: as OZ has it, with the narrower bound. -/
theorem syms_of' {fuel : Nat} {cs : List Value} {x : DataW H × List MemPlace} (h : DataW.trod enc Try.prog W 0 spare held fuel 41 cs = some x) (hs : Sm Try.prog 41 x.1) :
    ∃ v l, cs = [v] ∧ SymsAt W v l ∧ l.length * 88 ≤ 140737488351232 ∧ ∀ j, j < l.length → syFits (l.getD j Sy.nought) := by
  obtain ⟨v, n, X, CS, h1, h2, h3, h4⟩ := open_sl (Sy.nought, undef, undef) Try.underlying41 zSym (by decide) ySym (fun (y : Sy × Value × Value) cs => cs = syCells y.1 y.2.1 y.2.2 ∧ RelsAt W y.2.1 y.1.rels ∧ NotesAt W y.2.2 y.1.notes ∧ syFits y.1) (fun _ _ _ h hs => sym_of h hs) h hs
  have := reach_le3
  have hl : ((List.range n).map fun i => (X i).1).length = n := by simp
  refine ⟨v, (List.range n).map fun i => (X i).1, h1, ⟨fun j => (X j).2.1, fun j => (X j).2.2, ?_, fun j hj => ?_⟩, by rw [hl]; omega, fun j hj => ?_⟩
  · rw [hl]
    exact h2.congr fun j hj => by rw [range_getD (fun i => (X i).1) n j _ hj]; exact (h4 j hj).1
  · rw [hl] at hj
    rw [range_getD (fun i => (X i).1) n j _ hj]
    exact ⟨(h4 j hj).2.1, (h4 j hj).2.2.1⟩
  · rw [hl] at hj
    rw [range_getD (fun i => (X i).1) n j _ hj]
    exact (h4 j hj).2.2.2
set_option maxRecDepth 100000 in
theorem obj_of' {fuel : Nat} {cs : List Value} {x : DataW H × List MemPlace} (h : DataW.trod enc Try.prog W 0 spare held fuel 43 cs = some x) (hs : Sm Try.prog 43 x.1) :
    ∃ y : Ob × Value, cs = obCells y.1 y.2 ∧ SymsAt W y.2 y.1.syms ∧ obFits y.1 ∧ y.1.syms.length * 88 ≤ 140737488351232 := by
  obtain ⟨xs, n, _, rfl, hl, hxl, hg⟩ := DataW.trod_struct Try.underlying43 h
  rw [zObj] at hl
  match cs, hl with
  | [v0, v1], _ =>
    match xs, hxl with
    | [y0, y1], _ =>
      have g0 : DataW.trod enc Try.prog W 0 spare held n 9 [v0] = some y0 := by simpa [zStr, zSyms] using hg 0 _ rfl
      have g1 : DataW.trod enc Try.prog W 0 spare held n 41 [v1] = some y1 := by simpa [zStr, zSyms] using hg 1 _ rfl
      obtain ⟨vs, l, e1, r1, r2, r3⟩ := syms_of' g1 (sm_field (i := 1) Try.underlying43 hs rfl rfl)
      obtain ⟨n0, e0, f0, w0⟩ := DataW.trod_string Try.underlying9 g0
      simp at e0 e1
      subst e0 e1 f0
      have q0 := sm_str (sm_field (i := 0) Try.underlying43 hs rfl rfl)
      have := reach_le2
      exact ⟨⟨⟨by' n0, l⟩, v1⟩, by rw [obCells, tx_by], r1, ⟨Nat.le_trans q0 this, by show l.length * 88 ≤ _; omega, r3⟩, r2⟩
theorem objs_of' {fuel : Nat} {cs : List Value} {x : DataW H × List MemPlace} (h : DataW.trod enc Try.prog W 0 spare held fuel 22 cs = some x) (hs : Sm Try.prog 22 x.1) :
    ∃ v l, cs = [v] ∧ ObsAt W v l ∧ obsFit l ∧ ∀ j, j < l.length → (l.getD j Ob.nought).syms.length * 88 ≤ 140737488351232 := by
  obtain ⟨v, n, X, CS, h1, h2, h3, h4⟩ := open_sl (Ob.nought, undef) Try.underlying22 zObj (by decide) yObj (fun (y : Ob × Value) cs => cs = obCells y.1 y.2 ∧ SymsAt W y.2 y.1.syms ∧ obFits y.1 ∧ y.1.syms.length * 88 ≤ 140737488351232) (fun _ _ _ h hs => obj_of' h hs) h hs
  have := reach_le2
  have hl : ((List.range n).map fun i => (X i).1).length = n := by simp
  refine ⟨v, (List.range n).map fun i => (X i).1, h1, ⟨fun j => (X j).2, ?_, fun j hj => ?_⟩, ⟨by rw [hl]; omega, fun j hj => ?_⟩, fun j hj => ?_⟩
  · rw [hl]
    exact h2.congr fun j hj => by rw [range_getD (fun i => (X i).1) n j _ hj]; exact (h4 j hj).1
  · rw [hl] at hj
    rw [range_getD (fun i => (X i).1) n j _ hj]
    exact (h4 j hj).2.1
  · rw [hl] at hj
    rw [range_getD (fun i => (X i).1) n j _ hj]
    exact (h4 j hj).2.2.1
  · rw [hl] at hj
    rw [range_getD (fun i => (X i).1) n j _ hj]
    exact (h4 j hj).2.2.2
end
/-! arguments -/
section
variable {H : Type} {enc : TypeId × Value → H} {W : World} {b0 : Nat} {v : Value} {d : DataW H} {p : List MemPlace} {spare : Nat → Bool} {held : Bool}
theorem objs_arg {a : Option Addr} {n c : Nat} (h0 : DataW.Trod enc Try.prog W 0 spare held 22 (.slice a n c) d p) (hs : Sm Try.prog 22 d) :
    ∃ l : List Ob, ObsAt W (.slice a n c) l ∧ obsFit l ∧ ∀ j, j < l.length → (l.getD j Ob.nought).syms.length * 88 ≤ 140737488351232 := by
  obtain ⟨fuel, hf⟩ := h0
  obtain ⟨v, l, h1, h2, h3⟩ := objs_of' hf hs
  have : v = .slice a n c := by simp [Value.cells] at h1; exact h1.symm
  subst this
  exact ⟨l, h2, h3⟩
theorem place_of {base fuel : Nat} {cs : List Value} {x : DataW H × List MemPlace} (h : DataW.trod enc Try.prog W base spare held fuel 24 cs = some x) : ∃ n m : Int, cs = [.int .i64 n, .int .i64 m] := by
  obtain ⟨xs, n, _, rfl, hl, hxl, hg⟩ := DataW.trod_struct Try.underlying24 h
  rw [zPlace] at hl
  match cs, hl with
  | [v0, v1], _ =>
    match xs, hxl with
    | [y0, y1], _ =>
      have g0 : DataW.trod enc Try.prog W base spare held n 3 [v0] = some y0 := by simpa [zInt] using hg 0 _ rfl
      have g1 : DataW.trod enc Try.prog W base spare held n 3 [v1] = some y1 := by simpa [zInt] using hg 1 _ rfl
      obtain ⟨n0, e0, f0, w0⟩ := DataW.trod_int Try.underlying3 g0
      obtain ⟨n1, e1, f1, w1⟩ := DataW.trod_int Try.underlying3 g1
      simp at e0 e1
      subst e0 e1
      exact ⟨n0, n1, rfl⟩
theorem place_arg {base : Nat} (hv : Value.okWide Try.prog W .any b0 24 v) (h0 : DataW.Trod enc Try.prog W base spare held 24 v d p) : ∃ x y : Int, v = .agg #[.int .i64 x, .int .i64 y] := by
  obtain ⟨cs, rfl, hsz⟩ := okWide_struct Try.underlying24 hv
  obtain ⟨fuel, hf⟩ := h0
  obtain ⟨n, m, h1⟩ := place_of hf
  have e' : cs.toList = [.int .i64 n, .int .i64 m] := by simpa [Value.cells] using h1
  refine ⟨n, m, ?_⟩
  congr 1
  apply Array.toList_inj.1
  exact e'
set_option maxRecDepth 100000 in
theorem sym_arg (hv : Value.okWide Try.prog W .any b0 50 v) (h0 : DataW.Trod enc Try.prog W 0 spare held 50 v d p) (hs : Sm Try.prog 50 d) : ∃ x : Sy, SymAt W v x ∧ syFits x := by
  obtain ⟨cs, rfl, hsz⟩ := okWide_struct Try.underlying50 hv
  obtain ⟨fuel, hf⟩ := h0
  obtain ⟨y, h1, h2, h3, h4⟩ := sym_of hf hs
  refine ⟨y.1, ⟨y.2.1, y.2.2, ?_, h2, h3⟩, h4⟩
  have e' : cs.toList = syCells y.1 y.2.1 y.2.2 := by simpa [Value.cells] using h1
  congr 1
  apply Array.toList_inj.1
  exact e'
end
end Go.Proofs.Ytfnofolahhoggaa
