/- What came in, opened; a law's last step. -/
import Derived.Test.YtmfebmiigkmkbaaOY
import Derived.Test.YtmfebmiigkmkbaaDX
import Derived.Test.YtmfebmiigkmkbaaRows
import Derived.ProofKit
import Derived.ShutString
import Derived.ChangeSlices
import Derived.Carry
import Derived.ChangeMaps5
set_option linter.unusedVariables false
namespace Go.Proofs.Ytmfebmiigkmkbaa
open Go Go.ChangeShapes Go.WideShapes Go.ChangeAt Go.RowKit Oj Dm

section
variable {H : Type} {enc : TypeId × Value → H} {P : Program}
/-- law_post, where the arguments lead to memory. -/
theorem law_post_at {f : Func} {s : ChangeSpec} {W W' : World} {args : Array Value} {x : Bool} {ds : List (DataW H)} {before : List MemPlace}
    (hW : DataW.Whole enc P f.params.toList s.vars false W args.toList ds [] before) (hvar : s.vars = []) (hs : s.fn H (ds ++ []) = { results := [.lit (.bool x)], args := ds })
    (hf : f.resultTypes = #[4]) (hty : P.underlying 4 = some .bool)
    (hargs : DataW.TrodAll enc P W' 0 (fun b => decide (b < W.heap.size)) true f.params.toList args.toList ds before) (hb : Below W.heap.size W W') :
    s.post enc P f false true false false W args (.bool x) W' := by
  have hlt : ∀ p ∈ before, p.block < W.heap.size := fun p hp => hW.lt p hp
  have hres : ∀ (b : Nat) (sp : Nat → Bool) (hd : Bool), DataW.TrodAll enc P W' b sp hd f.resultTypes.toList ((Value.bool x).resultList f.resultTypes.size) (s.fn H (ds ++ [])).results [] := by
    intro b sp hd
    rw [hs, hf]
    exact trodAll_mk1 (shut_bool hty x)
  have hargs' : DataW.TrodAll enc P W' 0 (fun b => decide (b < W.heap.size)) true f.params.toList args.toList (s.fn H (ds ++ [])).args before := by
    rw [hs]
    exact hargs
  have hvars : ∀ sp : Nat → Bool, DataW.TrodVars enc P W' sp s.vars (s.fn H (ds ++ [])).vars [] := by
    intro sp
    rw [hs, hvar]
    rfl
  refine ⟨ds, [], before, [], before, [], hW, hres _ _ _, hargs', hvars _, World.keptBut_mono (fun p hp => ⟨hp, Or.inr (by simpa using hp)⟩) (hb.frame (· ∈ before)), fun h => ?_⟩
  cases h
end
theorem laidOut : laidOutB Try.prog = true := by kernel_rfl
theorem own : ownKnob Try.prog.godebug = none := by kernel_rfl

theorem zNote : Try.prog.cellsOf 28 = 3 := by kernel_rfl
theorem zMan : Try.prog.cellsOf 26 = 4 := by kernel_rfl
theorem zExt : Try.prog.cellsOf 50 = 2 := by kernel_rfl
theorem zPt : Try.prog.cellsOf 51 = 1 := by kernel_rfl
theorem yNote : Try.prog.bytesOf 28 = 12 := by kernel_rfl
theorem yMan : Try.prog.bytesOf 26 = 64 := by kernel_rfl
theorem yExt : Try.prog.bytesOf 50 = 8 := by kernel_rfl
theorem yPt : Try.prog.bytesOf 51 = 2 := by kernel_rfl
theorem z8 : Try.prog.cellsOf 5 = 1 := by kernel_rfl
theorem z32 : Try.prog.cellsOf 22 = 1 := by kernel_rfl
theorem zBool : Try.prog.cellsOf 4 = 1 := by kernel_rfl
theorem zExts : Try.prog.cellsOf 23 = 1 := by kernel_rfl
theorem zPorts : Try.prog.cellsOf 24 = 1 := by kernel_rfl
theorem range_getD {α : Type} (X : Nat → α) (n j : Nat) (d : α) (hj : j < n) : ((List.range n).map X).getD j d = X j := by simp [List.getD_eq_getElem?_getD, hj]
section
variable {H : Type} {enc : TypeId × Value → H} {W : World} {base : Nat} {spare : Nat → Bool} {held : Bool}
theorem wf_of {P : Program} {t e : TypeId} (ht : P.underlying t = some (.slice e)) {fuel : Nat} {cs : List Value} {x : DataW H × List MemPlace} (h : DataW.trod enc P W base spare held fuel t cs = some x) {v : Value} (hv : cs = [v]) : Wf v := by
  rcases Go.Deep.open_slice ht h with ⟨hcs, _⟩ | ⟨a, len, cap, m, n', D, Pl, hcs, _, hl, hmx, hmm, hx, hcell⟩
  · rw [hv] at hcs
    injection hcs with hcs
    exact .inl hcs
  · rw [hv] at hcs
    injection hcs with hcs
    exact .inr ⟨a, len, cap, hcs, hl, hmx⟩
theorem bn32 {n : Int} (h : (Lit.int .u32 n).wf = true) : 0 ≤ n ∧ n < 4294967296 := by have := bounds_u32 h; omega
theorem bn16 {n : Int} (h : (Lit.int .u16 n).wf = true) : 0 ≤ n ∧ n < 65536 := by have := bounds_u16 h; omega
theorem bn8 {n : Int} (h : (Lit.int .u8 n).wf = true) : 0 ≤ n ∧ n < 256 := by have := bounds_u8 h; omega
set_option maxRecDepth 100000 in
theorem note_of {fuel : Nat} {cs : List Value} {x : DataW H × List MemPlace} (h : DataW.trod enc Try.prog W base spare held fuel 28 cs = some x) : ∃ r : Nt, cs = ntCells r ∧ ntFits r := by
  obtain ⟨xs, n, _, rfl, hl, hxl, hg⟩ := DataW.trod_struct Try.underlying28 h
  rw [zNote] at hl
  match cs, hl with
  | [v0, v1, v2], _ =>
    match xs, hxl with
    | [y0, y1, y2], _ =>
      have g0 : DataW.trod enc Try.prog W base spare held n 5 [v0] = some y0 := by simpa [z8, z32] using hg 0 _ rfl
      have g1 : DataW.trod enc Try.prog W base spare held n 22 [v1] = some y1 := by simpa [z8, z32] using hg 1 _ rfl
      have g2 : DataW.trod enc Try.prog W base spare held n 22 [v2] = some y2 := by simpa [z8, z32] using hg 2 _ rfl
      obtain ⟨n0, e0, f0, w0⟩ := DataW.trod_int Try.underlying5 g0
      obtain ⟨n1, e1, f1, w1⟩ := DataW.trod_int Try.underlying22 g1
      obtain ⟨n2, e2, f2, w2⟩ := DataW.trod_int Try.underlying22 g2
      simp at e0 e1 e2
      subst e0 e1 e2
      exact ⟨⟨n0, n1, n2⟩, rfl, bn8 w0, bn32 w1, bn32 w2⟩
set_option maxRecDepth 100000 in
theorem ext_of {fuel : Nat} {cs : List Value} {x : DataW H × List MemPlace} (h : DataW.trod enc Try.prog W base spare held fuel 50 cs = some x) : ∃ r : Xt, cs = xtCells r ∧ xtFits r := by
  obtain ⟨xs, n, _, rfl, hl, hxl, hg⟩ := DataW.trod_struct Try.underlying50 h
  rw [zExt] at hl
  match cs, hl with
  | [v0, v1], _ =>
    match xs, hxl with
    | [y0, y1], _ =>
      have g0 : DataW.trod enc Try.prog W base spare held n 22 [v0] = some y0 := by simpa [z8, z32] using hg 0 _ rfl
      have g1 : DataW.trod enc Try.prog W base spare held n 22 [v1] = some y1 := by simpa [z8, z32] using hg 1 _ rfl
      obtain ⟨n0, e0, f0, w0⟩ := DataW.trod_int Try.underlying22 g0
      obtain ⟨n1, e1, f1, w1⟩ := DataW.trod_int Try.underlying22 g1
      simp at e0 e1
      subst e0 e1
      exact ⟨⟨n0, n1⟩, rfl, bn32 w0, bn32 w1⟩
theorem pt_of {fuel : Nat} {cs : List Value} {x : DataW H × List MemPlace} (h : DataW.trod enc Try.prog W base spare held fuel 51 cs = some x) : ∃ r : Int, cs = ptCells r ∧ ptFits r := by
  obtain ⟨n0, e0, f0, w0⟩ := DataW.trod_int Try.underlying51 h
  exact ⟨n0, e0, bn16 w0⟩
theorem notes_of {fuel : Nat} {cs : List Value} {x : DataW H × List MemPlace} (h : DataW.trod enc Try.prog W 0 spare held fuel 37 cs = some x) (hs : Sm Try.prog 37 x.1) :
    ∃ v l, cs = [v] ∧ NotesAt W v l ∧ ntsFit l ∧ Wf v := by
  obtain ⟨v, n, X, CS, h1, h2, h3, h4⟩ := open_sl Nt.nought Try.underlying37 zNote (by decide) yNote (fun (r : Nt) cs => cs = ntCells r ∧ ntFits r) (fun _ _ _ h _ => note_of h) h hs
  have := reach_le2
  have hl : ((List.range n).map X).length = n := by simp
  refine ⟨v, (List.range n).map X, h1, ?_, ⟨by rw [hl]; omega, fun j hj => ?_⟩, wf_of Try.underlying37 h h1⟩
  · unfold NotesAt
    rw [hl]
    exact h2.congr fun j hj => by rw [range_getD X n j _ hj]; exact (h4 j hj).1
  · rw [hl] at hj
    rw [range_getD X n j _ hj]
    exact (h4 j hj).2
theorem exts_of {fuel : Nat} {cs : List Value} {x : DataW H × List MemPlace} (h : DataW.trod enc Try.prog W 0 spare held fuel 23 cs = some x) (hs : Sm Try.prog 23 x.1) :
    ∃ v l, cs = [v] ∧ XtsAt W v l ∧ l.length * 8 ≤ 140737488355328 ∧ (∀ j, j < l.length → xtFits (l.getD j Xt.nought)) ∧ Wf v := by
  obtain ⟨v, n, X, CS, h1, h2, h3, h4⟩ := open_sl Xt.nought Try.underlying23 zExt (by decide) yExt (fun (r : Xt) cs => cs = xtCells r ∧ xtFits r) (fun _ _ _ h _ => ext_of h) h hs
  have := reach_le2
  have hl : ((List.range n).map X).length = n := by simp
  refine ⟨v, (List.range n).map X, h1, ?_, by rw [hl]; omega, fun j hj => ?_, wf_of Try.underlying23 h h1⟩
  · unfold XtsAt
    rw [hl]
    exact h2.congr fun j hj => by rw [range_getD X n j _ hj]; exact (h4 j hj).1
  · rw [hl] at hj
    rw [range_getD X n j _ hj]
    exact (h4 j hj).2
theorem ports_of {fuel : Nat} {cs : List Value} {x : DataW H × List MemPlace} (h : DataW.trod enc Try.prog W 0 spare held fuel 24 cs = some x) (hs : Sm Try.prog 24 x.1) :
    ∃ v l, cs = [v] ∧ PtsAt W v l ∧ l.length * 2 ≤ 140737488355328 ∧ (∀ j, j < l.length → ptFits (l.getD j 0)) ∧ Wf v := by
  obtain ⟨v, n, X, CS, h1, h2, h3, h4⟩ := open_sl (0 : Int) Try.underlying24 zPt (by decide) yPt (fun (r : Int) cs => cs = ptCells r ∧ ptFits r) (fun _ _ _ h _ => pt_of h) h hs
  have := reach_le2
  have hl : ((List.range n).map X).length = n := by simp
  refine ⟨v, (List.range n).map X, h1, ?_, by rw [hl]; omega, fun j hj => ?_, wf_of Try.underlying24 h h1⟩
  · unfold PtsAt
    rw [hl]
    exact h2.congr fun j hj => by rw [range_getD X n j _ hj]; exact (h4 j hj).1
  · rw [hl] at hj
    rw [range_getD X n j _ hj]
    exact (h4 j hj).2
set_option maxRecDepth 100000 in
theorem man_of {fuel : Nat} {cs : List Value} {x : DataW H × List MemPlace} (h : DataW.trod enc Try.prog W 0 spare held fuel 26 cs = some x) (hs : Sm Try.prog 26 x.1) :
    ∃ y : Mf × Value × Value, cs = mfCells y.1 y.2.1 y.2.2 ∧ XtsAt W y.2.1 y.1.ext ∧ PtsAt W y.2.2 y.1.ports ∧ mfFits y.1 ∧ Wf y.2.1 ∧ Wf y.2.2 := by
  obtain ⟨xs, n, _, rfl, hl, hxl, hg⟩ := DataW.trod_struct Try.underlying26 h
  rw [zMan] at hl
  match cs, hl with
  | [v0, v1, v2, v3], _ =>
    match xs, hxl with
    | [y0, y1, y2, y3], _ =>
      have g0 : DataW.trod enc Try.prog W 0 spare held n 22 [v0] = some y0 := by simpa [z32, zExts, zPorts, zBool] using hg 0 _ rfl
      have g1 : DataW.trod enc Try.prog W 0 spare held n 23 [v1] = some y1 := by simpa [z32, zExts, zPorts, zBool] using hg 1 _ rfl
      have g2 : DataW.trod enc Try.prog W 0 spare held n 24 [v2] = some y2 := by simpa [z32, zExts, zPorts, zBool] using hg 2 _ rfl
      have g3 : DataW.trod enc Try.prog W 0 spare held n 4 [v3] = some y3 := by simpa [z32, zExts, zPorts, zBool] using hg 3 _ rfl
      obtain ⟨vx, lx, e1, r1, r2, r3, r4⟩ := exts_of g1 (sm_field (i := 1) Try.underlying26 hs rfl rfl)
      obtain ⟨vp, lp, e2, t1, t2, t3, t4⟩ := ports_of g2 (sm_field (i := 2) Try.underlying26 hs rfl rfl)
      obtain ⟨n0, e0, f0, w0⟩ := DataW.trod_int Try.underlying22 g0
      obtain ⟨n3, e3, f3⟩ := DataW.trod_bool Try.underlying4 g3
      simp at e0 e1 e2 e3
      subst e0 e1 e2 e3
      exact ⟨⟨⟨n0, lx, lp, n3⟩, v1, v2⟩, rfl, r1, t1, ⟨bn32 w0, r2, t2, r3, t3⟩, r4, t4⟩
theorem mans_of {fuel : Nat} {cs : List Value} {x : DataW H × List MemPlace} (h : DataW.trod enc Try.prog W 0 spare held fuel 40 cs = some x) (hs : Sm Try.prog 40 x.1) :
    ∃ v l, cs = [v] ∧ MfsAt W v l ∧ mfsFit l := by
  obtain ⟨v, n, X, CS, h1, h2, h3, h4⟩ := open_sl (Mf.nought, undef, undef) Try.underlying40 zMan (by decide) yMan (fun (y : Mf × Value × Value) cs => cs = mfCells y.1 y.2.1 y.2.2 ∧ XtsAt W y.2.1 y.1.ext ∧ PtsAt W y.2.2 y.1.ports ∧ mfFits y.1) (fun _ _ _ h hs => by obtain ⟨y, h1, h2, h3, h4, _⟩ := man_of h hs; exact ⟨y, h1, h2, h3, h4⟩) h hs
  have := reach_le2
  have hl : ((List.range n).map fun i => (X i).1).length = n := by simp
  refine ⟨v, (List.range n).map fun i => (X i).1, h1, ⟨fun j => (X j).2.1, fun j => (X j).2.2, ?_, fun j hj => ?_⟩, ⟨by rw [hl]; omega, fun j hj => ?_⟩⟩
  · rw [hl]
    exact h2.congr fun j hj => by rw [range_getD (fun i => (X i).1) n j _ hj]; exact (h4 j hj).1
  · rw [hl] at hj
    rw [range_getD (fun i => (X i).1) n j _ hj]
    exact ⟨(h4 j hj).2.1, (h4 j hj).2.2.1⟩
  · rw [hl] at hj
    rw [range_getD (fun i => (X i).1) n j _ hj]
    exact (h4 j hj).2.2.2
end
/-! arguments -/
section
variable {H : Type} {enc : TypeId × Value → H} {W : World} {b0 : Nat} {v : Value} {d : DataW H} {p : List MemPlace} {spare : Nat → Bool} {held : Bool}
theorem note_arg {base : Nat} (hv : Value.okWide Try.prog W .any b0 28 v) (h0 : DataW.Trod enc Try.prog W base spare held 28 v d p) : ∃ x : Nt, v = ntV x ∧ ntFits x := by
  obtain ⟨cs, rfl, hsz⟩ := okWide_struct Try.underlying28 hv
  obtain ⟨fuel, hf⟩ := h0
  obtain ⟨y, h1, h2⟩ := note_of hf
  refine ⟨y, ?_, h2⟩
  have e' : cs.toList = ntCells y := by simpa [Value.cells] using h1
  unfold ntV
  congr 1
  apply Array.toList_inj.1
  exact e'
theorem man_arg (hv : Value.okWide Try.prog W .any b0 26 v) (h0 : DataW.Trod enc Try.prog W 0 spare held 26 v d p) (hs : Sm Try.prog 26 d) : ∃ x : Mf, MfAt W v x ∧ MfWf v ∧ mfFits x := by
  obtain ⟨cs, rfl, hsz⟩ := okWide_struct Try.underlying26 hv
  obtain ⟨fuel, hf⟩ := h0
  obtain ⟨y, h1, h2, h3, h4, h5, h6⟩ := man_of hf hs
  have e' : cs.toList = mfCells y.1 y.2.1 y.2.2 := by simpa [Value.cells] using h1
  have e : (Value.agg cs) = mfV y.1 y.2.1 y.2.2 := by
    unfold mfV
    congr 1
    apply Array.toList_inj.1
    exact e'
  refine ⟨y.1, ⟨y.2.1, y.2.2, e, h2, h3⟩, fun m vx vp hm => ?_, h4⟩
  rw [e] at hm
  unfold mfV at hm
  simp only [Value.agg.injEq, Array.mk.injEq, List.cons.injEq] at hm
  obtain ⟨_, rfl, rfl, _⟩ := hm
  exact ⟨h5, h6⟩
theorem notes_arg {a : Option Addr} {n c : Nat} (h0 : DataW.Trod enc Try.prog W 0 spare held 37 (.slice a n c) d p) (hs : Sm Try.prog 37 d) : ∃ l : List Nt, NotesAt W (.slice a n c) l ∧ ntsFit l ∧ Wf (.slice a n c) := by
  obtain ⟨fuel, hf⟩ := h0
  obtain ⟨v, l, h1, h2, h3, h4⟩ := notes_of hf hs
  have : v = .slice a n c := by simp [Value.cells] at h1; exact h1.symm
  subst this
  exact ⟨l, h2, h3, h4⟩
theorem mans_arg {a : Option Addr} {n c : Nat} (h0 : DataW.Trod enc Try.prog W 0 spare held 40 (.slice a n c) d p) (hs : Sm Try.prog 40 d) : ∃ l : List Mf, MfsAt W (.slice a n c) l ∧ mfsFit l := by
  obtain ⟨fuel, hf⟩ := h0
  obtain ⟨v, l, h1, h2, h3⟩ := mans_of hf hs
  have : v = .slice a n c := by simp [Value.cells] at h1; exact h1.symm
  subst this
  exact ⟨l, h2, h3⟩
end
end Go.Proofs.Ytmfebmiigkmkbaa
