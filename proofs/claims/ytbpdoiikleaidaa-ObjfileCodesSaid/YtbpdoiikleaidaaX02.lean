/- Some texts of one proof, one behind the other; each has its own head below. -/
import Derived.Test.YtbpdoiikleaidaaX01
import Derived.Deep.Slices
import Derived.Deep.MidRow
import Derived.SizedLaws
import Derived.ChangeArms
import Derived.OpenShut
import Derived.WalkArith
/- Objects that came in, opened: what lies under them, and that it fits. -/
section
set_option linter.unusedVariables false
namespace Go.Proofs.Ytbpdoiikleaidaa
open Go Go.ChangeShapes Go.WideShapes Go.RowKit Oj

/-- All that a reading holds is within the reach. -/
def Sm {H : Type} (P : Program) (t : TypeId) (d : DataW H) : Prop := ∀ m ∈ d.weights P t, m ≤ reachBytes
section
variable {H : Type} {P : Program}
theorem sm_each {ts : List TypeId} {ds : List (DataW H)} (h : (DataW.weightsEach P ts ds).all (· ≤ reachBytes) = true) {j : Nat} {t : TypeId} {d : DataW H} (ht : ts[j]? = some t) (hd : ds[j]? = some d) : Sm P t d := by
  intro m hm
  have := List.all_eq_true.1 h _ (DataW.weights_mem_each ht hd m hm)
  simpa using this
theorem sm_field {t ft : TypeId} {fs : Array Field} {parts : List (DataW H)} (hu : P.underlying t = some (.struct fs)) (h : Sm P t (.agg parts)) {i : Nat} {d : DataW H} (hf : (fs.toList.map (·.type))[i]? = some ft) (hd : parts[i]? = some d) : Sm P ft d := by
  intro m hm
  refine h m ?_
  simp only [DataW.weights, hu]
  exact DataW.weights_mem_each hf hd m hm
theorem mem_weightsAll {e : TypeId} : ∀ {l : List (DataW H)} {d : DataW H}, d ∈ l → ∀ m ∈ d.weights P e, m ∈ DataW.weightsAll P e l
  | d0 :: r, d, hd, m, hm => by
    simp only [DataW.weightsAll, List.mem_append]
    rcases List.mem_cons.1 hd with h | h
    · subst h; exact .inl hm
    · exact .inr (mem_weightsAll h m hm)
theorem sm_slice {t e : TypeId} {elems spare : List (DataW H)} (hu : P.underlying t = some (.slice e)) (h : Sm P t (.slice elems spare)) : (elems.length + spare.length) * P.bytesOf e ≤ reachBytes ∧ ∀ d ∈ elems, Sm P e d := by
  refine ⟨h _ ?_, fun d hd m hm => h m ?_⟩
  · simp only [DataW.weights, hu, List.mem_cons, true_or]
  · simp only [DataW.weights, hu, List.mem_cons, List.mem_append]
    exact .inr (.inl (mem_weightsAll hd m hm))
theorem sm_str {t : TypeId} {b : List UInt8} (h : Sm P t (.lit (.string b) : DataW H)) : b.length ≤ reachBytes := h _ (by simp [DataW.weights])
theorem reach_le2 : reachBytes ≤ 140737488355328 := by decide

theorem SlC.congr {w : World} {v : Value} {n z : Nat} {cs ds : Nat → List Value} (h : SlC w v n z cs) (he : ∀ j, j < n → cs j = ds j) : SlC w v n z ds := by
  obtain ⟨a, c, rfl, h2⟩ := h
  refine ⟨a, c, rfl, fun hn => ?_⟩
  obtain ⟨b, o, h3, h4, h5⟩ := h2 hn
  exact ⟨b, o, h3, h4, fun j hj => by rw [← he j hj]; exact h5 j hj⟩

variable {enc : TypeId × Value → H} {W : World} {spare : Nat → Bool} {held : Bool}
/-- A slice that came in, each of whose elements reads as something. -/
theorem open_sl {α : Type} (dflt : α) {t e : TypeId} {z bytes : Nat} (ht : P.underlying t = some (.slice e)) (hz : P.cellsOf e = z) (hz0 : 0 < z) (hb : P.bytesOf e = bytes) (Q : α → List Value → Prop)
    (hQ : ∀ m cs x, DataW.trod enc P W 0 spare held m e cs = some x → Sm P e x.1 → ∃ a, Q a cs)
    {fuel : Nat} {cs : List Value} {x : DataW H × List MemPlace} (h : DataW.trod enc P W 0 spare held fuel t cs = some x) (hs : Sm P t x.1) :
    ∃ (v : Value) (n : Nat) (X : Nat → α) (CS : Nat → List Value), cs = [v] ∧ SlC W v n z CS ∧ n * bytes ≤ reachBytes ∧ ∀ j, j < n → Q (X j) (CS j) := by
  rcases Go.Deep.open_slice ht h with ⟨hcs, _⟩ | ⟨a, len, cap, m, n', D, Pl, hcs, _, hl, hmx, hmm, hx, hcell⟩
  · exact ⟨.slice none 0 0, 0, fun _ => dflt, fun _ => [], hcs, ⟨none, 0, rfl, fun h => absurd h (Nat.lt_irrefl 0)⟩, by simp, fun j hj => absurd hj (Nat.not_lt_zero j)⟩
  · rw [hz] at hcell
    rw [hx] at hs
    obtain ⟨h1, h2⟩ := sm_slice ht hs
    have hle : len ≤ m := by rw [hmm]; split <;> omega
    have hel : ∀ i, ∃ y : α × List Value, i < len → W.cells? 0 (a.add (i * z)) z = some y.2 ∧ Q y.1 y.2 := by
      intro i
      by_cases hi : i < len
      · obtain ⟨cs', h3, h4⟩ := hcell i (by omega)
        obtain ⟨y, hy⟩ := hQ _ _ _ h4 (h2 _ (List.mem_map.2 ⟨i, List.mem_range.2 hi, rfl⟩))
        exact ⟨(y, cs'), fun _ => ⟨h3, hy⟩⟩
      · exact ⟨(dflt, []), fun h => absurd h hi⟩
    obtain ⟨X, hX⟩ := Classical.axiomOfChoice hel
    refine ⟨.slice (some a) len cap, len, fun i => (X i).1, fun i => (X i).2, hcs, ⟨_, _, rfl, fun hn => ?_⟩, ?_, fun j hj => (hX j hj).2⟩
    · obtain ⟨b, o, spot⟩ := a
      obtain ⟨_, hl0, hj0⟩ := World.cells?_some (hX 0 hn).1
      have c00 := hj0 0 hz0
      rw [List.getElem?_eq_getElem (by omega)] at c00
      have hspot : spot = none := by simpa [Addr.add] using World.cell?_spot c00
      subst hspot
      refine ⟨b, o, rfl, ?_, fun j hj i u hu => ?_⟩
      · rcases Nat.lt_or_ge b W.heap.size with h | h
        · exact h
        · rw [Addr.add_mid, Addr.add_mid] at c00
          simp [World.cell?, Array.getElem?_eq_none h] at c00
      · obtain ⟨_, hlj, hjj⟩ := World.cells?_some (hX j hj).1
        have hi : i < z := by rw [← hlj]; exact (List.getElem?_eq_some_iff.1 hu).1
        have := hjj i hi
        rw [Addr.add_mid, Addr.add_mid] at this
        rw [this]
        exact hu
    · have h3 : len * bytes ≤ (((List.range len).map D).length + ((List.range (m - len)).map fun j => D (len + j)).length) * P.bytesOf e := by
        rw [hb]
        exact Nat.mul_le_mul_right _ (by simp)
      exact Nat.le_trans h3 h1
end
end Go.Proofs.Ytbpdoiikleaidaa
end

/- The same at the program's types: a relocation, a note, a symbol, an object; lists of these. -/
section
set_option linter.unusedVariables false
namespace Go.Proofs.Ytbpdoiikleaidaa
open Go Go.ChangeShapes Go.WideShapes Go.RowKit Oj

theorem zRel : Try.prog.cellsOf 49 = 4 := by kernel_rfl
theorem zNote : Try.prog.cellsOf 65 = 3 := by kernel_rfl
theorem zSym : Try.prog.cellsOf 47 = 7 := by kernel_rfl
theorem zObj : Try.prog.cellsOf 24 = 2 := by kernel_rfl
theorem yRel : Try.prog.bytesOf 49 = 32 := by kernel_rfl
theorem yNote : Try.prog.bytesOf 65 = 12 := by kernel_rfl
theorem ySym : Try.prog.bytesOf 47 = 88 := by kernel_rfl
theorem yObj : Try.prog.bytesOf 24 = 40 := by kernel_rfl
theorem z8 : Try.prog.cellsOf 5 = 1 := by kernel_rfl
theorem z32 : Try.prog.cellsOf 43 = 1 := by kernel_rfl
theorem zStr : Try.prog.cellsOf 9 = 1 := by kernel_rfl
theorem zRels : Try.prog.cellsOf 44 = 1 := by kernel_rfl
theorem zNotes : Try.prog.cellsOf 45 = 1 := by kernel_rfl
theorem zSyms : Try.prog.cellsOf 22 = 1 := by kernel_rfl

section
variable {H : Type} {enc : TypeId × Value → H} {W : World} {base : Nat} {spare : Nat → Bool} {held : Bool}
theorem bn32 {n : Int} (h : (Lit.int .u32 n).wf = true) : 0 ≤ n ∧ n < 4294967296 := by have := bounds_u32 h; omega
theorem bn8 {n : Int} (h : (Lit.int .u8 n).wf = true) : 0 ≤ n ∧ n < 256 := by have := bounds_u8 h; omega
theorem by_tx_eq (s : ByteArray) : tx (by' s) = s := tx_by s
set_option maxRecDepth 100000 in
theorem rel_of {fuel : Nat} {cs : List Value} {x : DataW H × List MemPlace} (h : DataW.trod enc Try.prog W 0 spare held fuel 49 cs = some x) (hs : Sm Try.prog 49 x.1) : ∃ r : Rl, cs = rlCells r ∧ rlFits r := by
  obtain ⟨xs, n, _, rfl, hl, hxl, hg⟩ := DataW.trod_struct Try.underlying49 h
  rw [zRel] at hl
  match cs, hl with
  | [v0, v1, v2, v3], _ =>
    match xs, hxl with
    | [y0, y1, y2, y3], _ =>
      have g0 : DataW.trod enc Try.prog W 0 spare held n 43 [v0] = some y0 := by simpa [z8, z32, zStr] using hg 0 _ rfl
      have g1 : DataW.trod enc Try.prog W 0 spare held n 5 [v1] = some y1 := by simpa [z8, z32, zStr] using hg 1 _ rfl
      have g2 : DataW.trod enc Try.prog W 0 spare held n 9 [v2] = some y2 := by simpa [z8, z32, zStr] using hg 2 _ rfl
      have g3 : DataW.trod enc Try.prog W 0 spare held n 43 [v3] = some y3 := by simpa [z8, z32, zStr] using hg 3 _ rfl
      obtain ⟨n0, e0, f0, w0⟩ := DataW.trod_int Try.underlying43 g0
      obtain ⟨n1, e1, f1, w1⟩ := DataW.trod_int Try.underlying5 g1
      obtain ⟨n2, e2, f2, w2⟩ := DataW.trod_string Try.underlying9 g2
      obtain ⟨n3, e3, f3, w3⟩ := DataW.trod_int Try.underlying43 g3
      simp at e0 e1 e2 e3
      subst e0 e1 e2 e3 f0 f1 f2 f3
      have hq := sm_str (sm_field (i := 2) Try.underlying49 hs rfl rfl)
      have := reach_le2
      refine ⟨⟨n0, n1, by' n2, n3⟩, by rw [rlCells, tx_by], bn32 w0, bn8 w1, bn32 w3, ?_⟩
      exact Nat.le_trans hq this
set_option maxRecDepth 100000 in
theorem note_of {fuel : Nat} {cs : List Value} {x : DataW H × List MemPlace} (h : DataW.trod enc Try.prog W base spare held fuel 65 cs = some x) : ∃ r : Nt, cs = ntCells r ∧ ntFits r := by
  obtain ⟨xs, n, _, rfl, hl, hxl, hg⟩ := DataW.trod_struct Try.underlying65 h
  rw [zNote] at hl
  match cs, hl with
  | [v0, v1, v2], _ =>
    match xs, hxl with
    | [y0, y1, y2], _ =>
      have g0 : DataW.trod enc Try.prog W base spare held n 5 [v0] = some y0 := by simpa [z8, z32, zStr] using hg 0 _ rfl
      have g1 : DataW.trod enc Try.prog W base spare held n 43 [v1] = some y1 := by simpa [z8, z32, zStr] using hg 1 _ rfl
      have g2 : DataW.trod enc Try.prog W base spare held n 43 [v2] = some y2 := by simpa [z8, z32, zStr] using hg 2 _ rfl
      obtain ⟨n0, e0, f0, w0⟩ := DataW.trod_int Try.underlying5 g0
      obtain ⟨n1, e1, f1, w1⟩ := DataW.trod_int Try.underlying43 g1
      obtain ⟨n2, e2, f2, w2⟩ := DataW.trod_int Try.underlying43 g2
      simp at e0 e1 e2
      subst e0 e1 e2
      exact ⟨⟨n0, n1, n2⟩, rfl, bn8 w0, bn32 w1, bn32 w2⟩
theorem range_getD {α : Type} (X : Nat → α) (n j : Nat) (d : α) (hj : j < n) : ((List.range n).map X).getD j d = X j := by simp [List.getD_eq_getElem?_getD, hj]
theorem rels_of {fuel : Nat} {cs : List Value} {x : DataW H × List MemPlace} (h : DataW.trod enc Try.prog W 0 spare held fuel 44 cs = some x) (hs : Sm Try.prog 44 x.1) :
    ∃ v l, cs = [v] ∧ RelsAt W v l ∧ l.length * 32 ≤ 140737488355328 ∧ ∀ j, j < l.length → rlFits (l.getD j Rl.nought) := by
  obtain ⟨v, n, X, CS, h1, h2, h3, h4⟩ := open_sl Rl.nought Try.underlying44 zRel (by decide) yRel (fun (r : Rl) cs => cs = rlCells r ∧ rlFits r) (fun _ _ _ h hs => rel_of h hs) h hs
  have := reach_le2
  have hl : ((List.range n).map X).length = n := by simp
  refine ⟨v, (List.range n).map X, h1, ?_, by rw [hl]; omega, fun j hj => ?_⟩
  · unfold RelsAt
    rw [hl]
    exact h2.congr fun j hj => by rw [range_getD X n j _ hj]; exact (h4 j hj).1
  · rw [hl] at hj
    rw [range_getD X n j _ hj]
    exact (h4 j hj).2
theorem notes_of {fuel : Nat} {cs : List Value} {x : DataW H × List MemPlace} (h : DataW.trod enc Try.prog W 0 spare held fuel 45 cs = some x) (hs : Sm Try.prog 45 x.1) :
    ∃ v l, cs = [v] ∧ NotesAt W v l ∧ l.length * 12 ≤ 140737488355328 ∧ ∀ j, j < l.length → ntFits (l.getD j Nt.nought) := by
  obtain ⟨v, n, X, CS, h1, h2, h3, h4⟩ := open_sl Nt.nought Try.underlying45 zNote (by decide) yNote (fun (r : Nt) cs => cs = ntCells r ∧ ntFits r) (fun _ _ _ h _ => note_of h) h hs
  have := reach_le2
  have hl : ((List.range n).map X).length = n := by simp
  refine ⟨v, (List.range n).map X, h1, ?_, by rw [hl]; omega, fun j hj => ?_⟩
  · unfold NotesAt
    rw [hl]
    exact h2.congr fun j hj => by rw [range_getD X n j _ hj]; exact (h4 j hj).1
  · rw [hl] at hj
    rw [range_getD X n j _ hj]
    exact (h4 j hj).2
set_option maxRecDepth 100000 in
theorem sym_of {fuel : Nat} {cs : List Value} {x : DataW H × List MemPlace} (h : DataW.trod enc Try.prog W 0 spare held fuel 47 cs = some x) (hs : Sm Try.prog 47 x.1) :
    ∃ y : Sy × Value × Value, cs = syCells y.1 y.2.1 y.2.2 ∧ RelsAt W y.2.1 y.1.rels ∧ NotesAt W y.2.2 y.1.notes ∧ syFits y.1 := by
  obtain ⟨xs, n, _, rfl, hl, hxl, hg⟩ := DataW.trod_struct Try.underlying47 h
  rw [zSym] at hl
  match cs, hl with
  | [v0, v1, v2, v3, v4, v5, v6], _ =>
    match xs, hxl with
    | [y0, y1, y2, y3, y4, y5, y6], _ =>
      have g0 : DataW.trod enc Try.prog W 0 spare held n 9 [v0] = some y0 := by simpa [z8, z32, zStr, zRels, zNotes] using hg 0 _ rfl
      have g1 : DataW.trod enc Try.prog W 0 spare held n 5 [v1] = some y1 := by simpa [z8, z32, zStr, zRels, zNotes] using hg 1 _ rfl
      have g2 : DataW.trod enc Try.prog W 0 spare held n 5 [v2] = some y2 := by simpa [z8, z32, zStr, zRels, zNotes] using hg 2 _ rfl
      have g3 : DataW.trod enc Try.prog W 0 spare held n 43 [v3] = some y3 := by simpa [z8, z32, zStr, zRels, zNotes] using hg 3 _ rfl
      have g4 : DataW.trod enc Try.prog W 0 spare held n 9 [v4] = some y4 := by simpa [z8, z32, zStr, zRels, zNotes] using hg 4 _ rfl
      have g5 : DataW.trod enc Try.prog W 0 spare held n 44 [v5] = some y5 := by simpa [z8, z32, zStr, zRels, zNotes] using hg 5 _ rfl
      have g6 : DataW.trod enc Try.prog W 0 spare held n 45 [v6] = some y6 := by simpa [z8, z32, zStr, zRels, zNotes] using hg 6 _ rfl
      obtain ⟨vr, lr, e5, r1, r2, r3⟩ := rels_of g5 (sm_field (i := 5) Try.underlying47 hs rfl rfl)
      obtain ⟨vn, ln, e6, t1, t2, t3⟩ := notes_of g6 (sm_field (i := 6) Try.underlying47 hs rfl rfl)
      obtain ⟨n0, e0, f0, w0⟩ := DataW.trod_string Try.underlying9 g0
      obtain ⟨n1, e1, f1, w1⟩ := DataW.trod_int Try.underlying5 g1
      obtain ⟨n2, e2, f2, w2⟩ := DataW.trod_int Try.underlying5 g2
      obtain ⟨n3, e3, f3, w3⟩ := DataW.trod_int Try.underlying43 g3
      obtain ⟨n4, e4, f4, w4⟩ := DataW.trod_string Try.underlying9 g4
      simp at e0 e1 e2 e3 e4 e5 e6
      subst e0 e1 e2 e3 e4 e5 e6 f0 f4
      have q0 := sm_str (sm_field (i := 0) Try.underlying47 hs rfl rfl)
      have q4 := sm_str (sm_field (i := 4) Try.underlying47 hs rfl rfl)
      have := reach_le2
      exact ⟨⟨⟨by' n0, n1, n2, n3, by' n4, lr, ln⟩, v5, v6⟩, by rw [syCells, tx_by, tx_by], r1, t1, Nat.le_trans q0 this, bn8 w1, bn8 w2, bn32 w3, Nat.le_trans q4 this, r2, t2, r3, t3⟩
theorem syms_of {fuel : Nat} {cs : List Value} {x : DataW H × List MemPlace} (h : DataW.trod enc Try.prog W 0 spare held fuel 22 cs = some x) (hs : Sm Try.prog 22 x.1) :
    ∃ v l, cs = [v] ∧ SymsAt W v l ∧ l.length * 88 ≤ 140737488355328 ∧ ∀ j, j < l.length → syFits (l.getD j Sy.nought) := by
  obtain ⟨v, n, X, CS, h1, h2, h3, h4⟩ := open_sl (Sy.nought, undef, undef) Try.underlying22 zSym (by decide) ySym (fun (y : Sy × Value × Value) cs => cs = syCells y.1 y.2.1 y.2.2 ∧ RelsAt W y.2.1 y.1.rels ∧ NotesAt W y.2.2 y.1.notes ∧ syFits y.1) (fun _ _ _ h hs => sym_of h hs) h hs
  have := reach_le2
  have hl : ((List.range n).map fun i => (X i).1).length = n := by simp
  refine ⟨v, (List.range n).map fun i => (X i).1, h1, ⟨fun j => (X j).2.1, fun j => (X j).2.2, ?_, fun j hj => ?_⟩, by rw [hl]; omega, fun j hj => ?_⟩
  · rw [hl]
    exact h2.congr fun j hj => by rw [range_getD (fun i => (X i).1) n j _ hj]; exact (h4 j hj).1
  · rw [hl] at hj
    rw [range_getD (fun i => (X i).1) n j _ hj]
    exact ⟨(h4 j hj).2.1, (h4 j hj).2.2.1⟩
  · rw [hl] at hj
    rw [range_getD (fun i => (X i).1) n j _ hj]
    exact (h4 j hj).2.2.2
set_option maxRecDepth 100000 in
theorem obj_of {fuel : Nat} {cs : List Value} {x : DataW H × List MemPlace} (h : DataW.trod enc Try.prog W 0 spare held fuel 24 cs = some x) (hs : Sm Try.prog 24 x.1) :
    ∃ y : Ob × Value, cs = obCells y.1 y.2 ∧ SymsAt W y.2 y.1.syms ∧ obFits y.1 := by
  obtain ⟨xs, n, _, rfl, hl, hxl, hg⟩ := DataW.trod_struct Try.underlying24 h
  rw [zObj] at hl
  match cs, hl with
  | [v0, v1], _ =>
    match xs, hxl with
    | [y0, y1], _ =>
      have g0 : DataW.trod enc Try.prog W 0 spare held n 9 [v0] = some y0 := by simpa [zStr, zSyms] using hg 0 _ rfl
      have g1 : DataW.trod enc Try.prog W 0 spare held n 22 [v1] = some y1 := by simpa [zStr, zSyms] using hg 1 _ rfl
      obtain ⟨vs, l, e1, r1, r2, r3⟩ := syms_of g1 (sm_field (i := 1) Try.underlying24 hs rfl rfl)
      obtain ⟨n0, e0, f0, w0⟩ := DataW.trod_string Try.underlying9 g0
      simp at e0 e1
      subst e0 e1 f0
      have q0 := sm_str (sm_field (i := 0) Try.underlying24 hs rfl rfl)
      have := reach_le2
      exact ⟨⟨⟨by' n0, l⟩, v1⟩, by rw [obCells, tx_by], r1, Nat.le_trans q0 this, r2, r3⟩
theorem objs_of {fuel : Nat} {cs : List Value} {x : DataW H × List MemPlace} (h : DataW.trod enc Try.prog W 0 spare held fuel 38 cs = some x) (hs : Sm Try.prog 38 x.1) :
    ∃ v l, cs = [v] ∧ ObsAt W v l ∧ obsFit l := by
  obtain ⟨v, n, X, CS, h1, h2, h3, h4⟩ := open_sl (Ob.nought, undef) Try.underlying38 zObj (by decide) yObj (fun (y : Ob × Value) cs => cs = obCells y.1 y.2 ∧ SymsAt W y.2 y.1.syms ∧ obFits y.1) (fun _ _ _ h hs => obj_of h hs) h hs
  have := reach_le2
  have hl : ((List.range n).map fun i => (X i).1).length = n := by simp
  refine ⟨v, (List.range n).map fun i => (X i).1, h1, ⟨fun j => (X j).2, ?_, fun j hj => ?_⟩, by rw [hl]; omega, fun j hj => ?_⟩
  · rw [hl]
    exact h2.congr fun j hj => by rw [range_getD (fun i => (X i).1) n j _ hj]; exact (h4 j hj).1
  · rw [hl] at hj
    rw [range_getD (fun i => (X i).1) n j _ hj]
    exact (h4 j hj).2.1
  · rw [hl] at hj
    rw [range_getD (fun i => (X i).1) n j _ hj]
    exact (h4 j hj).2.2
end
end Go.Proofs.Ytbpdoiikleaidaa
end
