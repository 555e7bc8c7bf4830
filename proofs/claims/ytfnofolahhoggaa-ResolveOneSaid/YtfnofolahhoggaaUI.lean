/- Rows of places; the program's Refs. -/
import Derived.Test.YtfnofolahhoggaaUH
import Derived.Laws.AppendOwn
import Derived.Laws.OwnMore
import Derived.Deep.AppendLies
set_option linter.unusedVariables false
set_option linter.unusedSimpArgs false
namespace Go.Proofs.Ytfnofolahhoggaa
open Go Go.RowKit Go.Maps Oj Rv

theorem ex_named {Q : Exit → Act → World → Prop} {x : Exit} {a : Act} {W : World} (h : ∀ w', w' = W → Q x a w') : Q x a W := h W rfl
def plCells (p : Nat × Nat) : List Value := [.int .i64 (p.1 : Int), .int .i64 (p.2 : Int)]
def plF (ps : List (Nat × Nat)) : List Value := flat (fun j => plCells (ps.getD j (0, 0))) ps.length
/-- An own row of places. -/
def OwnP (w : World) (B : Nat) (v : Value) (ps : List (Nat × Nat)) : Prop := w.ownsRow B 24 2 v ps.length (plF ps)
/-- A slice that reads as these places. -/
def PlsAt (w : World) (v : Value) (ps : List (Nat × Nat)) : Prop := SlC w v ps.length 2 fun j => plCells (ps.getD j (0, 0))
theorem plF_next (ps : List (Nat × Nat)) (p : Nat × Nat) : plF (ps ++ [p]) = plF ps ++ plCells p := by
  unfold plF
  rw [List.length_append, List.length_singleton, flat]
  congr 1
  · exact flat_congr _ fun j hj => by rw [List.getD_eq_getElem?_getD, List.getD_eq_getElem?_getD, List.getElem?_append_left hj]
  · rw [List.getD_eq_getElem?_getD, List.getElem?_append_right (Nat.le_refl _)]; simp
theorem OwnP.at {w : World} {B : Nat} {v : Value} {ps : List (Nat × Nat)} (h : OwnP w B v ps) : PlsAt w v ps := slC_of_row (fun _ _ => rfl) h
theorem OwnP.below {w w' : World} {B : Nat} {v : Value} {ps : List (Nat × Nat)} (h : OwnP w B v ps) (hb : Below w.heap.size w w') : OwnP w' B v ps := row_below h hb
theorem OwnP.nil (w : World) (B : Nat) : OwnP w B (.slice none 0 0) [] := World.ownsRow_nil _ _ _ _
theorem OwnP.base {w : World} {B B' : Nat} {v : Value} {ps : List (Nat × Nat)} (h : OwnP w B v ps) (hB : B' ≤ B) : OwnP w B' v ps := by
  refine ⟨h.1, ?_⟩
  rcases h.2 with hn | ⟨g, cap, cur, hv, hb, rest⟩
  · exact .inl hn
  · exact .inr ⟨g, cap, cur, hv, Nat.le_trans hB hb, rest⟩
theorem OwnP.slice {w : World} {B : Nat} {v : Value} {ps : List (Nat × Nat)} (h : OwnP w B v ps) : ∃ a c, v = .slice a ps.length c := by
  rcases h.2 with ⟨hv, h0⟩ | ⟨g, cap, cur, hv, _⟩
  · exact ⟨none, 0, by rw [hv, h0]⟩
  · exact ⟨_, _, hv⟩
theorem PlsAt.below {w w' : World} {v : Value} {ps : List (Nat × Nat)} (h : PlsAt w v ps) (hb : Below w.heap.size w w') : PlsAt w' v ps := SlC.below h hb (Nat.le_refl _)
theorem new_pl (W : World) (a b : Value) : ∀ j u, [a, b][j]? = some u → (W.alloc (.cells #[a, b] 24)).cell? ((⟨W.heap.size, 0, none⟩ : Addr).add j) = some u :=
  World.news_of_block (cs := #[a, b]) (t := 24) (fr := (0, 0)) (heap_alloc_new W _)
/-- A place more, at the operation. -/
theorem wpList_addPl {W : World} {ops : Array Oper} {rest : List Oper} {o : Oper} {a : Act} {Q : Exit → Act → World → Prop} (hgd : o.guard = none) (s x : Operand)
    (ho : o.op = .call { callee := .builtin .append, args := #[s, x], argTypes := #[34, 34] }) (B : Nat) (v : Value) (ps : List (Nat × Nat)) (p : Nat × Nat) (hs : a.eval s = v) (hown : OwnP W B v ps) (X Y : Int) (hX : X = (p.1 : Int)) (hY : Y = (p.2 : Int))
    (g : Nat) (hg : g = W.heap.size) (hx : a.eval x = .slice (some ⟨g, 0, none⟩) 1 1) (hn : ps.length ≤ 1048576) (hB : B ≤ W.heap.size)
    (h : ∀ v' w', OwnP w' B v' (ps ++ [p]) → (∀ w0 : World, w0.heap.size ≤ B → Below w0.heap.size w0 W → Below w0.heap.size w0 w') → wpList Try.prog ops Q rest (a.put o.dst v') w') :
    wpList Try.prog ops Q (o :: rest) a (W.alloc (.cells #[.int .i64 X, .int .i64 Y] 24)) := by
  obtain ⟨iS, hiS, hzS, hsS, hbS⟩ := info_parts infoPlace'
  subst hX hY hg
  have hsz : W.heap.size ≤ (W.alloc (.cells #[.int .i64 (p.1 : Int), .int .i64 (p.2 : Int)] 24)).heap.size := by simp
  refine wpList_append_own _ hgd s x 34 ho B 24 iS _ 2 16 Try.underlying34 hiS hzS hsS hbS rfl (by decide) v ps.length (plF ps) hs (hown.alloc _) ⟨W.heap.size, 0, none⟩ 1 1 (plCells p) hx rfl (new_pl W _ _) (by intro u hu; simp only [plCells, List.mem_cons, List.not_mem_nil, or_false] at hu; rcases hu with rfl | rfl <;> rfl) (by unfold maxLen; omega) (by omega) (Nat.le_trans hB hsz) ?_
  intro v' w' h6 h7 _
  refine h v' w' (by unfold OwnP; rw [plF_next, List.length_append]; exact h6) fun w0 hw0 hb => ?_
  have hb2 := below_box hb (.cells #[.int .i64 (p.1 : Int), .int .i64 (p.2 : Int)] 24)
  exact hb2.grown h7 hb2.size (fun q hq => Nat.le_trans hw0 (World.ownsRow.lt hown q hq).1)

/-- What a call that makes places answers. -/
def RfPost (w : World) (R : List (Nat × Nat) × List UInt8 × Int) (e : Ending) (w' : World) : Prop := ∃ v, e = .returned (.tuple #[v, .string (tx R.2.1), .int .i64 R.2.2]) ∧ OwnP w' w.heap.size v R.1 ∧ Below w.heap.size w w'
end Go.Proofs.Ytfnofolahhoggaa
