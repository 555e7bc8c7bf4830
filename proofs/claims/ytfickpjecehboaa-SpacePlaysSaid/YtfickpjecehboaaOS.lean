/- A step of a script, and what it reads as: opened to its four fields, and shut again; a slice of steps that came in. -/
import Derived.Test.YtfickpjecehboaaSH
import Derived.ProofKit
import Derived.Below
import Derived.ChangeSame
import Derived.OpenShut
import Derived.WalkArith
import Derived.ChangeArms
import Derived.Deep.Slices
import Derived.SizedLaws
import Derived.ShutString
set_option linter.unusedVariables false
namespace Go.Proofs.Ytfickpjecehboaa
open Go Go.ChangeShapes Go.WideShapes Go.RowKit

def stpD {H : Type} (x : Stp) : DataW H := .agg [.lit (.int .i64 x.op), .lit (.int .u32 x.ad), .lit (.int .i64 x.n), .lit (.string x.tx.data.toList)]
/-- What a reading says of a step. -/
def Stp.ok (x : Stp) : Prop := (Lit.int .i64 x.op).wf = true ∧ (Lit.int .u32 x.ad).wf = true ∧ (Lit.int .i64 x.n).wf = true ∧ x.tx.size ≤ maxLen
theorem Stp.ok.fits {x : Stp} (h : x.ok) (hs : x.tx.size ≤ 140737488351232) : x.fits := by
  obtain ⟨_, h1, h2, _⟩ := h
  have := bounds_u32 h1
  have := bounds_i64 h2
  exact ⟨by omega, by omega, hs⟩
theorem cStep : Try.prog.cellsOf 34 = 4 := by kernel_rfl
theorem cInt : Try.prog.cellsOf 3 = 1 := by kernel_rfl
theorem c32 : Try.prog.cellsOf 23 = 1 := by kernel_rfl
theorem cStr : Try.prog.cellsOf 9 = 1 := by kernel_rfl

section
variable {H : Type} {enc : TypeId × Value → H} {w : World} {base : Nat} {spare : Nat → Bool} {held : Bool}
set_option maxRecDepth 100000 in
theorem stp_of_cells {fuel : Nat} {cs : List Value} {x : DataW H × List MemPlace} (h : DataW.trod enc Try.prog w base spare held fuel 34 cs = some x) :
    ∃ y : Stp, cs = y.cells ∧ x = (stpD y, []) ∧ y.ok := by
  obtain ⟨xs, n, _, rfl, hl, hxl, hg⟩ := DataW.trod_struct Try.underlying34 h
  rw [cStep] at hl
  match cs, hl with
  | [v0, v1, v2, v3], _ =>
    match xs, hxl with
    | [y0, y1, y2, y3], _ =>
      have g0 : DataW.trod enc Try.prog w base spare held n 3 [v0] = some y0 := by simpa [cInt, c32, cStr] using hg 0 _ rfl
      have g1 : DataW.trod enc Try.prog w base spare held n 23 [v1] = some y1 := by simpa [cInt, c32, cStr] using hg 1 _ rfl
      have g2 : DataW.trod enc Try.prog w base spare held n 3 [v2] = some y2 := by simpa [cInt, c32, cStr] using hg 2 _ rfl
      have g3 : DataW.trod enc Try.prog w base spare held n 9 [v3] = some y3 := by simpa [cInt, c32, cStr] using hg 3 _ rfl
      obtain ⟨n0, e0, f0, w0⟩ := DataW.trod_int Try.underlying3 g0
      obtain ⟨n1, e1, f1, w1⟩ := DataW.trod_int Try.underlying23 g1
      obtain ⟨n2, e2, f2, w2⟩ := DataW.trod_int Try.underlying3 g2
      obtain ⟨n3, e3, f3, w3⟩ := DataW.trod_string Try.underlying9 g3
      simp at e0 e1 e2 e3
      subst e0 e1 e2 e3 f0 f1 f2 f3
      exact ⟨⟨n0, n1, n2, n3⟩, rfl, rfl, w0, w1, w2, w3⟩
set_option maxRecDepth 100000 in
theorem stp_cells {x : Stp} (hf : x.ok) (m : Nat) : DataW.trod enc Try.prog w base spare held (m + 2) 34 x.cells = some (stpD x, []) := by
  obtain ⟨w0, w1, w2, w3⟩ := hf
  exact trod_struct_mk (enc := enc) (P := Try.prog) (w := w) (base := base) (spare := spare) (held := held) (n := m + 1) (cs := x.cells)
    (xs := [(.lit (.int .i64 x.op), []), (.lit (.int .u32 x.ad), []), (.lit (.int .i64 x.n), []), (.lit (.string x.tx.data.toList), [])]) Try.underlying34 (by rw [cStep]; rfl)
    (by simp [Stp.cells, DataW.trod, Try.underlying3, Try.underlying23, Try.underlying9, cInt, c32, cStr, w0, w1, w2, w3])
set_option maxRecDepth 100000 in
theorem open_stp {r : Reach} {b0 : Nat} {v : Value} {x : DataW H} {p : List MemPlace} (hv : Value.okWide Try.prog w r b0 34 v) (h : DataW.Trod enc Try.prog w base spare held 34 v x p) :
    ∃ y : Stp, v = .agg y.cells.toArray ∧ x = stpD y ∧ p = [] ∧ y.ok := by
  obtain ⟨cs, rfl, hsz⟩ := okWide_struct Try.underlying34 hv
  obtain ⟨fuel, hf⟩ := h
  obtain ⟨y, e, f, g⟩ := stp_of_cells hf
  simp only [Prod.mk.injEq] at f
  refine ⟨y, ?_, f.1, f.2, g⟩
  have e' : cs.toList = y.cells := by simpa [Value.cells] using e
  congr 1
  apply Array.toList_inj.1
  exact e'
set_option maxRecDepth 100000 in
theorem shut_stp {x : Stp} (hf : x.ok) : DataW.Trod enc Try.prog w base spare held 34 (.agg x.cells.toArray) (stpD x) [] :=
  ⟨2, by simpa [Value.cells] using stp_cells (enc := enc) (w := w) (base := base) (spare := spare) (held := held) hf 0⟩
end
end Go.Proofs.Ytfickpjecehboaa
