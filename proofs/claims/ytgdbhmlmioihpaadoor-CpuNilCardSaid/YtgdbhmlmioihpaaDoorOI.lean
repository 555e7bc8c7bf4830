/- An instruction, and what it reads as: opened to its five numbers, and shut again in whatever world. -/
import Derived.Test.YtgdbhmlmioihpaaDoorProg
import Derived.WalkKit
import Derived.ProofKit
import Derived.Below
import Derived.ChangeSame
import Derived.OpenShut
import Derived.WalkArith
set_option linter.unusedVariables false
set_option maxRecDepth 100000
namespace Go.Proofs.YtgdbhmlmioihpaaDoor.I
open Go Go.ChangeShapes Go.WideShapes Go.RowKit

def insnD {H : Type} (op d a b im : Int) : DataW H := .agg [.lit (.int .u8 op), .lit (.int .u8 d), .lit (.int .u8 a), .lit (.int .u8 b), .lit (.int .u32 im)]
/-- The five numbers of an instruction fit their kinds. -/
def Fits (op d a b im : Int) : Prop := (0 ≤ op ∧ op < 256) ∧ (0 ≤ d ∧ d < 256) ∧ (0 ≤ a ∧ a < 256) ∧ (0 ≤ b ∧ b < 256) ∧ (0 ≤ im ∧ im < 4294967296)
theorem fits_u8 {n : Int} (h : (Lit.int .u8 n).wf = true) : 0 ≤ n ∧ n < 256 := by
  have := bounds_u8 h
  omega
theorem fits_u32 {n : Int} (h : (Lit.int .u32 n).wf = true) : 0 ≤ n ∧ n < 4294967296 := by
  have := bounds_u32 h
  omega
theorem wf_u8' {n : Int} (h : 0 ≤ n ∧ n < 256) : (Lit.int .u8 n).wf = true := WalkArith.wf_u8 ⟨h.1, by omega⟩
theorem wf_u32' {n : Int} (h : 0 ≤ n ∧ n < 4294967296) : (Lit.int .u32 n).wf = true := WalkArith.wf_u32 ⟨h.1, by omega⟩
theorem cInsn : Tryd.prog.cellsOf 58 = 5 := by kernel_rfl
theorem c8 : Tryd.prog.cellsOf 5 = 1 := by kernel_rfl
theorem c32 : Tryd.prog.cellsOf 22 = 1 := by kernel_rfl

section
variable {H : Type} {enc : TypeId × Value → H} {w : World} {base : Nat} {spare : Nat → Bool} {held : Bool}
/-- Five cells that read as an instruction. -/
theorem insn_of_cells {fuel : Nat} {cs : List Value} {x : DataW H × List MemPlace} (h : DataW.trod enc Tryd.prog w base spare held fuel 58 cs = some x) :
    ∃ op d a b im : Int, cs = [.int .u8 op, .int .u8 d, .int .u8 a, .int .u8 b, .int .u32 im] ∧ x = (insnD op d a b im, []) ∧ Fits op d a b im := by
  obtain ⟨xs, n, _, rfl, hl, hxl, hg⟩ := DataW.trod_struct Tryd.underlying58 h
  rw [cInsn] at hl
  match cs, hl with
  | [v0, v1, v2, v3, v4], _ =>
    match xs, hxl with
    | [y0, y1, y2, y3, y4], _ =>
      have g0 : DataW.trod enc Tryd.prog w base spare held n 5 [v0] = some y0 := by simpa [c8, c32] using hg 0 _ rfl
      have g1 : DataW.trod enc Tryd.prog w base spare held n 5 [v1] = some y1 := by simpa [c8, c32] using hg 1 _ rfl
      have g2 : DataW.trod enc Tryd.prog w base spare held n 5 [v2] = some y2 := by simpa [c8, c32] using hg 2 _ rfl
      have g3 : DataW.trod enc Tryd.prog w base spare held n 5 [v3] = some y3 := by simpa [c8, c32] using hg 3 _ rfl
      have g4 : DataW.trod enc Tryd.prog w base spare held n 22 [v4] = some y4 := by simpa [c8, c32] using hg 4 _ rfl
      obtain ⟨n0, e0, f0, w0⟩ := DataW.trod_int Tryd.underlying5 g0
      obtain ⟨n1, e1, f1, w1⟩ := DataW.trod_int Tryd.underlying5 g1
      obtain ⟨n2, e2, f2, w2⟩ := DataW.trod_int Tryd.underlying5 g2
      obtain ⟨n3, e3, f3, w3⟩ := DataW.trod_int Tryd.underlying5 g3
      obtain ⟨n4, e4, f4, w4⟩ := DataW.trod_int Tryd.underlying22 g4
      simp at e0 e1 e2 e3 e4
      subst e0 e1 e2 e3 e4 f0 f1 f2 f3 f4
      exact ⟨n0, n1, n2, n3, n4, rfl, rfl, fits_u8 w0, fits_u8 w1, fits_u8 w2, fits_u8 w3, fits_u32 w4⟩

theorem insn_cells {op d a b im : Int} (hf : Fits op d a b im) (m : Nat) : DataW.trod enc Tryd.prog w base spare held (m + 2) 58 [.int .u8 op, .int .u8 d, .int .u8 a, .int .u8 b, .int .u32 im] = some (insnD op d a b im, []) := by
  have w0 := wf_u8' hf.1
  have w1 := wf_u8' hf.2.1
  have w2 := wf_u8' hf.2.2.1
  have w3 := wf_u8' hf.2.2.2.1
  have w4 := wf_u32' hf.2.2.2.2
  exact trod_struct_mk (enc := enc) (P := Tryd.prog) (w := w) (base := base) (spare := spare) (held := held) (n := m + 1) (cs := [.int .u8 op, .int .u8 d, .int .u8 a, .int .u8 b, .int .u32 im])
    (xs := [(.lit (.int .u8 op), []), (.lit (.int .u8 d), []), (.lit (.int .u8 a), []), (.lit (.int .u8 b), []), (.lit (.int .u32 im), [])]) Tryd.underlying58 (by rw [cInsn]; rfl)
    (by simp [DataW.trod, Tryd.underlying5, Tryd.underlying22, c8, c32, w0, w1, w2, w3, w4])

theorem open_insn {r : Reach} {b0 : Nat} {v : Value} {x : DataW H} {p : List MemPlace} (hv : Value.okWide Tryd.prog w r b0 58 v) (h : DataW.Trod enc Tryd.prog w base spare held 58 v x p) :
    ∃ op d a b im : Int, v = .agg #[.int .u8 op, .int .u8 d, .int .u8 a, .int .u8 b, .int .u32 im] ∧ x = insnD op d a b im ∧ p = [] ∧ Fits op d a b im := by
  obtain ⟨cs, rfl, hsz⟩ := okWide_struct Tryd.underlying58 hv
  obtain ⟨fuel, hf⟩ := h
  obtain ⟨op, d, a, b, im, e, f, g⟩ := insn_of_cells hf
  simp only [Prod.mk.injEq] at f
  refine ⟨op, d, a, b, im, ?_, f.1, f.2, g⟩
  have e' : cs.toList = [.int .u8 op, .int .u8 d, .int .u8 a, .int .u8 b, .int .u32 im] := by simpa [Value.cells] using e
  congr 1
  apply Array.toList_inj.1
  exact e'
theorem shut_insn {op d a b im : Int} (hf : Fits op d a b im) : DataW.Trod enc Tryd.prog w base spare held 58 (.agg #[.int .u8 op, .int .u8 d, .int .u8 a, .int .u8 b, .int .u32 im]) (insnD op d a b im) [] :=
  ⟨2, by simpa [Value.cells] using insn_cells (enc := enc) (w := w) (base := base) (spare := spare) (held := held) hf 0⟩
end
end Go.Proofs.YtgdbhmlmioihpaaDoor.I
