/- What the steps of both cpus, the program's and the document's, have in common: what is read, the stop that is handed back. -/
import Derived.Test.YtgdbhmlmioihpaaDoorX16
import Derived.Test.YtgdbhmlmioihpaaDoorX06
import Derived.Test.YtgdbhmlmioihpaaDoorX05
import Derived.BigQuiet
import Derived.Deep.DeepCutAuto
import Derived.Laws.ResultCell
import Derived.Laws.Tables
import Derived.Laws.Rows
set_option linter.unusedVariables false
namespace Go.Proofs.YtgdbhmlmioihpaaDoor
open Go Go.RowKit Go.Maps

def xv (x : Xn) : Value := .agg #[.int .u8 x.op, .int .u8 (x.d : Int), .int .u8 (x.a : Int), .int .u8 (x.b : Int), .int .u32 x.im]

theorem setR_zero (c : Cp) (v : Int) : setR c 0 v = c := by unfold setR; simp

theorem getE_two (A : As) (need x n : Nat) (hn : n ≤ 1048576) : getE A need x (n : Int) = 0 ∨ getE A need x (n : Int) = 50 := by
  unfold getE
  rw [if_neg (by omega)]
  split <;> simp
theorem u32_mod (z : Int) : IntKind.u32.wrap z = z % 4294967296 := by rw [IntKind.wrap_u32]

def xcs (x : Xn) : List Value := [.int .u8 x.op, .int .u8 (x.d : Int), .int .u8 (x.a : Int), .int .u8 (x.b : Int), .int .u32 x.im]
theorem infoStop : (Tryd.prog.info? 30).map (·.size) = some 3 := by kernel_rfl
/-- What a function hands back out of a variable that holds a stop. -/
theorem res_stop {fn : Func} {p : Tmp} (h : fn.results = #[.cell p 30]) (tmps : Array Value) (w : World) (k : Nat) (a b d : Value) (hp : tmps.getD p undef = .pointer (some ⟨k, 0, none⟩)) (hb : Blk w k 30 [a, b, d]) :
    (results fn tmps).run Tryd.prog w = .ok (.agg #[a, b, d]) w :=
  results_cell_row h tmps w k 30 _ (0, 0) _ hp hb Tryd.underlying30 rfl infoStop
theorem res_stop_tmp {fn : Func} {p u : Tmp} (h : fn.results = #[.cell p 30, .tmp u]) (tmps : Array Value) (w : World) (k : Nat) (a b d v : Value) (hp : tmps.getD p undef = .pointer (some ⟨k, 0, none⟩)) (hv : tmps.getD u undef = v)
    (hb : Blk w k 30 [a, b, d]) : (results fn tmps).run Tryd.prog w = .ok (.tuple #[.agg #[a, b, d], v]) w := by
  have hb' : w.heap[k]? = some (.cells #[a, b, d] 30 (0, 0)) := hb
  rw [results_cell_tmp h, hp, hv]
  simp [asAddr, Result.andThen, run_loadVar_row w k 30 30 _ (0, 0) _ hb' Tryd.underlying30 rfl infoStop]
end Go.Proofs.YtgdbhmlmioihpaaDoor
