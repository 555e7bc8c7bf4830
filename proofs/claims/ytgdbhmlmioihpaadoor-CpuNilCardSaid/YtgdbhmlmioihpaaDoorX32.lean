/- The chapter's examples, worked out. -/
import Derived.Test.YtgdbhmlmioihpaaDoorX30
import Derived.Test.YtgdbhmlmioihpaaDoorX31
set_option linter.unusedVariables false
namespace Go.Proofs.YtgdbhmlmioihpaaDoor
open Go Go.RowKit

def ex1 : Sta := ⟨[], 0, [4], 0, [⟨32, 1, 0, 0, 5⟩, ⟨17, 0, 1, 0, 1⟩, ⟨50, 0, 0, 0, 9⟩], 0, ⟨#[]⟩⟩
def ex2 : Sta := ⟨[], 0, [4], 0, [⟨41, 15, 0, 0, 1048576⟩], 0, ⟨#[]⟩⟩
set_option maxRecDepth 100000 in
theorem ex1_run : (runO 9 (madeC ex1) (madeA ex1)).1.k = 1 ∧ (runO 9 (madeC ex1) (madeA ex1)).1.num = 9 ∧ (runO 9 (madeC ex1) (madeA ex1)).1.why = 0 ∧ (runO 9 (madeC ex1) (madeA ex1)).2 = 3 ∧ (runO 9 (madeC ex1) (madeA ex1)).1.c.r 1 = 5 ∧ (runO 9 (madeC ex1) (madeA ex1)).1.c.r 0 = 0 ∧ (runO 9 (madeC ex1) (madeA ex1)).1.c.pc = 24 := by
  decide +kernel
set_option maxRecDepth 100000 in
theorem ex2_run : (runO 9 (madeC ex2) (madeA ex2)).1.k = 2 ∧ (runO 9 (madeC ex2) (madeA ex2)).1.num = 0 ∧ (runO 9 (madeC ex2) (madeA ex2)).1.why = 50 ∧ (runO 9 (madeC ex2) (madeA ex2)).2 = 1 ∧ (runO 9 (madeC ex2) (madeA ex2)).1.c.r 15 = 8 ∧ (runO 9 (madeC ex2) (madeA ex2)).1.c.pc = 1048576 := by
  decide +kernel
end Go.Proofs.YtgdbhmlmioihpaaDoor
