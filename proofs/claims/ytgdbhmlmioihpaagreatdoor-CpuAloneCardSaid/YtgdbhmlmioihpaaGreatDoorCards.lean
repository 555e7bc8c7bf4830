/-
  DERIVED. GIVEN WITH THE SEED: THE CARDS: each row of YtgdbhmlmioihpaaGreatDoorRows.lean that lists a variable, with what it lists TIED to the program's text (the seventh form; the later family's looks); each row that meets fmt, with fmt's text TOLD by the authors' own Lean function (tested against real Go, not proved from fmt's source: count such statements apart). THE CARD IS WHAT COUNTS. Prove the row's statement (the work); the ties are given (YtgdbhmlmioihpaaGreatDoorTie.lean); close each card by the builder's one call (the guide's Derived/Test/ToyasCard.lean, 'card_holds'). Laid BY PROGRAM, IN A SANDBOX (cutbox-door.mjs). By AI agents, Wed Nov 11 2026. No macro, syntax, notation, axiom, sorry.
-/
import Derived.Test.YtgdbhmlmioihpaaGreatDoorRows
import GoSem.ClaimSeven
namespace Go.Proofs.YtgdbhmlmioihpaaGreatDoor
namespace Rows

/-- THE TIED CARD OF 'aediculelaw06.CpuRuns'. -/
def cpuRunsCard : Claim7 := { stood := { row := cpuRunsRow, standIns := [], harness := (true, "eb9f15f6140420f36acdf6a0c1f7876fd1262b5aa91f9535cec2cd01cb8afddb"), looks := false }, kinds := [], alts := [], laidByText := true, laidKinds := [.data], laidTests := true, laidLooks := .later }
def CpuRunsCardSaid : Prop := Claim7.holds Tryz.pinned (.plain (OpenSpec.ofChange cpuRunsSpec)) cpuRunsCard

/-- THE TIED CARD OF 'aediculelaw06.CpuSteps'. -/
def cpuStepsCard : Claim7 := { stood := { row := cpuStepsRow, standIns := [], harness := (true, "eb9f15f6140420f36acdf6a0c1f7876fd1262b5aa91f9535cec2cd01cb8afddb"), looks := false }, kinds := [], alts := [], laidByText := true, laidKinds := [.data], laidTests := true, laidLooks := .later }
def CpuStepsCardSaid : Prop := Claim7.holds Tryz.pinned (.plain (OpenSpec.ofChange cpuStepsSpec)) cpuStepsCard

/-- THE TIED CARD OF 'aediculelaw06.CpuAlone'. -/
def cpuAloneCard : Claim7 := { stood := { row := cpuAloneRow, standIns := [], harness := (true, "eb9f15f6140420f36acdf6a0c1f7876fd1262b5aa91f9535cec2cd01cb8afddb"), looks := false }, kinds := [], alts := [], laidByText := true, laidKinds := [.data], laidTests := true, laidLooks := .later }
def CpuAloneCardSaid : Prop := Claim7.holds Tryz.pinned (.plain (OpenSpec.ofChange cpuAloneSpec)) cpuAloneCard

/-- THE SECOND FORM's CARD OF 'aediculelaw06.CpuRuns'. -/
def cpuRunsUptoCard : Claim7 := { stood := { row := cpuRunsUptoRow, standIns := [], harness := (true, "eb9f15f6140420f36acdf6a0c1f7876fd1262b5aa91f9535cec2cd01cb8afddb"), looks := false }, kinds := [], alts := [], laidByText := true, laidKinds := [.data], laidTests := true, laidLooks := .later }
def CpuRunsUptoCardSaid : Prop := Claim7.holds Tryz.pinned (.plain (OpenSpec.upto cpuRunsSpec)) cpuRunsUptoCard

/-- THE SECOND FORM's CARD OF 'aediculelaw06.CpuSteps'. -/
def cpuStepsUptoCard : Claim7 := { stood := { row := cpuStepsUptoRow, standIns := [], harness := (true, "eb9f15f6140420f36acdf6a0c1f7876fd1262b5aa91f9535cec2cd01cb8afddb"), looks := false }, kinds := [], alts := [], laidByText := true, laidKinds := [.data], laidTests := true, laidLooks := .later }
def CpuStepsUptoCardSaid : Prop := Claim7.holds Tryz.pinned (.plain (OpenSpec.upto cpuStepsSpec)) cpuStepsUptoCard

/-- THE SECOND FORM's CARD OF 'aediculelaw06.CpuAlone'. -/
def cpuAloneUptoCard : Claim7 := { stood := { row := cpuAloneUptoRow, standIns := [], harness := (true, "eb9f15f6140420f36acdf6a0c1f7876fd1262b5aa91f9535cec2cd01cb8afddb"), looks := false }, kinds := [], alts := [], laidByText := true, laidKinds := [.data], laidTests := true, laidLooks := .later }
def CpuAloneUptoCardSaid : Prop := Claim7.holds Tryz.pinned (.plain (OpenSpec.upto cpuAloneSpec)) cpuAloneUptoCard
end Rows
end Go.Proofs.YtgdbhmlmioihpaaGreatDoor
