/-
  DERIVED. GIVEN WITH THE SEED: THE CARDS: each row of YtgdbhmlmioihpaaDoorRows.lean that lists a variable, with what it lists TIED to the program's text (the seventh form; the later family's looks); each row that meets fmt, with fmt's text TOLD by the authors' own Lean function (tested against real Go, not proved from fmt's source: count such statements apart). THE CARD IS WHAT COUNTS. Prove the row's statement (the work); the ties are given (YtgdbhmlmioihpaaDoorTie.lean); close each card by the builder's one call (the guide's Derived/Test/ToyasCard.lean, 'card_holds'). Laid BY PROGRAM, IN A SANDBOX (cutbox-door.mjs). By AI agents, Wed Nov 11 2026. No macro, syntax, notation, axiom, sorry.
-/
import Derived.Test.YtgdbhmlmioihpaaDoorRows
import GoSem.ClaimSeven
namespace Go.Proofs.YtgdbhmlmioihpaaDoor
namespace Rows

/-- THE TIED CARD OF 'aediculelaw06.CpuNil'. -/
def cpuNilCard : Claim7 := { stood := { row := cpuNilRow, standIns := [], harness := (true, "f9d63f8d4d6e26e840d2b6294918cda265e1a5b0de21805ddb5c613aa1f9f794"), looks := false }, kinds := [], alts := [], laidByText := true, laidKinds := [.data], laidTests := true, laidLooks := .later }
def CpuNilCardSaid : Prop := Claim7.holds Tryd.pinned (.plain (OpenSpec.ofChange cpuNilSpec)) cpuNilCard

/-- THE SECOND FORM's CARD OF 'aediculelaw06.CpuNil'. -/
def cpuNilUptoCard : Claim7 := { stood := { row := cpuNilUptoRow, standIns := [], harness := (true, "f9d63f8d4d6e26e840d2b6294918cda265e1a5b0de21805ddb5c613aa1f9f794"), looks := false }, kinds := [], alts := [], laidByText := true, laidKinds := [.data], laidTests := true, laidLooks := .later }
def CpuNilUptoCardSaid : Prop := Claim7.holds Tryd.pinned (.plain (OpenSpec.upto cpuNilSpec)) cpuNilUptoCard
end Rows
end Go.Proofs.YtgdbhmlmioihpaaDoor
