/-
  DERIVED. GIVEN WITH THE SEED: THE CARDS: each row of YtkomfgoloepekaaDoorRows.lean that lists a variable, with what it lists TIED to the program's text (the seventh form; the later family's looks); each row that meets fmt, with fmt's text TOLD by the authors' own Lean function (tested against real Go, not proved from fmt's source: count such statements apart). THE CARD IS WHAT COUNTS. Prove the row's statement (the work); the ties are given (YtkomfgoloepekaaDoorTie.lean); close each card by the builder's one call (the guide's Derived/Test/ToyasCard.lean, 'card_holds'). Laid BY PROGRAM, IN A SANDBOX (cutbox-door.mjs). By AI agents, Wed Nov 11 2026. No macro, syntax, notation, axiom, sorry.
-/
import Derived.Test.YtkomfgoloepekaaDoorRows
import GoSem.ClaimSeven
namespace Go.Proofs.YtkomfgoloepekaaDoor
namespace Rows

/-- THE TIED CARD OF 'aediculelaw03.MacTells'. -/
def macTellsCard : Claim7 := { stood := { row := macTellsRow, standIns := [], harness := (true, "783069cabcfaad919956a5c36b3d3e8135fe24adb9d096ce3c00d2628d8232d2"), looks := false }, kinds := [], alts := [], laidByText := true, laidKinds := [.data], laidTests := true, laidLooks := .later }
def MacTellsCardSaid : Prop := Claim7.holds Tryd.pinned (.plain (OpenSpec.ofChange macTellsSpec)) macTellsCard

/-- THE TIED CARD OF 'aediculelaw03.MacPieces'. -/
def macPiecesCard : Claim7 := { stood := { row := macPiecesRow, standIns := [], harness := (true, "783069cabcfaad919956a5c36b3d3e8135fe24adb9d096ce3c00d2628d8232d2"), looks := false }, kinds := [], alts := [], laidByText := true, laidKinds := [.data], laidTests := true, laidLooks := .later }
def MacPiecesCardSaid : Prop := Claim7.holds Tryd.pinned (.plain (OpenSpec.ofChange macPiecesSpec)) macPiecesCard

/-- THE TIED CARD OF 'aediculelaw03.MacKeys'. -/
def macKeysCard : Claim7 := { stood := { row := macKeysRow, standIns := [], harness := (true, "783069cabcfaad919956a5c36b3d3e8135fe24adb9d096ce3c00d2628d8232d2"), looks := false }, kinds := [], alts := [], laidByText := true, laidKinds := [.data], laidTests := true, laidLooks := .later }
def MacKeysCardSaid : Prop := Claim7.holds Tryd.pinned (.plain (OpenSpec.ofChange macKeysSpec)) macKeysCard

/-- THE TIED CARD OF 'aediculelaw03.MacNil'. -/
def macNilCard : Claim7 := { stood := { row := macNilRow, standIns := [], harness := (true, "783069cabcfaad919956a5c36b3d3e8135fe24adb9d096ce3c00d2628d8232d2"), looks := false }, kinds := [], alts := [], laidByText := true, laidKinds := [.data], laidTests := true, laidLooks := .later }
def MacNilCardSaid : Prop := Claim7.holds Tryd.pinned (.plain (OpenSpec.ofChange macNilSpec)) macNilCard

/-- THE SECOND FORM's CARD OF 'aediculelaw03.MacTells'. -/
def macTellsUptoCard : Claim7 := { stood := { row := macTellsUptoRow, standIns := [], harness := (true, "783069cabcfaad919956a5c36b3d3e8135fe24adb9d096ce3c00d2628d8232d2"), looks := false }, kinds := [], alts := [], laidByText := true, laidKinds := [.data], laidTests := true, laidLooks := .later }
def MacTellsUptoCardSaid : Prop := Claim7.holds Tryd.pinned (.plain (OpenSpec.upto macTellsSpec)) macTellsUptoCard

/-- THE SECOND FORM's CARD OF 'aediculelaw03.MacPieces'. -/
def macPiecesUptoCard : Claim7 := { stood := { row := macPiecesUptoRow, standIns := [], harness := (true, "783069cabcfaad919956a5c36b3d3e8135fe24adb9d096ce3c00d2628d8232d2"), looks := false }, kinds := [], alts := [], laidByText := true, laidKinds := [.data], laidTests := true, laidLooks := .later }
def MacPiecesUptoCardSaid : Prop := Claim7.holds Tryd.pinned (.plain (OpenSpec.upto macPiecesSpec)) macPiecesUptoCard

/-- THE SECOND FORM's CARD OF 'aediculelaw03.MacKeys'. -/
def macKeysUptoCard : Claim7 := { stood := { row := macKeysUptoRow, standIns := [], harness := (true, "783069cabcfaad919956a5c36b3d3e8135fe24adb9d096ce3c00d2628d8232d2"), looks := false }, kinds := [], alts := [], laidByText := true, laidKinds := [.data], laidTests := true, laidLooks := .later }
def MacKeysUptoCardSaid : Prop := Claim7.holds Tryd.pinned (.plain (OpenSpec.upto macKeysSpec)) macKeysUptoCard

/-- THE SECOND FORM's CARD OF 'aediculelaw03.MacNil'. -/
def macNilUptoCard : Claim7 := { stood := { row := macNilUptoRow, standIns := [], harness := (true, "783069cabcfaad919956a5c36b3d3e8135fe24adb9d096ce3c00d2628d8232d2"), looks := false }, kinds := [], alts := [], laidByText := true, laidKinds := [.data], laidTests := true, laidLooks := .later }
def MacNilUptoCardSaid : Prop := Claim7.holds Tryd.pinned (.plain (OpenSpec.upto macNilSpec)) macNilUptoCard
end Rows
end Go.Proofs.YtkomfgoloepekaaDoor
