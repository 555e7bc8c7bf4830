/-
  DERIVED. GIVEN WITH THE SEED: THE CARDS: each row of YtlnnhgmkibjgmaaDoorRows.lean that lists a variable, with what it lists TIED to the program's text (the seventh form; the later family's looks); each row that meets fmt, with fmt's text TOLD by the authors' own Lean function (tested against real Go, not proved from fmt's source: count such statements apart). THE CARD IS WHAT COUNTS. Prove the row's statement (the work); the ties are given (YtlnnhgmkibjgmaaDoorTie.lean); close each card by the builder's one call (the guide's Derived/Test/ToyasCard.lean, 'card_holds'). Laid BY PROGRAM, IN A SANDBOX (cutbox-door.mjs). By AI agents, Wed Nov 11 2026. No macro, syntax, notation, axiom, sorry.
-/
import Derived.Test.YtlnnhgmkibjgmaaDoorRows
import GoSem.ClaimSeven
namespace Go.Proofs.YtlnnhgmkibjgmaaDoor
namespace Rows

/-- THE TIED CARD OF 'aediculelaw10.AsmMakes'. -/
def asmMakesCard : Claim7 := { stood := { row := asmMakesRow, standIns := [], harness := (true, "aa0cd9f027a02f74dda42a29478496a16d58eb097f8c6df25aa081050db98788"), looks := false }, kinds := [], alts := [], laidByText := true, laidKinds := [.data], laidTests := true, laidLooks := .later }
def AsmMakesCardSaid : Prop := Claim7.holds Tryd.pinned (.plain (OpenSpec.ofChange asmMakesSpec)) asmMakesCard

/-- THE TIED CARD OF 'aediculelaw10.AsmData'. -/
def asmDataCard : Claim7 := { stood := { row := asmDataRow, standIns := [], harness := (true, "aa0cd9f027a02f74dda42a29478496a16d58eb097f8c6df25aa081050db98788"), looks := false }, kinds := [], alts := [], laidByText := true, laidKinds := [.data], laidTests := true, laidLooks := .later }
def AsmDataCardSaid : Prop := Claim7.holds Tryd.pinned (.plain (OpenSpec.ofChange asmDataSpec)) asmDataCard

/-- THE TIED CARD OF 'aediculelaw10.AsmLines'. -/
def asmLinesCard : Claim7 := { stood := { row := asmLinesRow, standIns := [], harness := (true, "aa0cd9f027a02f74dda42a29478496a16d58eb097f8c6df25aa081050db98788"), looks := false }, kinds := [], alts := [], laidByText := true, laidKinds := [.data], laidTests := true, laidLooks := .later }
def AsmLinesCardSaid : Prop := Claim7.holds Tryd.pinned (.plain (OpenSpec.ofChange asmLinesSpec)) asmLinesCard

/-- THE TIED CARD OF 'aediculelaw10.AsmFills'. -/
def asmFillsCard : Claim7 := { stood := { row := asmFillsRow, standIns := [], harness := (true, "aa0cd9f027a02f74dda42a29478496a16d58eb097f8c6df25aa081050db98788"), looks := false }, kinds := [], alts := [], laidByText := true, laidKinds := [.data], laidTests := true, laidLooks := .later }
def AsmFillsCardSaid : Prop := Claim7.holds Tryd.pinned (.plain (OpenSpec.ofChange asmFillsSpec)) asmFillsCard

/-- THE SECOND FORM's CARD OF 'aediculelaw10.AsmMakes'. -/
def asmMakesUptoCard : Claim7 := { stood := { row := asmMakesUptoRow, standIns := [], harness := (true, "aa0cd9f027a02f74dda42a29478496a16d58eb097f8c6df25aa081050db98788"), looks := false }, kinds := [], alts := [], laidByText := true, laidKinds := [.data], laidTests := true, laidLooks := .later }
def AsmMakesUptoCardSaid : Prop := Claim7.holds Tryd.pinned (.plain (OpenSpec.upto asmMakesSpec)) asmMakesUptoCard

/-- THE SECOND FORM's CARD OF 'aediculelaw10.AsmData'. -/
def asmDataUptoCard : Claim7 := { stood := { row := asmDataUptoRow, standIns := [], harness := (true, "aa0cd9f027a02f74dda42a29478496a16d58eb097f8c6df25aa081050db98788"), looks := false }, kinds := [], alts := [], laidByText := true, laidKinds := [.data], laidTests := true, laidLooks := .later }
def AsmDataUptoCardSaid : Prop := Claim7.holds Tryd.pinned (.plain (OpenSpec.upto asmDataSpec)) asmDataUptoCard

/-- THE SECOND FORM's CARD OF 'aediculelaw10.AsmLines'. -/
def asmLinesUptoCard : Claim7 := { stood := { row := asmLinesUptoRow, standIns := [], harness := (true, "aa0cd9f027a02f74dda42a29478496a16d58eb097f8c6df25aa081050db98788"), looks := false }, kinds := [], alts := [], laidByText := true, laidKinds := [.data], laidTests := true, laidLooks := .later }
def AsmLinesUptoCardSaid : Prop := Claim7.holds Tryd.pinned (.plain (OpenSpec.upto asmLinesSpec)) asmLinesUptoCard

/-- THE SECOND FORM's CARD OF 'aediculelaw10.AsmFills'. -/
def asmFillsUptoCard : Claim7 := { stood := { row := asmFillsUptoRow, standIns := [], harness := (true, "aa0cd9f027a02f74dda42a29478496a16d58eb097f8c6df25aa081050db98788"), looks := false }, kinds := [], alts := [], laidByText := true, laidKinds := [.data], laidTests := true, laidLooks := .later }
def AsmFillsUptoCardSaid : Prop := Claim7.holds Tryd.pinned (.plain (OpenSpec.upto asmFillsSpec)) asmFillsUptoCard
end Rows
end Go.Proofs.YtlnnhgmkibjgmaaDoor
