/-
  DERIVED. GIVEN WITH THE SEED: THE CARDS: each row of YtillcbmjpcbpaaaDoorRows.lean that lists a variable, with what it lists TIED to the program's text (the seventh form; the later family's looks); each row that meets fmt, with fmt's text TOLD by the authors' own Lean function (tested against real Go, not proved from fmt's source: count such statements apart). THE CARD IS WHAT COUNTS. Prove the row's statement (the work); the ties are given (YtillcbmjpcbpaaaDoorTie.lean); close each card by the builder's one call (the guide's Derived/Test/ToyasCard.lean, 'card_holds'). Laid BY PROGRAM, IN A SANDBOX (cutbox-door.mjs). By AI agents, Wed Nov 11 2026. No macro, syntax, notation, axiom, sorry.
-/
import Derived.Test.YtillcbmjpcbpaaaDoorRows
import GoSem.ClaimSeven
namespace Go.Proofs.YtillcbmjpcbpaaaDoor
namespace Rows

/-- THE TIED CARD OF 'aediculelaw04.InsnTells'. -/
def insnTellsCard : Claim7 := { stood := { row := insnTellsRow, standIns := [], harness := (true, "ed2ca872557c713d14600b927831a489f89a909a2d4913ead1a1ea4acae51db1"), looks := false }, kinds := [], alts := [], laidByText := true, laidKinds := [.data], laidTests := true, laidLooks := .later }
def InsnTellsCardSaid : Prop := Claim7.holds Tryd.pinned (.plain (OpenSpec.ofChange insnTellsSpec)) insnTellsCard

/-- THE TIED CARD OF 'aediculelaw04.InsnAll'. -/
def insnAllCard : Claim7 := { stood := { row := insnAllRow, standIns := [], harness := (true, "ed2ca872557c713d14600b927831a489f89a909a2d4913ead1a1ea4acae51db1"), looks := false }, kinds := [], alts := [], laidByText := true, laidKinds := [.data], laidTests := true, laidLooks := .later }
def InsnAllCardSaid : Prop := Claim7.holds Tryd.pinned (.plain (OpenSpec.ofChange insnAllSpec)) insnAllCard

/-- THE TIED CARD OF 'aediculelaw04.InsnBack'. -/
def insnBackCard : Claim7 := { stood := { row := insnBackRow, standIns := [], harness := (true, "ed2ca872557c713d14600b927831a489f89a909a2d4913ead1a1ea4acae51db1"), looks := false }, kinds := [], alts := [], laidByText := true, laidKinds := [.data], laidTests := true, laidLooks := .later }
def InsnBackCardSaid : Prop := Claim7.holds Tryd.pinned (.plain (OpenSpec.ofChange insnBackSpec)) insnBackCard

/-- THE SECOND FORM's CARD OF 'aediculelaw04.InsnTells'. -/
def insnTellsUptoCard : Claim7 := { stood := { row := insnTellsUptoRow, standIns := [], harness := (true, "ed2ca872557c713d14600b927831a489f89a909a2d4913ead1a1ea4acae51db1"), looks := false }, kinds := [], alts := [], laidByText := true, laidKinds := [.data], laidTests := true, laidLooks := .later }
def InsnTellsUptoCardSaid : Prop := Claim7.holds Tryd.pinned (.plain (OpenSpec.upto insnTellsSpec)) insnTellsUptoCard

/-- THE SECOND FORM's CARD OF 'aediculelaw04.InsnAll'. -/
def insnAllUptoCard : Claim7 := { stood := { row := insnAllUptoRow, standIns := [], harness := (true, "ed2ca872557c713d14600b927831a489f89a909a2d4913ead1a1ea4acae51db1"), looks := false }, kinds := [], alts := [], laidByText := true, laidKinds := [.data], laidTests := true, laidLooks := .later }
def InsnAllUptoCardSaid : Prop := Claim7.holds Tryd.pinned (.plain (OpenSpec.upto insnAllSpec)) insnAllUptoCard

/-- THE SECOND FORM's CARD OF 'aediculelaw04.InsnBack'. -/
def insnBackUptoCard : Claim7 := { stood := { row := insnBackUptoRow, standIns := [], harness := (true, "ed2ca872557c713d14600b927831a489f89a909a2d4913ead1a1ea4acae51db1"), looks := false }, kinds := [], alts := [], laidByText := true, laidKinds := [.data], laidTests := true, laidLooks := .later }
def InsnBackUptoCardSaid : Prop := Claim7.holds Tryd.pinned (.plain (OpenSpec.upto insnBackSpec)) insnBackUptoCard
end Rows
end Go.Proofs.YtillcbmjpcbpaaaDoor
