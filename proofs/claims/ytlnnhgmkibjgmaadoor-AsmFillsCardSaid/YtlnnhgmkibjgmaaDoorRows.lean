/-
  NARROWER THAN 'FOR EVERY INPUT', by the rows' own cells (each row's printed sentence says how): AsmMakes: laid · AsmData: laid · AsmLines: laid · AsmFills: laid.
  DERIVED. THE GIVEN ROWS OF THIS SEAT. 4 by the template 'for every input the law returns true; each argument reads behind the call as it read before'; 0 by the template 'total and deterministic' (their statements: YtlnnhgmkibjgmaaDoorTotals.lean).
  GIVEN WITH THE SEED: the statements are not yours to turn. If you find one false, say at which input.
  Laid BY PROGRAM, IN A SANDBOX (cutbox-rows.mjs): the forced cells as the released guide's own fill.sh prints them over the translation 37192d3cd92059a5… (all of the seat's roots in one cut). By AI agents, Wed Nov 11 2026. No macro, syntax, notation, axiom, sorry.
-/
import Derived.Test.YtlnnhgmkibjgmaaDoorChecked
import GoSem.Claim
import GoSem.ClaimJoined
import GoSem.ClaimMapViews
import Derived.JoinedTies
import Derived.KernelRfl
namespace Go.Proofs.YtlnnhgmkibjgmaaDoor
/- THE CELL 'sum', in the pinned program and in every row, IS THE sha256 OF THE DUMP (.gsa) THAT YtlnnhgmkibjgmaaDoorProg.lean LOADS. Nothing in Lean hashes anything: it is a label: what it is worth is what the hold of that sum in a sandbox is worth. -/
noncomputable def Tryd.pinned : Pinned := { name := "ytlnnhgmkibjgmaadoor", sum := "37192d3cd92059a576ef68a8470e6056a4e7ef49d5d5772a7506a1cee9b87226", checked := Tryd.checked }
namespace Rows
def none {H : Type} : Left H := { results := [], args := [] }

/- WHAT THE LISTED PACKAGE-LEVEL VARIABLES READ AS WHEN THE CALL BEGINS. Each datum BY PROGRAM (the guide's laid-datum.mjs) off the statement by which the dump's own 'gosem.cut.vars' lays the variable. In a bare row this is a premise. The card (YtlnnhgmkibjgmaaDoorCards.lean) ties it to the program's text. -/
def laid_aedicule_insn_used {H : Type} : DataW H := .agg [.lit (.int .u8 0), .lit (.int .u8 7), .lit (.int .u8 7), .lit (.int .u8 7), .lit (.int .u8 7), .lit (.int .u8 7), .lit (.int .u8 7), .lit (.int .u8 7), .lit (.int .u8 7), .lit (.int .u8 7), .lit (.int .u8 7), .lit (.int .u8 7), .lit (.int .u8 7), .lit (.int .u8 7), .lit (.int .u8 7), .lit (.int .u8 0), .lit (.int .u8 0), .lit (.int .u8 11), .lit (.int .u8 0), .lit (.int .u8 11), .lit (.int .u8 0), .lit (.int .u8 0), .lit (.int .u8 11), .lit (.int .u8 11), .lit (.int .u8 11), .lit (.int .u8 11), .lit (.int .u8 11), .lit (.int .u8 0), .lit (.int .u8 0), .lit (.int .u8 11), .lit (.int .u8 11), .lit (.int .u8 0), .lit (.int .u8 9), .lit (.int .u8 11), .lit (.int .u8 11), .lit (.int .u8 14), .lit (.int .u8 14), .lit (.int .u8 0), .lit (.int .u8 0), .lit (.int .u8 0), .lit (.int .u8 8), .lit (.int .u8 9), .lit (.int .u8 2), .lit (.int .u8 14), .lit (.int .u8 14), .lit (.int .u8 14), .lit (.int .u8 14), .lit (.int .u8 0), .lit (.int .u8 0), .lit (.int .u8 0), .lit (.int .u8 8)]

/-- 'aediculelaw10.AsmMakes': WHATEVER THE INPUT: true; the input reads as it did. -/
def asmMakesSpec : ChangeSpec := { name := "asmMakes", fn := fun _ => fun
  | [d1, d2, d3, d4] => { results := [.lit (.bool true)], args := [d1, d2, d3, d4] }
  | _ => none }
def asmMakesRow : OpenClaim := { program := "ytlnnhgmkibjgmaadoor", sum := "37192d3cd92059a576ef68a8470e6056a4e7ef49d5d5772a7506a1cee9b87226", func := "aedicule/aediculelaw10.AsmMakes", spec := "asmMakes", inPlace := ["internal/abi.NoEscape"], unfollowed := true, recurses := true, named := ["aedicule/insn.used"], apart := false, laid := [("aedicule/insn.used", laid_aedicule_insn_used)] }
def AsmMakesSaid : Prop := asmMakesRow.holds Tryd.pinned (OpenSpec.ofChange asmMakesSpec)

/-- ITS FALSE NEIGHBOUR: 'it returns false'. Refute it at one input. -/
def asmMakesWrong : ChangeSpec := { name := "asmMakes", fn := fun _ => fun
  | [d1, d2, d3, d4] => { results := [.lit (.bool false)], args := [d1, d2, d3, d4] }
  | _ => none }
def AsmMakesWrongFalsely : Prop := asmMakesRow.holds Tryd.pinned (OpenSpec.ofChange asmMakesWrong)

/-- 'aediculelaw10.AsmData': WHATEVER THE INPUT: true; the input reads as it did. -/
def asmDataSpec : ChangeSpec := { name := "asmData", fn := fun _ => fun
  | [d] => { results := [.lit (.bool true)], args := [d] }
  | _ => none }
def asmDataRow : OpenClaim := { program := "ytlnnhgmkibjgmaadoor", sum := "37192d3cd92059a576ef68a8470e6056a4e7ef49d5d5772a7506a1cee9b87226", func := "aedicule/aediculelaw10.AsmData", spec := "asmData", inPlace := ["internal/abi.NoEscape"], unfollowed := true, recurses := true, named := ["aedicule/insn.used"], apart := false, laid := [("aedicule/insn.used", laid_aedicule_insn_used)] }
def AsmDataSaid : Prop := asmDataRow.holds Tryd.pinned (OpenSpec.ofChange asmDataSpec)

/-- ITS FALSE NEIGHBOUR: 'it returns false'. Refute it at one input. -/
def asmDataWrong : ChangeSpec := { name := "asmData", fn := fun _ => fun
  | [d] => { results := [.lit (.bool false)], args := [d] }
  | _ => none }
def AsmDataWrongFalsely : Prop := asmDataRow.holds Tryd.pinned (OpenSpec.ofChange asmDataWrong)

/-- 'aediculelaw10.AsmLines': WHATEVER THE INPUT: true; the input reads as it did. -/
def asmLinesSpec : ChangeSpec := { name := "asmLines", fn := fun _ => fun
  | [d1, d2, d3] => { results := [.lit (.bool true)], args := [d1, d2, d3] }
  | _ => none }
def asmLinesRow : OpenClaim := { program := "ytlnnhgmkibjgmaadoor", sum := "37192d3cd92059a576ef68a8470e6056a4e7ef49d5d5772a7506a1cee9b87226", func := "aedicule/aediculelaw10.AsmLines", spec := "asmLines", inPlace := ["internal/abi.NoEscape"], unfollowed := true, recurses := true, named := ["aedicule/insn.used"], apart := false, laid := [("aedicule/insn.used", laid_aedicule_insn_used)] }
def AsmLinesSaid : Prop := asmLinesRow.holds Tryd.pinned (OpenSpec.ofChange asmLinesSpec)

/-- ITS FALSE NEIGHBOUR: 'it returns false'. Refute it at one input. -/
def asmLinesWrong : ChangeSpec := { name := "asmLines", fn := fun _ => fun
  | [d1, d2, d3] => { results := [.lit (.bool false)], args := [d1, d2, d3] }
  | _ => none }
def AsmLinesWrongFalsely : Prop := asmLinesRow.holds Tryd.pinned (OpenSpec.ofChange asmLinesWrong)

/-- 'aediculelaw10.AsmFills': WHATEVER THE INPUT: true; the input reads as it did. -/
def asmFillsSpec : ChangeSpec := { name := "asmFills", fn := fun _ => fun
  | [d1, d2, d3] => { results := [.lit (.bool true)], args := [d1, d2, d3] }
  | _ => none }
def asmFillsRow : OpenClaim := { program := "ytlnnhgmkibjgmaadoor", sum := "37192d3cd92059a576ef68a8470e6056a4e7ef49d5d5772a7506a1cee9b87226", func := "aedicule/aediculelaw10.AsmFills", spec := "asmFills", inPlace := ["internal/abi.NoEscape"], unfollowed := true, recurses := true, named := ["aedicule/insn.used"], apart := false, laid := [("aedicule/insn.used", laid_aedicule_insn_used)] }
def AsmFillsSaid : Prop := asmFillsRow.holds Tryd.pinned (OpenSpec.ofChange asmFillsSpec)

/-- ITS FALSE NEIGHBOUR: 'it returns false'. Refute it at one input. -/
def asmFillsWrong : ChangeSpec := { name := "asmFills", fn := fun _ => fun
  | [d1, d2, d3] => { results := [.lit (.bool false)], args := [d1, d2, d3] }
  | _ => none }
def AsmFillsWrongFalsely : Prop := asmFillsRow.holds Tryd.pinned (OpenSpec.ofChange asmFillsWrong)

/- THE SECOND FORM. 'bulk': how many values and letters a reading holds, each counted each time it is reached (what is shared counts as often as it is met; a slice's spare places count too). A statement '..UptoSaid' is the law's where the arguments, and the package variables that the reading takes, are together of bulk at most 1048576: NARROWER than '..Said'. Prove '..Said' where nothing that the law and all that it calls make is longer than what came in: it says more and counts as full. Else prove '..UptoSaid'. A law counts once. -/
mutual
def uptoBulk {H : Type} : DataW H → Nat
  | .lit (.string bytes) => bytes.length + 1
  | .lit _ => 1
  | .nil => 1
  | .ptr d => uptoBulk d + 1
  | .slice elems spare => uptoBulkAll elems + uptoBulkAll spare + 1
  | .agg parts => uptoBulkAll parts + 1
  | .iface _ d => uptoBulk d + 1
  | .map entries => uptoBulkEntries entries + 1
  | .held _ => 1
def uptoBulkAll {H : Type} : List (DataW H) → Nat
  | [] => 0
  | d :: r => uptoBulk d + uptoBulkAll r
def uptoBulkEntries {H : Type} : List (Lit × DataW H) → Nat
  | [] => 0
  | x :: r => uptoBulkEntry x + uptoBulkEntries r
def uptoBulkEntry {H : Type} : Lit × DataW H → Nat
  | (.string bytes, d) => bytes.length + uptoBulk d + 1
  | (_, d) => uptoBulk d + 1
 end
def uptoSmall : (H : Type) → List (DataW H) → Bool := fun _ ds => decide (uptoBulkAll ds ≤ 1048576)
def OpenSpec.upto (s : _root_.Go.ChangeSpec) : _root_.Go.OpenSpec := { _root_.Go.OpenSpec.ofChange s with cond := some uptoSmall }

/-- 'aediculelaw10.AsmMakes', WHERE WHAT IT READS IS OF BULK AT MOST 1048576: true; the input reads as it did. -/
def asmMakesUptoRow : OpenClaim := { program := "ytlnnhgmkibjgmaadoor", sum := "37192d3cd92059a576ef68a8470e6056a4e7ef49d5d5772a7506a1cee9b87226", func := "aedicule/aediculelaw10.AsmMakes", spec := "asmMakes", inPlace := ["internal/abi.NoEscape"], unfollowed := true, recurses := true, named := ["aedicule/insn.used"], apart := false, laid := [("aedicule/insn.used", laid_aedicule_insn_used)], narrowed := true }
def AsmMakesUptoSaid : Prop := asmMakesUptoRow.holds Tryd.pinned (OpenSpec.upto asmMakesSpec)

/-- 'aediculelaw10.AsmData', WHERE WHAT IT READS IS OF BULK AT MOST 1048576: true; the input reads as it did. -/
def asmDataUptoRow : OpenClaim := { program := "ytlnnhgmkibjgmaadoor", sum := "37192d3cd92059a576ef68a8470e6056a4e7ef49d5d5772a7506a1cee9b87226", func := "aedicule/aediculelaw10.AsmData", spec := "asmData", inPlace := ["internal/abi.NoEscape"], unfollowed := true, recurses := true, named := ["aedicule/insn.used"], apart := false, laid := [("aedicule/insn.used", laid_aedicule_insn_used)], narrowed := true }
def AsmDataUptoSaid : Prop := asmDataUptoRow.holds Tryd.pinned (OpenSpec.upto asmDataSpec)

/-- 'aediculelaw10.AsmLines', WHERE WHAT IT READS IS OF BULK AT MOST 1048576: true; the input reads as it did. -/
def asmLinesUptoRow : OpenClaim := { program := "ytlnnhgmkibjgmaadoor", sum := "37192d3cd92059a576ef68a8470e6056a4e7ef49d5d5772a7506a1cee9b87226", func := "aedicule/aediculelaw10.AsmLines", spec := "asmLines", inPlace := ["internal/abi.NoEscape"], unfollowed := true, recurses := true, named := ["aedicule/insn.used"], apart := false, laid := [("aedicule/insn.used", laid_aedicule_insn_used)], narrowed := true }
def AsmLinesUptoSaid : Prop := asmLinesUptoRow.holds Tryd.pinned (OpenSpec.upto asmLinesSpec)

/-- 'aediculelaw10.AsmFills', WHERE WHAT IT READS IS OF BULK AT MOST 1048576: true; the input reads as it did. -/
def asmFillsUptoRow : OpenClaim := { program := "ytlnnhgmkibjgmaadoor", sum := "37192d3cd92059a576ef68a8470e6056a4e7ef49d5d5772a7506a1cee9b87226", func := "aedicule/aediculelaw10.AsmFills", spec := "asmFills", inPlace := ["internal/abi.NoEscape"], unfollowed := true, recurses := true, named := ["aedicule/insn.used"], apart := false, laid := [("aedicule/insn.used", laid_aedicule_insn_used)], narrowed := true }
def AsmFillsUptoSaid : Prop := asmFillsUptoRow.holds Tryd.pinned (OpenSpec.upto asmFillsSpec)

end Rows
end Go.Proofs.YtlnnhgmkibjgmaaDoor
