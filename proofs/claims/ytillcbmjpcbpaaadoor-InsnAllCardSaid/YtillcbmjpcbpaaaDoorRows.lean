/-
  NARROWER THAN 'FOR EVERY INPUT', by the rows' own cells (each row's printed sentence says how): InsnTells: laid · InsnAll: laid · InsnBack: laid.
  DERIVED. THE GIVEN ROWS OF THIS SEAT. 3 by the template 'for every input the law returns true; each argument reads behind the call as it read before'; 0 by the template 'total and deterministic' (their statements: YtillcbmjpcbpaaaDoorTotals.lean).
  GIVEN WITH THE SEED: the statements are not yours to turn. If you find one false, say at which input.
  Laid BY PROGRAM, IN A SANDBOX (cutbox-rows.mjs): the forced cells as the released guide's own fill.sh prints them over the translation 25d78b851152a88c… (all of the seat's roots in one cut). By AI agents, Wed Nov 11 2026. No macro, syntax, notation, axiom, sorry.
-/
import Derived.Test.YtillcbmjpcbpaaaDoorChecked
import GoSem.Claim
import GoSem.ClaimJoined
import GoSem.ClaimMapViews
import Derived.JoinedTies
import Derived.KernelRfl
namespace Go.Proofs.YtillcbmjpcbpaaaDoor
/- THE CELL 'sum', in the pinned program and in every row, IS THE sha256 OF THE DUMP (.gsa) THAT YtillcbmjpcbpaaaDoorProg.lean LOADS. Nothing in Lean hashes anything: it is a label: what it is worth is what the hold of that sum in a sandbox is worth. -/
noncomputable def Tryd.pinned : Pinned := { name := "ytillcbmjpcbpaaadoor", sum := "25d78b851152a88cd5b0244f469d233c5e2a38cb9d3667ee7ced95801f87e2d0", checked := Tryd.checked }
namespace Rows
def none {H : Type} : Left H := { results := [], args := [] }

/- WHAT THE LISTED PACKAGE-LEVEL VARIABLES READ AS WHEN THE CALL BEGINS. Each datum BY PROGRAM (the guide's laid-datum.mjs) off the statement by which the dump's own 'gosem.cut.vars' lays the variable. In a bare row this is a premise. The card (YtillcbmjpcbpaaaDoorCards.lean) ties it to the program's text. -/
def laid_aedicule_insn_used {H : Type} : DataW H := .agg [.lit (.int .u8 0), .lit (.int .u8 7), .lit (.int .u8 7), .lit (.int .u8 7), .lit (.int .u8 7), .lit (.int .u8 7), .lit (.int .u8 7), .lit (.int .u8 7), .lit (.int .u8 7), .lit (.int .u8 7), .lit (.int .u8 7), .lit (.int .u8 7), .lit (.int .u8 7), .lit (.int .u8 7), .lit (.int .u8 7), .lit (.int .u8 0), .lit (.int .u8 0), .lit (.int .u8 11), .lit (.int .u8 0), .lit (.int .u8 11), .lit (.int .u8 0), .lit (.int .u8 0), .lit (.int .u8 11), .lit (.int .u8 11), .lit (.int .u8 11), .lit (.int .u8 11), .lit (.int .u8 11), .lit (.int .u8 0), .lit (.int .u8 0), .lit (.int .u8 11), .lit (.int .u8 11), .lit (.int .u8 0), .lit (.int .u8 9), .lit (.int .u8 11), .lit (.int .u8 11), .lit (.int .u8 14), .lit (.int .u8 14), .lit (.int .u8 0), .lit (.int .u8 0), .lit (.int .u8 0), .lit (.int .u8 8), .lit (.int .u8 9), .lit (.int .u8 2), .lit (.int .u8 14), .lit (.int .u8 14), .lit (.int .u8 14), .lit (.int .u8 14), .lit (.int .u8 0), .lit (.int .u8 0), .lit (.int .u8 0), .lit (.int .u8 8)]

/-- 'aediculelaw04.InsnTells': WHATEVER THE INPUT: true; the input reads as it did. -/
def insnTellsSpec : ChangeSpec := { name := "insnTells", fn := fun _ => fun
  | [d1, d2] => { results := [.lit (.bool true)], args := [d1, d2] }
  | _ => none }
def insnTellsRow : OpenClaim := { program := "ytillcbmjpcbpaaadoor", sum := "25d78b851152a88cd5b0244f469d233c5e2a38cb9d3667ee7ced95801f87e2d0", func := "aedicule/aediculelaw04.InsnTells", spec := "insnTells", inPlace := ["internal/abi.NoEscape"], named := ["aedicule/insn.used"], apart := false, laid := [("aedicule/insn.used", laid_aedicule_insn_used)] }
def InsnTellsSaid : Prop := insnTellsRow.holds Tryd.pinned (OpenSpec.ofChange insnTellsSpec)

/-- ITS FALSE NEIGHBOUR: 'it returns false'. Refute it at one input. -/
def insnTellsWrong : ChangeSpec := { name := "insnTells", fn := fun _ => fun
  | [d1, d2] => { results := [.lit (.bool false)], args := [d1, d2] }
  | _ => none }
def InsnTellsWrongFalsely : Prop := insnTellsRow.holds Tryd.pinned (OpenSpec.ofChange insnTellsWrong)

/-- 'aediculelaw04.InsnAll': WHATEVER THE INPUT: true; the input reads as it did. -/
def insnAllSpec : ChangeSpec := { name := "insnAll", fn := fun _ => fun
  | [d] => { results := [.lit (.bool true)], args := [d] }
  | _ => none }
def insnAllRow : OpenClaim := { program := "ytillcbmjpcbpaaadoor", sum := "25d78b851152a88cd5b0244f469d233c5e2a38cb9d3667ee7ced95801f87e2d0", func := "aedicule/aediculelaw04.InsnAll", spec := "insnAll", inPlace := ["internal/abi.NoEscape"], named := ["aedicule/insn.used"], apart := false, laid := [("aedicule/insn.used", laid_aedicule_insn_used)] }
def InsnAllSaid : Prop := insnAllRow.holds Tryd.pinned (OpenSpec.ofChange insnAllSpec)

/-- ITS FALSE NEIGHBOUR: 'it returns false'. Refute it at one input. -/
def insnAllWrong : ChangeSpec := { name := "insnAll", fn := fun _ => fun
  | [d] => { results := [.lit (.bool false)], args := [d] }
  | _ => none }
def InsnAllWrongFalsely : Prop := insnAllRow.holds Tryd.pinned (OpenSpec.ofChange insnAllWrong)

/-- 'aediculelaw04.InsnBack': WHATEVER THE INPUT: true; the input reads as it did. -/
def insnBackSpec : ChangeSpec := { name := "insnBack", fn := fun _ => fun
  | [d1, d2, d3, d4] => { results := [.lit (.bool true)], args := [d1, d2, d3, d4] }
  | _ => none }
def insnBackRow : OpenClaim := { program := "ytillcbmjpcbpaaadoor", sum := "25d78b851152a88cd5b0244f469d233c5e2a38cb9d3667ee7ced95801f87e2d0", func := "aedicule/aediculelaw04.InsnBack", spec := "insnBack", inPlace := ["internal/abi.NoEscape"], named := ["aedicule/insn.used"], apart := false, laid := [("aedicule/insn.used", laid_aedicule_insn_used)] }
def InsnBackSaid : Prop := insnBackRow.holds Tryd.pinned (OpenSpec.ofChange insnBackSpec)

/-- ITS FALSE NEIGHBOUR: 'it returns false'. Refute it at one input. -/
def insnBackWrong : ChangeSpec := { name := "insnBack", fn := fun _ => fun
  | [d1, d2, d3, d4] => { results := [.lit (.bool false)], args := [d1, d2, d3, d4] }
  | _ => none }
def InsnBackWrongFalsely : Prop := insnBackRow.holds Tryd.pinned (OpenSpec.ofChange insnBackWrong)

/- THE SECOND FORM. 'bulk': how many values and letters a reading holds, each counted each time it is reached (what is shared counts as often as it is met; a slice's spare places count too). A statement '..UptoSaid' is the law's where the arguments, and the package variables that the reading takes, are together of bulk at most 1048576: NARROWER than '..Said'. Prove '..Said' where nothing that the law and all that it calls make is longer than what came in: it says more and counts as full. Else prove '..UptoSaid'. A law counts once. -/
mutual
def uptoBulk {H : Type} : DataW H → Nat
  | .lit (.string bytes) => bytes.length + 1
  | .lit _ => 1
  | .nil => 1
  | .ptr d => uptoBulk d + 1
  | .slice elems spare => uptoBulkAll elems + uptoBulkAll spare + 1
  | .agg parts => uptoBulkAll parts + 1
  | .iface _ d => uptoBulk d + 1
  | .map entries => uptoBulkEntries entries + 1
  | .held _ => 1
def uptoBulkAll {H : Type} : List (DataW H) → Nat
  | [] => 0
  | d :: r => uptoBulk d + uptoBulkAll r
def uptoBulkEntries {H : Type} : List (Lit × DataW H) → Nat
  | [] => 0
  | x :: r => uptoBulkEntry x + uptoBulkEntries r
def uptoBulkEntry {H : Type} : Lit × DataW H → Nat
  | (.string bytes, d) => bytes.length + uptoBulk d + 1
  | (_, d) => uptoBulk d + 1
 end
def uptoSmall : (H : Type) → List (DataW H) → Bool := fun _ ds => decide (uptoBulkAll ds ≤ 1048576)
def OpenSpec.upto (s : _root_.Go.ChangeSpec) : _root_.Go.OpenSpec := { _root_.Go.OpenSpec.ofChange s with cond := some uptoSmall }

/-- 'aediculelaw04.InsnTells', WHERE WHAT IT READS IS OF BULK AT MOST 1048576: true; the input reads as it did. -/
def insnTellsUptoRow : OpenClaim := { program := "ytillcbmjpcbpaaadoor", sum := "25d78b851152a88cd5b0244f469d233c5e2a38cb9d3667ee7ced95801f87e2d0", func := "aedicule/aediculelaw04.InsnTells", spec := "insnTells", inPlace := ["internal/abi.NoEscape"], named := ["aedicule/insn.used"], apart := false, laid := [("aedicule/insn.used", laid_aedicule_insn_used)], narrowed := true }
def InsnTellsUptoSaid : Prop := insnTellsUptoRow.holds Tryd.pinned (OpenSpec.upto insnTellsSpec)

/-- 'aediculelaw04.InsnAll', WHERE WHAT IT READS IS OF BULK AT MOST 1048576: true; the input reads as it did. -/
def insnAllUptoRow : OpenClaim := { program := "ytillcbmjpcbpaaadoor", sum := "25d78b851152a88cd5b0244f469d233c5e2a38cb9d3667ee7ced95801f87e2d0", func := "aedicule/aediculelaw04.InsnAll", spec := "insnAll", inPlace := ["internal/abi.NoEscape"], named := ["aedicule/insn.used"], apart := false, laid := [("aedicule/insn.used", laid_aedicule_insn_used)], narrowed := true }
def InsnAllUptoSaid : Prop := insnAllUptoRow.holds Tryd.pinned (OpenSpec.upto insnAllSpec)

/-- 'aediculelaw04.InsnBack', WHERE WHAT IT READS IS OF BULK AT MOST 1048576: true; the input reads as it did. -/
def insnBackUptoRow : OpenClaim := { program := "ytillcbmjpcbpaaadoor", sum := "25d78b851152a88cd5b0244f469d233c5e2a38cb9d3667ee7ced95801f87e2d0", func := "aedicule/aediculelaw04.InsnBack", spec := "insnBack", inPlace := ["internal/abi.NoEscape"], named := ["aedicule/insn.used"], apart := false, laid := [("aedicule/insn.used", laid_aedicule_insn_used)], narrowed := true }
def InsnBackUptoSaid : Prop := insnBackUptoRow.holds Tryd.pinned (OpenSpec.upto insnBackSpec)

end Rows
end Go.Proofs.YtillcbmjpcbpaaaDoor
