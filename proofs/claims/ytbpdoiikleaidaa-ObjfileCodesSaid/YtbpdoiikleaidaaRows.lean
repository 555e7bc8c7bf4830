/-
  No cell of these rows narrows 'for every input' (looked for: loops, veiled, ifaces, maps, wideKeys, modest, calm, conditions, laid).
  DERIVED. THE GIVEN ROWS OF THIS SEAT. 3 by the template 'for every input the law returns true; each argument reads behind the call as it read before'; 0 by the template 'total and deterministic' (their statements: YtbpdoiikleaidaaTotals.lean).
  GIVEN WITH THE SEED: the statements are not yours to turn. If you find one false, say at which input.
  Laid BY PROGRAM, IN A SANDBOX (cutbox-rows.mjs): the forced cells as the released guide's own fill.sh prints them over the translation bee162711b6d533f… (all of the seat's roots in one cut). By AI agents, Wed Nov 11 2026. No macro, syntax, notation, axiom, sorry.
-/
import Derived.Test.YtbpdoiikleaidaaChecked
import GoSem.Claim
import GoSem.ClaimJoined
import GoSem.ClaimMapViews
import Derived.JoinedTies
import Derived.KernelRfl
namespace Go.Proofs.Ytbpdoiikleaidaa
/- THE CELL 'sum', in the pinned program and in every row, IS THE sha256 OF THE DUMP (.gsa) THAT YtbpdoiikleaidaaProg.lean LOADS. Nothing in Lean hashes anything: it is a label: what it is worth is what the hold of that sum in a sandbox is worth. -/
noncomputable def Try.pinned : Pinned := { name := "ytbpdoiikleaidaa", sum := "bee162711b6d533f5dcc7993afef1bf4749fd4edbc2f4bee8007a3c83697ecc3", checked := Try.checked }
namespace Rows
def none {H : Type} : Left H := { results := [], args := [] }

/-- 'aediculelaw09.ObjfileCodes': WHATEVER THE INPUT: true; the input reads as it did. -/
def objfileCodesSpec : ChangeSpec := { name := "objfileCodes", fn := fun _ => fun
  | [d1, d2] => { results := [.lit (.bool true)], args := [d1, d2] }
  | _ => none }
def objfileCodesRow : OpenClaim := { program := "ytbpdoiikleaidaa", sum := "bee162711b6d533f5dcc7993afef1bf4749fd4edbc2f4bee8007a3c83697ecc3", func := "aedicule/aediculelaw09.ObjfileCodes", spec := "objfileCodes", inPlace := ["internal/abi.NoEscape"], unfollowed := true, recurses := true, apart := false }
def ObjfileCodesSaid : Prop := objfileCodesRow.holds Try.pinned (OpenSpec.ofChange objfileCodesSpec)

/-- ITS FALSE NEIGHBOUR: 'it returns false'. Refute it at one input. -/
def objfileCodesWrong : ChangeSpec := { name := "objfileCodes", fn := fun _ => fun
  | [d1, d2] => { results := [.lit (.bool false)], args := [d1, d2] }
  | _ => none }
def ObjfileCodesWrongFalsely : Prop := objfileCodesRow.holds Try.pinned (OpenSpec.ofChange objfileCodesWrong)

/-- 'aediculelaw09.ObjfileAll': WHATEVER THE INPUT: true; the input reads as it did. -/
def objfileAllSpec : ChangeSpec := { name := "objfileAll", fn := fun _ => fun
  | [d] => { results := [.lit (.bool true)], args := [d] }
  | _ => none }
def objfileAllRow : OpenClaim := { program := "ytbpdoiikleaidaa", sum := "bee162711b6d533f5dcc7993afef1bf4749fd4edbc2f4bee8007a3c83697ecc3", func := "aedicule/aediculelaw09.ObjfileAll", spec := "objfileAll", inPlace := ["internal/abi.NoEscape"], unfollowed := true, recurses := true, apart := false }
def ObjfileAllSaid : Prop := objfileAllRow.holds Try.pinned (OpenSpec.ofChange objfileAllSpec)

/-- ITS FALSE NEIGHBOUR: 'it returns false'. Refute it at one input. -/
def objfileAllWrong : ChangeSpec := { name := "objfileAll", fn := fun _ => fun
  | [d] => { results := [.lit (.bool false)], args := [d] }
  | _ => none }
def ObjfileAllWrongFalsely : Prop := objfileAllRow.holds Try.pinned (OpenSpec.ofChange objfileAllWrong)

/-- 'aediculelaw09.ObjfileBack': WHATEVER THE INPUT: true; the input reads as it did. -/
def objfileBackSpec : ChangeSpec := { name := "objfileBack", fn := fun _ => fun
  | [d1, d2, d3] => { results := [.lit (.bool true)], args := [d1, d2, d3] }
  | _ => none }
def objfileBackRow : OpenClaim := { program := "ytbpdoiikleaidaa", sum := "bee162711b6d533f5dcc7993afef1bf4749fd4edbc2f4bee8007a3c83697ecc3", func := "aedicule/aediculelaw09.ObjfileBack", spec := "objfileBack", inPlace := ["internal/abi.NoEscape"], unfollowed := true, recurses := true, apart := false }
def ObjfileBackSaid : Prop := objfileBackRow.holds Try.pinned (OpenSpec.ofChange objfileBackSpec)

/-- ITS FALSE NEIGHBOUR: 'it returns false'. Refute it at one input. -/
def objfileBackWrong : ChangeSpec := { name := "objfileBack", fn := fun _ => fun
  | [d1, d2, d3] => { results := [.lit (.bool false)], args := [d1, d2, d3] }
  | _ => none }
def ObjfileBackWrongFalsely : Prop := objfileBackRow.holds Try.pinned (OpenSpec.ofChange objfileBackWrong)

/- THE SECOND FORM. 'bulk': how many values and letters a reading holds, each counted each time it is reached (what is shared counts as often as it is met; a slice's spare places count too). A statement '..UptoSaid' is the law's where the arguments, and the package variables that the reading takes, are together of bulk at most 1048576: NARROWER than '..Said'. Prove '..Said' where nothing that the law and all that it calls make is longer than what came in: it says more and counts as full. Else prove '..UptoSaid'. A law counts once. -/
mutual
def uptoBulk {H : Type} : DataW H → Nat
  | .lit (.string bytes) => bytes.length + 1
  | .lit _ => 1
  | .nil => 1
  | .ptr d => uptoBulk d + 1
  | .slice elems spare => uptoBulkAll elems + uptoBulkAll spare + 1
  | .agg parts => uptoBulkAll parts + 1
  | .iface _ d => uptoBulk d + 1
  | .map entries => uptoBulkEntries entries + 1
  | .held _ => 1
def uptoBulkAll {H : Type} : List (DataW H) → Nat
  | [] => 0
  | d :: r => uptoBulk d + uptoBulkAll r
def uptoBulkEntries {H : Type} : List (Lit × DataW H) → Nat
  | [] => 0
  | x :: r => uptoBulkEntry x + uptoBulkEntries r
def uptoBulkEntry {H : Type} : Lit × DataW H → Nat
  | (.string bytes, d) => bytes.length + uptoBulk d + 1
  | (_, d) => uptoBulk d + 1
 end
def uptoSmall : (H : Type) → List (DataW H) → Bool := fun _ ds => decide (uptoBulkAll ds ≤ 1048576)
def OpenSpec.upto (s : _root_.Go.ChangeSpec) : _root_.Go.OpenSpec := { _root_.Go.OpenSpec.ofChange s with cond := some uptoSmall }

/-- 'aediculelaw09.ObjfileCodes', WHERE WHAT IT READS IS OF BULK AT MOST 1048576: true; the input reads as it did. -/
def objfileCodesUptoRow : OpenClaim := { program := "ytbpdoiikleaidaa", sum := "bee162711b6d533f5dcc7993afef1bf4749fd4edbc2f4bee8007a3c83697ecc3", func := "aedicule/aediculelaw09.ObjfileCodes", spec := "objfileCodes", inPlace := ["internal/abi.NoEscape"], unfollowed := true, recurses := true, apart := false, narrowed := true }
def ObjfileCodesUptoSaid : Prop := objfileCodesUptoRow.holds Try.pinned (OpenSpec.upto objfileCodesSpec)

/-- 'aediculelaw09.ObjfileAll', WHERE WHAT IT READS IS OF BULK AT MOST 1048576: true; the input reads as it did. -/
def objfileAllUptoRow : OpenClaim := { program := "ytbpdoiikleaidaa", sum := "bee162711b6d533f5dcc7993afef1bf4749fd4edbc2f4bee8007a3c83697ecc3", func := "aedicule/aediculelaw09.ObjfileAll", spec := "objfileAll", inPlace := ["internal/abi.NoEscape"], unfollowed := true, recurses := true, apart := false, narrowed := true }
def ObjfileAllUptoSaid : Prop := objfileAllUptoRow.holds Try.pinned (OpenSpec.upto objfileAllSpec)

/-- 'aediculelaw09.ObjfileBack', WHERE WHAT IT READS IS OF BULK AT MOST 1048576: true; the input reads as it did. -/
def objfileBackUptoRow : OpenClaim := { program := "ytbpdoiikleaidaa", sum := "bee162711b6d533f5dcc7993afef1bf4749fd4edbc2f4bee8007a3c83697ecc3", func := "aedicule/aediculelaw09.ObjfileBack", spec := "objfileBack", inPlace := ["internal/abi.NoEscape"], unfollowed := true, recurses := true, apart := false, narrowed := true }
def ObjfileBackUptoSaid : Prop := objfileBackUptoRow.holds Try.pinned (OpenSpec.upto objfileBackSpec)

end Rows
end Go.Proofs.Ytbpdoiikleaidaa
