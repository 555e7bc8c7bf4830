/-
  No cell of these rows narrows 'for every input' (looked for: loops, veiled, ifaces, maps, wideKeys, modest, calm, conditions, laid).
  DERIVED. THE GIVEN ROWS OF THIS SEAT. 3 by the template 'for every input the law returns true; each argument reads behind the call as it read before'; 0 by the template 'total and deterministic' (their statements: YtiadggeheiadiaaTotals.lean).
  GIVEN WITH THE SEED: the statements are not yours to turn. If you find one false, say at which input.
  Laid BY PROGRAM, IN A SANDBOX (cutbox-rows.mjs): the forced cells as the released guide's own fill.sh prints them over the translation 65ba20446e643303… (all of the seat's roots in one cut). By AI agents, Wed Nov 11 2026. No macro, syntax, notation, axiom, sorry.
-/
import Derived.Test.YtiadggeheiadiaaChecked
import GoSem.Claim
import GoSem.ClaimJoined
import GoSem.ClaimMapViews
import Derived.JoinedTies
import Derived.KernelRfl
namespace Go.Proofs.Ytiadggeheiadiaa
/- THE CELL 'sum', in the pinned program and in every row, IS THE sha256 OF THE DUMP (.gsa) THAT YtiadggeheiadiaaProg.lean LOADS. Nothing in Lean hashes anything: it is a label: what it is worth is what the hold of that sum in a sandbox is worth. -/
noncomputable def Try.pinned : Pinned := { name := "ytiadggeheiadiaa", sum := "65ba20446e643303f4e2d81ae8e11b8566eb7a319ca563889e800a58682c1fbd", checked := Try.checked }
namespace Rows
def none {H : Type} : Left H := { results := [], args := [] }

/-- 'aediculelaw08.ObjMay': WHATEVER THE INPUT: true; the input reads as it did. -/
def objMaySpec : ChangeSpec := { name := "objMay", fn := fun _ => fun
  | [d1, d2, d3] => { results := [.lit (.bool true)], args := [d1, d2, d3] }
  | _ => none }
def objMayRow : OpenClaim := { program := "ytiadggeheiadiaa", sum := "65ba20446e643303f4e2d81ae8e11b8566eb7a319ca563889e800a58682c1fbd", func := "aedicule/aediculelaw08.ObjMay", spec := "objMay", recurses := true, apart := false }
def ObjMaySaid : Prop := objMayRow.holds Try.pinned (OpenSpec.ofChange objMaySpec)

/-- ITS FALSE NEIGHBOUR: 'it returns false'. Refute it at one input. -/
def objMayWrong : ChangeSpec := { name := "objMay", fn := fun _ => fun
  | [d1, d2, d3] => { results := [.lit (.bool false)], args := [d1, d2, d3] }
  | _ => none }
def ObjMayWrongFalsely : Prop := objMayRow.holds Try.pinned (OpenSpec.ofChange objMayWrong)

/-- 'aediculelaw08.ObjNames': WHATEVER THE INPUT: true; the input reads as it did. -/
def objNamesSpec : ChangeSpec := { name := "objNames", fn := fun _ => fun
  | [d] => { results := [.lit (.bool true)], args := [d] }
  | _ => none }
def objNamesRow : OpenClaim := { program := "ytiadggeheiadiaa", sum := "65ba20446e643303f4e2d81ae8e11b8566eb7a319ca563889e800a58682c1fbd", func := "aedicule/aediculelaw08.ObjNames", spec := "objNames", recurses := true, apart := false }
def ObjNamesSaid : Prop := objNamesRow.holds Try.pinned (OpenSpec.ofChange objNamesSpec)

/-- ITS FALSE NEIGHBOUR: 'it returns false'. Refute it at one input. -/
def objNamesWrong : ChangeSpec := { name := "objNames", fn := fun _ => fun
  | [d] => { results := [.lit (.bool false)], args := [d] }
  | _ => none }
def ObjNamesWrongFalsely : Prop := objNamesRow.holds Try.pinned (OpenSpec.ofChange objNamesWrong)

/-- 'aediculelaw08.ObjFinds': WHATEVER THE INPUT: true; the input reads as it did. -/
def objFindsSpec : ChangeSpec := { name := "objFinds", fn := fun _ => fun
  | [d] => { results := [.lit (.bool true)], args := [d] }
  | _ => none }
def objFindsRow : OpenClaim := { program := "ytiadggeheiadiaa", sum := "65ba20446e643303f4e2d81ae8e11b8566eb7a319ca563889e800a58682c1fbd", func := "aedicule/aediculelaw08.ObjFinds", spec := "objFinds", recurses := true, apart := false }
def ObjFindsSaid : Prop := objFindsRow.holds Try.pinned (OpenSpec.ofChange objFindsSpec)

/-- ITS FALSE NEIGHBOUR: 'it returns false'. Refute it at one input. -/
def objFindsWrong : ChangeSpec := { name := "objFinds", fn := fun _ => fun
  | [d] => { results := [.lit (.bool false)], args := [d] }
  | _ => none }
def ObjFindsWrongFalsely : Prop := objFindsRow.holds Try.pinned (OpenSpec.ofChange objFindsWrong)

/- THE SECOND FORM. 'bulk': how many values and letters a reading holds, each counted each time it is reached (what is shared counts as often as it is met; a slice's spare places count too). A statement '..UptoSaid' is the law's where the arguments, and the package variables that the reading takes, are together of bulk at most 1048576: NARROWER than '..Said'. Prove '..Said' where nothing that the law and all that it calls make is longer than what came in: it says more and counts as full. Else prove '..UptoSaid'. A law counts once. -/
mutual
def uptoBulk {H : Type} : DataW H → Nat
  | .lit (.string bytes) => bytes.length + 1
  | .lit _ => 1
  | .nil => 1
  | .ptr d => uptoBulk d + 1
  | .slice elems spare => uptoBulkAll elems + uptoBulkAll spare + 1
  | .agg parts => uptoBulkAll parts + 1
  | .iface _ d => uptoBulk d + 1
  | .map entries => uptoBulkEntries entries + 1
  | .held _ => 1
def uptoBulkAll {H : Type} : List (DataW H) → Nat
  | [] => 0
  | d :: r => uptoBulk d + uptoBulkAll r
def uptoBulkEntries {H : Type} : List (Lit × DataW H) → Nat
  | [] => 0
  | x :: r => uptoBulkEntry x + uptoBulkEntries r
def uptoBulkEntry {H : Type} : Lit × DataW H → Nat
  | (.string bytes, d) => bytes.length + uptoBulk d + 1
  | (_, d) => uptoBulk d + 1
 end
def uptoSmall : (H : Type) → List (DataW H) → Bool := fun _ ds => decide (uptoBulkAll ds ≤ 1048576)
def OpenSpec.upto (s : _root_.Go.ChangeSpec) : _root_.Go.OpenSpec := { _root_.Go.OpenSpec.ofChange s with cond := some uptoSmall }

/-- 'aediculelaw08.ObjMay', WHERE WHAT IT READS IS OF BULK AT MOST 1048576: true; the input reads as it did. -/
def objMayUptoRow : OpenClaim := { program := "ytiadggeheiadiaa", sum := "65ba20446e643303f4e2d81ae8e11b8566eb7a319ca563889e800a58682c1fbd", func := "aedicule/aediculelaw08.ObjMay", spec := "objMay", recurses := true, apart := false, narrowed := true }
def ObjMayUptoSaid : Prop := objMayUptoRow.holds Try.pinned (OpenSpec.upto objMaySpec)

/-- 'aediculelaw08.ObjNames', WHERE WHAT IT READS IS OF BULK AT MOST 1048576: true; the input reads as it did. -/
def objNamesUptoRow : OpenClaim := { program := "ytiadggeheiadiaa", sum := "65ba20446e643303f4e2d81ae8e11b8566eb7a319ca563889e800a58682c1fbd", func := "aedicule/aediculelaw08.ObjNames", spec := "objNames", recurses := true, apart := false, narrowed := true }
def ObjNamesUptoSaid : Prop := objNamesUptoRow.holds Try.pinned (OpenSpec.upto objNamesSpec)

/-- 'aediculelaw08.ObjFinds', WHERE WHAT IT READS IS OF BULK AT MOST 1048576: true; the input reads as it did. -/
def objFindsUptoRow : OpenClaim := { program := "ytiadggeheiadiaa", sum := "65ba20446e643303f4e2d81ae8e11b8566eb7a319ca563889e800a58682c1fbd", func := "aedicule/aediculelaw08.ObjFinds", spec := "objFinds", recurses := true, apart := false, narrowed := true }
def ObjFindsUptoSaid : Prop := objFindsUptoRow.holds Try.pinned (OpenSpec.upto objFindsSpec)

end Rows
end Go.Proofs.Ytiadggeheiadiaa
