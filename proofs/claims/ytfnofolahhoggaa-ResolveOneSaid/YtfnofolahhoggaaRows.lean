/-
  No cell of these rows narrows 'for every input' (looked for: loops, veiled, ifaces, maps, wideKeys, modest, calm, conditions, laid).
  DERIVED. THE GIVEN ROWS OF THIS SEAT. 3 by the template 'for every input the law returns true; each argument reads behind the call as it read before'; 0 by the template 'total and deterministic' (their statements: YtfnofolahhoggaaTotals.lean).
  GIVEN WITH THE SEED: the statements are not yours to turn. If you find one false, say at which input.
  Laid BY PROGRAM, IN A SANDBOX (cutbox-rows.mjs): the forced cells as the released guide's own fill.sh prints them over the translation 6bf1f1d395d1a48c… (all of the seat's roots in one cut). By AI agents, Wed Nov 11 2026. No macro, syntax, notation, axiom, sorry.
-/
import Derived.Test.YtfnofolahhoggaaChecked
import GoSem.Claim
import GoSem.ClaimJoined
import GoSem.ClaimMapViews
import Derived.JoinedTies
import Derived.KernelRfl
namespace Go.Proofs.Ytfnofolahhoggaa
/- THE CELL 'sum', in the pinned program and in every row, IS THE sha256 OF THE DUMP (.gsa) THAT YtfnofolahhoggaaProg.lean LOADS. Nothing in Lean hashes anything: it is a label: what it is worth is what the hold of that sum in a sandbox is worth. -/
noncomputable def Try.pinned : Pinned := { name := "ytfnofolahhoggaa", sum := "6bf1f1d395d1a48cc6cc78183cf161fde01610adbf82d818417551eac06a8a16", checked := Try.checked }
namespace Rows
def none {H : Type} : Left H := { results := [], args := [] }

/-- 'aediculelaw12.ResolveTells': WHATEVER THE INPUT: true; the input reads as it did. -/
def resolveTellsSpec : ChangeSpec := { name := "resolveTells", fn := fun _ => fun
  | [d1, d2, d3, d4] => { results := [.lit (.bool true)], args := [d1, d2, d3, d4] }
  | _ => none }
def resolveTellsRow : OpenClaim := { program := "ytfnofolahhoggaa", sum := "6bf1f1d395d1a48cc6cc78183cf161fde01610adbf82d818417551eac06a8a16", func := "aedicule/aediculelaw12.ResolveTells", spec := "resolveTells", unfollowed := true, recurses := true, apart := false }
def ResolveTellsSaid : Prop := resolveTellsRow.holds Try.pinned (OpenSpec.ofChange resolveTellsSpec)

/-- ITS FALSE NEIGHBOUR: 'it returns false'. Refute it at one input. -/
def resolveTellsWrong : ChangeSpec := { name := "resolveTells", fn := fun _ => fun
  | [d1, d2, d3, d4] => { results := [.lit (.bool false)], args := [d1, d2, d3, d4] }
  | _ => none }
def ResolveTellsWrongFalsely : Prop := resolveTellsRow.holds Try.pinned (OpenSpec.ofChange resolveTellsWrong)

/-- 'aediculelaw12.ResolveOne': WHATEVER THE INPUT: true; the input reads as it did. -/
def resolveOneSpec : ChangeSpec := { name := "resolveOne", fn := fun _ => fun
  | [d1, d2, d3] => { results := [.lit (.bool true)], args := [d1, d2, d3] }
  | _ => none }
def resolveOneRow : OpenClaim := { program := "ytfnofolahhoggaa", sum := "6bf1f1d395d1a48cc6cc78183cf161fde01610adbf82d818417551eac06a8a16", func := "aedicule/aediculelaw12.ResolveOne", spec := "resolveOne", unfollowed := true, recurses := true, apart := false }
def ResolveOneSaid : Prop := resolveOneRow.holds Try.pinned (OpenSpec.ofChange resolveOneSpec)

/-- ITS FALSE NEIGHBOUR: 'it returns false'. Refute it at one input. -/
def resolveOneWrong : ChangeSpec := { name := "resolveOne", fn := fun _ => fun
  | [d1, d2, d3] => { results := [.lit (.bool false)], args := [d1, d2, d3] }
  | _ => none }
def ResolveOneWrongFalsely : Prop := resolveOneRow.holds Try.pinned (OpenSpec.ofChange resolveOneWrong)

/-- 'aediculelaw12.ResolveApart': WHATEVER THE INPUT: true; the input reads as it did. -/
def resolveApartSpec : ChangeSpec := { name := "resolveApart", fn := fun _ => fun
  | [d1, d2, d3, d4] => { results := [.lit (.bool true)], args := [d1, d2, d3, d4] }
  | _ => none }
def resolveApartRow : OpenClaim := { program := "ytfnofolahhoggaa", sum := "6bf1f1d395d1a48cc6cc78183cf161fde01610adbf82d818417551eac06a8a16", func := "aedicule/aediculelaw12.ResolveApart", spec := "resolveApart", unfollowed := true, recurses := true, apart := false }
def ResolveApartSaid : Prop := resolveApartRow.holds Try.pinned (OpenSpec.ofChange resolveApartSpec)

/-- ITS FALSE NEIGHBOUR: 'it returns false'. Refute it at one input. -/
def resolveApartWrong : ChangeSpec := { name := "resolveApart", fn := fun _ => fun
  | [d1, d2, d3, d4] => { results := [.lit (.bool false)], args := [d1, d2, d3, d4] }
  | _ => none }
def ResolveApartWrongFalsely : Prop := resolveApartRow.holds Try.pinned (OpenSpec.ofChange resolveApartWrong)

/- THE SECOND FORM. 'bulk': how many values and letters a reading holds, each counted each time it is reached (what is shared counts as often as it is met; a slice's spare places count too). A statement '..UptoSaid' is the law's where the arguments, and the package variables that the reading takes, are together of bulk at most 1048576: NARROWER than '..Said'. Prove '..Said' where nothing that the law and all that it calls make is longer than what came in: it says more and counts as full. Else prove '..UptoSaid'. A law counts once. -/
mutual
def uptoBulk {H : Type} : DataW H → Nat
  | .lit (.string bytes) => bytes.length + 1
  | .lit _ => 1
  | .nil => 1
  | .ptr d => uptoBulk d + 1
  | .slice elems spare => uptoBulkAll elems + uptoBulkAll spare + 1
  | .agg parts => uptoBulkAll parts + 1
  | .iface _ d => uptoBulk d + 1
  | .map entries => uptoBulkEntries entries + 1
  | .held _ => 1
def uptoBulkAll {H : Type} : List (DataW H) → Nat
  | [] => 0
  | d :: r => uptoBulk d + uptoBulkAll r
def uptoBulkEntries {H : Type} : List (Lit × DataW H) → Nat
  | [] => 0
  | x :: r => uptoBulkEntry x + uptoBulkEntries r
def uptoBulkEntry {H : Type} : Lit × DataW H → Nat
  | (.string bytes, d) => bytes.length + uptoBulk d + 1
  | (_, d) => uptoBulk d + 1
 end
def uptoSmall : (H : Type) → List (DataW H) → Bool := fun _ ds => decide (uptoBulkAll ds ≤ 1048576)
def OpenSpec.upto (s : _root_.Go.ChangeSpec) : _root_.Go.OpenSpec := { _root_.Go.OpenSpec.ofChange s with cond := some uptoSmall }

/-- 'aediculelaw12.ResolveTells', WHERE WHAT IT READS IS OF BULK AT MOST 1048576: true; the input reads as it did. -/
def resolveTellsUptoRow : OpenClaim := { program := "ytfnofolahhoggaa", sum := "6bf1f1d395d1a48cc6cc78183cf161fde01610adbf82d818417551eac06a8a16", func := "aedicule/aediculelaw12.ResolveTells", spec := "resolveTells", unfollowed := true, recurses := true, apart := false, narrowed := true }
def ResolveTellsUptoSaid : Prop := resolveTellsUptoRow.holds Try.pinned (OpenSpec.upto resolveTellsSpec)

/-- 'aediculelaw12.ResolveOne', WHERE WHAT IT READS IS OF BULK AT MOST 1048576: true; the input reads as it did. -/
def resolveOneUptoRow : OpenClaim := { program := "ytfnofolahhoggaa", sum := "6bf1f1d395d1a48cc6cc78183cf161fde01610adbf82d818417551eac06a8a16", func := "aedicule/aediculelaw12.ResolveOne", spec := "resolveOne", unfollowed := true, recurses := true, apart := false, narrowed := true }
def ResolveOneUptoSaid : Prop := resolveOneUptoRow.holds Try.pinned (OpenSpec.upto resolveOneSpec)

/-- 'aediculelaw12.ResolveApart', WHERE WHAT IT READS IS OF BULK AT MOST 1048576: true; the input reads as it did. -/
def resolveApartUptoRow : OpenClaim := { program := "ytfnofolahhoggaa", sum := "6bf1f1d395d1a48cc6cc78183cf161fde01610adbf82d818417551eac06a8a16", func := "aedicule/aediculelaw12.ResolveApart", spec := "resolveApart", unfollowed := true, recurses := true, apart := false, narrowed := true }
def ResolveApartUptoSaid : Prop := resolveApartUptoRow.holds Try.pinned (OpenSpec.upto resolveApartSpec)

end Rows
end Go.Proofs.Ytfnofolahhoggaa
