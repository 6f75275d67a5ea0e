/-
  No cell of these rows narrows 'for every input' (looked for: loops, veiled, ifaces, maps, wideKeys, modest, calm, conditions, laid).
  DERIVED. THE GIVEN ROWS OF THIS SEAT. 2 by the template 'for every input the law returns true; each argument reads behind the call as it read before'; 0 by the template 'total and deterministic' (their statements: YthflkfpbchgeoaaTotals.lean).
  GIVEN WITH THE SEED: the statements are not yours to turn. If you find one false, say at which input.
  Laid BY PROGRAM, IN A SANDBOX (cutbox-rows.mjs): the forced cells as the released guide's own fill.sh prints them over the translation 138633f5dbd94628… (all of the seat's roots in one cut). By AI agents, Wed Nov 11 2026. No macro, syntax, notation, axiom, sorry.
-/
import Derived.Test.YthflkfpbchgeoaaChecked
import GoSem.Claim
import GoSem.ClaimJoined
import GoSem.ClaimMapViews
import Derived.JoinedTies
import Derived.KernelRfl
namespace Go.Proofs.Ythflkfpbchgeoaa
/- THE CELL 'sum', in the pinned program and in every row, IS THE sha256 OF THE DUMP (.gsa) THAT YthflkfpbchgeoaaProg.lean LOADS. Nothing in Lean hashes anything: it is a label: what it is worth is what the hold of that sum in a sandbox is worth. -/
noncomputable def Try.pinned : Pinned := { name := "ythflkfpbchgeoaa", sum := "138633f5dbd946287a43bd64b1023b83541e2344979e78853a9a687629481dca", checked := Try.checked }
namespace Rows
def none {H : Type} : Left H := { results := [], args := [] }

/-- 'laws.FnTypeNames': WHATEVER THE INPUT: true; the input reads as it did. -/
def fnTypeNamesSpec : ChangeSpec := { name := "fnTypeNames", fn := fun _ => fun
  | [d] => { results := [.lit (.bool true)], args := [d] }
  | _ => none }
def fnTypeNamesRow : OpenClaim := { program := "ythflkfpbchgeoaa", sum := "138633f5dbd946287a43bd64b1023b83541e2344979e78853a9a687629481dca", func := "loop.example/modlink/laws.FnTypeNames", spec := "fnTypeNames", unfollowed := true, recurses := true, plainKeys := false, apart := false }
def FnTypeNamesSaid : Prop := fnTypeNamesRow.holds Try.pinned (OpenSpec.ofChange fnTypeNamesSpec)

/-- ITS FALSE NEIGHBOUR: 'it returns false'. Refute it at one input. -/
def fnTypeNamesWrong : ChangeSpec := { name := "fnTypeNames", fn := fun _ => fun
  | [d] => { results := [.lit (.bool false)], args := [d] }
  | _ => none }
def FnTypeNamesWrongFalsely : Prop := fnTypeNamesRow.holds Try.pinned (OpenSpec.ofChange fnTypeNamesWrong)

/-- 'laws.FnTypeParts': WHATEVER THE INPUT: true; the input reads as it did. -/
def fnTypePartsSpec : ChangeSpec := { name := "fnTypeParts", fn := fun _ => fun
  | [d] => { results := [.lit (.bool true)], args := [d] }
  | _ => none }
def fnTypePartsRow : OpenClaim := { program := "ythflkfpbchgeoaa", sum := "138633f5dbd946287a43bd64b1023b83541e2344979e78853a9a687629481dca", func := "loop.example/modlink/laws.FnTypeParts", spec := "fnTypeParts", unfollowed := true, recurses := true, plainKeys := false, apart := false }
def FnTypePartsSaid : Prop := fnTypePartsRow.holds Try.pinned (OpenSpec.ofChange fnTypePartsSpec)

/-- ITS FALSE NEIGHBOUR: 'it returns false'. Refute it at one input. -/
def fnTypePartsWrong : ChangeSpec := { name := "fnTypeParts", fn := fun _ => fun
  | [d] => { results := [.lit (.bool false)], args := [d] }
  | _ => none }
def FnTypePartsWrongFalsely : Prop := fnTypePartsRow.holds Try.pinned (OpenSpec.ofChange fnTypePartsWrong)

/- THE SECOND FORM. 'bulk': how many values and letters a reading holds, each counted each time it is reached (what is shared counts as often as it is met; a slice's spare places count too). A statement '..UptoSaid' is the law's where the arguments, and the package variables that the reading takes, are together of bulk at most 1048576: NARROWER than '..Said'. Prove '..Said' where nothing that the law and all that it calls make is longer than what came in: it says more and counts as full. Else prove '..UptoSaid'. A law counts once. -/
mutual
def uptoBulk {H : Type} : DataW H → Nat
  | .lit (.string bytes) => bytes.length + 1
  | .lit _ => 1
  | .nil => 1
  | .ptr d => uptoBulk d + 1
  | .slice elems spare => uptoBulkAll elems + uptoBulkAll spare + 1
  | .agg parts => uptoBulkAll parts + 1
  | .iface _ d => uptoBulk d + 1
  | .map entries => uptoBulkEntries entries + 1
  | .held _ => 1
def uptoBulkAll {H : Type} : List (DataW H) → Nat
  | [] => 0
  | d :: r => uptoBulk d + uptoBulkAll r
def uptoBulkEntries {H : Type} : List (Lit × DataW H) → Nat
  | [] => 0
  | x :: r => uptoBulkEntry x + uptoBulkEntries r
def uptoBulkEntry {H : Type} : Lit × DataW H → Nat
  | (.string bytes, d) => bytes.length + uptoBulk d + 1
  | (_, d) => uptoBulk d + 1
 end
def uptoSmall : (H : Type) → List (DataW H) → Bool := fun _ ds => decide (uptoBulkAll ds ≤ 1048576)
def OpenSpec.upto (s : _root_.Go.ChangeSpec) : _root_.Go.OpenSpec := { _root_.Go.OpenSpec.ofChange s with cond := some uptoSmall }

/-- 'laws.FnTypeNames', WHERE WHAT IT READS IS OF BULK AT MOST 1048576: true; the input reads as it did. -/
def fnTypeNamesUptoRow : OpenClaim := { program := "ythflkfpbchgeoaa", sum := "138633f5dbd946287a43bd64b1023b83541e2344979e78853a9a687629481dca", func := "loop.example/modlink/laws.FnTypeNames", spec := "fnTypeNames", unfollowed := true, recurses := true, plainKeys := false, apart := false, narrowed := true }
def FnTypeNamesUptoSaid : Prop := fnTypeNamesUptoRow.holds Try.pinned (OpenSpec.upto fnTypeNamesSpec)

/-- 'laws.FnTypeParts', WHERE WHAT IT READS IS OF BULK AT MOST 1048576: true; the input reads as it did. -/
def fnTypePartsUptoRow : OpenClaim := { program := "ythflkfpbchgeoaa", sum := "138633f5dbd946287a43bd64b1023b83541e2344979e78853a9a687629481dca", func := "loop.example/modlink/laws.FnTypeParts", spec := "fnTypeParts", unfollowed := true, recurses := true, plainKeys := false, apart := false, narrowed := true }
def FnTypePartsUptoSaid : Prop := fnTypePartsUptoRow.holds Try.pinned (OpenSpec.upto fnTypePartsSpec)

end Rows
end Go.Proofs.Ythflkfpbchgeoaa
