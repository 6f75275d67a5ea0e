/-
  NARROWER THAN 'FOR EVERY INPUT', by the rows' own cells (each row's printed sentence says how): FnExactTypeValid: loops · FnExactTypeCount: loops · FnExactFormatType: loops.
  DERIVED. THE GIVEN ROWS OF THIS SEAT. 8 by the template 'for every input the law returns true; each argument reads behind the call as it read before'; 0 by the template 'total and deterministic' (their statements: YtlaeihadlnkmoaaTotals.lean).
  GIVEN WITH THE SEED: the statements are not yours to turn. If you find one false, say at which input.
  Laid BY PROGRAM, IN A SANDBOX (cutbox-rows.mjs): the forced cells as the released guide's own fill.sh prints them over the translation 4673a92fae7fac8c… (all of the seat's roots in one cut). By AI agents, Wed Nov 11 2026. No macro, syntax, notation, axiom, sorry.
-/
import Derived.Test.YtlaeihadlnkmoaaChecked
import GoSem.Claim
import GoSem.ClaimJoined
import GoSem.ClaimMapViews
import Derived.JoinedTies
import Derived.KernelRfl
namespace Go.Proofs.Ytlaeihadlnkmoaa
/- THE CELL 'sum', in the pinned program and in every row, IS THE sha256 OF THE DUMP (.gsa) THAT YtlaeihadlnkmoaaProg.lean LOADS. Nothing in Lean hashes anything: it is a label: what it is worth is what the hold of that sum in a sandbox is worth. -/
noncomputable def Try.pinned : Pinned := { name := "ytlaeihadlnkmoaa", sum := "4673a92fae7fac8ce9550e694a74462137a9d108322dd9349d8f6bff62db81c8", checked := Try.checked }
namespace Rows
def none {H : Type} : Left H := { results := [], args := [] }

/-- 'laws.FnExactTypeValid': WHATEVER THE INPUT: true; the input reads as it did. -/
def fnExactTypeValidSpec : ChangeSpec := { name := "fnExactTypeValid", fn := fun _ => fun
  | [d] => { results := [.lit (.bool true)], args := [d] }
  | _ => none }
def fnExactTypeValidRow : OpenClaim := { program := "ytlaeihadlnkmoaa", sum := "4673a92fae7fac8ce9550e694a74462137a9d108322dd9349d8f6bff62db81c8", func := "loop.example/modlink/laws.FnExactTypeValid", spec := "fnExactTypeValid", unfollowed := true, recurses := true, loops := true, plainKeys := false, apart := false }
def FnExactTypeValidSaid : Prop := fnExactTypeValidRow.holds Try.pinned (OpenSpec.ofChange fnExactTypeValidSpec)

/-- ITS FALSE NEIGHBOUR: 'it returns false'. Refute it at one input. -/
def fnExactTypeValidWrong : ChangeSpec := { name := "fnExactTypeValid", fn := fun _ => fun
  | [d] => { results := [.lit (.bool false)], args := [d] }
  | _ => none }
def FnExactTypeValidWrongFalsely : Prop := fnExactTypeValidRow.holds Try.pinned (OpenSpec.ofChange fnExactTypeValidWrong)

/-- 'laws.FnExactTypeCount': WHATEVER THE INPUT: true; the input reads as it did. -/
def fnExactTypeCountSpec : ChangeSpec := { name := "fnExactTypeCount", fn := fun _ => fun
  | [d] => { results := [.lit (.bool true)], args := [d] }
  | _ => none }
def fnExactTypeCountRow : OpenClaim := { program := "ytlaeihadlnkmoaa", sum := "4673a92fae7fac8ce9550e694a74462137a9d108322dd9349d8f6bff62db81c8", func := "loop.example/modlink/laws.FnExactTypeCount", spec := "fnExactTypeCount", unfollowed := true, recurses := true, loops := true, plainKeys := false, apart := false }
def FnExactTypeCountSaid : Prop := fnExactTypeCountRow.holds Try.pinned (OpenSpec.ofChange fnExactTypeCountSpec)

/-- ITS FALSE NEIGHBOUR: 'it returns false'. Refute it at one input. -/
def fnExactTypeCountWrong : ChangeSpec := { name := "fnExactTypeCount", fn := fun _ => fun
  | [d] => { results := [.lit (.bool false)], args := [d] }
  | _ => none }
def FnExactTypeCountWrongFalsely : Prop := fnExactTypeCountRow.holds Try.pinned (OpenSpec.ofChange fnExactTypeCountWrong)

/-- 'laws.FnNames': WHATEVER THE INPUT: true; the input reads as it did. -/
def fnNamesSpec : ChangeSpec := { name := "fnNames", fn := fun _ => fun
  | [d1, d2] => { results := [.lit (.bool true)], args := [d1, d2] }
  | _ => none }
def fnNamesRow : OpenClaim := { program := "ytlaeihadlnkmoaa", sum := "4673a92fae7fac8ce9550e694a74462137a9d108322dd9349d8f6bff62db81c8", func := "loop.example/modlink/laws.FnNames", spec := "fnNames", unfollowed := true, recurses := true, plainKeys := false, apart := false }
def FnNamesSaid : Prop := fnNamesRow.holds Try.pinned (OpenSpec.ofChange fnNamesSpec)

/-- ITS FALSE NEIGHBOUR: 'it returns false'. Refute it at one input. -/
def fnNamesWrong : ChangeSpec := { name := "fnNames", fn := fun _ => fun
  | [d1, d2] => { results := [.lit (.bool false)], args := [d1, d2] }
  | _ => none }
def FnNamesWrongFalsely : Prop := fnNamesRow.holds Try.pinned (OpenSpec.ofChange fnNamesWrong)

/-- 'laws.FnTypeCount': WHATEVER THE INPUT: true; the input reads as it did. -/
def fnTypeCountSpec : ChangeSpec := { name := "fnTypeCount", fn := fun _ => fun
  | [d] => { results := [.lit (.bool true)], args := [d] }
  | _ => none }
def fnTypeCountRow : OpenClaim := { program := "ytlaeihadlnkmoaa", sum := "4673a92fae7fac8ce9550e694a74462137a9d108322dd9349d8f6bff62db81c8", func := "loop.example/modlink/laws.FnTypeCount", spec := "fnTypeCount", unfollowed := true, recurses := true, plainKeys := false, apart := false }
def FnTypeCountSaid : Prop := fnTypeCountRow.holds Try.pinned (OpenSpec.ofChange fnTypeCountSpec)

/-- ITS FALSE NEIGHBOUR: 'it returns false'. Refute it at one input. -/
def fnTypeCountWrong : ChangeSpec := { name := "fnTypeCount", fn := fun _ => fun
  | [d] => { results := [.lit (.bool false)], args := [d] }
  | _ => none }
def FnTypeCountWrongFalsely : Prop := fnTypeCountRow.holds Try.pinned (OpenSpec.ofChange fnTypeCountWrong)

/-- 'laws.FnExactFormatType': WHATEVER THE INPUT: true; the input reads as it did. -/
def fnExactFormatTypeSpec : ChangeSpec := { name := "fnExactFormatType", fn := fun _ => fun
  | [d] => { results := [.lit (.bool true)], args := [d] }
  | _ => none }
def fnExactFormatTypeRow : OpenClaim := { program := "ytlaeihadlnkmoaa", sum := "4673a92fae7fac8ce9550e694a74462137a9d108322dd9349d8f6bff62db81c8", func := "loop.example/modlink/laws.FnExactFormatType", spec := "fnExactFormatType", unfollowed := true, recurses := true, loops := true, plainKeys := false, apart := false }
def FnExactFormatTypeSaid : Prop := fnExactFormatTypeRow.holds Try.pinned (OpenSpec.ofChange fnExactFormatTypeSpec)

/-- ITS FALSE NEIGHBOUR: 'it returns false'. Refute it at one input. -/
def fnExactFormatTypeWrong : ChangeSpec := { name := "fnExactFormatType", fn := fun _ => fun
  | [d] => { results := [.lit (.bool false)], args := [d] }
  | _ => none }
def FnExactFormatTypeWrongFalsely : Prop := fnExactFormatTypeRow.holds Try.pinned (OpenSpec.ofChange fnExactFormatTypeWrong)

/-- 'laws.FnTypeParts': WHATEVER THE INPUT: true; the input reads as it did. -/
def fnTypePartsSpec : ChangeSpec := { name := "fnTypeParts", fn := fun _ => fun
  | [d] => { results := [.lit (.bool true)], args := [d] }
  | _ => none }
def fnTypePartsRow : OpenClaim := { program := "ytlaeihadlnkmoaa", sum := "4673a92fae7fac8ce9550e694a74462137a9d108322dd9349d8f6bff62db81c8", func := "loop.example/modlink/laws.FnTypeParts", spec := "fnTypeParts", recurses := true, plainKeys := false, apart := false }
def FnTypePartsSaid : Prop := fnTypePartsRow.holds Try.pinned (OpenSpec.ofChange fnTypePartsSpec)

/-- ITS FALSE NEIGHBOUR: 'it returns false'. Refute it at one input. -/
def fnTypePartsWrong : ChangeSpec := { name := "fnTypeParts", fn := fun _ => fun
  | [d] => { results := [.lit (.bool false)], args := [d] }
  | _ => none }
def FnTypePartsWrongFalsely : Prop := fnTypePartsRow.holds Try.pinned (OpenSpec.ofChange fnTypePartsWrong)

/-- 'laws.FnTypeText': WHATEVER THE INPUT: true; the input reads as it did. -/
def fnTypeTextSpec : ChangeSpec := { name := "fnTypeText", fn := fun _ => fun
  | [d1, d2] => { results := [.lit (.bool true)], args := [d1, d2] }
  | _ => none }
def fnTypeTextRow : OpenClaim := { program := "ytlaeihadlnkmoaa", sum := "4673a92fae7fac8ce9550e694a74462137a9d108322dd9349d8f6bff62db81c8", func := "loop.example/modlink/laws.FnTypeText", spec := "fnTypeText", unfollowed := true, recurses := true, plainKeys := false, apart := false }
def FnTypeTextSaid : Prop := fnTypeTextRow.holds Try.pinned (OpenSpec.ofChange fnTypeTextSpec)

/-- ITS FALSE NEIGHBOUR: 'it returns false'. Refute it at one input. -/
def fnTypeTextWrong : ChangeSpec := { name := "fnTypeText", fn := fun _ => fun
  | [d1, d2] => { results := [.lit (.bool false)], args := [d1, d2] }
  | _ => none }
def FnTypeTextWrongFalsely : Prop := fnTypeTextRow.holds Try.pinned (OpenSpec.ofChange fnTypeTextWrong)

/-- 'laws.FnExactParseType': WHATEVER THE INPUT: true; the input reads as it did. -/
def fnExactParseTypeSpec : ChangeSpec := { name := "fnExactParseType", fn := fun _ => fun
  | [d] => { results := [.lit (.bool true)], args := [d] }
  | _ => none }
def fnExactParseTypeRow : OpenClaim := { program := "ytlaeihadlnkmoaa", sum := "4673a92fae7fac8ce9550e694a74462137a9d108322dd9349d8f6bff62db81c8", func := "loop.example/modlink/laws.FnExactParseType", spec := "fnExactParseType", unfollowed := true, recurses := true, plainKeys := false, apart := false }
def FnExactParseTypeSaid : Prop := fnExactParseTypeRow.holds Try.pinned (OpenSpec.ofChange fnExactParseTypeSpec)

/-- ITS FALSE NEIGHBOUR: 'it returns false'. Refute it at one input. -/
def fnExactParseTypeWrong : ChangeSpec := { name := "fnExactParseType", fn := fun _ => fun
  | [d] => { results := [.lit (.bool false)], args := [d] }
  | _ => none }
def FnExactParseTypeWrongFalsely : Prop := fnExactParseTypeRow.holds Try.pinned (OpenSpec.ofChange fnExactParseTypeWrong)

/- THE SECOND FORM. 'bulk': how many values and letters a reading holds, each counted each time it is reached (what is shared counts as often as it is met; a slice's spare places count too). A statement '..UptoSaid' is the law's where the arguments, and the package variables that the reading takes, are together of bulk at most 1048576: NARROWER than '..Said'. Prove '..Said' where nothing that the law and all that it calls make is longer than what came in: it says more and counts as full. Else prove '..UptoSaid'. A law counts once. -/
mutual
def uptoBulk {H : Type} : DataW H → Nat
  | .lit (.string bytes) => bytes.length + 1
  | .lit _ => 1
  | .nil => 1
  | .ptr d => uptoBulk d + 1
  | .slice elems spare => uptoBulkAll elems + uptoBulkAll spare + 1
  | .agg parts => uptoBulkAll parts + 1
  | .iface _ d => uptoBulk d + 1
  | .map entries => uptoBulkEntries entries + 1
  | .held _ => 1
def uptoBulkAll {H : Type} : List (DataW H) → Nat
  | [] => 0
  | d :: r => uptoBulk d + uptoBulkAll r
def uptoBulkEntries {H : Type} : List (Lit × DataW H) → Nat
  | [] => 0
  | x :: r => uptoBulkEntry x + uptoBulkEntries r
def uptoBulkEntry {H : Type} : Lit × DataW H → Nat
  | (.string bytes, d) => bytes.length + uptoBulk d + 1
  | (_, d) => uptoBulk d + 1
 end
def uptoSmall : (H : Type) → List (DataW H) → Bool := fun _ ds => decide (uptoBulkAll ds ≤ 1048576)
def OpenSpec.upto (s : _root_.Go.ChangeSpec) : _root_.Go.OpenSpec := { _root_.Go.OpenSpec.ofChange s with cond := some uptoSmall }

/-- 'laws.FnExactTypeValid', WHERE WHAT IT READS IS OF BULK AT MOST 1048576: true; the input reads as it did. -/
def fnExactTypeValidUptoRow : OpenClaim := { program := "ytlaeihadlnkmoaa", sum := "4673a92fae7fac8ce9550e694a74462137a9d108322dd9349d8f6bff62db81c8", func := "loop.example/modlink/laws.FnExactTypeValid", spec := "fnExactTypeValid", unfollowed := true, recurses := true, loops := true, plainKeys := false, apart := false, narrowed := true }
def FnExactTypeValidUptoSaid : Prop := fnExactTypeValidUptoRow.holds Try.pinned (OpenSpec.upto fnExactTypeValidSpec)

/-- 'laws.FnExactTypeCount', WHERE WHAT IT READS IS OF BULK AT MOST 1048576: true; the input reads as it did. -/
def fnExactTypeCountUptoRow : OpenClaim := { program := "ytlaeihadlnkmoaa", sum := "4673a92fae7fac8ce9550e694a74462137a9d108322dd9349d8f6bff62db81c8", func := "loop.example/modlink/laws.FnExactTypeCount", spec := "fnExactTypeCount", unfollowed := true, recurses := true, loops := true, plainKeys := false, apart := false, narrowed := true }
def FnExactTypeCountUptoSaid : Prop := fnExactTypeCountUptoRow.holds Try.pinned (OpenSpec.upto fnExactTypeCountSpec)

/-- 'laws.FnNames', WHERE WHAT IT READS IS OF BULK AT MOST 1048576: true; the input reads as it did. -/
def fnNamesUptoRow : OpenClaim := { program := "ytlaeihadlnkmoaa", sum := "4673a92fae7fac8ce9550e694a74462137a9d108322dd9349d8f6bff62db81c8", func := "loop.example/modlink/laws.FnNames", spec := "fnNames", unfollowed := true, recurses := true, plainKeys := false, apart := false, narrowed := true }
def FnNamesUptoSaid : Prop := fnNamesUptoRow.holds Try.pinned (OpenSpec.upto fnNamesSpec)

/-- 'laws.FnTypeCount', WHERE WHAT IT READS IS OF BULK AT MOST 1048576: true; the input reads as it did. -/
def fnTypeCountUptoRow : OpenClaim := { program := "ytlaeihadlnkmoaa", sum := "4673a92fae7fac8ce9550e694a74462137a9d108322dd9349d8f6bff62db81c8", func := "loop.example/modlink/laws.FnTypeCount", spec := "fnTypeCount", unfollowed := true, recurses := true, plainKeys := false, apart := false, narrowed := true }
def FnTypeCountUptoSaid : Prop := fnTypeCountUptoRow.holds Try.pinned (OpenSpec.upto fnTypeCountSpec)

/-- 'laws.FnExactFormatType', WHERE WHAT IT READS IS OF BULK AT MOST 1048576: true; the input reads as it did. -/
def fnExactFormatTypeUptoRow : OpenClaim := { program := "ytlaeihadlnkmoaa", sum := "4673a92fae7fac8ce9550e694a74462137a9d108322dd9349d8f6bff62db81c8", func := "loop.example/modlink/laws.FnExactFormatType", spec := "fnExactFormatType", unfollowed := true, recurses := true, loops := true, plainKeys := false, apart := false, narrowed := true }
def FnExactFormatTypeUptoSaid : Prop := fnExactFormatTypeUptoRow.holds Try.pinned (OpenSpec.upto fnExactFormatTypeSpec)

/-- 'laws.FnTypeParts', WHERE WHAT IT READS IS OF BULK AT MOST 1048576: true; the input reads as it did. -/
def fnTypePartsUptoRow : OpenClaim := { program := "ytlaeihadlnkmoaa", sum := "4673a92fae7fac8ce9550e694a74462137a9d108322dd9349d8f6bff62db81c8", func := "loop.example/modlink/laws.FnTypeParts", spec := "fnTypeParts", recurses := true, plainKeys := false, apart := false, narrowed := true }
def FnTypePartsUptoSaid : Prop := fnTypePartsUptoRow.holds Try.pinned (OpenSpec.upto fnTypePartsSpec)

/-- 'laws.FnTypeText', WHERE WHAT IT READS IS OF BULK AT MOST 1048576: true; the input reads as it did. -/
def fnTypeTextUptoRow : OpenClaim := { program := "ytlaeihadlnkmoaa", sum := "4673a92fae7fac8ce9550e694a74462137a9d108322dd9349d8f6bff62db81c8", func := "loop.example/modlink/laws.FnTypeText", spec := "fnTypeText", unfollowed := true, recurses := true, plainKeys := false, apart := false, narrowed := true }
def FnTypeTextUptoSaid : Prop := fnTypeTextUptoRow.holds Try.pinned (OpenSpec.upto fnTypeTextSpec)

/-- 'laws.FnExactParseType', WHERE WHAT IT READS IS OF BULK AT MOST 1048576: true; the input reads as it did. -/
def fnExactParseTypeUptoRow : OpenClaim := { program := "ytlaeihadlnkmoaa", sum := "4673a92fae7fac8ce9550e694a74462137a9d108322dd9349d8f6bff62db81c8", func := "loop.example/modlink/laws.FnExactParseType", spec := "fnExactParseType", unfollowed := true, recurses := true, plainKeys := false, apart := false, narrowed := true }
def FnExactParseTypeUptoSaid : Prop := fnExactParseTypeUptoRow.holds Try.pinned (OpenSpec.upto fnExactParseTypeSpec)

end Rows
end Go.Proofs.Ytlaeihadlnkmoaa
