/-
  NARROWER THAN 'FOR EVERY INPUT', by the rows' own cells (each row's printed sentence says how): FnExactTypeValid: loops · FnExactFormatType: loops · FnExactTypeCount: loops.
  DERIVED. THE GIVEN ROWS OF THIS SEAT. 6 by the template 'for every input the law returns true; each argument reads behind the call as it read before'; 0 by the template 'total and deterministic' (their statements: YtpcfhmkbimjpjaaTotals.lean).
  GIVEN WITH THE SEED: the statements are not yours to turn. If you find one false, say at which input.
  Laid BY PROGRAM, IN A SANDBOX (cutbox-rows.mjs): the forced cells as the released guide's own fill.sh prints them over the translation e3048f2d3bb76059… (all of the seat's roots in one cut). By AI agents, Wed Nov 11 2026. No macro, syntax, notation, axiom, sorry.
-/
import Derived.Test.YtpcfhmkbimjpjaaChecked
import GoSem.Claim
import GoSem.ClaimJoined
import GoSem.ClaimMapViews
import Derived.JoinedTies
import Derived.KernelRfl
namespace Go.Proofs.Ytpcfhmkbimjpjaa
/- THE CELL 'sum', in the pinned program and in every row, IS THE sha256 OF THE DUMP (.gsa) THAT YtpcfhmkbimjpjaaProg.lean LOADS. Nothing in Lean hashes anything: it is a label: what it is worth is what the hold of that sum in a sandbox is worth. -/
noncomputable def Try.pinned : Pinned := { name := "ytpcfhmkbimjpjaa", sum := "e3048f2d3bb76059c78f08992a1a5a617966ee3ec7e1f5318b98133c5748ca38", checked := Try.checked }
namespace Rows
def none {H : Type} : Left H := { results := [], args := [] }

/-- 'laws.FnTypeSame': WHATEVER THE INPUT: true; the input reads as it did. -/
def fnTypeSameSpec : ChangeSpec := { name := "fnTypeSame", fn := fun _ => fun
  | [d] => { results := [.lit (.bool true)], args := [d] }
  | _ => none }
def fnTypeSameRow : OpenClaim := { program := "ytpcfhmkbimjpjaa", sum := "e3048f2d3bb76059c78f08992a1a5a617966ee3ec7e1f5318b98133c5748ca38", func := "loop.example/modlink/laws.FnTypeSame", spec := "fnTypeSame", unfollowed := true, recurses := true, plainKeys := false, apart := false }
def FnTypeSameSaid : Prop := fnTypeSameRow.holds Try.pinned (OpenSpec.ofChange fnTypeSameSpec)

/-- ITS FALSE NEIGHBOUR: 'it returns false'. Refute it at one input. -/
def fnTypeSameWrong : ChangeSpec := { name := "fnTypeSame", fn := fun _ => fun
  | [d] => { results := [.lit (.bool false)], args := [d] }
  | _ => none }
def FnTypeSameWrongFalsely : Prop := fnTypeSameRow.holds Try.pinned (OpenSpec.ofChange fnTypeSameWrong)

/-- 'laws.FnTypeCount': WHATEVER THE INPUT: true; the input reads as it did. -/
def fnTypeCountSpec : ChangeSpec := { name := "fnTypeCount", fn := fun _ => fun
  | [d] => { results := [.lit (.bool true)], args := [d] }
  | _ => none }
def fnTypeCountRow : OpenClaim := { program := "ytpcfhmkbimjpjaa", sum := "e3048f2d3bb76059c78f08992a1a5a617966ee3ec7e1f5318b98133c5748ca38", func := "loop.example/modlink/laws.FnTypeCount", spec := "fnTypeCount", unfollowed := true, recurses := true, plainKeys := false, apart := false }
def FnTypeCountSaid : Prop := fnTypeCountRow.holds Try.pinned (OpenSpec.ofChange fnTypeCountSpec)

/-- ITS FALSE NEIGHBOUR: 'it returns false'. Refute it at one input. -/
def fnTypeCountWrong : ChangeSpec := { name := "fnTypeCount", fn := fun _ => fun
  | [d] => { results := [.lit (.bool false)], args := [d] }
  | _ => none }
def FnTypeCountWrongFalsely : Prop := fnTypeCountRow.holds Try.pinned (OpenSpec.ofChange fnTypeCountWrong)

/-- 'laws.FnNames': WHATEVER THE INPUT: true; the input reads as it did. -/
def fnNamesSpec : ChangeSpec := { name := "fnNames", fn := fun _ => fun
  | [d1, d2] => { results := [.lit (.bool true)], args := [d1, d2] }
  | _ => none }
def fnNamesRow : OpenClaim := { program := "ytpcfhmkbimjpjaa", sum := "e3048f2d3bb76059c78f08992a1a5a617966ee3ec7e1f5318b98133c5748ca38", func := "loop.example/modlink/laws.FnNames", spec := "fnNames", unfollowed := true, recurses := true, plainKeys := false, apart := false }
def FnNamesSaid : Prop := fnNamesRow.holds Try.pinned (OpenSpec.ofChange fnNamesSpec)

/-- ITS FALSE NEIGHBOUR: 'it returns false'. Refute it at one input. -/
def fnNamesWrong : ChangeSpec := { name := "fnNames", fn := fun _ => fun
  | [d1, d2] => { results := [.lit (.bool false)], args := [d1, d2] }
  | _ => none }
def FnNamesWrongFalsely : Prop := fnNamesRow.holds Try.pinned (OpenSpec.ofChange fnNamesWrong)

/-- 'laws.FnExactTypeValid': WHATEVER THE INPUT: true; the input reads as it did. -/
def fnExactTypeValidSpec : ChangeSpec := { name := "fnExactTypeValid", fn := fun _ => fun
  | [d] => { results := [.lit (.bool true)], args := [d] }
  | _ => none }
def fnExactTypeValidRow : OpenClaim := { program := "ytpcfhmkbimjpjaa", sum := "e3048f2d3bb76059c78f08992a1a5a617966ee3ec7e1f5318b98133c5748ca38", func := "loop.example/modlink/laws.FnExactTypeValid", spec := "fnExactTypeValid", unfollowed := true, recurses := true, loops := true, plainKeys := false, apart := false }
def FnExactTypeValidSaid : Prop := fnExactTypeValidRow.holds Try.pinned (OpenSpec.ofChange fnExactTypeValidSpec)

/-- ITS FALSE NEIGHBOUR: 'it returns false'. Refute it at one input. -/
def fnExactTypeValidWrong : ChangeSpec := { name := "fnExactTypeValid", fn := fun _ => fun
  | [d] => { results := [.lit (.bool false)], args := [d] }
  | _ => none }
def FnExactTypeValidWrongFalsely : Prop := fnExactTypeValidRow.holds Try.pinned (OpenSpec.ofChange fnExactTypeValidWrong)

/-- 'laws.FnExactFormatType': WHATEVER THE INPUT: true; the input reads as it did. -/
def fnExactFormatTypeSpec : ChangeSpec := { name := "fnExactFormatType", fn := fun _ => fun
  | [d] => { results := [.lit (.bool true)], args := [d] }
  | _ => none }
def fnExactFormatTypeRow : OpenClaim := { program := "ytpcfhmkbimjpjaa", sum := "e3048f2d3bb76059c78f08992a1a5a617966ee3ec7e1f5318b98133c5748ca38", func := "loop.example/modlink/laws.FnExactFormatType", spec := "fnExactFormatType", unfollowed := true, recurses := true, loops := true, plainKeys := false, apart := false }
def FnExactFormatTypeSaid : Prop := fnExactFormatTypeRow.holds Try.pinned (OpenSpec.ofChange fnExactFormatTypeSpec)

/-- ITS FALSE NEIGHBOUR: 'it returns false'. Refute it at one input. -/
def fnExactFormatTypeWrong : ChangeSpec := { name := "fnExactFormatType", fn := fun _ => fun
  | [d] => { results := [.lit (.bool false)], args := [d] }
  | _ => none }
def FnExactFormatTypeWrongFalsely : Prop := fnExactFormatTypeRow.holds Try.pinned (OpenSpec.ofChange fnExactFormatTypeWrong)

/-- 'laws.FnExactTypeCount': WHATEVER THE INPUT: true; the input reads as it did. -/
def fnExactTypeCountSpec : ChangeSpec := { name := "fnExactTypeCount", fn := fun _ => fun
  | [d] => { results := [.lit (.bool true)], args := [d] }
  | _ => none }
def fnExactTypeCountRow : OpenClaim := { program := "ytpcfhmkbimjpjaa", sum := "e3048f2d3bb76059c78f08992a1a5a617966ee3ec7e1f5318b98133c5748ca38", func := "loop.example/modlink/laws.FnExactTypeCount", spec := "fnExactTypeCount", unfollowed := true, recurses := true, loops := true, plainKeys := false, apart := false }
def FnExactTypeCountSaid : Prop := fnExactTypeCountRow.holds Try.pinned (OpenSpec.ofChange fnExactTypeCountSpec)

/-- ITS FALSE NEIGHBOUR: 'it returns false'. Refute it at one input. -/
def fnExactTypeCountWrong : ChangeSpec := { name := "fnExactTypeCount", fn := fun _ => fun
  | [d] => { results := [.lit (.bool false)], args := [d] }
  | _ => none }
def FnExactTypeCountWrongFalsely : Prop := fnExactTypeCountRow.holds Try.pinned (OpenSpec.ofChange fnExactTypeCountWrong)

/- THE SECOND FORM. 'bulk': how many values and letters a reading holds, each counted each time it is reached (what is shared counts as often as it is met; a slice's spare places count too). A statement '..UptoSaid' is the law's where the arguments, and the package variables that the reading takes, are together of bulk at most 1048576: NARROWER than '..Said'. Prove '..Said' where nothing that the law and all that it calls make is longer than what came in: it says more and counts as full. Else prove '..UptoSaid'. A law counts once. -/
mutual
def uptoBulk {H : Type} : DataW H → Nat
  | .lit (.string bytes) => bytes.length + 1
  | .lit _ => 1
  | .nil => 1
  | .ptr d => uptoBulk d + 1
  | .slice elems spare => uptoBulkAll elems + uptoBulkAll spare + 1
  | .agg parts => uptoBulkAll parts + 1
  | .iface _ d => uptoBulk d + 1
  | .map entries => uptoBulkEntries entries + 1
  | .held _ => 1
def uptoBulkAll {H : Type} : List (DataW H) → Nat
  | [] => 0
  | d :: r => uptoBulk d + uptoBulkAll r
def uptoBulkEntries {H : Type} : List (Lit × DataW H) → Nat
  | [] => 0
  | x :: r => uptoBulkEntry x + uptoBulkEntries r
def uptoBulkEntry {H : Type} : Lit × DataW H → Nat
  | (.string bytes, d) => bytes.length + uptoBulk d + 1
  | (_, d) => uptoBulk d + 1
 end
def uptoSmall : (H : Type) → List (DataW H) → Bool := fun _ ds => decide (uptoBulkAll ds ≤ 1048576)
def OpenSpec.upto (s : _root_.Go.ChangeSpec) : _root_.Go.OpenSpec := { _root_.Go.OpenSpec.ofChange s with cond := some uptoSmall }

/-- 'laws.FnTypeSame', WHERE WHAT IT READS IS OF BULK AT MOST 1048576: true; the input reads as it did. -/
def fnTypeSameUptoRow : OpenClaim := { program := "ytpcfhmkbimjpjaa", sum := "e3048f2d3bb76059c78f08992a1a5a617966ee3ec7e1f5318b98133c5748ca38", func := "loop.example/modlink/laws.FnTypeSame", spec := "fnTypeSame", unfollowed := true, recurses := true, plainKeys := false, apart := false, narrowed := true }
def FnTypeSameUptoSaid : Prop := fnTypeSameUptoRow.holds Try.pinned (OpenSpec.upto fnTypeSameSpec)

/-- 'laws.FnTypeCount', WHERE WHAT IT READS IS OF BULK AT MOST 1048576: true; the input reads as it did. -/
def fnTypeCountUptoRow : OpenClaim := { program := "ytpcfhmkbimjpjaa", sum := "e3048f2d3bb76059c78f08992a1a5a617966ee3ec7e1f5318b98133c5748ca38", func := "loop.example/modlink/laws.FnTypeCount", spec := "fnTypeCount", unfollowed := true, recurses := true, plainKeys := false, apart := false, narrowed := true }
def FnTypeCountUptoSaid : Prop := fnTypeCountUptoRow.holds Try.pinned (OpenSpec.upto fnTypeCountSpec)

/-- 'laws.FnNames', WHERE WHAT IT READS IS OF BULK AT MOST 1048576: true; the input reads as it did. -/
def fnNamesUptoRow : OpenClaim := { program := "ytpcfhmkbimjpjaa", sum := "e3048f2d3bb76059c78f08992a1a5a617966ee3ec7e1f5318b98133c5748ca38", func := "loop.example/modlink/laws.FnNames", spec := "fnNames", unfollowed := true, recurses := true, plainKeys := false, apart := false, narrowed := true }
def FnNamesUptoSaid : Prop := fnNamesUptoRow.holds Try.pinned (OpenSpec.upto fnNamesSpec)

/-- 'laws.FnExactTypeValid', WHERE WHAT IT READS IS OF BULK AT MOST 1048576: true; the input reads as it did. -/
def fnExactTypeValidUptoRow : OpenClaim := { program := "ytpcfhmkbimjpjaa", sum := "e3048f2d3bb76059c78f08992a1a5a617966ee3ec7e1f5318b98133c5748ca38", func := "loop.example/modlink/laws.FnExactTypeValid", spec := "fnExactTypeValid", unfollowed := true, recurses := true, loops := true, plainKeys := false, apart := false, narrowed := true }
def FnExactTypeValidUptoSaid : Prop := fnExactTypeValidUptoRow.holds Try.pinned (OpenSpec.upto fnExactTypeValidSpec)

/-- 'laws.FnExactFormatType', WHERE WHAT IT READS IS OF BULK AT MOST 1048576: true; the input reads as it did. -/
def fnExactFormatTypeUptoRow : OpenClaim := { program := "ytpcfhmkbimjpjaa", sum := "e3048f2d3bb76059c78f08992a1a5a617966ee3ec7e1f5318b98133c5748ca38", func := "loop.example/modlink/laws.FnExactFormatType", spec := "fnExactFormatType", unfollowed := true, recurses := true, loops := true, plainKeys := false, apart := false, narrowed := true }
def FnExactFormatTypeUptoSaid : Prop := fnExactFormatTypeUptoRow.holds Try.pinned (OpenSpec.upto fnExactFormatTypeSpec)

/-- 'laws.FnExactTypeCount', WHERE WHAT IT READS IS OF BULK AT MOST 1048576: true; the input reads as it did. -/
def fnExactTypeCountUptoRow : OpenClaim := { program := "ytpcfhmkbimjpjaa", sum := "e3048f2d3bb76059c78f08992a1a5a617966ee3ec7e1f5318b98133c5748ca38", func := "loop.example/modlink/laws.FnExactTypeCount", spec := "fnExactTypeCount", unfollowed := true, recurses := true, loops := true, plainKeys := false, apart := false, narrowed := true }
def FnExactTypeCountUptoSaid : Prop := fnExactTypeCountUptoRow.holds Try.pinned (OpenSpec.upto fnExactTypeCountSpec)

end Rows
end Go.Proofs.Ytpcfhmkbimjpjaa
