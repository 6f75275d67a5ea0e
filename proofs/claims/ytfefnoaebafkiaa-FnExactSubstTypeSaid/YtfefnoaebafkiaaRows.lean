/-
  NARROWER THAN 'FOR EVERY INPUT', by the rows' own cells (each row's printed sentence says how): FnExactTypeSame: loops · FnExactSubstType: loops · FnExactTypeNames: loops · FnExactExprValid: loops · FnExactExprSame: loops · FnExactMaxFree: loops · FnExactStructSame: loops.
  DERIVED. THE GIVEN ROWS OF THIS SEAT. 7 by the template 'for every input the law returns true; each argument reads behind the call as it read before'; 0 by the template 'total and deterministic' (their statements: YtfefnoaebafkiaaTotals.lean).
  GIVEN WITH THE SEED: the statements are not yours to turn. If you find one false, say at which input.
  Laid BY PROGRAM, IN A SANDBOX (cutbox-rows.mjs): the forced cells as the released guide's own fill.sh prints them over the translation 00bf34c20a8f147a… (all of the seat's roots in one cut). By AI agents, Wed Nov 11 2026. No macro, syntax, notation, axiom, sorry.
-/
import Derived.Test.YtfefnoaebafkiaaChecked
import GoSem.Claim
import GoSem.ClaimJoined
import GoSem.ClaimMapViews
import Derived.JoinedTies
import Derived.KernelRfl
namespace Go.Proofs.Ytfefnoaebafkiaa
/- THE CELL 'sum', in the pinned program and in every row, IS THE sha256 OF THE DUMP (.gsa) THAT YtfefnoaebafkiaaProg.lean LOADS. Nothing in Lean hashes anything: it is a label: what it is worth is what the hold of that sum in a sandbox is worth. -/
noncomputable def Try.pinned : Pinned := { name := "ytfefnoaebafkiaa", sum := "00bf34c20a8f147a8478d4a28ecd49969bf086e0fb064fc31df82dd76ed40333", checked := Try.checked }
namespace Rows
def none {H : Type} : Left H := { results := [], args := [] }

/-- 'laws.FnExactTypeSame': WHATEVER THE INPUT: true; the input reads as it did. -/
def fnExactTypeSameSpec : ChangeSpec := { name := "fnExactTypeSame", fn := fun _ => fun
  | [d1, d2] => { results := [.lit (.bool true)], args := [d1, d2] }
  | _ => none }
def fnExactTypeSameRow : OpenClaim := { program := "ytfefnoaebafkiaa", sum := "00bf34c20a8f147a8478d4a28ecd49969bf086e0fb064fc31df82dd76ed40333", func := "loop.example/modlink/laws.FnExactTypeSame", spec := "fnExactTypeSame", unfollowed := true, recurses := true, loops := true, plainKeys := false, apart := false }
def FnExactTypeSameSaid : Prop := fnExactTypeSameRow.holds Try.pinned (OpenSpec.ofChange fnExactTypeSameSpec)

/-- ITS FALSE NEIGHBOUR: 'it returns false'. Refute it at one input. -/
def fnExactTypeSameWrong : ChangeSpec := { name := "fnExactTypeSame", fn := fun _ => fun
  | [d1, d2] => { results := [.lit (.bool false)], args := [d1, d2] }
  | _ => none }
def FnExactTypeSameWrongFalsely : Prop := fnExactTypeSameRow.holds Try.pinned (OpenSpec.ofChange fnExactTypeSameWrong)

/-- 'laws.FnExactSubstType': WHATEVER THE INPUT: true; the input reads as it did. -/
def fnExactSubstTypeSpec : ChangeSpec := { name := "fnExactSubstType", fn := fun _ => fun
  | [d1, d2] => { results := [.lit (.bool true)], args := [d1, d2] }
  | _ => none }
def fnExactSubstTypeRow : OpenClaim := { program := "ytfefnoaebafkiaa", sum := "00bf34c20a8f147a8478d4a28ecd49969bf086e0fb064fc31df82dd76ed40333", func := "loop.example/modlink/laws.FnExactSubstType", spec := "fnExactSubstType", unfollowed := true, recurses := true, loops := true, plainKeys := false, apart := false }
def FnExactSubstTypeSaid : Prop := fnExactSubstTypeRow.holds Try.pinned (OpenSpec.ofChange fnExactSubstTypeSpec)

/-- ITS FALSE NEIGHBOUR: 'it returns false'. Refute it at one input. -/
def fnExactSubstTypeWrong : ChangeSpec := { name := "fnExactSubstType", fn := fun _ => fun
  | [d1, d2] => { results := [.lit (.bool false)], args := [d1, d2] }
  | _ => none }
def FnExactSubstTypeWrongFalsely : Prop := fnExactSubstTypeRow.holds Try.pinned (OpenSpec.ofChange fnExactSubstTypeWrong)

/-- 'laws.FnExactTypeNames': WHATEVER THE INPUT: true; the input reads as it did. -/
def fnExactTypeNamesSpec : ChangeSpec := { name := "fnExactTypeNames", fn := fun _ => fun
  | [d] => { results := [.lit (.bool true)], args := [d] }
  | _ => none }
def fnExactTypeNamesRow : OpenClaim := { program := "ytfefnoaebafkiaa", sum := "00bf34c20a8f147a8478d4a28ecd49969bf086e0fb064fc31df82dd76ed40333", func := "loop.example/modlink/laws.FnExactTypeNames", spec := "fnExactTypeNames", unfollowed := true, recurses := true, loops := true, plainKeys := false, apart := false }
def FnExactTypeNamesSaid : Prop := fnExactTypeNamesRow.holds Try.pinned (OpenSpec.ofChange fnExactTypeNamesSpec)

/-- ITS FALSE NEIGHBOUR: 'it returns false'. Refute it at one input. -/
def fnExactTypeNamesWrong : ChangeSpec := { name := "fnExactTypeNames", fn := fun _ => fun
  | [d] => { results := [.lit (.bool false)], args := [d] }
  | _ => none }
def FnExactTypeNamesWrongFalsely : Prop := fnExactTypeNamesRow.holds Try.pinned (OpenSpec.ofChange fnExactTypeNamesWrong)

/-- 'laws.FnExactExprValid': WHATEVER THE INPUT: true; the input reads as it did. -/
def fnExactExprValidSpec : ChangeSpec := { name := "fnExactExprValid", fn := fun _ => fun
  | [d] => { results := [.lit (.bool true)], args := [d] }
  | _ => none }
def fnExactExprValidRow : OpenClaim := { program := "ytfefnoaebafkiaa", sum := "00bf34c20a8f147a8478d4a28ecd49969bf086e0fb064fc31df82dd76ed40333", func := "loop.example/modlink/laws.FnExactExprValid", spec := "fnExactExprValid", unfollowed := true, recurses := true, loops := true, plainKeys := false, apart := false }
def FnExactExprValidSaid : Prop := fnExactExprValidRow.holds Try.pinned (OpenSpec.ofChange fnExactExprValidSpec)

/-- ITS FALSE NEIGHBOUR: 'it returns false'. Refute it at one input. -/
def fnExactExprValidWrong : ChangeSpec := { name := "fnExactExprValid", fn := fun _ => fun
  | [d] => { results := [.lit (.bool false)], args := [d] }
  | _ => none }
def FnExactExprValidWrongFalsely : Prop := fnExactExprValidRow.holds Try.pinned (OpenSpec.ofChange fnExactExprValidWrong)

/-- 'laws.FnExactExprSame': WHATEVER THE INPUT: true; the input reads as it did. -/
def fnExactExprSameSpec : ChangeSpec := { name := "fnExactExprSame", fn := fun _ => fun
  | [d1, d2] => { results := [.lit (.bool true)], args := [d1, d2] }
  | _ => none }
def fnExactExprSameRow : OpenClaim := { program := "ytfefnoaebafkiaa", sum := "00bf34c20a8f147a8478d4a28ecd49969bf086e0fb064fc31df82dd76ed40333", func := "loop.example/modlink/laws.FnExactExprSame", spec := "fnExactExprSame", unfollowed := true, recurses := true, loops := true, plainKeys := false, apart := false }
def FnExactExprSameSaid : Prop := fnExactExprSameRow.holds Try.pinned (OpenSpec.ofChange fnExactExprSameSpec)

/-- ITS FALSE NEIGHBOUR: 'it returns false'. Refute it at one input. -/
def fnExactExprSameWrong : ChangeSpec := { name := "fnExactExprSame", fn := fun _ => fun
  | [d1, d2] => { results := [.lit (.bool false)], args := [d1, d2] }
  | _ => none }
def FnExactExprSameWrongFalsely : Prop := fnExactExprSameRow.holds Try.pinned (OpenSpec.ofChange fnExactExprSameWrong)

/-- 'laws.FnExactMaxFree': WHATEVER THE INPUT: true; the input reads as it did. -/
def fnExactMaxFreeSpec : ChangeSpec := { name := "fnExactMaxFree", fn := fun _ => fun
  | [d] => { results := [.lit (.bool true)], args := [d] }
  | _ => none }
def fnExactMaxFreeRow : OpenClaim := { program := "ytfefnoaebafkiaa", sum := "00bf34c20a8f147a8478d4a28ecd49969bf086e0fb064fc31df82dd76ed40333", func := "loop.example/modlink/laws.FnExactMaxFree", spec := "fnExactMaxFree", unfollowed := true, recurses := true, loops := true, plainKeys := false, apart := false }
def FnExactMaxFreeSaid : Prop := fnExactMaxFreeRow.holds Try.pinned (OpenSpec.ofChange fnExactMaxFreeSpec)

/-- ITS FALSE NEIGHBOUR: 'it returns false'. Refute it at one input. -/
def fnExactMaxFreeWrong : ChangeSpec := { name := "fnExactMaxFree", fn := fun _ => fun
  | [d] => { results := [.lit (.bool false)], args := [d] }
  | _ => none }
def FnExactMaxFreeWrongFalsely : Prop := fnExactMaxFreeRow.holds Try.pinned (OpenSpec.ofChange fnExactMaxFreeWrong)

/-- 'laws.FnExactStructSame': WHATEVER THE INPUT: true; the input reads as it did. -/
def fnExactStructSameSpec : ChangeSpec := { name := "fnExactStructSame", fn := fun _ => fun
  | [d1, d2] => { results := [.lit (.bool true)], args := [d1, d2] }
  | _ => none }
def fnExactStructSameRow : OpenClaim := { program := "ytfefnoaebafkiaa", sum := "00bf34c20a8f147a8478d4a28ecd49969bf086e0fb064fc31df82dd76ed40333", func := "loop.example/modlink/laws.FnExactStructSame", spec := "fnExactStructSame", unfollowed := true, recurses := true, loops := true, plainKeys := false, apart := false }
def FnExactStructSameSaid : Prop := fnExactStructSameRow.holds Try.pinned (OpenSpec.ofChange fnExactStructSameSpec)

/-- ITS FALSE NEIGHBOUR: 'it returns false'. Refute it at one input. -/
def fnExactStructSameWrong : ChangeSpec := { name := "fnExactStructSame", fn := fun _ => fun
  | [d1, d2] => { results := [.lit (.bool false)], args := [d1, d2] }
  | _ => none }
def FnExactStructSameWrongFalsely : Prop := fnExactStructSameRow.holds Try.pinned (OpenSpec.ofChange fnExactStructSameWrong)

/- THE SECOND FORM. 'bulk': how many values and letters a reading holds, each counted each time it is reached (what is shared counts as often as it is met; a slice's spare places count too). A statement '..UptoSaid' is the law's where the arguments, and the package variables that the reading takes, are together of bulk at most 1048576: NARROWER than '..Said'. Prove '..Said' where nothing that the law and all that it calls make is longer than what came in: it says more and counts as full. Else prove '..UptoSaid'. A law counts once. -/
mutual
def uptoBulk {H : Type} : DataW H → Nat
  | .lit (.string bytes) => bytes.length + 1
  | .lit _ => 1
  | .nil => 1
  | .ptr d => uptoBulk d + 1
  | .slice elems spare => uptoBulkAll elems + uptoBulkAll spare + 1
  | .agg parts => uptoBulkAll parts + 1
  | .iface _ d => uptoBulk d + 1
  | .map entries => uptoBulkEntries entries + 1
  | .held _ => 1
def uptoBulkAll {H : Type} : List (DataW H) → Nat
  | [] => 0
  | d :: r => uptoBulk d + uptoBulkAll r
def uptoBulkEntries {H : Type} : List (Lit × DataW H) → Nat
  | [] => 0
  | x :: r => uptoBulkEntry x + uptoBulkEntries r
def uptoBulkEntry {H : Type} : Lit × DataW H → Nat
  | (.string bytes, d) => bytes.length + uptoBulk d + 1
  | (_, d) => uptoBulk d + 1
 end
def uptoSmall : (H : Type) → List (DataW H) → Bool := fun _ ds => decide (uptoBulkAll ds ≤ 1048576)
def OpenSpec.upto (s : _root_.Go.ChangeSpec) : _root_.Go.OpenSpec := { _root_.Go.OpenSpec.ofChange s with cond := some uptoSmall }

/-- 'laws.FnExactTypeSame', WHERE WHAT IT READS IS OF BULK AT MOST 1048576: true; the input reads as it did. -/
def fnExactTypeSameUptoRow : OpenClaim := { program := "ytfefnoaebafkiaa", sum := "00bf34c20a8f147a8478d4a28ecd49969bf086e0fb064fc31df82dd76ed40333", func := "loop.example/modlink/laws.FnExactTypeSame", spec := "fnExactTypeSame", unfollowed := true, recurses := true, loops := true, plainKeys := false, apart := false, narrowed := true }
def FnExactTypeSameUptoSaid : Prop := fnExactTypeSameUptoRow.holds Try.pinned (OpenSpec.upto fnExactTypeSameSpec)

/-- 'laws.FnExactSubstType', WHERE WHAT IT READS IS OF BULK AT MOST 1048576: true; the input reads as it did. -/
def fnExactSubstTypeUptoRow : OpenClaim := { program := "ytfefnoaebafkiaa", sum := "00bf34c20a8f147a8478d4a28ecd49969bf086e0fb064fc31df82dd76ed40333", func := "loop.example/modlink/laws.FnExactSubstType", spec := "fnExactSubstType", unfollowed := true, recurses := true, loops := true, plainKeys := false, apart := false, narrowed := true }
def FnExactSubstTypeUptoSaid : Prop := fnExactSubstTypeUptoRow.holds Try.pinned (OpenSpec.upto fnExactSubstTypeSpec)

/-- 'laws.FnExactTypeNames', WHERE WHAT IT READS IS OF BULK AT MOST 1048576: true; the input reads as it did. -/
def fnExactTypeNamesUptoRow : OpenClaim := { program := "ytfefnoaebafkiaa", sum := "00bf34c20a8f147a8478d4a28ecd49969bf086e0fb064fc31df82dd76ed40333", func := "loop.example/modlink/laws.FnExactTypeNames", spec := "fnExactTypeNames", unfollowed := true, recurses := true, loops := true, plainKeys := false, apart := false, narrowed := true }
def FnExactTypeNamesUptoSaid : Prop := fnExactTypeNamesUptoRow.holds Try.pinned (OpenSpec.upto fnExactTypeNamesSpec)

/-- 'laws.FnExactExprValid', WHERE WHAT IT READS IS OF BULK AT MOST 1048576: true; the input reads as it did. -/
def fnExactExprValidUptoRow : OpenClaim := { program := "ytfefnoaebafkiaa", sum := "00bf34c20a8f147a8478d4a28ecd49969bf086e0fb064fc31df82dd76ed40333", func := "loop.example/modlink/laws.FnExactExprValid", spec := "fnExactExprValid", unfollowed := true, recurses := true, loops := true, plainKeys := false, apart := false, narrowed := true }
def FnExactExprValidUptoSaid : Prop := fnExactExprValidUptoRow.holds Try.pinned (OpenSpec.upto fnExactExprValidSpec)

/-- 'laws.FnExactExprSame', WHERE WHAT IT READS IS OF BULK AT MOST 1048576: true; the input reads as it did. -/
def fnExactExprSameUptoRow : OpenClaim := { program := "ytfefnoaebafkiaa", sum := "00bf34c20a8f147a8478d4a28ecd49969bf086e0fb064fc31df82dd76ed40333", func := "loop.example/modlink/laws.FnExactExprSame", spec := "fnExactExprSame", unfollowed := true, recurses := true, loops := true, plainKeys := false, apart := false, narrowed := true }
def FnExactExprSameUptoSaid : Prop := fnExactExprSameUptoRow.holds Try.pinned (OpenSpec.upto fnExactExprSameSpec)

/-- 'laws.FnExactMaxFree', WHERE WHAT IT READS IS OF BULK AT MOST 1048576: true; the input reads as it did. -/
def fnExactMaxFreeUptoRow : OpenClaim := { program := "ytfefnoaebafkiaa", sum := "00bf34c20a8f147a8478d4a28ecd49969bf086e0fb064fc31df82dd76ed40333", func := "loop.example/modlink/laws.FnExactMaxFree", spec := "fnExactMaxFree", unfollowed := true, recurses := true, loops := true, plainKeys := false, apart := false, narrowed := true }
def FnExactMaxFreeUptoSaid : Prop := fnExactMaxFreeUptoRow.holds Try.pinned (OpenSpec.upto fnExactMaxFreeSpec)

/-- 'laws.FnExactStructSame', WHERE WHAT IT READS IS OF BULK AT MOST 1048576: true; the input reads as it did. -/
def fnExactStructSameUptoRow : OpenClaim := { program := "ytfefnoaebafkiaa", sum := "00bf34c20a8f147a8478d4a28ecd49969bf086e0fb064fc31df82dd76ed40333", func := "loop.example/modlink/laws.FnExactStructSame", spec := "fnExactStructSame", unfollowed := true, recurses := true, loops := true, plainKeys := false, apart := false, narrowed := true }
def FnExactStructSameUptoSaid : Prop := fnExactStructSameUptoRow.holds Try.pinned (OpenSpec.upto fnExactStructSameSpec)

end Rows
end Go.Proofs.Ytfefnoaebafkiaa
