/-
  NARROWER THAN 'FOR EVERY INPUT', by the rows' own cells (each row's printed sentence says how): FnExactFormatType: loops · FnExactSubstType: loops · FnExactTypeNames: loops · FnExactSigValid: loops · FnExactFormatSig: loops · FnExactSigSame: loops.
  DERIVED. THE GIVEN ROWS OF THIS SEAT. 10 by the template 'for every input the law returns true; each argument reads behind the call as it read before'; 0 by the template 'total and deterministic' (their statements: YtponaclmbmlahaaTotals.lean).
  GIVEN WITH THE SEED: the statements are not yours to turn. If you find one false, say at which input.
  Laid BY PROGRAM, IN A SANDBOX (cutbox-rows.mjs): the forced cells as the released guide's own fill.sh prints them over the translation dc4be5aef0b31034… (all of the seat's roots in one cut). By AI agents, Wed Nov 11 2026. No macro, syntax, notation, axiom, sorry.
-/
import Derived.Test.YtponaclmbmlahaaChecked
import GoSem.Claim
import GoSem.ClaimJoined
import GoSem.ClaimMapViews
import Derived.JoinedTies
import Derived.KernelRfl
namespace Go.Proofs.Ytponaclmbmlahaa
/- THE CELL 'sum', in the pinned program and in every row, IS THE sha256 OF THE DUMP (.gsa) THAT YtponaclmbmlahaaProg.lean LOADS. Nothing in Lean hashes anything: it is a label: what it is worth is what the hold of that sum in a sandbox is worth. -/
noncomputable def Try.pinned : Pinned := { name := "ytponaclmbmlahaa", sum := "dc4be5aef0b31034f06d0ae86c052d3f967c501eb6602d0798bb9a815f697f2d", checked := Try.checked }
namespace Rows
def none {H : Type} : Left H := { results := [], args := [] }

/-- 'laws.FnExactFormatType': WHATEVER THE INPUT: true; the input reads as it did. -/
def fnExactFormatTypeSpec : ChangeSpec := { name := "fnExactFormatType", fn := fun _ => fun
  | [d] => { results := [.lit (.bool true)], args := [d] }
  | _ => none }
def fnExactFormatTypeRow : OpenClaim := { program := "ytponaclmbmlahaa", sum := "dc4be5aef0b31034f06d0ae86c052d3f967c501eb6602d0798bb9a815f697f2d", func := "loop.example/modlink/laws.FnExactFormatType", spec := "fnExactFormatType", unfollowed := true, recurses := true, loops := true, plainKeys := false, apart := false }
def FnExactFormatTypeSaid : Prop := fnExactFormatTypeRow.holds Try.pinned (OpenSpec.ofChange fnExactFormatTypeSpec)

/-- ITS FALSE NEIGHBOUR: 'it returns false'. Refute it at one input. -/
def fnExactFormatTypeWrong : ChangeSpec := { name := "fnExactFormatType", fn := fun _ => fun
  | [d] => { results := [.lit (.bool false)], args := [d] }
  | _ => none }
def FnExactFormatTypeWrongFalsely : Prop := fnExactFormatTypeRow.holds Try.pinned (OpenSpec.ofChange fnExactFormatTypeWrong)

/-- 'laws.FnExactParseType': WHATEVER THE INPUT: true; the input reads as it did. -/
def fnExactParseTypeSpec : ChangeSpec := { name := "fnExactParseType", fn := fun _ => fun
  | [d] => { results := [.lit (.bool true)], args := [d] }
  | _ => none }
def fnExactParseTypeRow : OpenClaim := { program := "ytponaclmbmlahaa", sum := "dc4be5aef0b31034f06d0ae86c052d3f967c501eb6602d0798bb9a815f697f2d", func := "loop.example/modlink/laws.FnExactParseType", spec := "fnExactParseType", unfollowed := true, recurses := true, plainKeys := false, apart := false }
def FnExactParseTypeSaid : Prop := fnExactParseTypeRow.holds Try.pinned (OpenSpec.ofChange fnExactParseTypeSpec)

/-- ITS FALSE NEIGHBOUR: 'it returns false'. Refute it at one input. -/
def fnExactParseTypeWrong : ChangeSpec := { name := "fnExactParseType", fn := fun _ => fun
  | [d] => { results := [.lit (.bool false)], args := [d] }
  | _ => none }
def FnExactParseTypeWrongFalsely : Prop := fnExactParseTypeRow.holds Try.pinned (OpenSpec.ofChange fnExactParseTypeWrong)

/-- 'laws.FnExactSubstType': WHATEVER THE INPUT: true; the input reads as it did. -/
def fnExactSubstTypeSpec : ChangeSpec := { name := "fnExactSubstType", fn := fun _ => fun
  | [d1, d2] => { results := [.lit (.bool true)], args := [d1, d2] }
  | _ => none }
def fnExactSubstTypeRow : OpenClaim := { program := "ytponaclmbmlahaa", sum := "dc4be5aef0b31034f06d0ae86c052d3f967c501eb6602d0798bb9a815f697f2d", func := "loop.example/modlink/laws.FnExactSubstType", spec := "fnExactSubstType", unfollowed := true, recurses := true, loops := true, plainKeys := false, apart := false }
def FnExactSubstTypeSaid : Prop := fnExactSubstTypeRow.holds Try.pinned (OpenSpec.ofChange fnExactSubstTypeSpec)

/-- ITS FALSE NEIGHBOUR: 'it returns false'. Refute it at one input. -/
def fnExactSubstTypeWrong : ChangeSpec := { name := "fnExactSubstType", fn := fun _ => fun
  | [d1, d2] => { results := [.lit (.bool false)], args := [d1, d2] }
  | _ => none }
def FnExactSubstTypeWrongFalsely : Prop := fnExactSubstTypeRow.holds Try.pinned (OpenSpec.ofChange fnExactSubstTypeWrong)

/-- 'laws.FnExactTypeNames': WHATEVER THE INPUT: true; the input reads as it did. -/
def fnExactTypeNamesSpec : ChangeSpec := { name := "fnExactTypeNames", fn := fun _ => fun
  | [d] => { results := [.lit (.bool true)], args := [d] }
  | _ => none }
def fnExactTypeNamesRow : OpenClaim := { program := "ytponaclmbmlahaa", sum := "dc4be5aef0b31034f06d0ae86c052d3f967c501eb6602d0798bb9a815f697f2d", func := "loop.example/modlink/laws.FnExactTypeNames", spec := "fnExactTypeNames", unfollowed := true, recurses := true, loops := true, plainKeys := false, apart := false }
def FnExactTypeNamesSaid : Prop := fnExactTypeNamesRow.holds Try.pinned (OpenSpec.ofChange fnExactTypeNamesSpec)

/-- ITS FALSE NEIGHBOUR: 'it returns false'. Refute it at one input. -/
def fnExactTypeNamesWrong : ChangeSpec := { name := "fnExactTypeNames", fn := fun _ => fun
  | [d] => { results := [.lit (.bool false)], args := [d] }
  | _ => none }
def FnExactTypeNamesWrongFalsely : Prop := fnExactTypeNamesRow.holds Try.pinned (OpenSpec.ofChange fnExactTypeNamesWrong)

/-- 'laws.FnTypeSame': WHATEVER THE INPUT: true; the input reads as it did. -/
def fnTypeSameSpec : ChangeSpec := { name := "fnTypeSame", fn := fun _ => fun
  | [d] => { results := [.lit (.bool true)], args := [d] }
  | _ => none }
def fnTypeSameRow : OpenClaim := { program := "ytponaclmbmlahaa", sum := "dc4be5aef0b31034f06d0ae86c052d3f967c501eb6602d0798bb9a815f697f2d", func := "loop.example/modlink/laws.FnTypeSame", spec := "fnTypeSame", unfollowed := true, recurses := true, plainKeys := false, apart := false }
def FnTypeSameSaid : Prop := fnTypeSameRow.holds Try.pinned (OpenSpec.ofChange fnTypeSameSpec)

/-- ITS FALSE NEIGHBOUR: 'it returns false'. Refute it at one input. -/
def fnTypeSameWrong : ChangeSpec := { name := "fnTypeSame", fn := fun _ => fun
  | [d] => { results := [.lit (.bool false)], args := [d] }
  | _ => none }
def FnTypeSameWrongFalsely : Prop := fnTypeSameRow.holds Try.pinned (OpenSpec.ofChange fnTypeSameWrong)

/-- 'laws.FnTypeParts': WHATEVER THE INPUT: true; the input reads as it did. -/
def fnTypePartsSpec : ChangeSpec := { name := "fnTypeParts", fn := fun _ => fun
  | [d] => { results := [.lit (.bool true)], args := [d] }
  | _ => none }
def fnTypePartsRow : OpenClaim := { program := "ytponaclmbmlahaa", sum := "dc4be5aef0b31034f06d0ae86c052d3f967c501eb6602d0798bb9a815f697f2d", func := "loop.example/modlink/laws.FnTypeParts", spec := "fnTypeParts", recurses := true, plainKeys := false, apart := false }
def FnTypePartsSaid : Prop := fnTypePartsRow.holds Try.pinned (OpenSpec.ofChange fnTypePartsSpec)

/-- ITS FALSE NEIGHBOUR: 'it returns false'. Refute it at one input. -/
def fnTypePartsWrong : ChangeSpec := { name := "fnTypeParts", fn := fun _ => fun
  | [d] => { results := [.lit (.bool false)], args := [d] }
  | _ => none }
def FnTypePartsWrongFalsely : Prop := fnTypePartsRow.holds Try.pinned (OpenSpec.ofChange fnTypePartsWrong)

/-- 'laws.FnTypeText': WHATEVER THE INPUT: true; the input reads as it did. -/
def fnTypeTextSpec : ChangeSpec := { name := "fnTypeText", fn := fun _ => fun
  | [d1, d2] => { results := [.lit (.bool true)], args := [d1, d2] }
  | _ => none }
def fnTypeTextRow : OpenClaim := { program := "ytponaclmbmlahaa", sum := "dc4be5aef0b31034f06d0ae86c052d3f967c501eb6602d0798bb9a815f697f2d", func := "loop.example/modlink/laws.FnTypeText", spec := "fnTypeText", unfollowed := true, recurses := true, plainKeys := false, apart := false }
def FnTypeTextSaid : Prop := fnTypeTextRow.holds Try.pinned (OpenSpec.ofChange fnTypeTextSpec)

/-- ITS FALSE NEIGHBOUR: 'it returns false'. Refute it at one input. -/
def fnTypeTextWrong : ChangeSpec := { name := "fnTypeText", fn := fun _ => fun
  | [d1, d2] => { results := [.lit (.bool false)], args := [d1, d2] }
  | _ => none }
def FnTypeTextWrongFalsely : Prop := fnTypeTextRow.holds Try.pinned (OpenSpec.ofChange fnTypeTextWrong)

/-- 'laws.FnExactSigValid': WHATEVER THE INPUT: true; the input reads as it did. -/
def fnExactSigValidSpec : ChangeSpec := { name := "fnExactSigValid", fn := fun _ => fun
  | [d] => { results := [.lit (.bool true)], args := [d] }
  | _ => none }
def fnExactSigValidRow : OpenClaim := { program := "ytponaclmbmlahaa", sum := "dc4be5aef0b31034f06d0ae86c052d3f967c501eb6602d0798bb9a815f697f2d", func := "loop.example/modlink/laws.FnExactSigValid", spec := "fnExactSigValid", unfollowed := true, recurses := true, loops := true, plainKeys := false, apart := false }
def FnExactSigValidSaid : Prop := fnExactSigValidRow.holds Try.pinned (OpenSpec.ofChange fnExactSigValidSpec)

/-- ITS FALSE NEIGHBOUR: 'it returns false'. Refute it at one input. -/
def fnExactSigValidWrong : ChangeSpec := { name := "fnExactSigValid", fn := fun _ => fun
  | [d] => { results := [.lit (.bool false)], args := [d] }
  | _ => none }
def FnExactSigValidWrongFalsely : Prop := fnExactSigValidRow.holds Try.pinned (OpenSpec.ofChange fnExactSigValidWrong)

/-- 'laws.FnExactFormatSig': WHATEVER THE INPUT: true; the input reads as it did. -/
def fnExactFormatSigSpec : ChangeSpec := { name := "fnExactFormatSig", fn := fun _ => fun
  | [d] => { results := [.lit (.bool true)], args := [d] }
  | _ => none }
def fnExactFormatSigRow : OpenClaim := { program := "ytponaclmbmlahaa", sum := "dc4be5aef0b31034f06d0ae86c052d3f967c501eb6602d0798bb9a815f697f2d", func := "loop.example/modlink/laws.FnExactFormatSig", spec := "fnExactFormatSig", inPlace := ["internal/abi.NoEscape"], unfollowed := true, recurses := true, loops := true, plainKeys := false, apart := false }
def FnExactFormatSigSaid : Prop := fnExactFormatSigRow.holds Try.pinned (OpenSpec.ofChange fnExactFormatSigSpec)

/-- ITS FALSE NEIGHBOUR: 'it returns false'. Refute it at one input. -/
def fnExactFormatSigWrong : ChangeSpec := { name := "fnExactFormatSig", fn := fun _ => fun
  | [d] => { results := [.lit (.bool false)], args := [d] }
  | _ => none }
def FnExactFormatSigWrongFalsely : Prop := fnExactFormatSigRow.holds Try.pinned (OpenSpec.ofChange fnExactFormatSigWrong)

/-- 'laws.FnExactSigSame': WHATEVER THE INPUT: true; the input reads as it did. -/
def fnExactSigSameSpec : ChangeSpec := { name := "fnExactSigSame", fn := fun _ => fun
  | [d1, d2] => { results := [.lit (.bool true)], args := [d1, d2] }
  | _ => none }
def fnExactSigSameRow : OpenClaim := { program := "ytponaclmbmlahaa", sum := "dc4be5aef0b31034f06d0ae86c052d3f967c501eb6602d0798bb9a815f697f2d", func := "loop.example/modlink/laws.FnExactSigSame", spec := "fnExactSigSame", unfollowed := true, recurses := true, loops := true, plainKeys := false, apart := false }
def FnExactSigSameSaid : Prop := fnExactSigSameRow.holds Try.pinned (OpenSpec.ofChange fnExactSigSameSpec)

/-- ITS FALSE NEIGHBOUR: 'it returns false'. Refute it at one input. -/
def fnExactSigSameWrong : ChangeSpec := { name := "fnExactSigSame", fn := fun _ => fun
  | [d1, d2] => { results := [.lit (.bool false)], args := [d1, d2] }
  | _ => none }
def FnExactSigSameWrongFalsely : Prop := fnExactSigSameRow.holds Try.pinned (OpenSpec.ofChange fnExactSigSameWrong)

/- THE SECOND FORM. 'bulk': how many values and letters a reading holds, each counted each time it is reached (what is shared counts as often as it is met; a slice's spare places count too). A statement '..UptoSaid' is the law's where the arguments, and the package variables that the reading takes, are together of bulk at most 1048576: NARROWER than '..Said'. Prove '..Said' where nothing that the law and all that it calls make is longer than what came in: it says more and counts as full. Else prove '..UptoSaid'. A law counts once. -/
mutual
def uptoBulk {H : Type} : DataW H → Nat
  | .lit (.string bytes) => bytes.length + 1
  | .lit _ => 1
  | .nil => 1
  | .ptr d => uptoBulk d + 1
  | .slice elems spare => uptoBulkAll elems + uptoBulkAll spare + 1
  | .agg parts => uptoBulkAll parts + 1
  | .iface _ d => uptoBulk d + 1
  | .map entries => uptoBulkEntries entries + 1
  | .held _ => 1
def uptoBulkAll {H : Type} : List (DataW H) → Nat
  | [] => 0
  | d :: r => uptoBulk d + uptoBulkAll r
def uptoBulkEntries {H : Type} : List (Lit × DataW H) → Nat
  | [] => 0
  | x :: r => uptoBulkEntry x + uptoBulkEntries r
def uptoBulkEntry {H : Type} : Lit × DataW H → Nat
  | (.string bytes, d) => bytes.length + uptoBulk d + 1
  | (_, d) => uptoBulk d + 1
 end
def uptoSmall : (H : Type) → List (DataW H) → Bool := fun _ ds => decide (uptoBulkAll ds ≤ 1048576)
def OpenSpec.upto (s : _root_.Go.ChangeSpec) : _root_.Go.OpenSpec := { _root_.Go.OpenSpec.ofChange s with cond := some uptoSmall }

/-- 'laws.FnExactFormatType', WHERE WHAT IT READS IS OF BULK AT MOST 1048576: true; the input reads as it did. -/
def fnExactFormatTypeUptoRow : OpenClaim := { program := "ytponaclmbmlahaa", sum := "dc4be5aef0b31034f06d0ae86c052d3f967c501eb6602d0798bb9a815f697f2d", func := "loop.example/modlink/laws.FnExactFormatType", spec := "fnExactFormatType", unfollowed := true, recurses := true, loops := true, plainKeys := false, apart := false, narrowed := true }
def FnExactFormatTypeUptoSaid : Prop := fnExactFormatTypeUptoRow.holds Try.pinned (OpenSpec.upto fnExactFormatTypeSpec)

/-- 'laws.FnExactParseType', WHERE WHAT IT READS IS OF BULK AT MOST 1048576: true; the input reads as it did. -/
def fnExactParseTypeUptoRow : OpenClaim := { program := "ytponaclmbmlahaa", sum := "dc4be5aef0b31034f06d0ae86c052d3f967c501eb6602d0798bb9a815f697f2d", func := "loop.example/modlink/laws.FnExactParseType", spec := "fnExactParseType", unfollowed := true, recurses := true, plainKeys := false, apart := false, narrowed := true }
def FnExactParseTypeUptoSaid : Prop := fnExactParseTypeUptoRow.holds Try.pinned (OpenSpec.upto fnExactParseTypeSpec)

/-- 'laws.FnExactSubstType', WHERE WHAT IT READS IS OF BULK AT MOST 1048576: true; the input reads as it did. -/
def fnExactSubstTypeUptoRow : OpenClaim := { program := "ytponaclmbmlahaa", sum := "dc4be5aef0b31034f06d0ae86c052d3f967c501eb6602d0798bb9a815f697f2d", func := "loop.example/modlink/laws.FnExactSubstType", spec := "fnExactSubstType", unfollowed := true, recurses := true, loops := true, plainKeys := false, apart := false, narrowed := true }
def FnExactSubstTypeUptoSaid : Prop := fnExactSubstTypeUptoRow.holds Try.pinned (OpenSpec.upto fnExactSubstTypeSpec)

/-- 'laws.FnExactTypeNames', WHERE WHAT IT READS IS OF BULK AT MOST 1048576: true; the input reads as it did. -/
def fnExactTypeNamesUptoRow : OpenClaim := { program := "ytponaclmbmlahaa", sum := "dc4be5aef0b31034f06d0ae86c052d3f967c501eb6602d0798bb9a815f697f2d", func := "loop.example/modlink/laws.FnExactTypeNames", spec := "fnExactTypeNames", unfollowed := true, recurses := true, loops := true, plainKeys := false, apart := false, narrowed := true }
def FnExactTypeNamesUptoSaid : Prop := fnExactTypeNamesUptoRow.holds Try.pinned (OpenSpec.upto fnExactTypeNamesSpec)

/-- 'laws.FnTypeSame', WHERE WHAT IT READS IS OF BULK AT MOST 1048576: true; the input reads as it did. -/
def fnTypeSameUptoRow : OpenClaim := { program := "ytponaclmbmlahaa", sum := "dc4be5aef0b31034f06d0ae86c052d3f967c501eb6602d0798bb9a815f697f2d", func := "loop.example/modlink/laws.FnTypeSame", spec := "fnTypeSame", unfollowed := true, recurses := true, plainKeys := false, apart := false, narrowed := true }
def FnTypeSameUptoSaid : Prop := fnTypeSameUptoRow.holds Try.pinned (OpenSpec.upto fnTypeSameSpec)

/-- 'laws.FnTypeParts', WHERE WHAT IT READS IS OF BULK AT MOST 1048576: true; the input reads as it did. -/
def fnTypePartsUptoRow : OpenClaim := { program := "ytponaclmbmlahaa", sum := "dc4be5aef0b31034f06d0ae86c052d3f967c501eb6602d0798bb9a815f697f2d", func := "loop.example/modlink/laws.FnTypeParts", spec := "fnTypeParts", recurses := true, plainKeys := false, apart := false, narrowed := true }
def FnTypePartsUptoSaid : Prop := fnTypePartsUptoRow.holds Try.pinned (OpenSpec.upto fnTypePartsSpec)

/-- 'laws.FnTypeText', WHERE WHAT IT READS IS OF BULK AT MOST 1048576: true; the input reads as it did. -/
def fnTypeTextUptoRow : OpenClaim := { program := "ytponaclmbmlahaa", sum := "dc4be5aef0b31034f06d0ae86c052d3f967c501eb6602d0798bb9a815f697f2d", func := "loop.example/modlink/laws.FnTypeText", spec := "fnTypeText", unfollowed := true, recurses := true, plainKeys := false, apart := false, narrowed := true }
def FnTypeTextUptoSaid : Prop := fnTypeTextUptoRow.holds Try.pinned (OpenSpec.upto fnTypeTextSpec)

/-- 'laws.FnExactSigValid', WHERE WHAT IT READS IS OF BULK AT MOST 1048576: true; the input reads as it did. -/
def fnExactSigValidUptoRow : OpenClaim := { program := "ytponaclmbmlahaa", sum := "dc4be5aef0b31034f06d0ae86c052d3f967c501eb6602d0798bb9a815f697f2d", func := "loop.example/modlink/laws.FnExactSigValid", spec := "fnExactSigValid", unfollowed := true, recurses := true, loops := true, plainKeys := false, apart := false, narrowed := true }
def FnExactSigValidUptoSaid : Prop := fnExactSigValidUptoRow.holds Try.pinned (OpenSpec.upto fnExactSigValidSpec)

/-- 'laws.FnExactFormatSig', WHERE WHAT IT READS IS OF BULK AT MOST 1048576: true; the input reads as it did. -/
def fnExactFormatSigUptoRow : OpenClaim := { program := "ytponaclmbmlahaa", sum := "dc4be5aef0b31034f06d0ae86c052d3f967c501eb6602d0798bb9a815f697f2d", func := "loop.example/modlink/laws.FnExactFormatSig", spec := "fnExactFormatSig", inPlace := ["internal/abi.NoEscape"], unfollowed := true, recurses := true, loops := true, plainKeys := false, apart := false, narrowed := true }
def FnExactFormatSigUptoSaid : Prop := fnExactFormatSigUptoRow.holds Try.pinned (OpenSpec.upto fnExactFormatSigSpec)

/-- 'laws.FnExactSigSame', WHERE WHAT IT READS IS OF BULK AT MOST 1048576: true; the input reads as it did. -/
def fnExactSigSameUptoRow : OpenClaim := { program := "ytponaclmbmlahaa", sum := "dc4be5aef0b31034f06d0ae86c052d3f967c501eb6602d0798bb9a815f697f2d", func := "loop.example/modlink/laws.FnExactSigSame", spec := "fnExactSigSame", unfollowed := true, recurses := true, loops := true, plainKeys := false, apart := false, narrowed := true }
def FnExactSigSameUptoSaid : Prop := fnExactSigSameUptoRow.holds Try.pinned (OpenSpec.upto fnExactSigSameSpec)

end Rows
end Go.Proofs.Ytponaclmbmlahaa
