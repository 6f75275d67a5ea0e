/-
  NARROWER THAN 'FOR EVERY INPUT', by the rows' own cells (each row's printed sentence says how): FnExactTypeValid: loops.
  DERIVED. THE GIVEN ROWS OF THIS SEAT. 12 by the template 'for every input the law returns true; each argument reads behind the call as it read before'; 0 by the template 'total and deterministic' (their statements: YtcbmkghepiohbaaTotals.lean).
  GIVEN WITH THE SEED: the statements are not yours to turn. If you find one false, say at which input.
  Laid BY PROGRAM, IN A SANDBOX (cutbox-rows.mjs): the forced cells as the released guide's own fill.sh prints them over the translation 5dd3aa109bb83642… (all of the seat's roots in one cut). By AI agents, Wed Nov 11 2026. No macro, syntax, notation, axiom, sorry.
-/
import Derived.Test.YtcbmkghepiohbaaChecked
import GoSem.Claim
import GoSem.ClaimJoined
import GoSem.ClaimMapViews
import Derived.JoinedTies
import Derived.KernelRfl
namespace Go.Proofs.Ytcbmkghepiohbaa
/- THE CELL 'sum', in the pinned program and in every row, IS THE sha256 OF THE DUMP (.gsa) THAT YtcbmkghepiohbaaProg.lean LOADS. Nothing in Lean hashes anything: it is a label: what it is worth is what the hold of that sum in a sandbox is worth. -/
noncomputable def Try.pinned : Pinned := { name := "ytcbmkghepiohbaa", sum := "5dd3aa109bb83642e715408a495f7d2dd82f9409c9836ade8cde6703afd42122", checked := Try.checked }
namespace Rows
def none {H : Type} : Left H := { results := [], args := [] }

/-- 'laws.FnTypeText': WHATEVER THE INPUT: true; the input reads as it did. -/
def fnTypeTextSpec : ChangeSpec := { name := "fnTypeText", fn := fun _ => fun
  | [d1, d2] => { results := [.lit (.bool true)], args := [d1, d2] }
  | _ => none }
def fnTypeTextRow : OpenClaim := { program := "ytcbmkghepiohbaa", sum := "5dd3aa109bb83642e715408a495f7d2dd82f9409c9836ade8cde6703afd42122", func := "loop.example/modlink/laws.FnTypeText", spec := "fnTypeText", unfollowed := true, recurses := true, plainKeys := false, apart := false }
def FnTypeTextSaid : Prop := fnTypeTextRow.holds Try.pinned (OpenSpec.ofChange fnTypeTextSpec)

/-- ITS FALSE NEIGHBOUR: 'it returns false'. Refute it at one input. -/
def fnTypeTextWrong : ChangeSpec := { name := "fnTypeText", fn := fun _ => fun
  | [d1, d2] => { results := [.lit (.bool false)], args := [d1, d2] }
  | _ => none }
def FnTypeTextWrongFalsely : Prop := fnTypeTextRow.holds Try.pinned (OpenSpec.ofChange fnTypeTextWrong)

/-- 'laws.FnTypeSame': WHATEVER THE INPUT: true; the input reads as it did. -/
def fnTypeSameSpec : ChangeSpec := { name := "fnTypeSame", fn := fun _ => fun
  | [d] => { results := [.lit (.bool true)], args := [d] }
  | _ => none }
def fnTypeSameRow : OpenClaim := { program := "ytcbmkghepiohbaa", sum := "5dd3aa109bb83642e715408a495f7d2dd82f9409c9836ade8cde6703afd42122", func := "loop.example/modlink/laws.FnTypeSame", spec := "fnTypeSame", unfollowed := true, recurses := true, plainKeys := false, apart := false }
def FnTypeSameSaid : Prop := fnTypeSameRow.holds Try.pinned (OpenSpec.ofChange fnTypeSameSpec)

/-- ITS FALSE NEIGHBOUR: 'it returns false'. Refute it at one input. -/
def fnTypeSameWrong : ChangeSpec := { name := "fnTypeSame", fn := fun _ => fun
  | [d] => { results := [.lit (.bool false)], args := [d] }
  | _ => none }
def FnTypeSameWrongFalsely : Prop := fnTypeSameRow.holds Try.pinned (OpenSpec.ofChange fnTypeSameWrong)

/-- 'laws.FnSubstType': WHATEVER THE INPUT: true; the input reads as it did. -/
def fnSubstTypeSpec : ChangeSpec := { name := "fnSubstType", fn := fun _ => fun
  | [d] => { results := [.lit (.bool true)], args := [d] }
  | _ => none }
def fnSubstTypeRow : OpenClaim := { program := "ytcbmkghepiohbaa", sum := "5dd3aa109bb83642e715408a495f7d2dd82f9409c9836ade8cde6703afd42122", func := "loop.example/modlink/laws.FnSubstType", spec := "fnSubstType", unfollowed := true, recurses := true, plainKeys := false, apart := false }
def FnSubstTypeSaid : Prop := fnSubstTypeRow.holds Try.pinned (OpenSpec.ofChange fnSubstTypeSpec)

/-- ITS FALSE NEIGHBOUR: 'it returns false'. Refute it at one input. -/
def fnSubstTypeWrong : ChangeSpec := { name := "fnSubstType", fn := fun _ => fun
  | [d] => { results := [.lit (.bool false)], args := [d] }
  | _ => none }
def FnSubstTypeWrongFalsely : Prop := fnSubstTypeRow.holds Try.pinned (OpenSpec.ofChange fnSubstTypeWrong)

/-- 'laws.FnSubstTwice': WHATEVER THE INPUT: true; the input reads as it did. -/
def fnSubstTwiceSpec : ChangeSpec := { name := "fnSubstTwice", fn := fun _ => fun
  | [d1, d2] => { results := [.lit (.bool true)], args := [d1, d2] }
  | _ => none }
def fnSubstTwiceRow : OpenClaim := { program := "ytcbmkghepiohbaa", sum := "5dd3aa109bb83642e715408a495f7d2dd82f9409c9836ade8cde6703afd42122", func := "loop.example/modlink/laws.FnSubstTwice", spec := "fnSubstTwice", unfollowed := true, recurses := true, plainKeys := false, apart := false }
def FnSubstTwiceSaid : Prop := fnSubstTwiceRow.holds Try.pinned (OpenSpec.ofChange fnSubstTwiceSpec)

/-- ITS FALSE NEIGHBOUR: 'it returns false'. Refute it at one input. -/
def fnSubstTwiceWrong : ChangeSpec := { name := "fnSubstTwice", fn := fun _ => fun
  | [d1, d2] => { results := [.lit (.bool false)], args := [d1, d2] }
  | _ => none }
def FnSubstTwiceWrongFalsely : Prop := fnSubstTwiceRow.holds Try.pinned (OpenSpec.ofChange fnSubstTwiceWrong)

/-- 'laws.FnTypeNames': WHATEVER THE INPUT: true; the input reads as it did. -/
def fnTypeNamesSpec : ChangeSpec := { name := "fnTypeNames", fn := fun _ => fun
  | [d] => { results := [.lit (.bool true)], args := [d] }
  | _ => none }
def fnTypeNamesRow : OpenClaim := { program := "ytcbmkghepiohbaa", sum := "5dd3aa109bb83642e715408a495f7d2dd82f9409c9836ade8cde6703afd42122", func := "loop.example/modlink/laws.FnTypeNames", spec := "fnTypeNames", unfollowed := true, recurses := true, plainKeys := false, apart := false }
def FnTypeNamesSaid : Prop := fnTypeNamesRow.holds Try.pinned (OpenSpec.ofChange fnTypeNamesSpec)

/-- ITS FALSE NEIGHBOUR: 'it returns false'. Refute it at one input. -/
def fnTypeNamesWrong : ChangeSpec := { name := "fnTypeNames", fn := fun _ => fun
  | [d] => { results := [.lit (.bool false)], args := [d] }
  | _ => none }
def FnTypeNamesWrongFalsely : Prop := fnTypeNamesRow.holds Try.pinned (OpenSpec.ofChange fnTypeNamesWrong)

/-- 'laws.FnTypeCount': WHATEVER THE INPUT: true; the input reads as it did. -/
def fnTypeCountSpec : ChangeSpec := { name := "fnTypeCount", fn := fun _ => fun
  | [d] => { results := [.lit (.bool true)], args := [d] }
  | _ => none }
def fnTypeCountRow : OpenClaim := { program := "ytcbmkghepiohbaa", sum := "5dd3aa109bb83642e715408a495f7d2dd82f9409c9836ade8cde6703afd42122", func := "loop.example/modlink/laws.FnTypeCount", spec := "fnTypeCount", unfollowed := true, recurses := true, plainKeys := false, apart := false }
def FnTypeCountSaid : Prop := fnTypeCountRow.holds Try.pinned (OpenSpec.ofChange fnTypeCountSpec)

/-- ITS FALSE NEIGHBOUR: 'it returns false'. Refute it at one input. -/
def fnTypeCountWrong : ChangeSpec := { name := "fnTypeCount", fn := fun _ => fun
  | [d] => { results := [.lit (.bool false)], args := [d] }
  | _ => none }
def FnTypeCountWrongFalsely : Prop := fnTypeCountRow.holds Try.pinned (OpenSpec.ofChange fnTypeCountWrong)

/-- 'laws.FnNames': WHATEVER THE INPUT: true; the input reads as it did. -/
def fnNamesSpec : ChangeSpec := { name := "fnNames", fn := fun _ => fun
  | [d1, d2] => { results := [.lit (.bool true)], args := [d1, d2] }
  | _ => none }
def fnNamesRow : OpenClaim := { program := "ytcbmkghepiohbaa", sum := "5dd3aa109bb83642e715408a495f7d2dd82f9409c9836ade8cde6703afd42122", func := "loop.example/modlink/laws.FnNames", spec := "fnNames", unfollowed := true, recurses := true, plainKeys := false, apart := false }
def FnNamesSaid : Prop := fnNamesRow.holds Try.pinned (OpenSpec.ofChange fnNamesSpec)

/-- ITS FALSE NEIGHBOUR: 'it returns false'. Refute it at one input. -/
def fnNamesWrong : ChangeSpec := { name := "fnNames", fn := fun _ => fun
  | [d1, d2] => { results := [.lit (.bool false)], args := [d1, d2] }
  | _ => none }
def FnNamesWrongFalsely : Prop := fnNamesRow.holds Try.pinned (OpenSpec.ofChange fnNamesWrong)

/-- 'laws.FnSubstPlain': WHATEVER THE INPUT: true; the input reads as it did. -/
def fnSubstPlainSpec : ChangeSpec := { name := "fnSubstPlain", fn := fun _ => fun
  | [d] => { results := [.lit (.bool true)], args := [d] }
  | _ => none }
def fnSubstPlainRow : OpenClaim := { program := "ytcbmkghepiohbaa", sum := "5dd3aa109bb83642e715408a495f7d2dd82f9409c9836ade8cde6703afd42122", func := "loop.example/modlink/laws.FnSubstPlain", spec := "fnSubstPlain", unfollowed := true, recurses := true, plainKeys := false, apart := false }
def FnSubstPlainSaid : Prop := fnSubstPlainRow.holds Try.pinned (OpenSpec.ofChange fnSubstPlainSpec)

/-- ITS FALSE NEIGHBOUR: 'it returns false'. Refute it at one input. -/
def fnSubstPlainWrong : ChangeSpec := { name := "fnSubstPlain", fn := fun _ => fun
  | [d] => { results := [.lit (.bool false)], args := [d] }
  | _ => none }
def FnSubstPlainWrongFalsely : Prop := fnSubstPlainRow.holds Try.pinned (OpenSpec.ofChange fnSubstPlainWrong)

/-- 'laws.FnTypeParts': WHATEVER THE INPUT: true; the input reads as it did. -/
def fnTypePartsSpec : ChangeSpec := { name := "fnTypeParts", fn := fun _ => fun
  | [d] => { results := [.lit (.bool true)], args := [d] }
  | _ => none }
def fnTypePartsRow : OpenClaim := { program := "ytcbmkghepiohbaa", sum := "5dd3aa109bb83642e715408a495f7d2dd82f9409c9836ade8cde6703afd42122", func := "loop.example/modlink/laws.FnTypeParts", spec := "fnTypeParts", recurses := true, plainKeys := false, apart := false }
def FnTypePartsSaid : Prop := fnTypePartsRow.holds Try.pinned (OpenSpec.ofChange fnTypePartsSpec)

/-- ITS FALSE NEIGHBOUR: 'it returns false'. Refute it at one input. -/
def fnTypePartsWrong : ChangeSpec := { name := "fnTypeParts", fn := fun _ => fun
  | [d] => { results := [.lit (.bool false)], args := [d] }
  | _ => none }
def FnTypePartsWrongFalsely : Prop := fnTypePartsRow.holds Try.pinned (OpenSpec.ofChange fnTypePartsWrong)

/-- 'laws.FnExactLocalName': WHATEVER THE INPUT: true; the input reads as it did. -/
def fnExactLocalNameSpec : ChangeSpec := { name := "fnExactLocalName", fn := fun _ => fun
  | [d] => { results := [.lit (.bool true)], args := [d] }
  | _ => none }
def fnExactLocalNameRow : OpenClaim := { program := "ytcbmkghepiohbaa", sum := "5dd3aa109bb83642e715408a495f7d2dd82f9409c9836ade8cde6703afd42122", func := "loop.example/modlink/laws.FnExactLocalName", spec := "fnExactLocalName", plainKeys := false, apart := false }
def FnExactLocalNameSaid : Prop := fnExactLocalNameRow.holds Try.pinned (OpenSpec.ofChange fnExactLocalNameSpec)

/-- ITS FALSE NEIGHBOUR: 'it returns false'. Refute it at one input. -/
def fnExactLocalNameWrong : ChangeSpec := { name := "fnExactLocalName", fn := fun _ => fun
  | [d] => { results := [.lit (.bool false)], args := [d] }
  | _ => none }
def FnExactLocalNameWrongFalsely : Prop := fnExactLocalNameRow.holds Try.pinned (OpenSpec.ofChange fnExactLocalNameWrong)

/-- 'laws.FnExactModuleName': WHATEVER THE INPUT: true; the input reads as it did. -/
def fnExactModuleNameSpec : ChangeSpec := { name := "fnExactModuleName", fn := fun _ => fun
  | [d] => { results := [.lit (.bool true)], args := [d] }
  | _ => none }
def fnExactModuleNameRow : OpenClaim := { program := "ytcbmkghepiohbaa", sum := "5dd3aa109bb83642e715408a495f7d2dd82f9409c9836ade8cde6703afd42122", func := "loop.example/modlink/laws.FnExactModuleName", spec := "fnExactModuleName", plainKeys := false, apart := false }
def FnExactModuleNameSaid : Prop := fnExactModuleNameRow.holds Try.pinned (OpenSpec.ofChange fnExactModuleNameSpec)

/-- ITS FALSE NEIGHBOUR: 'it returns false'. Refute it at one input. -/
def fnExactModuleNameWrong : ChangeSpec := { name := "fnExactModuleName", fn := fun _ => fun
  | [d] => { results := [.lit (.bool false)], args := [d] }
  | _ => none }
def FnExactModuleNameWrongFalsely : Prop := fnExactModuleNameRow.holds Try.pinned (OpenSpec.ofChange fnExactModuleNameWrong)

/-- 'laws.FnExactTypeValid': WHATEVER THE INPUT: true; the input reads as it did. -/
def fnExactTypeValidSpec : ChangeSpec := { name := "fnExactTypeValid", fn := fun _ => fun
  | [d] => { results := [.lit (.bool true)], args := [d] }
  | _ => none }
def fnExactTypeValidRow : OpenClaim := { program := "ytcbmkghepiohbaa", sum := "5dd3aa109bb83642e715408a495f7d2dd82f9409c9836ade8cde6703afd42122", func := "loop.example/modlink/laws.FnExactTypeValid", spec := "fnExactTypeValid", unfollowed := true, recurses := true, loops := true, plainKeys := false, apart := false }
def FnExactTypeValidSaid : Prop := fnExactTypeValidRow.holds Try.pinned (OpenSpec.ofChange fnExactTypeValidSpec)

/-- ITS FALSE NEIGHBOUR: 'it returns false'. Refute it at one input. -/
def fnExactTypeValidWrong : ChangeSpec := { name := "fnExactTypeValid", fn := fun _ => fun
  | [d] => { results := [.lit (.bool false)], args := [d] }
  | _ => none }
def FnExactTypeValidWrongFalsely : Prop := fnExactTypeValidRow.holds Try.pinned (OpenSpec.ofChange fnExactTypeValidWrong)

/- THE SECOND FORM. 'bulk': how many values and letters a reading holds, each counted each time it is reached (what is shared counts as often as it is met; a slice's spare places count too). A statement '..UptoSaid' is the law's where the arguments, and the package variables that the reading takes, are together of bulk at most 1048576: NARROWER than '..Said'. Prove '..Said' where nothing that the law and all that it calls make is longer than what came in: it says more and counts as full. Else prove '..UptoSaid'. A law counts once. -/
mutual
def uptoBulk {H : Type} : DataW H → Nat
  | .lit (.string bytes) => bytes.length + 1
  | .lit _ => 1
  | .nil => 1
  | .ptr d => uptoBulk d + 1
  | .slice elems spare => uptoBulkAll elems + uptoBulkAll spare + 1
  | .agg parts => uptoBulkAll parts + 1
  | .iface _ d => uptoBulk d + 1
  | .map entries => uptoBulkEntries entries + 1
  | .held _ => 1
def uptoBulkAll {H : Type} : List (DataW H) → Nat
  | [] => 0
  | d :: r => uptoBulk d + uptoBulkAll r
def uptoBulkEntries {H : Type} : List (Lit × DataW H) → Nat
  | [] => 0
  | x :: r => uptoBulkEntry x + uptoBulkEntries r
def uptoBulkEntry {H : Type} : Lit × DataW H → Nat
  | (.string bytes, d) => bytes.length + uptoBulk d + 1
  | (_, d) => uptoBulk d + 1
 end
def uptoSmall : (H : Type) → List (DataW H) → Bool := fun _ ds => decide (uptoBulkAll ds ≤ 1048576)
def OpenSpec.upto (s : _root_.Go.ChangeSpec) : _root_.Go.OpenSpec := { _root_.Go.OpenSpec.ofChange s with cond := some uptoSmall }

/-- 'laws.FnTypeText', WHERE WHAT IT READS IS OF BULK AT MOST 1048576: true; the input reads as it did. -/
def fnTypeTextUptoRow : OpenClaim := { program := "ytcbmkghepiohbaa", sum := "5dd3aa109bb83642e715408a495f7d2dd82f9409c9836ade8cde6703afd42122", func := "loop.example/modlink/laws.FnTypeText", spec := "fnTypeText", unfollowed := true, recurses := true, plainKeys := false, apart := false, narrowed := true }
def FnTypeTextUptoSaid : Prop := fnTypeTextUptoRow.holds Try.pinned (OpenSpec.upto fnTypeTextSpec)

/-- 'laws.FnTypeSame', WHERE WHAT IT READS IS OF BULK AT MOST 1048576: true; the input reads as it did. -/
def fnTypeSameUptoRow : OpenClaim := { program := "ytcbmkghepiohbaa", sum := "5dd3aa109bb83642e715408a495f7d2dd82f9409c9836ade8cde6703afd42122", func := "loop.example/modlink/laws.FnTypeSame", spec := "fnTypeSame", unfollowed := true, recurses := true, plainKeys := false, apart := false, narrowed := true }
def FnTypeSameUptoSaid : Prop := fnTypeSameUptoRow.holds Try.pinned (OpenSpec.upto fnTypeSameSpec)

/-- 'laws.FnSubstType', WHERE WHAT IT READS IS OF BULK AT MOST 1048576: true; the input reads as it did. -/
def fnSubstTypeUptoRow : OpenClaim := { program := "ytcbmkghepiohbaa", sum := "5dd3aa109bb83642e715408a495f7d2dd82f9409c9836ade8cde6703afd42122", func := "loop.example/modlink/laws.FnSubstType", spec := "fnSubstType", unfollowed := true, recurses := true, plainKeys := false, apart := false, narrowed := true }
def FnSubstTypeUptoSaid : Prop := fnSubstTypeUptoRow.holds Try.pinned (OpenSpec.upto fnSubstTypeSpec)

/-- 'laws.FnSubstTwice', WHERE WHAT IT READS IS OF BULK AT MOST 1048576: true; the input reads as it did. -/
def fnSubstTwiceUptoRow : OpenClaim := { program := "ytcbmkghepiohbaa", sum := "5dd3aa109bb83642e715408a495f7d2dd82f9409c9836ade8cde6703afd42122", func := "loop.example/modlink/laws.FnSubstTwice", spec := "fnSubstTwice", unfollowed := true, recurses := true, plainKeys := false, apart := false, narrowed := true }
def FnSubstTwiceUptoSaid : Prop := fnSubstTwiceUptoRow.holds Try.pinned (OpenSpec.upto fnSubstTwiceSpec)

/-- 'laws.FnTypeNames', WHERE WHAT IT READS IS OF BULK AT MOST 1048576: true; the input reads as it did. -/
def fnTypeNamesUptoRow : OpenClaim := { program := "ytcbmkghepiohbaa", sum := "5dd3aa109bb83642e715408a495f7d2dd82f9409c9836ade8cde6703afd42122", func := "loop.example/modlink/laws.FnTypeNames", spec := "fnTypeNames", unfollowed := true, recurses := true, plainKeys := false, apart := false, narrowed := true }
def FnTypeNamesUptoSaid : Prop := fnTypeNamesUptoRow.holds Try.pinned (OpenSpec.upto fnTypeNamesSpec)

/-- 'laws.FnTypeCount', WHERE WHAT IT READS IS OF BULK AT MOST 1048576: true; the input reads as it did. -/
def fnTypeCountUptoRow : OpenClaim := { program := "ytcbmkghepiohbaa", sum := "5dd3aa109bb83642e715408a495f7d2dd82f9409c9836ade8cde6703afd42122", func := "loop.example/modlink/laws.FnTypeCount", spec := "fnTypeCount", unfollowed := true, recurses := true, plainKeys := false, apart := false, narrowed := true }
def FnTypeCountUptoSaid : Prop := fnTypeCountUptoRow.holds Try.pinned (OpenSpec.upto fnTypeCountSpec)

/-- 'laws.FnNames', WHERE WHAT IT READS IS OF BULK AT MOST 1048576: true; the input reads as it did. -/
def fnNamesUptoRow : OpenClaim := { program := "ytcbmkghepiohbaa", sum := "5dd3aa109bb83642e715408a495f7d2dd82f9409c9836ade8cde6703afd42122", func := "loop.example/modlink/laws.FnNames", spec := "fnNames", unfollowed := true, recurses := true, plainKeys := false, apart := false, narrowed := true }
def FnNamesUptoSaid : Prop := fnNamesUptoRow.holds Try.pinned (OpenSpec.upto fnNamesSpec)

/-- 'laws.FnSubstPlain', WHERE WHAT IT READS IS OF BULK AT MOST 1048576: true; the input reads as it did. -/
def fnSubstPlainUptoRow : OpenClaim := { program := "ytcbmkghepiohbaa", sum := "5dd3aa109bb83642e715408a495f7d2dd82f9409c9836ade8cde6703afd42122", func := "loop.example/modlink/laws.FnSubstPlain", spec := "fnSubstPlain", unfollowed := true, recurses := true, plainKeys := false, apart := false, narrowed := true }
def FnSubstPlainUptoSaid : Prop := fnSubstPlainUptoRow.holds Try.pinned (OpenSpec.upto fnSubstPlainSpec)

/-- 'laws.FnTypeParts', WHERE WHAT IT READS IS OF BULK AT MOST 1048576: true; the input reads as it did. -/
def fnTypePartsUptoRow : OpenClaim := { program := "ytcbmkghepiohbaa", sum := "5dd3aa109bb83642e715408a495f7d2dd82f9409c9836ade8cde6703afd42122", func := "loop.example/modlink/laws.FnTypeParts", spec := "fnTypeParts", recurses := true, plainKeys := false, apart := false, narrowed := true }
def FnTypePartsUptoSaid : Prop := fnTypePartsUptoRow.holds Try.pinned (OpenSpec.upto fnTypePartsSpec)

/-- 'laws.FnExactLocalName', WHERE WHAT IT READS IS OF BULK AT MOST 1048576: true; the input reads as it did. -/
def fnExactLocalNameUptoRow : OpenClaim := { program := "ytcbmkghepiohbaa", sum := "5dd3aa109bb83642e715408a495f7d2dd82f9409c9836ade8cde6703afd42122", func := "loop.example/modlink/laws.FnExactLocalName", spec := "fnExactLocalName", plainKeys := false, apart := false, narrowed := true }
def FnExactLocalNameUptoSaid : Prop := fnExactLocalNameUptoRow.holds Try.pinned (OpenSpec.upto fnExactLocalNameSpec)

/-- 'laws.FnExactModuleName', WHERE WHAT IT READS IS OF BULK AT MOST 1048576: true; the input reads as it did. -/
def fnExactModuleNameUptoRow : OpenClaim := { program := "ytcbmkghepiohbaa", sum := "5dd3aa109bb83642e715408a495f7d2dd82f9409c9836ade8cde6703afd42122", func := "loop.example/modlink/laws.FnExactModuleName", spec := "fnExactModuleName", plainKeys := false, apart := false, narrowed := true }
def FnExactModuleNameUptoSaid : Prop := fnExactModuleNameUptoRow.holds Try.pinned (OpenSpec.upto fnExactModuleNameSpec)

/-- 'laws.FnExactTypeValid', WHERE WHAT IT READS IS OF BULK AT MOST 1048576: true; the input reads as it did. -/
def fnExactTypeValidUptoRow : OpenClaim := { program := "ytcbmkghepiohbaa", sum := "5dd3aa109bb83642e715408a495f7d2dd82f9409c9836ade8cde6703afd42122", func := "loop.example/modlink/laws.FnExactTypeValid", spec := "fnExactTypeValid", unfollowed := true, recurses := true, loops := true, plainKeys := false, apart := false, narrowed := true }
def FnExactTypeValidUptoSaid : Prop := fnExactTypeValidUptoRow.holds Try.pinned (OpenSpec.upto fnExactTypeValidSpec)

end Rows
end Go.Proofs.Ytcbmkghepiohbaa
