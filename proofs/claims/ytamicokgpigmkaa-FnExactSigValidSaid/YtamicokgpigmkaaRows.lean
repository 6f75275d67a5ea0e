/-
  NARROWER THAN 'FOR EVERY INPUT', by the rows' own cells (each row's printed sentence says how): FnExactStructSame: loops · FnExactSigSame: loops · FnExactSigValid: loops · FnExactExprSame: loops.
  DERIVED. THE GIVEN ROWS OF THIS SEAT. 5 by the template 'for every input the law returns true; each argument reads behind the call as it read before'; 0 by the template 'total and deterministic' (their statements: YtamicokgpigmkaaTotals.lean).
  GIVEN WITH THE SEED: the statements are not yours to turn. If you find one false, say at which input.
  Laid BY PROGRAM, IN A SANDBOX (cutbox-rows.mjs): the forced cells as the released guide's own fill.sh prints them over the translation 4184da47577a5276… (all of the seat's roots in one cut). By AI agents, Wed Nov 11 2026. No macro, syntax, notation, axiom, sorry.
-/
import Derived.Test.YtamicokgpigmkaaChecked
import GoSem.Claim
import GoSem.ClaimJoined
import GoSem.ClaimMapViews
import Derived.JoinedTies
import Derived.KernelRfl
namespace Go.Proofs.Ytamicokgpigmkaa
/- THE CELL 'sum', in the pinned program and in every row, IS THE sha256 OF THE DUMP (.gsa) THAT YtamicokgpigmkaaProg.lean LOADS. Nothing in Lean hashes anything: it is a label: what it is worth is what the hold of that sum in a sandbox is worth. -/
noncomputable def Try.pinned : Pinned := { name := "ytamicokgpigmkaa", sum := "4184da47577a527618726b7df03b665f1e2fbbfe02465cbde91ba170d4c2b637", checked := Try.checked }
namespace Rows
def none {H : Type} : Left H := { results := [], args := [] }

/-- 'laws.FnExactStructSame': WHATEVER THE INPUT: true; the input reads as it did. -/
def fnExactStructSameSpec : ChangeSpec := { name := "fnExactStructSame", fn := fun _ => fun
  | [d1, d2] => { results := [.lit (.bool true)], args := [d1, d2] }
  | _ => none }
def fnExactStructSameRow : OpenClaim := { program := "ytamicokgpigmkaa", sum := "4184da47577a527618726b7df03b665f1e2fbbfe02465cbde91ba170d4c2b637", func := "loop.example/modlink/laws.FnExactStructSame", spec := "fnExactStructSame", unfollowed := true, recurses := true, loops := true, plainKeys := false, apart := false }
def FnExactStructSameSaid : Prop := fnExactStructSameRow.holds Try.pinned (OpenSpec.ofChange fnExactStructSameSpec)

/-- ITS FALSE NEIGHBOUR: 'it returns false'. Refute it at one input. -/
def fnExactStructSameWrong : ChangeSpec := { name := "fnExactStructSame", fn := fun _ => fun
  | [d1, d2] => { results := [.lit (.bool false)], args := [d1, d2] }
  | _ => none }
def FnExactStructSameWrongFalsely : Prop := fnExactStructSameRow.holds Try.pinned (OpenSpec.ofChange fnExactStructSameWrong)

/-- 'laws.FnExactSigSame': WHATEVER THE INPUT: true; the input reads as it did. -/
def fnExactSigSameSpec : ChangeSpec := { name := "fnExactSigSame", fn := fun _ => fun
  | [d1, d2] => { results := [.lit (.bool true)], args := [d1, d2] }
  | _ => none }
def fnExactSigSameRow : OpenClaim := { program := "ytamicokgpigmkaa", sum := "4184da47577a527618726b7df03b665f1e2fbbfe02465cbde91ba170d4c2b637", func := "loop.example/modlink/laws.FnExactSigSame", spec := "fnExactSigSame", unfollowed := true, recurses := true, loops := true, plainKeys := false, apart := false }
def FnExactSigSameSaid : Prop := fnExactSigSameRow.holds Try.pinned (OpenSpec.ofChange fnExactSigSameSpec)

/-- ITS FALSE NEIGHBOUR: 'it returns false'. Refute it at one input. -/
def fnExactSigSameWrong : ChangeSpec := { name := "fnExactSigSame", fn := fun _ => fun
  | [d1, d2] => { results := [.lit (.bool false)], args := [d1, d2] }
  | _ => none }
def FnExactSigSameWrongFalsely : Prop := fnExactSigSameRow.holds Try.pinned (OpenSpec.ofChange fnExactSigSameWrong)

/-- 'laws.FnExactSigValid': WHATEVER THE INPUT: true; the input reads as it did. -/
def fnExactSigValidSpec : ChangeSpec := { name := "fnExactSigValid", fn := fun _ => fun
  | [d] => { results := [.lit (.bool true)], args := [d] }
  | _ => none }
def fnExactSigValidRow : OpenClaim := { program := "ytamicokgpigmkaa", sum := "4184da47577a527618726b7df03b665f1e2fbbfe02465cbde91ba170d4c2b637", func := "loop.example/modlink/laws.FnExactSigValid", spec := "fnExactSigValid", unfollowed := true, recurses := true, loops := true, plainKeys := false, apart := false }
def FnExactSigValidSaid : Prop := fnExactSigValidRow.holds Try.pinned (OpenSpec.ofChange fnExactSigValidSpec)

/-- ITS FALSE NEIGHBOUR: 'it returns false'. Refute it at one input. -/
def fnExactSigValidWrong : ChangeSpec := { name := "fnExactSigValid", fn := fun _ => fun
  | [d] => { results := [.lit (.bool false)], args := [d] }
  | _ => none }
def FnExactSigValidWrongFalsely : Prop := fnExactSigValidRow.holds Try.pinned (OpenSpec.ofChange fnExactSigValidWrong)

/-- 'laws.FnExactParseType': WHATEVER THE INPUT: true; the input reads as it did. -/
def fnExactParseTypeSpec : ChangeSpec := { name := "fnExactParseType", fn := fun _ => fun
  | [d] => { results := [.lit (.bool true)], args := [d] }
  | _ => none }
def fnExactParseTypeRow : OpenClaim := { program := "ytamicokgpigmkaa", sum := "4184da47577a527618726b7df03b665f1e2fbbfe02465cbde91ba170d4c2b637", func := "loop.example/modlink/laws.FnExactParseType", spec := "fnExactParseType", unfollowed := true, recurses := true, plainKeys := false, apart := false }
def FnExactParseTypeSaid : Prop := fnExactParseTypeRow.holds Try.pinned (OpenSpec.ofChange fnExactParseTypeSpec)

/-- ITS FALSE NEIGHBOUR: 'it returns false'. Refute it at one input. -/
def fnExactParseTypeWrong : ChangeSpec := { name := "fnExactParseType", fn := fun _ => fun
  | [d] => { results := [.lit (.bool false)], args := [d] }
  | _ => none }
def FnExactParseTypeWrongFalsely : Prop := fnExactParseTypeRow.holds Try.pinned (OpenSpec.ofChange fnExactParseTypeWrong)

/-- 'laws.FnExactExprSame': WHATEVER THE INPUT: true; the input reads as it did. -/
def fnExactExprSameSpec : ChangeSpec := { name := "fnExactExprSame", fn := fun _ => fun
  | [d1, d2] => { results := [.lit (.bool true)], args := [d1, d2] }
  | _ => none }
def fnExactExprSameRow : OpenClaim := { program := "ytamicokgpigmkaa", sum := "4184da47577a527618726b7df03b665f1e2fbbfe02465cbde91ba170d4c2b637", func := "loop.example/modlink/laws.FnExactExprSame", spec := "fnExactExprSame", unfollowed := true, recurses := true, loops := true, plainKeys := false, apart := false }
def FnExactExprSameSaid : Prop := fnExactExprSameRow.holds Try.pinned (OpenSpec.ofChange fnExactExprSameSpec)

/-- ITS FALSE NEIGHBOUR: 'it returns false'. Refute it at one input. -/
def fnExactExprSameWrong : ChangeSpec := { name := "fnExactExprSame", fn := fun _ => fun
  | [d1, d2] => { results := [.lit (.bool false)], args := [d1, d2] }
  | _ => none }
def FnExactExprSameWrongFalsely : Prop := fnExactExprSameRow.holds Try.pinned (OpenSpec.ofChange fnExactExprSameWrong)

/- THE SECOND FORM. 'bulk': how many values and letters a reading holds, each counted each time it is reached (what is shared counts as often as it is met; a slice's spare places count too). A statement '..UptoSaid' is the law's where the arguments, and the package variables that the reading takes, are together of bulk at most 1048576: NARROWER than '..Said'. Prove '..Said' where nothing that the law and all that it calls make is longer than what came in: it says more and counts as full. Else prove '..UptoSaid'. A law counts once. -/
mutual
def uptoBulk {H : Type} : DataW H → Nat
  | .lit (.string bytes) => bytes.length + 1
  | .lit _ => 1
  | .nil => 1
  | .ptr d => uptoBulk d + 1
  | .slice elems spare => uptoBulkAll elems + uptoBulkAll spare + 1
  | .agg parts => uptoBulkAll parts + 1
  | .iface _ d => uptoBulk d + 1
  | .map entries => uptoBulkEntries entries + 1
  | .held _ => 1
def uptoBulkAll {H : Type} : List (DataW H) → Nat
  | [] => 0
  | d :: r => uptoBulk d + uptoBulkAll r
def uptoBulkEntries {H : Type} : List (Lit × DataW H) → Nat
  | [] => 0
  | x :: r => uptoBulkEntry x + uptoBulkEntries r
def uptoBulkEntry {H : Type} : Lit × DataW H → Nat
  | (.string bytes, d) => bytes.length + uptoBulk d + 1
  | (_, d) => uptoBulk d + 1
 end
def uptoSmall : (H : Type) → List (DataW H) → Bool := fun _ ds => decide (uptoBulkAll ds ≤ 1048576)
def OpenSpec.upto (s : _root_.Go.ChangeSpec) : _root_.Go.OpenSpec := { _root_.Go.OpenSpec.ofChange s with cond := some uptoSmall }

/-- 'laws.FnExactStructSame', WHERE WHAT IT READS IS OF BULK AT MOST 1048576: true; the input reads as it did. -/
def fnExactStructSameUptoRow : OpenClaim := { program := "ytamicokgpigmkaa", sum := "4184da47577a527618726b7df03b665f1e2fbbfe02465cbde91ba170d4c2b637", func := "loop.example/modlink/laws.FnExactStructSame", spec := "fnExactStructSame", unfollowed := true, recurses := true, loops := true, plainKeys := false, apart := false, narrowed := true }
def FnExactStructSameUptoSaid : Prop := fnExactStructSameUptoRow.holds Try.pinned (OpenSpec.upto fnExactStructSameSpec)

/-- 'laws.FnExactSigSame', WHERE WHAT IT READS IS OF BULK AT MOST 1048576: true; the input reads as it did. -/
def fnExactSigSameUptoRow : OpenClaim := { program := "ytamicokgpigmkaa", sum := "4184da47577a527618726b7df03b665f1e2fbbfe02465cbde91ba170d4c2b637", func := "loop.example/modlink/laws.FnExactSigSame", spec := "fnExactSigSame", unfollowed := true, recurses := true, loops := true, plainKeys := false, apart := false, narrowed := true }
def FnExactSigSameUptoSaid : Prop := fnExactSigSameUptoRow.holds Try.pinned (OpenSpec.upto fnExactSigSameSpec)

/-- 'laws.FnExactSigValid', WHERE WHAT IT READS IS OF BULK AT MOST 1048576: true; the input reads as it did. -/
def fnExactSigValidUptoRow : OpenClaim := { program := "ytamicokgpigmkaa", sum := "4184da47577a527618726b7df03b665f1e2fbbfe02465cbde91ba170d4c2b637", func := "loop.example/modlink/laws.FnExactSigValid", spec := "fnExactSigValid", unfollowed := true, recurses := true, loops := true, plainKeys := false, apart := false, narrowed := true }
def FnExactSigValidUptoSaid : Prop := fnExactSigValidUptoRow.holds Try.pinned (OpenSpec.upto fnExactSigValidSpec)

/-- 'laws.FnExactParseType', WHERE WHAT IT READS IS OF BULK AT MOST 1048576: true; the input reads as it did. -/
def fnExactParseTypeUptoRow : OpenClaim := { program := "ytamicokgpigmkaa", sum := "4184da47577a527618726b7df03b665f1e2fbbfe02465cbde91ba170d4c2b637", func := "loop.example/modlink/laws.FnExactParseType", spec := "fnExactParseType", unfollowed := true, recurses := true, plainKeys := false, apart := false, narrowed := true }
def FnExactParseTypeUptoSaid : Prop := fnExactParseTypeUptoRow.holds Try.pinned (OpenSpec.upto fnExactParseTypeSpec)

/-- 'laws.FnExactExprSame', WHERE WHAT IT READS IS OF BULK AT MOST 1048576: true; the input reads as it did. -/
def fnExactExprSameUptoRow : OpenClaim := { program := "ytamicokgpigmkaa", sum := "4184da47577a527618726b7df03b665f1e2fbbfe02465cbde91ba170d4c2b637", func := "loop.example/modlink/laws.FnExactExprSame", spec := "fnExactExprSame", unfollowed := true, recurses := true, loops := true, plainKeys := false, apart := false, narrowed := true }
def FnExactExprSameUptoSaid : Prop := fnExactExprSameUptoRow.holds Try.pinned (OpenSpec.upto fnExactExprSameSpec)

end Rows
end Go.Proofs.Ytamicokgpigmkaa
