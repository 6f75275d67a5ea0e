/-
  NARROWER THAN 'FOR EVERY INPUT', by the rows' own cells (each row's printed sentence says how): FnExactProgramValid: loops · FnExactScopeValid: loops · FnExactRenameSig: loops · FnExactSubstExpr: loops · FnExactExpandExpr: loops · FnExactCountSteps: loops.
  DERIVED. THE GIVEN ROWS OF THIS SEAT. 9 by the template 'for every input the law returns true; each argument reads behind the call as it read before'; 0 by the template 'total and deterministic' (their statements: YtijlnkfiadajhaaGreatTotals.lean).
  GIVEN WITH THE SEED: the statements are not yours to turn. If you find one false, say at which input.
  Laid BY PROGRAM, IN A SANDBOX (cutbox-rows.mjs): the forced cells as the released guide's own fill.sh prints them over the translation 37fa9bdab933858a… (all of the seat's roots in one cut). By AI agents, Wed Nov 11 2026. No macro, syntax, notation, axiom, sorry.
-/
import Derived.Test.YtijlnkfiadajhaaGreatChecked
import GoSem.Claim
import GoSem.ClaimJoined
import GoSem.ClaimMapViews
import Derived.JoinedTies
import Derived.KernelRfl
namespace Go.Proofs.YtijlnkfiadajhaaGreat
/- THE CELL 'sum', in the pinned program and in every row, IS THE sha256 OF THE DUMP (.gsa) THAT YtijlnkfiadajhaaGreatProg.lean LOADS. Nothing in Lean hashes anything: it is a label: what it is worth is what the hold of that sum in a sandbox is worth. -/
noncomputable def Tryz.pinned : Pinned := { name := "ytijlnkfiadajhaagreat", sum := "37fa9bdab933858a1c1c327c9ea5237c10b48c863451315da271cca9052cb91f", checked := Tryz.checked }
namespace Rows
def none {H : Type} : Left H := { results := [], args := [] }

/-- 'laws.FnExactProgramValid': WHATEVER THE INPUT: true; the input reads as it did. -/
def fnExactProgramValidSpec : ChangeSpec := { name := "fnExactProgramValid", fn := fun _ => fun
  | [d] => { results := [.lit (.bool true)], args := [d] }
  | _ => none }
def fnExactProgramValidRow : OpenClaim := { program := "ytijlnkfiadajhaagreat", sum := "37fa9bdab933858a1c1c327c9ea5237c10b48c863451315da271cca9052cb91f", func := "loop.example/modlink/laws.FnExactProgramValid", spec := "fnExactProgramValid", unfollowed := true, recurses := true, loops := true, plainKeys := false, apart := false }
def FnExactProgramValidSaid : Prop := fnExactProgramValidRow.holds Tryz.pinned (OpenSpec.ofChange fnExactProgramValidSpec)

/-- ITS FALSE NEIGHBOUR: 'it returns false'. Refute it at one input. -/
def fnExactProgramValidWrong : ChangeSpec := { name := "fnExactProgramValid", fn := fun _ => fun
  | [d] => { results := [.lit (.bool false)], args := [d] }
  | _ => none }
def FnExactProgramValidWrongFalsely : Prop := fnExactProgramValidRow.holds Tryz.pinned (OpenSpec.ofChange fnExactProgramValidWrong)

/-- 'laws.FnExactScopeValid': WHATEVER THE INPUT: true; the input reads as it did. -/
def fnExactScopeValidSpec : ChangeSpec := { name := "fnExactScopeValid", fn := fun _ => fun
  | [d] => { results := [.lit (.bool true)], args := [d] }
  | _ => none }
def fnExactScopeValidRow : OpenClaim := { program := "ytijlnkfiadajhaagreat", sum := "37fa9bdab933858a1c1c327c9ea5237c10b48c863451315da271cca9052cb91f", func := "loop.example/modlink/laws.FnExactScopeValid", spec := "fnExactScopeValid", unfollowed := true, recurses := true, loops := true, plainKeys := false, apart := false }
def FnExactScopeValidSaid : Prop := fnExactScopeValidRow.holds Tryz.pinned (OpenSpec.ofChange fnExactScopeValidSpec)

/-- ITS FALSE NEIGHBOUR: 'it returns false'. Refute it at one input. -/
def fnExactScopeValidWrong : ChangeSpec := { name := "fnExactScopeValid", fn := fun _ => fun
  | [d] => { results := [.lit (.bool false)], args := [d] }
  | _ => none }
def FnExactScopeValidWrongFalsely : Prop := fnExactScopeValidRow.holds Tryz.pinned (OpenSpec.ofChange fnExactScopeValidWrong)

/-- 'laws.FnExactRenameSig': WHATEVER THE INPUT: true; the input reads as it did. -/
def fnExactRenameSigSpec : ChangeSpec := { name := "fnExactRenameSig", fn := fun _ => fun
  | [d1, d2, d3] => { results := [.lit (.bool true)], args := [d1, d2, d3] }
  | _ => none }
def fnExactRenameSigRow : OpenClaim := { program := "ytijlnkfiadajhaagreat", sum := "37fa9bdab933858a1c1c327c9ea5237c10b48c863451315da271cca9052cb91f", func := "loop.example/modlink/laws.FnExactRenameSig", spec := "fnExactRenameSig", unfollowed := true, recurses := true, loops := true, plainKeys := false, apart := false }
def FnExactRenameSigSaid : Prop := fnExactRenameSigRow.holds Tryz.pinned (OpenSpec.ofChange fnExactRenameSigSpec)

/-- ITS FALSE NEIGHBOUR: 'it returns false'. Refute it at one input. -/
def fnExactRenameSigWrong : ChangeSpec := { name := "fnExactRenameSig", fn := fun _ => fun
  | [d1, d2, d3] => { results := [.lit (.bool false)], args := [d1, d2, d3] }
  | _ => none }
def FnExactRenameSigWrongFalsely : Prop := fnExactRenameSigRow.holds Tryz.pinned (OpenSpec.ofChange fnExactRenameSigWrong)

/-- 'laws.FnExactSubstExpr': WHATEVER THE INPUT: true; the input reads as it did. -/
def fnExactSubstExprSpec : ChangeSpec := { name := "fnExactSubstExpr", fn := fun _ => fun
  | [d1, d2] => { results := [.lit (.bool true)], args := [d1, d2] }
  | _ => none }
def fnExactSubstExprRow : OpenClaim := { program := "ytijlnkfiadajhaagreat", sum := "37fa9bdab933858a1c1c327c9ea5237c10b48c863451315da271cca9052cb91f", func := "loop.example/modlink/laws.FnExactSubstExpr", spec := "fnExactSubstExpr", unfollowed := true, recurses := true, loops := true, plainKeys := false, apart := false }
def FnExactSubstExprSaid : Prop := fnExactSubstExprRow.holds Tryz.pinned (OpenSpec.ofChange fnExactSubstExprSpec)

/-- ITS FALSE NEIGHBOUR: 'it returns false'. Refute it at one input. -/
def fnExactSubstExprWrong : ChangeSpec := { name := "fnExactSubstExpr", fn := fun _ => fun
  | [d1, d2] => { results := [.lit (.bool false)], args := [d1, d2] }
  | _ => none }
def FnExactSubstExprWrongFalsely : Prop := fnExactSubstExprRow.holds Tryz.pinned (OpenSpec.ofChange fnExactSubstExprWrong)

/-- 'laws.FnExactExpandExpr': WHATEVER THE INPUT: true; the input reads as it did. -/
def fnExactExpandExprSpec : ChangeSpec := { name := "fnExactExpandExpr", fn := fun _ => fun
  | [d1, d2] => { results := [.lit (.bool true)], args := [d1, d2] }
  | _ => none }
def fnExactExpandExprRow : OpenClaim := { program := "ytijlnkfiadajhaagreat", sum := "37fa9bdab933858a1c1c327c9ea5237c10b48c863451315da271cca9052cb91f", func := "loop.example/modlink/laws.FnExactExpandExpr", spec := "fnExactExpandExpr", unfollowed := true, recurses := true, loops := true, plainKeys := false, apart := false }
def FnExactExpandExprSaid : Prop := fnExactExpandExprRow.holds Tryz.pinned (OpenSpec.ofChange fnExactExpandExprSpec)

/-- ITS FALSE NEIGHBOUR: 'it returns false'. Refute it at one input. -/
def fnExactExpandExprWrong : ChangeSpec := { name := "fnExactExpandExpr", fn := fun _ => fun
  | [d1, d2] => { results := [.lit (.bool false)], args := [d1, d2] }
  | _ => none }
def FnExactExpandExprWrongFalsely : Prop := fnExactExpandExprRow.holds Tryz.pinned (OpenSpec.ofChange fnExactExpandExprWrong)

/-- 'laws.FnExactCountSteps': WHATEVER THE INPUT: true; the input reads as it did. -/
def fnExactCountStepsSpec : ChangeSpec := { name := "fnExactCountSteps", fn := fun _ => fun
  | [d1, d2] => { results := [.lit (.bool true)], args := [d1, d2] }
  | _ => none }
def fnExactCountStepsRow : OpenClaim := { program := "ytijlnkfiadajhaagreat", sum := "37fa9bdab933858a1c1c327c9ea5237c10b48c863451315da271cca9052cb91f", func := "loop.example/modlink/laws.FnExactCountSteps", spec := "fnExactCountSteps", unfollowed := true, recurses := true, loops := true, plainKeys := false, apart := false }
def FnExactCountStepsSaid : Prop := fnExactCountStepsRow.holds Tryz.pinned (OpenSpec.ofChange fnExactCountStepsSpec)

/-- ITS FALSE NEIGHBOUR: 'it returns false'. Refute it at one input. -/
def fnExactCountStepsWrong : ChangeSpec := { name := "fnExactCountSteps", fn := fun _ => fun
  | [d1, d2] => { results := [.lit (.bool false)], args := [d1, d2] }
  | _ => none }
def FnExactCountStepsWrongFalsely : Prop := fnExactCountStepsRow.holds Tryz.pinned (OpenSpec.ofChange fnExactCountStepsWrong)

/-- 'laws.FnRenameSig': WHATEVER THE INPUT: true; the input reads as it did. -/
def fnRenameSigSpec : ChangeSpec := { name := "fnRenameSig", fn := fun _ => fun
  | [d] => { results := [.lit (.bool true)], args := [d] }
  | _ => none }
def fnRenameSigRow : OpenClaim := { program := "ytijlnkfiadajhaagreat", sum := "37fa9bdab933858a1c1c327c9ea5237c10b48c863451315da271cca9052cb91f", func := "loop.example/modlink/laws.FnRenameSig", spec := "fnRenameSig", unfollowed := true, recurses := true, plainKeys := false, apart := false }
def FnRenameSigSaid : Prop := fnRenameSigRow.holds Tryz.pinned (OpenSpec.ofChange fnRenameSigSpec)

/-- ITS FALSE NEIGHBOUR: 'it returns false'. Refute it at one input. -/
def fnRenameSigWrong : ChangeSpec := { name := "fnRenameSig", fn := fun _ => fun
  | [d] => { results := [.lit (.bool false)], args := [d] }
  | _ => none }
def FnRenameSigWrongFalsely : Prop := fnRenameSigRow.holds Tryz.pinned (OpenSpec.ofChange fnRenameSigWrong)

/-- 'laws.FnMaxFree': WHATEVER THE INPUT: true; the input reads as it did. -/
def fnMaxFreeSpec : ChangeSpec := { name := "fnMaxFree", fn := fun _ => fun
  | [d] => { results := [.lit (.bool true)], args := [d] }
  | _ => none }
def fnMaxFreeRow : OpenClaim := { program := "ytijlnkfiadajhaagreat", sum := "37fa9bdab933858a1c1c327c9ea5237c10b48c863451315da271cca9052cb91f", func := "loop.example/modlink/laws.FnMaxFree", spec := "fnMaxFree", unfollowed := true, recurses := true, plainKeys := false, apart := false }
def FnMaxFreeSaid : Prop := fnMaxFreeRow.holds Tryz.pinned (OpenSpec.ofChange fnMaxFreeSpec)

/-- ITS FALSE NEIGHBOUR: 'it returns false'. Refute it at one input. -/
def fnMaxFreeWrong : ChangeSpec := { name := "fnMaxFree", fn := fun _ => fun
  | [d] => { results := [.lit (.bool false)], args := [d] }
  | _ => none }
def FnMaxFreeWrongFalsely : Prop := fnMaxFreeRow.holds Tryz.pinned (OpenSpec.ofChange fnMaxFreeWrong)

/-- 'laws.FnExprSame': WHATEVER THE INPUT: true; the input reads as it did. -/
def fnExprSameSpec : ChangeSpec := { name := "fnExprSame", fn := fun _ => fun
  | [d] => { results := [.lit (.bool true)], args := [d] }
  | _ => none }
def fnExprSameRow : OpenClaim := { program := "ytijlnkfiadajhaagreat", sum := "37fa9bdab933858a1c1c327c9ea5237c10b48c863451315da271cca9052cb91f", func := "loop.example/modlink/laws.FnExprSame", spec := "fnExprSame", unfollowed := true, recurses := true, plainKeys := false, apart := false }
def FnExprSameSaid : Prop := fnExprSameRow.holds Tryz.pinned (OpenSpec.ofChange fnExprSameSpec)

/-- ITS FALSE NEIGHBOUR: 'it returns false'. Refute it at one input. -/
def fnExprSameWrong : ChangeSpec := { name := "fnExprSame", fn := fun _ => fun
  | [d] => { results := [.lit (.bool false)], args := [d] }
  | _ => none }
def FnExprSameWrongFalsely : Prop := fnExprSameRow.holds Tryz.pinned (OpenSpec.ofChange fnExprSameWrong)

/- THE SECOND FORM. 'bulk': how many values and letters a reading holds, each counted each time it is reached (what is shared counts as often as it is met; a slice's spare places count too). A statement '..UptoSaid' is the law's where the arguments, and the package variables that the reading takes, are together of bulk at most 1048576: NARROWER than '..Said'. Prove '..Said' where nothing that the law and all that it calls make is longer than what came in: it says more and counts as full. Else prove '..UptoSaid'. A law counts once. -/
mutual
def uptoBulk {H : Type} : DataW H → Nat
  | .lit (.string bytes) => bytes.length + 1
  | .lit _ => 1
  | .nil => 1
  | .ptr d => uptoBulk d + 1
  | .slice elems spare => uptoBulkAll elems + uptoBulkAll spare + 1
  | .agg parts => uptoBulkAll parts + 1
  | .iface _ d => uptoBulk d + 1
  | .map entries => uptoBulkEntries entries + 1
  | .held _ => 1
def uptoBulkAll {H : Type} : List (DataW H) → Nat
  | [] => 0
  | d :: r => uptoBulk d + uptoBulkAll r
def uptoBulkEntries {H : Type} : List (Lit × DataW H) → Nat
  | [] => 0
  | x :: r => uptoBulkEntry x + uptoBulkEntries r
def uptoBulkEntry {H : Type} : Lit × DataW H → Nat
  | (.string bytes, d) => bytes.length + uptoBulk d + 1
  | (_, d) => uptoBulk d + 1
 end
def uptoSmall : (H : Type) → List (DataW H) → Bool := fun _ ds => decide (uptoBulkAll ds ≤ 1048576)
def OpenSpec.upto (s : _root_.Go.ChangeSpec) : _root_.Go.OpenSpec := { _root_.Go.OpenSpec.ofChange s with cond := some uptoSmall }

/-- 'laws.FnExactProgramValid', WHERE WHAT IT READS IS OF BULK AT MOST 1048576: true; the input reads as it did. -/
def fnExactProgramValidUptoRow : OpenClaim := { program := "ytijlnkfiadajhaagreat", sum := "37fa9bdab933858a1c1c327c9ea5237c10b48c863451315da271cca9052cb91f", func := "loop.example/modlink/laws.FnExactProgramValid", spec := "fnExactProgramValid", unfollowed := true, recurses := true, loops := true, plainKeys := false, apart := false, narrowed := true }
def FnExactProgramValidUptoSaid : Prop := fnExactProgramValidUptoRow.holds Tryz.pinned (OpenSpec.upto fnExactProgramValidSpec)

/-- 'laws.FnExactScopeValid', WHERE WHAT IT READS IS OF BULK AT MOST 1048576: true; the input reads as it did. -/
def fnExactScopeValidUptoRow : OpenClaim := { program := "ytijlnkfiadajhaagreat", sum := "37fa9bdab933858a1c1c327c9ea5237c10b48c863451315da271cca9052cb91f", func := "loop.example/modlink/laws.FnExactScopeValid", spec := "fnExactScopeValid", unfollowed := true, recurses := true, loops := true, plainKeys := false, apart := false, narrowed := true }
def FnExactScopeValidUptoSaid : Prop := fnExactScopeValidUptoRow.holds Tryz.pinned (OpenSpec.upto fnExactScopeValidSpec)

/-- 'laws.FnExactRenameSig', WHERE WHAT IT READS IS OF BULK AT MOST 1048576: true; the input reads as it did. -/
def fnExactRenameSigUptoRow : OpenClaim := { program := "ytijlnkfiadajhaagreat", sum := "37fa9bdab933858a1c1c327c9ea5237c10b48c863451315da271cca9052cb91f", func := "loop.example/modlink/laws.FnExactRenameSig", spec := "fnExactRenameSig", unfollowed := true, recurses := true, loops := true, plainKeys := false, apart := false, narrowed := true }
def FnExactRenameSigUptoSaid : Prop := fnExactRenameSigUptoRow.holds Tryz.pinned (OpenSpec.upto fnExactRenameSigSpec)

/-- 'laws.FnExactSubstExpr', WHERE WHAT IT READS IS OF BULK AT MOST 1048576: true; the input reads as it did. -/
def fnExactSubstExprUptoRow : OpenClaim := { program := "ytijlnkfiadajhaagreat", sum := "37fa9bdab933858a1c1c327c9ea5237c10b48c863451315da271cca9052cb91f", func := "loop.example/modlink/laws.FnExactSubstExpr", spec := "fnExactSubstExpr", unfollowed := true, recurses := true, loops := true, plainKeys := false, apart := false, narrowed := true }
def FnExactSubstExprUptoSaid : Prop := fnExactSubstExprUptoRow.holds Tryz.pinned (OpenSpec.upto fnExactSubstExprSpec)

/-- 'laws.FnExactExpandExpr', WHERE WHAT IT READS IS OF BULK AT MOST 1048576: true; the input reads as it did. -/
def fnExactExpandExprUptoRow : OpenClaim := { program := "ytijlnkfiadajhaagreat", sum := "37fa9bdab933858a1c1c327c9ea5237c10b48c863451315da271cca9052cb91f", func := "loop.example/modlink/laws.FnExactExpandExpr", spec := "fnExactExpandExpr", unfollowed := true, recurses := true, loops := true, plainKeys := false, apart := false, narrowed := true }
def FnExactExpandExprUptoSaid : Prop := fnExactExpandExprUptoRow.holds Tryz.pinned (OpenSpec.upto fnExactExpandExprSpec)

/-- 'laws.FnExactCountSteps', WHERE WHAT IT READS IS OF BULK AT MOST 1048576: true; the input reads as it did. -/
def fnExactCountStepsUptoRow : OpenClaim := { program := "ytijlnkfiadajhaagreat", sum := "37fa9bdab933858a1c1c327c9ea5237c10b48c863451315da271cca9052cb91f", func := "loop.example/modlink/laws.FnExactCountSteps", spec := "fnExactCountSteps", unfollowed := true, recurses := true, loops := true, plainKeys := false, apart := false, narrowed := true }
def FnExactCountStepsUptoSaid : Prop := fnExactCountStepsUptoRow.holds Tryz.pinned (OpenSpec.upto fnExactCountStepsSpec)

/-- 'laws.FnRenameSig', WHERE WHAT IT READS IS OF BULK AT MOST 1048576: true; the input reads as it did. -/
def fnRenameSigUptoRow : OpenClaim := { program := "ytijlnkfiadajhaagreat", sum := "37fa9bdab933858a1c1c327c9ea5237c10b48c863451315da271cca9052cb91f", func := "loop.example/modlink/laws.FnRenameSig", spec := "fnRenameSig", unfollowed := true, recurses := true, plainKeys := false, apart := false, narrowed := true }
def FnRenameSigUptoSaid : Prop := fnRenameSigUptoRow.holds Tryz.pinned (OpenSpec.upto fnRenameSigSpec)

/-- 'laws.FnMaxFree', WHERE WHAT IT READS IS OF BULK AT MOST 1048576: true; the input reads as it did. -/
def fnMaxFreeUptoRow : OpenClaim := { program := "ytijlnkfiadajhaagreat", sum := "37fa9bdab933858a1c1c327c9ea5237c10b48c863451315da271cca9052cb91f", func := "loop.example/modlink/laws.FnMaxFree", spec := "fnMaxFree", unfollowed := true, recurses := true, plainKeys := false, apart := false, narrowed := true }
def FnMaxFreeUptoSaid : Prop := fnMaxFreeUptoRow.holds Tryz.pinned (OpenSpec.upto fnMaxFreeSpec)

/-- 'laws.FnExprSame', WHERE WHAT IT READS IS OF BULK AT MOST 1048576: true; the input reads as it did. -/
def fnExprSameUptoRow : OpenClaim := { program := "ytijlnkfiadajhaagreat", sum := "37fa9bdab933858a1c1c327c9ea5237c10b48c863451315da271cca9052cb91f", func := "loop.example/modlink/laws.FnExprSame", spec := "fnExprSame", unfollowed := true, recurses := true, plainKeys := false, apart := false, narrowed := true }
def FnExprSameUptoSaid : Prop := fnExprSameUptoRow.holds Tryz.pinned (OpenSpec.upto fnExprSameSpec)

end Rows
end Go.Proofs.YtijlnkfiadajhaaGreat
