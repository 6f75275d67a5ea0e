/-
  NARROWER THAN 'FOR EVERY INPUT', by the rows' own cells (each row's printed sentence says how): FnExactPureExpr: loops · FnExactValueExpr: loops · FnExactSubstExpr: loops · FnExactExpandExpr: loops · FnExactCountSteps: loops.
  DERIVED. THE GIVEN ROWS OF THIS SEAT. 6 by the template 'for every input the law returns true; each argument reads behind the call as it read before'; 0 by the template 'total and deterministic' (their statements: YtdgjkcnojgjkfaaGreatTotals.lean).
  GIVEN WITH THE SEED: the statements are not yours to turn. If you find one false, say at which input.
  Laid BY PROGRAM, IN A SANDBOX (cutbox-rows.mjs): the forced cells as the released guide's own fill.sh prints them over the translation 04ed5ea9e12dd4fa… (all of the seat's roots in one cut). By AI agents, Wed Nov 11 2026. No macro, syntax, notation, axiom, sorry.
-/
import Derived.Test.YtdgjkcnojgjkfaaGreatChecked
import GoSem.Claim
import GoSem.ClaimJoined
import GoSem.ClaimMapViews
import Derived.JoinedTies
import Derived.KernelRfl
namespace Go.Proofs.YtdgjkcnojgjkfaaGreat
/- THE CELL 'sum', in the pinned program and in every row, IS THE sha256 OF THE DUMP (.gsa) THAT YtdgjkcnojgjkfaaGreatProg.lean LOADS. Nothing in Lean hashes anything: it is a label: what it is worth is what the hold of that sum in a sandbox is worth. -/
noncomputable def Tryz.pinned : Pinned := { name := "ytdgjkcnojgjkfaagreat", sum := "04ed5ea9e12dd4fa49619ca3e8d019bd7192e4cd1574770d395930d744c50733", checked := Tryz.checked }
namespace Rows
def none {H : Type} : Left H := { results := [], args := [] }

/-- 'laws.FnExactPureExpr': WHATEVER THE INPUT: true; the input reads as it did. -/
def fnExactPureExprSpec : ChangeSpec := { name := "fnExactPureExpr", fn := fun _ => fun
  | [d] => { results := [.lit (.bool true)], args := [d] }
  | _ => none }
def fnExactPureExprRow : OpenClaim := { program := "ytdgjkcnojgjkfaagreat", sum := "04ed5ea9e12dd4fa49619ca3e8d019bd7192e4cd1574770d395930d744c50733", func := "loop.example/modlink/laws.FnExactPureExpr", spec := "fnExactPureExpr", unfollowed := true, recurses := true, loops := true, plainKeys := false, apart := false }
def FnExactPureExprSaid : Prop := fnExactPureExprRow.holds Tryz.pinned (OpenSpec.ofChange fnExactPureExprSpec)

/-- ITS FALSE NEIGHBOUR: 'it returns false'. Refute it at one input. -/
def fnExactPureExprWrong : ChangeSpec := { name := "fnExactPureExpr", fn := fun _ => fun
  | [d] => { results := [.lit (.bool false)], args := [d] }
  | _ => none }
def FnExactPureExprWrongFalsely : Prop := fnExactPureExprRow.holds Tryz.pinned (OpenSpec.ofChange fnExactPureExprWrong)

/-- 'laws.FnExactValueExpr': WHATEVER THE INPUT: true; the input reads as it did. -/
def fnExactValueExprSpec : ChangeSpec := { name := "fnExactValueExpr", fn := fun _ => fun
  | [d] => { results := [.lit (.bool true)], args := [d] }
  | _ => none }
def fnExactValueExprRow : OpenClaim := { program := "ytdgjkcnojgjkfaagreat", sum := "04ed5ea9e12dd4fa49619ca3e8d019bd7192e4cd1574770d395930d744c50733", func := "loop.example/modlink/laws.FnExactValueExpr", spec := "fnExactValueExpr", unfollowed := true, recurses := true, loops := true, plainKeys := false, apart := false }
def FnExactValueExprSaid : Prop := fnExactValueExprRow.holds Tryz.pinned (OpenSpec.ofChange fnExactValueExprSpec)

/-- ITS FALSE NEIGHBOUR: 'it returns false'. Refute it at one input. -/
def fnExactValueExprWrong : ChangeSpec := { name := "fnExactValueExpr", fn := fun _ => fun
  | [d] => { results := [.lit (.bool false)], args := [d] }
  | _ => none }
def FnExactValueExprWrongFalsely : Prop := fnExactValueExprRow.holds Tryz.pinned (OpenSpec.ofChange fnExactValueExprWrong)

/-- 'laws.FnExactSubstExpr': WHATEVER THE INPUT: true; the input reads as it did. -/
def fnExactSubstExprSpec : ChangeSpec := { name := "fnExactSubstExpr", fn := fun _ => fun
  | [d1, d2] => { results := [.lit (.bool true)], args := [d1, d2] }
  | _ => none }
def fnExactSubstExprRow : OpenClaim := { program := "ytdgjkcnojgjkfaagreat", sum := "04ed5ea9e12dd4fa49619ca3e8d019bd7192e4cd1574770d395930d744c50733", func := "loop.example/modlink/laws.FnExactSubstExpr", spec := "fnExactSubstExpr", unfollowed := true, recurses := true, loops := true, plainKeys := false, apart := false }
def FnExactSubstExprSaid : Prop := fnExactSubstExprRow.holds Tryz.pinned (OpenSpec.ofChange fnExactSubstExprSpec)

/-- ITS FALSE NEIGHBOUR: 'it returns false'. Refute it at one input. -/
def fnExactSubstExprWrong : ChangeSpec := { name := "fnExactSubstExpr", fn := fun _ => fun
  | [d1, d2] => { results := [.lit (.bool false)], args := [d1, d2] }
  | _ => none }
def FnExactSubstExprWrongFalsely : Prop := fnExactSubstExprRow.holds Tryz.pinned (OpenSpec.ofChange fnExactSubstExprWrong)

/-- 'laws.FnExactExpandExpr': WHATEVER THE INPUT: true; the input reads as it did. -/
def fnExactExpandExprSpec : ChangeSpec := { name := "fnExactExpandExpr", fn := fun _ => fun
  | [d1, d2] => { results := [.lit (.bool true)], args := [d1, d2] }
  | _ => none }
def fnExactExpandExprRow : OpenClaim := { program := "ytdgjkcnojgjkfaagreat", sum := "04ed5ea9e12dd4fa49619ca3e8d019bd7192e4cd1574770d395930d744c50733", func := "loop.example/modlink/laws.FnExactExpandExpr", spec := "fnExactExpandExpr", unfollowed := true, recurses := true, loops := true, plainKeys := false, apart := false }
def FnExactExpandExprSaid : Prop := fnExactExpandExprRow.holds Tryz.pinned (OpenSpec.ofChange fnExactExpandExprSpec)

/-- ITS FALSE NEIGHBOUR: 'it returns false'. Refute it at one input. -/
def fnExactExpandExprWrong : ChangeSpec := { name := "fnExactExpandExpr", fn := fun _ => fun
  | [d1, d2] => { results := [.lit (.bool false)], args := [d1, d2] }
  | _ => none }
def FnExactExpandExprWrongFalsely : Prop := fnExactExpandExprRow.holds Tryz.pinned (OpenSpec.ofChange fnExactExpandExprWrong)

/-- 'laws.FnExactCountSteps': WHATEVER THE INPUT: true; the input reads as it did. -/
def fnExactCountStepsSpec : ChangeSpec := { name := "fnExactCountSteps", fn := fun _ => fun
  | [d1, d2] => { results := [.lit (.bool true)], args := [d1, d2] }
  | _ => none }
def fnExactCountStepsRow : OpenClaim := { program := "ytdgjkcnojgjkfaagreat", sum := "04ed5ea9e12dd4fa49619ca3e8d019bd7192e4cd1574770d395930d744c50733", func := "loop.example/modlink/laws.FnExactCountSteps", spec := "fnExactCountSteps", unfollowed := true, recurses := true, loops := true, plainKeys := false, apart := false }
def FnExactCountStepsSaid : Prop := fnExactCountStepsRow.holds Tryz.pinned (OpenSpec.ofChange fnExactCountStepsSpec)

/-- ITS FALSE NEIGHBOUR: 'it returns false'. Refute it at one input. -/
def fnExactCountStepsWrong : ChangeSpec := { name := "fnExactCountSteps", fn := fun _ => fun
  | [d1, d2] => { results := [.lit (.bool false)], args := [d1, d2] }
  | _ => none }
def FnExactCountStepsWrongFalsely : Prop := fnExactCountStepsRow.holds Tryz.pinned (OpenSpec.ofChange fnExactCountStepsWrong)

/-- 'laws.FnSubstExpr': WHATEVER THE INPUT: true; the input reads as it did. -/
def fnSubstExprSpec : ChangeSpec := { name := "fnSubstExpr", fn := fun _ => fun
  | [d] => { results := [.lit (.bool true)], args := [d] }
  | _ => none }
def fnSubstExprRow : OpenClaim := { program := "ytdgjkcnojgjkfaagreat", sum := "04ed5ea9e12dd4fa49619ca3e8d019bd7192e4cd1574770d395930d744c50733", func := "loop.example/modlink/laws.FnSubstExpr", spec := "fnSubstExpr", unfollowed := true, recurses := true, plainKeys := false, apart := false }
def FnSubstExprSaid : Prop := fnSubstExprRow.holds Tryz.pinned (OpenSpec.ofChange fnSubstExprSpec)

/-- ITS FALSE NEIGHBOUR: 'it returns false'. Refute it at one input. -/
def fnSubstExprWrong : ChangeSpec := { name := "fnSubstExpr", fn := fun _ => fun
  | [d] => { results := [.lit (.bool false)], args := [d] }
  | _ => none }
def FnSubstExprWrongFalsely : Prop := fnSubstExprRow.holds Tryz.pinned (OpenSpec.ofChange fnSubstExprWrong)

/- THE SECOND FORM. 'bulk': how many values and letters a reading holds, each counted each time it is reached (what is shared counts as often as it is met; a slice's spare places count too). A statement '..UptoSaid' is the law's where the arguments, and the package variables that the reading takes, are together of bulk at most 1048576: NARROWER than '..Said'. Prove '..Said' where nothing that the law and all that it calls make is longer than what came in: it says more and counts as full. Else prove '..UptoSaid'. A law counts once. -/
mutual
def uptoBulk {H : Type} : DataW H → Nat
  | .lit (.string bytes) => bytes.length + 1
  | .lit _ => 1
  | .nil => 1
  | .ptr d => uptoBulk d + 1
  | .slice elems spare => uptoBulkAll elems + uptoBulkAll spare + 1
  | .agg parts => uptoBulkAll parts + 1
  | .iface _ d => uptoBulk d + 1
  | .map entries => uptoBulkEntries entries + 1
  | .held _ => 1
def uptoBulkAll {H : Type} : List (DataW H) → Nat
  | [] => 0
  | d :: r => uptoBulk d + uptoBulkAll r
def uptoBulkEntries {H : Type} : List (Lit × DataW H) → Nat
  | [] => 0
  | x :: r => uptoBulkEntry x + uptoBulkEntries r
def uptoBulkEntry {H : Type} : Lit × DataW H → Nat
  | (.string bytes, d) => bytes.length + uptoBulk d + 1
  | (_, d) => uptoBulk d + 1
 end
def uptoSmall : (H : Type) → List (DataW H) → Bool := fun _ ds => decide (uptoBulkAll ds ≤ 1048576)
def OpenSpec.upto (s : _root_.Go.ChangeSpec) : _root_.Go.OpenSpec := { _root_.Go.OpenSpec.ofChange s with cond := some uptoSmall }

/-- 'laws.FnExactPureExpr', WHERE WHAT IT READS IS OF BULK AT MOST 1048576: true; the input reads as it did. -/
def fnExactPureExprUptoRow : OpenClaim := { program := "ytdgjkcnojgjkfaagreat", sum := "04ed5ea9e12dd4fa49619ca3e8d019bd7192e4cd1574770d395930d744c50733", func := "loop.example/modlink/laws.FnExactPureExpr", spec := "fnExactPureExpr", unfollowed := true, recurses := true, loops := true, plainKeys := false, apart := false, narrowed := true }
def FnExactPureExprUptoSaid : Prop := fnExactPureExprUptoRow.holds Tryz.pinned (OpenSpec.upto fnExactPureExprSpec)

/-- 'laws.FnExactValueExpr', WHERE WHAT IT READS IS OF BULK AT MOST 1048576: true; the input reads as it did. -/
def fnExactValueExprUptoRow : OpenClaim := { program := "ytdgjkcnojgjkfaagreat", sum := "04ed5ea9e12dd4fa49619ca3e8d019bd7192e4cd1574770d395930d744c50733", func := "loop.example/modlink/laws.FnExactValueExpr", spec := "fnExactValueExpr", unfollowed := true, recurses := true, loops := true, plainKeys := false, apart := false, narrowed := true }
def FnExactValueExprUptoSaid : Prop := fnExactValueExprUptoRow.holds Tryz.pinned (OpenSpec.upto fnExactValueExprSpec)

/-- 'laws.FnExactSubstExpr', WHERE WHAT IT READS IS OF BULK AT MOST 1048576: true; the input reads as it did. -/
def fnExactSubstExprUptoRow : OpenClaim := { program := "ytdgjkcnojgjkfaagreat", sum := "04ed5ea9e12dd4fa49619ca3e8d019bd7192e4cd1574770d395930d744c50733", func := "loop.example/modlink/laws.FnExactSubstExpr", spec := "fnExactSubstExpr", unfollowed := true, recurses := true, loops := true, plainKeys := false, apart := false, narrowed := true }
def FnExactSubstExprUptoSaid : Prop := fnExactSubstExprUptoRow.holds Tryz.pinned (OpenSpec.upto fnExactSubstExprSpec)

/-- 'laws.FnExactExpandExpr', WHERE WHAT IT READS IS OF BULK AT MOST 1048576: true; the input reads as it did. -/
def fnExactExpandExprUptoRow : OpenClaim := { program := "ytdgjkcnojgjkfaagreat", sum := "04ed5ea9e12dd4fa49619ca3e8d019bd7192e4cd1574770d395930d744c50733", func := "loop.example/modlink/laws.FnExactExpandExpr", spec := "fnExactExpandExpr", unfollowed := true, recurses := true, loops := true, plainKeys := false, apart := false, narrowed := true }
def FnExactExpandExprUptoSaid : Prop := fnExactExpandExprUptoRow.holds Tryz.pinned (OpenSpec.upto fnExactExpandExprSpec)

/-- 'laws.FnExactCountSteps', WHERE WHAT IT READS IS OF BULK AT MOST 1048576: true; the input reads as it did. -/
def fnExactCountStepsUptoRow : OpenClaim := { program := "ytdgjkcnojgjkfaagreat", sum := "04ed5ea9e12dd4fa49619ca3e8d019bd7192e4cd1574770d395930d744c50733", func := "loop.example/modlink/laws.FnExactCountSteps", spec := "fnExactCountSteps", unfollowed := true, recurses := true, loops := true, plainKeys := false, apart := false, narrowed := true }
def FnExactCountStepsUptoSaid : Prop := fnExactCountStepsUptoRow.holds Tryz.pinned (OpenSpec.upto fnExactCountStepsSpec)

/-- 'laws.FnSubstExpr', WHERE WHAT IT READS IS OF BULK AT MOST 1048576: true; the input reads as it did. -/
def fnSubstExprUptoRow : OpenClaim := { program := "ytdgjkcnojgjkfaagreat", sum := "04ed5ea9e12dd4fa49619ca3e8d019bd7192e4cd1574770d395930d744c50733", func := "loop.example/modlink/laws.FnSubstExpr", spec := "fnSubstExpr", unfollowed := true, recurses := true, plainKeys := false, apart := false, narrowed := true }
def FnSubstExprUptoSaid : Prop := fnSubstExprUptoRow.holds Tryz.pinned (OpenSpec.upto fnSubstExprSpec)

end Rows
end Go.Proofs.YtdgjkcnojgjkfaaGreat
