/-
  NARROWER THAN 'FOR EVERY INPUT', by the rows' own cells (each row's printed sentence says how): FnExactMatchSig: loops, laid · FnExactEquivSigs: loops, laid · FnExactFirstMismatch: loops, laid · FnExactJoinSigs: loops, laid · FnMatchReflexive: laid · FnMatchEmpty: laid · FnMatchNormal: laid · FnMatchBinds: laid · FnEquivSigs: laid · FnFirstMismatch: laid · FnMatchStrengthen: laid · FnMatchWeaken: laid.
  DERIVED. THE GIVEN ROWS OF THIS SEAT. 12 by the template 'for every input the law returns true; each argument reads behind the call as it read before'; 0 by the template 'total and deterministic' (their statements: YtkajklfohjcofaaGreatDoorTotals.lean).
  GIVEN WITH THE SEED: the statements are not yours to turn. If you find one false, say at which input.
  Laid BY PROGRAM, IN A SANDBOX (cutbox-rows.mjs): the forced cells as the released guide's own fill.sh prints them over the translation ce2ee4dfe36afdd4… (all of the seat's roots in one cut). By AI agents, Wed Nov 11 2026. No macro, syntax, notation, axiom, sorry.
-/
import Derived.Test.YtkajklfohjcofaaGreatDoorChecked
import GoSem.Claim
import GoSem.ClaimJoined
import GoSem.ClaimMapViews
import Derived.JoinedTies
import Derived.KernelRfl
namespace Go.Proofs.YtkajklfohjcofaaGreatDoor
/- THE CELL 'sum', in the pinned program and in every row, IS THE sha256 OF THE DUMP (.gsa) THAT YtkajklfohjcofaaGreatDoorProg.lean LOADS. Nothing in Lean hashes anything: it is a label: what it is worth is what the hold of that sum in a sandbox is worth. -/
noncomputable def Tryz.pinned : Pinned := { name := "ytkajklfohjcofaagreatdoor", sum := "ce2ee4dfe36afdd4d729db6a0283bde3c41aab2b17e358b02414157f9e3d07c6", checked := Tryz.checked }
namespace Rows
def none {H : Type} : Left H := { results := [], args := [] }

/- WHAT THE LISTED PACKAGE-LEVEL VARIABLES READ AS WHEN THE CALL BEGINS. Each datum BY PROGRAM (the guide's laid-datum.mjs) off the statement by which the dump's own 'gosem.cut.vars' lays the variable. In a bare row this is a premise. The card (YtkajklfohjcofaaGreatDoorCards.lean) ties it to the program's text. -/
def laid_errors_errorType {H : Type} : DataW H := .iface "internal/reflectlite.rtype" (.agg [.ptr (.lit (.string [101, 114, 114, 111, 114]))])

/-- 'laws.FnExactMatchSig': WHATEVER THE INPUT: true; the input reads as it did. -/
def fnExactMatchSigSpec : ChangeSpec := { name := "fnExactMatchSig", fn := fun _ => fun
  | [d1, d2] => { results := [.lit (.bool true)], args := [d1, d2] }
  | _ => none }
def fnExactMatchSigRow : OpenClaim := { program := "ytkajklfohjcofaagreatdoor", sum := "ce2ee4dfe36afdd4d729db6a0283bde3c41aab2b17e358b02414157f9e3d07c6", func := "loop.example/modlink/laws.FnExactMatchSig", spec := "fnExactMatchSig", inPlace := ["internal/reflectlite.ValueOf", "(internal/reflectlite.Value).Type", "(internal/reflectlite.Value).IsNil", "internal/reflectlite.TypeOf", "(internal/reflectlite.Value).Elem", "(internal/reflectlite.Value).Set"], unfollowed := true, recurses := true, named := ["errors.errorType"], loops := true, plainKeys := false, apart := false, laid := [("errors.errorType", laid_errors_errorType)] }
def FnExactMatchSigSaid : Prop := fnExactMatchSigRow.holds Tryz.pinned (OpenSpec.ofChange fnExactMatchSigSpec)

/-- ITS FALSE NEIGHBOUR: 'it returns false'. Refute it at one input. -/
def fnExactMatchSigWrong : ChangeSpec := { name := "fnExactMatchSig", fn := fun _ => fun
  | [d1, d2] => { results := [.lit (.bool false)], args := [d1, d2] }
  | _ => none }
def FnExactMatchSigWrongFalsely : Prop := fnExactMatchSigRow.holds Tryz.pinned (OpenSpec.ofChange fnExactMatchSigWrong)

/-- 'laws.FnExactEquivSigs': WHATEVER THE INPUT: true; the input reads as it did. -/
def fnExactEquivSigsSpec : ChangeSpec := { name := "fnExactEquivSigs", fn := fun _ => fun
  | [d1, d2] => { results := [.lit (.bool true)], args := [d1, d2] }
  | _ => none }
def fnExactEquivSigsRow : OpenClaim := { program := "ytkajklfohjcofaagreatdoor", sum := "ce2ee4dfe36afdd4d729db6a0283bde3c41aab2b17e358b02414157f9e3d07c6", func := "loop.example/modlink/laws.FnExactEquivSigs", spec := "fnExactEquivSigs", inPlace := ["internal/reflectlite.ValueOf", "(internal/reflectlite.Value).Type", "(internal/reflectlite.Value).IsNil", "internal/reflectlite.TypeOf", "(internal/reflectlite.Value).Elem", "(internal/reflectlite.Value).Set"], unfollowed := true, recurses := true, named := ["errors.errorType"], loops := true, plainKeys := false, apart := false, laid := [("errors.errorType", laid_errors_errorType)] }
def FnExactEquivSigsSaid : Prop := fnExactEquivSigsRow.holds Tryz.pinned (OpenSpec.ofChange fnExactEquivSigsSpec)

/-- ITS FALSE NEIGHBOUR: 'it returns false'. Refute it at one input. -/
def fnExactEquivSigsWrong : ChangeSpec := { name := "fnExactEquivSigs", fn := fun _ => fun
  | [d1, d2] => { results := [.lit (.bool false)], args := [d1, d2] }
  | _ => none }
def FnExactEquivSigsWrongFalsely : Prop := fnExactEquivSigsRow.holds Tryz.pinned (OpenSpec.ofChange fnExactEquivSigsWrong)

/-- 'laws.FnExactFirstMismatch': WHATEVER THE INPUT: true; the input reads as it did. -/
def fnExactFirstMismatchSpec : ChangeSpec := { name := "fnExactFirstMismatch", fn := fun _ => fun
  | [d1, d2] => { results := [.lit (.bool true)], args := [d1, d2] }
  | _ => none }
def fnExactFirstMismatchRow : OpenClaim := { program := "ytkajklfohjcofaagreatdoor", sum := "ce2ee4dfe36afdd4d729db6a0283bde3c41aab2b17e358b02414157f9e3d07c6", func := "loop.example/modlink/laws.FnExactFirstMismatch", spec := "fnExactFirstMismatch", inPlace := ["internal/reflectlite.ValueOf", "(internal/reflectlite.Value).Type", "(internal/reflectlite.Value).IsNil", "internal/reflectlite.TypeOf", "(internal/reflectlite.Value).Elem", "(internal/reflectlite.Value).Set"], unfollowed := true, recurses := true, named := ["errors.errorType"], loops := true, plainKeys := false, apart := false, laid := [("errors.errorType", laid_errors_errorType)] }
def FnExactFirstMismatchSaid : Prop := fnExactFirstMismatchRow.holds Tryz.pinned (OpenSpec.ofChange fnExactFirstMismatchSpec)

/-- ITS FALSE NEIGHBOUR: 'it returns false'. Refute it at one input. -/
def fnExactFirstMismatchWrong : ChangeSpec := { name := "fnExactFirstMismatch", fn := fun _ => fun
  | [d1, d2] => { results := [.lit (.bool false)], args := [d1, d2] }
  | _ => none }
def FnExactFirstMismatchWrongFalsely : Prop := fnExactFirstMismatchRow.holds Tryz.pinned (OpenSpec.ofChange fnExactFirstMismatchWrong)

/-- 'laws.FnExactJoinSigs': WHATEVER THE INPUT: true; the input reads as it did. -/
def fnExactJoinSigsSpec : ChangeSpec := { name := "fnExactJoinSigs", fn := fun _ => fun
  | [d1, d2] => { results := [.lit (.bool true)], args := [d1, d2] }
  | _ => none }
def fnExactJoinSigsRow : OpenClaim := { program := "ytkajklfohjcofaagreatdoor", sum := "ce2ee4dfe36afdd4d729db6a0283bde3c41aab2b17e358b02414157f9e3d07c6", func := "loop.example/modlink/laws.FnExactJoinSigs", spec := "fnExactJoinSigs", inPlace := ["internal/reflectlite.ValueOf", "(internal/reflectlite.Value).Type", "(internal/reflectlite.Value).IsNil", "internal/reflectlite.TypeOf", "(internal/reflectlite.Value).Elem", "(internal/reflectlite.Value).Set"], unfollowed := true, recurses := true, named := ["errors.errorType"], loops := true, plainKeys := false, apart := false, laid := [("errors.errorType", laid_errors_errorType)] }
def FnExactJoinSigsSaid : Prop := fnExactJoinSigsRow.holds Tryz.pinned (OpenSpec.ofChange fnExactJoinSigsSpec)

/-- ITS FALSE NEIGHBOUR: 'it returns false'. Refute it at one input. -/
def fnExactJoinSigsWrong : ChangeSpec := { name := "fnExactJoinSigs", fn := fun _ => fun
  | [d1, d2] => { results := [.lit (.bool false)], args := [d1, d2] }
  | _ => none }
def FnExactJoinSigsWrongFalsely : Prop := fnExactJoinSigsRow.holds Tryz.pinned (OpenSpec.ofChange fnExactJoinSigsWrong)

/-- 'laws.FnMatchReflexive': WHATEVER THE INPUT: true; the input reads as it did. -/
def fnMatchReflexiveSpec : ChangeSpec := { name := "fnMatchReflexive", fn := fun _ => fun
  | [d] => { results := [.lit (.bool true)], args := [d] }
  | _ => none }
def fnMatchReflexiveRow : OpenClaim := { program := "ytkajklfohjcofaagreatdoor", sum := "ce2ee4dfe36afdd4d729db6a0283bde3c41aab2b17e358b02414157f9e3d07c6", func := "loop.example/modlink/laws.FnMatchReflexive", spec := "fnMatchReflexive", inPlace := ["internal/reflectlite.ValueOf", "(internal/reflectlite.Value).Type", "(internal/reflectlite.Value).IsNil", "internal/reflectlite.TypeOf", "(internal/reflectlite.Value).Elem", "(internal/reflectlite.Value).Set"], unfollowed := true, recurses := true, named := ["errors.errorType"], plainKeys := false, apart := false, laid := [("errors.errorType", laid_errors_errorType)] }
def FnMatchReflexiveSaid : Prop := fnMatchReflexiveRow.holds Tryz.pinned (OpenSpec.ofChange fnMatchReflexiveSpec)

/-- ITS FALSE NEIGHBOUR: 'it returns false'. Refute it at one input. -/
def fnMatchReflexiveWrong : ChangeSpec := { name := "fnMatchReflexive", fn := fun _ => fun
  | [d] => { results := [.lit (.bool false)], args := [d] }
  | _ => none }
def FnMatchReflexiveWrongFalsely : Prop := fnMatchReflexiveRow.holds Tryz.pinned (OpenSpec.ofChange fnMatchReflexiveWrong)

/-- 'laws.FnMatchEmpty': WHATEVER THE INPUT: true; the input reads as it did. -/
def fnMatchEmptySpec : ChangeSpec := { name := "fnMatchEmpty", fn := fun _ => fun
  | [d] => { results := [.lit (.bool true)], args := [d] }
  | _ => none }
def fnMatchEmptyRow : OpenClaim := { program := "ytkajklfohjcofaagreatdoor", sum := "ce2ee4dfe36afdd4d729db6a0283bde3c41aab2b17e358b02414157f9e3d07c6", func := "loop.example/modlink/laws.FnMatchEmpty", spec := "fnMatchEmpty", inPlace := ["internal/reflectlite.ValueOf", "(internal/reflectlite.Value).Type", "(internal/reflectlite.Value).IsNil", "internal/reflectlite.TypeOf", "(internal/reflectlite.Value).Elem", "(internal/reflectlite.Value).Set"], unfollowed := true, recurses := true, named := ["errors.errorType"], plainKeys := false, apart := false, laid := [("errors.errorType", laid_errors_errorType)] }
def FnMatchEmptySaid : Prop := fnMatchEmptyRow.holds Tryz.pinned (OpenSpec.ofChange fnMatchEmptySpec)

/-- ITS FALSE NEIGHBOUR: 'it returns false'. Refute it at one input. -/
def fnMatchEmptyWrong : ChangeSpec := { name := "fnMatchEmpty", fn := fun _ => fun
  | [d] => { results := [.lit (.bool false)], args := [d] }
  | _ => none }
def FnMatchEmptyWrongFalsely : Prop := fnMatchEmptyRow.holds Tryz.pinned (OpenSpec.ofChange fnMatchEmptyWrong)

/-- 'laws.FnMatchNormal': WHATEVER THE INPUT: true; the input reads as it did. -/
def fnMatchNormalSpec : ChangeSpec := { name := "fnMatchNormal", fn := fun _ => fun
  | [d] => { results := [.lit (.bool true)], args := [d] }
  | _ => none }
def fnMatchNormalRow : OpenClaim := { program := "ytkajklfohjcofaagreatdoor", sum := "ce2ee4dfe36afdd4d729db6a0283bde3c41aab2b17e358b02414157f9e3d07c6", func := "loop.example/modlink/laws.FnMatchNormal", spec := "fnMatchNormal", inPlace := ["internal/reflectlite.ValueOf", "(internal/reflectlite.Value).Type", "(internal/reflectlite.Value).IsNil", "internal/reflectlite.TypeOf", "(internal/reflectlite.Value).Elem", "(internal/reflectlite.Value).Set"], unfollowed := true, recurses := true, named := ["errors.errorType"], plainKeys := false, apart := false, laid := [("errors.errorType", laid_errors_errorType)] }
def FnMatchNormalSaid : Prop := fnMatchNormalRow.holds Tryz.pinned (OpenSpec.ofChange fnMatchNormalSpec)

/-- ITS FALSE NEIGHBOUR: 'it returns false'. Refute it at one input. -/
def fnMatchNormalWrong : ChangeSpec := { name := "fnMatchNormal", fn := fun _ => fun
  | [d] => { results := [.lit (.bool false)], args := [d] }
  | _ => none }
def FnMatchNormalWrongFalsely : Prop := fnMatchNormalRow.holds Tryz.pinned (OpenSpec.ofChange fnMatchNormalWrong)

/-- 'laws.FnMatchBinds': WHATEVER THE INPUT: true; the input reads as it did. -/
def fnMatchBindsSpec : ChangeSpec := { name := "fnMatchBinds", fn := fun _ => fun
  | [d] => { results := [.lit (.bool true)], args := [d] }
  | _ => none }
def fnMatchBindsRow : OpenClaim := { program := "ytkajklfohjcofaagreatdoor", sum := "ce2ee4dfe36afdd4d729db6a0283bde3c41aab2b17e358b02414157f9e3d07c6", func := "loop.example/modlink/laws.FnMatchBinds", spec := "fnMatchBinds", inPlace := ["internal/reflectlite.ValueOf", "(internal/reflectlite.Value).Type", "(internal/reflectlite.Value).IsNil", "internal/reflectlite.TypeOf", "(internal/reflectlite.Value).Elem", "(internal/reflectlite.Value).Set"], unfollowed := true, recurses := true, named := ["errors.errorType"], plainKeys := false, apart := false, laid := [("errors.errorType", laid_errors_errorType)] }
def FnMatchBindsSaid : Prop := fnMatchBindsRow.holds Tryz.pinned (OpenSpec.ofChange fnMatchBindsSpec)

/-- ITS FALSE NEIGHBOUR: 'it returns false'. Refute it at one input. -/
def fnMatchBindsWrong : ChangeSpec := { name := "fnMatchBinds", fn := fun _ => fun
  | [d] => { results := [.lit (.bool false)], args := [d] }
  | _ => none }
def FnMatchBindsWrongFalsely : Prop := fnMatchBindsRow.holds Tryz.pinned (OpenSpec.ofChange fnMatchBindsWrong)

/-- 'laws.FnEquivSigs': WHATEVER THE INPUT: true; the input reads as it did. -/
def fnEquivSigsSpec : ChangeSpec := { name := "fnEquivSigs", fn := fun _ => fun
  | [d] => { results := [.lit (.bool true)], args := [d] }
  | _ => none }
def fnEquivSigsRow : OpenClaim := { program := "ytkajklfohjcofaagreatdoor", sum := "ce2ee4dfe36afdd4d729db6a0283bde3c41aab2b17e358b02414157f9e3d07c6", func := "loop.example/modlink/laws.FnEquivSigs", spec := "fnEquivSigs", inPlace := ["internal/reflectlite.ValueOf", "(internal/reflectlite.Value).Type", "(internal/reflectlite.Value).IsNil", "internal/reflectlite.TypeOf", "(internal/reflectlite.Value).Elem", "(internal/reflectlite.Value).Set"], unfollowed := true, recurses := true, named := ["errors.errorType"], plainKeys := false, apart := false, laid := [("errors.errorType", laid_errors_errorType)] }
def FnEquivSigsSaid : Prop := fnEquivSigsRow.holds Tryz.pinned (OpenSpec.ofChange fnEquivSigsSpec)

/-- ITS FALSE NEIGHBOUR: 'it returns false'. Refute it at one input. -/
def fnEquivSigsWrong : ChangeSpec := { name := "fnEquivSigs", fn := fun _ => fun
  | [d] => { results := [.lit (.bool false)], args := [d] }
  | _ => none }
def FnEquivSigsWrongFalsely : Prop := fnEquivSigsRow.holds Tryz.pinned (OpenSpec.ofChange fnEquivSigsWrong)

/-- 'laws.FnFirstMismatch': WHATEVER THE INPUT: true; the input reads as it did. -/
def fnFirstMismatchSpec : ChangeSpec := { name := "fnFirstMismatch", fn := fun _ => fun
  | [d] => { results := [.lit (.bool true)], args := [d] }
  | _ => none }
def fnFirstMismatchRow : OpenClaim := { program := "ytkajklfohjcofaagreatdoor", sum := "ce2ee4dfe36afdd4d729db6a0283bde3c41aab2b17e358b02414157f9e3d07c6", func := "loop.example/modlink/laws.FnFirstMismatch", spec := "fnFirstMismatch", inPlace := ["internal/reflectlite.ValueOf", "(internal/reflectlite.Value).Type", "(internal/reflectlite.Value).IsNil", "internal/reflectlite.TypeOf", "(internal/reflectlite.Value).Elem", "(internal/reflectlite.Value).Set"], unfollowed := true, recurses := true, named := ["errors.errorType"], plainKeys := false, apart := false, laid := [("errors.errorType", laid_errors_errorType)] }
def FnFirstMismatchSaid : Prop := fnFirstMismatchRow.holds Tryz.pinned (OpenSpec.ofChange fnFirstMismatchSpec)

/-- ITS FALSE NEIGHBOUR: 'it returns false'. Refute it at one input. -/
def fnFirstMismatchWrong : ChangeSpec := { name := "fnFirstMismatch", fn := fun _ => fun
  | [d] => { results := [.lit (.bool false)], args := [d] }
  | _ => none }
def FnFirstMismatchWrongFalsely : Prop := fnFirstMismatchRow.holds Tryz.pinned (OpenSpec.ofChange fnFirstMismatchWrong)

/-- 'laws.FnMatchStrengthen': WHATEVER THE INPUT: true; the input reads as it did. -/
def fnMatchStrengthenSpec : ChangeSpec := { name := "fnMatchStrengthen", fn := fun _ => fun
  | [d] => { results := [.lit (.bool true)], args := [d] }
  | _ => none }
def fnMatchStrengthenRow : OpenClaim := { program := "ytkajklfohjcofaagreatdoor", sum := "ce2ee4dfe36afdd4d729db6a0283bde3c41aab2b17e358b02414157f9e3d07c6", func := "loop.example/modlink/laws.FnMatchStrengthen", spec := "fnMatchStrengthen", inPlace := ["internal/reflectlite.ValueOf", "(internal/reflectlite.Value).Type", "(internal/reflectlite.Value).IsNil", "internal/reflectlite.TypeOf", "(internal/reflectlite.Value).Elem", "(internal/reflectlite.Value).Set"], unfollowed := true, recurses := true, named := ["errors.errorType"], plainKeys := false, apart := false, laid := [("errors.errorType", laid_errors_errorType)] }
def FnMatchStrengthenSaid : Prop := fnMatchStrengthenRow.holds Tryz.pinned (OpenSpec.ofChange fnMatchStrengthenSpec)

/-- ITS FALSE NEIGHBOUR: 'it returns false'. Refute it at one input. -/
def fnMatchStrengthenWrong : ChangeSpec := { name := "fnMatchStrengthen", fn := fun _ => fun
  | [d] => { results := [.lit (.bool false)], args := [d] }
  | _ => none }
def FnMatchStrengthenWrongFalsely : Prop := fnMatchStrengthenRow.holds Tryz.pinned (OpenSpec.ofChange fnMatchStrengthenWrong)

/-- 'laws.FnMatchWeaken': WHATEVER THE INPUT: true; the input reads as it did. -/
def fnMatchWeakenSpec : ChangeSpec := { name := "fnMatchWeaken", fn := fun _ => fun
  | [d1, d2] => { results := [.lit (.bool true)], args := [d1, d2] }
  | _ => none }
def fnMatchWeakenRow : OpenClaim := { program := "ytkajklfohjcofaagreatdoor", sum := "ce2ee4dfe36afdd4d729db6a0283bde3c41aab2b17e358b02414157f9e3d07c6", func := "loop.example/modlink/laws.FnMatchWeaken", spec := "fnMatchWeaken", inPlace := ["internal/reflectlite.ValueOf", "(internal/reflectlite.Value).Type", "(internal/reflectlite.Value).IsNil", "internal/reflectlite.TypeOf", "(internal/reflectlite.Value).Elem", "(internal/reflectlite.Value).Set"], unfollowed := true, recurses := true, named := ["errors.errorType"], plainKeys := false, apart := false, laid := [("errors.errorType", laid_errors_errorType)] }
def FnMatchWeakenSaid : Prop := fnMatchWeakenRow.holds Tryz.pinned (OpenSpec.ofChange fnMatchWeakenSpec)

/-- ITS FALSE NEIGHBOUR: 'it returns false'. Refute it at one input. -/
def fnMatchWeakenWrong : ChangeSpec := { name := "fnMatchWeaken", fn := fun _ => fun
  | [d1, d2] => { results := [.lit (.bool false)], args := [d1, d2] }
  | _ => none }
def FnMatchWeakenWrongFalsely : Prop := fnMatchWeakenRow.holds Tryz.pinned (OpenSpec.ofChange fnMatchWeakenWrong)

/- THE SECOND FORM. 'bulk': how many values and letters a reading holds, each counted each time it is reached (what is shared counts as often as it is met; a slice's spare places count too). A statement '..UptoSaid' is the law's where the arguments, and the package variables that the reading takes, are together of bulk at most 1048576: NARROWER than '..Said'. Prove '..Said' where nothing that the law and all that it calls make is longer than what came in: it says more and counts as full. Else prove '..UptoSaid'. A law counts once. -/
mutual
def uptoBulk {H : Type} : DataW H → Nat
  | .lit (.string bytes) => bytes.length + 1
  | .lit _ => 1
  | .nil => 1
  | .ptr d => uptoBulk d + 1
  | .slice elems spare => uptoBulkAll elems + uptoBulkAll spare + 1
  | .agg parts => uptoBulkAll parts + 1
  | .iface _ d => uptoBulk d + 1
  | .map entries => uptoBulkEntries entries + 1
  | .held _ => 1
def uptoBulkAll {H : Type} : List (DataW H) → Nat
  | [] => 0
  | d :: r => uptoBulk d + uptoBulkAll r
def uptoBulkEntries {H : Type} : List (Lit × DataW H) → Nat
  | [] => 0
  | x :: r => uptoBulkEntry x + uptoBulkEntries r
def uptoBulkEntry {H : Type} : Lit × DataW H → Nat
  | (.string bytes, d) => bytes.length + uptoBulk d + 1
  | (_, d) => uptoBulk d + 1
 end
def uptoSmall : (H : Type) → List (DataW H) → Bool := fun _ ds => decide (uptoBulkAll ds ≤ 1048576)
def OpenSpec.upto (s : _root_.Go.ChangeSpec) : _root_.Go.OpenSpec := { _root_.Go.OpenSpec.ofChange s with cond := some uptoSmall }

/-- 'laws.FnExactMatchSig', WHERE WHAT IT READS IS OF BULK AT MOST 1048576: true; the input reads as it did. -/
def fnExactMatchSigUptoRow : OpenClaim := { program := "ytkajklfohjcofaagreatdoor", sum := "ce2ee4dfe36afdd4d729db6a0283bde3c41aab2b17e358b02414157f9e3d07c6", func := "loop.example/modlink/laws.FnExactMatchSig", spec := "fnExactMatchSig", inPlace := ["internal/reflectlite.ValueOf", "(internal/reflectlite.Value).Type", "(internal/reflectlite.Value).IsNil", "internal/reflectlite.TypeOf", "(internal/reflectlite.Value).Elem", "(internal/reflectlite.Value).Set"], unfollowed := true, recurses := true, named := ["errors.errorType"], loops := true, plainKeys := false, apart := false, laid := [("errors.errorType", laid_errors_errorType)], narrowed := true }
def FnExactMatchSigUptoSaid : Prop := fnExactMatchSigUptoRow.holds Tryz.pinned (OpenSpec.upto fnExactMatchSigSpec)

/-- 'laws.FnExactEquivSigs', WHERE WHAT IT READS IS OF BULK AT MOST 1048576: true; the input reads as it did. -/
def fnExactEquivSigsUptoRow : OpenClaim := { program := "ytkajklfohjcofaagreatdoor", sum := "ce2ee4dfe36afdd4d729db6a0283bde3c41aab2b17e358b02414157f9e3d07c6", func := "loop.example/modlink/laws.FnExactEquivSigs", spec := "fnExactEquivSigs", inPlace := ["internal/reflectlite.ValueOf", "(internal/reflectlite.Value).Type", "(internal/reflectlite.Value).IsNil", "internal/reflectlite.TypeOf", "(internal/reflectlite.Value).Elem", "(internal/reflectlite.Value).Set"], unfollowed := true, recurses := true, named := ["errors.errorType"], loops := true, plainKeys := false, apart := false, laid := [("errors.errorType", laid_errors_errorType)], narrowed := true }
def FnExactEquivSigsUptoSaid : Prop := fnExactEquivSigsUptoRow.holds Tryz.pinned (OpenSpec.upto fnExactEquivSigsSpec)

/-- 'laws.FnExactFirstMismatch', WHERE WHAT IT READS IS OF BULK AT MOST 1048576: true; the input reads as it did. -/
def fnExactFirstMismatchUptoRow : OpenClaim := { program := "ytkajklfohjcofaagreatdoor", sum := "ce2ee4dfe36afdd4d729db6a0283bde3c41aab2b17e358b02414157f9e3d07c6", func := "loop.example/modlink/laws.FnExactFirstMismatch", spec := "fnExactFirstMismatch", inPlace := ["internal/reflectlite.ValueOf", "(internal/reflectlite.Value).Type", "(internal/reflectlite.Value).IsNil", "internal/reflectlite.TypeOf", "(internal/reflectlite.Value).Elem", "(internal/reflectlite.Value).Set"], unfollowed := true, recurses := true, named := ["errors.errorType"], loops := true, plainKeys := false, apart := false, laid := [("errors.errorType", laid_errors_errorType)], narrowed := true }
def FnExactFirstMismatchUptoSaid : Prop := fnExactFirstMismatchUptoRow.holds Tryz.pinned (OpenSpec.upto fnExactFirstMismatchSpec)

/-- 'laws.FnExactJoinSigs', WHERE WHAT IT READS IS OF BULK AT MOST 1048576: true; the input reads as it did. -/
def fnExactJoinSigsUptoRow : OpenClaim := { program := "ytkajklfohjcofaagreatdoor", sum := "ce2ee4dfe36afdd4d729db6a0283bde3c41aab2b17e358b02414157f9e3d07c6", func := "loop.example/modlink/laws.FnExactJoinSigs", spec := "fnExactJoinSigs", inPlace := ["internal/reflectlite.ValueOf", "(internal/reflectlite.Value).Type", "(internal/reflectlite.Value).IsNil", "internal/reflectlite.TypeOf", "(internal/reflectlite.Value).Elem", "(internal/reflectlite.Value).Set"], unfollowed := true, recurses := true, named := ["errors.errorType"], loops := true, plainKeys := false, apart := false, laid := [("errors.errorType", laid_errors_errorType)], narrowed := true }
def FnExactJoinSigsUptoSaid : Prop := fnExactJoinSigsUptoRow.holds Tryz.pinned (OpenSpec.upto fnExactJoinSigsSpec)

/-- 'laws.FnMatchReflexive', WHERE WHAT IT READS IS OF BULK AT MOST 1048576: true; the input reads as it did. -/
def fnMatchReflexiveUptoRow : OpenClaim := { program := "ytkajklfohjcofaagreatdoor", sum := "ce2ee4dfe36afdd4d729db6a0283bde3c41aab2b17e358b02414157f9e3d07c6", func := "loop.example/modlink/laws.FnMatchReflexive", spec := "fnMatchReflexive", inPlace := ["internal/reflectlite.ValueOf", "(internal/reflectlite.Value).Type", "(internal/reflectlite.Value).IsNil", "internal/reflectlite.TypeOf", "(internal/reflectlite.Value).Elem", "(internal/reflectlite.Value).Set"], unfollowed := true, recurses := true, named := ["errors.errorType"], plainKeys := false, apart := false, laid := [("errors.errorType", laid_errors_errorType)], narrowed := true }
def FnMatchReflexiveUptoSaid : Prop := fnMatchReflexiveUptoRow.holds Tryz.pinned (OpenSpec.upto fnMatchReflexiveSpec)

/-- 'laws.FnMatchEmpty', WHERE WHAT IT READS IS OF BULK AT MOST 1048576: true; the input reads as it did. -/
def fnMatchEmptyUptoRow : OpenClaim := { program := "ytkajklfohjcofaagreatdoor", sum := "ce2ee4dfe36afdd4d729db6a0283bde3c41aab2b17e358b02414157f9e3d07c6", func := "loop.example/modlink/laws.FnMatchEmpty", spec := "fnMatchEmpty", inPlace := ["internal/reflectlite.ValueOf", "(internal/reflectlite.Value).Type", "(internal/reflectlite.Value).IsNil", "internal/reflectlite.TypeOf", "(internal/reflectlite.Value).Elem", "(internal/reflectlite.Value).Set"], unfollowed := true, recurses := true, named := ["errors.errorType"], plainKeys := false, apart := false, laid := [("errors.errorType", laid_errors_errorType)], narrowed := true }
def FnMatchEmptyUptoSaid : Prop := fnMatchEmptyUptoRow.holds Tryz.pinned (OpenSpec.upto fnMatchEmptySpec)

/-- 'laws.FnMatchNormal', WHERE WHAT IT READS IS OF BULK AT MOST 1048576: true; the input reads as it did. -/
def fnMatchNormalUptoRow : OpenClaim := { program := "ytkajklfohjcofaagreatdoor", sum := "ce2ee4dfe36afdd4d729db6a0283bde3c41aab2b17e358b02414157f9e3d07c6", func := "loop.example/modlink/laws.FnMatchNormal", spec := "fnMatchNormal", inPlace := ["internal/reflectlite.ValueOf", "(internal/reflectlite.Value).Type", "(internal/reflectlite.Value).IsNil", "internal/reflectlite.TypeOf", "(internal/reflectlite.Value).Elem", "(internal/reflectlite.Value).Set"], unfollowed := true, recurses := true, named := ["errors.errorType"], plainKeys := false, apart := false, laid := [("errors.errorType", laid_errors_errorType)], narrowed := true }
def FnMatchNormalUptoSaid : Prop := fnMatchNormalUptoRow.holds Tryz.pinned (OpenSpec.upto fnMatchNormalSpec)

/-- 'laws.FnMatchBinds', WHERE WHAT IT READS IS OF BULK AT MOST 1048576: true; the input reads as it did. -/
def fnMatchBindsUptoRow : OpenClaim := { program := "ytkajklfohjcofaagreatdoor", sum := "ce2ee4dfe36afdd4d729db6a0283bde3c41aab2b17e358b02414157f9e3d07c6", func := "loop.example/modlink/laws.FnMatchBinds", spec := "fnMatchBinds", inPlace := ["internal/reflectlite.ValueOf", "(internal/reflectlite.Value).Type", "(internal/reflectlite.Value).IsNil", "internal/reflectlite.TypeOf", "(internal/reflectlite.Value).Elem", "(internal/reflectlite.Value).Set"], unfollowed := true, recurses := true, named := ["errors.errorType"], plainKeys := false, apart := false, laid := [("errors.errorType", laid_errors_errorType)], narrowed := true }
def FnMatchBindsUptoSaid : Prop := fnMatchBindsUptoRow.holds Tryz.pinned (OpenSpec.upto fnMatchBindsSpec)

/-- 'laws.FnEquivSigs', WHERE WHAT IT READS IS OF BULK AT MOST 1048576: true; the input reads as it did. -/
def fnEquivSigsUptoRow : OpenClaim := { program := "ytkajklfohjcofaagreatdoor", sum := "ce2ee4dfe36afdd4d729db6a0283bde3c41aab2b17e358b02414157f9e3d07c6", func := "loop.example/modlink/laws.FnEquivSigs", spec := "fnEquivSigs", inPlace := ["internal/reflectlite.ValueOf", "(internal/reflectlite.Value).Type", "(internal/reflectlite.Value).IsNil", "internal/reflectlite.TypeOf", "(internal/reflectlite.Value).Elem", "(internal/reflectlite.Value).Set"], unfollowed := true, recurses := true, named := ["errors.errorType"], plainKeys := false, apart := false, laid := [("errors.errorType", laid_errors_errorType)], narrowed := true }
def FnEquivSigsUptoSaid : Prop := fnEquivSigsUptoRow.holds Tryz.pinned (OpenSpec.upto fnEquivSigsSpec)

/-- 'laws.FnFirstMismatch', WHERE WHAT IT READS IS OF BULK AT MOST 1048576: true; the input reads as it did. -/
def fnFirstMismatchUptoRow : OpenClaim := { program := "ytkajklfohjcofaagreatdoor", sum := "ce2ee4dfe36afdd4d729db6a0283bde3c41aab2b17e358b02414157f9e3d07c6", func := "loop.example/modlink/laws.FnFirstMismatch", spec := "fnFirstMismatch", inPlace := ["internal/reflectlite.ValueOf", "(internal/reflectlite.Value).Type", "(internal/reflectlite.Value).IsNil", "internal/reflectlite.TypeOf", "(internal/reflectlite.Value).Elem", "(internal/reflectlite.Value).Set"], unfollowed := true, recurses := true, named := ["errors.errorType"], plainKeys := false, apart := false, laid := [("errors.errorType", laid_errors_errorType)], narrowed := true }
def FnFirstMismatchUptoSaid : Prop := fnFirstMismatchUptoRow.holds Tryz.pinned (OpenSpec.upto fnFirstMismatchSpec)

/-- 'laws.FnMatchStrengthen', WHERE WHAT IT READS IS OF BULK AT MOST 1048576: true; the input reads as it did. -/
def fnMatchStrengthenUptoRow : OpenClaim := { program := "ytkajklfohjcofaagreatdoor", sum := "ce2ee4dfe36afdd4d729db6a0283bde3c41aab2b17e358b02414157f9e3d07c6", func := "loop.example/modlink/laws.FnMatchStrengthen", spec := "fnMatchStrengthen", inPlace := ["internal/reflectlite.ValueOf", "(internal/reflectlite.Value).Type", "(internal/reflectlite.Value).IsNil", "internal/reflectlite.TypeOf", "(internal/reflectlite.Value).Elem", "(internal/reflectlite.Value).Set"], unfollowed := true, recurses := true, named := ["errors.errorType"], plainKeys := false, apart := false, laid := [("errors.errorType", laid_errors_errorType)], narrowed := true }
def FnMatchStrengthenUptoSaid : Prop := fnMatchStrengthenUptoRow.holds Tryz.pinned (OpenSpec.upto fnMatchStrengthenSpec)

/-- 'laws.FnMatchWeaken', WHERE WHAT IT READS IS OF BULK AT MOST 1048576: true; the input reads as it did. -/
def fnMatchWeakenUptoRow : OpenClaim := { program := "ytkajklfohjcofaagreatdoor", sum := "ce2ee4dfe36afdd4d729db6a0283bde3c41aab2b17e358b02414157f9e3d07c6", func := "loop.example/modlink/laws.FnMatchWeaken", spec := "fnMatchWeaken", inPlace := ["internal/reflectlite.ValueOf", "(internal/reflectlite.Value).Type", "(internal/reflectlite.Value).IsNil", "internal/reflectlite.TypeOf", "(internal/reflectlite.Value).Elem", "(internal/reflectlite.Value).Set"], unfollowed := true, recurses := true, named := ["errors.errorType"], plainKeys := false, apart := false, laid := [("errors.errorType", laid_errors_errorType)], narrowed := true }
def FnMatchWeakenUptoSaid : Prop := fnMatchWeakenUptoRow.holds Tryz.pinned (OpenSpec.upto fnMatchWeakenSpec)

end Rows
end Go.Proofs.YtkajklfohjcofaaGreatDoor
