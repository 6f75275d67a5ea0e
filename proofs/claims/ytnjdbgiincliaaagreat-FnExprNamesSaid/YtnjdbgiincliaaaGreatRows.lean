/-
  NARROWER THAN 'FOR EVERY INPUT', by the rows' own cells (each row's printed sentence says how): FnExactProgramValid: loops · FnExactSameNames: loops · FnExactSigModules: loops · FnExactUnitUses: loops · FnExactDeclUses: loops · FnExactExprNames: loops · FnExactSubstExpr: loops · FnExactExpandExpr: loops.
  DERIVED. THE GIVEN ROWS OF THIS SEAT. 12 by the template 'for every input the law returns true; each argument reads behind the call as it read before'; 0 by the template 'total and deterministic' (their statements: YtnjdbgiincliaaaGreatTotals.lean).
  GIVEN WITH THE SEED: the statements are not yours to turn. If you find one false, say at which input.
  Laid BY PROGRAM, IN A SANDBOX (cutbox-rows.mjs): the forced cells as the released guide's own fill.sh prints them over the translation 988a60ee82793c55… (all of the seat's roots in one cut). By AI agents, Wed Nov 11 2026. No macro, syntax, notation, axiom, sorry.
-/
import Derived.Test.YtnjdbgiincliaaaGreatChecked
import GoSem.Claim
import GoSem.ClaimJoined
import GoSem.ClaimMapViews
import Derived.JoinedTies
import Derived.KernelRfl
namespace Go.Proofs.YtnjdbgiincliaaaGreat
/- THE CELL 'sum', in the pinned program and in every row, IS THE sha256 OF THE DUMP (.gsa) THAT YtnjdbgiincliaaaGreatProg.lean LOADS. Nothing in Lean hashes anything: it is a label: what it is worth is what the hold of that sum in a sandbox is worth. -/
noncomputable def Tryz.pinned : Pinned := { name := "ytnjdbgiincliaaagreat", sum := "988a60ee82793c555a12c1c8ec8a83a6ac3f371f6a2936fe9d28e8bc612863af", checked := Tryz.checked }
namespace Rows
def none {H : Type} : Left H := { results := [], args := [] }

/-- 'laws.FnExactProgramValid': WHATEVER THE INPUT: true; the input reads as it did. -/
def fnExactProgramValidSpec : ChangeSpec := { name := "fnExactProgramValid", fn := fun _ => fun
  | [d] => { results := [.lit (.bool true)], args := [d] }
  | _ => none }
def fnExactProgramValidRow : OpenClaim := { program := "ytnjdbgiincliaaagreat", sum := "988a60ee82793c555a12c1c8ec8a83a6ac3f371f6a2936fe9d28e8bc612863af", func := "loop.example/modlink/laws.FnExactProgramValid", spec := "fnExactProgramValid", unfollowed := true, recurses := true, loops := true, plainKeys := false, apart := false }
def FnExactProgramValidSaid : Prop := fnExactProgramValidRow.holds Tryz.pinned (OpenSpec.ofChange fnExactProgramValidSpec)

/-- ITS FALSE NEIGHBOUR: 'it returns false'. Refute it at one input. -/
def fnExactProgramValidWrong : ChangeSpec := { name := "fnExactProgramValid", fn := fun _ => fun
  | [d] => { results := [.lit (.bool false)], args := [d] }
  | _ => none }
def FnExactProgramValidWrongFalsely : Prop := fnExactProgramValidRow.holds Tryz.pinned (OpenSpec.ofChange fnExactProgramValidWrong)

/-- 'laws.FnExactSameNames': WHATEVER THE INPUT: true; the input reads as it did. -/
def fnExactSameNamesSpec : ChangeSpec := { name := "fnExactSameNames", fn := fun _ => fun
  | [d1, d2] => { results := [.lit (.bool true)], args := [d1, d2] }
  | _ => none }
def fnExactSameNamesRow : OpenClaim := { program := "ytnjdbgiincliaaagreat", sum := "988a60ee82793c555a12c1c8ec8a83a6ac3f371f6a2936fe9d28e8bc612863af", func := "loop.example/modlink/laws.FnExactSameNames", spec := "fnExactSameNames", unfollowed := true, recurses := true, loops := true, plainKeys := false, apart := false }
def FnExactSameNamesSaid : Prop := fnExactSameNamesRow.holds Tryz.pinned (OpenSpec.ofChange fnExactSameNamesSpec)

/-- ITS FALSE NEIGHBOUR: 'it returns false'. Refute it at one input. -/
def fnExactSameNamesWrong : ChangeSpec := { name := "fnExactSameNames", fn := fun _ => fun
  | [d1, d2] => { results := [.lit (.bool false)], args := [d1, d2] }
  | _ => none }
def FnExactSameNamesWrongFalsely : Prop := fnExactSameNamesRow.holds Tryz.pinned (OpenSpec.ofChange fnExactSameNamesWrong)

/-- 'laws.FnExactSigModules': WHATEVER THE INPUT: true; the input reads as it did. -/
def fnExactSigModulesSpec : ChangeSpec := { name := "fnExactSigModules", fn := fun _ => fun
  | [d] => { results := [.lit (.bool true)], args := [d] }
  | _ => none }
def fnExactSigModulesRow : OpenClaim := { program := "ytnjdbgiincliaaagreat", sum := "988a60ee82793c555a12c1c8ec8a83a6ac3f371f6a2936fe9d28e8bc612863af", func := "loop.example/modlink/laws.FnExactSigModules", spec := "fnExactSigModules", unfollowed := true, recurses := true, loops := true, plainKeys := false, apart := false }
def FnExactSigModulesSaid : Prop := fnExactSigModulesRow.holds Tryz.pinned (OpenSpec.ofChange fnExactSigModulesSpec)

/-- ITS FALSE NEIGHBOUR: 'it returns false'. Refute it at one input. -/
def fnExactSigModulesWrong : ChangeSpec := { name := "fnExactSigModules", fn := fun _ => fun
  | [d] => { results := [.lit (.bool false)], args := [d] }
  | _ => none }
def FnExactSigModulesWrongFalsely : Prop := fnExactSigModulesRow.holds Tryz.pinned (OpenSpec.ofChange fnExactSigModulesWrong)

/-- 'laws.FnRenameSig': WHATEVER THE INPUT: true; the input reads as it did. -/
def fnRenameSigSpec : ChangeSpec := { name := "fnRenameSig", fn := fun _ => fun
  | [d] => { results := [.lit (.bool true)], args := [d] }
  | _ => none }
def fnRenameSigRow : OpenClaim := { program := "ytnjdbgiincliaaagreat", sum := "988a60ee82793c555a12c1c8ec8a83a6ac3f371f6a2936fe9d28e8bc612863af", func := "loop.example/modlink/laws.FnRenameSig", spec := "fnRenameSig", unfollowed := true, recurses := true, plainKeys := false, apart := false }
def FnRenameSigSaid : Prop := fnRenameSigRow.holds Tryz.pinned (OpenSpec.ofChange fnRenameSigSpec)

/-- ITS FALSE NEIGHBOUR: 'it returns false'. Refute it at one input. -/
def fnRenameSigWrong : ChangeSpec := { name := "fnRenameSig", fn := fun _ => fun
  | [d] => { results := [.lit (.bool false)], args := [d] }
  | _ => none }
def FnRenameSigWrongFalsely : Prop := fnRenameSigRow.holds Tryz.pinned (OpenSpec.ofChange fnRenameSigWrong)

/-- 'laws.FnSigModules': WHATEVER THE INPUT: true; the input reads as it did. -/
def fnSigModulesSpec : ChangeSpec := { name := "fnSigModules", fn := fun _ => fun
  | [d] => { results := [.lit (.bool true)], args := [d] }
  | _ => none }
def fnSigModulesRow : OpenClaim := { program := "ytnjdbgiincliaaagreat", sum := "988a60ee82793c555a12c1c8ec8a83a6ac3f371f6a2936fe9d28e8bc612863af", func := "loop.example/modlink/laws.FnSigModules", spec := "fnSigModules", unfollowed := true, recurses := true, plainKeys := false, apart := false }
def FnSigModulesSaid : Prop := fnSigModulesRow.holds Tryz.pinned (OpenSpec.ofChange fnSigModulesSpec)

/-- ITS FALSE NEIGHBOUR: 'it returns false'. Refute it at one input. -/
def fnSigModulesWrong : ChangeSpec := { name := "fnSigModules", fn := fun _ => fun
  | [d] => { results := [.lit (.bool false)], args := [d] }
  | _ => none }
def FnSigModulesWrongFalsely : Prop := fnSigModulesRow.holds Tryz.pinned (OpenSpec.ofChange fnSigModulesWrong)

/-- 'laws.FnNormalModules': WHATEVER THE INPUT: true; the input reads as it did. -/
def fnNormalModulesSpec : ChangeSpec := { name := "fnNormalModules", fn := fun _ => fun
  | [d] => { results := [.lit (.bool true)], args := [d] }
  | _ => none }
def fnNormalModulesRow : OpenClaim := { program := "ytnjdbgiincliaaagreat", sum := "988a60ee82793c555a12c1c8ec8a83a6ac3f371f6a2936fe9d28e8bc612863af", func := "loop.example/modlink/laws.FnNormalModules", spec := "fnNormalModules", unfollowed := true, recurses := true, plainKeys := false, apart := false }
def FnNormalModulesSaid : Prop := fnNormalModulesRow.holds Tryz.pinned (OpenSpec.ofChange fnNormalModulesSpec)

/-- ITS FALSE NEIGHBOUR: 'it returns false'. Refute it at one input. -/
def fnNormalModulesWrong : ChangeSpec := { name := "fnNormalModules", fn := fun _ => fun
  | [d] => { results := [.lit (.bool false)], args := [d] }
  | _ => none }
def FnNormalModulesWrongFalsely : Prop := fnNormalModulesRow.holds Tryz.pinned (OpenSpec.ofChange fnNormalModulesWrong)

/-- 'laws.FnExactUnitUses': WHATEVER THE INPUT: true; the input reads as it did. -/
def fnExactUnitUsesSpec : ChangeSpec := { name := "fnExactUnitUses", fn := fun _ => fun
  | [d] => { results := [.lit (.bool true)], args := [d] }
  | _ => none }
def fnExactUnitUsesRow : OpenClaim := { program := "ytnjdbgiincliaaagreat", sum := "988a60ee82793c555a12c1c8ec8a83a6ac3f371f6a2936fe9d28e8bc612863af", func := "loop.example/modlink/laws.FnExactUnitUses", spec := "fnExactUnitUses", unfollowed := true, recurses := true, loops := true, plainKeys := false, apart := false }
def FnExactUnitUsesSaid : Prop := fnExactUnitUsesRow.holds Tryz.pinned (OpenSpec.ofChange fnExactUnitUsesSpec)

/-- ITS FALSE NEIGHBOUR: 'it returns false'. Refute it at one input. -/
def fnExactUnitUsesWrong : ChangeSpec := { name := "fnExactUnitUses", fn := fun _ => fun
  | [d] => { results := [.lit (.bool false)], args := [d] }
  | _ => none }
def FnExactUnitUsesWrongFalsely : Prop := fnExactUnitUsesRow.holds Tryz.pinned (OpenSpec.ofChange fnExactUnitUsesWrong)

/-- 'laws.FnExactDeclUses': WHATEVER THE INPUT: true; the input reads as it did. -/
def fnExactDeclUsesSpec : ChangeSpec := { name := "fnExactDeclUses", fn := fun _ => fun
  | [d] => { results := [.lit (.bool true)], args := [d] }
  | _ => none }
def fnExactDeclUsesRow : OpenClaim := { program := "ytnjdbgiincliaaagreat", sum := "988a60ee82793c555a12c1c8ec8a83a6ac3f371f6a2936fe9d28e8bc612863af", func := "loop.example/modlink/laws.FnExactDeclUses", spec := "fnExactDeclUses", unfollowed := true, recurses := true, loops := true, plainKeys := false, apart := false }
def FnExactDeclUsesSaid : Prop := fnExactDeclUsesRow.holds Tryz.pinned (OpenSpec.ofChange fnExactDeclUsesSpec)

/-- ITS FALSE NEIGHBOUR: 'it returns false'. Refute it at one input. -/
def fnExactDeclUsesWrong : ChangeSpec := { name := "fnExactDeclUses", fn := fun _ => fun
  | [d] => { results := [.lit (.bool false)], args := [d] }
  | _ => none }
def FnExactDeclUsesWrongFalsely : Prop := fnExactDeclUsesRow.holds Tryz.pinned (OpenSpec.ofChange fnExactDeclUsesWrong)

/-- 'laws.FnExactExprNames': WHATEVER THE INPUT: true; the input reads as it did. -/
def fnExactExprNamesSpec : ChangeSpec := { name := "fnExactExprNames", fn := fun _ => fun
  | [d] => { results := [.lit (.bool true)], args := [d] }
  | _ => none }
def fnExactExprNamesRow : OpenClaim := { program := "ytnjdbgiincliaaagreat", sum := "988a60ee82793c555a12c1c8ec8a83a6ac3f371f6a2936fe9d28e8bc612863af", func := "loop.example/modlink/laws.FnExactExprNames", spec := "fnExactExprNames", unfollowed := true, recurses := true, loops := true, plainKeys := false, apart := false }
def FnExactExprNamesSaid : Prop := fnExactExprNamesRow.holds Tryz.pinned (OpenSpec.ofChange fnExactExprNamesSpec)

/-- ITS FALSE NEIGHBOUR: 'it returns false'. Refute it at one input. -/
def fnExactExprNamesWrong : ChangeSpec := { name := "fnExactExprNames", fn := fun _ => fun
  | [d] => { results := [.lit (.bool false)], args := [d] }
  | _ => none }
def FnExactExprNamesWrongFalsely : Prop := fnExactExprNamesRow.holds Tryz.pinned (OpenSpec.ofChange fnExactExprNamesWrong)

/-- 'laws.FnExprNames': WHATEVER THE INPUT: true; the input reads as it did. -/
def fnExprNamesSpec : ChangeSpec := { name := "fnExprNames", fn := fun _ => fun
  | [d] => { results := [.lit (.bool true)], args := [d] }
  | _ => none }
def fnExprNamesRow : OpenClaim := { program := "ytnjdbgiincliaaagreat", sum := "988a60ee82793c555a12c1c8ec8a83a6ac3f371f6a2936fe9d28e8bc612863af", func := "loop.example/modlink/laws.FnExprNames", spec := "fnExprNames", unfollowed := true, recurses := true, plainKeys := false, apart := false }
def FnExprNamesSaid : Prop := fnExprNamesRow.holds Tryz.pinned (OpenSpec.ofChange fnExprNamesSpec)

/-- ITS FALSE NEIGHBOUR: 'it returns false'. Refute it at one input. -/
def fnExprNamesWrong : ChangeSpec := { name := "fnExprNames", fn := fun _ => fun
  | [d] => { results := [.lit (.bool false)], args := [d] }
  | _ => none }
def FnExprNamesWrongFalsely : Prop := fnExprNamesRow.holds Tryz.pinned (OpenSpec.ofChange fnExprNamesWrong)

/-- 'laws.FnExactSubstExpr': WHATEVER THE INPUT: true; the input reads as it did. -/
def fnExactSubstExprSpec : ChangeSpec := { name := "fnExactSubstExpr", fn := fun _ => fun
  | [d1, d2] => { results := [.lit (.bool true)], args := [d1, d2] }
  | _ => none }
def fnExactSubstExprRow : OpenClaim := { program := "ytnjdbgiincliaaagreat", sum := "988a60ee82793c555a12c1c8ec8a83a6ac3f371f6a2936fe9d28e8bc612863af", func := "loop.example/modlink/laws.FnExactSubstExpr", spec := "fnExactSubstExpr", unfollowed := true, recurses := true, loops := true, plainKeys := false, apart := false }
def FnExactSubstExprSaid : Prop := fnExactSubstExprRow.holds Tryz.pinned (OpenSpec.ofChange fnExactSubstExprSpec)

/-- ITS FALSE NEIGHBOUR: 'it returns false'. Refute it at one input. -/
def fnExactSubstExprWrong : ChangeSpec := { name := "fnExactSubstExpr", fn := fun _ => fun
  | [d1, d2] => { results := [.lit (.bool false)], args := [d1, d2] }
  | _ => none }
def FnExactSubstExprWrongFalsely : Prop := fnExactSubstExprRow.holds Tryz.pinned (OpenSpec.ofChange fnExactSubstExprWrong)

/-- 'laws.FnExactExpandExpr': WHATEVER THE INPUT: true; the input reads as it did. -/
def fnExactExpandExprSpec : ChangeSpec := { name := "fnExactExpandExpr", fn := fun _ => fun
  | [d1, d2] => { results := [.lit (.bool true)], args := [d1, d2] }
  | _ => none }
def fnExactExpandExprRow : OpenClaim := { program := "ytnjdbgiincliaaagreat", sum := "988a60ee82793c555a12c1c8ec8a83a6ac3f371f6a2936fe9d28e8bc612863af", func := "loop.example/modlink/laws.FnExactExpandExpr", spec := "fnExactExpandExpr", unfollowed := true, recurses := true, loops := true, plainKeys := false, apart := false }
def FnExactExpandExprSaid : Prop := fnExactExpandExprRow.holds Tryz.pinned (OpenSpec.ofChange fnExactExpandExprSpec)

/-- ITS FALSE NEIGHBOUR: 'it returns false'. Refute it at one input. -/
def fnExactExpandExprWrong : ChangeSpec := { name := "fnExactExpandExpr", fn := fun _ => fun
  | [d1, d2] => { results := [.lit (.bool false)], args := [d1, d2] }
  | _ => none }
def FnExactExpandExprWrongFalsely : Prop := fnExactExpandExprRow.holds Tryz.pinned (OpenSpec.ofChange fnExactExpandExprWrong)

/- THE SECOND FORM. 'bulk': how many values and letters a reading holds, each counted each time it is reached (what is shared counts as often as it is met; a slice's spare places count too). A statement '..UptoSaid' is the law's where the arguments, and the package variables that the reading takes, are together of bulk at most 1048576: NARROWER than '..Said'. Prove '..Said' where nothing that the law and all that it calls make is longer than what came in: it says more and counts as full. Else prove '..UptoSaid'. A law counts once. -/
mutual
def uptoBulk {H : Type} : DataW H → Nat
  | .lit (.string bytes) => bytes.length + 1
  | .lit _ => 1
  | .nil => 1
  | .ptr d => uptoBulk d + 1
  | .slice elems spare => uptoBulkAll elems + uptoBulkAll spare + 1
  | .agg parts => uptoBulkAll parts + 1
  | .iface _ d => uptoBulk d + 1
  | .map entries => uptoBulkEntries entries + 1
  | .held _ => 1
def uptoBulkAll {H : Type} : List (DataW H) → Nat
  | [] => 0
  | d :: r => uptoBulk d + uptoBulkAll r
def uptoBulkEntries {H : Type} : List (Lit × DataW H) → Nat
  | [] => 0
  | x :: r => uptoBulkEntry x + uptoBulkEntries r
def uptoBulkEntry {H : Type} : Lit × DataW H → Nat
  | (.string bytes, d) => bytes.length + uptoBulk d + 1
  | (_, d) => uptoBulk d + 1
 end
def uptoSmall : (H : Type) → List (DataW H) → Bool := fun _ ds => decide (uptoBulkAll ds ≤ 1048576)
def OpenSpec.upto (s : _root_.Go.ChangeSpec) : _root_.Go.OpenSpec := { _root_.Go.OpenSpec.ofChange s with cond := some uptoSmall }

/-- 'laws.FnExactProgramValid', WHERE WHAT IT READS IS OF BULK AT MOST 1048576: true; the input reads as it did. -/
def fnExactProgramValidUptoRow : OpenClaim := { program := "ytnjdbgiincliaaagreat", sum := "988a60ee82793c555a12c1c8ec8a83a6ac3f371f6a2936fe9d28e8bc612863af", func := "loop.example/modlink/laws.FnExactProgramValid", spec := "fnExactProgramValid", unfollowed := true, recurses := true, loops := true, plainKeys := false, apart := false, narrowed := true }
def FnExactProgramValidUptoSaid : Prop := fnExactProgramValidUptoRow.holds Tryz.pinned (OpenSpec.upto fnExactProgramValidSpec)

/-- 'laws.FnExactSameNames', WHERE WHAT IT READS IS OF BULK AT MOST 1048576: true; the input reads as it did. -/
def fnExactSameNamesUptoRow : OpenClaim := { program := "ytnjdbgiincliaaagreat", sum := "988a60ee82793c555a12c1c8ec8a83a6ac3f371f6a2936fe9d28e8bc612863af", func := "loop.example/modlink/laws.FnExactSameNames", spec := "fnExactSameNames", unfollowed := true, recurses := true, loops := true, plainKeys := false, apart := false, narrowed := true }
def FnExactSameNamesUptoSaid : Prop := fnExactSameNamesUptoRow.holds Tryz.pinned (OpenSpec.upto fnExactSameNamesSpec)

/-- 'laws.FnExactSigModules', WHERE WHAT IT READS IS OF BULK AT MOST 1048576: true; the input reads as it did. -/
def fnExactSigModulesUptoRow : OpenClaim := { program := "ytnjdbgiincliaaagreat", sum := "988a60ee82793c555a12c1c8ec8a83a6ac3f371f6a2936fe9d28e8bc612863af", func := "loop.example/modlink/laws.FnExactSigModules", spec := "fnExactSigModules", unfollowed := true, recurses := true, loops := true, plainKeys := false, apart := false, narrowed := true }
def FnExactSigModulesUptoSaid : Prop := fnExactSigModulesUptoRow.holds Tryz.pinned (OpenSpec.upto fnExactSigModulesSpec)

/-- 'laws.FnRenameSig', WHERE WHAT IT READS IS OF BULK AT MOST 1048576: true; the input reads as it did. -/
def fnRenameSigUptoRow : OpenClaim := { program := "ytnjdbgiincliaaagreat", sum := "988a60ee82793c555a12c1c8ec8a83a6ac3f371f6a2936fe9d28e8bc612863af", func := "loop.example/modlink/laws.FnRenameSig", spec := "fnRenameSig", unfollowed := true, recurses := true, plainKeys := false, apart := false, narrowed := true }
def FnRenameSigUptoSaid : Prop := fnRenameSigUptoRow.holds Tryz.pinned (OpenSpec.upto fnRenameSigSpec)

/-- 'laws.FnSigModules', WHERE WHAT IT READS IS OF BULK AT MOST 1048576: true; the input reads as it did. -/
def fnSigModulesUptoRow : OpenClaim := { program := "ytnjdbgiincliaaagreat", sum := "988a60ee82793c555a12c1c8ec8a83a6ac3f371f6a2936fe9d28e8bc612863af", func := "loop.example/modlink/laws.FnSigModules", spec := "fnSigModules", unfollowed := true, recurses := true, plainKeys := false, apart := false, narrowed := true }
def FnSigModulesUptoSaid : Prop := fnSigModulesUptoRow.holds Tryz.pinned (OpenSpec.upto fnSigModulesSpec)

/-- 'laws.FnNormalModules', WHERE WHAT IT READS IS OF BULK AT MOST 1048576: true; the input reads as it did. -/
def fnNormalModulesUptoRow : OpenClaim := { program := "ytnjdbgiincliaaagreat", sum := "988a60ee82793c555a12c1c8ec8a83a6ac3f371f6a2936fe9d28e8bc612863af", func := "loop.example/modlink/laws.FnNormalModules", spec := "fnNormalModules", unfollowed := true, recurses := true, plainKeys := false, apart := false, narrowed := true }
def FnNormalModulesUptoSaid : Prop := fnNormalModulesUptoRow.holds Tryz.pinned (OpenSpec.upto fnNormalModulesSpec)

/-- 'laws.FnExactUnitUses', WHERE WHAT IT READS IS OF BULK AT MOST 1048576: true; the input reads as it did. -/
def fnExactUnitUsesUptoRow : OpenClaim := { program := "ytnjdbgiincliaaagreat", sum := "988a60ee82793c555a12c1c8ec8a83a6ac3f371f6a2936fe9d28e8bc612863af", func := "loop.example/modlink/laws.FnExactUnitUses", spec := "fnExactUnitUses", unfollowed := true, recurses := true, loops := true, plainKeys := false, apart := false, narrowed := true }
def FnExactUnitUsesUptoSaid : Prop := fnExactUnitUsesUptoRow.holds Tryz.pinned (OpenSpec.upto fnExactUnitUsesSpec)

/-- 'laws.FnExactDeclUses', WHERE WHAT IT READS IS OF BULK AT MOST 1048576: true; the input reads as it did. -/
def fnExactDeclUsesUptoRow : OpenClaim := { program := "ytnjdbgiincliaaagreat", sum := "988a60ee82793c555a12c1c8ec8a83a6ac3f371f6a2936fe9d28e8bc612863af", func := "loop.example/modlink/laws.FnExactDeclUses", spec := "fnExactDeclUses", unfollowed := true, recurses := true, loops := true, plainKeys := false, apart := false, narrowed := true }
def FnExactDeclUsesUptoSaid : Prop := fnExactDeclUsesUptoRow.holds Tryz.pinned (OpenSpec.upto fnExactDeclUsesSpec)

/-- 'laws.FnExactExprNames', WHERE WHAT IT READS IS OF BULK AT MOST 1048576: true; the input reads as it did. -/
def fnExactExprNamesUptoRow : OpenClaim := { program := "ytnjdbgiincliaaagreat", sum := "988a60ee82793c555a12c1c8ec8a83a6ac3f371f6a2936fe9d28e8bc612863af", func := "loop.example/modlink/laws.FnExactExprNames", spec := "fnExactExprNames", unfollowed := true, recurses := true, loops := true, plainKeys := false, apart := false, narrowed := true }
def FnExactExprNamesUptoSaid : Prop := fnExactExprNamesUptoRow.holds Tryz.pinned (OpenSpec.upto fnExactExprNamesSpec)

/-- 'laws.FnExprNames', WHERE WHAT IT READS IS OF BULK AT MOST 1048576: true; the input reads as it did. -/
def fnExprNamesUptoRow : OpenClaim := { program := "ytnjdbgiincliaaagreat", sum := "988a60ee82793c555a12c1c8ec8a83a6ac3f371f6a2936fe9d28e8bc612863af", func := "loop.example/modlink/laws.FnExprNames", spec := "fnExprNames", unfollowed := true, recurses := true, plainKeys := false, apart := false, narrowed := true }
def FnExprNamesUptoSaid : Prop := fnExprNamesUptoRow.holds Tryz.pinned (OpenSpec.upto fnExprNamesSpec)

/-- 'laws.FnExactSubstExpr', WHERE WHAT IT READS IS OF BULK AT MOST 1048576: true; the input reads as it did. -/
def fnExactSubstExprUptoRow : OpenClaim := { program := "ytnjdbgiincliaaagreat", sum := "988a60ee82793c555a12c1c8ec8a83a6ac3f371f6a2936fe9d28e8bc612863af", func := "loop.example/modlink/laws.FnExactSubstExpr", spec := "fnExactSubstExpr", unfollowed := true, recurses := true, loops := true, plainKeys := false, apart := false, narrowed := true }
def FnExactSubstExprUptoSaid : Prop := fnExactSubstExprUptoRow.holds Tryz.pinned (OpenSpec.upto fnExactSubstExprSpec)

/-- 'laws.FnExactExpandExpr', WHERE WHAT IT READS IS OF BULK AT MOST 1048576: true; the input reads as it did. -/
def fnExactExpandExprUptoRow : OpenClaim := { program := "ytnjdbgiincliaaagreat", sum := "988a60ee82793c555a12c1c8ec8a83a6ac3f371f6a2936fe9d28e8bc612863af", func := "loop.example/modlink/laws.FnExactExpandExpr", spec := "fnExactExpandExpr", unfollowed := true, recurses := true, loops := true, plainKeys := false, apart := false, narrowed := true }
def FnExactExpandExprUptoSaid : Prop := fnExactExpandExprUptoRow.holds Tryz.pinned (OpenSpec.upto fnExactExpandExprSpec)

end Rows
end Go.Proofs.YtnjdbgiincliaaaGreat
