/-
  NARROWER THAN 'FOR EVERY INPUT', by the rows' own cells (each row's printed sentence says how): FnExactNormalSig: loops · FnExactFindType: loops · FnExactFindVal: loops · FnExactStrengthenSig: loops.
  DERIVED. THE GIVEN ROWS OF THIS SEAT. 4 by the template 'for every input the law returns true; each argument reads behind the call as it read before'; 0 by the template 'total and deterministic' (their statements: YtjoaedbeohgciaaGreatTotals.lean).
  GIVEN WITH THE SEED: the statements are not yours to turn. If you find one false, say at which input.
  Laid BY PROGRAM, IN A SANDBOX (cutbox-rows.mjs): the forced cells as the released guide's own fill.sh prints them over the translation 4cf026ef24ed4287… (all of the seat's roots in one cut). By AI agents, Wed Nov 11 2026. No macro, syntax, notation, axiom, sorry.
-/
import Derived.Test.YtjoaedbeohgciaaGreatChecked
import GoSem.Claim
import GoSem.ClaimJoined
import GoSem.ClaimMapViews
import Derived.JoinedTies
import Derived.KernelRfl
namespace Go.Proofs.YtjoaedbeohgciaaGreat
/- THE CELL 'sum', in the pinned program and in every row, IS THE sha256 OF THE DUMP (.gsa) THAT YtjoaedbeohgciaaGreatProg.lean LOADS. Nothing in Lean hashes anything: it is a label: what it is worth is what the hold of that sum in a sandbox is worth. -/
noncomputable def Tryz.pinned : Pinned := { name := "ytjoaedbeohgciaagreat", sum := "4cf026ef24ed42875c99ce393f1b5a253bf822d3d45f1cdfbeb091408f896c3a", checked := Tryz.checked }
namespace Rows
def none {H : Type} : Left H := { results := [], args := [] }

/-- 'laws.FnExactNormalSig': WHATEVER THE INPUT: true; the input reads as it did. -/
def fnExactNormalSigSpec : ChangeSpec := { name := "fnExactNormalSig", fn := fun _ => fun
  | [d] => { results := [.lit (.bool true)], args := [d] }
  | _ => none }
def fnExactNormalSigRow : OpenClaim := { program := "ytjoaedbeohgciaagreat", sum := "4cf026ef24ed42875c99ce393f1b5a253bf822d3d45f1cdfbeb091408f896c3a", func := "loop.example/modlink/laws.FnExactNormalSig", spec := "fnExactNormalSig", unfollowed := true, recurses := true, loops := true, plainKeys := false, apart := false }
def FnExactNormalSigSaid : Prop := fnExactNormalSigRow.holds Tryz.pinned (OpenSpec.ofChange fnExactNormalSigSpec)

/-- ITS FALSE NEIGHBOUR: 'it returns false'. Refute it at one input. -/
def fnExactNormalSigWrong : ChangeSpec := { name := "fnExactNormalSig", fn := fun _ => fun
  | [d] => { results := [.lit (.bool false)], args := [d] }
  | _ => none }
def FnExactNormalSigWrongFalsely : Prop := fnExactNormalSigRow.holds Tryz.pinned (OpenSpec.ofChange fnExactNormalSigWrong)

/-- 'laws.FnExactFindType': WHATEVER THE INPUT: true; the input reads as it did. -/
def fnExactFindTypeSpec : ChangeSpec := { name := "fnExactFindType", fn := fun _ => fun
  | [d1, d2] => { results := [.lit (.bool true)], args := [d1, d2] }
  | _ => none }
def fnExactFindTypeRow : OpenClaim := { program := "ytjoaedbeohgciaagreat", sum := "4cf026ef24ed42875c99ce393f1b5a253bf822d3d45f1cdfbeb091408f896c3a", func := "loop.example/modlink/laws.FnExactFindType", spec := "fnExactFindType", unfollowed := true, recurses := true, loops := true, plainKeys := false, apart := false }
def FnExactFindTypeSaid : Prop := fnExactFindTypeRow.holds Tryz.pinned (OpenSpec.ofChange fnExactFindTypeSpec)

/-- ITS FALSE NEIGHBOUR: 'it returns false'. Refute it at one input. -/
def fnExactFindTypeWrong : ChangeSpec := { name := "fnExactFindType", fn := fun _ => fun
  | [d1, d2] => { results := [.lit (.bool false)], args := [d1, d2] }
  | _ => none }
def FnExactFindTypeWrongFalsely : Prop := fnExactFindTypeRow.holds Tryz.pinned (OpenSpec.ofChange fnExactFindTypeWrong)

/-- 'laws.FnExactFindVal': WHATEVER THE INPUT: true; the input reads as it did. -/
def fnExactFindValSpec : ChangeSpec := { name := "fnExactFindVal", fn := fun _ => fun
  | [d1, d2] => { results := [.lit (.bool true)], args := [d1, d2] }
  | _ => none }
def fnExactFindValRow : OpenClaim := { program := "ytjoaedbeohgciaagreat", sum := "4cf026ef24ed42875c99ce393f1b5a253bf822d3d45f1cdfbeb091408f896c3a", func := "loop.example/modlink/laws.FnExactFindVal", spec := "fnExactFindVal", unfollowed := true, recurses := true, loops := true, plainKeys := false, apart := false }
def FnExactFindValSaid : Prop := fnExactFindValRow.holds Tryz.pinned (OpenSpec.ofChange fnExactFindValSpec)

/-- ITS FALSE NEIGHBOUR: 'it returns false'. Refute it at one input. -/
def fnExactFindValWrong : ChangeSpec := { name := "fnExactFindVal", fn := fun _ => fun
  | [d1, d2] => { results := [.lit (.bool false)], args := [d1, d2] }
  | _ => none }
def FnExactFindValWrongFalsely : Prop := fnExactFindValRow.holds Tryz.pinned (OpenSpec.ofChange fnExactFindValWrong)

/-- 'laws.FnExactStrengthenSig': WHATEVER THE INPUT: true; the input reads as it did. -/
def fnExactStrengthenSigSpec : ChangeSpec := { name := "fnExactStrengthenSig", fn := fun _ => fun
  | [d1, d2] => { results := [.lit (.bool true)], args := [d1, d2] }
  | _ => none }
def fnExactStrengthenSigRow : OpenClaim := { program := "ytjoaedbeohgciaagreat", sum := "4cf026ef24ed42875c99ce393f1b5a253bf822d3d45f1cdfbeb091408f896c3a", func := "loop.example/modlink/laws.FnExactStrengthenSig", spec := "fnExactStrengthenSig", unfollowed := true, recurses := true, loops := true, plainKeys := false, apart := false }
def FnExactStrengthenSigSaid : Prop := fnExactStrengthenSigRow.holds Tryz.pinned (OpenSpec.ofChange fnExactStrengthenSigSpec)

/-- ITS FALSE NEIGHBOUR: 'it returns false'. Refute it at one input. -/
def fnExactStrengthenSigWrong : ChangeSpec := { name := "fnExactStrengthenSig", fn := fun _ => fun
  | [d1, d2] => { results := [.lit (.bool false)], args := [d1, d2] }
  | _ => none }
def FnExactStrengthenSigWrongFalsely : Prop := fnExactStrengthenSigRow.holds Tryz.pinned (OpenSpec.ofChange fnExactStrengthenSigWrong)

/- THE SECOND FORM. 'bulk': how many values and letters a reading holds, each counted each time it is reached (what is shared counts as often as it is met; a slice's spare places count too). A statement '..UptoSaid' is the law's where the arguments, and the package variables that the reading takes, are together of bulk at most 1048576: NARROWER than '..Said'. Prove '..Said' where nothing that the law and all that it calls make is longer than what came in: it says more and counts as full. Else prove '..UptoSaid'. A law counts once. -/
mutual
def uptoBulk {H : Type} : DataW H → Nat
  | .lit (.string bytes) => bytes.length + 1
  | .lit _ => 1
  | .nil => 1
  | .ptr d => uptoBulk d + 1
  | .slice elems spare => uptoBulkAll elems + uptoBulkAll spare + 1
  | .agg parts => uptoBulkAll parts + 1
  | .iface _ d => uptoBulk d + 1
  | .map entries => uptoBulkEntries entries + 1
  | .held _ => 1
def uptoBulkAll {H : Type} : List (DataW H) → Nat
  | [] => 0
  | d :: r => uptoBulk d + uptoBulkAll r
def uptoBulkEntries {H : Type} : List (Lit × DataW H) → Nat
  | [] => 0
  | x :: r => uptoBulkEntry x + uptoBulkEntries r
def uptoBulkEntry {H : Type} : Lit × DataW H → Nat
  | (.string bytes, d) => bytes.length + uptoBulk d + 1
  | (_, d) => uptoBulk d + 1
 end
def uptoSmall : (H : Type) → List (DataW H) → Bool := fun _ ds => decide (uptoBulkAll ds ≤ 1048576)
def OpenSpec.upto (s : _root_.Go.ChangeSpec) : _root_.Go.OpenSpec := { _root_.Go.OpenSpec.ofChange s with cond := some uptoSmall }

/-- 'laws.FnExactNormalSig', WHERE WHAT IT READS IS OF BULK AT MOST 1048576: true; the input reads as it did. -/
def fnExactNormalSigUptoRow : OpenClaim := { program := "ytjoaedbeohgciaagreat", sum := "4cf026ef24ed42875c99ce393f1b5a253bf822d3d45f1cdfbeb091408f896c3a", func := "loop.example/modlink/laws.FnExactNormalSig", spec := "fnExactNormalSig", unfollowed := true, recurses := true, loops := true, plainKeys := false, apart := false, narrowed := true }
def FnExactNormalSigUptoSaid : Prop := fnExactNormalSigUptoRow.holds Tryz.pinned (OpenSpec.upto fnExactNormalSigSpec)

/-- 'laws.FnExactFindType', WHERE WHAT IT READS IS OF BULK AT MOST 1048576: true; the input reads as it did. -/
def fnExactFindTypeUptoRow : OpenClaim := { program := "ytjoaedbeohgciaagreat", sum := "4cf026ef24ed42875c99ce393f1b5a253bf822d3d45f1cdfbeb091408f896c3a", func := "loop.example/modlink/laws.FnExactFindType", spec := "fnExactFindType", unfollowed := true, recurses := true, loops := true, plainKeys := false, apart := false, narrowed := true }
def FnExactFindTypeUptoSaid : Prop := fnExactFindTypeUptoRow.holds Tryz.pinned (OpenSpec.upto fnExactFindTypeSpec)

/-- 'laws.FnExactFindVal', WHERE WHAT IT READS IS OF BULK AT MOST 1048576: true; the input reads as it did. -/
def fnExactFindValUptoRow : OpenClaim := { program := "ytjoaedbeohgciaagreat", sum := "4cf026ef24ed42875c99ce393f1b5a253bf822d3d45f1cdfbeb091408f896c3a", func := "loop.example/modlink/laws.FnExactFindVal", spec := "fnExactFindVal", unfollowed := true, recurses := true, loops := true, plainKeys := false, apart := false, narrowed := true }
def FnExactFindValUptoSaid : Prop := fnExactFindValUptoRow.holds Tryz.pinned (OpenSpec.upto fnExactFindValSpec)

/-- 'laws.FnExactStrengthenSig', WHERE WHAT IT READS IS OF BULK AT MOST 1048576: true; the input reads as it did. -/
def fnExactStrengthenSigUptoRow : OpenClaim := { program := "ytjoaedbeohgciaagreat", sum := "4cf026ef24ed42875c99ce393f1b5a253bf822d3d45f1cdfbeb091408f896c3a", func := "loop.example/modlink/laws.FnExactStrengthenSig", spec := "fnExactStrengthenSig", unfollowed := true, recurses := true, loops := true, plainKeys := false, apart := false, narrowed := true }
def FnExactStrengthenSigUptoSaid : Prop := fnExactStrengthenSigUptoRow.holds Tryz.pinned (OpenSpec.upto fnExactStrengthenSigSpec)

end Rows
end Go.Proofs.YtjoaedbeohgciaaGreat
