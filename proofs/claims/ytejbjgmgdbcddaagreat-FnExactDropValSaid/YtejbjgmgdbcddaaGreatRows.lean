/-
  NARROWER THAN 'FOR EVERY INPUT', by the rows' own cells (each row's printed sentence says how): FnExactAbstractType: loops · FnExactDropVal: loops.
  DERIVED. THE GIVEN ROWS OF THIS SEAT. 2 by the template 'for every input the law returns true; each argument reads behind the call as it read before'; 0 by the template 'total and deterministic' (their statements: YtejbjgmgdbcddaaGreatTotals.lean).
  GIVEN WITH THE SEED: the statements are not yours to turn. If you find one false, say at which input.
  Laid BY PROGRAM, IN A SANDBOX (cutbox-rows.mjs): the forced cells as the released guide's own fill.sh prints them over the translation dadc3fcace4164f9… (all of the seat's roots in one cut). By AI agents, Wed Nov 11 2026. No macro, syntax, notation, axiom, sorry.
-/
import Derived.Test.YtejbjgmgdbcddaaGreatChecked
import GoSem.Claim
import GoSem.ClaimJoined
import GoSem.ClaimMapViews
import Derived.JoinedTies
import Derived.KernelRfl
namespace Go.Proofs.YtejbjgmgdbcddaaGreat
/- THE CELL 'sum', in the pinned program and in every row, IS THE sha256 OF THE DUMP (.gsa) THAT YtejbjgmgdbcddaaGreatProg.lean LOADS. Nothing in Lean hashes anything: it is a label: what it is worth is what the hold of that sum in a sandbox is worth. -/
noncomputable def Tryz.pinned : Pinned := { name := "ytejbjgmgdbcddaagreat", sum := "dadc3fcace4164f9c07e4171e6a8d786f580418b120cdf95d3c505dcdcb90eff", checked := Tryz.checked }
namespace Rows
def none {H : Type} : Left H := { results := [], args := [] }

/-- 'laws.FnExactAbstractType': WHATEVER THE INPUT: true; the input reads as it did. -/
def fnExactAbstractTypeSpec : ChangeSpec := { name := "fnExactAbstractType", fn := fun _ => fun
  | [d1, d2] => { results := [.lit (.bool true)], args := [d1, d2] }
  | _ => none }
def fnExactAbstractTypeRow : OpenClaim := { program := "ytejbjgmgdbcddaagreat", sum := "dadc3fcace4164f9c07e4171e6a8d786f580418b120cdf95d3c505dcdcb90eff", func := "loop.example/modlink/laws.FnExactAbstractType", spec := "fnExactAbstractType", unfollowed := true, recurses := true, loops := true, plainKeys := false, apart := false }
def FnExactAbstractTypeSaid : Prop := fnExactAbstractTypeRow.holds Tryz.pinned (OpenSpec.ofChange fnExactAbstractTypeSpec)

/-- ITS FALSE NEIGHBOUR: 'it returns false'. Refute it at one input. -/
def fnExactAbstractTypeWrong : ChangeSpec := { name := "fnExactAbstractType", fn := fun _ => fun
  | [d1, d2] => { results := [.lit (.bool false)], args := [d1, d2] }
  | _ => none }
def FnExactAbstractTypeWrongFalsely : Prop := fnExactAbstractTypeRow.holds Tryz.pinned (OpenSpec.ofChange fnExactAbstractTypeWrong)

/-- 'laws.FnExactDropVal': WHATEVER THE INPUT: true; the input reads as it did. -/
def fnExactDropValSpec : ChangeSpec := { name := "fnExactDropVal", fn := fun _ => fun
  | [d1, d2] => { results := [.lit (.bool true)], args := [d1, d2] }
  | _ => none }
def fnExactDropValRow : OpenClaim := { program := "ytejbjgmgdbcddaagreat", sum := "dadc3fcace4164f9c07e4171e6a8d786f580418b120cdf95d3c505dcdcb90eff", func := "loop.example/modlink/laws.FnExactDropVal", spec := "fnExactDropVal", unfollowed := true, recurses := true, loops := true, plainKeys := false, apart := false }
def FnExactDropValSaid : Prop := fnExactDropValRow.holds Tryz.pinned (OpenSpec.ofChange fnExactDropValSpec)

/-- ITS FALSE NEIGHBOUR: 'it returns false'. Refute it at one input. -/
def fnExactDropValWrong : ChangeSpec := { name := "fnExactDropVal", fn := fun _ => fun
  | [d1, d2] => { results := [.lit (.bool false)], args := [d1, d2] }
  | _ => none }
def FnExactDropValWrongFalsely : Prop := fnExactDropValRow.holds Tryz.pinned (OpenSpec.ofChange fnExactDropValWrong)

/- THE SECOND FORM. 'bulk': how many values and letters a reading holds, each counted each time it is reached (what is shared counts as often as it is met; a slice's spare places count too). A statement '..UptoSaid' is the law's where the arguments, and the package variables that the reading takes, are together of bulk at most 1048576: NARROWER than '..Said'. Prove '..Said' where nothing that the law and all that it calls make is longer than what came in: it says more and counts as full. Else prove '..UptoSaid'. A law counts once. -/
mutual
def uptoBulk {H : Type} : DataW H → Nat
  | .lit (.string bytes) => bytes.length + 1
  | .lit _ => 1
  | .nil => 1
  | .ptr d => uptoBulk d + 1
  | .slice elems spare => uptoBulkAll elems + uptoBulkAll spare + 1
  | .agg parts => uptoBulkAll parts + 1
  | .iface _ d => uptoBulk d + 1
  | .map entries => uptoBulkEntries entries + 1
  | .held _ => 1
def uptoBulkAll {H : Type} : List (DataW H) → Nat
  | [] => 0
  | d :: r => uptoBulk d + uptoBulkAll r
def uptoBulkEntries {H : Type} : List (Lit × DataW H) → Nat
  | [] => 0
  | x :: r => uptoBulkEntry x + uptoBulkEntries r
def uptoBulkEntry {H : Type} : Lit × DataW H → Nat
  | (.string bytes, d) => bytes.length + uptoBulk d + 1
  | (_, d) => uptoBulk d + 1
 end
def uptoSmall : (H : Type) → List (DataW H) → Bool := fun _ ds => decide (uptoBulkAll ds ≤ 1048576)
def OpenSpec.upto (s : _root_.Go.ChangeSpec) : _root_.Go.OpenSpec := { _root_.Go.OpenSpec.ofChange s with cond := some uptoSmall }

/-- 'laws.FnExactAbstractType', WHERE WHAT IT READS IS OF BULK AT MOST 1048576: true; the input reads as it did. -/
def fnExactAbstractTypeUptoRow : OpenClaim := { program := "ytejbjgmgdbcddaagreat", sum := "dadc3fcace4164f9c07e4171e6a8d786f580418b120cdf95d3c505dcdcb90eff", func := "loop.example/modlink/laws.FnExactAbstractType", spec := "fnExactAbstractType", unfollowed := true, recurses := true, loops := true, plainKeys := false, apart := false, narrowed := true }
def FnExactAbstractTypeUptoSaid : Prop := fnExactAbstractTypeUptoRow.holds Tryz.pinned (OpenSpec.upto fnExactAbstractTypeSpec)

/-- 'laws.FnExactDropVal', WHERE WHAT IT READS IS OF BULK AT MOST 1048576: true; the input reads as it did. -/
def fnExactDropValUptoRow : OpenClaim := { program := "ytejbjgmgdbcddaagreat", sum := "dadc3fcace4164f9c07e4171e6a8d786f580418b120cdf95d3c505dcdcb90eff", func := "loop.example/modlink/laws.FnExactDropVal", spec := "fnExactDropVal", unfollowed := true, recurses := true, loops := true, plainKeys := false, apart := false, narrowed := true }
def FnExactDropValUptoSaid : Prop := fnExactDropValUptoRow.holds Tryz.pinned (OpenSpec.upto fnExactDropValSpec)

end Rows
end Go.Proofs.YtejbjgmgdbcddaaGreat
