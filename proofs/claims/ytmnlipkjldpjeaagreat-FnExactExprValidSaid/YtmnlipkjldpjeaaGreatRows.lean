/-
  NARROWER THAN 'FOR EVERY INPUT', by the rows' own cells (each row's printed sentence says how): FnExactExprValid: loops · FnExactMaxFree: loops.
  DERIVED. THE GIVEN ROWS OF THIS SEAT. 2 by the template 'for every input the law returns true; each argument reads behind the call as it read before'; 0 by the template 'total and deterministic' (their statements: YtmnlipkjldpjeaaGreatTotals.lean).
  GIVEN WITH THE SEED: the statements are not yours to turn. If you find one false, say at which input.
  Laid BY PROGRAM, IN A SANDBOX (cutbox-rows.mjs): the forced cells as the released guide's own fill.sh prints them over the translation a7fa1ad699b393a5… (all of the seat's roots in one cut). By AI agents, Wed Nov 11 2026. No macro, syntax, notation, axiom, sorry.
-/
import Derived.Test.YtmnlipkjldpjeaaGreatChecked
import GoSem.Claim
import GoSem.ClaimJoined
import GoSem.ClaimMapViews
import Derived.JoinedTies
import Derived.KernelRfl
namespace Go.Proofs.YtmnlipkjldpjeaaGreat
/- THE CELL 'sum', in the pinned program and in every row, IS THE sha256 OF THE DUMP (.gsa) THAT YtmnlipkjldpjeaaGreatProg.lean LOADS. Nothing in Lean hashes anything: it is a label: what it is worth is what the hold of that sum in a sandbox is worth. -/
noncomputable def Tryz.pinned : Pinned := { name := "ytmnlipkjldpjeaagreat", sum := "a7fa1ad699b393a5bb05365fa2e48abed2493ca013c7cce34c841e8bc7988a55", checked := Tryz.checked }
namespace Rows
def none {H : Type} : Left H := { results := [], args := [] }

/-- 'laws.FnExactExprValid': WHATEVER THE INPUT: true; the input reads as it did. -/
def fnExactExprValidSpec : ChangeSpec := { name := "fnExactExprValid", fn := fun _ => fun
  | [d] => { results := [.lit (.bool true)], args := [d] }
  | _ => none }
def fnExactExprValidRow : OpenClaim := { program := "ytmnlipkjldpjeaagreat", sum := "a7fa1ad699b393a5bb05365fa2e48abed2493ca013c7cce34c841e8bc7988a55", func := "loop.example/modlink/laws.FnExactExprValid", spec := "fnExactExprValid", unfollowed := true, recurses := true, loops := true, plainKeys := false, apart := false }
def FnExactExprValidSaid : Prop := fnExactExprValidRow.holds Tryz.pinned (OpenSpec.ofChange fnExactExprValidSpec)

/-- ITS FALSE NEIGHBOUR: 'it returns false'. Refute it at one input. -/
def fnExactExprValidWrong : ChangeSpec := { name := "fnExactExprValid", fn := fun _ => fun
  | [d] => { results := [.lit (.bool false)], args := [d] }
  | _ => none }
def FnExactExprValidWrongFalsely : Prop := fnExactExprValidRow.holds Tryz.pinned (OpenSpec.ofChange fnExactExprValidWrong)

/-- 'laws.FnExactMaxFree': WHATEVER THE INPUT: true; the input reads as it did. -/
def fnExactMaxFreeSpec : ChangeSpec := { name := "fnExactMaxFree", fn := fun _ => fun
  | [d] => { results := [.lit (.bool true)], args := [d] }
  | _ => none }
def fnExactMaxFreeRow : OpenClaim := { program := "ytmnlipkjldpjeaagreat", sum := "a7fa1ad699b393a5bb05365fa2e48abed2493ca013c7cce34c841e8bc7988a55", func := "loop.example/modlink/laws.FnExactMaxFree", spec := "fnExactMaxFree", unfollowed := true, recurses := true, loops := true, plainKeys := false, apart := false }
def FnExactMaxFreeSaid : Prop := fnExactMaxFreeRow.holds Tryz.pinned (OpenSpec.ofChange fnExactMaxFreeSpec)

/-- ITS FALSE NEIGHBOUR: 'it returns false'. Refute it at one input. -/
def fnExactMaxFreeWrong : ChangeSpec := { name := "fnExactMaxFree", fn := fun _ => fun
  | [d] => { results := [.lit (.bool false)], args := [d] }
  | _ => none }
def FnExactMaxFreeWrongFalsely : Prop := fnExactMaxFreeRow.holds Tryz.pinned (OpenSpec.ofChange fnExactMaxFreeWrong)

/- THE SECOND FORM. 'bulk': how many values and letters a reading holds, each counted each time it is reached (what is shared counts as often as it is met; a slice's spare places count too). A statement '..UptoSaid' is the law's where the arguments, and the package variables that the reading takes, are together of bulk at most 1048576: NARROWER than '..Said'. Prove '..Said' where nothing that the law and all that it calls make is longer than what came in: it says more and counts as full. Else prove '..UptoSaid'. A law counts once. -/
mutual
def uptoBulk {H : Type} : DataW H → Nat
  | .lit (.string bytes) => bytes.length + 1
  | .lit _ => 1
  | .nil => 1
  | .ptr d => uptoBulk d + 1
  | .slice elems spare => uptoBulkAll elems + uptoBulkAll spare + 1
  | .agg parts => uptoBulkAll parts + 1
  | .iface _ d => uptoBulk d + 1
  | .map entries => uptoBulkEntries entries + 1
  | .held _ => 1
def uptoBulkAll {H : Type} : List (DataW H) → Nat
  | [] => 0
  | d :: r => uptoBulk d + uptoBulkAll r
def uptoBulkEntries {H : Type} : List (Lit × DataW H) → Nat
  | [] => 0
  | x :: r => uptoBulkEntry x + uptoBulkEntries r
def uptoBulkEntry {H : Type} : Lit × DataW H → Nat
  | (.string bytes, d) => bytes.length + uptoBulk d + 1
  | (_, d) => uptoBulk d + 1
 end
def uptoSmall : (H : Type) → List (DataW H) → Bool := fun _ ds => decide (uptoBulkAll ds ≤ 1048576)
def OpenSpec.upto (s : _root_.Go.ChangeSpec) : _root_.Go.OpenSpec := { _root_.Go.OpenSpec.ofChange s with cond := some uptoSmall }

/-- 'laws.FnExactExprValid', WHERE WHAT IT READS IS OF BULK AT MOST 1048576: true; the input reads as it did. -/
def fnExactExprValidUptoRow : OpenClaim := { program := "ytmnlipkjldpjeaagreat", sum := "a7fa1ad699b393a5bb05365fa2e48abed2493ca013c7cce34c841e8bc7988a55", func := "loop.example/modlink/laws.FnExactExprValid", spec := "fnExactExprValid", unfollowed := true, recurses := true, loops := true, plainKeys := false, apart := false, narrowed := true }
def FnExactExprValidUptoSaid : Prop := fnExactExprValidUptoRow.holds Tryz.pinned (OpenSpec.upto fnExactExprValidSpec)

/-- 'laws.FnExactMaxFree', WHERE WHAT IT READS IS OF BULK AT MOST 1048576: true; the input reads as it did. -/
def fnExactMaxFreeUptoRow : OpenClaim := { program := "ytmnlipkjldpjeaagreat", sum := "a7fa1ad699b393a5bb05365fa2e48abed2493ca013c7cce34c841e8bc7988a55", func := "loop.example/modlink/laws.FnExactMaxFree", spec := "fnExactMaxFree", unfollowed := true, recurses := true, loops := true, plainKeys := false, apart := false, narrowed := true }
def FnExactMaxFreeUptoSaid : Prop := fnExactMaxFreeUptoRow.holds Tryz.pinned (OpenSpec.upto fnExactMaxFreeSpec)

end Rows
end Go.Proofs.YtmnlipkjldpjeaaGreat
