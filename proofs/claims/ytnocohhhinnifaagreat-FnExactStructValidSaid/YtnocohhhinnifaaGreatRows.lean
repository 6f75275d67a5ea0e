/-
  NARROWER THAN 'FOR EVERY INPUT', by the rows' own cells (each row's printed sentence says how): FnExactStructValid: loops · FnExactExprNames: loops.
  DERIVED. THE GIVEN ROWS OF THIS SEAT. 5 by the template 'for every input the law returns true; each argument reads behind the call as it read before'; 0 by the template 'total and deterministic' (their statements: YtnocohhhinnifaaGreatTotals.lean).
  GIVEN WITH THE SEED: the statements are not yours to turn. If you find one false, say at which input.
  Laid BY PROGRAM, IN A SANDBOX (cutbox-rows.mjs): the forced cells as the released guide's own fill.sh prints them over the translation 2668f52df52a4b2e… (all of the seat's roots in one cut). By AI agents, Wed Nov 11 2026. No macro, syntax, notation, axiom, sorry.
-/
import Derived.Test.YtnocohhhinnifaaGreatChecked
import GoSem.Claim
import GoSem.ClaimJoined
import GoSem.ClaimMapViews
import Derived.JoinedTies
import Derived.KernelRfl
namespace Go.Proofs.YtnocohhhinnifaaGreat
/- THE CELL 'sum', in the pinned program and in every row, IS THE sha256 OF THE DUMP (.gsa) THAT YtnocohhhinnifaaGreatProg.lean LOADS. Nothing in Lean hashes anything: it is a label: what it is worth is what the hold of that sum in a sandbox is worth. -/
noncomputable def Tryz.pinned : Pinned := { name := "ytnocohhhinnifaagreat", sum := "2668f52df52a4b2eae04068c0aed6c29417b825b66df5d93d3a482cdb865e524", checked := Tryz.checked }
namespace Rows
def none {H : Type} : Left H := { results := [], args := [] }

/-- 'laws.FnExactStructValid': WHATEVER THE INPUT: true; the input reads as it did. -/
def fnExactStructValidSpec : ChangeSpec := { name := "fnExactStructValid", fn := fun _ => fun
  | [d] => { results := [.lit (.bool true)], args := [d] }
  | _ => none }
def fnExactStructValidRow : OpenClaim := { program := "ytnocohhhinnifaagreat", sum := "2668f52df52a4b2eae04068c0aed6c29417b825b66df5d93d3a482cdb865e524", func := "loop.example/modlink/laws.FnExactStructValid", spec := "fnExactStructValid", unfollowed := true, recurses := true, loops := true, plainKeys := false, apart := false }
def FnExactStructValidSaid : Prop := fnExactStructValidRow.holds Tryz.pinned (OpenSpec.ofChange fnExactStructValidSpec)

/-- ITS FALSE NEIGHBOUR: 'it returns false'. Refute it at one input. -/
def fnExactStructValidWrong : ChangeSpec := { name := "fnExactStructValid", fn := fun _ => fun
  | [d] => { results := [.lit (.bool false)], args := [d] }
  | _ => none }
def FnExactStructValidWrongFalsely : Prop := fnExactStructValidRow.holds Tryz.pinned (OpenSpec.ofChange fnExactStructValidWrong)

/-- 'laws.FnExactExprNames': WHATEVER THE INPUT: true; the input reads as it did. -/
def fnExactExprNamesSpec : ChangeSpec := { name := "fnExactExprNames", fn := fun _ => fun
  | [d] => { results := [.lit (.bool true)], args := [d] }
  | _ => none }
def fnExactExprNamesRow : OpenClaim := { program := "ytnocohhhinnifaagreat", sum := "2668f52df52a4b2eae04068c0aed6c29417b825b66df5d93d3a482cdb865e524", func := "loop.example/modlink/laws.FnExactExprNames", spec := "fnExactExprNames", unfollowed := true, recurses := true, loops := true, plainKeys := false, apart := false }
def FnExactExprNamesSaid : Prop := fnExactExprNamesRow.holds Tryz.pinned (OpenSpec.ofChange fnExactExprNamesSpec)

/-- ITS FALSE NEIGHBOUR: 'it returns false'. Refute it at one input. -/
def fnExactExprNamesWrong : ChangeSpec := { name := "fnExactExprNames", fn := fun _ => fun
  | [d] => { results := [.lit (.bool false)], args := [d] }
  | _ => none }
def FnExactExprNamesWrongFalsely : Prop := fnExactExprNamesRow.holds Tryz.pinned (OpenSpec.ofChange fnExactExprNamesWrong)

/-- 'laws.FnMaxFree': WHATEVER THE INPUT: true; the input reads as it did. -/
def fnMaxFreeSpec : ChangeSpec := { name := "fnMaxFree", fn := fun _ => fun
  | [d] => { results := [.lit (.bool true)], args := [d] }
  | _ => none }
def fnMaxFreeRow : OpenClaim := { program := "ytnocohhhinnifaagreat", sum := "2668f52df52a4b2eae04068c0aed6c29417b825b66df5d93d3a482cdb865e524", func := "loop.example/modlink/laws.FnMaxFree", spec := "fnMaxFree", unfollowed := true, recurses := true, plainKeys := false, apart := false }
def FnMaxFreeSaid : Prop := fnMaxFreeRow.holds Tryz.pinned (OpenSpec.ofChange fnMaxFreeSpec)

/-- ITS FALSE NEIGHBOUR: 'it returns false'. Refute it at one input. -/
def fnMaxFreeWrong : ChangeSpec := { name := "fnMaxFree", fn := fun _ => fun
  | [d] => { results := [.lit (.bool false)], args := [d] }
  | _ => none }
def FnMaxFreeWrongFalsely : Prop := fnMaxFreeRow.holds Tryz.pinned (OpenSpec.ofChange fnMaxFreeWrong)

/-- 'laws.FnExprSame': WHATEVER THE INPUT: true; the input reads as it did. -/
def fnExprSameSpec : ChangeSpec := { name := "fnExprSame", fn := fun _ => fun
  | [d] => { results := [.lit (.bool true)], args := [d] }
  | _ => none }
def fnExprSameRow : OpenClaim := { program := "ytnocohhhinnifaagreat", sum := "2668f52df52a4b2eae04068c0aed6c29417b825b66df5d93d3a482cdb865e524", func := "loop.example/modlink/laws.FnExprSame", spec := "fnExprSame", unfollowed := true, recurses := true, plainKeys := false, apart := false }
def FnExprSameSaid : Prop := fnExprSameRow.holds Tryz.pinned (OpenSpec.ofChange fnExprSameSpec)

/-- ITS FALSE NEIGHBOUR: 'it returns false'. Refute it at one input. -/
def fnExprSameWrong : ChangeSpec := { name := "fnExprSame", fn := fun _ => fun
  | [d] => { results := [.lit (.bool false)], args := [d] }
  | _ => none }
def FnExprSameWrongFalsely : Prop := fnExprSameRow.holds Tryz.pinned (OpenSpec.ofChange fnExprSameWrong)

/-- 'laws.FnExprNames': WHATEVER THE INPUT: true; the input reads as it did. -/
def fnExprNamesSpec : ChangeSpec := { name := "fnExprNames", fn := fun _ => fun
  | [d] => { results := [.lit (.bool true)], args := [d] }
  | _ => none }
def fnExprNamesRow : OpenClaim := { program := "ytnocohhhinnifaagreat", sum := "2668f52df52a4b2eae04068c0aed6c29417b825b66df5d93d3a482cdb865e524", func := "loop.example/modlink/laws.FnExprNames", spec := "fnExprNames", unfollowed := true, recurses := true, plainKeys := false, apart := false }
def FnExprNamesSaid : Prop := fnExprNamesRow.holds Tryz.pinned (OpenSpec.ofChange fnExprNamesSpec)

/-- ITS FALSE NEIGHBOUR: 'it returns false'. Refute it at one input. -/
def fnExprNamesWrong : ChangeSpec := { name := "fnExprNames", fn := fun _ => fun
  | [d] => { results := [.lit (.bool false)], args := [d] }
  | _ => none }
def FnExprNamesWrongFalsely : Prop := fnExprNamesRow.holds Tryz.pinned (OpenSpec.ofChange fnExprNamesWrong)

/- THE SECOND FORM. 'bulk': how many values and letters a reading holds, each counted each time it is reached (what is shared counts as often as it is met; a slice's spare places count too). A statement '..UptoSaid' is the law's where the arguments, and the package variables that the reading takes, are together of bulk at most 1048576: NARROWER than '..Said'. Prove '..Said' where nothing that the law and all that it calls make is longer than what came in: it says more and counts as full. Else prove '..UptoSaid'. A law counts once. -/
mutual
def uptoBulk {H : Type} : DataW H → Nat
  | .lit (.string bytes) => bytes.length + 1
  | .lit _ => 1
  | .nil => 1
  | .ptr d => uptoBulk d + 1
  | .slice elems spare => uptoBulkAll elems + uptoBulkAll spare + 1
  | .agg parts => uptoBulkAll parts + 1
  | .iface _ d => uptoBulk d + 1
  | .map entries => uptoBulkEntries entries + 1
  | .held _ => 1
def uptoBulkAll {H : Type} : List (DataW H) → Nat
  | [] => 0
  | d :: r => uptoBulk d + uptoBulkAll r
def uptoBulkEntries {H : Type} : List (Lit × DataW H) → Nat
  | [] => 0
  | x :: r => uptoBulkEntry x + uptoBulkEntries r
def uptoBulkEntry {H : Type} : Lit × DataW H → Nat
  | (.string bytes, d) => bytes.length + uptoBulk d + 1
  | (_, d) => uptoBulk d + 1
 end
def uptoSmall : (H : Type) → List (DataW H) → Bool := fun _ ds => decide (uptoBulkAll ds ≤ 1048576)
def OpenSpec.upto (s : _root_.Go.ChangeSpec) : _root_.Go.OpenSpec := { _root_.Go.OpenSpec.ofChange s with cond := some uptoSmall }

/-- 'laws.FnExactStructValid', WHERE WHAT IT READS IS OF BULK AT MOST 1048576: true; the input reads as it did. -/
def fnExactStructValidUptoRow : OpenClaim := { program := "ytnocohhhinnifaagreat", sum := "2668f52df52a4b2eae04068c0aed6c29417b825b66df5d93d3a482cdb865e524", func := "loop.example/modlink/laws.FnExactStructValid", spec := "fnExactStructValid", unfollowed := true, recurses := true, loops := true, plainKeys := false, apart := false, narrowed := true }
def FnExactStructValidUptoSaid : Prop := fnExactStructValidUptoRow.holds Tryz.pinned (OpenSpec.upto fnExactStructValidSpec)

/-- 'laws.FnExactExprNames', WHERE WHAT IT READS IS OF BULK AT MOST 1048576: true; the input reads as it did. -/
def fnExactExprNamesUptoRow : OpenClaim := { program := "ytnocohhhinnifaagreat", sum := "2668f52df52a4b2eae04068c0aed6c29417b825b66df5d93d3a482cdb865e524", func := "loop.example/modlink/laws.FnExactExprNames", spec := "fnExactExprNames", unfollowed := true, recurses := true, loops := true, plainKeys := false, apart := false, narrowed := true }
def FnExactExprNamesUptoSaid : Prop := fnExactExprNamesUptoRow.holds Tryz.pinned (OpenSpec.upto fnExactExprNamesSpec)

/-- 'laws.FnMaxFree', WHERE WHAT IT READS IS OF BULK AT MOST 1048576: true; the input reads as it did. -/
def fnMaxFreeUptoRow : OpenClaim := { program := "ytnocohhhinnifaagreat", sum := "2668f52df52a4b2eae04068c0aed6c29417b825b66df5d93d3a482cdb865e524", func := "loop.example/modlink/laws.FnMaxFree", spec := "fnMaxFree", unfollowed := true, recurses := true, plainKeys := false, apart := false, narrowed := true }
def FnMaxFreeUptoSaid : Prop := fnMaxFreeUptoRow.holds Tryz.pinned (OpenSpec.upto fnMaxFreeSpec)

/-- 'laws.FnExprSame', WHERE WHAT IT READS IS OF BULK AT MOST 1048576: true; the input reads as it did. -/
def fnExprSameUptoRow : OpenClaim := { program := "ytnocohhhinnifaagreat", sum := "2668f52df52a4b2eae04068c0aed6c29417b825b66df5d93d3a482cdb865e524", func := "loop.example/modlink/laws.FnExprSame", spec := "fnExprSame", unfollowed := true, recurses := true, plainKeys := false, apart := false, narrowed := true }
def FnExprSameUptoSaid : Prop := fnExprSameUptoRow.holds Tryz.pinned (OpenSpec.upto fnExprSameSpec)

/-- 'laws.FnExprNames', WHERE WHAT IT READS IS OF BULK AT MOST 1048576: true; the input reads as it did. -/
def fnExprNamesUptoRow : OpenClaim := { program := "ytnocohhhinnifaagreat", sum := "2668f52df52a4b2eae04068c0aed6c29417b825b66df5d93d3a482cdb865e524", func := "loop.example/modlink/laws.FnExprNames", spec := "fnExprNames", unfollowed := true, recurses := true, plainKeys := false, apart := false, narrowed := true }
def FnExprNamesUptoSaid : Prop := fnExprNamesUptoRow.holds Tryz.pinned (OpenSpec.upto fnExprNamesSpec)

end Rows
end Go.Proofs.YtnocohhhinnifaaGreat
