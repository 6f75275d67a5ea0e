/-
  No cell of these rows narrows 'for every input' (looked for: loops, veiled, ifaces, maps, wideKeys, modest, calm, conditions, laid).
  DERIVED. THE GIVEN ROWS OF THIS SEAT. 3 by the template 'for every input the law returns true; each argument reads behind the call as it read before'; 0 by the template 'total and deterministic' (their statements: YtlffbkmjigiplaaTotals.lean).
  GIVEN WITH THE SEED: the statements are not yours to turn. If you find one false, say at which input.
  Laid BY PROGRAM, IN A SANDBOX (cutbox-rows.mjs): the forced cells as the released guide's own fill.sh prints them over the translation 7d9580f678758591… (all of the seat's roots in one cut). By AI agents, Wed Nov 11 2026. No macro, syntax, notation, axiom, sorry.
-/
import Derived.Test.YtlffbkmjigiplaaChecked
import GoSem.Claim
import GoSem.ClaimJoined
import GoSem.ClaimMapViews
import Derived.JoinedTies
import Derived.KernelRfl
namespace Go.Proofs.Ytlffbkmjigiplaa
/- THE CELL 'sum', in the pinned program and in every row, IS THE sha256 OF THE DUMP (.gsa) THAT YtlffbkmjigiplaaProg.lean LOADS. Nothing in Lean hashes anything: it is a label: what it is worth is what the hold of that sum in a sandbox is worth. -/
noncomputable def Try.pinned : Pinned := { name := "ytlffbkmjigiplaa", sum := "7d9580f678758591be967d8c7d1e1d9bab06178050d238cd7870252d8dabfb72", checked := Try.checked }
namespace Rows
def none {H : Type} : Left H := { results := [], args := [] }

/-- 'laws.FnSubstType': WHATEVER THE INPUT: true; the input reads as it did. -/
def fnSubstTypeSpec : ChangeSpec := { name := "fnSubstType", fn := fun _ => fun
  | [d] => { results := [.lit (.bool true)], args := [d] }
  | _ => none }
def fnSubstTypeRow : OpenClaim := { program := "ytlffbkmjigiplaa", sum := "7d9580f678758591be967d8c7d1e1d9bab06178050d238cd7870252d8dabfb72", func := "loop.example/modlink/laws.FnSubstType", spec := "fnSubstType", unfollowed := true, recurses := true, plainKeys := false, apart := false }
def FnSubstTypeSaid : Prop := fnSubstTypeRow.holds Try.pinned (OpenSpec.ofChange fnSubstTypeSpec)

/-- ITS FALSE NEIGHBOUR: 'it returns false'. Refute it at one input. -/
def fnSubstTypeWrong : ChangeSpec := { name := "fnSubstType", fn := fun _ => fun
  | [d] => { results := [.lit (.bool false)], args := [d] }
  | _ => none }
def FnSubstTypeWrongFalsely : Prop := fnSubstTypeRow.holds Try.pinned (OpenSpec.ofChange fnSubstTypeWrong)

/-- 'laws.FnSubstPlain': WHATEVER THE INPUT: true; the input reads as it did. -/
def fnSubstPlainSpec : ChangeSpec := { name := "fnSubstPlain", fn := fun _ => fun
  | [d] => { results := [.lit (.bool true)], args := [d] }
  | _ => none }
def fnSubstPlainRow : OpenClaim := { program := "ytlffbkmjigiplaa", sum := "7d9580f678758591be967d8c7d1e1d9bab06178050d238cd7870252d8dabfb72", func := "loop.example/modlink/laws.FnSubstPlain", spec := "fnSubstPlain", unfollowed := true, recurses := true, plainKeys := false, apart := false }
def FnSubstPlainSaid : Prop := fnSubstPlainRow.holds Try.pinned (OpenSpec.ofChange fnSubstPlainSpec)

/-- ITS FALSE NEIGHBOUR: 'it returns false'. Refute it at one input. -/
def fnSubstPlainWrong : ChangeSpec := { name := "fnSubstPlain", fn := fun _ => fun
  | [d] => { results := [.lit (.bool false)], args := [d] }
  | _ => none }
def FnSubstPlainWrongFalsely : Prop := fnSubstPlainRow.holds Try.pinned (OpenSpec.ofChange fnSubstPlainWrong)

/-- 'laws.FnSubstTwice': WHATEVER THE INPUT: true; the input reads as it did. -/
def fnSubstTwiceSpec : ChangeSpec := { name := "fnSubstTwice", fn := fun _ => fun
  | [d1, d2] => { results := [.lit (.bool true)], args := [d1, d2] }
  | _ => none }
def fnSubstTwiceRow : OpenClaim := { program := "ytlffbkmjigiplaa", sum := "7d9580f678758591be967d8c7d1e1d9bab06178050d238cd7870252d8dabfb72", func := "loop.example/modlink/laws.FnSubstTwice", spec := "fnSubstTwice", unfollowed := true, recurses := true, plainKeys := false, apart := false }
def FnSubstTwiceSaid : Prop := fnSubstTwiceRow.holds Try.pinned (OpenSpec.ofChange fnSubstTwiceSpec)

/-- ITS FALSE NEIGHBOUR: 'it returns false'. Refute it at one input. -/
def fnSubstTwiceWrong : ChangeSpec := { name := "fnSubstTwice", fn := fun _ => fun
  | [d1, d2] => { results := [.lit (.bool false)], args := [d1, d2] }
  | _ => none }
def FnSubstTwiceWrongFalsely : Prop := fnSubstTwiceRow.holds Try.pinned (OpenSpec.ofChange fnSubstTwiceWrong)

/- THE SECOND FORM. 'bulk': how many values and letters a reading holds, each counted each time it is reached (what is shared counts as often as it is met; a slice's spare places count too). A statement '..UptoSaid' is the law's where the arguments, and the package variables that the reading takes, are together of bulk at most 1048576: NARROWER than '..Said'. Prove '..Said' where nothing that the law and all that it calls make is longer than what came in: it says more and counts as full. Else prove '..UptoSaid'. A law counts once. -/
mutual
def uptoBulk {H : Type} : DataW H → Nat
  | .lit (.string bytes) => bytes.length + 1
  | .lit _ => 1
  | .nil => 1
  | .ptr d => uptoBulk d + 1
  | .slice elems spare => uptoBulkAll elems + uptoBulkAll spare + 1
  | .agg parts => uptoBulkAll parts + 1
  | .iface _ d => uptoBulk d + 1
  | .map entries => uptoBulkEntries entries + 1
  | .held _ => 1
def uptoBulkAll {H : Type} : List (DataW H) → Nat
  | [] => 0
  | d :: r => uptoBulk d + uptoBulkAll r
def uptoBulkEntries {H : Type} : List (Lit × DataW H) → Nat
  | [] => 0
  | x :: r => uptoBulkEntry x + uptoBulkEntries r
def uptoBulkEntry {H : Type} : Lit × DataW H → Nat
  | (.string bytes, d) => bytes.length + uptoBulk d + 1
  | (_, d) => uptoBulk d + 1
 end
def uptoSmall : (H : Type) → List (DataW H) → Bool := fun _ ds => decide (uptoBulkAll ds ≤ 1048576)
def OpenSpec.upto (s : _root_.Go.ChangeSpec) : _root_.Go.OpenSpec := { _root_.Go.OpenSpec.ofChange s with cond := some uptoSmall }

/-- 'laws.FnSubstType', WHERE WHAT IT READS IS OF BULK AT MOST 1048576: true; the input reads as it did. -/
def fnSubstTypeUptoRow : OpenClaim := { program := "ytlffbkmjigiplaa", sum := "7d9580f678758591be967d8c7d1e1d9bab06178050d238cd7870252d8dabfb72", func := "loop.example/modlink/laws.FnSubstType", spec := "fnSubstType", unfollowed := true, recurses := true, plainKeys := false, apart := false, narrowed := true }
def FnSubstTypeUptoSaid : Prop := fnSubstTypeUptoRow.holds Try.pinned (OpenSpec.upto fnSubstTypeSpec)

/-- 'laws.FnSubstPlain', WHERE WHAT IT READS IS OF BULK AT MOST 1048576: true; the input reads as it did. -/
def fnSubstPlainUptoRow : OpenClaim := { program := "ytlffbkmjigiplaa", sum := "7d9580f678758591be967d8c7d1e1d9bab06178050d238cd7870252d8dabfb72", func := "loop.example/modlink/laws.FnSubstPlain", spec := "fnSubstPlain", unfollowed := true, recurses := true, plainKeys := false, apart := false, narrowed := true }
def FnSubstPlainUptoSaid : Prop := fnSubstPlainUptoRow.holds Try.pinned (OpenSpec.upto fnSubstPlainSpec)

/-- 'laws.FnSubstTwice', WHERE WHAT IT READS IS OF BULK AT MOST 1048576: true; the input reads as it did. -/
def fnSubstTwiceUptoRow : OpenClaim := { program := "ytlffbkmjigiplaa", sum := "7d9580f678758591be967d8c7d1e1d9bab06178050d238cd7870252d8dabfb72", func := "loop.example/modlink/laws.FnSubstTwice", spec := "fnSubstTwice", unfollowed := true, recurses := true, plainKeys := false, apart := false, narrowed := true }
def FnSubstTwiceUptoSaid : Prop := fnSubstTwiceUptoRow.holds Try.pinned (OpenSpec.upto fnSubstTwiceSpec)

end Rows
end Go.Proofs.Ytlffbkmjigiplaa
