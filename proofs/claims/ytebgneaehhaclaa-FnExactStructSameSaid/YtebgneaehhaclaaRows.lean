/-
  NARROWER THAN 'FOR EVERY INPUT', by the rows' own cells (each row's printed sentence says how): FnExactUnitSame: loops · FnExactProgramSame: loops · FnExactSigSame: loops · FnExactStructSame: loops.
  DERIVED. THE GIVEN ROWS OF THIS SEAT. 4 by the template 'for every input the law returns true; each argument reads behind the call as it read before'; 0 by the template 'total and deterministic' (their statements: YtebgneaehhaclaaTotals.lean).
  GIVEN WITH THE SEED: the statements are not yours to turn. If you find one false, say at which input.
  Laid BY PROGRAM, IN A SANDBOX (cutbox-rows.mjs): the forced cells as the released guide's own fill.sh prints them over the translation d6fa5ad13038aac7… (all of the seat's roots in one cut). By AI agents, Wed Nov 11 2026. No macro, syntax, notation, axiom, sorry.
-/
import Derived.Test.YtebgneaehhaclaaChecked
import GoSem.Claim
import GoSem.ClaimJoined
import GoSem.ClaimMapViews
import Derived.JoinedTies
import Derived.KernelRfl
namespace Go.Proofs.Ytebgneaehhaclaa
/- THE CELL 'sum', in the pinned program and in every row, IS THE sha256 OF THE DUMP (.gsa) THAT YtebgneaehhaclaaProg.lean LOADS. Nothing in Lean hashes anything: it is a label: what it is worth is what the hold of that sum in a sandbox is worth. -/
noncomputable def Try.pinned : Pinned := { name := "ytebgneaehhaclaa", sum := "d6fa5ad13038aac79d8c2b451e162fe7ef520967476c5d08213754105d51e164", checked := Try.checked }
namespace Rows
def none {H : Type} : Left H := { results := [], args := [] }

/-- 'laws.FnExactUnitSame': WHATEVER THE INPUT: true; the input reads as it did. -/
def fnExactUnitSameSpec : ChangeSpec := { name := "fnExactUnitSame", fn := fun _ => fun
  | [d1, d2] => { results := [.lit (.bool true)], args := [d1, d2] }
  | _ => none }
def fnExactUnitSameRow : OpenClaim := { program := "ytebgneaehhaclaa", sum := "d6fa5ad13038aac79d8c2b451e162fe7ef520967476c5d08213754105d51e164", func := "loop.example/modlink/laws.FnExactUnitSame", spec := "fnExactUnitSame", unfollowed := true, recurses := true, loops := true, plainKeys := false, apart := false }
def FnExactUnitSameSaid : Prop := fnExactUnitSameRow.holds Try.pinned (OpenSpec.ofChange fnExactUnitSameSpec)

/-- ITS FALSE NEIGHBOUR: 'it returns false'. Refute it at one input. -/
def fnExactUnitSameWrong : ChangeSpec := { name := "fnExactUnitSame", fn := fun _ => fun
  | [d1, d2] => { results := [.lit (.bool false)], args := [d1, d2] }
  | _ => none }
def FnExactUnitSameWrongFalsely : Prop := fnExactUnitSameRow.holds Try.pinned (OpenSpec.ofChange fnExactUnitSameWrong)

/-- 'laws.FnExactProgramSame': WHATEVER THE INPUT: true; the input reads as it did. -/
def fnExactProgramSameSpec : ChangeSpec := { name := "fnExactProgramSame", fn := fun _ => fun
  | [d1, d2] => { results := [.lit (.bool true)], args := [d1, d2] }
  | _ => none }
def fnExactProgramSameRow : OpenClaim := { program := "ytebgneaehhaclaa", sum := "d6fa5ad13038aac79d8c2b451e162fe7ef520967476c5d08213754105d51e164", func := "loop.example/modlink/laws.FnExactProgramSame", spec := "fnExactProgramSame", unfollowed := true, recurses := true, loops := true, plainKeys := false, apart := false }
def FnExactProgramSameSaid : Prop := fnExactProgramSameRow.holds Try.pinned (OpenSpec.ofChange fnExactProgramSameSpec)

/-- ITS FALSE NEIGHBOUR: 'it returns false'. Refute it at one input. -/
def fnExactProgramSameWrong : ChangeSpec := { name := "fnExactProgramSame", fn := fun _ => fun
  | [d1, d2] => { results := [.lit (.bool false)], args := [d1, d2] }
  | _ => none }
def FnExactProgramSameWrongFalsely : Prop := fnExactProgramSameRow.holds Try.pinned (OpenSpec.ofChange fnExactProgramSameWrong)

/-- 'laws.FnExactSigSame': WHATEVER THE INPUT: true; the input reads as it did. -/
def fnExactSigSameSpec : ChangeSpec := { name := "fnExactSigSame", fn := fun _ => fun
  | [d1, d2] => { results := [.lit (.bool true)], args := [d1, d2] }
  | _ => none }
def fnExactSigSameRow : OpenClaim := { program := "ytebgneaehhaclaa", sum := "d6fa5ad13038aac79d8c2b451e162fe7ef520967476c5d08213754105d51e164", func := "loop.example/modlink/laws.FnExactSigSame", spec := "fnExactSigSame", unfollowed := true, recurses := true, loops := true, plainKeys := false, apart := false }
def FnExactSigSameSaid : Prop := fnExactSigSameRow.holds Try.pinned (OpenSpec.ofChange fnExactSigSameSpec)

/-- ITS FALSE NEIGHBOUR: 'it returns false'. Refute it at one input. -/
def fnExactSigSameWrong : ChangeSpec := { name := "fnExactSigSame", fn := fun _ => fun
  | [d1, d2] => { results := [.lit (.bool false)], args := [d1, d2] }
  | _ => none }
def FnExactSigSameWrongFalsely : Prop := fnExactSigSameRow.holds Try.pinned (OpenSpec.ofChange fnExactSigSameWrong)

/-- 'laws.FnExactStructSame': WHATEVER THE INPUT: true; the input reads as it did. -/
def fnExactStructSameSpec : ChangeSpec := { name := "fnExactStructSame", fn := fun _ => fun
  | [d1, d2] => { results := [.lit (.bool true)], args := [d1, d2] }
  | _ => none }
def fnExactStructSameRow : OpenClaim := { program := "ytebgneaehhaclaa", sum := "d6fa5ad13038aac79d8c2b451e162fe7ef520967476c5d08213754105d51e164", func := "loop.example/modlink/laws.FnExactStructSame", spec := "fnExactStructSame", unfollowed := true, recurses := true, loops := true, plainKeys := false, apart := false }
def FnExactStructSameSaid : Prop := fnExactStructSameRow.holds Try.pinned (OpenSpec.ofChange fnExactStructSameSpec)

/-- ITS FALSE NEIGHBOUR: 'it returns false'. Refute it at one input. -/
def fnExactStructSameWrong : ChangeSpec := { name := "fnExactStructSame", fn := fun _ => fun
  | [d1, d2] => { results := [.lit (.bool false)], args := [d1, d2] }
  | _ => none }
def FnExactStructSameWrongFalsely : Prop := fnExactStructSameRow.holds Try.pinned (OpenSpec.ofChange fnExactStructSameWrong)

/- THE SECOND FORM. 'bulk': how many values and letters a reading holds, each counted each time it is reached (what is shared counts as often as it is met; a slice's spare places count too). A statement '..UptoSaid' is the law's where the arguments, and the package variables that the reading takes, are together of bulk at most 1048576: NARROWER than '..Said'. Prove '..Said' where nothing that the law and all that it calls make is longer than what came in: it says more and counts as full. Else prove '..UptoSaid'. A law counts once. -/
mutual
def uptoBulk {H : Type} : DataW H → Nat
  | .lit (.string bytes) => bytes.length + 1
  | .lit _ => 1
  | .nil => 1
  | .ptr d => uptoBulk d + 1
  | .slice elems spare => uptoBulkAll elems + uptoBulkAll spare + 1
  | .agg parts => uptoBulkAll parts + 1
  | .iface _ d => uptoBulk d + 1
  | .map entries => uptoBulkEntries entries + 1
  | .held _ => 1
def uptoBulkAll {H : Type} : List (DataW H) → Nat
  | [] => 0
  | d :: r => uptoBulk d + uptoBulkAll r
def uptoBulkEntries {H : Type} : List (Lit × DataW H) → Nat
  | [] => 0
  | x :: r => uptoBulkEntry x + uptoBulkEntries r
def uptoBulkEntry {H : Type} : Lit × DataW H → Nat
  | (.string bytes, d) => bytes.length + uptoBulk d + 1
  | (_, d) => uptoBulk d + 1
 end
def uptoSmall : (H : Type) → List (DataW H) → Bool := fun _ ds => decide (uptoBulkAll ds ≤ 1048576)
def OpenSpec.upto (s : _root_.Go.ChangeSpec) : _root_.Go.OpenSpec := { _root_.Go.OpenSpec.ofChange s with cond := some uptoSmall }

/-- 'laws.FnExactUnitSame', WHERE WHAT IT READS IS OF BULK AT MOST 1048576: true; the input reads as it did. -/
def fnExactUnitSameUptoRow : OpenClaim := { program := "ytebgneaehhaclaa", sum := "d6fa5ad13038aac79d8c2b451e162fe7ef520967476c5d08213754105d51e164", func := "loop.example/modlink/laws.FnExactUnitSame", spec := "fnExactUnitSame", unfollowed := true, recurses := true, loops := true, plainKeys := false, apart := false, narrowed := true }
def FnExactUnitSameUptoSaid : Prop := fnExactUnitSameUptoRow.holds Try.pinned (OpenSpec.upto fnExactUnitSameSpec)

/-- 'laws.FnExactProgramSame', WHERE WHAT IT READS IS OF BULK AT MOST 1048576: true; the input reads as it did. -/
def fnExactProgramSameUptoRow : OpenClaim := { program := "ytebgneaehhaclaa", sum := "d6fa5ad13038aac79d8c2b451e162fe7ef520967476c5d08213754105d51e164", func := "loop.example/modlink/laws.FnExactProgramSame", spec := "fnExactProgramSame", unfollowed := true, recurses := true, loops := true, plainKeys := false, apart := false, narrowed := true }
def FnExactProgramSameUptoSaid : Prop := fnExactProgramSameUptoRow.holds Try.pinned (OpenSpec.upto fnExactProgramSameSpec)

/-- 'laws.FnExactSigSame', WHERE WHAT IT READS IS OF BULK AT MOST 1048576: true; the input reads as it did. -/
def fnExactSigSameUptoRow : OpenClaim := { program := "ytebgneaehhaclaa", sum := "d6fa5ad13038aac79d8c2b451e162fe7ef520967476c5d08213754105d51e164", func := "loop.example/modlink/laws.FnExactSigSame", spec := "fnExactSigSame", unfollowed := true, recurses := true, loops := true, plainKeys := false, apart := false, narrowed := true }
def FnExactSigSameUptoSaid : Prop := fnExactSigSameUptoRow.holds Try.pinned (OpenSpec.upto fnExactSigSameSpec)

/-- 'laws.FnExactStructSame', WHERE WHAT IT READS IS OF BULK AT MOST 1048576: true; the input reads as it did. -/
def fnExactStructSameUptoRow : OpenClaim := { program := "ytebgneaehhaclaa", sum := "d6fa5ad13038aac79d8c2b451e162fe7ef520967476c5d08213754105d51e164", func := "loop.example/modlink/laws.FnExactStructSame", spec := "fnExactStructSame", unfollowed := true, recurses := true, loops := true, plainKeys := false, apart := false, narrowed := true }
def FnExactStructSameUptoSaid : Prop := fnExactStructSameUptoRow.holds Try.pinned (OpenSpec.upto fnExactStructSameSpec)

end Rows
end Go.Proofs.Ytebgneaehhaclaa
