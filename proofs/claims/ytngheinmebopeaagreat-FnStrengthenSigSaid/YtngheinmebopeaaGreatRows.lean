/-
  No cell of these rows narrows 'for every input' (looked for: loops, veiled, ifaces, maps, wideKeys, modest, calm, conditions, laid).
  DERIVED. THE GIVEN ROWS OF THIS SEAT. 2 by the template 'for every input the law returns true; each argument reads behind the call as it read before'; 0 by the template 'total and deterministic' (their statements: YtngheinmebopeaaGreatTotals.lean).
  GIVEN WITH THE SEED: the statements are not yours to turn. If you find one false, say at which input.
  Laid BY PROGRAM, IN A SANDBOX (cutbox-rows.mjs): the forced cells as the released guide's own fill.sh prints them over the translation c9d965614363ed45… (all of the seat's roots in one cut). By AI agents, Wed Nov 11 2026. No macro, syntax, notation, axiom, sorry.
-/
import Derived.Test.YtngheinmebopeaaGreatChecked
import GoSem.Claim
import GoSem.ClaimJoined
import GoSem.ClaimMapViews
import Derived.JoinedTies
import Derived.KernelRfl
namespace Go.Proofs.YtngheinmebopeaaGreat
/- THE CELL 'sum', in the pinned program and in every row, IS THE sha256 OF THE DUMP (.gsa) THAT YtngheinmebopeaaGreatProg.lean LOADS. Nothing in Lean hashes anything: it is a label: what it is worth is what the hold of that sum in a sandbox is worth. -/
noncomputable def Tryz.pinned : Pinned := { name := "ytngheinmebopeaagreat", sum := "c9d965614363ed451e904592668c7b7e4853fdf82e8647663e3742ca8821bd7f", checked := Tryz.checked }
namespace Rows
def none {H : Type} : Left H := { results := [], args := [] }

/-- 'laws.FnStrengthenSig': WHATEVER THE INPUT: true; the input reads as it did. -/
def fnStrengthenSigSpec : ChangeSpec := { name := "fnStrengthenSig", fn := fun _ => fun
  | [d] => { results := [.lit (.bool true)], args := [d] }
  | _ => none }
def fnStrengthenSigRow : OpenClaim := { program := "ytngheinmebopeaagreat", sum := "c9d965614363ed451e904592668c7b7e4853fdf82e8647663e3742ca8821bd7f", func := "loop.example/modlink/laws.FnStrengthenSig", spec := "fnStrengthenSig", unfollowed := true, recurses := true, plainKeys := false, apart := false }
def FnStrengthenSigSaid : Prop := fnStrengthenSigRow.holds Tryz.pinned (OpenSpec.ofChange fnStrengthenSigSpec)

/-- ITS FALSE NEIGHBOUR: 'it returns false'. Refute it at one input. -/
def fnStrengthenSigWrong : ChangeSpec := { name := "fnStrengthenSig", fn := fun _ => fun
  | [d] => { results := [.lit (.bool false)], args := [d] }
  | _ => none }
def FnStrengthenSigWrongFalsely : Prop := fnStrengthenSigRow.holds Tryz.pinned (OpenSpec.ofChange fnStrengthenSigWrong)

/-- 'laws.FnStrengthenTwice': WHATEVER THE INPUT: true; the input reads as it did. -/
def fnStrengthenTwiceSpec : ChangeSpec := { name := "fnStrengthenTwice", fn := fun _ => fun
  | [d] => { results := [.lit (.bool true)], args := [d] }
  | _ => none }
def fnStrengthenTwiceRow : OpenClaim := { program := "ytngheinmebopeaagreat", sum := "c9d965614363ed451e904592668c7b7e4853fdf82e8647663e3742ca8821bd7f", func := "loop.example/modlink/laws.FnStrengthenTwice", spec := "fnStrengthenTwice", unfollowed := true, recurses := true, plainKeys := false, apart := false }
def FnStrengthenTwiceSaid : Prop := fnStrengthenTwiceRow.holds Tryz.pinned (OpenSpec.ofChange fnStrengthenTwiceSpec)

/-- ITS FALSE NEIGHBOUR: 'it returns false'. Refute it at one input. -/
def fnStrengthenTwiceWrong : ChangeSpec := { name := "fnStrengthenTwice", fn := fun _ => fun
  | [d] => { results := [.lit (.bool false)], args := [d] }
  | _ => none }
def FnStrengthenTwiceWrongFalsely : Prop := fnStrengthenTwiceRow.holds Tryz.pinned (OpenSpec.ofChange fnStrengthenTwiceWrong)

/- THE SECOND FORM. 'bulk': how many values and letters a reading holds, each counted each time it is reached (what is shared counts as often as it is met; a slice's spare places count too). A statement '..UptoSaid' is the law's where the arguments, and the package variables that the reading takes, are together of bulk at most 1048576: NARROWER than '..Said'. Prove '..Said' where nothing that the law and all that it calls make is longer than what came in: it says more and counts as full. Else prove '..UptoSaid'. A law counts once. -/
mutual
def uptoBulk {H : Type} : DataW H → Nat
  | .lit (.string bytes) => bytes.length + 1
  | .lit _ => 1
  | .nil => 1
  | .ptr d => uptoBulk d + 1
  | .slice elems spare => uptoBulkAll elems + uptoBulkAll spare + 1
  | .agg parts => uptoBulkAll parts + 1
  | .iface _ d => uptoBulk d + 1
  | .map entries => uptoBulkEntries entries + 1
  | .held _ => 1
def uptoBulkAll {H : Type} : List (DataW H) → Nat
  | [] => 0
  | d :: r => uptoBulk d + uptoBulkAll r
def uptoBulkEntries {H : Type} : List (Lit × DataW H) → Nat
  | [] => 0
  | x :: r => uptoBulkEntry x + uptoBulkEntries r
def uptoBulkEntry {H : Type} : Lit × DataW H → Nat
  | (.string bytes, d) => bytes.length + uptoBulk d + 1
  | (_, d) => uptoBulk d + 1
 end
def uptoSmall : (H : Type) → List (DataW H) → Bool := fun _ ds => decide (uptoBulkAll ds ≤ 1048576)
def OpenSpec.upto (s : _root_.Go.ChangeSpec) : _root_.Go.OpenSpec := { _root_.Go.OpenSpec.ofChange s with cond := some uptoSmall }

/-- 'laws.FnStrengthenSig', WHERE WHAT IT READS IS OF BULK AT MOST 1048576: true; the input reads as it did. -/
def fnStrengthenSigUptoRow : OpenClaim := { program := "ytngheinmebopeaagreat", sum := "c9d965614363ed451e904592668c7b7e4853fdf82e8647663e3742ca8821bd7f", func := "loop.example/modlink/laws.FnStrengthenSig", spec := "fnStrengthenSig", unfollowed := true, recurses := true, plainKeys := false, apart := false, narrowed := true }
def FnStrengthenSigUptoSaid : Prop := fnStrengthenSigUptoRow.holds Tryz.pinned (OpenSpec.upto fnStrengthenSigSpec)

/-- 'laws.FnStrengthenTwice', WHERE WHAT IT READS IS OF BULK AT MOST 1048576: true; the input reads as it did. -/
def fnStrengthenTwiceUptoRow : OpenClaim := { program := "ytngheinmebopeaagreat", sum := "c9d965614363ed451e904592668c7b7e4853fdf82e8647663e3742ca8821bd7f", func := "loop.example/modlink/laws.FnStrengthenTwice", spec := "fnStrengthenTwice", unfollowed := true, recurses := true, plainKeys := false, apart := false, narrowed := true }
def FnStrengthenTwiceUptoSaid : Prop := fnStrengthenTwiceUptoRow.holds Tryz.pinned (OpenSpec.upto fnStrengthenTwiceSpec)

end Rows
end Go.Proofs.YtngheinmebopeaaGreat
