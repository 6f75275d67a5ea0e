/- A law's argument, a type, as memory of its own. -/
import Derived.Test.YtmgppdedcciogaaGreatTypesMeth
import Derived.Test.YtmgppdedcciogaaGreatOwnMark
import Derived.Test.YtmgppdedcciogaaGreatAbsW3
set_option linter.unusedVariables false
set_option linter.unusedSimpArgs false
namespace Go.Proofs.YtmgppdedcciogaaGreat
open Go.Abs

theorem getD_repl {α : Type} {n i : Nat} {x d : α} (h : i < n) : (List.replicate n x).getD i d = x := by simp [List.getD, h]
/-- new memory that holds a list of types -/
def NewK (A : List Box) (ks : List Ty) (j : Nat) (A' : List Box) : Prop :=
  A.length ≤ A'.length ∧ (∀ k, k < A.length → A'.getD k .dead = A.getD k .dead) ∧ ∃ rows S, A'.getD j .dead = .gr none 4 rows ∧ OwnR A' ks rows S ∧ (j :: S).Nodup ∧ ∀ i ∈ j :: S, A.length ≤ i


end Go.Proofs.YtmgppdedcciogaaGreat
