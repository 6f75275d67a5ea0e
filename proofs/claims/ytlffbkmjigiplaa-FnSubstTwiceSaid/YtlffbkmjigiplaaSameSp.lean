/- The document's TypeSame, by itself. -/
import Derived.Test.YtlffbkmjigiplaaAbsW3
import Derived.Test.YtlffbkmjigiplaaTypes
set_option linter.unusedVariables false
set_option linter.unusedSimpArgs false
namespace Go.Proofs.Ytlffbkmjigiplaa
open Go.Abs

theorem gdS {α : Type} (l : List α) (i : Nat) (d : α) (h : i < l.length) : l.getD i d = l[i] := by simp [List.getD, h]
theorem take_eq_all {l l' : List Ty} (hl : l.length = l'.length) (h : ∀ i, i < l.length → l.getD i ty0 = l'.getD i ty0) : l = l' := by
  apply List.ext_getElem hl
  intro i hi hi'
  have := h i hi
  rw [gdS _ _ _ hi, gdS _ _ _ hi'] at this
  exact this

end Go.Proofs.Ytlffbkmjigiplaa
