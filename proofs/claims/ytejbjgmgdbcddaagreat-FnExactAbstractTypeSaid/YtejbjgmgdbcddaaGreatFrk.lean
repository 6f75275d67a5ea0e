/- Calls that change one box at most. -/
import Derived.Test.YtejbjgmgdbcddaaGreatTypes
set_option linter.unusedVariables false
set_option linter.unusedSimpArgs false
namespace Go.Proofs.YtejbjgmgdbcddaaGreat
open Go.Abs

def FrK (i : Nat) (A A' : List Box) : Prop := A.length ≤ A'.length ∧ ∀ k, k < A.length → k ≠ i → A'.getD k .dead = A.getD k .dead
theorem FrK.trans {i : Nat} {A B C : List Box} (h : FrK i A B) (k : FrK i B C) : FrK i A C :=
  ⟨Nat.le_trans h.1 k.1, fun x hx hi => by rw [k.2 x (Nat.lt_of_lt_of_le hx h.1) hi, h.2 x hx hi]⟩
theorem FrK.app (i : Nat) (A B : List Box) : FrK i A (A ++ B) := ⟨by simp, fun k hk _ => Abs.getD_append_left hk⟩
theorem FrK.refl (i : Nat) (A : List Box) : FrK i A A := ⟨Nat.le_refl _, fun _ _ _ => rfl⟩
theorem take_of_getD {A1 C : List Box} {n : Nat} (hn : n ≤ A1.length) (hc : C.length = n) (h : ∀ k, k < n → A1.getD k .dead = C.getD k .dead) : A1.take n = C := by
  refine List.ext_getElem (by simp; omega) fun k h1 h2 => ?_
  have h3 : k < A1.length := by omega
  have := h k (by omega)
  rw [List.getElem_take]
  simpa [List.getD, h3, h2] using this
theorem borrowI {P : Program} {f : FuncId} {args args' : List AV} {A : List Box} {x : AV} (hv : Views A args args') (hx : ifree x = true) (h : ∀ A, ACalls P f args' A (fun v A' => v = x ∧ A' = A)) : ACalls P f args A (fun v A' => v = x ∧ A' = A) :=
  ACalls.borrow hv ((h _).mono fun v A' ⟨h1, h2⟩ => ⟨[], by rw [h2, List.append_nil], by rw [h1]; exact hx, by simp, h1, by simp⟩)

end Go.Proofs.YtejbjgmgdbcddaaGreat
