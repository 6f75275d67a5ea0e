/- Marks that the laws write into what is owned. -/
import Derived.Test.YtmgppdedcciogaaGreatAbsW3
import Derived.Test.YtmgppdedcciogaaGreatOwnTy
set_option linter.unusedVariables false
set_option linter.unusedSimpArgs false
namespace Go.Proofs.YtmgppdedcciogaaGreat
open Go.Abs

def dig (k : Nat) : UInt8 := UInt8.ofNat (48 + k % 10)
def digs (k : Nat) (acc : List UInt8) : List UInt8 := if k = 0 then acc else digs (k / 10) (dig k :: acc)
termination_by k
decreasing_by omega
def mtx (k : Int) : List UInt8 := if k ≤ 0 then [109, 48] else 109 :: digs k.toNat []

theorem dig_eq (k : Nat) : Abs.byteOf [.int .u8 (IntKind.u8.wrap (48 + (k : Int).tmod 10))] = dig k ∧ Abs.isByte [.int .u8 (IntKind.u8.wrap (48 + (k : Int).tmod 10))] = true := by
  have h1 : (k : Int).tmod 10 = ((k % 10 : Nat) : Int) := by
    rw [Int.tmod_eq_emod_of_nonneg (by omega)]; omega
  have h2 : IntKind.u8.wrap (48 + ((k % 10 : Nat) : Int)) = ((48 + k % 10 : Nat) : Int) := by
    simp [IntKind.wrap, IntKind.signed, IntKind.bits]
    omega
  rw [h1, h2]
  exact ⟨rfl, rfl⟩


theorem OwnR.append {A : List Box} : ∀ {k1 k2 : List Ty} {r1 r2 : List (List AV)} {S1 S2 : List Nat}, OwnR A k1 r1 S1 → OwnR A k2 r2 S2 → OwnR A (k1 ++ k2) (r1 ++ r2) (S1 ++ S2)
  | [], k2, r1, r2, S1, S2, h1, h2 => by
    rw [OwnR] at h1
    rw [h1.1, h1.2]; exact h2
  | t :: k1, k2, r1, r2, S1, S2, h1, h2 => by
    rw [OwnR] at h1
    obtain ⟨r, r', T1, T2, rfl, rfl, h3, h4⟩ := h1
    rw [List.cons_append, OwnR]
    exact ⟨r, r' ++ r2, T1, T2 ++ S2, by simp, by simp, h3, OwnR.append h4 h2⟩









/-! ### reading what is owned -/
theorem borrow0 {P : Program} {f : FuncId} {args args' : List AV} {A : List Box} {x : AV} (hv : Views A args args') (hx : ifree x = true) (h : ∀ A, ACalls P f args' A (fun v A' => v = x ∧ A' = A)) : ACalls P f args A (fun v A' => v = x ∧ A' = A) :=
  ACalls.borrow hv ((h _).mono fun v A' ⟨h1, h2⟩ => ⟨[], by rw [h2, List.append_nil], by rw [h1]; exact hx, by simp, h1, by simp⟩)
end Go.Proofs.YtmgppdedcciogaaGreat
