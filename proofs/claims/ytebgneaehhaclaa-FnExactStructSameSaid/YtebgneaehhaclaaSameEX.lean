/- The program's ExprSame answers whether two expressions are the same tree. -/
import Derived.Test.YtebgneaehhaclaaSameAX
import Derived.Test.YtebgneaehhaclaaAbsW3
set_option linter.unusedVariables false
set_option linter.unusedSimpArgs false
namespace Go.Proofs.Ytebgneaehhaclaa
open Go.Abs
theorem tc_new' (A : List Box) : ACalls Try.prog 45 [] A (fun r A' => r = .agg [tF1, tF2, .map (A.length + 1)] ∧ A' = A ++ [.cells [tF1, tF2, .map (A.length + 1)], .mapb []]) := tc_new A
end Go.Proofs.Ytebgneaehhaclaa
namespace Go.Proofs.Ytebgneaehhaclaa.SX
open Go.Abs

set_option maxRecDepth 100000 in
theorem xc_new (it : Nat) (A : List Box) : ACalls Try.prog 75 [.agg [tF1, tF2, .map it]] A (fun r A' => r = .agg [xF1, xF2 A.length, .map (A.length + 2)] ∧ A' = A ++ [.cells [tF1, tF2, .map it], .cells [xF1, xF2 A.length, .map (A.length + 2)], .mapb []]) := by
  simp only [xF1, xF2]
  refine acalls_enterK (cf := cf 10 [0, 1, 2, 3, 4]) foll Try.func75 Try.ntmps75 (by simp [cf]) ?_
  simp only [Try.f75, EnterK_some, zW, zX, zD, builtinA, isLeaf, const1, Nat.reduceAdd, Nat.reduceMul, Nat.reduceSub, Nat.reduceLT, Nat.reduceLeDiff, Nat.reduceEqDiff, Nat.reduceBEq, Nat.reduceBNe, reduceIte, reduceCtorEq, Int.reduceToNat, Int.reduceLT, Int.reduceLE, Int.reduceEq, Int.reduceNe, Int.reduceNeg, ustrA, ti75, ti83, ti85, cf, Try.results75]
  exact ⟨rfl, rfl⟩

theorem argL_lists (t : IEx) : ∀ x ∈ lists t, ∀ u ∈ x.ks, ∀ z ∈ argL u, z ∈ argL t := by
  induction t using IEx.ind with
  | h k q m n a b o ks ih =>
    cases ks with
    | nil => simp [lists]
    | cons t ks =>
      intro x hx u hu z hz
      rw [lists_eq (t := .mk k q m n a b o (t :: ks)) (x := ⟨b, o, t, ks⟩) rfl] at hx
      rcases List.mem_cons.1 hx with rfl | hx
      · exact argL_below (t := .mk k q m n a b o (t :: ks)) (x := ⟨b, o, t, ks⟩) rfl hu z hz
      · obtain ⟨v, hv, hxv⟩ := listss_mem.1 hx
        exact argL_below (t := .mk k q m n a b o (t :: ks)) (x := ⟨b, o, t, ks⟩) rfl hv z (ih v hv x hxv u hu z hz)



end Go.Proofs.Ytebgneaehhaclaa.SX

