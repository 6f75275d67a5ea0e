/- Whether both signatures have a normal form, by the model. -/
import Derived.Test.YtkajklfohjcofaaGreatDoorMatchP
import Derived.Test.YtkajklfohjcofaaGreatDoorAbsW3
set_option linter.unusedVariables false
set_option linter.unusedSimpArgs false
namespace Go.Proofs.YtkajklfohjcofaaGreatDoor
open Go.Abs

set_option maxRecDepth 100000 in
theorem spec_l3Normal (a b : List SigI) (ha : a.length ≤ 1048576) (hoa : ∀ x ∈ a, x.Ok ∧ sz x.typ ≤ 1048576) (hb : b.length ≤ 1048576) (hob : ∀ x ∈ b, x.Ok ∧ sz x.typ ≤ 1048576) (A : List Box) :
    ACalls Tryz.prog 50 [.slice (sEs a), .slice (sEs b)] A (fun r A' => (∃ oa ob, RdN a oa ∧ RdN b ob ∧ r = .bool (oa.isSome && ob.isSome)) ∧ A' = A) := by
  refine acalls_enter (cf := cf 23 [0, 1, 4, 6, 8]) foll Tryz.func50 Tryz.ntmps50 (by simp [cf]) ?_
  simp only [Tryz.f50, EnterK_some, zW, zX, zD, builtinA, isLeaf, const1, ustrA, simprocAttr, ca86, cf, Tryz.results50]
  refine callO_intro (spec_NormalSig a ha hoa _) ?_
  rintro r A' ⟨oa, h1, rfl, hA⟩
  have hA := hA.symm
  subst hA
  have e : ∀ o, ∃ s, nrR o = .tuple [.slice s, .bool o.isSome] := fun o => by cases o <;> exact ⟨_, rfl⟩
  obtain ⟨sa, ea⟩ := e oa
  rw [ea]
  simp only [zW, zX, zD, builtinA, isLeaf, const1, ustrA, simprocAttr, ca86, cf, Tryz.results50]
  refine callO_intro (spec_NormalSig b hb hob _) ?_
  rintro r A' ⟨ob, h2, rfl, hA⟩
  have hA := hA.symm
  subst hA
  obtain ⟨sb, eb⟩ := e ob
  rw [eb]
  cases hq : oa.isSome with
  | true =>
    simp only [zW, zX, zD, builtinA, isLeaf, const1, ustrA, simprocAttr, ca86, cf, Tryz.results50]
    exact ⟨oa, ob, h1, h2, by rw [hq]; simp⟩
  | false =>
    simp only [zW, zX, zD, builtinA, isLeaf, const1, ustrA, simprocAttr, ca86, cf, Tryz.results50]
    exact ⟨oa, ob, h1, h2, by rw [hq]; simp⟩
theorem bE_ty (n : List UInt8) (f : VT) : bE ⟨[], n, toTy f⟩ = .str [] :: .str n :: enc (toTy f) := by rw [bT4 (toTy f)]; rfl
end Go.Proofs.YtkajklfohjcofaaGreatDoor
