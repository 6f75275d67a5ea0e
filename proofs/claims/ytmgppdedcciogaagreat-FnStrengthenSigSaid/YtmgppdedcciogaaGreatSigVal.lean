/- The program's SigValid. -/
import Derived.Test.YtmgppdedcciogaaGreatSigPure
import Derived.Test.YtmgppdedcciogaaGreatAbsW3
set_option linter.unusedVariables false
set_option linter.unusedSimpArgs false
namespace Go.Proofs.YtmgppdedcciogaaGreat
open Go.Abs

set_option maxRecDepth 100000 in
theorem impl_SigValid (s : List SigI) (hs : s.length ≤ 1048576) (ho : ∀ x ∈ s, x.Ok ∧ sz x.typ ≤ 1048576) (A : List Box) : ACalls Tryz.prog 23 [.slice (sEs s)] A (fun r A' => r = .bool (sigB s) ∧ A' = A) := by
  refine acalls_enter (cf := cf 11 [0, 2, 4]) foll Tryz.func23 Tryz.ntmps23 (by simp [cf]) ?_
  simp only [Tryz.f23, EnterK_some, zW, zX, zD, builtinA, isLeaf, const1, ustrA, simprocAttr, ca38, cf, Tryz.results23]
  refine callK_intro (by simp only [zW, zX, zD, builtinA, isLeaf, const1, ustrA, simprocAttr, Option.map_some]; rfl) (impl_readSig s hs ho _) ?_ rfl
  rintro r A' ⟨h, rfl⟩
  rcases h with ⟨ys, h8, hr, rfl⟩ | ⟨hb, rfl⟩
  · simp only [zW, zX, zD, builtinA, isLeaf, const1, ustrA, simprocAttr, ca38, cf, Tryz.results23]
    rw [sigB_reads h8 hr]
  · simp only [zW, zX, zD, builtinA, isLeaf, const1, ustrA, simprocAttr, ca38, cf, Tryz.results23]
    rw [sigB_bad hb]
end Go.Proofs.YtmgppdedcciogaaGreat
