/- Zero. -/
import Derived.Test.YtejbjgmgdbcddaaGreatDoorK01
import Derived.Test.YtejbjgmgdbcddaaGreatDoorAbsW3
/- Comparisons with the zero type. -/
set_option linter.unusedVariables false
set_option linter.unusedSimpArgs false
namespace Go.Proofs.YtejbjgmgdbcddaaGreatDoor
open Go.Abs
set_option maxRecDepth 100000 in
theorem spec_l2Zero (τ : Ty) (A : List Box) : ACalls Tryz.prog 77 [.agg (enc τ)] A (fun r A'=>r = .bool (decide (τ = ty0)) ∧ A' = A):=by
  obtain ⟨k,m,n,ks⟩:=τ
  have hr : decide (Ty.mk k m n ks = ty0) = (((decide (k = 0) && decide (m = [])) && decide (n = [])) && decide (ks = [])):=by
    rw [Bool.eq_iff_iff]; simp [ty0,and_assoc]
  have hl : decide (((encs ks).length : Int) = 0) = decide (ks = []):=by
    rw [Bool.eq_iff_iff,encs_length]; simp only [decide_eq_true_eq]
    constructor
    · intro h; exact List.length_eq_zero_iff.1 (by omega)
    · rintro rfl; rfl
  rw [enc,hr]
  refine acalls_enter (cf:=cf 22 [0,1,2]) foll Tryz.func77 Tryz.ntmps77 (by simp [cf]) ?_
  simp only [Tryz.f77,EnterK_some,zW,zX,zD,builtinA,isLeaf,const1,ustrA,simprocAttr,ti3,ti9,ti30,ti32,cf,Tryz.results77]
  by_cases h1 : k = 0
  · by_cases h2 : m = []
    · by_cases h3 : n = []
      · simp only [zW,zX,zD,builtinA,isLeaf,const1,ustrA,simprocAttr,ti3,ti9,ti30,ti32,cf,Tryz.results77,decide_eq_true h1,decide_eq_true h2,decide_eq_true h3,hl]
      · simp only [zW,zX,zD,builtinA,isLeaf,const1,ustrA,simprocAttr,ti3,ti9,ti30,ti32,cf,Tryz.results77,decide_eq_true h1,decide_eq_true h2,decide_eq_false h3,hl]
    · simp only [zW,zX,zD,builtinA,isLeaf,const1,ustrA,simprocAttr,ti3,ti9,ti30,ti32,cf,Tryz.results77,decide_eq_true h1,decide_eq_false h2,hl]
  · simp only [zW,zX,zD,builtinA,isLeaf,const1,ustrA,simprocAttr,ti3,ti9,ti30,ti32,cf,Tryz.results77,decide_eq_false h1,hl]
end Go.Proofs.YtejbjgmgdbcddaaGreatDoor
