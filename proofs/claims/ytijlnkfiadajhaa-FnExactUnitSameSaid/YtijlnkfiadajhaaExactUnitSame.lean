/- For every two units the program's UnitSame answers as the model's UnitSame does, and the arguments are not changed. No condition beside the row's own. -/
import Derived.Test.YtijlnkfiadajhaaK14
set_option linter.unusedVariables false
set_option linter.unusedSimpArgs false
namespace Go.Proofs.Ytijlnkfiadajhaa
open Go.Abs Go.RowKit Go.ChangeShapes Go.WideShapes Go.ChangeAt Go.ChangeMaps
set_option maxRecDepth 100000 in
set_option maxHeartbeats 2000000 in
theorem exactUnitSame_true (σ : UnI) (hσ : σ.Ok) (τ : UnI) (hτ : τ.Ok) : ACalls Try.prog 3 [.agg (uEA σ),.agg (uEA τ)] [] (fun v _=>v = .bool true):=by
  refine acalls_enter (cf:=cf 45 [0,1,2,3,4,5,6,7,8,9,14,19,34,39,44]) foll Try.func3 Try.ntmps3 (by simp [cf]) ?_
  simp only [Try.f3,EnterK_some,zW,zX,zD,builtinA,isLeaf,const1,ustrA,simprocAttr,ti3,ti4,ti26,ti33,ca6,ca7,ca8,ca9,ca10,cf,Try.results3]
  simp only [uEA_take]
  refine ⟨by rw [uEA_length]; omega,?_⟩
  refine callK_intro (by simp only [zW,zX,zD,builtinA,isLeaf,const1,ustrA,simprocAttr,frzL_uE,frzL_uEA,Option.map_some]; rfl) (laws_szUnit σ hσ _ _ (by omega) (by omega)) ?_ rfl; rintro v A' ⟨rfl,rfl⟩
  by_cases hs : szU σ ≤ 1048576
  · have hv : left 1048576 (szU σ) = 1048576 - szU σ:=by rw [left,if_pos (by omega)]
    have hn : decide ((1048576 : Int) - szU σ < 0) = false:=decide_eq_false (by omega)
    rw [hv]
    simp only [zW,zX,zD,builtinA,isLeaf,const1,ustrA,simprocAttr,ti3,ti4,ti26,ti33,ca6,ca7,ca8,ca9,ca10,cf,Try.results3,hn]
    simp only [uEA_take]
    refine ⟨by rw [uEA_length]; omega,?_⟩
    refine callK_intro (by simp only [zW,zX,zD,builtinA,isLeaf,const1,ustrA,simprocAttr,frzL_uE,frzL_uEA,Option.map_some]; rfl) (laws_szUnit τ hτ _ _ (by omega) (by omega)) ?_ rfl; rintro v A' ⟨rfl,rfl⟩
    by_cases ht : szU τ ≤ 1048576 - szU σ
    · have hv2 : left (1048576 - szU σ) (szU τ) = 1048576 - szU σ - szU τ:=by rw [left,if_pos (by omega)]
      have hn2 : decide ((1048576 : Int) - szU σ - szU τ < 0) = false:=decide_eq_false (by omega)
      have ht' : szU τ ≤ 1048576:=by omega
      rw [hv2]
      simp only [zW,zX,zD,builtinA,isLeaf,const1,ustrA,simprocAttr,ti3,ti4,ti26,ti33,ca6,ca7,ca8,ca9,ca10,cf,Try.results3,hn2]
      simp only [uEA_take]
      refine .inl ⟨by kernel_rfl,by kernel_rfl,by rw [uEA_length]; omega,?_⟩
      refine callD_intro (by simp only [zW,zX,zD,builtinA,isLeaf,const1,ustrA,simprocAttr,frzL_uE,frzL_uEA,Option.map_some] <;> rfl) (laws_toUnit σ hs _) ?_ rfl
      simp only [zW,zX,zD,builtinA,isLeaf,const1,ustrA,simprocAttr,ti3,ti4,ti26,ti33,ca6,ca7,ca8,ca9,ca10,cf,Try.results3,frzL_uE,frzL_uEA,uE_take,uE_length,uEA_take,uEA_length]
      refine callD_intro (by simp only [zW,zX,zD,builtinA,isLeaf,const1,ustrA,simprocAttr,frzL_uE,frzL_uEA,Option.map_some] <;> rfl) (laws_toUnit τ ht' _) ?_ rfl
      simp only [zW,zX,zD,builtinA,isLeaf,const1,ustrA,simprocAttr,ti3,ti4,ti26,ti33,ca6,ca7,ca8,ca9,ca10,cf,Try.results3,frzL_uE,frzL_uEA,uE_take,uE_length,uEA_take,uEA_length]
      refine callD_intro (by simp only [zW,zX,zD,builtinA,isLeaf,const1,ustrA,simprocAttr,frzL_uE,frzL_uEA,Option.map_some] <;> rfl) (spec_UnitSame σ τ hσ hs _) ?_ rfl
      simp only [zW,zX,zD,builtinA,isLeaf,const1,ustrA,simprocAttr,ti3,ti4,ti26,ti33,ca6,ca7,ca8,ca9,ca10,cf,Try.results3,frzL_uE,frzL_uEA,uE_take,uE_length,uEA_take,uEA_length]
      refine callK_intro (by simp only [zW,zX,zD,builtinA,isLeaf,const1,ustrA,simprocAttr,frzL_uE,frzL_uEA,Option.map_some]; rfl) (laws_toUnit σ hs _) ?_ rfl; rintro v A' ⟨rfl,rfl⟩
      simp only [zW,zX,zD,builtinA,isLeaf,const1,ustrA,simprocAttr,ti3,ti4,ti26,ti33,ca6,ca7,ca8,ca9,ca10,cf,Try.results3,frzL_uE,frzL_uEA,uE_take,uE_length,uEA_take,uEA_length]
      refine callK_intro (by simp only [zW,zX,zD,builtinA,isLeaf,const1,ustrA,simprocAttr,frzL_uE,frzL_uEA,Option.map_some]; rfl) (laws_toUnit τ ht' _) ?_ rfl; rintro v A' ⟨rfl,rfl⟩
      simp only [zW,zX,zD,builtinA,isLeaf,const1,ustrA,simprocAttr,ti3,ti4,ti26,ti33,ca6,ca7,ca8,ca9,ca10,cf,Try.results3,frzL_uE,frzL_uEA,uE_take,uE_length,uEA_take,uEA_length]
      refine callK_intro (by simp only [zW,zX,zD,builtinA,isLeaf,const1,ustrA,simprocAttr,frzL_uE,frzL_uEA,Option.map_some]; rfl) (impl_UnitSame σ τ (by omega) (by omega) _) ?_ rfl; rintro v A' ⟨rfl,rfl⟩
      simp only [zW,zX,zD,builtinA,isLeaf,const1,ustrA,simprocAttr,ti3,ti4,ti26,ti33,ca6,ca7,ca8,ca9,ca10,cf,Try.results3,frzL_uE,frzL_uEA,uE_take,uE_length,uEA_take,uEA_length]
      refine .inl ⟨by kernel_rfl,by kernel_rfl,?_⟩
      refine callD_intro (by simp only [zW,zX,zD,builtinA,isLeaf,const1,ustrA,simprocAttr,frzL_uE,frzL_uEA,Option.map_some] <;> rfl) (laws_toUnit σ hs _) ?_ rfl
      simp only [zW,zX,zD,builtinA,isLeaf,const1,ustrA,simprocAttr,ti3,ti4,ti26,ti33,ca6,ca7,ca8,ca9,ca10,cf,Try.results3,frzL_uE,frzL_uEA,uE_take,uE_length,uEA_take,uEA_length]
      refine callD_intro (by simp only [zW,zX,zD,builtinA,isLeaf,const1,ustrA,simprocAttr,frzL_uE,frzL_uEA,Option.map_some] <;> rfl) (laws_eqUnit σ hσ _) ?_ rfl
      simp only [zW,zX,zD,builtinA,isLeaf,const1,ustrA,simprocAttr,ti3,ti4,ti26,ti33,ca6,ca7,ca8,ca9,ca10,cf,Try.results3,frzL_uE,frzL_uEA,uE_take,uE_length,uEA_take,uEA_length]
      refine .inl ⟨by kernel_rfl,by kernel_rfl,?_⟩
      refine callD_intro (by simp only [zW,zX,zD,builtinA,isLeaf,const1,ustrA,simprocAttr,frzL_uE,frzL_uEA,Option.map_some] <;> rfl) (laws_toUnit τ ht' _) ?_ rfl
      simp only [zW,zX,zD,builtinA,isLeaf,const1,ustrA,simprocAttr,ti3,ti4,ti26,ti33,ca6,ca7,ca8,ca9,ca10,cf,Try.results3,frzL_uE,frzL_uEA,uE_take,uE_length,uEA_take,uEA_length]
      refine callD_intro (by simp only [zW,zX,zD,builtinA,isLeaf,const1,ustrA,simprocAttr,frzL_uE,frzL_uEA,Option.map_some] <;> rfl) (laws_eqUnit τ hτ _) ?_ rfl
      simp only [zW,zX,zD,builtinA,isLeaf,const1,ustrA,simprocAttr,ti3,ti4,ti26,ti33,ca6,ca7,ca8,ca9,ca10,cf,Try.results3,frzL_uE,frzL_uEA,uE_take,uE_length,uEA_take,uEA_length]
    · have hv2 : left (1048576 - szU σ) (szU τ) = -1:=by rw [left,if_neg (by omega)]
      rw [hv2]
      simp only [zW,zX,zD,builtinA,isLeaf,const1,ustrA,simprocAttr,ti3,ti4,ti26,ti33,ca6,ca7,ca8,ca9,ca10,cf,Try.results3]
  · have hv : left 1048576 (szU σ) = -1:=by rw [left,if_neg (by omega)]
    rw [hv]
    simp only [zW,zX,zD,builtinA,isLeaf,const1,ustrA,simprocAttr,ti3,ti4,ti26,ti33,ca6,ca7,ca8,ca9,ca10,cf,Try.results3]
theorem exactUnitSame_rec : ∀ t ∈ Try.f3.params.toList,Try.prog.readableRec t = true ∧ t < Try.prog.types.size:=by
  rw [Try.params3]
  intro t ht
  simp at ht
  subst ht
  exact ⟨by kernel_rfl,of_decide_eq_true (by kernel_rfl)⟩
set_option maxRecDepth 100000 in
theorem exactUnitSame_lifted (os : Os) (started : os.Started) (H : Type) (enc' : TypeId × Value → H) :
    ReturnsInHanded {} Try.checked os 3 .any (Rows.fnExactUnitSameSpec.pre6 enc' Try.prog Try.f3 Rows.fnExactUnitSameRow.domain false) (Rows.fnExactUnitSameSpec.post enc' Try.prog Try.f3 false true false false):=by
  refine returnsInHanded_of_change (C:=Try.checked) ownk started (by kernel_rfl) Try.func3
    (ChangeSpec.witness6 (enc:=enc') (C:=Try.checked) false ⟨#[],#[.agg #[.string .empty,.slice none 0 0,.slice none 0 0,.slice none 0 0],.agg #[.string .empty,.slice none 0 0,.slice none 0 0,.slice none 0 0]],[]⟩ 8 (by kernel_rfl) (by kernel_rfl) (by kernel_rfl) (by kernel_rfl)) ?_
  intro W base args ds gs before hval0 hW hcnd _
  have hval : ∀ (j : Nat) t v,Try.f3.params[j]? = some t → args[j]? = some v → Value.okWide Try.prog W .any base t v:=hval0
  have hW':=hW
  obtain ⟨p,q,hA0,hV,rfl,hfz,hnd⟩:=hW
  have hA : DataW.TrodAll enc' Try.prog W 0 (fun _=>true) true Try.f3.params.toList args.toList ds p:=hA0
  rw [Try.params3] at hA hval
  have hlt:=hA.lt
  obtain ⟨v0,v1,d0,d1,p0,p1,rfl,rfl,rfl,h0,h1⟩:=trodAll_two hA
  obtain ⟨rfl,rfl⟩:=trodVars_none hV
  obtain ⟨x0,hx0,r0⟩:=rv_unit (hval 0 26 v0 rfl rfl) h0
  obtain ⟨x1,hx1,r1⟩:=rv_unit (hval 1 26 v1 rfl rfl) h1
  refine (law_calls (exactUnitSame_true x0 hx0 x1 hx1) (.cons r0 (.cons r1 .nil))).mono fun e W' ⟨he,hb⟩=>?_
  subst he
  exact ⟨_,rfl,law_post laid exactUnitSame_rec rfl Try.underlying4 (by kernel_rfl) ⟨rfl,rfl⟩ rfl hW' hb⟩
theorem exactUnitSame_facts : joinedFacts Try.pinned.checked.prog 3 Try.f3 Rows.fnExactUnitSameSpec Rows.fnExactUnitSameRow = true:=by kernel_rfl
theorem exactUnitSame_holds : Rows.FnExactUnitSameSaid :=
  OpenClaim.holds_of_wide 3 Try.f3 rfl rfl rfl rfl rfl rfl rfl ⟨rfl,rfl,rfl,rfl,rfl⟩ rfl rfl rfl rfl rfl (by kernel_rfl) Try.func3 exactUnitSame_facts
    (of_decide_eq_true (by kernel_rfl)) (by unfold Func.isWrapper; first | (rw [if_pos (by decide +kernel)]; kernel_rfl) | (rw [if_neg (by decide +kernel)]; exact ⟨rfl,rfl⟩))
    (fun os started H enc' _=>exactUnitSame_lifted os started H enc')
end Go.Proofs.Ytijlnkfiadajhaa
