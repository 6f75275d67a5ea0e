/- For every two programs the program's ProgramSame answers as the model's ProgramSame does, and the arguments are not changed. No condition beside the row's own. -/
import Derived.Test.YtijlnkfiadajhaaK14
set_option linter.unusedVariables false
set_option linter.unusedSimpArgs false
namespace Go.Proofs.Ytijlnkfiadajhaa
open Go.Abs Go.RowKit Go.ChangeShapes Go.WideShapes Go.ChangeAt Go.ChangeMaps
set_option maxRecDepth 100000 in
set_option maxHeartbeats 2000000 in
theorem exactProgramSame_true (σ : PrI) (hσ : σ.Ok) (τ : PrI) (hτ : τ.Ok) : ACalls Try.prog 4 [.agg (gEA σ),.agg (gEA τ)] [] (fun v _=>v = .bool true):=by
  refine acalls_enter (cf:=cf 45 [0,1,2,3,4,5,6,7,8,9,14,19,34,39,44]) foll Try.func4 Try.ntmps4 (by simp [cf]) ?_
  simp only [Try.f4,EnterK_some,zW,zX,zD,builtinA,isLeaf,const1,ustrA,simprocAttr,ti3,ti4,ti44,ti55,ca11,ca12,ca13,ca14,ca15,cf,Try.results4]
  simp only [gEA_take]
  refine ⟨by rw [gEA_length]; omega,?_⟩
  refine callK_intro (by simp only [zW,zX,zD,builtinA,isLeaf,const1,ustrA,simprocAttr,frzL_gE,frzL_gEA,Option.map_some]; rfl) (laws_szProgram σ hσ _ _ (by omega) (by omega)) ?_ rfl; rintro v A' ⟨rfl,rfl⟩
  by_cases hs : szG σ ≤ 1048576
  · have hv : left 1048576 (szG σ) = 1048576 - szG σ:=by rw [left,if_pos (by omega)]
    have hn : decide ((1048576 : Int) - szG σ < 0) = false:=decide_eq_false (by omega)
    rw [hv]
    simp only [zW,zX,zD,builtinA,isLeaf,const1,ustrA,simprocAttr,ti3,ti4,ti44,ti55,ca11,ca12,ca13,ca14,ca15,cf,Try.results4,hn]
    simp only [gEA_take]
    refine ⟨by rw [gEA_length]; omega,?_⟩
    refine callK_intro (by simp only [zW,zX,zD,builtinA,isLeaf,const1,ustrA,simprocAttr,frzL_gE,frzL_gEA,Option.map_some]; rfl) (laws_szProgram τ hτ _ _ (by omega) (by omega)) ?_ rfl; rintro v A' ⟨rfl,rfl⟩
    by_cases ht : szG τ ≤ 1048576 - szG σ
    · have hv2 : left (1048576 - szG σ) (szG τ) = 1048576 - szG σ - szG τ:=by rw [left,if_pos (by omega)]
      have hn2 : decide ((1048576 : Int) - szG σ - szG τ < 0) = false:=decide_eq_false (by omega)
      have ht' : szG τ ≤ 1048576:=by omega
      rw [hv2]
      simp only [zW,zX,zD,builtinA,isLeaf,const1,ustrA,simprocAttr,ti3,ti4,ti44,ti55,ca11,ca12,ca13,ca14,ca15,cf,Try.results4,hn2]
      simp only [gEA_take]
      refine .inl ⟨by kernel_rfl,by kernel_rfl,by rw [gEA_length]; omega,?_⟩
      refine callD_intro (by simp only [zW,zX,zD,builtinA,isLeaf,const1,ustrA,simprocAttr,frzL_gE,frzL_gEA,Option.map_some] <;> rfl) (laws_toProgram σ hs _) ?_ rfl
      simp only [zW,zX,zD,builtinA,isLeaf,const1,ustrA,simprocAttr,ti3,ti4,ti44,ti55,ca11,ca12,ca13,ca14,ca15,cf,Try.results4,frzL_gE,frzL_gEA,gE_take,gE_length,gEA_take,gEA_length]
      refine callD_intro (by simp only [zW,zX,zD,builtinA,isLeaf,const1,ustrA,simprocAttr,frzL_gE,frzL_gEA,Option.map_some] <;> rfl) (laws_toProgram τ ht' _) ?_ rfl
      simp only [zW,zX,zD,builtinA,isLeaf,const1,ustrA,simprocAttr,ti3,ti4,ti44,ti55,ca11,ca12,ca13,ca14,ca15,cf,Try.results4,frzL_gE,frzL_gEA,gE_take,gE_length,gEA_take,gEA_length]
      refine callD_intro (by simp only [zW,zX,zD,builtinA,isLeaf,const1,ustrA,simprocAttr,frzL_gE,frzL_gEA,Option.map_some] <;> rfl) (spec_ProgramSame σ τ hσ hs _) ?_ rfl
      simp only [zW,zX,zD,builtinA,isLeaf,const1,ustrA,simprocAttr,ti3,ti4,ti44,ti55,ca11,ca12,ca13,ca14,ca15,cf,Try.results4,frzL_gE,frzL_gEA,gE_take,gE_length,gEA_take,gEA_length]
      refine callK_intro (by simp only [zW,zX,zD,builtinA,isLeaf,const1,ustrA,simprocAttr,frzL_gE,frzL_gEA,Option.map_some]; rfl) (laws_toProgram σ hs _) ?_ rfl; rintro v A' ⟨rfl,rfl⟩
      simp only [zW,zX,zD,builtinA,isLeaf,const1,ustrA,simprocAttr,ti3,ti4,ti44,ti55,ca11,ca12,ca13,ca14,ca15,cf,Try.results4,frzL_gE,frzL_gEA,gE_take,gE_length,gEA_take,gEA_length]
      refine callK_intro (by simp only [zW,zX,zD,builtinA,isLeaf,const1,ustrA,simprocAttr,frzL_gE,frzL_gEA,Option.map_some]; rfl) (laws_toProgram τ ht' _) ?_ rfl; rintro v A' ⟨rfl,rfl⟩
      simp only [zW,zX,zD,builtinA,isLeaf,const1,ustrA,simprocAttr,ti3,ti4,ti44,ti55,ca11,ca12,ca13,ca14,ca15,cf,Try.results4,frzL_gE,frzL_gEA,gE_take,gE_length,gEA_take,gEA_length]
      refine callK_intro (by simp only [zW,zX,zD,builtinA,isLeaf,const1,ustrA,simprocAttr,frzL_gE,frzL_gEA,Option.map_some]; rfl) (impl_ProgramSame σ τ (by omega) (by omega) _) ?_ rfl; rintro v A' ⟨rfl,rfl⟩
      simp only [zW,zX,zD,builtinA,isLeaf,const1,ustrA,simprocAttr,ti3,ti4,ti44,ti55,ca11,ca12,ca13,ca14,ca15,cf,Try.results4,frzL_gE,frzL_gEA,gE_take,gE_length,gEA_take,gEA_length]
      refine .inl ⟨by kernel_rfl,by kernel_rfl,?_⟩
      refine callD_intro (by simp only [zW,zX,zD,builtinA,isLeaf,const1,ustrA,simprocAttr,frzL_gE,frzL_gEA,Option.map_some] <;> rfl) (laws_toProgram σ hs _) ?_ rfl
      simp only [zW,zX,zD,builtinA,isLeaf,const1,ustrA,simprocAttr,ti3,ti4,ti44,ti55,ca11,ca12,ca13,ca14,ca15,cf,Try.results4,frzL_gE,frzL_gEA,gE_take,gE_length,gEA_take,gEA_length]
      refine callD_intro (by simp only [zW,zX,zD,builtinA,isLeaf,const1,ustrA,simprocAttr,frzL_gE,frzL_gEA,Option.map_some] <;> rfl) (laws_eqProgram σ hσ _) ?_ rfl
      simp only [zW,zX,zD,builtinA,isLeaf,const1,ustrA,simprocAttr,ti3,ti4,ti44,ti55,ca11,ca12,ca13,ca14,ca15,cf,Try.results4,frzL_gE,frzL_gEA,gE_take,gE_length,gEA_take,gEA_length]
      refine .inl ⟨by kernel_rfl,by kernel_rfl,?_⟩
      refine callD_intro (by simp only [zW,zX,zD,builtinA,isLeaf,const1,ustrA,simprocAttr,frzL_gE,frzL_gEA,Option.map_some] <;> rfl) (laws_toProgram τ ht' _) ?_ rfl
      simp only [zW,zX,zD,builtinA,isLeaf,const1,ustrA,simprocAttr,ti3,ti4,ti44,ti55,ca11,ca12,ca13,ca14,ca15,cf,Try.results4,frzL_gE,frzL_gEA,gE_take,gE_length,gEA_take,gEA_length]
      refine callD_intro (by simp only [zW,zX,zD,builtinA,isLeaf,const1,ustrA,simprocAttr,frzL_gE,frzL_gEA,Option.map_some] <;> rfl) (laws_eqProgram τ hτ _) ?_ rfl
      simp only [zW,zX,zD,builtinA,isLeaf,const1,ustrA,simprocAttr,ti3,ti4,ti44,ti55,ca11,ca12,ca13,ca14,ca15,cf,Try.results4,frzL_gE,frzL_gEA,gE_take,gE_length,gEA_take,gEA_length]
    · have hv2 : left (1048576 - szG σ) (szG τ) = -1:=by rw [left,if_neg (by omega)]
      rw [hv2]
      simp only [zW,zX,zD,builtinA,isLeaf,const1,ustrA,simprocAttr,ti3,ti4,ti44,ti55,ca11,ca12,ca13,ca14,ca15,cf,Try.results4]
  · have hv : left 1048576 (szG σ) = -1:=by rw [left,if_neg (by omega)]
    rw [hv]
    simp only [zW,zX,zD,builtinA,isLeaf,const1,ustrA,simprocAttr,ti3,ti4,ti44,ti55,ca11,ca12,ca13,ca14,ca15,cf,Try.results4]
theorem exactProgramSame_rec : ∀ t ∈ Try.f4.params.toList,Try.prog.readableRec t = true ∧ t < Try.prog.types.size:=by
  rw [Try.params4]
  intro t ht
  simp at ht
  subst ht
  exact ⟨by kernel_rfl,of_decide_eq_true (by kernel_rfl)⟩
set_option maxRecDepth 100000 in
theorem exactProgramSame_lifted (os : Os) (started : os.Started) (H : Type) (enc' : TypeId × Value → H) :
    ReturnsInHanded {} Try.checked os 4 .any (Rows.fnExactProgramSameSpec.pre6 enc' Try.prog Try.f4 Rows.fnExactProgramSameRow.domain false) (Rows.fnExactProgramSameSpec.post enc' Try.prog Try.f4 false true false false):=by
  refine returnsInHanded_of_change (C:=Try.checked) ownk started (by kernel_rfl) Try.func4
    (ChangeSpec.witness6 (enc:=enc') (C:=Try.checked) false ⟨#[],#[.agg #[.slice none 0 0,.int .i64 0,.int .i64 0,.string .empty,.string .empty,.int .i64 0,.string .empty,.string .empty,.slice none 0 0,.slice none 0 0],.agg #[.slice none 0 0,.int .i64 0,.int .i64 0,.string .empty,.string .empty,.int .i64 0,.string .empty,.string .empty,.slice none 0 0,.slice none 0 0]],[]⟩ 8 (by kernel_rfl) (by kernel_rfl) (by kernel_rfl) (by kernel_rfl)) ?_
  intro W base args ds gs before hval0 hW hcnd _
  have hval : ∀ (j : Nat) t v,Try.f4.params[j]? = some t → args[j]? = some v → Value.okWide Try.prog W .any base t v:=hval0
  have hW':=hW
  obtain ⟨p,q,hA0,hV,rfl,hfz,hnd⟩:=hW
  have hA : DataW.TrodAll enc' Try.prog W 0 (fun _=>true) true Try.f4.params.toList args.toList ds p:=hA0
  rw [Try.params4] at hA hval
  have hlt:=hA.lt
  obtain ⟨v0,v1,d0,d1,p0,p1,rfl,rfl,rfl,h0,h1⟩:=trodAll_two hA
  obtain ⟨rfl,rfl⟩:=trodVars_none hV
  obtain ⟨x0,hx0,r0⟩:=rv_prog (hval 0 44 v0 rfl rfl) h0
  obtain ⟨x1,hx1,r1⟩:=rv_prog (hval 1 44 v1 rfl rfl) h1
  refine (law_calls (exactProgramSame_true x0 hx0 x1 hx1) (.cons r0 (.cons r1 .nil))).mono fun e W' ⟨he,hb⟩=>?_
  subst he
  exact ⟨_,rfl,law_post laid exactProgramSame_rec rfl Try.underlying4 (by kernel_rfl) ⟨rfl,rfl⟩ rfl hW' hb⟩
theorem exactProgramSame_facts : joinedFacts Try.pinned.checked.prog 4 Try.f4 Rows.fnExactProgramSameSpec Rows.fnExactProgramSameRow = true:=by kernel_rfl
theorem exactProgramSame_holds : Rows.FnExactProgramSameSaid :=
  OpenClaim.holds_of_wide 4 Try.f4 rfl rfl rfl rfl rfl rfl rfl ⟨rfl,rfl,rfl,rfl,rfl⟩ rfl rfl rfl rfl rfl (by kernel_rfl) Try.func4 exactProgramSame_facts
    (of_decide_eq_true (by kernel_rfl)) (by unfold Func.isWrapper; first | (rw [if_pos (by decide +kernel)]; kernel_rfl) | (rw [if_neg (by decide +kernel)]; exact ⟨rfl,rfl⟩))
    (fun os started H enc' _=>exactProgramSame_lifted os started H enc')
end Go.Proofs.Ytijlnkfiadajhaa
