/- For every two programs the program's SameNames answers as the model's SameNames does, and the arguments are not changed. No condition beside the row's own. -/
import Derived.Test.YtnjdbgiincliaaaGreatK19
set_option linter.unusedVariables false
set_option linter.unusedSimpArgs false
namespace Go.Proofs.YtnjdbgiincliaaaGreat
open Go.Abs Go.RowKit Go.ChangeShapes Go.WideShapes Go.ChangeAt Go.ChangeMaps
set_option maxRecDepth 100000 in
set_option maxHeartbeats 2000000 in
theorem sn_true (σ : PrI) (hσ : σ.Ok) (τ : PrI) (hτ : τ.Ok) : ACalls Tryz.prog 4 [.agg (gEA σ),.agg (gEA τ)] [] (fun v _=>v = .bool true):=by
  refine acalls_enter (cf:=cf 45 [0,1,2,3,4,5,6,7,8,9,14,19,34,39,44]) foll Tryz.func4 Tryz.ntmps4 (by simp [cf]) ?_
  simp only [Tryz.f4,EnterK_some,zW,zX,zD,builtinA,isLeaf,const1,ustrA,simprocAttr,ti3,ti4,ti30,ti41,ca15,ca17,ca19,ca20,ca21,cf,Tryz.results4]
  simp only [gEA_take]
  refine ⟨by rw [gEA_length]; omega,?_⟩
  refine callK_intro (by simp only [zW,zX,zD,builtinA,isLeaf,const1,ustrA,simprocAttr,frzL_gE,frzL_gEA,Option.map_some]; rfl) (laws_szProgram σ hσ _ _ (by omega) (by omega)) ?_ rfl; rintro v A' ⟨rfl,rfl⟩
  by_cases hs : szG σ ≤ 1048576
  · have hv : left 1048576 (szG σ) = 1048576 - szG σ:=by rw [left,if_pos (by omega)]
    have hn : decide ((1048576 : Int) - szG σ < 0) = false:=decide_eq_false (by omega)
    rw [hv]
    simp only [zW,zX,zD,builtinA,isLeaf,const1,ustrA,simprocAttr,ti3,ti4,ti30,ti41,ca15,ca17,ca19,ca20,ca21,cf,Tryz.results4,hn]
    simp only [gEA_take]
    refine ⟨by rw [gEA_length]; omega,?_⟩
    refine callK_intro (by simp only [zW,zX,zD,builtinA,isLeaf,const1,ustrA,simprocAttr,frzL_gE,frzL_gEA,Option.map_some]; rfl) (laws_szProgram τ hτ _ _ (by omega) (by omega)) ?_ rfl; rintro v A' ⟨rfl,rfl⟩
    by_cases ht : szG τ ≤ 1048576 - szG σ
    · have hv2 : left (1048576 - szG σ) (szG τ) = 1048576 - szG σ - szG τ:=by rw [left,if_pos (by omega)]
      have hn2 : decide ((1048576 : Int) - szG σ - szG τ < 0) = false:=decide_eq_false (by omega)
      have ht' : szG τ ≤ 1048576:=by omega
      have hb1:=prBig hσ hs
      have hb2:=prBig hτ ht'
      rw [hv2]
      simp only [zW,zX,zD,builtinA,isLeaf,const1,ustrA,simprocAttr,ti3,ti4,ti30,ti41,ca15,ca17,ca19,ca20,ca21,cf,Tryz.results4,hn2]
      simp only [gEA_take]
      refine .inl ⟨by kernel_rfl,by kernel_rfl,by rw [gEA_length]; omega,?_⟩
      refine callD_intro (by simp only [zW,zX,zD,builtinA,isLeaf,const1,ustrA,simprocAttr,frzL_gE,frzL_gEA,Option.map_some] <;> rfl) (laws_toProgram σ hs _) ?_ rfl
      simp only [zW,zX,zD,builtinA,isLeaf,const1,ustrA,simprocAttr,ti3,ti4,ti30,ti41,ca15,ca17,ca19,ca20,ca21,cf,Tryz.results4,gEA_take,gEA_length,gE_take,gE_length]
      refine callD_intro (by simp only [zW,zX,zD,builtinA,isLeaf,const1,ustrA,simprocAttr,frzL_gE,frzL_gEA,Option.map_some] <;> rfl) (laws_toProgram τ ht' _) ?_ rfl
      simp only [zW,zX,zD,builtinA,isLeaf,const1,ustrA,simprocAttr,ti3,ti4,ti30,ti41,ca15,ca17,ca19,ca20,ca21,cf,Tryz.results4,gEA_take,gEA_length,gE_take,gE_length]
      refine callD_intro (by simp only [zW,zX,zD,builtinA,isLeaf,const1,ustrA,simprocAttr,frzL_gE,frzL_gEA,Option.map_some] <;> rfl) (spec_SameNames σ τ hb1 hb2 _) ?_ rfl
      simp only [zW,zX,zD,builtinA,isLeaf,const1,ustrA,simprocAttr,ti3,ti4,ti30,ti41,ca15,ca17,ca19,ca20,ca21,cf,Tryz.results4,gEA_take,gEA_length,gE_take,gE_length]
      refine callK_intro (by simp only [zW,zX,zD,builtinA,isLeaf,const1,ustrA,simprocAttr,frzL_gE,frzL_gEA,Option.map_some]; rfl) (laws_toProgram σ hs _) ?_ rfl; rintro v A' ⟨rfl,rfl⟩
      simp only [zW,zX,zD,builtinA,isLeaf,const1,ustrA,simprocAttr,ti3,ti4,ti30,ti41,ca15,ca17,ca19,ca20,ca21,cf,Tryz.results4,gEA_take,gEA_length,gE_take,gE_length]
      refine callK_intro (by simp only [zW,zX,zD,builtinA,isLeaf,const1,ustrA,simprocAttr,frzL_gE,frzL_gEA,Option.map_some]; rfl) (laws_toProgram τ ht' _) ?_ rfl; rintro v A' ⟨rfl,rfl⟩
      simp only [zW,zX,zD,builtinA,isLeaf,const1,ustrA,simprocAttr,ti3,ti4,ti30,ti41,ca15,ca17,ca19,ca20,ca21,cf,Tryz.results4,gEA_take,gEA_length,gE_take,gE_length]
      refine callK_intro (by simp only [zW,zX,zD,builtinA,isLeaf,const1,ustrA,simprocAttr,frzL_gE,frzL_gEA,Option.map_some]; rfl) (impl_SameNames σ τ hb1 hb2 _) ?_ rfl; rintro v A' ⟨rfl,rfl⟩
      simp only [zW,zX,zD,builtinA,isLeaf,const1,ustrA,simprocAttr,ti3,ti4,ti30,ti41,ca15,ca17,ca19,ca20,ca21,cf,Tryz.results4,gEA_take,gEA_length,gE_take,gE_length]
      refine .inl ⟨by kernel_rfl,by kernel_rfl,?_⟩
      refine callD_intro (by simp only [zW,zX,zD,builtinA,isLeaf,const1,ustrA,simprocAttr,frzL_gE,frzL_gEA,Option.map_some] <;> rfl) (laws_toProgram σ hs _) ?_ rfl
      simp only [zW,zX,zD,builtinA,isLeaf,const1,ustrA,simprocAttr,ti3,ti4,ti30,ti41,ca15,ca17,ca19,ca20,ca21,cf,Tryz.results4,gEA_take,gEA_length,gE_take,gE_length]
      refine callD_intro (by simp only [zW,zX,zD,builtinA,isLeaf,const1,ustrA,simprocAttr,frzL_gE,frzL_gEA,Option.map_some] <;> rfl) (laws_eqProgram σ hσ _) ?_ rfl
      simp only [zW,zX,zD,builtinA,isLeaf,const1,ustrA,simprocAttr,ti3,ti4,ti30,ti41,ca15,ca17,ca19,ca20,ca21,cf,Tryz.results4,gEA_take,gEA_length,gE_take,gE_length]
      refine .inl ⟨by kernel_rfl,by kernel_rfl,?_⟩
      refine callD_intro (by simp only [zW,zX,zD,builtinA,isLeaf,const1,ustrA,simprocAttr,frzL_gE,frzL_gEA,Option.map_some] <;> rfl) (laws_toProgram τ ht' _) ?_ rfl
      simp only [zW,zX,zD,builtinA,isLeaf,const1,ustrA,simprocAttr,ti3,ti4,ti30,ti41,ca15,ca17,ca19,ca20,ca21,cf,Tryz.results4,gEA_take,gEA_length,gE_take,gE_length]
      refine callD_intro (by simp only [zW,zX,zD,builtinA,isLeaf,const1,ustrA,simprocAttr,frzL_gE,frzL_gEA,Option.map_some] <;> rfl) (laws_eqProgram τ hτ _) ?_ rfl
      simp only [zW,zX,zD,builtinA,isLeaf,const1,ustrA,simprocAttr,ti3,ti4,ti30,ti41,ca15,ca17,ca19,ca20,ca21,cf,Tryz.results4,gEA_take,gEA_length,gE_take,gE_length]
    · have hv2 : left (1048576 - szG σ) (szG τ) = -1:=by rw [left,if_neg (by omega)]
      rw [hv2]
      simp only [zW,zX,zD,builtinA,isLeaf,const1,ustrA,simprocAttr,ti3,ti4,ti30,ti41,ca15,ca17,ca19,ca20,ca21,cf,Tryz.results4]
  · have hv : left 1048576 (szG σ) = -1:=by rw [left,if_neg (by omega)]
    rw [hv]
    simp only [zW,zX,zD,builtinA,isLeaf,const1,ustrA,simprocAttr,ti3,ti4,ti30,ti41,ca15,ca17,ca19,ca20,ca21,cf,Tryz.results4]
theorem sn_rec : ∀ t ∈ Tryz.f4.params.toList,Tryz.prog.readableRec t = true ∧ t < Tryz.prog.types.size:=by
  rw [Tryz.params4]
  intro t ht
  simp at ht
  subst ht
  exact ⟨by kernel_rfl,of_decide_eq_true (by kernel_rfl)⟩
set_option maxRecDepth 100000 in
theorem sn_lifted (os : Os) (started : os.Started) (H : Type) (enc' : TypeId × Value → H) :
    ReturnsInHanded {} Tryz.checked os 4 .any (Rows.fnExactSameNamesSpec.pre6 enc' Tryz.prog Tryz.f4 Rows.fnExactSameNamesRow.domain false) (Rows.fnExactSameNamesSpec.post enc' Tryz.prog Tryz.f4 false true false false):=by
  refine returnsInHanded_of_change (C:=Tryz.checked) ownk started (by kernel_rfl) Tryz.func4
    (ChangeSpec.witness6 (enc:=enc') (C:=Tryz.checked) false ⟨#[],#[.agg #[.slice none 0 0,.int .i64 0,.int .i64 0,.string .empty,.string .empty,.int .i64 0,.string .empty,.string .empty,.slice none 0 0,.slice none 0 0],.agg #[.slice none 0 0,.int .i64 0,.int .i64 0,.string .empty,.string .empty,.int .i64 0,.string .empty,.string .empty,.slice none 0 0,.slice none 0 0]],[]⟩ 8 (by kernel_rfl) (by kernel_rfl) (by kernel_rfl) (by kernel_rfl)) ?_
  intro W base args ds gs before hval0 hW hcnd _
  have hval : ∀ (j : Nat) t v,Tryz.f4.params[j]? = some t → args[j]? = some v → Value.okWide Tryz.prog W .any base t v:=hval0
  have hW':=hW
  obtain ⟨p,q,hA0,hV,rfl,hfz,hnd⟩:=hW
  have hA : DataW.TrodAll enc' Tryz.prog W 0 (fun _=>true) true Tryz.f4.params.toList args.toList ds p:=hA0
  rw [Tryz.params4] at hA hval
  have hlt:=hA.lt
  obtain ⟨v0,v1,d0,d1,p0,p1,rfl,rfl,rfl,h0,h1⟩:=trodAll_two hA
  obtain ⟨rfl,rfl⟩:=trodVars_none hV
  obtain ⟨x0,hx0,r0⟩:=rv_prog (hval 0 30 v0 rfl rfl) h0
  obtain ⟨x1,hx1,r1⟩:=rv_prog (hval 1 30 v1 rfl rfl) h1
  refine (law_calls (sn_true x0 hx0 x1 hx1) (.cons r0 (.cons r1 .nil))).mono fun e W' ⟨he,hb⟩=>?_
  subst he
  exact ⟨_,rfl,law_post laid sn_rec rfl Tryz.underlying4 (by kernel_rfl) ⟨rfl,rfl⟩ rfl hW' hb⟩
theorem sn_f9 : (Rows.fnExactSameNamesRow.inPlace == Tryz.pinned.checked.prog.inPlace 4) = true:=by kernel_rfl
theorem sn_f10 : (Rows.fnExactSameNamesRow.unfollowed == Tryz.pinned.checked.prog.unfollowed 4) = true:=by kernel_rfl
theorem sn_f11 : (Rows.fnExactSameNamesRow.recurses == Tryz.pinned.checked.prog.recurses 4) = true:=by kernel_rfl
theorem sn_f12 : (Rows.fnExactSameNamesRow.named == Tryz.pinned.checked.prog.varsNamed 4) = true:=by kernel_rfl
theorem sn_f16 : (Rows.fnExactSameNamesRow.loops == (Tryz.f4.params.toList ++ Rows.fnExactSameNamesSpec.plain.varTypes Tryz.pinned.checked.prog).any (Tryz.pinned.checked.prog.loopsFrom ·)) = true:=by kernel_rfl
theorem sn_f17 : (Rows.fnExactSameNamesRow.wideKeys == (Tryz.f4.params.toList ++ Rows.fnExactSameNamesSpec.plain.varTypes Tryz.pinned.checked.prog ++ Tryz.f4.resultTypes.toList).any (Tryz.pinned.checked.prog.wideKeysFrom ·)) = true:=by kernel_rfl
theorem sn_f22 : (Rows.fnExactSameNamesRow.plainKeys == Tryz.pinned.checked.prog.plainKeys) = true:=by kernel_rfl
theorem sn_f26 : (Rows.fnExactSameNamesRow.lifted == Tryz.pinned.checked.prog.liftsFinal) = true:=by kernel_rfl
theorem sn_f27 : (Tryz.pinned.checked.prog.make == some Rows.fnExactSameNamesRow.make) = true:=by kernel_rfl
theorem sn_facts : joinedFacts Tryz.pinned.checked.prog 4 Tryz.f4 Rows.fnExactSameNamesSpec Rows.fnExactSameNamesRow = true :=
  jf_of (by kernel_rfl) jp1 jp2 (by kernel_rfl) (by kernel_rfl) (by kernel_rfl) jp6 (by kernel_rfl) jp8 sn_f9 sn_f10 sn_f11 sn_f12 (by kernel_rfl) (by kernel_rfl) (by kernel_rfl) sn_f16 sn_f17 (by kernel_rfl) (by kernel_rfl) (by kernel_rfl) (by kernel_rfl) sn_f22 (by kernel_rfl) jp24 jp25 sn_f26 sn_f27 (by kernel_rfl) (by kernel_rfl) (by kernel_rfl) (by kernel_rfl)
theorem sn_holds : Rows.FnExactSameNamesSaid :=
  OpenClaim.holds_of_wide 4 Tryz.f4 rfl rfl rfl rfl rfl rfl rfl ⟨rfl,rfl,rfl,rfl,rfl⟩ rfl rfl rfl rfl rfl (by kernel_rfl) Tryz.func4 sn_facts
    (of_decide_eq_true (by kernel_rfl)) (by unfold Func.isWrapper; first | (rw [if_pos (by decide +kernel)]; kernel_rfl) | (rw [if_neg (by decide +kernel)]; exact ⟨rfl,rfl⟩))
    (fun os started H enc' _=>sn_lifted os started H enc')
end Go.Proofs.YtnjdbgiincliaaaGreat
