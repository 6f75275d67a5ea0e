/- For every program, however deep, the program's ProgramValid answers as the model's ProgramValid does; nothing that the call was given is changed. No condition beside the row's own. -/
import Derived.Test.YtnjdbgiincliaaaGreatK19
set_option linter.unusedVariables false
set_option linter.unusedSimpArgs false
namespace Go.Proofs.YtnjdbgiincliaaaGreat
open Go.Abs Go.RowKit Go.ChangeShapes Go.WideShapes Go.ChangeAt Go.ChangeMaps
set_option maxRecDepth 100000 in
theorem exactProgramValid_true (σ : PrI) (hσ : σ.Ok) : ACalls Tryz.prog 3 [.agg (gEA σ)] [] (fun v _=>v = .bool true):=by
  refine acalls_enter (cf:=cf 27 [0,1,2,3,4,5,6,11,21,26]) foll Tryz.func3 Tryz.ntmps3 (by simp [cf]) ?_
  simp only [Tryz.f3,EnterK_some,zW,zX,zD,builtinA,isLeaf,const1,ustrA,simprocAttr,ti3,ti4,ti30,ti41,ca15,ca16,ca17,ca18,ca19,cf,Tryz.results3]
  simp only [gEA_take]
  refine ⟨by rw [gEA_length]; omega,?_⟩
  refine callK_intro (by simp only [zW,zX,zD,builtinA,isLeaf,const1,ustrA,simprocAttr,frzL_gE,frzL_gEA,Option.map_some]; rfl) (laws_szProgram σ hσ _ _ (by omega) (by omega)) ?_ rfl; rintro v A' ⟨rfl,rfl⟩
  by_cases hs : szG σ ≤ 1048576
  · have hv : left 1048576 (szG σ) = 1048576 - szG σ:=by rw [left,if_pos (by omega)]
    have hn : decide ((1048576 : Int) - szG σ < 0) = false:=decide_eq_false (by omega)
    have hb:=prBig hσ hs
    rw [hv]
    simp only [zW,zX,zD,builtinA,isLeaf,const1,ustrA,simprocAttr,ti3,ti4,ti30,ti41,ca15,ca16,ca17,ca18,ca19,cf,Tryz.results3,hn,gEA_length,gEA_take]
    refine callK_intro (by simp only [zW,zX,zD,builtinA,isLeaf,const1,ustrA,simprocAttr,frzL_gE,frzL_gEA,Option.map_some]; rfl) (laws_toProgram σ hs _) ?_ rfl; rintro v A' ⟨rfl,rfl⟩
    simp only [zW,zX,zD,builtinA,isLeaf,const1,ustrA,simprocAttr,ti3,ti4,ti30,ti41,ca15,ca16,ca17,ca18,ca19,cf,Tryz.results3,frzL_gE,frzL_gEA,gE_take,gE_length,gEA_take,gEA_length]
    refine callK_intro (by simp only [zW,zX,zD,builtinA,isLeaf,const1,ustrA,simprocAttr,frzL_gE,frzL_gEA,Option.map_some]; rfl) (spec_ProgramValid σ hb _) ?_ rfl; rintro v A' ⟨rfl,rfl⟩
    simp only [zW,zX,zD,builtinA,isLeaf,const1,ustrA,simprocAttr,ti3,ti4,ti30,ti41,ca15,ca16,ca17,ca18,ca19,cf,Tryz.results3,frzL_gE,frzL_gEA,gE_take,gE_length,gEA_take,gEA_length]
    refine callK_intro (by simp only [zW,zX,zD,builtinA,isLeaf,const1,ustrA,simprocAttr,frzL_gE,frzL_gEA,Option.map_some]; rfl) (laws_toProgram σ hs _) ?_ rfl; rintro v A' ⟨rfl,rfl⟩
    simp only [zW,zX,zD,builtinA,isLeaf,const1,ustrA,simprocAttr,ti3,ti4,ti30,ti41,ca15,ca16,ca17,ca18,ca19,cf,Tryz.results3,frzL_gE,frzL_gEA,gE_take,gE_length,gEA_take,gEA_length]
    refine callK_intro (by simp only [zW,zX,zD,builtinA,isLeaf,const1,ustrA,simprocAttr,frzL_gE,frzL_gEA,Option.map_some]; rfl) (impl_ProgramValid σ hb _) ?_ rfl; rintro v A' ⟨rfl,rfl⟩
    simp only [zW,zX,zD,builtinA,isLeaf,const1,ustrA,simprocAttr,ti3,ti4,ti30,ti41,ca15,ca16,ca17,ca18,ca19,cf,Tryz.results3,frzL_gE,frzL_gEA,gE_take,gE_length,gEA_take,gEA_length]
    refine .inl ⟨by kernel_rfl,by kernel_rfl,?_⟩
    refine callD_intro (by simp only [zW,zX,zD,builtinA,isLeaf,const1,ustrA,simprocAttr,frzL_gE,frzL_gEA,Option.map_some] <;> rfl) (laws_toProgram σ hs _) ?_ rfl
    simp only [zW,zX,zD,builtinA,isLeaf,const1,ustrA,simprocAttr,ti3,ti4,ti30,ti41,ca15,ca16,ca17,ca18,ca19,cf,Tryz.results3,frzL_gE,frzL_gEA,gE_take,gE_length,gEA_take,gEA_length]
    refine callD_intro (by simp only [zW,zX,zD,builtinA,isLeaf,const1,ustrA,simprocAttr,frzL_gE,frzL_gEA,Option.map_some] <;> rfl) (laws_eqProgram σ hσ _) ?_ rfl
    simp only [zW,zX,zD,builtinA,isLeaf,const1,ustrA,simprocAttr,ti3,ti4,ti30,ti41,ca15,ca16,ca17,ca18,ca19,cf,Tryz.results3,frzL_gE,frzL_gEA,gE_take,gE_length,gEA_take,gEA_length]
  · have hv : left 1048576 (szG σ) = -1:=by rw [left,if_neg (by omega)]
    rw [hv]
    simp only [zW,zX,zD,builtinA,isLeaf,const1,ustrA,simprocAttr,ti3,ti4,ti30,ti41,ca15,ca16,ca17,ca18,ca19,cf,Tryz.results3]
theorem exactProgramValid_rec : ∀ t ∈ Tryz.f3.params.toList,Tryz.prog.readableRec t = true ∧ t < Tryz.prog.types.size:=by
  rw [Tryz.params3]
  intro t ht
  simp at ht
  subst ht
  exact ⟨by kernel_rfl,of_decide_eq_true (by kernel_rfl)⟩
set_option maxRecDepth 100000 in
theorem exactProgramValid_lifted (os : Os) (started : os.Started) (H : Type) (enc' : TypeId × Value → H) :
    ReturnsInHanded {} Tryz.checked os 3 .any (Rows.fnExactProgramValidSpec.pre6 enc' Tryz.prog Tryz.f3 Rows.fnExactProgramValidRow.domain false) (Rows.fnExactProgramValidSpec.post enc' Tryz.prog Tryz.f3 false true false false):=by
  refine returnsInHanded_of_change (C:=Tryz.checked) ownk started (by kernel_rfl) Tryz.func3
    (ChangeSpec.witness6 (enc:=enc') (C:=Tryz.checked) false ⟨#[],#[.agg #[.slice none 0 0,.int .i64 0,.int .i64 0,.string .empty,.string .empty,.int .i64 0,.string .empty,.string .empty,.slice none 0 0,.slice none 0 0]],[]⟩ 8 (by kernel_rfl) (by kernel_rfl) (by kernel_rfl) (by kernel_rfl)) ?_
  intro W base args ds gs before hval0 hW hcnd _
  have hval : ∀ (j : Nat) t v,Tryz.f3.params[j]? = some t → args[j]? = some v → Value.okWide Tryz.prog W .any base t v:=hval0
  have hW':=hW
  obtain ⟨p,q,hA0,hV,rfl,hfz,hnd⟩:=hW
  have hA : DataW.TrodAll enc' Tryz.prog W 0 (fun _=>true) true Tryz.f3.params.toList args.toList ds p:=hA0
  rw [Tryz.params3] at hA hval
  have hlt:=hA.lt
  obtain ⟨v0,d0,rfl,rfl,h0⟩:=trodAll_one hA
  obtain ⟨rfl,rfl⟩:=trodVars_none hV
  obtain ⟨x0,hx0,r0⟩:=rv_prog (hval 0 30 v0 rfl rfl) h0
  refine (law_calls (exactProgramValid_true x0 hx0) (.cons r0 .nil)).mono fun e W' ⟨he,hb⟩=>?_
  subst he
  exact ⟨_,rfl,law_post laid exactProgramValid_rec rfl Tryz.underlying4 (by kernel_rfl) ⟨rfl,rfl⟩ rfl hW' hb⟩
theorem exactProgramValid_f9 : (Rows.fnExactProgramValidRow.inPlace == Tryz.pinned.checked.prog.inPlace 3) = true:=by kernel_rfl
theorem exactProgramValid_f10 : (Rows.fnExactProgramValidRow.unfollowed == Tryz.pinned.checked.prog.unfollowed 3) = true:=by kernel_rfl
theorem exactProgramValid_f11 : (Rows.fnExactProgramValidRow.recurses == Tryz.pinned.checked.prog.recurses 3) = true:=by kernel_rfl
theorem exactProgramValid_f12 : (Rows.fnExactProgramValidRow.named == Tryz.pinned.checked.prog.varsNamed 3) = true:=by kernel_rfl
theorem exactProgramValid_f16 : (Rows.fnExactProgramValidRow.loops == (Tryz.f3.params.toList ++ Rows.fnExactProgramValidSpec.plain.varTypes Tryz.pinned.checked.prog).any (Tryz.pinned.checked.prog.loopsFrom ·)) = true:=by kernel_rfl
theorem exactProgramValid_f17 : (Rows.fnExactProgramValidRow.wideKeys == (Tryz.f3.params.toList ++ Rows.fnExactProgramValidSpec.plain.varTypes Tryz.pinned.checked.prog ++ Tryz.f3.resultTypes.toList).any (Tryz.pinned.checked.prog.wideKeysFrom ·)) = true:=by kernel_rfl
theorem exactProgramValid_f22 : (Rows.fnExactProgramValidRow.plainKeys == Tryz.pinned.checked.prog.plainKeys) = true:=by kernel_rfl
theorem exactProgramValid_f26 : (Rows.fnExactProgramValidRow.lifted == Tryz.pinned.checked.prog.liftsFinal) = true:=by kernel_rfl
theorem exactProgramValid_f27 : (Tryz.pinned.checked.prog.make == some Rows.fnExactProgramValidRow.make) = true:=by kernel_rfl
theorem exactProgramValid_facts : joinedFacts Tryz.pinned.checked.prog 3 Tryz.f3 Rows.fnExactProgramValidSpec Rows.fnExactProgramValidRow = true :=
  jf_of (by kernel_rfl) jp1 jp2 (by kernel_rfl) (by kernel_rfl) (by kernel_rfl) jp6 (by kernel_rfl) jp8 exactProgramValid_f9 exactProgramValid_f10 exactProgramValid_f11 exactProgramValid_f12 (by kernel_rfl) (by kernel_rfl) (by kernel_rfl) exactProgramValid_f16 exactProgramValid_f17 (by kernel_rfl) (by kernel_rfl) (by kernel_rfl) (by kernel_rfl) exactProgramValid_f22 (by kernel_rfl) jp24 jp25 exactProgramValid_f26 exactProgramValid_f27 (by kernel_rfl) (by kernel_rfl) (by kernel_rfl) (by kernel_rfl)
theorem exactProgramValid_holds : Rows.FnExactProgramValidSaid :=
  OpenClaim.holds_of_wide 3 Tryz.f3 rfl rfl rfl rfl rfl rfl rfl ⟨rfl,rfl,rfl,rfl,rfl⟩ rfl rfl rfl rfl rfl (by kernel_rfl) Tryz.func3 exactProgramValid_facts
    (of_decide_eq_true (by kernel_rfl)) (by unfold Func.isWrapper; first | (rw [if_pos (by decide +kernel)]; kernel_rfl) | (rw [if_neg (by decide +kernel)]; exact ⟨rfl,rfl⟩))
    (fun os started H enc' _=>exactProgramValid_lifted os started H enc')
end Go.Proofs.YtnjdbgiincliaaaGreat
