/- Whatever the signatures that are drawn: MatchSig answers as the model says; what matches a signature matches every signature that this one matches. No condition beside the row's own. -/
import Derived.Test.YtngheinmebopeaaGreatDoorK14
set_option linter.unusedVariables false
set_option linter.unusedSimpArgs false
namespace Go.Proofs.YtngheinmebopeaaGreatDoor
open Go.Abs Go.RowKit Go.ChangeShapes Go.WideShapes Go.ChangeAt Go.ChangeMaps
set_option maxRecDepth 100000 in
set_option maxHeartbeats 4000000 in
theorem mtTrans_true (bs ms : List UInt8) : ACalls Tryz.prog 3 [.aslice (byteRows bs),.aslice (byteRows ms)] [] (fun v _=>v = .bool true):=by
  refine acalls_enter (cf:=cf 82 [0,1,4,5,6,7,9,10,11,12,20,44]) foll Tryz.func3 Tryz.ntmps3 (by simp [cf]) ?_
  simp only [Tryz.f3,EnterK_some,zW,zX,zD,builtinA,isLeaf,const1,ustrA,simprocAttr,ti3,ti5,ti22,ca5,ca6,ca7,ca8,cf,Tryz.results3]
  by_cases hb : 1048576 < bs.length
  · have e1 : decide ((1048576 : Int) < bs.length) = true:=decide_eq_true (by omega)
    simp only [zW,zX,zD,builtinA,isLeaf,const1,ustrA,simprocAttr,ti3,ti5,ti22,ca5,ca6,ca7,ca8,cf,Tryz.results3,byteRows_length,e1]
  have e1 : decide ((1048576 : Int) < bs.length) = false:=decide_eq_false (by omega)
  by_cases hm : 1048576 < ms.length
  · have e2 : decide ((1048576 : Int) < ms.length) = true:=decide_eq_true (by omega)
    simp only [zW,zX,zD,builtinA,isLeaf,const1,ustrA,simprocAttr,ti3,ti5,ti22,ca5,ca6,ca7,ca8,cf,Tryz.results3,byteRows_length,e1,e2]
  have e2 : decide ((1048576 : Int) < ms.length) = false:=decide_eq_false (by omega)
  simp only [zW,zX,zD,builtinA,isLeaf,const1,ustrA,simprocAttr,ti3,ti5,ti22,ca5,ca6,ca7,ca8,cf,Tryz.results3,byteRows_length,e1,e2]
  refine callK_intro (by simp only [zW,zX,zD,builtinA,isLeaf,const1,ustrA,simprocAttr]; rfl) (spec_DrawMatchSig bs _) ?_ rfl
  rintro v A' ⟨s,t,rfl,hs,hsm,ht,htm,rfl⟩
  simp only [zW,zX,zD,builtinA,isLeaf,const1,ustrA,simprocAttr,ti3,ti5,ti22,ca5,ca6,ca7,ca8,cf,Tryz.results3]
  refine callK_intro (by simp only [zW,zX,zD,builtinA,isLeaf,const1,ustrA,simprocAttr]; rfl) (spec_DrawSigValid ms _) ?_ rfl
  rintro v A' ⟨x,rfl,hx,hxm,rfl⟩
  simp only [zW,zX,zD,builtinA,isLeaf,const1,ustrA,simprocAttr,ti3,ti5,ti22,ca5,ca6,ca7,ca8,cf,Tryz.results3]
  refine callK_intro (by simp only [zW,zX,zD,builtinA,isLeaf,const1,ustrA,simprocAttr]; rfl) (spec_DrawMatchSig ms _) ?_ rfl
  rintro v A' ⟨y0,y,rfl,hy0,hy0m,hy,hym,rfl⟩
  obtain ⟨hso,hsz⟩:=smx_all hs hsm
  obtain ⟨hto,htz⟩:=smx_all ht htm
  obtain ⟨hxo,hxz⟩:=smx_all hx hxm
  obtain ⟨hyo,hyz⟩:=smx_all hy hym
  obtain ⟨c,p,hM⟩:=mtIs_ex s t
  obtain ⟨c1,p1,hM1⟩:=mtIs_ex s x
  obtain ⟨c2,p2,hM2⟩:=mtIs_ex s y
  obtain ⟨c3,p3,hM3⟩:=mtIs_ex t x
  obtain ⟨c4,p4,hM4⟩:=mtIs_ex t y
  have hspec:=fun A=>spec_MatchSigF hM (by omega) hso (by omega) hto A
  have himpl:=fun A=>impl_MatchSigF hM (by omega) hso (by omega) hto A
  have i1:=fun A=>impl_MatchSigF hM1 (by omega) hso (by omega) hxo A
  have i2:=fun A=>impl_MatchSigF hM2 (by omega) hso (by omega) hyo A
  have i3:=fun A=>impl_MatchSigF hM3 (by omega) hto (by omega) hxo A
  have i4:=fun A=>impl_MatchSigF hM4 (by omega) hto (by omega) hyo A
  have hne : ∀ x : Int,decide (¬ x = x) = false:=fun x=>by simp
  have heq : ∀ x : Int,decide (x = x) = true:=fun x=>by simp
  have h1 : c = 0 → c3 = 0 → c1 = 0:=fun h h'=>by
    subst h; subst h'
    obtain ⟨r,hr⟩:=mt_trans hM hM3
    exact (mtIs_one hM1 hr).1
  have h2 : c = 0 → c4 = 0 → c2 = 0:=fun h h'=>by
    subst h; subst h'
    obtain ⟨r,hr⟩:=mt_trans hM hM4
    exact (mtIs_one hM2 hr).1
  clear hM hM1 hM2 hM3 hM4
  simp only [zW,zX,zD,builtinA,isLeaf,const1,ustrA,simprocAttr,ti3,ti5,ti22,ca5,ca6,ca7,ca8,cf,Tryz.results3]
  refine callO_intro (himpl _) ?_
  rintro r A' ⟨rfl,rfl⟩
  simp only [zW,zX,zD,builtinA,isLeaf,const1,ustrA,simprocAttr,ti3,ti5,ti22,ca5,ca6,ca7,ca8,cf,Tryz.results3]
  refine callO_intro (hspec _) ?_
  rintro r A' ⟨rfl,rfl⟩
  by_cases hc : c = 0
  · replace h1:=h1 hc
    replace h2:=h2 hc
    subst hc
    simp only [zW,zX,zD,builtinA,isLeaf,const1,ustrA,simprocAttr,ti3,ti5,ti22,ca5,ca6,ca7,ca8,cf,Tryz.results3,hne]
    refine callO_intro (i1 _) ?_
    rintro r A' ⟨rfl,rfl⟩
    simp only [zW,zX,zD,builtinA,isLeaf,const1,ustrA,simprocAttr,ti3,ti5,ti22,ca5,ca6,ca7,ca8,cf,Tryz.results3]
    refine callO_intro (i2 _) ?_
    rintro r A' ⟨rfl,rfl⟩
    simp only [zW,zX,zD,builtinA,isLeaf,const1,ustrA,simprocAttr,ti3,ti5,ti22,ca5,ca6,ca7,ca8,cf,Tryz.results3]
    refine callO_intro (i3 _) ?_
    rintro r A' ⟨rfl,rfl⟩
    by_cases h3 : c3 = 0
    · replace h1:=h1 h3
      subst h1
      subst h3
      simp only [zW,zX,zD,builtinA,isLeaf,const1,ustrA,simprocAttr,ti3,ti5,ti22,ca5,ca6,ca7,ca8,cf,Tryz.results3,hne]
      refine callO_intro (i4 _) ?_
      rintro r A' ⟨rfl,rfl⟩
      by_cases h4 : c4 = 0
      · replace h2:=h2 h4
        subst h2
        subst h4
        simp only [zW,zX,zD,builtinA,isLeaf,const1,ustrA,simprocAttr,ti3,ti5,ti22,ca5,ca6,ca7,ca8,cf,Tryz.results3,hne]
      · simp only [zW,zX,zD,builtinA,isLeaf,const1,ustrA,simprocAttr,ti3,ti5,ti22,ca5,ca6,ca7,ca8,cf,Tryz.results3,decide_eq_false h4,Bool.not_false]
    · simp only [zW,zX,zD,builtinA,isLeaf,const1,ustrA,simprocAttr,ti3,ti5,ti22,ca5,ca6,ca7,ca8,cf,Tryz.results3,decide_eq_false h3,Bool.not_false]
      refine callO_intro (i4 _) ?_
      rintro r A' ⟨rfl,rfl⟩
      by_cases h4 : c4 = 0
      · replace h2:=h2 h4
        subst h2
        subst h4
        simp only [zW,zX,zD,builtinA,isLeaf,const1,ustrA,simprocAttr,ti3,ti5,ti22,ca5,ca6,ca7,ca8,cf,Tryz.results3,hne]
      · simp only [zW,zX,zD,builtinA,isLeaf,const1,ustrA,simprocAttr,ti3,ti5,ti22,ca5,ca6,ca7,ca8,cf,Tryz.results3,decide_eq_false h4,Bool.not_false]
  · simp only [zW,zX,zD,builtinA,isLeaf,const1,ustrA,simprocAttr,ti3,ti5,ti22,ca5,ca6,ca7,ca8,cf,Tryz.results3,hne,decide_eq_false hc,Bool.not_false]
    refine callO_intro (hspec _) ?_
    rintro r A' ⟨rfl,rfl⟩
    simp only [zW,zX,zD,builtinA,isLeaf,const1,ustrA,simprocAttr,ti3,ti5,ti22,ca5,ca6,ca7,ca8,cf,Tryz.results3,heq]
theorem mtTrans_rec : ∀ t ∈ Tryz.f3.params.toList,Tryz.prog.readableRec t = true ∧ t < Tryz.prog.types.size:=by
  rw [Tryz.params3]
  intro t ht
  simp at ht
  subst ht
  exact ⟨by kernel_rfl,of_decide_eq_true (by kernel_rfl)⟩
set_option maxRecDepth 100000 in
theorem mtTrans_lifted (os : Os) (started : os.Started) (H : Type) (enc' : TypeId × Value → H) :
    ReturnsInHanded {} Tryz.checked os 3 .any (fun w args=>(Rows.fnMatchTransitiveSpec.pre enc' Tryz.prog Tryz.f3 Rows.fnMatchTransitiveRow.domain false w args ∧ laidMetH Tryz.prog laidL w) ∧ sizedMet enc' Tryz.prog Tryz.f3 (OpenSpec.ofChange Rows.fnMatchTransitiveSpec) false w args) (Rows.fnMatchTransitiveSpec.post enc' Tryz.prog Tryz.f3 false true false false):=by
  refine returnsInHanded_of_change_and (C:=Tryz.checked) (X:=fun w _=>laidMetH Tryz.prog laidL w) (fun _ _ _ hh h=>h.of_heap hh) ownk started (by kernel_rfl) Tryz.func3
    (ChangeSpec.witness_at (enc:=enc') (C:=Tryz.checked) (os:=os) (X:=fun w _=>laidMetH Tryz.prog laidL w) false (laidWorld os) #[.slice none 0 0,.slice none 0 0] 8 rfl (by kernel_rfl) (by kernel_rfl) (by kernel_rfl) (by kernel_rfl) (by kernel_rfl) (laidWorld_met os _)) ?_
  intro W base args ds gs before hval0 hW hcnd _ hL _
  have hval : ∀ (j : Nat) t v,Tryz.f3.params[j]? = some t → args[j]? = some v → Value.okWide Tryz.prog W .any base t v:=hval0
  have hW':=hW
  obtain ⟨p,q,hA0,hV,rfl,hfz,hnd⟩:=hW
  have hA : DataW.TrodAll enc' Tryz.prog W 0 (fun _=>true) true Tryz.f3.params.toList args.toList ds p:=hA0
  rw [Tryz.params3] at hA hval
  have hlt:=hA.lt
  obtain ⟨v0,v1,d0,d1,p0,p1,rfl,rfl,rfl,h0,h1⟩:=trodAll_two hA
  obtain ⟨rfl,rfl⟩:=trodVars_none hV
  obtain ⟨x0,r0⟩:=rv_bytes Tryz.underlying22 Tryz.underlying5 (by kernel_rfl) (hval 0 22 v0 rfl rfl) h0 (fun x hx=>hlt x (by simp [hx]))
  obtain ⟨x1,r1⟩:=rv_bytes Tryz.underlying22 Tryz.underlying5 (by kernel_rfl) (hval 1 22 v1 rfl rfl) h1 (fun x hx=>hlt x (by simp [hx]))
  refine (law_calls (mtTrans_true x0 x1) (.cons r0 (.cons r1 .nil)) (gv_of_laid hL)).mono fun e W' ⟨he,hb⟩=>?_
  subst he
  exact ⟨_,rfl,law_post laid mtTrans_rec rfl Tryz.underlying4 (by kernel_rfl) ⟨rfl,rfl⟩ rfl hW' hb⟩
theorem mtTrans_facts : joinedFacts Tryz.pinned.checked.prog 3 Tryz.f3 Rows.fnMatchTransitiveSpec Rows.fnMatchTransitiveRow = true:=by kernel_rfl
theorem mtTrans_row : Rows.FnMatchTransitiveSaid :=
  OpenClaim.holds_of_wide 3 Tryz.f3 rfl rfl rfl rfl rfl rfl rfl ⟨rfl,rfl,rfl,rfl,rfl⟩ rfl rfl rfl rfl rfl (by kernel_rfl) Tryz.func3 mtTrans_facts
    (of_decide_eq_true (by kernel_rfl)) (by unfold Func.isWrapper; first | (rw [if_pos (by decide +kernel)]; kernel_rfl) | (rw [if_neg (by decide +kernel)]; exact ⟨rfl,rfl⟩))
    (fun os started H enc' _=>mtTrans_lifted os started H enc')
theorem mtTrans_holds : Rows.FnMatchTransitiveCardSaid :=
  Claim7.holds_tied_plain_at .later [] [.handle] true (true, "5c643bf6461f8b5dc4014ed9293c99d68007f7ed1a1c852ce313b71903ffa73d") true
    mtTrans_row (fun _ h=>by cases h) (by kernel_rfl) (fun _ h=>by cases h) fnMatchTransitive_row_tie rfl ⟨rfl,rfl⟩ (by kernel_rfl) rfl
    (fun f fn hf hfn=>by
      obtain rfl : f = 3:=Option.some.inj ((show Tryz.prog.funcNamed Rows.fnMatchTransitiveRow.func = some 3 by kernel_rfl).symm.trans hf) |>.symm
      obtain rfl : fn = Tryz.f3:=(Option.some.inj (Tryz.func3.symm.trans hfn)).symm
      refine ⟨by kernel_rfl,fun j t ht=>?_⟩
      rw [Tryz.params3] at ht
      rcases j with _ | _ | j
      · obtain rfl : 22 = t:=by simpa using ht
        exact (show Tryz.prog.wantsStandIn 22 = false by kernel_rfl)
      · obtain rfl : 22 = t:=by simpa using ht
        exact (show Tryz.prog.wantsStandIn 22 = false by kernel_rfl)
      · simp at ht)
    (by kernel_rfl)
end Go.Proofs.YtngheinmebopeaaGreatDoor
