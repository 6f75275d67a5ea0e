/- Whatever the signature and the names that are drawn: RenameSig answers as the model says; a name that was replaced by another one that had occurred is gone; otherwise the renaming can be undone, and the new name occurs just where the old one did. No condition beside the row's own. -/
import Derived.Test.YtnjdbgiincliaaaGreatR14
set_option linter.unusedVariables false
set_option linter.unusedSimpArgs false
namespace Go.Proofs.YtnjdbgiincliaaaGreat
open Go.Abs Go.RowKit Go.ChangeShapes Go.WideShapes Go.ChangeAt Go.ChangeMaps
set_option maxRecDepth 100000 in
theorem spec_DrawRenameSig (bs : List UInt8) (A : List Box) : ACalls Tryz.prog 31 [.aslice (byteRows bs)] A (fun r A'=>∃ s nm nt,r = .tuple [.slice (sEs s),.str nm,.str nt] ∧ s.length ≤ 9 ∧ (∀ x ∈ s,SmX x) ∧ A' = A):=by
  refine acalls_enter (cf:=cf 22 [0,2,3,4,5,6,7]) foll Tryz.func31 Tryz.ntmps31 (by simp [cf]) ?_
  simp only [Tryz.f31,EnterK_some,zW,zX,zD,builtinA,isLeaf,const1,ustrA,simprocAttr,ti9,ti48,ca98,ca99,ca100,ca101,cf,Tryz.results31]
  refine callK_intro (by simp only [zW,zX,zD,builtinA,isLeaf,const1,ustrA,simprocAttr]; rfl) (spec_l17Open bs _) ?_ rfl
  rintro v A' ⟨bs',hb,rfl,rfl⟩
  simp only [zW,zX,zD,builtinA,isLeaf,const1,ustrA,simprocAttr,ti9,ti48,ca98,ca99,ca100,ca101,cf,Tryz.results31]
  refine callK_intro (by simp only [zW,zX,zD,builtinA,isLeaf,const1,ustrA,simprocAttr]; rfl) (spec_l2Draw bs' 0 A.length _ (by simp) (by simp [List.getD]) (by omega)) ?_ rfl
  rintro v A' ⟨s,p',rfl,hs,hsm,hp1,hp2,rfl⟩
  simp only [zW,zX,zD,builtinA,isLeaf,const1,ustrA,simprocAttr,ti9,ti48,ca98,ca99,ca100,ca101,cf,Tryz.results31]
  refine callK_intro (by simp only [zW,zX,zD,builtinA,isLeaf,const1,ustrA,simprocAttr]; rfl) (spec_l2Mutate bs' p' s (by omega) (fun x hx=>(hsm x hx).big) A.length _ (by simp) (by simp [List.getD]) (by omega)) ?_ rfl
  rintro v A' ⟨s',p2,rfl,hs',hsm',hq1,hq2,rfl⟩
  simp only [zW,zX,zD,builtinA,isLeaf,const1,ustrA,simprocAttr,ti9,ti48,ca98,ca99,ca100,ca101,cf,Tryz.results31]
  refine ⟨by simp,?_⟩
  refine callK_intro (by simp only [zW,zX,zD,builtinA,isLeaf,const1,ustrA,simprocAttr]; rfl) (spec_of bs' p2 [[65],[66],[77],[73]] A.length _ (by simp) (by simp [List.getD]) (by omega) (by simp)) ?_ rfl
  rintro v A' ⟨nm,rfl,hnm,rfl⟩
  simp only [zW,zX,zD,builtinA,isLeaf,const1,ustrA,simprocAttr,ti9,ti48,ca98,ca99,ca100,ca101,cf,Tryz.results31]
  refine ⟨by simp,?_⟩
  refine callK_intro (by simp only [zW,zX,zD,builtinA,isLeaf,const1,ustrA,simprocAttr]; rfl) (spec_of bs' (p2 + 1) [[67],[66],[65],[]] A.length _ (by simp) (by simp [List.getD]) (by omega) (by simp)) ?_ rfl
  rintro v A' ⟨nt,rfl,hnt,rfl⟩
  simp only [zW,zX,zD,builtinA,isLeaf,const1,ustrA,simprocAttr,ti9,ti48,ca98,ca99,ca100,ca101,cf,Tryz.results31]
  exact ⟨_,_,_,rfl,hs',hsm'⟩
set_option maxRecDepth 100000 in
set_option maxHeartbeats 8000000 in
theorem renSig_true (bs : List UInt8) : ACalls Tryz.prog 6 [.aslice (byteRows bs)] [] (fun v _=>v = .bool true):=by
  by_cases hb : 1048576 < bs.length
  · have e1 : decide ((1048576 : Int) < bs.length) = true:=decide_eq_true (by omega)
    refine acalls_enter (cf:=cf 96 [0,2,3,4,5,6,7,8,9,10,11,12,13,16,49,69]) foll Tryz.func6 Tryz.ntmps6 (by simp [cf]) ?_
    simp only [Tryz.f6,EnterK_some,zW,zX,zD,builtinA,isLeaf,const1,ustrA,simprocAttr,ti3,ti4,ti5,ti9,ti57,ca25,ca31,ca32,ca33,ca34,ca35,cf,Tryz.results6]
    simp only [zW,zX,zD,builtinA,isLeaf,const1,ustrA,simprocAttr,ti3,ti4,ti5,ti9,ti57,ca25,ca31,ca32,ca33,ca34,ca35,cf,Tryz.results6,byteRows_length,e1]
  have e1 : decide ((1048576 : Int) < bs.length) = false:=decide_eq_false (by omega)
  refine acalls_enter (cf:=cf 96 [0,2,3,4,5,6,7,8,9,10,11,12,13,16,49,69]) foll Tryz.func6 Tryz.ntmps6 (by simp [cf]) ?_
  simp only [Tryz.f6,EnterK_some,zW,zX,zD,builtinA,isLeaf,const1,ustrA,simprocAttr,ti3,ti4,ti5,ti9,ti57,ca25,ca31,ca32,ca33,ca34,ca35,cf,Tryz.results6]
  simp only [zW,zX,zD,builtinA,isLeaf,const1,ustrA,simprocAttr,ti3,ti4,ti5,ti9,ti57,ca25,ca31,ca32,ca33,ca34,ca35,cf,Tryz.results6,byteRows_length,e1]
  refine callK_intro (by simp only [zW,zX,zD,builtinA,isLeaf,const1,ustrA,simprocAttr]; rfl) (spec_DrawRenameSig bs _) ?_ rfl
  rintro v A' ⟨s,f,t,rfl,hs,hsm,rfl⟩
  obtain ⟨hso,hsz⟩:=smx_all hs hsm
  obtain ⟨o,ho⟩:=rdR_ex s f t
  obtain ⟨hxl,hxm⟩:=ren_small (fun x hx=>(hsm x hx).1) ho
  obtain ⟨hxo,hxz⟩:=smx_all (s:=nrX o) (by omega) hxm
  have hspec : ∀ A,ACalls Tryz.prog 33 [.slice (sEs s),.str f,.str t] A (fun r A'=>r = .tuple [.slice (sEs (nrX o)),.bool o.isSome] ∧ A' = A):=fun A=>(spec_RenameSig s (by omega) hso f t A).mono fun r A' h=>by
    obtain ⟨o',h1,h2,h3⟩:=h
    rw [rdR_eq h1 ho] at h2
    exact ⟨by rw [h2]; cases o <;> rfl,h3⟩
  have himpl : ∀ A,ACalls Tryz.prog 32 [.slice (sEs s),.str f,.str t] A (SgNew A (nrX o) o.isSome):=sg_call fun A=>(impl_RenameSig s (by omega) hso f t A).mono fun r A' h=>by
    obtain ⟨o',h1,h2⟩:=h
    rw [rdR_eq h1 ho] at h2
    exact h2
  have hsame : ∀ A,ACalls Tryz.prog 34 [.slice (sEs (nrX o)),.slice (sEs (nrX o))] A (fun r A'=>r = .bool true ∧ A' = A):=fun A=>(impl_SigSame (nrX o) (nrX o) hxz hxz A).mono fun r A' h=>by rw [sisB_refl] at h; exact h
  have hsame2 : ∀ A,ACalls Tryz.prog 34 [.slice (sEs s),.slice (sEs s)] A (fun r A'=>r = .bool true ∧ A' = A):=fun A=>(impl_SigSame s s hsz hsz A).mono fun r A' h=>by rw [sisB_refl] at h; exact h
  have hne : ∀ x : Bool,decide (¬ x = x) = false:=fun x=>by simp
  simp only [zW,zX,zD,builtinA,isLeaf,const1,ustrA,simprocAttr,ti3,ti4,ti5,ti9,ti57,ca25,ca31,ca32,ca33,ca34,ca35,cf,Tryz.results6]
  refine callO_intro (himpl _) ?_
  rintro r A1 ⟨B1,v1,S1,hA1,hB1,rfl,hv1,hK1,hN1,hR1⟩
  clear hA1 hB1 hR1
  simp only [zW,zX,zD,builtinA,isLeaf,const1,ustrA,simprocAttr,ti3,ti4,ti5,ti9,ti57,ca25,ca31,ca32,ca33,ca34,ca35,cf,Tryz.results6]
  refine callO_intro (hspec _) ?_
  rintro r A2 ⟨rfl,rfl⟩
  simp only [zW,zX,zD,builtinA,isLeaf,const1,ustrA,simprocAttr,ti3,ti4,ti5,ti9,ti57,ca25,ca31,ca32,ca33,ca34,ca35,cf,Tryz.results6,hne]
  refine callO_intro (borrow0 (.cons hK1.view (.cons (.leaf _ rfl) .nil)) rfl hsame) ?_
  rintro r A' ⟨rfl,rfl⟩
  cases o with
  | none =>
    simp only [zW,zX,zD,builtinA,isLeaf,const1,ustrA,simprocAttr,ti3,ti4,ti5,ti9,ti57,ca25,ca31,ca32,ca33,ca34,ca35,cf,Tryz.results6,hne,Option.isSome_none]
    refine callO_intro (borrow0 (.cons hK1.view (.cons (.leaf _ rfl) .nil)) rfl hsame) ?_
    rintro r A' ⟨rfl,rfl⟩
    simp only [zW,zX,zD,builtinA,isLeaf,const1,ustrA,simprocAttr,ti3,ti4,ti5,ti9,ti57,ca25,ca31,ca32,ca33,ca34,ca35,cf,Tryz.results6]
  | some zs =>
    have hxs : nrX (some zs) = zs.map siOf:=rfl
    obtain ⟨l,hl⟩:=md_ex3 s
    obtain ⟨l2,hl2⟩:=md_ex3 (nrX (some zs))
    have hF:=ren_f ho hl hl2
    have hsm1:=md_small3 hl
    have hsm2:=md_small3 hl2
    have him1 : ∀ A,ACalls Tryz.prog 25 [.slice (sEs s)] A (NsOut A l):=fun A=>ns_out ((impl_SigModules s (by omega) hso A).mono fun r A' ⟨l',h1,h2⟩=>by rw [MdIs.one hl h1]; exact h2)
    have him2 : ∀ A,ACalls Tryz.prog 25 [.slice (sEs (nrX (some zs)))] A (NsOut A l2):=fun A=>ns_out ((impl_SigModules _ (by omega) hxo A).mono fun r A' ⟨l',h1,h2⟩=>by rw [MdIs.one hl2 h1]; exact h2)
    have hh1:=fun q=>laws_mkHas l (by omega) q
    have hh2:=fun q=>laws_mkHas l2 (by omega) q
    have himp2 : (t ∈ l → f = t) → ∀ A,ACalls Tryz.prog 32 [.slice (sEs (nrX (some zs))),.str t,.str f] A (SgNew A s true):=fun hb=>sg_call fun A=>(impl_RenameSig (nrX (some zs)) (by omega) hxo t f A).mono fun r A' h=>by
      obtain ⟨o',h1,h2⟩:=h
      have hb2:=hF.back hb
      rw [rdR_eq h1 hb2.1] at h2
      have e : nrX (some (zs.map (renI t f))) = s:=hb2.2.1
      rw [← e]; exact h2
    have hgone:=hF.gone
    have hiff:=fun hb=>(hF.back hb).2.2
    clear hF
    generalize nrX (some zs) = xs at *
    simp only [zW,zX,zD,builtinA,isLeaf,const1,ustrA,simprocAttr,ti3,ti4,ti5,ti9,ti57,ca25,ca31,ca32,ca33,ca34,ca35,cf,Tryz.results6,hne,Option.isSome_some]
    refine callO_intro (him1 _) ?_
    rintro w1 A3 hw1
    obtain ⟨B3,S3,hA3,hw3,hR3⟩:=hw1.own
    clear hw1
    have hK3 : OwnI A3 xs v1 S1:=hK1.frame fun i hi=>by rw [hA3,Abs.getD_append_left (hK1.low i hi)]
    clear hA3
    simp only [zW,zX,zD,builtinA,isLeaf,const1,ustrA,simprocAttr,ti3,ti4,ti5,ti9,ti57,ca25,ca31,ca32,ca33,ca34,ca35,cf,Tryz.results6]
    refine callO_intro (NsOut.view him2 (.cons hK3.view .nil)) ?_
    rintro w2 A4 hw2
    obtain ⟨B4,S4,hA4,hw4,hR4⟩:=hw2.own
    clear hw2
    have hK4 : OwnI A4 xs v1 S1:=hK3.frame fun i hi=>by rw [hA4,Abs.getD_append_left (hK3.low i hi)]
    have hw34 : OwnN A4 l w1 S3:=hw3.frame fun i hi=>by rw [hA4,Abs.getD_append_left (hw3.low i hi)]
    clear hA4
    simp only [zW,zX,zD,builtinA,isLeaf,const1,ustrA,simprocAttr,ti3,ti4,ti5,ti9,ti57,ca25,ca31,ca32,ca33,ca34,ca35,cf,Tryz.results6]
    refine callO_intro (borrow0 (.cons hw34.view (.cons (.leaf _ rfl) .nil)) rfl (hh1 t)) ?_
    rintro r A' ⟨rfl,rfl⟩
    by_cases h1 : t ∈ l
    · by_cases h2 : f = t
      · have hb : t ∈ l → f = t:=fun _=>h2
        simp only [zW,zX,zD,builtinA,isLeaf,const1,ustrA,simprocAttr,ti3,ti4,ti5,ti9,ti57,ca25,ca31,ca32,ca33,ca34,ca35,cf,Tryz.results6,decide_eq_true h1,decide_eq_true h2]
        refine callO_intro (sg_view (himp2 hb) (.cons hK4.view (.cons (.leaf _ rfl) (.cons (.leaf _ rfl) .nil)))) ?_
        rintro r A5 ⟨B5,v5,S5,hA5,hB5,rfl,hv5,hK5,hN5,hR5⟩
        have hw5 : OwnN A5 l w1 S3:=hw34.frame fun i hi=>by rw [hA5]; exact Abs.getD_append_left (hw34.low i hi)
        have hw6 : OwnN A5 l2 w2 S4:=hw4.frame fun i hi=>by rw [hA5]; exact Abs.getD_append_left (hw4.low i hi)
        clear hA5 hB5 hR5
        have hii : decide (t ∈ l2) = decide (f ∈ l):=by rw [Bool.eq_iff_iff]; simpa using hiff hb
        simp only [zW,zX,zD,builtinA,isLeaf,const1,ustrA,simprocAttr,ti3,ti4,ti5,ti9,ti57,ca25,ca31,ca32,ca33,ca34,ca35,cf,Tryz.results6]
        refine callO_intro (borrow0 (.cons hK5.view (.cons (.leaf _ rfl) .nil)) rfl hsame2) ?_
        rintro r A' ⟨rfl,rfl⟩
        simp only [zW,zX,zD,builtinA,isLeaf,const1,ustrA,simprocAttr,ti3,ti4,ti5,ti9,ti57,ca25,ca31,ca32,ca33,ca34,ca35,cf,Tryz.results6]
        refine callO_intro (borrow0 (.cons hw6.view (.cons (.leaf _ rfl) .nil)) rfl (hh2 t)) ?_
        rintro r A' ⟨rfl,rfl⟩
        simp only [zW,zX,zD,builtinA,isLeaf,const1,ustrA,simprocAttr,ti3,ti4,ti5,ti9,ti57,ca25,ca31,ca32,ca33,ca34,ca35,cf,Tryz.results6]
        refine callO_intro (borrow0 (.cons hw5.view (.cons (.leaf _ rfl) .nil)) rfl (hh1 f)) ?_
        rintro r A' ⟨rfl,rfl⟩
        simp only [zW,zX,zD,builtinA,isLeaf,const1,ustrA,simprocAttr,ti3,ti4,ti5,ti9,ti57,ca25,ca31,ca32,ca33,ca34,ca35,cf,Tryz.results6,hii]
      · have hg:=hgone h1 h2
        simp only [zW,zX,zD,builtinA,isLeaf,const1,ustrA,simprocAttr,ti3,ti4,ti5,ti9,ti57,ca25,ca31,ca32,ca33,ca34,ca35,cf,Tryz.results6,decide_eq_true h1,decide_eq_false h2]
        refine callO_intro (borrow0 (.cons hw4.view (.cons (.leaf _ rfl) .nil)) rfl (hh2 f)) ?_
        rintro r A' ⟨rfl,rfl⟩
        simp only [zW,zX,zD,builtinA,isLeaf,const1,ustrA,simprocAttr,ti3,ti4,ti5,ti9,ti57,ca25,ca31,ca32,ca33,ca34,ca35,cf,Tryz.results6,decide_eq_false hg]
    · have hb : t ∈ l → f = t:=fun h=>absurd h h1
      simp only [zW,zX,zD,builtinA,isLeaf,const1,ustrA,simprocAttr,ti3,ti4,ti5,ti9,ti57,ca25,ca31,ca32,ca33,ca34,ca35,cf,Tryz.results6,decide_eq_false h1]
      refine callO_intro (sg_view (himp2 hb) (.cons hK4.view (.cons (.leaf _ rfl) (.cons (.leaf _ rfl) .nil)))) ?_
      rintro r A5 ⟨B5,v5,S5,hA5,hB5,rfl,hv5,hK5,hN5,hR5⟩
      have hw5 : OwnN A5 l w1 S3:=hw34.frame fun i hi=>by rw [hA5]; exact Abs.getD_append_left (hw34.low i hi)
      have hw6 : OwnN A5 l2 w2 S4:=hw4.frame fun i hi=>by rw [hA5]; exact Abs.getD_append_left (hw4.low i hi)
      clear hA5 hB5 hR5
      have hii : decide (t ∈ l2) = decide (f ∈ l):=by rw [Bool.eq_iff_iff]; simpa using hiff hb
      simp only [zW,zX,zD,builtinA,isLeaf,const1,ustrA,simprocAttr,ti3,ti4,ti5,ti9,ti57,ca25,ca31,ca32,ca33,ca34,ca35,cf,Tryz.results6]
      refine callO_intro (borrow0 (.cons hK5.view (.cons (.leaf _ rfl) .nil)) rfl hsame2) ?_
      rintro r A' ⟨rfl,rfl⟩
      simp only [zW,zX,zD,builtinA,isLeaf,const1,ustrA,simprocAttr,ti3,ti4,ti5,ti9,ti57,ca25,ca31,ca32,ca33,ca34,ca35,cf,Tryz.results6]
      refine callO_intro (borrow0 (.cons hw6.view (.cons (.leaf _ rfl) .nil)) rfl (hh2 t)) ?_
      rintro r A' ⟨rfl,rfl⟩
      simp only [zW,zX,zD,builtinA,isLeaf,const1,ustrA,simprocAttr,ti3,ti4,ti5,ti9,ti57,ca25,ca31,ca32,ca33,ca34,ca35,cf,Tryz.results6]
      refine callO_intro (borrow0 (.cons hw5.view (.cons (.leaf _ rfl) .nil)) rfl (hh1 f)) ?_
      rintro r A' ⟨rfl,rfl⟩
      simp only [zW,zX,zD,builtinA,isLeaf,const1,ustrA,simprocAttr,ti3,ti4,ti5,ti9,ti57,ca25,ca31,ca32,ca33,ca34,ca35,cf,Tryz.results6,hii]
theorem renSig_rec : ∀ t ∈ Tryz.f6.params.toList,Tryz.prog.readableRec t = true ∧ t < Tryz.prog.types.size:=by
  rw [Tryz.params6]
  intro t ht
  simp at ht
  subst ht
  exact ⟨by kernel_rfl,of_decide_eq_true (by kernel_rfl)⟩
set_option maxRecDepth 100000 in
theorem renSig_lifted (os : Os) (started : os.Started) (H : Type) (enc' : TypeId × Value → H) :
    ReturnsInHanded {} Tryz.checked os 6 .any (Rows.fnRenameSigSpec.pre6 enc' Tryz.prog Tryz.f6 Rows.fnRenameSigRow.domain false) (Rows.fnRenameSigSpec.post enc' Tryz.prog Tryz.f6 false true false false):=by
  refine returnsInHanded_of_change (C:=Tryz.checked) ownk started (by kernel_rfl) Tryz.func6
    (ChangeSpec.witness6 (enc:=enc') (C:=Tryz.checked) false ⟨#[],#[.slice none 0 0],[]⟩ 8 (by kernel_rfl) (by kernel_rfl) (by kernel_rfl) (by kernel_rfl)) ?_
  intro W base args ds gs before hval0 hW hcnd _
  have hval : ∀ (j : Nat) t v,Tryz.f6.params[j]? = some t → args[j]? = some v → Value.okWide Tryz.prog W .any base t v:=hval0
  have hW':=hW
  obtain ⟨p,q,hA0,hV,rfl,hfz,hnd⟩:=hW
  have hA : DataW.TrodAll enc' Tryz.prog W 0 (fun _=>true) true Tryz.f6.params.toList args.toList ds p:=hA0
  rw [Tryz.params6] at hA hval
  have hlt:=hA.lt
  obtain ⟨v0,d0,rfl,rfl,h0⟩:=trodAll_one hA
  obtain ⟨rfl,rfl⟩:=trodVars_none hV
  obtain ⟨x0,r0⟩:=rv_bytes Tryz.underlying57 Tryz.underlying5 (by kernel_rfl) (hval 0 57 v0 rfl rfl) h0 (fun x hx=>hlt x (by simp [hx]))
  refine (law_calls (renSig_true x0) (.cons r0 .nil)).mono fun e W' ⟨he,hb⟩=>?_
  subst he
  exact ⟨_,rfl,law_post laid renSig_rec rfl Tryz.underlying4 (by kernel_rfl) ⟨rfl,rfl⟩ rfl hW' hb⟩
theorem renSig_f9 : (Rows.fnRenameSigRow.inPlace == Tryz.pinned.checked.prog.inPlace 6) = true:=by kernel_rfl
theorem renSig_f10 : (Rows.fnRenameSigRow.unfollowed == Tryz.pinned.checked.prog.unfollowed 6) = true:=by kernel_rfl
theorem renSig_f11 : (Rows.fnRenameSigRow.recurses == Tryz.pinned.checked.prog.recurses 6) = true:=by kernel_rfl
theorem renSig_f12 : (Rows.fnRenameSigRow.named == Tryz.pinned.checked.prog.varsNamed 6) = true:=by kernel_rfl
theorem renSig_f16 : (Rows.fnRenameSigRow.loops == (Tryz.f6.params.toList ++ Rows.fnRenameSigSpec.plain.varTypes Tryz.pinned.checked.prog).any (Tryz.pinned.checked.prog.loopsFrom ·)) = true:=by kernel_rfl
theorem renSig_f17 : (Rows.fnRenameSigRow.wideKeys == (Tryz.f6.params.toList ++ Rows.fnRenameSigSpec.plain.varTypes Tryz.pinned.checked.prog ++ Tryz.f6.resultTypes.toList).any (Tryz.pinned.checked.prog.wideKeysFrom ·)) = true:=by kernel_rfl
theorem renSig_f22 : (Rows.fnRenameSigRow.plainKeys == Tryz.pinned.checked.prog.plainKeys) = true:=by kernel_rfl
theorem renSig_f26 : (Rows.fnRenameSigRow.lifted == Tryz.pinned.checked.prog.liftsFinal) = true:=by kernel_rfl
theorem renSig_f27 : (Tryz.pinned.checked.prog.make == some Rows.fnRenameSigRow.make) = true:=by kernel_rfl
theorem renSig_facts : joinedFacts Tryz.pinned.checked.prog 6 Tryz.f6 Rows.fnRenameSigSpec Rows.fnRenameSigRow = true :=
  jf_of (by kernel_rfl) jp1 jp2 (by kernel_rfl) (by kernel_rfl) (by kernel_rfl) jp6 (by kernel_rfl) jp8 renSig_f9 renSig_f10 renSig_f11 renSig_f12 (by kernel_rfl) (by kernel_rfl) (by kernel_rfl) renSig_f16 renSig_f17 (by kernel_rfl) (by kernel_rfl) (by kernel_rfl) (by kernel_rfl) renSig_f22 (by kernel_rfl) jp24 jp25 renSig_f26 renSig_f27 (by kernel_rfl) (by kernel_rfl) (by kernel_rfl) (by kernel_rfl)
theorem renSig_holds : Rows.FnRenameSigSaid :=
  OpenClaim.holds_of_wide 6 Tryz.f6 rfl rfl rfl rfl rfl rfl rfl ⟨rfl,rfl,rfl,rfl,rfl⟩ rfl rfl rfl rfl rfl (by kernel_rfl) Tryz.func6 renSig_facts
    (of_decide_eq_true (by kernel_rfl)) (by unfold Func.isWrapper; first | (rw [if_pos (by decide +kernel)]; kernel_rfl) | (rw [if_neg (by decide +kernel)]; exact ⟨rfl,rfl⟩))
    (fun os started H enc' _=>renSig_lifted os started H enc')
end Go.Proofs.YtnjdbgiincliaaaGreat
