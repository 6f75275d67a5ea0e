/- Whatever the signature and the name that are drawn: AbstractType answers as the model says; where the signature has a normal form, the type is abstract in the answer, and the signature matches the answer or is too large. No condition beside the row's own. -/
import Derived.Test.YtejbjgmgdbcddaaGreatDoorJ15
set_option linter.unusedVariables false
set_option linter.unusedSimpArgs false
namespace Go.Proofs.YtejbjgmgdbcddaaGreatDoor
open Go.Abs Go.RowKit Go.ChangeShapes Go.WideShapes Go.ChangeAt Go.ChangeMaps
set_option maxRecDepth 100000 in
theorem spec_DrawAbstractType (bs : List UInt8) (A : List Box) : ACalls Tryz.prog 6 [.aslice (byteRows bs)] A (fun r A'=>∃ s nm,r = .tuple [.slice (sEs s),.str nm] ∧ s.length ≤ 9 ∧ (∀ x ∈ s,SmX x) ∧ A' = A):=by
  refine acalls_enter (cf:=cf 8 [0,2,3]) foll Tryz.func6 Tryz.ntmps6 (by simp [cf]) ?_
  simp only [Tryz.f6,EnterK_some,zW,zX,zD,builtinA,isLeaf,const1,ustrA,simprocAttr,ca20,cf,Tryz.results6]
  refine callK_intro (by simp only [zW,zX,zD,builtinA,isLeaf,const1,ustrA,simprocAttr]; rfl) (spec_DrawFindType bs _) ?_ rfl
  rintro v A' ⟨s,nm,rfl,h1,h2,rfl⟩
  simp only [zW,zX,zD,builtinA,isLeaf,const1,ustrA,simprocAttr,ca20,cf,Tryz.results6]
  exact ⟨s,nm,rfl,h1,h2⟩
set_option maxRecDepth 100000 in
set_option maxHeartbeats 8000000 in
theorem absType_true (bs : List UInt8) : ACalls Tryz.prog 3 [.aslice (byteRows bs)] [] (fun v _=>v = .bool true):=by
  by_cases hb : 1048576 < bs.length
  · have e1 : decide ((1048576 : Int) < bs.length) = true:=decide_eq_true (by omega)
    refine acalls_enter (cf:=cf 98 [0,2,3,4,5,6,7,8,10,11,12,13,16,55]) foll Tryz.func3 Tryz.ntmps3 (by simp [cf]) ?_
    simp only [Tryz.f3,EnterK_some,zW,zX,zD,builtinA,isLeaf,const1,ustrA,simprocAttr,ti3,ti4,ti5,ti9,ti22,ti32,ca6,ca7,ca8,ca9,ca10,ca11,ca12,cf,Tryz.results3]
    simp only [zW,zX,zD,builtinA,isLeaf,const1,ustrA,simprocAttr,ti3,ti4,ti5,ti9,ti22,ti32,ca6,ca7,ca8,ca9,ca10,ca11,ca12,cf,Tryz.results3,byteRows_length,e1]
  have e1 : decide ((1048576 : Int) < bs.length) = false:=decide_eq_false (by omega)
  refine acalls_enter (cf:=cf 98 [0,2,3,4,5,6,7,8,10,11,12,13,16,55]) foll Tryz.func3 Tryz.ntmps3 (by simp [cf]) ?_
  simp only [Tryz.f3,EnterK_some,zW,zX,zD,builtinA,isLeaf,const1,ustrA,simprocAttr,ti3,ti4,ti5,ti9,ti22,ti32,ca6,ca7,ca8,ca9,ca10,ca11,ca12,cf,Tryz.results3]
  simp only [zW,zX,zD,builtinA,isLeaf,const1,ustrA,simprocAttr,ti3,ti4,ti5,ti9,ti22,ti32,ca6,ca7,ca8,ca9,ca10,ca11,ca12,cf,Tryz.results3,byteRows_length,e1]
  refine callK_intro (by simp only [zW,zX,zD,builtinA,isLeaf,const1,ustrA,simprocAttr]; rfl) (spec_DrawAbstractType bs _) ?_ rfl
  rintro v A' ⟨s,nm,rfl,hs,hsm,rfl⟩
  obtain ⟨hso,hsz⟩:=smx_all hs hsm
  obtain ⟨hxl,hxm⟩:=smx_ab hsm nm
  obtain ⟨hxo,hxz⟩:=smx_all (s:=(abT s nm).getD []) (by omega) hxm
  obtain ⟨c,p,hM⟩:=mtIs_ex s ((abT s nm).getD [])
  obtain ⟨o,ho⟩:=meanIs_ex ((abT s nm).getD []) (false,nm)
  obtain ⟨k1,m1,n1,ks1,hρ1⟩ : ∃ k m n ks,oTyS o = .mk k m n ks:=by cases oTyS o; exact ⟨_,_,_,_,rfl⟩
  obtain ⟨oN,hoN⟩:=rdN_ex s
  have hfacts : (abT s nm).isSome = true → oN.isSome = true → o = some (.nm [] nm) ∧ (c = 0 ∨ c = 4):=fun h hn=>by
    obtain ⟨zs,hz⟩:=Option.isSome_iff_exists.1 h
    obtain ⟨ws,hw⟩:=Option.isSome_iff_exists.1 hn
    rw [hz] at hM ho
    rw [hw] at hoN
    obtain ⟨h1,h2⟩:=mean_self_ab hoN hz
    exact ⟨meanIs_one ho h1,h2 _ _ hM⟩
  have hnorm : ∀ A,ACalls Tryz.prog 9 [.slice (sEs s)] A (SgNew A (nrX oN) oN.isSome):=sg_call fun A=>(impl_NormalSig s (by omega) hso A).mono fun r A' h=>by
    obtain ⟨o',h1,h2⟩:=h
    rw [rdN_oo h1 hoN] at h2
    exact h2
  have hspec:=fun A=>spec_AbstractType s (by omega) hso nm A
  have himpl : ∀ A,ACalls Tryz.prog 7 [.slice (sEs s),.str nm] A (SgNew A ((abT s nm).getD []) (abT s nm).isSome):=sg_call fun A=>impl_AbstractType s (by omega) hso nm A
  have hsame : ∀ A,ACalls Tryz.prog 10 [.slice (sEs ((abT s nm).getD [])),.slice (sEs ((abT s nm).getD []))] A (fun r A'=>r = .bool true ∧ A' = A):=fun A=>(impl_SigSame _ _ hxz hxz A).mono fun r A' h=>by rw [sisB_self] at h; exact h
  have hfind : ∀ A,ACalls Tryz.prog 11 [.slice (sEs ((abT s nm).getD [])),.str nm] A (SubNew A o):=new_call fun A=>(impl_FindType _ (by omega) hxo nm A).mono fun r A' h=>by
    obtain ⟨o',h1,h2⟩:=h
    rw [meanIs_one h1 ho] at h2
    exact h2
  have hmat:=fun A=>impl_MatchSigF hM (by omega) hso (by omega) hxo A
  clear hM ho hoN
  generalize (abT s nm).getD [] = xs at *
  generalize (abT s nm).isSome = P at *
  have hne : ∀ x : Bool,decide (¬ x = x) = false:=fun x=>by simp
  have heq : ∀ x : Bool,decide (x = x) = true:=fun x=>by simp
  simp only [zW,zX,zD,builtinA,isLeaf,const1,ustrA,simprocAttr,ti3,ti4,ti5,ti9,ti22,ti32,ca6,ca7,ca8,ca9,ca10,ca11,ca12,cf,Tryz.results3]
  refine callO_intro (himpl _) ?_
  rintro r A1 ⟨B1,v1,S1,hA1,hB1,rfl,hv1,hK1,hN1,hR1⟩
  clear hA1 hB1 hR1
  simp only [zW,zX,zD,builtinA,isLeaf,const1,ustrA,simprocAttr,ti3,ti4,ti5,ti9,ti22,ti32,ca6,ca7,ca8,ca9,ca10,ca11,ca12,cf,Tryz.results3]
  refine callO_intro (hspec _) ?_
  rintro r A2 ⟨rfl,rfl⟩
  generalize nrX oN = xn at *
  generalize oN.isSome = N at *
  simp only [zW,zX,zD,builtinA,isLeaf,const1,ustrA,simprocAttr,ti3,ti4,ti5,ti9,ti22,ti32,ca6,ca7,ca8,ca9,ca10,ca11,ca12,cf,Tryz.results3]
  refine callO_intro (hnorm _) ?_
  rintro r A3 ⟨B3,v3,S3,hA3,hB3,rfl,hv3,hK3,hN3,hR3⟩
  have hK1' : OwnI A3 xs v1 S1:=hK1.frame fun i hi=>by rw [hA3]; exact Abs.getD_append_left (hK1.low i hi)
  clear hA3 hB3 hR3 hK3 hN3 hK1 hv3
  simp only [zW,zX,zD,builtinA,isLeaf,const1,ustrA,simprocAttr,ti3,ti4,ti5,ti9,ti22,ti32,ca6,ca7,ca8,ca9,ca10,ca11,ca12,cf,Tryz.results3,hne]
  refine callO_intro (borrow0 (.cons hK1'.view (.cons (.leaf _ rfl) .nil)) rfl hsame) ?_
  rintro r A' ⟨rfl,rfl⟩
  cases P with
  | false =>
    simp only [zW,zX,zD,builtinA,isLeaf,const1,ustrA,simprocAttr,ti3,ti4,ti5,ti9,ti22,ti32,ca6,ca7,ca8,ca9,ca10,ca11,ca12,cf,Tryz.results3,hne]
    refine callO_intro (borrow0 (.cons hK1'.view (.cons (.leaf _ rfl) .nil)) rfl hsame) ?_
    rintro r A' ⟨rfl,rfl⟩
    simp only [zW,zX,zD,builtinA,isLeaf,const1,ustrA,simprocAttr,ti3,ti4,ti5,ti9,ti22,ti32,ca6,ca7,ca8,ca9,ca10,ca11,ca12,cf,Tryz.results3]
  | true =>
    cases N with
    | false =>
      simp only [zW,zX,zD,builtinA,isLeaf,const1,ustrA,simprocAttr,ti3,ti4,ti5,ti9,ti22,ti32,ca6,ca7,ca8,ca9,ca10,ca11,ca12,cf,Tryz.results3,hne]
      refine callO_intro (borrow0 (.cons hK1'.view (.cons (.leaf _ rfl) .nil)) rfl hsame) ?_
      rintro r A' ⟨rfl,rfl⟩
      simp only [zW,zX,zD,builtinA,isLeaf,const1,ustrA,simprocAttr,ti3,ti4,ti5,ti9,ti22,ti32,ca6,ca7,ca8,ca9,ca10,ca11,ca12,cf,Tryz.results3]
    | true =>
      obtain ⟨rfl,f4⟩:=hfacts rfl rfl
      simp only [zW,zX,zD,builtinA,isLeaf,const1,ustrA,simprocAttr,ti3,ti4,ti5,ti9,ti22,ti32,ca6,ca7,ca8,ca9,ca10,ca11,ca12,cf,Tryz.results3,hne]
      refine callO_intro (new_view hfind (.cons hK1'.view (.cons (.leaf _ rfl) .nil))) ?_
      intro r A2 hr
      obtain ⟨B2,v2,S2,hA2,rfl,hK2,hN2,hR2⟩:=outS_of (k:=3) (m:=[]) (n:=nm) (ks:=[]) rfl hr
      clear hr
      have hKY : ∀ Y,OwnI (A2 ++ Y) xs v1 S1:=fun Y=>hK1'.frame fun i hi=>by rw [hA2,List.append_assoc]; exact Abs.getD_append_left (hK1'.low i hi)
      clear hA2 hR2 hN2 hK2 hK1'
      simp only [zW,zX,zD,builtinA,isLeaf,const1,ustrA,simprocAttr,ti3,ti4,ti5,ti9,ti22,ti32,ca6,ca7,ca8,ca9,ca10,ca11,ca12,cf,Tryz.results3]
      refine callO_intro (borrow0 (.cons (.leaf _ rfl) (.cons (hKY _).view .nil)) rfl hmat) ?_
      rintro r A' ⟨rfl,rfl⟩
      rcases f4 with rfl | rfl
      · simp only [zW,zX,zD,builtinA,isLeaf,const1,ustrA,simprocAttr,ti3,ti4,ti5,ti9,ti22,ti32,ca6,ca7,ca8,ca9,ca10,ca11,ca12,cf,Tryz.results3]
      · simp only [zW,zX,zD,builtinA,isLeaf,const1,ustrA,simprocAttr,ti3,ti4,ti5,ti9,ti22,ti32,ca6,ca7,ca8,ca9,ca10,ca11,ca12,cf,Tryz.results3]
theorem absType_rec : ∀ t ∈ Tryz.f3.params.toList,Tryz.prog.readableRec t = true ∧ t < Tryz.prog.types.size:=by
  rw [Tryz.params3]
  intro t ht
  simp at ht
  subst ht
  exact ⟨by kernel_rfl,of_decide_eq_true (by kernel_rfl)⟩
set_option maxRecDepth 100000 in
theorem absType_lifted (os : Os) (started : os.Started) (H : Type) (enc' : TypeId × Value → H) :
    ReturnsInHanded {} Tryz.checked os 3 .any (fun w args=>(Rows.fnAbstractTypeSpec.pre enc' Tryz.prog Tryz.f3 Rows.fnAbstractTypeRow.domain false w args ∧ laidMetH Tryz.prog laidL w) ∧ sizedMet enc' Tryz.prog Tryz.f3 (OpenSpec.ofChange Rows.fnAbstractTypeSpec) false w args) (Rows.fnAbstractTypeSpec.post enc' Tryz.prog Tryz.f3 false true false false):=by
  refine returnsInHanded_of_change_and (C:=Tryz.checked) (X:=fun w _=>laidMetH Tryz.prog laidL w) (fun _ _ _ hh h=>h.of_heap hh) ownk started (by kernel_rfl) Tryz.func3
    (ChangeSpec.witness_at (enc:=enc') (C:=Tryz.checked) (os:=os) (X:=fun w _=>laidMetH Tryz.prog laidL w) false (laidWorld os) #[.slice none 0 0] 8 rfl (by kernel_rfl) (by kernel_rfl) (by kernel_rfl) (by kernel_rfl) (by kernel_rfl) (laidWorld_met os _)) ?_
  intro W base args ds gs before hval0 hW hcnd _ hL _
  have hval : ∀ (j : Nat) t v,Tryz.f3.params[j]? = some t → args[j]? = some v → Value.okWide Tryz.prog W .any base t v:=hval0
  have hW':=hW
  obtain ⟨p,q,hA0,hV,rfl,hfz,hnd⟩:=hW
  have hA : DataW.TrodAll enc' Tryz.prog W 0 (fun _=>true) true Tryz.f3.params.toList args.toList ds p:=hA0
  rw [Tryz.params3] at hA hval
  have hlt:=hA.lt
  obtain ⟨v0,d0,rfl,rfl,h0⟩:=trodAll_one hA
  obtain ⟨rfl,rfl⟩:=trodVars_none hV
  obtain ⟨x0,r0⟩:=rv_bytes Tryz.underlying22 Tryz.underlying5 (by kernel_rfl) (hval 0 22 v0 rfl rfl) h0 (fun x hx=>hlt x (by simp [hx]))
  refine (law_calls (absType_true x0) (.cons r0 .nil) (gv_of_laid hL)).mono fun e W' ⟨he,hb⟩=>?_
  subst he
  exact ⟨_,rfl,law_post laid absType_rec rfl Tryz.underlying4 (by kernel_rfl) ⟨rfl,rfl⟩ rfl hW' hb⟩
theorem absType_facts : joinedFacts Tryz.pinned.checked.prog 3 Tryz.f3 Rows.fnAbstractTypeSpec Rows.fnAbstractTypeRow = true:=by kernel_rfl
theorem absType_row : Rows.FnAbstractTypeSaid :=
  OpenClaim.holds_of_wide 3 Tryz.f3 rfl rfl rfl rfl rfl rfl rfl ⟨rfl,rfl,rfl,rfl,rfl⟩ rfl rfl rfl rfl rfl (by kernel_rfl) Tryz.func3 absType_facts
    (of_decide_eq_true (by kernel_rfl)) (by unfold Func.isWrapper; first | (rw [if_pos (by decide +kernel)]; kernel_rfl) | (rw [if_neg (by decide +kernel)]; exact ⟨rfl,rfl⟩))
    (fun os started H enc' _=>absType_lifted os started H enc')
theorem absType_holds : Rows.FnAbstractTypeCardSaid :=
  Claim7.holds_tied_plain_at .later [] [.handle] true (true, "d8fd77e393255c5f6a6687040383f1422a1883b2acf4baddda84eba7a1600b58") true
    absType_row (fun _ h=>by cases h) (by kernel_rfl) (fun _ h=>by cases h) fnAbstractType_row_tie rfl ⟨rfl,rfl⟩ (by kernel_rfl) rfl
    (fun f fn hf hfn=>by
      obtain rfl : f = 3:=Option.some.inj ((show Tryz.prog.funcNamed Rows.fnAbstractTypeRow.func = some 3 by kernel_rfl).symm.trans hf) |>.symm
      obtain rfl : fn = Tryz.f3:=(Option.some.inj (Tryz.func3.symm.trans hfn)).symm
      refine ⟨by kernel_rfl,fun j t ht=>?_⟩
      rw [Tryz.params3] at ht
      rcases j with _ | j
      · obtain rfl : 22 = t:=by simpa using ht
        exact (show Tryz.prog.wantsStandIn 22 = false by kernel_rfl)
      · simp at ht)
    (by kernel_rfl)
end Go.Proofs.YtejbjgmgdbcddaaGreatDoor
