/- Whatever the signature and the name that are drawn: DropVal answers as the model says; without the value the signature is valid, one item shorter, does not have the value, and the first one matches it or is too large. No condition beside the row's own. -/
import Derived.Test.YtejbjgmgdbcddaaGreatDoorJ15
set_option linter.unusedVariables false
set_option linter.unusedSimpArgs false
namespace Go.Proofs.YtejbjgmgdbcddaaGreatDoor
open Go.Abs Go.RowKit Go.ChangeShapes Go.WideShapes Go.ChangeAt Go.ChangeMaps
set_option maxRecDepth 100000 in
theorem spec_DrawDropVal (bs : List UInt8) (A : List Box) : ACalls Tryz.prog 13 [.aslice (byteRows bs)] A (fun r A'=>∃ s nm,r = .tuple [.slice (sEs s),.str nm] ∧ s.length ≤ 9 ∧ (∀ x ∈ s,SmX x) ∧ A' = A):=by
  refine acalls_enter (cf:=cf 8 [0,2,3]) foll Tryz.func13 Tryz.ntmps13 (by simp [cf]) ?_
  simp only [Tryz.f13,EnterK_some,zW,zX,zD,builtinA,isLeaf,const1,ustrA,simprocAttr,ca35,cf,Tryz.results13]
  refine callK_intro (by simp only [zW,zX,zD,builtinA,isLeaf,const1,ustrA,simprocAttr]; rfl) (spec_DrawFindVal bs _) ?_ rfl
  rintro v A' ⟨s,nm,rfl,h1,h2,rfl⟩
  simp only [zW,zX,zD,builtinA,isLeaf,const1,ustrA,simprocAttr,ca35,cf,Tryz.results13]
  exact ⟨s,nm,rfl,h1,h2⟩
set_option maxRecDepth 100000 in
set_option maxHeartbeats 8000000 in
theorem dropVal_true (bs : List UInt8) : ACalls Tryz.prog 4 [.aslice (byteRows bs)] [] (fun v _=>v = .bool true):=by
  by_cases hb : 1048576 < bs.length
  · have e1 : decide ((1048576 : Int) < bs.length) = true:=decide_eq_true (by omega)
    refine acalls_enter (cf:=cf 84 [0,2,3,4,5,6,7,8,10,11,14,44]) foll Tryz.func4 Tryz.ntmps4 (by simp [cf]) ?_
    simp only [Tryz.f4,EnterK_some,zW,zX,zD,builtinA,isLeaf,const1,ustrA,simprocAttr,ti3,ti4,ti5,ti22,ti23,ti32,ti41,ca10,ca12,ca13,ca14,ca15,ca16,ca17,cf,Tryz.results4]
    simp only [zW,zX,zD,builtinA,isLeaf,const1,ustrA,simprocAttr,ti3,ti4,ti5,ti22,ti23,ti32,ti41,ca10,ca12,ca13,ca14,ca15,ca16,ca17,cf,Tryz.results4,byteRows_length,e1]
  have e1 : decide ((1048576 : Int) < bs.length) = false:=decide_eq_false (by omega)
  refine acalls_enter (cf:=cf 84 [0,2,3,4,5,6,7,8,10,11,14,44]) foll Tryz.func4 Tryz.ntmps4 (by simp [cf]) ?_
  simp only [Tryz.f4,EnterK_some,zW,zX,zD,builtinA,isLeaf,const1,ustrA,simprocAttr,ti3,ti4,ti5,ti22,ti23,ti32,ti41,ca10,ca12,ca13,ca14,ca15,ca16,ca17,cf,Tryz.results4]
  simp only [zW,zX,zD,builtinA,isLeaf,const1,ustrA,simprocAttr,ti3,ti4,ti5,ti22,ti23,ti32,ti41,ca10,ca12,ca13,ca14,ca15,ca16,ca17,cf,Tryz.results4,byteRows_length,e1]
  refine callK_intro (by simp only [zW,zX,zD,builtinA,isLeaf,const1,ustrA,simprocAttr]; rfl) (spec_DrawDropVal bs _) ?_ rfl
  rintro v A' ⟨s,nm,rfl,hs,hsm,rfl⟩
  obtain ⟨hso,hsz⟩:=smx_all hs hsm
  obtain ⟨hxl,hxm⟩:=smx_dr hsm nm
  obtain ⟨hxo,hxz⟩:=smx_all (s:=(drT s nm).getD []) (by omega) hxm
  obtain ⟨c,p,hM⟩:=mtIs_ex s ((drT s nm).getD [])
  obtain ⟨o,ho⟩:=meanIs_ex ((drT s nm).getD []) (true,nm)
  obtain ⟨k1,m1,n1,ks1,hρ1⟩ : ∃ k m n ks,oTyS o = .mk k m n ks:=by cases oTyS o; exact ⟨_,_,_,_,rfl⟩
  have hfacts : (drT s nm).isSome = true → sigB ((drT s nm).getD []) = true ∧ ((drT s nm).getD []).length + 1 = s.length ∧ o = none ∧ (c = 0 ∨ c = 4):=fun h=>by
    obtain ⟨zs,hz⟩:=Option.isSome_iff_exists.1 h
    rw [hz] at hM ho ⊢
    obtain ⟨h1,h2,h3,h4⟩:=dr_facts hz
    exact ⟨h1,h2,h3 _ ho,h4 _ _ hM⟩
  have hspec:=fun A=>spec_DropVal s (by omega) hso nm A
  have himpl : ∀ A,ACalls Tryz.prog 14 [.slice (sEs s),.str nm] A (SgNew A ((drT s nm).getD []) (drT s nm).isSome):=sg_call fun A=>impl_DropVal s (by omega) hso nm A
  have hsame : ∀ A,ACalls Tryz.prog 10 [.slice (sEs ((drT s nm).getD [])),.slice (sEs ((drT s nm).getD []))] A (fun r A'=>r = .bool true ∧ A' = A):=fun A=>(impl_SigSame _ _ hxz hxz A).mono fun r A' h=>by rw [sisB_self] at h; exact h
  have hfind : ∀ A,ACalls Tryz.prog 16 [.slice (sEs ((drT s nm).getD [])),.str nm] A (SubNew A o):=new_call fun A=>(impl_FindVal _ (by omega) hxo nm A).mono fun r A' h=>by
    obtain ⟨o',h1,h2⟩:=h
    rw [meanIs_one h1 ho] at h2
    exact h2
  have hval:=fun A=>impl_SigValid ((drT s nm).getD []) (by omega) hxo A
  have hmat:=fun A=>impl_MatchSigF hM (by omega) hso (by omega) hxo A
  clear hM ho
  generalize (drT s nm).getD [] = xs at *
  generalize (drT s nm).isSome = Q at *
  have hne : ∀ x : Bool,decide (¬ x = x) = false:=fun x=>by simp
  have heq : ∀ x : Bool,decide (x = x) = true:=fun x=>by simp
  simp only [zW,zX,zD,builtinA,isLeaf,const1,ustrA,simprocAttr,ti3,ti4,ti5,ti22,ti23,ti32,ti41,ca10,ca12,ca13,ca14,ca15,ca16,ca17,cf,Tryz.results4]
  refine callO_intro (himpl _) ?_
  rintro r A1 ⟨B1,v1,S1,hA1,hB1,rfl,hv1,hK1,hN1,hR1⟩
  clear hA1 hB1 hR1
  simp only [zW,zX,zD,builtinA,isLeaf,const1,ustrA,simprocAttr,ti3,ti4,ti5,ti22,ti23,ti32,ti41,ca10,ca12,ca13,ca14,ca15,ca16,ca17,cf,Tryz.results4]
  refine callO_intro (hspec _) ?_
  rintro r A2 ⟨rfl,rfl⟩
  simp only [zW,zX,zD,builtinA,isLeaf,const1,ustrA,simprocAttr,ti3,ti4,ti5,ti22,ti23,ti32,ti41,ca10,ca12,ca13,ca14,ca15,ca16,ca17,cf,Tryz.results4,hne]
  refine callO_intro (borrow0 (.cons hK1.view (.cons (.leaf _ rfl) .nil)) rfl hsame) ?_
  rintro r A' ⟨rfl,rfl⟩
  cases Q with
  | false =>
    simp only [zW,zX,zD,builtinA,isLeaf,const1,ustrA,simprocAttr,ti3,ti4,ti5,ti22,ti23,ti32,ti41,ca10,ca12,ca13,ca14,ca15,ca16,ca17,cf,Tryz.results4,hne]
    refine callO_intro (borrow0 (.cons hK1.view (.cons (.leaf _ rfl) .nil)) rfl hsame) ?_
    rintro r A' ⟨rfl,rfl⟩
    simp only [zW,zX,zD,builtinA,isLeaf,const1,ustrA,simprocAttr,ti3,ti4,ti5,ti22,ti23,ti32,ti41,ca10,ca12,ca13,ca14,ca15,ca16,ca17,cf,Tryz.results4]
  | true =>
    obtain ⟨f1,f2,rfl,f4⟩:=hfacts rfl
    rw [f1] at hval
    simp only [zW,zX,zD,builtinA,isLeaf,const1,ustrA,simprocAttr,ti3,ti4,ti5,ti22,ti23,ti32,ti41,ca10,ca12,ca13,ca14,ca15,ca16,ca17,cf,Tryz.results4,hne]
    refine callO_intro (new_view hfind (.cons hK1.view (.cons (.leaf _ rfl) .nil))) ?_
    intro r A2 hr
    obtain ⟨B2,v2,S2,hA2,rfl,hK2,hN2,hR2⟩:=outS_of hρ1 hr
    clear hr
    have hKY : ∀ Y,OwnI (A2 ++ Y) xs v1 S1:=fun Y=>hK1.frame fun i hi=>by rw [hA2,List.append_assoc]; exact Abs.getD_append_left (hK1.low i hi)
    clear hA2 hR2 hN2 hK2 hK1
    have hkk : ∀ Y,v1 = .nils ∧ xs.length = 0 ∨ ∃ i rows,v1 = .own i ∧ rows.length = xs.length ∧ (A2 ++ Y).getD i .dead = .gr none 6 rows:=fun Y=>by
      rcases hKY Y with ⟨h1,h2,_⟩ | ⟨i,rows,S',h1,_,h3,h4⟩
      · exact .inl ⟨h1,by rw [h2]; rfl⟩
      · exact .inr ⟨i,rows,h1,h4.length,h3⟩
    have e5 : IntKind.i64.wrap ((s.length : Int) - 1) = (xs.length : Int):=by rw [wrap64 (by omega) (by omega)]; omega
    have e6 : ∀ x : Int,decide (x = x) = true:=fun x=>by simp
    simp only [zW,zX,zD,builtinA,isLeaf,const1,ustrA,simprocAttr,ti3,ti4,ti5,ti22,ti23,ti32,ti41,ca10,ca12,ca13,ca14,ca15,ca16,ca17,cf,Tryz.results4]
    refine callO_intro (borrow0 (.cons (.leaf _ rfl) (.cons (hKY _).view .nil)) rfl hmat) ?_
    rintro r A' ⟨rfl,rfl⟩
    simp only [zW,zX,zD,builtinA,isLeaf,const1,ustrA,simprocAttr,ti3,ti4,ti5,ti22,ti23,ti32,ti41,ca10,ca12,ca13,ca14,ca15,ca16,ca17,cf,Tryz.results4]
    refine callO_intro (borrow0 (.cons (hKY _).view .nil) rfl hval) ?_
    rintro r A' ⟨rfl,rfl⟩
    rcases hkk [Box.cells [AV.int .i64 k1,AV.str m1,AV.str n1,v2]] with ⟨rfl,g2⟩ | ⟨i,rows,rfl,g2,g3⟩
    · rw [g2] at e5
      rcases f4 with rfl | rfl
      · simp only [zW,zX,zD,builtinA,isLeaf,const1,ustrA,simprocAttr,ti3,ti4,ti5,ti22,ti23,ti32,ti41,ca10,ca12,ca13,ca14,ca15,ca16,ca17,cf,Tryz.results4,sEs_length,e5]
      · simp only [zW,zX,zD,builtinA,isLeaf,const1,ustrA,simprocAttr,ti3,ti4,ti5,ti22,ti23,ti32,ti41,ca10,ca12,ca13,ca14,ca15,ca16,ca17,cf,Tryz.results4,sEs_length,e5]
    · rcases f4 with rfl | rfl
      · simp only [zW,zX,zD,builtinA,isLeaf,const1,ustrA,simprocAttr,ti3,ti4,ti5,ti22,ti23,ti32,ti41,ca10,ca12,ca13,ca14,ca15,ca16,ca17,cf,Tryz.results4,sEs_length,e5,g2,g3]
      · simp only [zW,zX,zD,builtinA,isLeaf,const1,ustrA,simprocAttr,ti3,ti4,ti5,ti22,ti23,ti32,ti41,ca10,ca12,ca13,ca14,ca15,ca16,ca17,cf,Tryz.results4,sEs_length,e5,g2,g3]
theorem dropVal_rec : ∀ t ∈ Tryz.f4.params.toList,Tryz.prog.readableRec t = true ∧ t < Tryz.prog.types.size:=by
  rw [Tryz.params4]
  intro t ht
  simp at ht
  subst ht
  exact ⟨by kernel_rfl,of_decide_eq_true (by kernel_rfl)⟩
set_option maxRecDepth 100000 in
theorem dropVal_lifted (os : Os) (started : os.Started) (H : Type) (enc' : TypeId × Value → H) :
    ReturnsInHanded {} Tryz.checked os 4 .any (fun w args=>(Rows.fnDropValSpec.pre enc' Tryz.prog Tryz.f4 Rows.fnDropValRow.domain false w args ∧ laidMetH Tryz.prog laidL w) ∧ sizedMet enc' Tryz.prog Tryz.f4 (OpenSpec.ofChange Rows.fnDropValSpec) false w args) (Rows.fnDropValSpec.post enc' Tryz.prog Tryz.f4 false true false false):=by
  refine returnsInHanded_of_change_and (C:=Tryz.checked) (X:=fun w _=>laidMetH Tryz.prog laidL w) (fun _ _ _ hh h=>h.of_heap hh) ownk started (by kernel_rfl) Tryz.func4
    (ChangeSpec.witness_at (enc:=enc') (C:=Tryz.checked) (os:=os) (X:=fun w _=>laidMetH Tryz.prog laidL w) false (laidWorld os) #[.slice none 0 0] 8 rfl (by kernel_rfl) (by kernel_rfl) (by kernel_rfl) (by kernel_rfl) (by kernel_rfl) (laidWorld_met os _)) ?_
  intro W base args ds gs before hval0 hW hcnd _ hL _
  have hval : ∀ (j : Nat) t v,Tryz.f4.params[j]? = some t → args[j]? = some v → Value.okWide Tryz.prog W .any base t v:=hval0
  have hW':=hW
  obtain ⟨p,q,hA0,hV,rfl,hfz,hnd⟩:=hW
  have hA : DataW.TrodAll enc' Tryz.prog W 0 (fun _=>true) true Tryz.f4.params.toList args.toList ds p:=hA0
  rw [Tryz.params4] at hA hval
  have hlt:=hA.lt
  obtain ⟨v0,d0,rfl,rfl,h0⟩:=trodAll_one hA
  obtain ⟨rfl,rfl⟩:=trodVars_none hV
  obtain ⟨x0,r0⟩:=rv_bytes Tryz.underlying22 Tryz.underlying5 (by kernel_rfl) (hval 0 22 v0 rfl rfl) h0 (fun x hx=>hlt x (by simp [hx]))
  refine (law_calls (dropVal_true x0) (.cons r0 .nil) (gv_of_laid hL)).mono fun e W' ⟨he,hb⟩=>?_
  subst he
  exact ⟨_,rfl,law_post laid dropVal_rec rfl Tryz.underlying4 (by kernel_rfl) ⟨rfl,rfl⟩ rfl hW' hb⟩
theorem dropVal_facts : joinedFacts Tryz.pinned.checked.prog 4 Tryz.f4 Rows.fnDropValSpec Rows.fnDropValRow = true:=by kernel_rfl
theorem dropVal_row : Rows.FnDropValSaid :=
  OpenClaim.holds_of_wide 4 Tryz.f4 rfl rfl rfl rfl rfl rfl rfl ⟨rfl,rfl,rfl,rfl,rfl⟩ rfl rfl rfl rfl rfl (by kernel_rfl) Tryz.func4 dropVal_facts
    (of_decide_eq_true (by kernel_rfl)) (by unfold Func.isWrapper; first | (rw [if_pos (by decide +kernel)]; kernel_rfl) | (rw [if_neg (by decide +kernel)]; exact ⟨rfl,rfl⟩))
    (fun os started H enc' _=>dropVal_lifted os started H enc')
theorem dropVal_holds : Rows.FnDropValCardSaid :=
  Claim7.holds_tied_plain_at .later [] [.handle] true (true, "d8fd77e393255c5f6a6687040383f1422a1883b2acf4baddda84eba7a1600b58") true
    dropVal_row (fun _ h=>by cases h) (by kernel_rfl) (fun _ h=>by cases h) fnDropVal_row_tie rfl ⟨rfl,rfl⟩ (by kernel_rfl) rfl
    (fun f fn hf hfn=>by
      obtain rfl : f = 4:=Option.some.inj ((show Tryz.prog.funcNamed Rows.fnDropValRow.func = some 4 by kernel_rfl).symm.trans hf) |>.symm
      obtain rfl : fn = Tryz.f4:=(Option.some.inj (Tryz.func4.symm.trans hfn)).symm
      refine ⟨by kernel_rfl,fun j t ht=>?_⟩
      rw [Tryz.params4] at ht
      rcases j with _ | j
      · obtain rfl : 22 = t:=by simpa using ht
        exact (show Tryz.prog.wantsStandIn 22 = false by kernel_rfl)
      · simp at ht)
    (by kernel_rfl)
end Go.Proofs.YtejbjgmgdbcddaaGreatDoor
