/- Whatever the two signatures that are drawn: MatchSig answers as the model says; if they match, the first one matches the second one with one of its types made abstract, or that is too large, and without one of its values. No condition beside the row's own. -/
import Derived.Test.YtejbjgmgdbcddaaGreatDoorK18
set_option linter.unusedVariables false
set_option linter.unusedSimpArgs false
namespace Go.Proofs.YtejbjgmgdbcddaaGreatDoor
open Go.Abs Go.RowKit Go.ChangeShapes Go.WideShapes Go.ChangeAt Go.ChangeMaps
set_option maxRecDepth 100000 in
set_option maxHeartbeats 8000000 in
theorem mtWeak_true (bs cs : List UInt8) : ACalls Tryz.prog 5 [.aslice (byteRows bs),.aslice (byteRows cs)] [] (fun v _=>v = .bool true):=by
  by_cases hb : 1048576 < bs.length
  · have e1 : decide ((1048576 : Int) < bs.length) = true:=decide_eq_true (by omega)
    refine acalls_enter (cf:=cf 94 [0,1,4,5,6,7,8,9,10,11,12,13,21,43]) foll Tryz.func5 Tryz.ntmps5 (by simp [cf]) ?_
    simp only [Tryz.f5,EnterK_some,zW,zX,zD,builtinA,isLeaf,const1,ustrA,simprocAttr,ti3,ti5,ti9,ti22,ti23,ti41,ca7,ca12,ca14,ca18,ca19,cf,Tryz.results5]
    simp only [zW,zX,zD,builtinA,isLeaf,const1,ustrA,simprocAttr,ti3,ti5,ti9,ti22,ti23,ti41,ca7,ca12,ca14,ca18,ca19,cf,Tryz.results5,byteRows_length,e1]
  have e1 : decide ((1048576 : Int) < bs.length) = false:=decide_eq_false (by omega)
  by_cases hc : 1048576 < cs.length
  · have e2 : decide ((1048576 : Int) < cs.length) = true:=decide_eq_true (by omega)
    refine acalls_enter (cf:=cf 94 [0,1,4,5,6,7,8,9,10,11,12,13,21,43]) foll Tryz.func5 Tryz.ntmps5 (by simp [cf]) ?_
    simp only [Tryz.f5,EnterK_some,zW,zX,zD,builtinA,isLeaf,const1,ustrA,simprocAttr,ti3,ti5,ti9,ti22,ti23,ti41,ca7,ca12,ca14,ca18,ca19,cf,Tryz.results5]
    simp only [zW,zX,zD,builtinA,isLeaf,const1,ustrA,simprocAttr,ti3,ti5,ti9,ti22,ti23,ti41,ca7,ca12,ca14,ca18,ca19,cf,Tryz.results5,byteRows_length,e1,e2]
  have e2 : decide ((1048576 : Int) < cs.length) = false:=decide_eq_false (by omega)
  refine acalls_enter (cf:=cf 94 [0,1,4,5,6,7,8,9,10,11,12,13,21,43]) foll Tryz.func5 Tryz.ntmps5 (by simp [cf]) ?_
  simp only [Tryz.f5,EnterK_some,zW,zX,zD,builtinA,isLeaf,const1,ustrA,simprocAttr,ti3,ti5,ti9,ti22,ti23,ti41,ca7,ca12,ca14,ca18,ca19,cf,Tryz.results5]
  simp only [zW,zX,zD,builtinA,isLeaf,const1,ustrA,simprocAttr,ti3,ti5,ti9,ti22,ti23,ti41,ca7,ca12,ca14,ca18,ca19,cf,Tryz.results5,byteRows_length,e1,e2]
  refine callK_intro (by simp only [zW,zX,zD,builtinA,isLeaf,const1,ustrA,simprocAttr]; rfl) (spec_DrawMatchSig bs _) ?_ rfl
  rintro v A' ⟨s,t,rfl,hs,hsm,ht,htm,rfl⟩
  obtain ⟨hso,hsz⟩:=smx_all hs hsm
  obtain ⟨hto,htz⟩:=smx_all ht htm
  obtain ⟨c,p,hM⟩:=mtIs_ex s t
  have hspec:=fun A=>spec_MatchSigF hM (by omega) hso (by omega) hto A
  have himpl:=fun A=>impl_MatchSigF hM (by omega) hso (by omega) hto A
  have hne : ∀ x : Int,decide (¬ x = x) = false:=fun x=>by simp
  have heq : ∀ x : Int,decide (x = x) = true:=fun x=>by simp
  simp only [zW,zX,zD,builtinA,isLeaf,const1,ustrA,simprocAttr,ti3,ti5,ti9,ti22,ti23,ti41,ca7,ca12,ca14,ca18,ca19,cf,Tryz.results5]
  refine callO_intro (himpl _) ?_
  rintro r A' ⟨rfl,rfl⟩
  simp only [zW,zX,zD,builtinA,isLeaf,const1,ustrA,simprocAttr,ti3,ti5,ti9,ti22,ti23,ti41,ca7,ca12,ca14,ca18,ca19,cf,Tryz.results5]
  refine callO_intro (hspec _) ?_
  rintro r A2 ⟨rfl,rfl⟩
  by_cases hc0 : c = 0
  · subst hc0
    by_cases hl : t.length = 0
    · have e3 : decide ((t.length : Int) = 0) = true:=decide_eq_true (by omega)
      simp only [zW,zX,zD,builtinA,isLeaf,const1,ustrA,simprocAttr,ti3,ti5,ti9,ti22,ti23,ti41,ca7,ca12,ca14,ca18,ca19,cf,Tryz.results5,hne,sEs_length,e3]
      refine callO_intro (hspec _) ?_
      rintro r A2 ⟨rfl,rfl⟩
      simp only [zW,zX,zD,builtinA,isLeaf,const1,ustrA,simprocAttr,ti3,ti5,ti9,ti22,ti23,ti41,ca7,ca12,ca14,ca18,ca19,cf,Tryz.results5,heq]
    · have e3 : decide ((t.length : Int) = 0) = false:=decide_eq_false (by omega)
      obtain ⟨k,hkl,hk⟩ : ∃ k : Nat,k < t.length ∧ (cs.length : Int).tmod (t.length : Int) = k:=⟨cs.length % t.length,Nat.mod_lt _ (by omega),rfl⟩
      have hg:=sEs_getD hkl
      obtain ⟨nm,hnm⟩ : ∃ nm,nm = (t.getD k si0).name:=⟨_,rfl⟩
      obtain ⟨⟨hxl,hxo⟩,hyl,hyo⟩:=weak_sm hM hto nm
      obtain ⟨c1,p1,hM1⟩:=mtIs_ex s ((abT t nm).getD [])
      obtain ⟨c2,p2,hM2⟩:=mtIs_ex s ((drT t nm).getD [])
      have hc1 : (abT t nm).isSome = true → c1 = 0 ∨ c1 = 4:=fun h=>by
        obtain ⟨zs,hz⟩:=Option.isSome_iff_exists.1 h
        rw [hz] at hM1
        exact mt_weak_ab hM hz hM1
      have hc2 : (drT t nm).isSome = true → c2 = 0:=fun h=>by
        obtain ⟨zs,hz⟩:=Option.isSome_iff_exists.1 h
        rw [hz] at hM2
        obtain ⟨q,hq⟩:=mt_weak_dr hM hz
        exact (mtIs_one hM2 hq).1
      have hm1:=fun A=>impl_MatchSigF hM1 (by omega) hso hxl hxo A
      have hm2:=fun A=>impl_MatchSigF hM2 (by omega) hso hyl hyo A
      have habs : ∀ A,ACalls Tryz.prog 7 [.slice (sEs t),.str nm] A (SgNew A ((abT t nm).getD []) (abT t nm).isSome):=sg_call fun A=>impl_AbstractType t (by omega) hto nm A
      have hdrp : ∀ A,ACalls Tryz.prog 14 [.slice (sEs t),.str nm] A (SgNew A ((drT t nm).getD []) (drT t nm).isSome):=sg_call fun A=>impl_DropVal t (by omega) hto nm A
      generalize (abT t nm).getD [] = xs at *
      generalize (drT t nm).getD [] = ys at *
      generalize (abT t nm).isSome = P at *
      generalize (drT t nm).isSome = Q at *
      simp only [zW,zX,zD,builtinA,isLeaf,const1,ustrA,simprocAttr,ti3,ti5,ti9,ti22,ti23,ti41,ca7,ca12,ca14,ca18,ca19,cf,Tryz.results5,hne,sEs_length,e3,byteRows_length,hk,hg,sE,hnm.symm]
      have hE4 : (enc (t.getD k si0).typ).length = 4:=enc_length _
      generalize enc (t.getD k si0).typ = E at *
      match E,hE4 with
      | [a0,a1,a2,a3],_ =>
      have f1 : List.take 4 [a0,a1,a2,a3] = [a0,a1,a2,a3]:=rfl
      have f2 : List.drop [a0,a1,a2,a3].length [AV.int .i64 0,AV.str [],AV.str [],AV.nils] = []:=rfl
      simp only [f1,f2,List.append_nil]
      refine ⟨by omega,⟨by omega,by omega,rfl⟩,by simp,⟨rfl,by simp⟩,by simp,?_⟩
      obtain ⟨X,hX⟩ : ∃ X,X = [Box.cells (AV.int .i64 (t.getD k si0).kind :: AV.str nm :: [a0,a1,a2,a3])]:=⟨_,rfl⟩
      rw [← hX]
      refine callO_intro (habs _) ?_
      rintro r A1 ⟨B1,v1,S1,hA1,hB1,rfl,hv1,hK1,hN1,hR1⟩
      have b1 : A1.getD 0 .dead = .cells (AV.int .i64 (t.getD k si0).kind :: AV.str nm :: [a0,a1,a2,a3]):=by rw [hA1,hX]; rfl
      have l1 : 0 < A1.length:=by rw [hA1,hX]; simp
      simp only [zW,zX,zD,builtinA,isLeaf,const1,ustrA,simprocAttr,ti3,ti5,ti9,ti22,ti23,ti41,ca7,ca12,ca14,ca18,ca19,cf,Tryz.results5,b1,l1]
      refine callO_intro (hdrp _) ?_
      rintro r A2 ⟨B2,v2,S2,hA2,hB2,rfl,hv2,hK2,hN2,hR2⟩
      have hK1' : OwnI A2 xs v1 S1:=hK1.frame fun i hi=>by rw [hA2,Abs.getD_append_left (hR1 i hi).2]
      simp only [zW,zX,zD,builtinA,isLeaf,const1,ustrA,simprocAttr,ti3,ti5,ti9,ti22,ti23,ti41,ca7,ca12,ca14,ca18,ca19,cf,Tryz.results5]
      refine callO_intro (borrow0 (.cons (.leaf _ rfl) (.cons hK1'.view .nil)) rfl hm1) ?_
      rintro r A3 ⟨rfl,rfl⟩
      have h4 : ∀ x : Int,decide (x = x) = true:=fun x=>by simp
      cases P with
      | false =>
        cases Q with
        | false=>simp only [zW,zX,zD,builtinA,isLeaf,const1,ustrA,simprocAttr,ti3,ti5,ti9,ti22,ti23,ti41,ca7,ca12,ca14,ca18,ca19,cf,Tryz.results5]
        | true =>
          obtain rfl:=hc2 rfl
          simp only [zW,zX,zD,builtinA,isLeaf,const1,ustrA,simprocAttr,ti3,ti5,ti9,ti22,ti23,ti41,ca7,ca12,ca14,ca18,ca19,cf,Tryz.results5]
          refine callO_intro (borrow0 (.cons (.leaf _ rfl) (.cons hK2.view .nil)) rfl hm2) ?_
          rintro r A3 ⟨rfl,rfl⟩
          simp only [zW,zX,zD,builtinA,isLeaf,const1,ustrA,simprocAttr,ti3,ti5,ti9,ti22,ti23,ti41,ca7,ca12,ca14,ca18,ca19,cf,Tryz.results5]
      | true =>
        rcases hc1 rfl with rfl | rfl
        · cases Q with
          | false=>simp only [zW,zX,zD,builtinA,isLeaf,const1,ustrA,simprocAttr,ti3,ti5,ti9,ti22,ti23,ti41,ca7,ca12,ca14,ca18,ca19,cf,Tryz.results5]
          | true =>
            obtain rfl:=hc2 rfl
            simp only [zW,zX,zD,builtinA,isLeaf,const1,ustrA,simprocAttr,ti3,ti5,ti9,ti22,ti23,ti41,ca7,ca12,ca14,ca18,ca19,cf,Tryz.results5]
            refine callO_intro (borrow0 (.cons (.leaf _ rfl) (.cons hK2.view .nil)) rfl hm2) ?_
            rintro r A3 ⟨rfl,rfl⟩
            simp only [zW,zX,zD,builtinA,isLeaf,const1,ustrA,simprocAttr,ti3,ti5,ti9,ti22,ti23,ti41,ca7,ca12,ca14,ca18,ca19,cf,Tryz.results5]
        · cases Q with
          | false=>simp only [zW,zX,zD,builtinA,isLeaf,const1,ustrA,simprocAttr,ti3,ti5,ti9,ti22,ti23,ti41,ca7,ca12,ca14,ca18,ca19,cf,Tryz.results5]
          | true =>
            obtain rfl:=hc2 rfl
            simp only [zW,zX,zD,builtinA,isLeaf,const1,ustrA,simprocAttr,ti3,ti5,ti9,ti22,ti23,ti41,ca7,ca12,ca14,ca18,ca19,cf,Tryz.results5]
            refine callO_intro (borrow0 (.cons (.leaf _ rfl) (.cons hK2.view .nil)) rfl hm2) ?_
            rintro r A3 ⟨rfl,rfl⟩
            simp only [zW,zX,zD,builtinA,isLeaf,const1,ustrA,simprocAttr,ti3,ti5,ti9,ti22,ti23,ti41,ca7,ca12,ca14,ca18,ca19,cf,Tryz.results5]
  · simp only [zW,zX,zD,builtinA,isLeaf,const1,ustrA,simprocAttr,ti3,ti5,ti9,ti22,ti23,ti41,ca7,ca12,ca14,ca18,ca19,cf,Tryz.results5,hne,decide_eq_false hc0,Bool.not_false]
    refine callO_intro (hspec _) ?_
    rintro r A2 ⟨rfl,rfl⟩
    simp only [zW,zX,zD,builtinA,isLeaf,const1,ustrA,simprocAttr,ti3,ti5,ti9,ti22,ti23,ti41,ca7,ca12,ca14,ca18,ca19,cf,Tryz.results5,heq]
theorem mtWeak_rec : ∀ t ∈ Tryz.f5.params.toList,Tryz.prog.readableRec t = true ∧ t < Tryz.prog.types.size:=by
  rw [Tryz.params5]
  intro t ht
  simp at ht
  subst ht
  exact ⟨by kernel_rfl,of_decide_eq_true (by kernel_rfl)⟩
set_option maxRecDepth 100000 in
theorem mtWeak_lifted (os : Os) (started : os.Started) (H : Type) (enc' : TypeId × Value → H) :
    ReturnsInHanded {} Tryz.checked os 5 .any (fun w args=>(Rows.fnMatchWeakenSpec.pre enc' Tryz.prog Tryz.f5 Rows.fnMatchWeakenRow.domain false w args ∧ laidMetH Tryz.prog laidL w) ∧ sizedMet enc' Tryz.prog Tryz.f5 (OpenSpec.ofChange Rows.fnMatchWeakenSpec) false w args) (Rows.fnMatchWeakenSpec.post enc' Tryz.prog Tryz.f5 false true false false):=by
  refine returnsInHanded_of_change_and (C:=Tryz.checked) (X:=fun w _=>laidMetH Tryz.prog laidL w) (fun _ _ _ hh h=>h.of_heap hh) ownk started (by kernel_rfl) Tryz.func5
    (ChangeSpec.witness_at (enc:=enc') (C:=Tryz.checked) (os:=os) (X:=fun w _=>laidMetH Tryz.prog laidL w) false (laidWorld os) #[.slice none 0 0,.slice none 0 0] 8 rfl (by kernel_rfl) (by kernel_rfl) (by kernel_rfl) (by kernel_rfl) (by kernel_rfl) (laidWorld_met os _)) ?_
  intro W base args ds gs before hval0 hW hcnd _ hL _
  have hval : ∀ (j : Nat) t v,Tryz.f5.params[j]? = some t → args[j]? = some v → Value.okWide Tryz.prog W .any base t v:=hval0
  have hW':=hW
  obtain ⟨p,q,hA0,hV,rfl,hfz,hnd⟩:=hW
  have hA : DataW.TrodAll enc' Tryz.prog W 0 (fun _=>true) true Tryz.f5.params.toList args.toList ds p:=hA0
  rw [Tryz.params5] at hA hval
  have hlt:=hA.lt
  obtain ⟨v0,v1,d0,d1,p0,p1,rfl,rfl,rfl,h0,h1⟩:=trodAll_two hA
  obtain ⟨rfl,rfl⟩:=trodVars_none hV
  obtain ⟨x0,r0⟩:=rv_bytes Tryz.underlying22 Tryz.underlying5 (by kernel_rfl) (hval 0 22 v0 rfl rfl) h0 (fun x hx=>hlt x (by simp [hx]))
  obtain ⟨x1,r1⟩:=rv_bytes Tryz.underlying22 Tryz.underlying5 (by kernel_rfl) (hval 1 22 v1 rfl rfl) h1 (fun x hx=>hlt x (by simp [hx]))
  refine (law_calls (mtWeak_true x0 x1) (.cons r0 (.cons r1 .nil)) (gv_of_laid hL)).mono fun e W' ⟨he,hb⟩=>?_
  subst he
  exact ⟨_,rfl,law_post laid mtWeak_rec rfl Tryz.underlying4 (by kernel_rfl) ⟨rfl,rfl⟩ rfl hW' hb⟩
theorem mtWeak_facts : joinedFacts Tryz.pinned.checked.prog 5 Tryz.f5 Rows.fnMatchWeakenSpec Rows.fnMatchWeakenRow = true:=by kernel_rfl
theorem mtWeak_row : Rows.FnMatchWeakenSaid :=
  OpenClaim.holds_of_wide 5 Tryz.f5 rfl rfl rfl rfl rfl rfl rfl ⟨rfl,rfl,rfl,rfl,rfl⟩ rfl rfl rfl rfl rfl (by kernel_rfl) Tryz.func5 mtWeak_facts
    (of_decide_eq_true (by kernel_rfl)) (by unfold Func.isWrapper; first | (rw [if_pos (by decide +kernel)]; kernel_rfl) | (rw [if_neg (by decide +kernel)]; exact ⟨rfl,rfl⟩))
    (fun os started H enc' _=>mtWeak_lifted os started H enc')
theorem mtWeak_holds : Rows.FnMatchWeakenCardSaid :=
  Claim7.holds_tied_plain_at .later [] [.handle] true (true, "d8fd77e393255c5f6a6687040383f1422a1883b2acf4baddda84eba7a1600b58") true
    mtWeak_row (fun _ h=>by cases h) (by kernel_rfl) (fun _ h=>by cases h) fnMatchWeaken_row_tie rfl ⟨rfl,rfl⟩ (by kernel_rfl) rfl
    (fun f fn hf hfn=>by
      obtain rfl : f = 5:=Option.some.inj ((show Tryz.prog.funcNamed Rows.fnMatchWeakenRow.func = some 5 by kernel_rfl).symm.trans hf) |>.symm
      obtain rfl : fn = Tryz.f5:=(Option.some.inj (Tryz.func5.symm.trans hfn)).symm
      refine ⟨by kernel_rfl,fun j t ht=>?_⟩
      rw [Tryz.params5] at ht
      rcases j with _ | _ | j
      · obtain rfl : 22 = t:=by simpa using ht
        exact (show Tryz.prog.wantsStandIn 22 = false by kernel_rfl)
      · obtain rfl : 22 = t:=by simpa using ht
        exact (show Tryz.prog.wantsStandIn 22 = false by kernel_rfl)
      · simp at ht)
    (by kernel_rfl)
end Go.Proofs.YtejbjgmgdbcddaaGreatDoor
