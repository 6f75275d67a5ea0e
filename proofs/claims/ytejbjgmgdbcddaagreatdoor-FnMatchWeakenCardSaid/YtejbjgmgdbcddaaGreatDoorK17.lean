/- SpMatch, NrSmall. -/
import Derived.Test.YtejbjgmgdbcddaaGreatDoorK16
import Derived.Test.YtejbjgmgdbcddaaGreatDoorAbsW3
/- The model's matching of signatures. -/
set_option linter.unusedVariables false
set_option linter.unusedSimpArgs false
namespace Go.Proofs.YtejbjgmgdbcddaaGreatDoor
open Go.Abs
open Classical in
set_option maxRecDepth 100000 in
set_option maxHeartbeats 4000000 in
theorem spec_l3Item (a : List SigI) (ha : a.length ≤ 1048576) (hoa : ∀ x ∈ a,x.Ok ∧ sz x.typ ≤ 1048576) (hs : List VI) (hra : RdN a (some hs)) (y : VI) (hy : VOk (meanI y)) (m : List (BNm × VT)) (hm : ∀ x ∈ m,VOk x.2) (hml : m.length ≤ 1000) (A : List Box) :
    ACalls Tryz.prog 98 [.slice (sEs a),.agg (sE (siOf y)),.slice (bEs (m.map ofB))] A (fun r A'=>r = .int .i64 (visC hs m y) ∧ A' = A):=by
  cases y with
  | ab n =>
    simp only [siOf,sE]
    refine acalls_enter (cf:=cf 56 [0,1,2,4,6,8,9,10,11,12,15,24,34,43,50,54]) foll Tryz.func98 Tryz.ntmps98 (by simp [cf]) ?_
    simp only [Tryz.f98,EnterK_some,zW,zX,zD,builtinA,isLeaf,const1,ustrA,simprocAttr,ti3,ti9,ti32,ti41,ca78,ca92,ca107,ca108,ca109,cf,Tryz.results98]
    simp only [zW,zX,zD,builtinA,isLeaf,const1,ustrA,simprocAttr,ti3,ti9,ti32,ti41,ca78,ca92,ca107,ca108,ca109,cf,Tryz.results98,enc_length,enc_take,sub_drop,frzL_enc,sub_closed,Option.map_some]
    refine callO_intro (spec_FindType a ha hoa n _) ?_
    rintro r A' ⟨o,hf,rfl,hA⟩
    have hA:=hA.symm
    subst hA
    have ho:=meanIs_find hra hf
    subst ho
    cases hq : findF hs (false,n) with
    | none =>
      simp only [zW,zX,zD,builtinA,isLeaf,const1,ustrA,simprocAttr,ti3,ti9,ti32,ti41,ca78,ca92,ca107,ca108,ca109,cf,Tryz.results98,enc_length]
      simp [visC,viK,hq]
    | some f =>
      simp only [zW,zX,zD,builtinA,isLeaf,const1,ustrA,simprocAttr,ti3,ti9,ti32,ti41,ca78,ca92,ca107,ca108,ca109,cf,Tryz.results98,enc_length]
      simp [visC,viK,hq]
  | al n v =>
    have hv : VOk v:=hy
    have hz : sz (toTy v) ≤ 1048576:=by have:=sz_toTyS _ hv.ok; have:=hv.cnt; omega
    have hS:=fun A=>spec_l1Subst (m.map ofB) (by simp; omega) (ofB_sz hm) (toTy v) hz A
    rw [subT_eq,subV_foldB] at hS
    have hsub:=sub_ok m hm v hv.ok
    have hcv:=hv.cnt
    have hszw:=sz_toTyS (subV m v) hsub.1
    have hV:=fun A=>spec_TypeValid (toTy (subV m v)) (ok_toTyS _ hsub.1) (by omega) A
    have hval : validB (toTy (subV m v)) = fitI (.al [] (subV m v)):=by rw [validB_sub hsub.1]; rfl
    rw [hval] at hV
    simp only [siOf,sE]
    refine acalls_enter (cf:=cf 56 [0,1,2,4,6,8,9,10,11,12,15,24,34,43,50,54]) foll Tryz.func98 Tryz.ntmps98 (by simp [cf]) ?_
    simp only [Tryz.f98,EnterK_some,zW,zX,zD,builtinA,isLeaf,const1,ustrA,simprocAttr,ti3,ti9,ti32,ti41,ca78,ca92,ca107,ca108,ca109,cf,Tryz.results98]
    simp only [zW,zX,zD,builtinA,isLeaf,const1,ustrA,simprocAttr,ti3,ti9,ti32,ti41,ca78,ca92,ca107,ca108,ca109,cf,Tryz.results98,enc_length,enc_take,sub_drop,frzL_enc,sub_closed,Option.map_some]
    refine callO_intro (spec_FindVal a ha hoa n _) ?_
    rintro r A' ⟨o,hf,rfl,hA⟩
    have hA:=hA.symm
    subst hA
    simp only [zW,zX,zD,builtinA,isLeaf,const1,ustrA,simprocAttr,ti3,ti9,ti32,ti41,ca78,ca92,ca107,ca108,ca109,cf,Tryz.results98,enc_length,enc_take,sub_drop,frzL_enc,sub_closed,Option.map_some]
    refine callO_intro (spec_FindType a ha hoa n _) ?_
    rintro r A' ⟨o2,hf2,rfl,hA⟩
    have hA:=hA.symm
    subst hA
    have ho:=meanIs_find hra hf2
    subst ho
    cases hq : findF hs (false,n) with
    | none =>
      simp only [zW,zX,zD,builtinA,isLeaf,const1,ustrA,simprocAttr,ti3,ti9,ti32,ti41,ca78,ca92,ca107,ca108,ca109,cf,Tryz.results98,enc_length,enc_take,sub_drop,frzL_enc,sub_closed,Option.map_some,oTyS,Option.isSome_none]
      simp [visC,viK,hq]
    | some f =>
      have hfo:=findF_vok hra hq
      have hT:=fun A=>spec_TypeSame (toTy f) (ok_toTyS f hfo.ok) (toTy (subV m v)) A
      have hdT : decide (toTy f = toTy (subV m v)) = decide (subV m v = f):=by
        by_cases h : subV m v = f
        · rw [h]; simp
        · have : toTy f ≠ toTy (subV m v):=fun e=>h (toTy_injS e).symm
          simp [h,this]
      rw [hdT] at hT
      have hff:=vok_fit hfo []
      have hvc : visC hs m (.al n v) = if fitI (.al [] (subV m v)) = true then (if subV m v = f then 0 else 2) else 4:=by
        have hqq : findF hs (viK (.al n v)) = some f:=hq
        simp only [visC,hqq]
        by_cases h : subV m v = f
        · rw [if_pos h,h,hff]; simp
        · rw [if_neg h,if_neg h]
      rw [hvc]
      generalize subV m v = w at *
      simp only [zW,zX,zD,builtinA,isLeaf,const1,ustrA,simprocAttr,ti3,ti9,ti32,ti41,ca78,ca92,ca107,ca108,ca109,cf,Tryz.results98,enc_length,enc_take,sub_drop,frzL_enc,sub_closed,Option.map_some,oTyS,Option.isSome_some]
      refine callK_intro (by simp only [zW,zX,zD,builtinA,isLeaf,const1,ustrA,simprocAttr,enc_length,enc_take,sub_drop,frzL_enc,sub_closed,Option.map_some]; rfl) (hS _) ?_ rfl; rintro v A' ⟨rfl,rfl⟩
      simp only [zW,zX,zD,builtinA,isLeaf,const1,ustrA,simprocAttr,ti3,ti9,ti32,ti41,ca78,ca92,ca107,ca108,ca109,cf,Tryz.results98,enc_length,enc_take,sub_drop,frzL_enc,sub_closed,Option.map_some]
      refine callK_intro (by simp only [zW,zX,zD,builtinA,isLeaf,const1,ustrA,simprocAttr,enc_length,enc_take,sub_drop,frzL_enc,sub_closed,Option.map_some]; rfl) (hV _) ?_ rfl; rintro v A' ⟨rfl,rfl⟩
      cases hfit : fitI (.al [] w) with
      | false =>
        simp only [zW,zX,zD,builtinA,isLeaf,const1,ustrA,simprocAttr,ti3,ti9,ti32,ti41,ca78,ca92,ca107,ca108,ca109,cf,Tryz.results98,enc_length,enc_take,sub_drop,frzL_enc,sub_closed,Option.map_some]
      | true =>
        simp only [zW,zX,zD,builtinA,isLeaf,const1,ustrA,simprocAttr,ti3,ti9,ti32,ti41,ca78,ca92,ca107,ca108,ca109,cf,Tryz.results98,enc_length,enc_take,sub_drop,frzL_enc,sub_closed,Option.map_some]
        refine callK_intro (by simp only [zW,zX,zD,builtinA,isLeaf,const1,ustrA,simprocAttr,enc_length,enc_take,sub_drop,frzL_enc,sub_closed,Option.map_some]; rfl) (hT _) ?_ rfl; rintro v A' ⟨rfl,rfl⟩
        by_cases h : w = f
        · rw [decide_eq_true h]
          simp only [zW,zX,zD,builtinA,isLeaf,const1,ustrA,simprocAttr,ti3,ti9,ti32,ti41,ca78,ca92,ca107,ca108,ca109,cf,Tryz.results98,enc_length,enc_take,sub_drop,frzL_enc,sub_closed,Option.map_some]
          simp [h]
        · rw [decide_eq_false h]
          simp only [zW,zX,zD,builtinA,isLeaf,const1,ustrA,simprocAttr,ti3,ti9,ti32,ti41,ca78,ca92,ca107,ca108,ca109,cf,Tryz.results98,enc_length,enc_take,sub_drop,frzL_enc,sub_closed,Option.map_some]
          simp [h]
  | va n v =>
    have hv : VOk v:=hy
    have hz : sz (toTy v) ≤ 1048576:=by have:=sz_toTyS _ hv.ok; have:=hv.cnt; omega
    have hS:=fun A=>spec_l1Subst (m.map ofB) (by simp; omega) (ofB_sz hm) (toTy v) hz A
    rw [subT_eq,subV_foldB] at hS
    have hsub:=sub_ok m hm v hv.ok
    have hcv:=hv.cnt
    have hszw:=sz_toTyS (subV m v) hsub.1
    have hV:=fun A=>spec_TypeValid (toTy (subV m v)) (ok_toTyS _ hsub.1) (by omega) A
    have hval : validB (toTy (subV m v)) = fitI (.al [] (subV m v)):=by rw [validB_sub hsub.1]; rfl
    rw [hval] at hV
    simp only [siOf,sE]
    refine acalls_enter (cf:=cf 56 [0,1,2,4,6,8,9,10,11,12,15,24,34,43,50,54]) foll Tryz.func98 Tryz.ntmps98 (by simp [cf]) ?_
    simp only [Tryz.f98,EnterK_some,zW,zX,zD,builtinA,isLeaf,const1,ustrA,simprocAttr,ti3,ti9,ti32,ti41,ca78,ca92,ca107,ca108,ca109,cf,Tryz.results98]
    simp only [zW,zX,zD,builtinA,isLeaf,const1,ustrA,simprocAttr,ti3,ti9,ti32,ti41,ca78,ca92,ca107,ca108,ca109,cf,Tryz.results98,enc_length,enc_take,sub_drop,frzL_enc,sub_closed,Option.map_some]
    refine callO_intro (spec_FindVal a ha hoa n _) ?_
    rintro r A' ⟨o,hf,rfl,hA⟩
    have hA:=hA.symm
    subst hA
    simp only [zW,zX,zD,builtinA,isLeaf,const1,ustrA,simprocAttr,ti3,ti9,ti32,ti41,ca78,ca92,ca107,ca108,ca109,cf,Tryz.results98,enc_length,enc_take,sub_drop,frzL_enc,sub_closed,Option.map_some]
    have ho:=meanIs_find hra hf
    subst ho
    cases hq : findF hs (true,n) with
    | none =>
      simp only [zW,zX,zD,builtinA,isLeaf,const1,ustrA,simprocAttr,ti3,ti9,ti32,ti41,ca78,ca92,ca107,ca108,ca109,cf,Tryz.results98,enc_length,enc_take,sub_drop,frzL_enc,sub_closed,Option.map_some,oTyS,Option.isSome_none]
      simp [visC,viK,hq]
    | some f =>
      have hfo:=findF_vok hra hq
      have hT:=fun A=>spec_TypeSame (toTy f) (ok_toTyS f hfo.ok) (toTy (subV m v)) A
      have hdT : decide (toTy f = toTy (subV m v)) = decide (subV m v = f):=by
        by_cases h : subV m v = f
        · rw [h]; simp
        · have : toTy f ≠ toTy (subV m v):=fun e=>h (toTy_injS e).symm
          simp [h,this]
      rw [hdT] at hT
      have hff:=vok_fit hfo []
      have hvc : visC hs m (.va n v) = if fitI (.al [] (subV m v)) = true then (if subV m v = f then 0 else 3) else 4:=by
        have hqq : findF hs (viK (.va n v)) = some f:=hq
        simp only [visC,hqq]
        by_cases h : subV m v = f
        · rw [if_pos h,h,hff]; simp
        · rw [if_neg h,if_neg h]
      rw [hvc]
      generalize subV m v = w at *
      simp only [zW,zX,zD,builtinA,isLeaf,const1,ustrA,simprocAttr,ti3,ti9,ti32,ti41,ca78,ca92,ca107,ca108,ca109,cf,Tryz.results98,enc_length,enc_take,sub_drop,frzL_enc,sub_closed,Option.map_some,oTyS,Option.isSome_some]
      refine callK_intro (by simp only [zW,zX,zD,builtinA,isLeaf,const1,ustrA,simprocAttr,enc_length,enc_take,sub_drop,frzL_enc,sub_closed,Option.map_some]; rfl) (hS _) ?_ rfl; rintro v A' ⟨rfl,rfl⟩
      simp only [zW,zX,zD,builtinA,isLeaf,const1,ustrA,simprocAttr,ti3,ti9,ti32,ti41,ca78,ca92,ca107,ca108,ca109,cf,Tryz.results98,enc_length,enc_take,sub_drop,frzL_enc,sub_closed,Option.map_some]
      refine callK_intro (by simp only [zW,zX,zD,builtinA,isLeaf,const1,ustrA,simprocAttr,enc_length,enc_take,sub_drop,frzL_enc,sub_closed,Option.map_some]; rfl) (hV _) ?_ rfl; rintro v A' ⟨rfl,rfl⟩
      cases hfit : fitI (.al [] w) with
      | false =>
        simp only [zW,zX,zD,builtinA,isLeaf,const1,ustrA,simprocAttr,ti3,ti9,ti32,ti41,ca78,ca92,ca107,ca108,ca109,cf,Tryz.results98,enc_length,enc_take,sub_drop,frzL_enc,sub_closed,Option.map_some]
      | true =>
        simp only [zW,zX,zD,builtinA,isLeaf,const1,ustrA,simprocAttr,ti3,ti9,ti32,ti41,ca78,ca92,ca107,ca108,ca109,cf,Tryz.results98,enc_length,enc_take,sub_drop,frzL_enc,sub_closed,Option.map_some]
        refine callK_intro (by simp only [zW,zX,zD,builtinA,isLeaf,const1,ustrA,simprocAttr,enc_length,enc_take,sub_drop,frzL_enc,sub_closed,Option.map_some]; rfl) (hT _) ?_ rfl; rintro v A' ⟨rfl,rfl⟩
        by_cases h : w = f
        · rw [decide_eq_true h]
          simp only [zW,zX,zD,builtinA,isLeaf,const1,ustrA,simprocAttr,ti3,ti9,ti32,ti41,ca78,ca92,ca107,ca108,ca109,cf,Tryz.results98,enc_length,enc_take,sub_drop,frzL_enc,sub_closed,Option.map_some]
          simp [h]
        · rw [decide_eq_false h]
          simp only [zW,zX,zD,builtinA,isLeaf,const1,ustrA,simprocAttr,ti3,ti9,ti32,ti41,ca78,ca92,ca107,ca108,ca109,cf,Tryz.results98,enc_length,enc_take,sub_drop,frzL_enc,sub_closed,Option.map_some]
          simp [h]
set_option maxRecDepth 100000 in
set_option maxHeartbeats 4000000 in
theorem spec_l3Known (a b : List SigI) (hs ys : List VI) (ha : a.length ≤ 1048576) (hoa : ∀ x ∈ a,x.Ok ∧ sz x.typ ≤ 1048576) (hra : RdN a (some hs)) (hb8 : b.length ≤ 8) (hr : ReadsTo b ys) (A : List Box) :
    ACalls Tryz.prog 97 [.slice (sEs a),.slice (sEs b)] A (fun r A'=>∃ B j,A' = A ++ B ∧ r = .own (A.length + j) ∧ j < B.length ∧ B.getD j .dead = .row 6 (bEs ((knownB hs ys).map ofB)) 0):=by
  have hyl:=hr.1
  have hvh:=rdN_vok hra
  refine acalls_enterK (cf:=cf 46 [0,1,4,5,6,7,8,13,34]) foll Tryz.func97 Tryz.ntmps97 (by simp [cf]) ?_
  simp only [Tryz.f97,EnterK_some,zW,zX,zD,builtinA,isLeaf,const1,ustrA,simprocAttr,ti3,ti9,ti23,ti32,ti41,ti174,ti195,ca107,cf,Tryz.results97]
  refine aloop_intro [0,1,5,6] (fun e A'=>∃ i j B,i ≤ b.length ∧ e = [(0,.slice (sEs a)),(1,.slice (sEs b)),(5,.own (A.length + j)),(6,.int .i64 i)] ∧ A' = A ++ B ∧ j < B.length ∧ B.getD j .dead = .row 6 (bEs ((knownB hs (ys.take i)).map ofB)) 0) (fun e _=>b.length - (intOf (Abs.look 6 e)).toNat) ?_ ?_
  · simp only [zW,zX,zD,builtinA,isLeaf,const1,ustrA,simprocAttr,ti3,ti9,ti23,ti32,ti41,ti174,ti195,ca107,cf,Tryz.results97]
    exact ⟨0,0,[.row 6 [] 0],by omega,rfl,rfl,by simp,rfl⟩
  · rintro e A' ⟨i,j,B,hi,rfl,rfl,hj,hg⟩
    simp only [zW,zX,zD,builtinA,isLeaf,const1,ustrA,simprocAttr,ti3,ti9,ti23,ti32,ti41,ti174,ti195,ca107,cf,Tryz.results97,sEs_length]
    refine condK_intro (fun h2=>?_) (fun h2=>?_)
    · have hi2 : i < b.length:=by simpa using h2
      have hi1 : IntKind.i64.wrap ((i : Int) + 1) = ((i + 1 : Nat) : Int):=by rw [wrap64 (by omega) (by omega)]; rfl
      have pi : (0 : Int) ≤ (i : Int) ∧ (i : Int) < (b.length : Int):=⟨by omega,by omega⟩
      have he:=sEs_getD hi2
      have hsi:=itemOf_si (hr.2 i hi2).2
      have hkn:=knownB_visS hs (ys.take i) (ys.getD i vi0)
      have htk : ys.take (i + 1) = ys.take i ++ [ys.getD i vi0]:=by rw [List.take_add_one]; simp [List.getD,show i < ys.length by omega]
      rw [← htk] at hkn
      have hbl:=knownB_len hs (ys.take i)
      have hbl2 : (ys.take i).length ≤ 8:=by simp; omega
      rw [hsi] at he
      generalize ys.getD i vi0 = y at *
      generalize knownB hs (ys.take i) = m at *
      cases y with
      | ab n =>
        simp only [siOf,sE] at he
        simp only [zW,zX,zD,builtinA,isLeaf,const1,ustrA,simprocAttr,ti3,ti9,ti23,ti32,ti41,ti174,ti195,ca107,cf,Tryz.results97,he,sEs_length,enc_length]
        refine ⟨pi,?_⟩
        refine callO_intro (spec_FindType a ha hoa n _) ?_
        rintro r A' ⟨o,hm,rfl,hA⟩
        subst hA
        have ho:=meanIs_find hra hm
        subst ho
        cases hf : findF hs (false,n) with
        | none =>
          simp only [zW,zX,zD,builtinA,isLeaf,const1,ustrA,simprocAttr,ti3,ti9,ti23,ti32,ti41,ti174,ti195,ca107,cf,Tryz.results97,hf,he,sEs_length,enc_length,enc_take,hi1,LoopK_eq]
          refine ⟨pi,⟨i + 1,j,_,by omega,rfl,rfl,by simp; omega,?_⟩,?_⟩
          · rw [Abs.getD_append_left hj,hg,hkn]; simp [visS,viK,hf]
          · simp only [intOf]; omega
        | some f =>
          have hR:=bE_ty n f
          have hgX : ∀ Y,(B ++ Y).getD j .dead = .row 6 (bEs (m.map ofB)) 0:=fun Y=>by rw [Abs.getD_append_left hj]; exact hg
          have hsX : ∀ Y : List Box,(B ++ Y).set j .dead = B.set j .dead ++ Y:=fun Y=>by rw [List.set_append_left _ _ hj]
          have hjX : ∀ n,j < B.length + n:=fun n=>by omega
          have hlf : ∀ w ∈ AV.str [] :: .str n :: enc (toTy f),isLeaf w = true:=by rw [← hR]; exact bE_leaf _
          have hrs : bEs (m.map ofB) ++ [.str [] :: .str n :: enc (toTy f)] = bEs ((m ++ [(([],n),f)]).map ofB):=by rw [← hR]; simp [bEs,ofB]
          have hvs : visS hs m (.ab n) = m ++ [(([],n),f)]:=by simp [visS,viK,hf]
          simp only [zW,zX,zD,builtinA,isLeaf,const1,ustrA,simprocAttr,ti3,ti9,ti23,ti32,ti41,ti174,ti195,ca107,cf,Tryz.results97,hf,he,oTyS,sEs_length,enc_length,enc_take]
          refine ⟨pi,?_⟩
          refine .inr (drawE_intro [(false,0,1),(false,0,0),(false,0,0),(false,0,0),(false,0,0),(false,0,0),(false,0,0),(false,0,0),(true,0,0),(true,1,1),(false,2,2)] [A ++ (B ++ [.cells (enc (toTy f))]),A ++ (B ++ [.cells (enc (toTy f)),.row 6 [.str [] :: .str n :: enc (toTy f)] 0]),A ++ (B.set j .dead ++ [.cells (enc (toTy f)),.row 6 [.str [] :: .str n :: enc (toTy f)] 0,.row 6 (bEs (m.map ofB) ++ [.str [] :: .str n :: enc (toTy f)]) 0])] 2 rfl (by kernel_rfl) (by kernel_rfl) (by kernel_rfl) (by kernel_rfl) (by kernel_rfl) (by kernel_rfl) ?_)
          simp only [zW,zX,zD,builtinA,isLeaf,const1,ustrA,simprocAttr,ti3,ti9,ti23,ti32,ti41,ti174,ti195,ca107,cf,Tryz.results97,he,hgX,hsX,hjX,sEs_length,enc_length,enc_take,sub_drop,frzL_enc,sub_closed,Option.map_some]
          refine ⟨pi,fun w hw=>hlf w hw,⟨fun r hr=>by rw [List.mem_singleton.1 hr]; simp [enc_length],by rw [bEs_length]; simp; omega⟩,?_⟩
          simp only [zW,zX,zD,builtinA,isLeaf,const1,ustrA,simprocAttr,ti3,ti9,ti23,ti32,ti41,ti174,ti195,ca107,cf,Tryz.results97,hi1,LoopK_eq]
          refine ⟨⟨i + 1,B.length + 2,_,by omega,rfl,rfl,by simp,?_⟩,?_⟩
          · rw [Abs.getD_append_right (by simp),hkn,hvs,← hrs]; simp
          · simp only [intOf]; omega
      | al n v =>
        simp only [siOf,sE] at he
        simp only [zW,zX,zD,builtinA,isLeaf,const1,ustrA,simprocAttr,ti3,ti9,ti23,ti32,ti41,ti174,ti195,ca107,cf,Tryz.results97,he,sEs_length,enc_length]
        refine ⟨pi,?_⟩
        refine callO_intro (spec_FindType a ha hoa n _) ?_
        rintro r A' ⟨o,hm,rfl,hA⟩
        subst hA
        simp only [zW,zX,zD,builtinA,isLeaf,const1,ustrA,simprocAttr,ti3,ti9,ti23,ti32,ti41,ti174,ti195,ca107,cf,Tryz.results97,he,sEs_length,enc_length,enc_take,hi1,LoopK_eq]
        refine ⟨pi,⟨i + 1,j,_,by omega,rfl,rfl,by simp; omega,?_⟩,?_⟩
        · rw [Abs.getD_append_left hj,hg,hkn]; congr 4; simp only [visS]; split <;> first | rfl | (rename_i h1 h2; cases h2)
        · simp only [intOf]; omega
      | va n v =>
        simp only [siOf,sE] at he
        simp only [zW,zX,zD,builtinA,isLeaf,const1,ustrA,simprocAttr,ti3,ti9,ti23,ti32,ti41,ti174,ti195,ca107,cf,Tryz.results97,he,sEs_length,enc_length]
        refine ⟨pi,?_⟩
        refine callO_intro (spec_FindType a ha hoa n _) ?_
        rintro r A' ⟨o,hm,rfl,hA⟩
        subst hA
        simp only [zW,zX,zD,builtinA,isLeaf,const1,ustrA,simprocAttr,ti3,ti9,ti23,ti32,ti41,ti174,ti195,ca107,cf,Tryz.results97,he,sEs_length,enc_length,enc_take,hi1,LoopK_eq]
        refine ⟨pi,⟨i + 1,j,_,by omega,rfl,rfl,by simp; omega,?_⟩,?_⟩
        · rw [Abs.getD_append_left hj,hg,hkn]; congr 4; simp only [visS]; split <;> first | rfl | (rename_i h1 h2; cases h2)
        · simp only [intOf]; omega
    · have hi2 : i = b.length:=by simp at h2; omega
      rw [List.take_of_length_le (by omega)] at hg
      simp only [zW,zX,zD,builtinA,isLeaf,const1,ustrA,simprocAttr,ti3,ti9,ti23,ti32,ti41,ti174,ti195,ca107,cf,Tryz.results97]
      exact ⟨B,j,rfl,rfl,hj,hg⟩
set_option maxRecDepth 100000 in
set_option maxHeartbeats 4000000 in
theorem spec_l3Match (a b : List SigI) (hs ws : List VI) (ha : a.length ≤ 1048576) (hoa : ∀ x ∈ a,x.Ok ∧ sz x.typ ≤ 1048576) (hb : b.length ≤ 1048576) (hob : ∀ x ∈ b,x.Ok ∧ sz x.typ ≤ 1048576) (hra : RdN a (some hs)) (hrb : RdN b (some ws)) (A : List Box) :
    ACalls Tryz.prog 68 [.slice (sEs a),.slice (sEs b)] A (fun r A'=>r = .tuple [.int .i64 (mpO (offC hs [] ws 0)).1,.int .i64 (mcO (offC hs [] ws 0))] ∧ A' = A):=by
  obtain ⟨ys,h8,hr,hordy,hn⟩:=id hrb
  have hvh:=rdN_vok hra
  have hvw:=rdN_vok hrb
  have hord : ordB ws = true:=by rw [(normL_fit hn).2]; exact ordB_norm hordy
  have hwy : ws.map absO = ys.map absO:=by rw [(normL_fit hn).2,absO_zs ys _ (Nat.le_refl _),List.take_length]
  have hkw:=knownB_abs hs hwy
  have hkl:=knownB_len hs ws
  have hko:=knownB_ok hvh.2 ws
  refine acalls_enter (cf:=cf 36 [0,1,4,5,6,8,9,10,22,33]) foll Tryz.func68 Tryz.ntmps68 (by simp [cf]) ?_
  simp only [Tryz.f68,EnterK_some,zW,zX,zD,builtinA,isLeaf,const1,ustrA,simprocAttr,ti3,ti23,ti41,ca65,ca97,ca98,cf,Tryz.results68]
  refine callO_intro (spec_NormalSig b hb hob _) ?_
  rintro r A' ⟨o,h1,rfl,hA⟩
  have hA:=hA.symm
  subst hA
  obtain rfl:=rdN_oo hrb h1
  simp only [nrR,sgR]
  simp only [zW,zX,zD,builtinA,isLeaf,const1,ustrA,simprocAttr,ti3,ti23,ti41,ca65,ca97,ca98,cf,Tryz.results68]
  refine callO_intro (spec_l3Known a b hs ys ha hoa hra h8 hr _) ?_
  rintro r A' ⟨B,j,rfl,rfl,hj,hg⟩
  rw [← hkw] at hg
  simp only [zW,zX,zD,builtinA,isLeaf,const1,ustrA,simprocAttr,ti3,ti23,ti41,ca65,ca97,ca98,cf,Tryz.results68]
  refine aloop_intro [0,6,8,9] (fun e A'=>∃ i B sf,i ≤ ws.length ∧ (∀ k,k < i → visC hs (knownB hs (ws.take k)) (ws.getD k vi0) = 0) ∧ e = [(0,.slice (sEs a)),(6,.slice (sEs (ws.map siOf))),(8,.own (A.length + j)),(9,.int .i64 i)] ∧ A' = A ++ B ∧ j < B.length ∧ B.getD j .dead = .row 6 (bEs ((knownB hs ws).map ofB)) sf) (fun e _=>ws.length - (intOf (Abs.look 9 e)).toNat) ?_ ?_
  · simp only [zW,zX,zD,builtinA,isLeaf,const1,ustrA,simprocAttr,ti3,ti23,ti41,ca65,ca97,ca98,cf,Tryz.results68]
    exact ⟨0,B,0,by omega,fun k hk=>by omega,rfl,rfl,hj,hg⟩
  · rintro e A' ⟨i,B,sf,hi,hk,rfl,rfl,hj,hg⟩
    have hlen : (sEs (ws.map siOf)).length = ws.length:=by simp [sEs_length]
    by_cases hlt : i < ws.length
    · have d2 : decide ((i : Int) < (ws.length : Int)) = true:=by simp; omega
      have pi : (0 : Int) ≤ (i : Int) ∧ (i : Int) < (ws.length : Int):=⟨by omega,by omega⟩
      have hi1 : IntKind.i64.wrap ((i : Int) + 1) = ((i + 1 : Nat) : Int):=by rw [wrap64 (by omega) (by omega)]; rfl
      have hge:=siOf_getD hlt
      have hfrom:=offC_from hs ws _ i rfl (by omega) hk
      rw [vi_drop hlt,offC,← visC_all hord hlt] at hfrom
      have hI:=fun A=>spec_l3Item a ha hoa hs hra (ws.getD i vi0) (hvw.2 i hlt) (knownB hs ws) hko (by omega) A
      have hvi:=visC_all (hs:=hs) hord hlt
      generalize hyv : ws.getD i vi0 = y at *
      generalize knownB hs ws = m at *
      have h1 : (A ++ B).getD (A.length + j) .dead = .row 6 (bEs (m.map ofB)) sf:=by
        rw [Abs.getD_append_right (by omega),show A.length + j - A.length = j by omega]; exact hg
      have hX : (A ++ B).set (A.length + j) (.row 6 (bEs (m.map ofB)) (bEs (m.map ofB)).length) = A ++ B.set j (.row 6 (bEs (m.map ofB)) (bEs (m.map ofB)).length):=by simp [List.set_append]
      have hfz : frzs [.slice (sEs a),.agg (sE (siOf y)),.own (A.length + j)] (A ++ B) = some ([.slice (sEs a),.agg (sE (siOf y)),.slice (bEs (m.map ofB))],A ++ B.set j (.row 6 (bEs (m.map ofB)) (bEs (m.map ofB)).length)):=by
        simp only [frzs,frzC,frz1,h1,hX,sE,frzL,frzL_enc,Option.map_some]
      simp only [zW,zX,zD,builtinA,isLeaf,const1,ustrA,simprocAttr,ti3,ti23,ti41,ca65,ca97,ca98,cf,Tryz.results68,hlen,d2,hge]
      have h6 : (sE (siOf y)).take 6 = sE (siOf y):=List.take_of_length_le (by rw [sE_length]; exact Nat.le_refl _)
      rw [h6]
      refine ⟨⟨pi.1,pi.2,sE_length _⟩,by rw [sE_length]; exact Nat.le_refl _,?_⟩
      refine callK_intro hfz (hI _) ?_ rfl
      rintro r A' ⟨rfl,rfl⟩
      by_cases hc : visC hs m y = 0
      · have hnx : ∀ k,k < i + 1 → visC hs (knownB hs (ws.take k)) (ws.getD k vi0) = 0:=fun k h=>by
          rcases Nat.lt_succ_iff_lt_or_eq.mp h with h1 | rfl
          · exact hk k h1
          · rw [hyv,← hvi]; exact hc
        simp only [zW,zX,zD,builtinA,isLeaf,const1,ustrA,simprocAttr,ti3,ti23,ti41,ca65,ca97,ca98,cf,Tryz.results68,hc,hi1,LoopK_eq]
        refine ⟨⟨i + 1,_,_,by omega,hnx,rfl,rfl,by simpa using hj,getD_set_self hj⟩,?_⟩
        simp only [intOf]; omega
      · rw [if_neg hc] at hfrom
        rw [hfrom]
        generalize visC hs m y = c at *
        simp only [zW,zX,zD,builtinA,isLeaf,const1,ustrA,simprocAttr,ti3,ti23,ti41,ca65,ca97,ca98,cf,Tryz.results68,decide_eq_false hc,Bool.not_false]
        simp [mpO,mcO]
    · have d2 : decide ((i : Int) < (ws.length : Int)) = false:=by simp; omega
      have e : i = ws.length:=by omega
      subst e
      rw [offC_from hs ws _ ws.length rfl (Nat.le_refl _) hk,List.drop_length,offC]
      simp only [zW,zX,zD,builtinA,isLeaf,const1,ustrA,simprocAttr,ti3,ti23,ti41,ca65,ca97,ca98,cf,Tryz.results68,hlen,d2]
      simp [mpO,mcO]
set_option maxRecDepth 100000 in
theorem spec_l3Code {a b : List SigI} {c : Int} {p : Nat × Bool} (hM : MtIs a b c p) (ha : a.length ≤ 1048576) (hoa : ∀ x ∈ a,x.Ok ∧ sz x.typ ≤ 1048576) (hb : b.length ≤ 1048576) (hob : ∀ x ∈ b,x.Ok ∧ sz x.typ ≤ 1048576) (A : List Box) :
    ACalls Tryz.prog 38 [.slice (sEs a),.slice (sEs b)] A (fun r A'=>(∃ i : Int,r = .tuple [.int .i64 i,.int .i64 c]) ∧ A' = A):=by
  refine acalls_enter (cf:=cf 23 [0,1,4,5,13,17]) foll Tryz.func38 Tryz.ntmps38 (by simp [cf]) ?_
  simp only [Tryz.f38,EnterK_some,zW,zX,zD,builtinA,isLeaf,const1,ustrA,simprocAttr,ca24,ca67,ca68,cf,Tryz.results38]
  refine callO_intro (spec_SigValid a ha hoa _) ?_
  rintro r A' ⟨rfl,hA⟩
  have hA:=hA.symm
  subst hA
  cases hsa : sigB a with
  | false =>
    have hc : c = 5:=by
      rcases hM with ⟨hs,ws,h1,h2,h3,h4⟩ | ⟨h1,h2,h3⟩
      · rw [rdN_sigB h1] at hsa; cases hsa
      · rw [h3,hsa]; simp
    subst hc
    simp only [zW,zX,zD,builtinA,isLeaf,const1,ustrA,simprocAttr,ca24,ca67,ca68,cf,Tryz.results38]
    exact ⟨_,rfl⟩
  | true =>
    simp only [zW,zX,zD,builtinA,isLeaf,const1,ustrA,simprocAttr,ca24,ca67,ca68,cf,Tryz.results38]
    refine callO_intro (spec_SigValid b hb hob _) ?_
    rintro r A' ⟨rfl,hA⟩
    have hA:=hA.symm
    subst hA
    cases hsb : sigB b with
    | false =>
      have hc : c = 5:=by
        rcases hM with ⟨hs,ws,h1,h2,h3,h4⟩ | ⟨h1,h2,h3⟩
        · rw [rdN_sigB h2] at hsb; cases hsb
        · rw [h3,hsb]; simp
      subst hc
      simp only [zW,zX,zD,builtinA,isLeaf,const1,ustrA,simprocAttr,ca24,ca67,ca68,cf,Tryz.results38]
      exact ⟨_,rfl⟩
    | true =>
      simp only [zW,zX,zD,builtinA,isLeaf,const1,ustrA,simprocAttr,ca24,ca67,ca68,cf,Tryz.results38]
      refine callO_intro (spec_l3Normal a b ha hoa hb hob _) ?_
      rintro r A' ⟨⟨oa,ob,h1,h2,rfl⟩,hA⟩
      have hA:=hA.symm
      subst hA
      rcases hM with ⟨hs,ws,h3,h4,rfl,rfl⟩ | ⟨h3,rfl,rfl⟩
      · obtain rfl:=rdN_oo h3 h1
        obtain rfl:=rdN_oo h4 h2
        simp only [zW,zX,zD,builtinA,isLeaf,const1,ustrA,simprocAttr,ca24,ca67,ca68,cf,Tryz.results38,Option.isSome_some,Bool.and_self]
        refine callO_intro (spec_l3Match a b hs ws ha hoa hb hob h3 h4 _) ?_
        rintro r A' ⟨rfl,rfl⟩
        simp only [zW,zX,zD,builtinA,isLeaf,const1,ustrA,simprocAttr,ca24,ca67,ca68,cf,Tryz.results38]
        exact ⟨_,rfl⟩
      · have hq : (oa.isSome && ob.isSome) = false:=by
          rcases h3 with h3 | h3
          · rw [rdN_oo h1 h3]; rfl
          · rw [rdN_oo h2 h3]; simp
        rw [hq,hsa,hsb]
        simp only [zW,zX,zD,builtinA,isLeaf,const1,ustrA,simprocAttr,ca24,ca67,ca68,cf,Tryz.results38]
        exact ⟨_,rfl⟩
set_option maxRecDepth 100000 in
theorem spec_MatchSigF {a b : List SigI} {c : Int} {p : Nat × Bool} (hM : MtIs a b c p) (ha : a.length ≤ 1048576) (hoa : ∀ x ∈ a,x.Ok ∧ sz x.typ ≤ 1048576) (hb : b.length ≤ 1048576) (hob : ∀ x ∈ b,x.Ok ∧ sz x.typ ≤ 1048576) (A : List Box) :
    ACalls Tryz.prog 19 [.slice (sEs a),.slice (sEs b)] A (fun r A'=>r = .int .i64 c ∧ A' = A):=by
  refine acalls_enter (cf:=cf 14 [0,1,4,6]) foll Tryz.func19 Tryz.ntmps19 (by simp [cf]) ?_
  simp only [Tryz.f19,EnterK_some,zW,zX,zD,builtinA,isLeaf,const1,ustrA,simprocAttr,ca38,cf,Tryz.results19]
  refine callO_intro (spec_l3Code hM ha hoa hb hob _) ?_
  rintro r A' ⟨⟨i,rfl⟩,rfl⟩
  simp only [zW,zX,zD,builtinA,isLeaf,const1,ustrA,simprocAttr,ca38,cf,Tryz.results19]
end Go.Proofs.YtejbjgmgdbcddaaGreatDoor
/- The normal form of a small signature is small. -/
set_option linter.unusedVariables false
set_option linter.unusedSimpArgs false
namespace Go.Proofs.YtejbjgmgdbcddaaGreatDoor
open Go.Abs
theorem nr_small {s : List SigI} (hn : ∀ x ∈ s,x.name.length ≤ 2) {o : Option (List VI)} (h : RdN s o) : (nrX o).length ≤ 8 ∧ ∀ x ∈ nrX o,SmX x:=by
  cases o with
  | none=>simp [nrX]
  | some zs =>
    have hv:=rdN_vok h
    obtain ⟨ys,h8,hr,hord,hq⟩:=h
    have hk:=normL_keys hq
    refine ⟨by simp [nrX]; exact hv.1,fun x hx=>?_⟩
    simp only [nrX] at hx
    obtain ⟨y,hy,rfl⟩:=List.mem_map.1 hx
    obtain ⟨i,hi,rfl⟩:=List.mem_iff_getElem.1 hy
    have e : zs[i] = zs.getD i vi0:=by simp [List.getD,hi]
    rw [e]
    refine ⟨?_,vi_sz (hv.2 i hi)⟩
    have hl : zs.length = ys.length:=by simpa using congrArg List.length hk
    rw [siOf_name,keys_getD hk hi,← siOf_name,← itemOf_si (hr.2 i (by have:=hr.1; omega)).2]
    exact hn _ (si_mem (by have:=hr.1; omega))
end Go.Proofs.YtejbjgmgdbcddaaGreatDoor
