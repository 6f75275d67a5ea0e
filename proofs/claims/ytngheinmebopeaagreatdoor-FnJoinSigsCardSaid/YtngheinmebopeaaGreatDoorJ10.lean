/- SpMatch, OwnSi, SigPl, SigOut. -/
import Derived.Test.YtngheinmebopeaaGreatDoorJ09
import Derived.Test.YtngheinmebopeaaGreatDoorAbsW3
/- The model's matching of signatures. -/
set_option linter.unusedVariables false
set_option linter.unusedSimpArgs false
namespace Go.Proofs.YtngheinmebopeaaGreatDoor
open Go.Abs
open Classical in
set_option maxRecDepth 100000 in
set_option maxHeartbeats 4000000 in
theorem spec_l3Item (a : List SigI) (ha : a.length ≤ 1048576) (hoa : ∀ x ∈ a,x.Ok ∧ sz x.typ ≤ 1048576) (hs : List VI) (hra : RdN a (some hs)) (y : VI) (hy : VOk (meanI y)) (m : List (BNm × VT)) (hm : ∀ x ∈ m,VOk x.2) (hml : m.length ≤ 1000) (A : List Box) :
    ACalls Tryz.prog 80 [.slice (sEs a),.agg (sE (siOf y)),.slice (bEs (m.map ofB))] A (fun r A'=>r = .int .i64 (visC hs m y) ∧ A' = A):=by
  cases y with
  | ab n =>
    simp only [siOf,sE]
    refine acalls_enter (cf:=cf 56 [0,1,2,4,6,8,9,10,11,12,15,24,34,43,50,54]) foll Tryz.func80 Tryz.ntmps80 (by simp [cf]) ?_
    simp only [Tryz.f80,EnterK_some,zW,zX,zD,builtinA,isLeaf,const1,ustrA,simprocAttr,ti3,ti9,ti62,ti64,ca63,ca65,ca92,ca93,ca94,cf,Tryz.results80]
    simp only [zW,zX,zD,builtinA,isLeaf,const1,ustrA,simprocAttr,ti3,ti9,ti62,ti64,ca63,ca65,ca92,ca93,ca94,cf,Tryz.results80,enc_length,enc_take,sub_drop,frzL_enc,sub_closed,Option.map_some]
    refine callO_intro (spec_FindType a ha hoa n _) ?_
    rintro r A' ⟨o,hf,rfl,hA⟩
    have hA:=hA.symm
    subst hA
    have ho:=meanIs_find hra hf
    subst ho
    cases hq : findF hs (false,n) with
    | none =>
      simp only [zW,zX,zD,builtinA,isLeaf,const1,ustrA,simprocAttr,ti3,ti9,ti62,ti64,ca63,ca65,ca92,ca93,ca94,cf,Tryz.results80,enc_length]
      simp [visC,viK,hq]
    | some f =>
      simp only [zW,zX,zD,builtinA,isLeaf,const1,ustrA,simprocAttr,ti3,ti9,ti62,ti64,ca63,ca65,ca92,ca93,ca94,cf,Tryz.results80,enc_length]
      simp [visC,viK,hq]
  | al n v =>
    have hv : VOk v:=hy
    have hz : sz (toTy v) ≤ 1048576:=by have:=sz_toTyS _ hv.ok; have:=hv.cnt; omega
    have hS:=fun A=>spec_l1Subst (m.map ofB) (by simp; omega) (ofB_sz hm) (toTy v) hz A
    rw [subT_eq,subV_foldB] at hS
    have hsub:=sub_ok m hm v hv.ok
    have hcv:=hv.cnt
    have hszw:=sz_toTyS (subV m v) hsub.1
    have hV:=fun A=>spec_TypeValid (toTy (subV m v)) (ok_toTyS _ hsub.1) (by omega) A
    have hval : validB (toTy (subV m v)) = fitI (.al [] (subV m v)):=by rw [validB_sub hsub.1]; rfl
    rw [hval] at hV
    simp only [siOf,sE]
    refine acalls_enter (cf:=cf 56 [0,1,2,4,6,8,9,10,11,12,15,24,34,43,50,54]) foll Tryz.func80 Tryz.ntmps80 (by simp [cf]) ?_
    simp only [Tryz.f80,EnterK_some,zW,zX,zD,builtinA,isLeaf,const1,ustrA,simprocAttr,ti3,ti9,ti62,ti64,ca63,ca65,ca92,ca93,ca94,cf,Tryz.results80]
    simp only [zW,zX,zD,builtinA,isLeaf,const1,ustrA,simprocAttr,ti3,ti9,ti62,ti64,ca63,ca65,ca92,ca93,ca94,cf,Tryz.results80,enc_length,enc_take,sub_drop,frzL_enc,sub_closed,Option.map_some]
    refine callO_intro (spec_FindVal a ha hoa n _) ?_
    rintro r A' ⟨o,hf,rfl,hA⟩
    have hA:=hA.symm
    subst hA
    simp only [zW,zX,zD,builtinA,isLeaf,const1,ustrA,simprocAttr,ti3,ti9,ti62,ti64,ca63,ca65,ca92,ca93,ca94,cf,Tryz.results80,enc_length,enc_take,sub_drop,frzL_enc,sub_closed,Option.map_some]
    refine callO_intro (spec_FindType a ha hoa n _) ?_
    rintro r A' ⟨o2,hf2,rfl,hA⟩
    have hA:=hA.symm
    subst hA
    have ho:=meanIs_find hra hf2
    subst ho
    cases hq : findF hs (false,n) with
    | none =>
      simp only [zW,zX,zD,builtinA,isLeaf,const1,ustrA,simprocAttr,ti3,ti9,ti62,ti64,ca63,ca65,ca92,ca93,ca94,cf,Tryz.results80,enc_length,enc_take,sub_drop,frzL_enc,sub_closed,Option.map_some,oTyS,Option.isSome_none]
      simp [visC,viK,hq]
    | some f =>
      have hfo:=findF_vok hra hq
      have hT:=fun A=>spec_TypeSame (toTy f) (ok_toTyS f hfo.ok) (toTy (subV m v)) A
      have hdT : decide (toTy f = toTy (subV m v)) = decide (subV m v = f):=by
        by_cases h : subV m v = f
        · rw [h]; simp
        · have : toTy f ≠ toTy (subV m v):=fun e=>h (toTy_injS e).symm
          simp [h,this]
      rw [hdT] at hT
      have hff:=vok_fit hfo []
      have hvc : visC hs m (.al n v) = if fitI (.al [] (subV m v)) = true then (if subV m v = f then 0 else 2) else 4:=by
        have hqq : findF hs (viK (.al n v)) = some f:=hq
        simp only [visC,hqq]
        by_cases h : subV m v = f
        · rw [if_pos h,h,hff]; simp
        · rw [if_neg h,if_neg h]
      rw [hvc]
      generalize subV m v = w at *
      simp only [zW,zX,zD,builtinA,isLeaf,const1,ustrA,simprocAttr,ti3,ti9,ti62,ti64,ca63,ca65,ca92,ca93,ca94,cf,Tryz.results80,enc_length,enc_take,sub_drop,frzL_enc,sub_closed,Option.map_some,oTyS,Option.isSome_some]
      refine callK_intro (by simp only [zW,zX,zD,builtinA,isLeaf,const1,ustrA,simprocAttr,enc_length,enc_take,sub_drop,frzL_enc,sub_closed,Option.map_some]; rfl) (hS _) ?_ rfl; rintro v A' ⟨rfl,rfl⟩
      simp only [zW,zX,zD,builtinA,isLeaf,const1,ustrA,simprocAttr,ti3,ti9,ti62,ti64,ca63,ca65,ca92,ca93,ca94,cf,Tryz.results80,enc_length,enc_take,sub_drop,frzL_enc,sub_closed,Option.map_some]
      refine callK_intro (by simp only [zW,zX,zD,builtinA,isLeaf,const1,ustrA,simprocAttr,enc_length,enc_take,sub_drop,frzL_enc,sub_closed,Option.map_some]; rfl) (hV _) ?_ rfl; rintro v A' ⟨rfl,rfl⟩
      cases hfit : fitI (.al [] w) with
      | false =>
        simp only [zW,zX,zD,builtinA,isLeaf,const1,ustrA,simprocAttr,ti3,ti9,ti62,ti64,ca63,ca65,ca92,ca93,ca94,cf,Tryz.results80,enc_length,enc_take,sub_drop,frzL_enc,sub_closed,Option.map_some]
      | true =>
        simp only [zW,zX,zD,builtinA,isLeaf,const1,ustrA,simprocAttr,ti3,ti9,ti62,ti64,ca63,ca65,ca92,ca93,ca94,cf,Tryz.results80,enc_length,enc_take,sub_drop,frzL_enc,sub_closed,Option.map_some]
        refine callK_intro (by simp only [zW,zX,zD,builtinA,isLeaf,const1,ustrA,simprocAttr,enc_length,enc_take,sub_drop,frzL_enc,sub_closed,Option.map_some]; rfl) (hT _) ?_ rfl; rintro v A' ⟨rfl,rfl⟩
        by_cases h : w = f
        · rw [decide_eq_true h]
          simp only [zW,zX,zD,builtinA,isLeaf,const1,ustrA,simprocAttr,ti3,ti9,ti62,ti64,ca63,ca65,ca92,ca93,ca94,cf,Tryz.results80,enc_length,enc_take,sub_drop,frzL_enc,sub_closed,Option.map_some]
          simp [h]
        · rw [decide_eq_false h]
          simp only [zW,zX,zD,builtinA,isLeaf,const1,ustrA,simprocAttr,ti3,ti9,ti62,ti64,ca63,ca65,ca92,ca93,ca94,cf,Tryz.results80,enc_length,enc_take,sub_drop,frzL_enc,sub_closed,Option.map_some]
          simp [h]
  | va n v =>
    have hv : VOk v:=hy
    have hz : sz (toTy v) ≤ 1048576:=by have:=sz_toTyS _ hv.ok; have:=hv.cnt; omega
    have hS:=fun A=>spec_l1Subst (m.map ofB) (by simp; omega) (ofB_sz hm) (toTy v) hz A
    rw [subT_eq,subV_foldB] at hS
    have hsub:=sub_ok m hm v hv.ok
    have hcv:=hv.cnt
    have hszw:=sz_toTyS (subV m v) hsub.1
    have hV:=fun A=>spec_TypeValid (toTy (subV m v)) (ok_toTyS _ hsub.1) (by omega) A
    have hval : validB (toTy (subV m v)) = fitI (.al [] (subV m v)):=by rw [validB_sub hsub.1]; rfl
    rw [hval] at hV
    simp only [siOf,sE]
    refine acalls_enter (cf:=cf 56 [0,1,2,4,6,8,9,10,11,12,15,24,34,43,50,54]) foll Tryz.func80 Tryz.ntmps80 (by simp [cf]) ?_
    simp only [Tryz.f80,EnterK_some,zW,zX,zD,builtinA,isLeaf,const1,ustrA,simprocAttr,ti3,ti9,ti62,ti64,ca63,ca65,ca92,ca93,ca94,cf,Tryz.results80]
    simp only [zW,zX,zD,builtinA,isLeaf,const1,ustrA,simprocAttr,ti3,ti9,ti62,ti64,ca63,ca65,ca92,ca93,ca94,cf,Tryz.results80,enc_length,enc_take,sub_drop,frzL_enc,sub_closed,Option.map_some]
    refine callO_intro (spec_FindVal a ha hoa n _) ?_
    rintro r A' ⟨o,hf,rfl,hA⟩
    have hA:=hA.symm
    subst hA
    simp only [zW,zX,zD,builtinA,isLeaf,const1,ustrA,simprocAttr,ti3,ti9,ti62,ti64,ca63,ca65,ca92,ca93,ca94,cf,Tryz.results80,enc_length,enc_take,sub_drop,frzL_enc,sub_closed,Option.map_some]
    have ho:=meanIs_find hra hf
    subst ho
    cases hq : findF hs (true,n) with
    | none =>
      simp only [zW,zX,zD,builtinA,isLeaf,const1,ustrA,simprocAttr,ti3,ti9,ti62,ti64,ca63,ca65,ca92,ca93,ca94,cf,Tryz.results80,enc_length,enc_take,sub_drop,frzL_enc,sub_closed,Option.map_some,oTyS,Option.isSome_none]
      simp [visC,viK,hq]
    | some f =>
      have hfo:=findF_vok hra hq
      have hT:=fun A=>spec_TypeSame (toTy f) (ok_toTyS f hfo.ok) (toTy (subV m v)) A
      have hdT : decide (toTy f = toTy (subV m v)) = decide (subV m v = f):=by
        by_cases h : subV m v = f
        · rw [h]; simp
        · have : toTy f ≠ toTy (subV m v):=fun e=>h (toTy_injS e).symm
          simp [h,this]
      rw [hdT] at hT
      have hff:=vok_fit hfo []
      have hvc : visC hs m (.va n v) = if fitI (.al [] (subV m v)) = true then (if subV m v = f then 0 else 3) else 4:=by
        have hqq : findF hs (viK (.va n v)) = some f:=hq
        simp only [visC,hqq]
        by_cases h : subV m v = f
        · rw [if_pos h,h,hff]; simp
        · rw [if_neg h,if_neg h]
      rw [hvc]
      generalize subV m v = w at *
      simp only [zW,zX,zD,builtinA,isLeaf,const1,ustrA,simprocAttr,ti3,ti9,ti62,ti64,ca63,ca65,ca92,ca93,ca94,cf,Tryz.results80,enc_length,enc_take,sub_drop,frzL_enc,sub_closed,Option.map_some,oTyS,Option.isSome_some]
      refine callK_intro (by simp only [zW,zX,zD,builtinA,isLeaf,const1,ustrA,simprocAttr,enc_length,enc_take,sub_drop,frzL_enc,sub_closed,Option.map_some]; rfl) (hS _) ?_ rfl; rintro v A' ⟨rfl,rfl⟩
      simp only [zW,zX,zD,builtinA,isLeaf,const1,ustrA,simprocAttr,ti3,ti9,ti62,ti64,ca63,ca65,ca92,ca93,ca94,cf,Tryz.results80,enc_length,enc_take,sub_drop,frzL_enc,sub_closed,Option.map_some]
      refine callK_intro (by simp only [zW,zX,zD,builtinA,isLeaf,const1,ustrA,simprocAttr,enc_length,enc_take,sub_drop,frzL_enc,sub_closed,Option.map_some]; rfl) (hV _) ?_ rfl; rintro v A' ⟨rfl,rfl⟩
      cases hfit : fitI (.al [] w) with
      | false =>
        simp only [zW,zX,zD,builtinA,isLeaf,const1,ustrA,simprocAttr,ti3,ti9,ti62,ti64,ca63,ca65,ca92,ca93,ca94,cf,Tryz.results80,enc_length,enc_take,sub_drop,frzL_enc,sub_closed,Option.map_some]
      | true =>
        simp only [zW,zX,zD,builtinA,isLeaf,const1,ustrA,simprocAttr,ti3,ti9,ti62,ti64,ca63,ca65,ca92,ca93,ca94,cf,Tryz.results80,enc_length,enc_take,sub_drop,frzL_enc,sub_closed,Option.map_some]
        refine callK_intro (by simp only [zW,zX,zD,builtinA,isLeaf,const1,ustrA,simprocAttr,enc_length,enc_take,sub_drop,frzL_enc,sub_closed,Option.map_some]; rfl) (hT _) ?_ rfl; rintro v A' ⟨rfl,rfl⟩
        by_cases h : w = f
        · rw [decide_eq_true h]
          simp only [zW,zX,zD,builtinA,isLeaf,const1,ustrA,simprocAttr,ti3,ti9,ti62,ti64,ca63,ca65,ca92,ca93,ca94,cf,Tryz.results80,enc_length,enc_take,sub_drop,frzL_enc,sub_closed,Option.map_some]
          simp [h]
        · rw [decide_eq_false h]
          simp only [zW,zX,zD,builtinA,isLeaf,const1,ustrA,simprocAttr,ti3,ti9,ti62,ti64,ca63,ca65,ca92,ca93,ca94,cf,Tryz.results80,enc_length,enc_take,sub_drop,frzL_enc,sub_closed,Option.map_some]
          simp [h]
set_option maxRecDepth 100000 in
set_option maxHeartbeats 4000000 in
theorem spec_l3Known (a b : List SigI) (hs ys : List VI) (ha : a.length ≤ 1048576) (hoa : ∀ x ∈ a,x.Ok ∧ sz x.typ ≤ 1048576) (hra : RdN a (some hs)) (hb8 : b.length ≤ 8) (hr : ReadsTo b ys) (A : List Box) :
    ACalls Tryz.prog 79 [.slice (sEs a),.slice (sEs b)] A (fun r A'=>∃ B j,A' = A ++ B ∧ r = .own (A.length + j) ∧ j < B.length ∧ B.getD j .dead = .row 6 (bEs ((knownB hs ys).map ofB)) 0):=by
  have hyl:=hr.1
  have hvh:=rdN_vok hra
  refine acalls_enterK (cf:=cf 46 [0,1,4,5,6,7,8,13,34]) foll Tryz.func79 Tryz.ntmps79 (by simp [cf]) ?_
  simp only [Tryz.f79,EnterK_some,zW,zX,zD,builtinA,isLeaf,const1,ustrA,simprocAttr,ti3,ti9,ti23,ti62,ti64,ti117,ti173,ca92,cf,Tryz.results79]
  refine aloop_intro [0,1,5,6] (fun e A'=>∃ i j B,i ≤ b.length ∧ e = [(0,.slice (sEs a)),(1,.slice (sEs b)),(5,.own (A.length + j)),(6,.int .i64 i)] ∧ A' = A ++ B ∧ j < B.length ∧ B.getD j .dead = .row 6 (bEs ((knownB hs (ys.take i)).map ofB)) 0) (fun e _=>b.length - (intOf (Abs.look 6 e)).toNat) ?_ ?_
  · simp only [zW,zX,zD,builtinA,isLeaf,const1,ustrA,simprocAttr,ti3,ti9,ti23,ti62,ti64,ti117,ti173,ca92,cf,Tryz.results79]
    exact ⟨0,0,[.row 6 [] 0],by omega,rfl,rfl,by simp,rfl⟩
  · rintro e A' ⟨i,j,B,hi,rfl,rfl,hj,hg⟩
    simp only [zW,zX,zD,builtinA,isLeaf,const1,ustrA,simprocAttr,ti3,ti9,ti23,ti62,ti64,ti117,ti173,ca92,cf,Tryz.results79,sEs_length]
    refine condK_intro (fun h2=>?_) (fun h2=>?_)
    · have hi2 : i < b.length:=by simpa using h2
      have hi1 : IntKind.i64.wrap ((i : Int) + 1) = ((i + 1 : Nat) : Int):=by rw [wrap64 (by omega) (by omega)]; rfl
      have pi : (0 : Int) ≤ (i : Int) ∧ (i : Int) < (b.length : Int):=⟨by omega,by omega⟩
      have he:=sEs_getD hi2
      have hsi:=itemOf_si (hr.2 i hi2).2
      have hkn:=knownB_visS hs (ys.take i) (ys.getD i vi0)
      have htk : ys.take (i + 1) = ys.take i ++ [ys.getD i vi0]:=by rw [List.take_add_one]; simp [List.getD,show i < ys.length by omega]
      rw [← htk] at hkn
      have hbl:=knownB_len hs (ys.take i)
      have hbl2 : (ys.take i).length ≤ 8:=by simp; omega
      rw [hsi] at he
      generalize ys.getD i vi0 = y at *
      generalize knownB hs (ys.take i) = m at *
      cases y with
      | ab n =>
        simp only [siOf,sE] at he
        simp only [zW,zX,zD,builtinA,isLeaf,const1,ustrA,simprocAttr,ti3,ti9,ti23,ti62,ti64,ti117,ti173,ca92,cf,Tryz.results79,he,sEs_length,enc_length]
        refine ⟨pi,?_⟩
        refine callO_intro (spec_FindType a ha hoa n _) ?_
        rintro r A' ⟨o,hm,rfl,hA⟩
        subst hA
        have ho:=meanIs_find hra hm
        subst ho
        cases hf : findF hs (false,n) with
        | none =>
          simp only [zW,zX,zD,builtinA,isLeaf,const1,ustrA,simprocAttr,ti3,ti9,ti23,ti62,ti64,ti117,ti173,ca92,cf,Tryz.results79,hf,he,sEs_length,enc_length,enc_take,hi1,LoopK_eq]
          refine ⟨pi,⟨i + 1,j,_,by omega,rfl,rfl,by simp; omega,?_⟩,?_⟩
          · rw [Abs.getD_append_left hj,hg,hkn]; simp [visS,viK,hf]
          · simp only [intOf]; omega
        | some f =>
          have hR:=bE_ty n f
          have hgX : ∀ Y,(B ++ Y).getD j .dead = .row 6 (bEs (m.map ofB)) 0:=fun Y=>by rw [Abs.getD_append_left hj]; exact hg
          have hsX : ∀ Y : List Box,(B ++ Y).set j .dead = B.set j .dead ++ Y:=fun Y=>by rw [List.set_append_left _ _ hj]
          have hjX : ∀ n,j < B.length + n:=fun n=>by omega
          have hlf : ∀ w ∈ AV.str [] :: .str n :: enc (toTy f),isLeaf w = true:=by rw [← hR]; exact bE_leaf _
          have hrs : bEs (m.map ofB) ++ [.str [] :: .str n :: enc (toTy f)] = bEs ((m ++ [(([],n),f)]).map ofB):=by rw [← hR]; simp [bEs,ofB]
          have hvs : visS hs m (.ab n) = m ++ [(([],n),f)]:=by simp [visS,viK,hf]
          simp only [zW,zX,zD,builtinA,isLeaf,const1,ustrA,simprocAttr,ti3,ti9,ti23,ti62,ti64,ti117,ti173,ca92,cf,Tryz.results79,hf,he,oTyS,sEs_length,enc_length,enc_take]
          refine ⟨pi,?_⟩
          refine .inr (drawE_intro [(false,0,1),(false,0,0),(false,0,0),(false,0,0),(false,0,0),(false,0,0),(false,0,0),(false,0,0),(true,0,0),(true,1,1),(false,2,2)] [A ++ (B ++ [.cells (enc (toTy f))]),A ++ (B ++ [.cells (enc (toTy f)),.row 6 [.str [] :: .str n :: enc (toTy f)] 0]),A ++ (B.set j .dead ++ [.cells (enc (toTy f)),.row 6 [.str [] :: .str n :: enc (toTy f)] 0,.row 6 (bEs (m.map ofB) ++ [.str [] :: .str n :: enc (toTy f)]) 0])] 2 rfl (by kernel_rfl) (by kernel_rfl) (by kernel_rfl) (by kernel_rfl) (by kernel_rfl) (by kernel_rfl) ?_)
          simp only [zW,zX,zD,builtinA,isLeaf,const1,ustrA,simprocAttr,ti3,ti9,ti23,ti62,ti64,ti117,ti173,ca92,cf,Tryz.results79,he,hgX,hsX,hjX,sEs_length,enc_length,enc_take,sub_drop,frzL_enc,sub_closed,Option.map_some]
          refine ⟨pi,fun w hw=>hlf w hw,⟨fun r hr=>by rw [List.mem_singleton.1 hr]; simp [enc_length],by rw [bEs_length]; simp; omega⟩,?_⟩
          simp only [zW,zX,zD,builtinA,isLeaf,const1,ustrA,simprocAttr,ti3,ti9,ti23,ti62,ti64,ti117,ti173,ca92,cf,Tryz.results79,hi1,LoopK_eq]
          refine ⟨⟨i + 1,B.length + 2,_,by omega,rfl,rfl,by simp,?_⟩,?_⟩
          · rw [Abs.getD_append_right (by simp),hkn,hvs,← hrs]; simp
          · simp only [intOf]; omega
      | al n v =>
        simp only [siOf,sE] at he
        simp only [zW,zX,zD,builtinA,isLeaf,const1,ustrA,simprocAttr,ti3,ti9,ti23,ti62,ti64,ti117,ti173,ca92,cf,Tryz.results79,he,sEs_length,enc_length]
        refine ⟨pi,?_⟩
        refine callO_intro (spec_FindType a ha hoa n _) ?_
        rintro r A' ⟨o,hm,rfl,hA⟩
        subst hA
        simp only [zW,zX,zD,builtinA,isLeaf,const1,ustrA,simprocAttr,ti3,ti9,ti23,ti62,ti64,ti117,ti173,ca92,cf,Tryz.results79,he,sEs_length,enc_length,enc_take,hi1,LoopK_eq]
        refine ⟨pi,⟨i + 1,j,_,by omega,rfl,rfl,by simp; omega,?_⟩,?_⟩
        · rw [Abs.getD_append_left hj,hg,hkn]; congr 4; simp only [visS]; split <;> first | rfl | (rename_i h1 h2; cases h2)
        · simp only [intOf]; omega
      | va n v =>
        simp only [siOf,sE] at he
        simp only [zW,zX,zD,builtinA,isLeaf,const1,ustrA,simprocAttr,ti3,ti9,ti23,ti62,ti64,ti117,ti173,ca92,cf,Tryz.results79,he,sEs_length,enc_length]
        refine ⟨pi,?_⟩
        refine callO_intro (spec_FindType a ha hoa n _) ?_
        rintro r A' ⟨o,hm,rfl,hA⟩
        subst hA
        simp only [zW,zX,zD,builtinA,isLeaf,const1,ustrA,simprocAttr,ti3,ti9,ti23,ti62,ti64,ti117,ti173,ca92,cf,Tryz.results79,he,sEs_length,enc_length,enc_take,hi1,LoopK_eq]
        refine ⟨pi,⟨i + 1,j,_,by omega,rfl,rfl,by simp; omega,?_⟩,?_⟩
        · rw [Abs.getD_append_left hj,hg,hkn]; congr 4; simp only [visS]; split <;> first | rfl | (rename_i h1 h2; cases h2)
        · simp only [intOf]; omega
    · have hi2 : i = b.length:=by simp at h2; omega
      rw [List.take_of_length_le (by omega)] at hg
      simp only [zW,zX,zD,builtinA,isLeaf,const1,ustrA,simprocAttr,ti3,ti9,ti23,ti62,ti64,ti117,ti173,ca92,cf,Tryz.results79]
      exact ⟨B,j,rfl,rfl,hj,hg⟩
set_option maxRecDepth 100000 in
set_option maxHeartbeats 4000000 in
theorem spec_l3Match (a b : List SigI) (hs ws : List VI) (ha : a.length ≤ 1048576) (hoa : ∀ x ∈ a,x.Ok ∧ sz x.typ ≤ 1048576) (hb : b.length ≤ 1048576) (hob : ∀ x ∈ b,x.Ok ∧ sz x.typ ≤ 1048576) (hra : RdN a (some hs)) (hrb : RdN b (some ws)) (A : List Box) :
    ACalls Tryz.prog 47 [.slice (sEs a),.slice (sEs b)] A (fun r A'=>r = .tuple [.int .i64 (mpO (offC hs [] ws 0)).1,.int .i64 (mcO (offC hs [] ws 0))] ∧ A' = A):=by
  obtain ⟨ys,h8,hr,hordy,hn⟩:=id hrb
  have hvh:=rdN_vok hra
  have hvw:=rdN_vok hrb
  have hord : ordB ws = true:=by rw [(normL_fit hn).2]; exact ordB_norm hordy
  have hwy : ws.map absO = ys.map absO:=by rw [(normL_fit hn).2,absO_zs ys _ (Nat.le_refl _),List.take_length]
  have hkw:=knownB_abs hs hwy
  have hkl:=knownB_len hs ws
  have hko:=knownB_ok hvh.2 ws
  refine acalls_enter (cf:=cf 36 [0,1,4,5,6,8,9,10,22,33]) foll Tryz.func47 Tryz.ntmps47 (by simp [cf]) ?_
  simp only [Tryz.f47,EnterK_some,zW,zX,zD,builtinA,isLeaf,const1,ustrA,simprocAttr,ti3,ti23,ti64,ca31,ca79,ca80,cf,Tryz.results47]
  refine callO_intro (spec_NormalSig b hb hob _) ?_
  rintro r A' ⟨o,h1,rfl,hA⟩
  have hA:=hA.symm
  subst hA
  obtain rfl:=rdN_oo hrb h1
  simp only [nrR,sgR]
  simp only [zW,zX,zD,builtinA,isLeaf,const1,ustrA,simprocAttr,ti3,ti23,ti64,ca31,ca79,ca80,cf,Tryz.results47]
  refine callO_intro (spec_l3Known a b hs ys ha hoa hra h8 hr _) ?_
  rintro r A' ⟨B,j,rfl,rfl,hj,hg⟩
  rw [← hkw] at hg
  simp only [zW,zX,zD,builtinA,isLeaf,const1,ustrA,simprocAttr,ti3,ti23,ti64,ca31,ca79,ca80,cf,Tryz.results47]
  refine aloop_intro [0,6,8,9] (fun e A'=>∃ i B sf,i ≤ ws.length ∧ (∀ k,k < i → visC hs (knownB hs (ws.take k)) (ws.getD k vi0) = 0) ∧ e = [(0,.slice (sEs a)),(6,.slice (sEs (ws.map siOf))),(8,.own (A.length + j)),(9,.int .i64 i)] ∧ A' = A ++ B ∧ j < B.length ∧ B.getD j .dead = .row 6 (bEs ((knownB hs ws).map ofB)) sf) (fun e _=>ws.length - (intOf (Abs.look 9 e)).toNat) ?_ ?_
  · simp only [zW,zX,zD,builtinA,isLeaf,const1,ustrA,simprocAttr,ti3,ti23,ti64,ca31,ca79,ca80,cf,Tryz.results47]
    exact ⟨0,B,0,by omega,fun k hk=>by omega,rfl,rfl,hj,hg⟩
  · rintro e A' ⟨i,B,sf,hi,hk,rfl,rfl,hj,hg⟩
    have hlen : (sEs (ws.map siOf)).length = ws.length:=by simp [sEs_length]
    by_cases hlt : i < ws.length
    · have d2 : decide ((i : Int) < (ws.length : Int)) = true:=by simp; omega
      have pi : (0 : Int) ≤ (i : Int) ∧ (i : Int) < (ws.length : Int):=⟨by omega,by omega⟩
      have hi1 : IntKind.i64.wrap ((i : Int) + 1) = ((i + 1 : Nat) : Int):=by rw [wrap64 (by omega) (by omega)]; rfl
      have hge:=siOf_getD hlt
      have hfrom:=offC_from hs ws _ i rfl (by omega) hk
      rw [vi_drop hlt,offC,← visC_all hord hlt] at hfrom
      have hI:=fun A=>spec_l3Item a ha hoa hs hra (ws.getD i vi0) (hvw.2 i hlt) (knownB hs ws) hko (by omega) A
      have hvi:=visC_all (hs:=hs) hord hlt
      generalize hyv : ws.getD i vi0 = y at *
      generalize knownB hs ws = m at *
      have h1 : (A ++ B).getD (A.length + j) .dead = .row 6 (bEs (m.map ofB)) sf:=by
        rw [Abs.getD_append_right (by omega),show A.length + j - A.length = j by omega]; exact hg
      have hX : (A ++ B).set (A.length + j) (.row 6 (bEs (m.map ofB)) (bEs (m.map ofB)).length) = A ++ B.set j (.row 6 (bEs (m.map ofB)) (bEs (m.map ofB)).length):=by simp [List.set_append]
      have hfz : frzs [.slice (sEs a),.agg (sE (siOf y)),.own (A.length + j)] (A ++ B) = some ([.slice (sEs a),.agg (sE (siOf y)),.slice (bEs (m.map ofB))],A ++ B.set j (.row 6 (bEs (m.map ofB)) (bEs (m.map ofB)).length)):=by
        simp only [frzs,frzC,frz1,h1,hX,sE,frzL,frzL_enc,Option.map_some]
      simp only [zW,zX,zD,builtinA,isLeaf,const1,ustrA,simprocAttr,ti3,ti23,ti64,ca31,ca79,ca80,cf,Tryz.results47,hlen,d2,hge]
      have h6 : (sE (siOf y)).take 6 = sE (siOf y):=List.take_of_length_le (by rw [sE_length]; exact Nat.le_refl _)
      rw [h6]
      refine ⟨⟨pi.1,pi.2,sE_length _⟩,by rw [sE_length]; exact Nat.le_refl _,?_⟩
      refine callK_intro hfz (hI _) ?_ rfl
      rintro r A' ⟨rfl,rfl⟩
      by_cases hc : visC hs m y = 0
      · have hnx : ∀ k,k < i + 1 → visC hs (knownB hs (ws.take k)) (ws.getD k vi0) = 0:=fun k h=>by
          rcases Nat.lt_succ_iff_lt_or_eq.mp h with h1 | rfl
          · exact hk k h1
          · rw [hyv,← hvi]; exact hc
        simp only [zW,zX,zD,builtinA,isLeaf,const1,ustrA,simprocAttr,ti3,ti23,ti64,ca31,ca79,ca80,cf,Tryz.results47,hc,hi1,LoopK_eq]
        refine ⟨⟨i + 1,_,_,by omega,hnx,rfl,rfl,by simpa using hj,getD_set_self hj⟩,?_⟩
        simp only [intOf]; omega
      · rw [if_neg hc] at hfrom
        rw [hfrom]
        generalize visC hs m y = c at *
        simp only [zW,zX,zD,builtinA,isLeaf,const1,ustrA,simprocAttr,ti3,ti23,ti64,ca31,ca79,ca80,cf,Tryz.results47,decide_eq_false hc,Bool.not_false]
        simp [mpO,mcO]
    · have d2 : decide ((i : Int) < (ws.length : Int)) = false:=by simp; omega
      have e : i = ws.length:=by omega
      subst e
      rw [offC_from hs ws _ ws.length rfl (Nat.le_refl _) hk,List.drop_length,offC]
      simp only [zW,zX,zD,builtinA,isLeaf,const1,ustrA,simprocAttr,ti3,ti23,ti64,ca31,ca79,ca80,cf,Tryz.results47,hlen,d2]
      simp [mpO,mcO]
set_option maxRecDepth 100000 in
theorem spec_l3Code {a b : List SigI} {c : Int} {p : Nat × Bool} (hM : MtIs a b c p) (ha : a.length ≤ 1048576) (hoa : ∀ x ∈ a,x.Ok ∧ sz x.typ ≤ 1048576) (hb : b.length ≤ 1048576) (hob : ∀ x ∈ b,x.Ok ∧ sz x.typ ≤ 1048576) (A : List Box) :
    ACalls Tryz.prog 20 [.slice (sEs a),.slice (sEs b)] A (fun r A'=>(∃ i : Int,r = .tuple [.int .i64 i,.int .i64 c]) ∧ A' = A):=by
  refine acalls_enter (cf:=cf 23 [0,1,4,5,13,17]) foll Tryz.func20 Tryz.ntmps20 (by simp [cf]) ?_
  simp only [Tryz.f20,EnterK_some,zW,zX,zD,builtinA,isLeaf,const1,ustrA,simprocAttr,ca26,ca46,ca47,cf,Tryz.results20]
  refine callO_intro (spec_SigValid a ha hoa _) ?_
  rintro r A' ⟨rfl,hA⟩
  have hA:=hA.symm
  subst hA
  cases hsa : sigB a with
  | false =>
    have hc : c = 5:=by
      rcases hM with ⟨hs,ws,h1,h2,h3,h4⟩ | ⟨h1,h2,h3⟩
      · rw [rdN_sigB h1] at hsa; cases hsa
      · rw [h3,hsa]; simp
    subst hc
    simp only [zW,zX,zD,builtinA,isLeaf,const1,ustrA,simprocAttr,ca26,ca46,ca47,cf,Tryz.results20]
    exact ⟨_,rfl⟩
  | true =>
    simp only [zW,zX,zD,builtinA,isLeaf,const1,ustrA,simprocAttr,ca26,ca46,ca47,cf,Tryz.results20]
    refine callO_intro (spec_SigValid b hb hob _) ?_
    rintro r A' ⟨rfl,hA⟩
    have hA:=hA.symm
    subst hA
    cases hsb : sigB b with
    | false =>
      have hc : c = 5:=by
        rcases hM with ⟨hs,ws,h1,h2,h3,h4⟩ | ⟨h1,h2,h3⟩
        · rw [rdN_sigB h2] at hsb; cases hsb
        · rw [h3,hsb]; simp
      subst hc
      simp only [zW,zX,zD,builtinA,isLeaf,const1,ustrA,simprocAttr,ca26,ca46,ca47,cf,Tryz.results20]
      exact ⟨_,rfl⟩
    | true =>
      simp only [zW,zX,zD,builtinA,isLeaf,const1,ustrA,simprocAttr,ca26,ca46,ca47,cf,Tryz.results20]
      refine callO_intro (spec_l3Normal a b ha hoa hb hob _) ?_
      rintro r A' ⟨⟨oa,ob,h1,h2,rfl⟩,hA⟩
      have hA:=hA.symm
      subst hA
      rcases hM with ⟨hs,ws,h3,h4,rfl,rfl⟩ | ⟨h3,rfl,rfl⟩
      · obtain rfl:=rdN_oo h3 h1
        obtain rfl:=rdN_oo h4 h2
        simp only [zW,zX,zD,builtinA,isLeaf,const1,ustrA,simprocAttr,ca26,ca46,ca47,cf,Tryz.results20,Option.isSome_some,Bool.and_self]
        refine callO_intro (spec_l3Match a b hs ws ha hoa hb hob h3 h4 _) ?_
        rintro r A' ⟨rfl,rfl⟩
        simp only [zW,zX,zD,builtinA,isLeaf,const1,ustrA,simprocAttr,ca26,ca46,ca47,cf,Tryz.results20]
        exact ⟨_,rfl⟩
      · have hq : (oa.isSome && ob.isSome) = false:=by
          rcases h3 with h3 | h3
          · rw [rdN_oo h1 h3]; rfl
          · rw [rdN_oo h2 h3]; simp
        rw [hq,hsa,hsb]
        simp only [zW,zX,zD,builtinA,isLeaf,const1,ustrA,simprocAttr,ca26,ca46,ca47,cf,Tryz.results20]
        exact ⟨_,rfl⟩
set_option maxRecDepth 100000 in
theorem spec_MatchSigF {a b : List SigI} {c : Int} {p : Nat × Bool} (hM : MtIs a b c p) (ha : a.length ≤ 1048576) (hoa : ∀ x ∈ a,x.Ok ∧ sz x.typ ≤ 1048576) (hb : b.length ≤ 1048576) (hob : ∀ x ∈ b,x.Ok ∧ sz x.typ ≤ 1048576) (A : List Box) :
    ACalls Tryz.prog 8 [.slice (sEs a),.slice (sEs b)] A (fun r A'=>r = .int .i64 c ∧ A' = A):=by
  refine acalls_enter (cf:=cf 14 [0,1,4,6]) foll Tryz.func8 Tryz.ntmps8 (by simp [cf]) ?_
  simp only [Tryz.f8,EnterK_some,zW,zX,zD,builtinA,isLeaf,const1,ustrA,simprocAttr,ca20,cf,Tryz.results8]
  refine callO_intro (spec_l3Code hM ha hoa hb hob _) ?_
  rintro r A' ⟨⟨i,rfl⟩,rfl⟩
  simp only [zW,zX,zD,builtinA,isLeaf,const1,ustrA,simprocAttr,ca20,cf,Tryz.results8]
end Go.Proofs.YtngheinmebopeaaGreatDoor
/- Marks in a list of items that is owned. -/
set_option linter.unusedVariables false
set_option linter.unusedSimpArgs false
namespace Go.Proofs.YtngheinmebopeaaGreatDoor
open Go.Abs
theorem enc4s (t : Ty) : enc t = [.int .i64 t.kind,.str t.mod,.str t.name,.slice (encs t.kids)]:=by cases t; rw [enc]; rfl
theorem sE6 (x : SigI) : sE x = [.int .i64 x.kind,.str x.name,.int .i64 x.typ.kind,.str x.typ.mod,.str x.typ.name,.slice (encs x.typ.kids)]:=by rw [sE,enc4s]
def sRow (b : SigI) (v : AV) : List AV:=[.int .i64 b.kind,.str b.name,.int .i64 b.typ.kind,.str b.typ.mod,.str b.typ.name,v]
def OwnG (A : List Box) : List SigI → List (List AV) → List Nat → Prop
  | [],rows,S=>rows = [] ∧ S = []
  | b :: bs,rows,S=>∃ v rows' S1 S2,rows = sRow b v :: rows' ∧ S = S1 ++ S2 ∧ OwnK A b.typ.kids v S1 ∧ OwnG A bs rows' S2
theorem OwnG.frame {A A' : List Box} : ∀ {bs : List SigI} {rows : List (List AV)} {S : List Nat},OwnG A bs rows S → (∀ i ∈ S,A'.getD i .dead = A.getD i .dead) → OwnG A' bs rows S
  | [],rows,S,h,hf=>h
  | b :: bs,rows,S,h,hf=>by
    rw [OwnG] at h ⊢
    obtain ⟨v,rows',S1,S2,h1,rfl,h3,h4⟩:=h
    exact ⟨v,rows',S1,S2,h1,rfl,h3.frame fun j hj=>hf j (by simp [hj]),OwnG.frame h4 fun j hj=>hf j (by simp [hj])⟩
theorem OwnG.length {A : List Box} : ∀ {bs : List SigI} {rows : List (List AV)} {S : List Nat},OwnG A bs rows S → rows.length = bs.length
  | [],rows,S,h=>by rw [OwnG] at h; rw [h.1]; rfl
  | b :: bs,rows,S,h=>by
    rw [OwnG] at h
    obtain ⟨v,rows',S1,S2,rfl,h2,h3,h4⟩:=h
    simp [OwnG.length h4]
theorem OwnG.low {A : List Box} : ∀ {bs : List SigI} {rows : List (List AV)} {S : List Nat},OwnG A bs rows S → ∀ i ∈ S,i < A.length
  | [],rows,S,h=>by rw [OwnG] at h; rw [h.2]; simp
  | b :: bs,rows,S,h=>by
    rw [OwnG] at h
    obtain ⟨v,rows',S1,S2,h1,rfl,h3,h4⟩:=h
    intro j hj
    rcases List.mem_append.1 hj with hj | hj
    · exact h3.low j hj
    · exact OwnG.low h4 j hj
theorem OwnG.append {A : List Box} : ∀ {k1 k2 : List SigI} {r1 r2 : List (List AV)} {S1 S2 : List Nat},OwnG A k1 r1 S1 → OwnG A k2 r2 S2 → OwnG A (k1 ++ k2) (r1 ++ r2) (S1 ++ S2)
  | [],k2,r1,r2,S1,S2,h1,h2=>by
    rw [OwnG] at h1
    rw [h1.1,h1.2]; exact h2
  | t :: k1,k2,r1,r2,S1,S2,h1,h2=>by
    rw [OwnG] at h1
    obtain ⟨v,r',T1,T2,rfl,rfl,h3,h4⟩:=h1
    rw [List.cons_append,OwnG]
    exact ⟨v,r' ++ r2,T1,T2 ++ S2,by simp,by simp,h3,OwnG.append h4 h2⟩
theorem OwnG.view {A : List Box} : ∀ {bs : List SigI} {rows : List (List AV)} {S : List Nat},OwnG A bs rows S → ∀ k,k < rows.length → ∀ j,j < 6 → View A ((rows.getD k []).getD j .bot) ((sE (bs.getD k si0)).getD j .bot)
  | [],rows,S,h=>by rw [OwnG] at h; rw [h.1]; intro k hk; simp at hk
  | b :: bs,rows,S,h=>by
    rw [OwnG] at h
    obtain ⟨v,rows',S1,S2,rfl,h2,h3,h4⟩:=h
    intro k hk j hj
    cases k with
    | zero =>
      have hv:=h3.view
      have e0 : (sE ((b :: bs).getD 0 si0)) = sE b:=rfl
      rw [e0,sE6]
      match j,hj with
      | 0,_=>exact .leaf _ rfl
      | 1,_=>exact .leaf _ rfl
      | 2,_=>exact .leaf _ rfl
      | 3,_=>exact .leaf _ rfl
      | 4,_=>exact .leaf _ rfl
      | 5,_=>exact hv
    | succ k =>
      have:=OwnG.view h4 k (by simpa using hk) j hj
      simpa using this
theorem OwnG.viewG {A : List Box} {bs : List SigI} {rows : List (List AV)} {S : List Nat} {i : Nat} (h : A.getD i .dead = .gr none 6 rows) (hb : OwnG A bs rows S) : View A (.own i) (.slice (sEs bs)):=by
  refine .gr i 6 none rows (sEs bs) h (by rw [sEs_length,hb.length]) (fun r hr=>?_) fun k j hk hj=>?_
  · obtain ⟨t,_,rfl⟩:=List.mem_map.1 hr
    exact ⟨sE_length t,sE_leaf t⟩
  · unfold Abs.rowAt
    rw [sEs_getD (by rw [← hb.length]; exact hk)]
    exact hb.view k hk j hj
def NewG (A : List Box) (bs : List SigI) (j : Nat) (A' : List Box) : Prop :=
  A.length ≤ A'.length ∧ (∀ k,k < A.length → A'.getD k .dead = A.getD k .dead) ∧ ∃ rows S,A'.getD j .dead = .gr none 6 rows ∧ OwnG A' bs rows S ∧ (j :: S).Nodup ∧ ∀ i ∈ j :: S,A.length ≤ i
end Go.Proofs.YtngheinmebopeaaGreatDoor
namespace Go.Proofs.YtngheinmebopeaaGreatDoor
open Go.Abs
def OwnI (A : List Box) (xs : List SigI) (v : AV) (S : List Nat) : Prop :=
  (v = .nils ∧ xs = [] ∧ S = []) ∨ ∃ i rows S',v = .own i ∧ S = i :: S' ∧ A.getD i .dead = .gr none 6 rows ∧ OwnG A xs rows S'
theorem OwnI.frame {A A' : List Box} {xs : List SigI} {v : AV} {S : List Nat} (h : OwnI A xs v S) (hf : ∀ i ∈ S,A'.getD i .dead = A.getD i .dead) : OwnI A' xs v S:=by
  rcases h with h | ⟨i,rows,S',h1,h2,h3,h4⟩
  · exact .inl h
  · subst h2
    exact .inr ⟨i,rows,S',h1,rfl,by rw [hf i (by simp)]; exact h3,h4.frame fun j hj=>hf j (by simp [hj])⟩
theorem OwnI.low {A : List Box} {xs : List SigI} {v : AV} {S : List Nat} (h : OwnI A xs v S) : ∀ i ∈ S,i < A.length:=by
  rcases h with ⟨_,_,rfl⟩ | ⟨i,rows,S',h1,rfl,h3,h4⟩
  · simp
  · intro j hj
    rcases List.mem_cons.1 hj with rfl | hj
    · exact live_lt h3 (by simp)
    · exact h4.low j hj
theorem OwnI.view {A : List Box} {xs : List SigI} {v : AV} {S : List Nat} (h : OwnI A xs v S) : View A v (.slice (sEs xs)):=by
  rcases h with ⟨rfl,rfl,_⟩ | ⟨i,rows,S',rfl,_,h3,h4⟩
  · exact .nils
  · exact OwnG.viewG h3 h4
end Go.Proofs.YtngheinmebopeaaGreatDoor
namespace Go.Proofs.YtngheinmebopeaaGreatDoor
open Go.Abs
end Go.Proofs.YtngheinmebopeaaGreatDoor
/- What a signature's method plain makes: items that are owned. -/
set_option linter.unusedVariables false
set_option linter.unusedSimpArgs false
namespace Go.Proofs.YtngheinmebopeaaGreatDoor
open Go.Abs
def NewS (A : List Box) (x : SigI) (cs : List AV) (A' : List Box) : Prop :=
  A.length ≤ A'.length ∧ (∀ k,k < A.length → A'.getD k .dead = A.getD k .dead) ∧ ∃ v S,cs = sRow x v ∧ OwnK A' x.typ.kids v S ∧ S.Nodup ∧ (∀ i ∈ S,A.length ≤ i) ∧ (v = .nils ∨ ∃ i,v = .own i)
def PlI (y : VI) : Prop:=∀ A,ACalls Tryz.prog ((pickI 146 152 158) y) [viX y] A (fun r A'=>∃ cs,r = .agg cs ∧ NewS A (siOf y) cs A')
theorem prow_row (x : SigI) (w : VT) (h : x.typ = toTy w) (n : Nat) : ∃ v,prow w n true = [.int .i64 x.typ.kind,.str x.typ.mod,.str x.typ.name,v] ∧ (v = .nils ∨ ∃ i,v = .own i):=by
  rw [h]
  cases w with
  | num=>exact ⟨_,rfl,.inl rfl⟩
  | nm m k=>exact ⟨_,rfl,.inl rfl⟩
  | fn a b=>exact ⟨_,rfl,.inr ⟨_,rfl⟩⟩
theorem newS_of {A : List Box} {x : SigI} {w : VT} (h : x.typ = toTy w) {B0 B1 : List Box} {n : Nat} (hn : n = A.length + B0.length) : NewS A x (.int .i64 x.kind :: .str x.name :: prow w n true) (A ++ (B0 ++ (pbox w n ++ B1))):=by
  obtain ⟨v,hv,hv2⟩:=prow_row x w h n
  have ho:=own_plain w n true (A ++ (B0 ++ (pbox w n ++ B1))) fun k hk=>by
    rw [Abs.getD_append_right (by omega),Abs.getD_append_right (by omega),Abs.getD_append_left (by rw [pbox_length]; omega)]
    congr 1; omega
  rw [hv] at ho
  refine ⟨by simp,fun k hk=>Abs.getD_append_left hk,v,pidx w n,by rw [hv]; rfl,?_,pidx_nodup _ _,fun i hi=>by have:=pidx_in _ _ i hi; omega,hv2⟩
  rw [h]
  cases ht : toTy w with
  | mk k m n ks =>
    rw [ht,ownT_mk] at ho
    obtain ⟨v',e,hK⟩:=ho
    simp only [List.cons.injEq,and_true] at e
    rw [e.2.2.2]
    exact hK
set_option maxRecDepth 100000 in
theorem ab_plain (n : List UInt8) : PlI (.ab n):=fun A=>by
  show ACalls Tryz.prog 146 _ _ _
  rw [viX]
  refine acalls_enterK (cf:=cf 6 [0,1,2]) foll Tryz.func146 Tryz.ntmps146 (by simp [cf]) ?_
  simp only [Tryz.f146,EnterK_some,zW,zX,zD,builtinA,isLeaf,const1,ustrA,simprocAttr,ti9,ti64,ti151,cf,Tryz.results146]
  exact ⟨_,rfl,by simp,fun k hk=>Abs.getD_append_left hk,.nils,[],rfl,.inl ⟨rfl,rfl,rfl⟩,by simp,by simp,.inl rfl⟩
set_option maxRecDepth 100000 in
theorem al_plain (n : List UInt8) (v : VT) : PlI (.al n v):=fun A=>by
  show ACalls Tryz.prog 152 _ _ _
  have cv : ACalls Tryz.prog ((pickF 164 171 128) v) [vX v] (A ++ [Box.cells [.str n,.iface (vT v) (vX v)],Box.cells [.int .i64 0,.str [],.int .i64 0,.str [],.str [],.nils]]) (fun r A'=>r = .agg (prow v (A.length + 2) true) ∧ A' = A ++ (Box.cells [.str n,.iface (vT v) (vX v)] :: Box.cells [.int .i64 0,.str [],.int .i64 0,.str [],.str [],.nils] :: pbox v (A.length + 2))):=by
    have:=plainM v (A ++ [Box.cells [.str n,.iface (vT v) (vX v)],Box.cells [.int .i64 0,.str [],.int .i64 0,.str [],.str [],.nils]])
    simpa using this
  have hpl : ∀ n,(prow v n true).length = 4:=fun n=>prow_length _ _ _
  rw [viX]
  refine acalls_enterK (cf:=cf 9 [0,1,2]) foll Tryz.func152 Tryz.ntmps152 (by simp [cf]) ?_
  simp only [Tryz.f152,EnterK_some,zW,zX,zD,builtinA,isLeaf,const1,ustrA,simprocAttr,ti9,ti64,ti126,ti158,cf,Tryz.results152]
  refine .inr (drawE_intro [(false,0,1),(false,0,1),(false,0,0),(false,0,0),(true,0,0),(false,1,1),(true,1,1)] [A ++ [Box.cells [.str n,.iface (vT v) (vX v)],Box.cells [.int .i64 0,.str [],.int .i64 0,.str [],.str [],.nils]],A ++ (Box.cells [.str n,.iface (vT v) (vX v)] :: Box.cells [.int .i64 0,.str [],.int .i64 0,.str [],.str [],.nils] :: pbox v (A.length + 2)),A ++ (Box.cells [.str n,.iface (vT v) (vX v)] :: Box.cells (.int .i64 2 :: .str n :: prow v (A.length + 2) true) :: pbox v (A.length + 2))] 2 rfl (by kernel_rfl) (by kernel_rfl) (by kernel_rfl) (by kernel_rfl) (by kernel_rfl) (by kernel_rfl) ?_)
  simp only [zW,zX,zD,builtinA,isLeaf,const1,ustrA,simprocAttr,ti9,ti64,ti126,ti158,cf,Tryz.results152]
  refine wpG_invoke _ _ _ _ _ _ _ _ _ _ _ _ _ _ _ _ _ _ ?_
  simp only [zW,zX,zD,builtinA,isLeaf,const1,ustrA,simprocAttr,ti9,ti64,ti126,ti158,cf,Tryz.results152]
  refine meth_invE (met3 (by kernel_rfl) (by kernel_rfl) (by kernel_rfl) (by kernel_rfl) (by kernel_rfl) (by kernel_rfl)) cv rfl ?_
  simp only [zW,zX,zD,builtinA,isLeaf,const1,ustrA,simprocAttr,ti9,ti64,ti126,ti158,cf,Tryz.results152,hpl]
  rw [List.take_of_length_le (Nat.le_of_eq (hpl _))]
  have h:=newS_of (A:=A) (x:=siOf (.al n v)) (w:=v) rfl (B0:=[Box.cells [.str n,.iface (vT v) (vX v)],Box.cells (.int .i64 2 :: .str n :: prow v (A.length + 2) true)]) (B1:=[]) (n:=A.length + 2) rfl
  rw [List.append_nil] at h
  exact ⟨_,rfl,h⟩
set_option maxRecDepth 100000 in
theorem va_plain (n : List UInt8) (v : VT) : PlI (.va n v):=fun A=>by
  show ACalls Tryz.prog 158 _ _ _
  have cv : ACalls Tryz.prog ((pickF 164 171 128) v) [vX v] (A ++ [Box.cells [.str n,.iface (vT v) (vX v)],Box.cells [.int .i64 0,.str [],.int .i64 0,.str [],.str [],.nils]]) (fun r A'=>r = .agg (prow v (A.length + 2) true) ∧ A' = A ++ (Box.cells [.str n,.iface (vT v) (vX v)] :: Box.cells [.int .i64 0,.str [],.int .i64 0,.str [],.str [],.nils] :: pbox v (A.length + 2))):=by
    have:=plainM v (A ++ [Box.cells [.str n,.iface (vT v) (vX v)],Box.cells [.int .i64 0,.str [],.int .i64 0,.str [],.str [],.nils]])
    simpa using this
  have hpl : ∀ n,(prow v n true).length = 4:=fun n=>prow_length _ _ _
  rw [viX]
  refine acalls_enterK (cf:=cf 9 [0,1,2]) foll Tryz.func158 Tryz.ntmps158 (by simp [cf]) ?_
  simp only [Tryz.f158,EnterK_some,zW,zX,zD,builtinA,isLeaf,const1,ustrA,simprocAttr,ti9,ti64,ti126,ti159,cf,Tryz.results158]
  refine .inr (drawE_intro [(false,0,1),(false,0,1),(false,0,0),(false,0,0),(true,0,0),(false,1,1),(true,1,1)] [A ++ [Box.cells [.str n,.iface (vT v) (vX v)],Box.cells [.int .i64 0,.str [],.int .i64 0,.str [],.str [],.nils]],A ++ (Box.cells [.str n,.iface (vT v) (vX v)] :: Box.cells [.int .i64 0,.str [],.int .i64 0,.str [],.str [],.nils] :: pbox v (A.length + 2)),A ++ (Box.cells [.str n,.iface (vT v) (vX v)] :: Box.cells (.int .i64 3 :: .str n :: prow v (A.length + 2) true) :: pbox v (A.length + 2))] 2 rfl (by kernel_rfl) (by kernel_rfl) (by kernel_rfl) (by kernel_rfl) (by kernel_rfl) (by kernel_rfl) ?_)
  simp only [zW,zX,zD,builtinA,isLeaf,const1,ustrA,simprocAttr,ti9,ti64,ti126,ti159,cf,Tryz.results158]
  refine wpG_invoke _ _ _ _ _ _ _ _ _ _ _ _ _ _ _ _ _ _ ?_
  simp only [zW,zX,zD,builtinA,isLeaf,const1,ustrA,simprocAttr,ti9,ti64,ti126,ti159,cf,Tryz.results158]
  refine meth_invE (met3 (by kernel_rfl) (by kernel_rfl) (by kernel_rfl) (by kernel_rfl) (by kernel_rfl) (by kernel_rfl)) cv rfl ?_
  simp only [zW,zX,zD,builtinA,isLeaf,const1,ustrA,simprocAttr,ti9,ti64,ti126,ti159,cf,Tryz.results158,hpl]
  rw [List.take_of_length_le (Nat.le_of_eq (hpl _))]
  have h:=newS_of (A:=A) (x:=siOf (.va n v)) (w:=v) rfl (B0:=[Box.cells [.str n,.iface (vT v) (vX v)],Box.cells (.int .i64 3 :: .str n :: prow v (A.length + 2) true)]) (B1:=[]) (n:=A.length + 2) rfl
  rw [List.append_nil] at h
  exact ⟨_,rfl,h⟩
theorem plI : ∀ y,PlI y
  | .ab n=>ab_plain n
  | .al n v=>al_plain n v
  | .va n v=>va_plain n v
set_option maxRecDepth 100000 in
set_option maxHeartbeats 4000000 in
theorem impl_plainItems (ys : List VI) (hl : ys.length ≤ 1000) (A : List Box) : ACalls Tryz.prog 55 [.slice (vRows ys)] A (fun r A'=>∃ j,r = .own j ∧ NewG A (ys.map siOf) j A'):=by
  have hl2 : ((vRows ys).length : Int) ≤ 1000:=by rw [vRows_length]; omega
  refine ACalls.grow ?_
  refine acalls_enterK (cf:=cf 23 [0,2,3,4,5,9,10,11,12]) foll Tryz.func55 Tryz.ntmps55 (by simp [cf]) ?_
  simp only [Tryz.f55,EnterK_some,zW,zX,zD,builtinA,isLeaf,const1,ustrA,simprocAttr,ti3,ti23,ti37,ti64,ti104,cf,Tryz.results55]
  refine ⟨⟨by omega,by omega,by omega⟩,?_⟩
  refine aloop_intro [3,9,10,11] (fun e A'=>∃ (p : Nat) (rl : List (List AV)) (SL : List Nat) (g : Bool),p ≤ ys.length ∧ e = [(3,.own A.length),(9,.slice (vRows ys)),(10,.int .i64 ys.length),(11,.int .i64 p)] ∧ A'.getD A.length .dead = (bif g then .gr none 6 (rl ++ List.replicate (ys.length - p) zsi) else .row 6 (rl ++ List.replicate (ys.length - p) zsi) 0) ∧
    rl.length = p ∧ OwnG A' ((ys.map siOf).take p) rl SL ∧ SL.Nodup ∧ (∀ i ∈ SL,A.length < i) ∧ A.length < A'.length ∧ ∀ k,k < A.length → A'.getD k .dead = A.getD k .dead) (fun e _=>ys.length - (intOf (Abs.look 11 e)).toNat) ?_ ?_
  · simp only [zW,zX,zD,builtinA,isLeaf,const1,ustrA,simprocAttr,ti3,ti23,ti37,ti64,ti104,cf,Tryz.results55,vRows_length]
    refine ⟨0,[],[],false,by omega,rfl,?_,rfl,by simp [OwnG],by simp,by simp,by simp,fun k hk=>Abs.getD_append_left hk⟩
    rfl
  · rintro e A' ⟨p,rl,SL,g,hp,rfl,hb,hrl,hO,hN,hlo,hlt,hfr⟩
    by_cases hp2 : p < ys.length
    · have d2 : decide ((p : Int) < (ys.length : Int)) = true:=by simp; omega
      have he:=vRows_getD hp2
      have hsi : ((ys.map siOf).take p ++ [siOf (ys.getD p vi0)]) = (ys.map siOf).take (p + 1):=by
        rw [List.take_add_one]; simp [List.getD,hp2]
      generalize hyv : ys.getD p vi0 = y at *
      rw [vRow] at he
      simp only [zW,zX,zD,builtinA,isLeaf,const1,ustrA,simprocAttr,ti3,ti23,ti37,ti64,ti104,cf,Tryz.results55,vRows_length,d2,he]
      refine ⟨⟨by omega,by omega⟩,?_⟩
      refine wpO_invoke _ _ _ _ _ _ _ _ _ _ _ _ _ _ _ _ ?_
      simp only [zW,zX,zD,builtinA,isLeaf,const1,ustrA,simprocAttr,ti3,ti23,ti37,ti64,ti104,cf,Tryz.results55]
      refine methI_invK (metI3 (by kernel_rfl) (by kernel_rfl) (by kernel_rfl) (by kernel_rfl) (by kernel_rfl) (by kernel_rfl)) (plI y _) rfl (fun _=>rfl) ?_
      rintro r A3 ⟨cs,rfl,hle,hf3,v,S,rfl,hK,hND,hge,hv⟩
      have hi1 : IntKind.i64.wrap ((p : Int) + 1) = ((p + 1 : Nat) : Int):=by rw [wrap64 (by omega) (by omega)]; rfl
      have hb3 : A3.getD A.length .dead = (bif g then .gr none 6 (rl ++ List.replicate (ys.length - p) zsi) else .row 6 (rl ++ List.replicate (ys.length - p) zsi) 0):=by rw [hf3 _ hlt]; exact hb
      have hz : ∀ v,(rl ++ List.replicate (ys.length - p) zsi).set p (sRow (siOf y) v) = (rl ++ [sRow (siOf y) v]) ++ List.replicate (ys.length - (p + 1)) zsi:=fun v=>by
        rw [show ys.length - p = (ys.length - (p + 1)) + 1 by omega,List.replicate_succ,List.set_append_right _ _ (by omega),hrl,Nat.sub_self]
        simp
      have hlr : (rl ++ List.replicate (ys.length - p) zsi).length = ys.length:=by simp; omega
      have hdz : List.drop 6 ((rl ++ List.replicate (ys.length - p) zsi).getD p []) = []:=by
        rw [Abs.getD_append_right (by omega),hrl,Nat.sub_self,getD_repl (by omega)]; rfl
      have hpr : (0 : Int) ≤ (p : Int) ∧ (p : Int) < ((ys.length : Nat) : Int):=⟨by omega,by omega⟩
      have fin : ∀ (g' : Bool) (v : AV) (Z : Box),OwnK A3 (siOf y).typ.kids v S → Z = (bif g' then Box.gr none 6 ((rl ++ [sRow (siOf y) v]) ++ List.replicate (ys.length - (p + 1)) zsi) else .row 6 ((rl ++ [sRow (siOf y) v]) ++ List.replicate (ys.length - (p + 1)) zsi) 0) → ∃ (p' : Nat) (rl' : List (List AV)) (SL' : List Nat) (g' : Bool),p' ≤ ys.length ∧ [(3,AV.own A.length),(9,.slice (vRows ys)),(10,.int .i64 ys.length),(11,.int .i64 ((p + 1 : Nat) : Int))] = [(3,.own A.length),(9,.slice (vRows ys)),(10,.int .i64 ys.length),(11,.int .i64 p')] ∧ (A3.set A.length Z).getD A.length .dead = (bif g' then .gr none 6 (rl' ++ List.replicate (ys.length - p') zsi) else .row 6 (rl' ++ List.replicate (ys.length - p') zsi) 0) ∧
          rl'.length = p' ∧ OwnG (A3.set A.length Z) ((ys.map siOf).take p') rl' SL' ∧ SL'.Nodup ∧ (∀ i ∈ SL',A.length < i) ∧ A.length < (A3.set A.length Z).length ∧ ∀ k,k < A.length → (A3.set A.length Z).getD k .dead = A.getD k .dead:=fun g' v Z hK hZ=>by
        have hlt3 : A.length < A3.length:=by omega
        have low:=hO.low
        refine ⟨p + 1,rl ++ [sRow (siOf y) v],SL ++ S,g',by omega,rfl,?_,by simp [hrl],?_,?_,?_,by simpa using hlt3,fun k hk=>?_⟩
        · rw [getD_set_self hlt3]; exact hZ
        · rw [← hsi]
          refine (hO.frame fun i hi=>?_).append ?_
          · have h1:=hlo i hi
            have h2:=low i hi
            rw [getD_set_ne' (by omega),hf3 i h2]
          · rw [OwnG]
            refine ⟨v,[],S,[],rfl,by simp,hK.frame fun i hi=>?_,by simp [OwnG]⟩
            have:=hge i hi
            rw [getD_set_ne' (by omega)]
        · refine List.nodup_append.2 ⟨hN,hND,fun x hx y hy=>?_⟩
          have:=low x hx
          have:=hge y hy
          omega
        · intro i hi
          rcases List.mem_append.1 hi with hi | hi
          · exact hlo i hi
          · have:=hge i hi; omega
        · rw [getD_set_ne' (by omega),hf3 k (by omega),hfr k hk]
      have lf : ∀ w ∈ sRow (siOf y) (.slice []),isLeaf w = true:=by simp [sRow,isLeaf]
      have el : ∀ w ∈ sRow (siOf y) (.slice []),isElem w = true:=by simp [sRow,isElem,isLeaf]
      have el2 : ∀ i,∀ w ∈ sRow (siOf y) (.own i),isElem w = true:=by simp [sRow,isElem,isLeaf]
      have mz : ∀ {P : Prop},P → P ∧ ys.length - (intOf (AV.int .i64 ((p + 1 : Nat) : Int))).toNat < ys.length - (intOf (AV.int .i64 (p : Int))).toNat:=fun h=>⟨h,by simp only [intOf]; omega⟩
      rcases hv with rfl | ⟨i,rfl⟩
      · have hK2 : OwnK A3 (siOf y).typ.kids (.slice []) S:=by
          rcases hK with ⟨_,h1,h2⟩ | ⟨h0,_⟩ | ⟨i,_,_,h0,_⟩
          · exact .inr (.inl ⟨rfl,h1,h2⟩)
          · cases h0
          · cases h0
        have fin2:=fun g' Z=>fin g' (.slice []) Z hK2
        have hz2:=hz (.slice [])
        clear fin hz
        simp only [sRow] at hz2 fin2 lf el ⊢
        cases g with
        | false =>
          simp only [cond_false] at hb3
          simp only [zW,zX,zD,builtinA,isLeaf,const1,ustrA,simprocAttr,ti3,ti23,ti37,ti64,ti104,cf,Tryz.results55,hb3,hlr,hz2,hdz,hi1,LoopK_eq]
          exact ⟨hpr,⟨by omega,by omega,fun w hw=>lf w hw⟩,mz (by simpa only [cond_false,cond_true,List.append_assoc,List.cons_append,List.nil_append,List.length_set] using fin2 false _ rfl)⟩
        | true =>
          simp only [cond_true] at hb3
          simp only [zW,zX,zD,builtinA,isLeaf,const1,ustrA,simprocAttr,ti3,ti23,ti37,ti64,ti104,cf,Tryz.results55,hb3,hlr,hz2,hdz,hi1,LoopK_eq]
          exact ⟨hpr,⟨by omega,fun w hw=>el w hw⟩,mz (by simpa only [cond_false,cond_true,List.append_assoc,List.cons_append,List.nil_append,List.length_set] using fin2 true _ rfl)⟩
      · obtain ⟨rws,hg⟩ : ∃ rws,A3.getD i .dead = .gr none 4 rws:=by
          rcases hK with ⟨h0,_⟩ | ⟨h0,_⟩ | ⟨i',rws,_,h0,_,hg,_⟩
          · cases h0
          · cases h0
          · cases h0; exact ⟨rws,hg⟩
        have fin2:=fun g' Z=>fin g' (.own i) Z hK
        have hz2:=hz (.own i)
        clear fin hz
        simp only [sRow] at hz2 fin2 el2 ⊢
        cases g with
        | false =>
          simp only [cond_false] at hb3
          simp only [zW,zX,zD,builtinA,isLeaf,const1,ustrA,simprocAttr,ti3,ti23,ti37,ti64,ti104,cf,Tryz.results55,hb3,hg,hlr,hz2,hdz,hi1,LoopK_eq]
          exact ⟨hpr,⟨by omega,fun w hw=>el2 i w hw⟩,mz (by simpa only [cond_false,cond_true,List.append_assoc,List.cons_append,List.nil_append,List.length_set] using fin2 true _ rfl)⟩
        | true =>
          simp only [cond_true] at hb3
          simp only [zW,zX,zD,builtinA,isLeaf,const1,ustrA,simprocAttr,ti3,ti23,ti37,ti64,ti104,cf,Tryz.results55,hb3,hg,hlr,hz2,hdz,hi1,LoopK_eq]
          exact ⟨hpr,⟨by omega,fun w hw=>el2 i w hw⟩,mz (by simpa only [cond_false,cond_true,List.append_assoc,List.cons_append,List.nil_append,List.length_set] using fin2 true _ rfl)⟩
    · have d2 : decide ((p : Int) < (ys.length : Int)) = false:=by simp; omega
      have e : p = ys.length:=by omega
      subst e
      simp only [zW,zX,zD,builtinA,isLeaf,const1,ustrA,simprocAttr,ti3,ti23,ti37,ti64,ti104,cf,Tryz.results55,d2]
      rw [List.take_of_length_le (by simp)] at hO
      have low:=hO.low
      have hnd : (A.length :: SL).Nodup:=List.nodup_cons.2 ⟨fun h=>by have:=hlo _ h; omega,hN⟩
      have hge : ∀ i ∈ A.length :: SL,A.length ≤ i:=fun i hi=>by
        rcases List.mem_cons.1 hi with rfl | hi
        · exact Nat.le_refl _
        · have:=hlo i hi; omega
      have e0 : rl ++ List.replicate (ys.length - ys.length) zsi = rl:=by simp
      rw [e0] at hb
      cases g with
      | false=>exact .inr ⟨A.length,6,rl,hb,A.length,rfl,by simp; omega,fun k hk=>by rw [getD_set_ne' (by omega)]; exact hfr k hk,rl,SL,getD_set_self hlt,hO.frame fun i hi=>by have:=hlo i hi; rw [getD_set_ne' (by omega)],hnd,hge⟩
      | true=>exact .inl ⟨A.length,rfl,by omega,hfr,rl,SL,hb,hO,hnd,hge⟩
end Go.Proofs.YtngheinmebopeaaGreatDoor
/- What NormalSig and the like hand back: a list of items that is new memory. -/
set_option linter.unusedVariables false
set_option linter.unusedSimpArgs false
namespace Go.Proofs.YtngheinmebopeaaGreatDoor
open Go.Abs
theorem OwnK.free {A : List Box} {ks : List Ty} {v : AV} {S : List Nat} (h : OwnK A ks v S) : ifree v = true ∧ ∀ i ∈ S,ifreeB (A.getD i .dead) = true:=by
  have h2:=OwnT.free (ownT_mk.2 ⟨v,rfl,h⟩ : OwnT A (.mk 0 [] [] ks) _ S)
  simpa [ifrees,ifree] using h2
theorem OwnG.free {A : List Box} : ∀ {xs : List SigI} {rows : List (List AV)} {S : List Nat},OwnG A xs rows S → rows.all ifrees = true ∧ ∀ i ∈ S,ifreeB (A.getD i .dead) = true
  | [],rows,S,h=>by rw [OwnG] at h; rw [h.1,h.2]; exact ⟨rfl,by simp⟩
  | t :: ks,rows,S,h=>by
    rw [OwnG] at h
    obtain ⟨v,rows',S1,S2,rfl,rfl,h3,h4⟩:=h
    have a:=h3.free
    have b:=OwnG.free h4
    refine ⟨by rw [List.all_cons,b.1]; simp [sRow,ifrees,ifree,a.1],fun j hj=>?_⟩
    rcases List.mem_append.1 hj with hj | hj
    · exact a.2 j hj
    · exact b.2 j hj
theorem OwnI.free {A : List Box} {xs : List SigI} {v : AV} {S : List Nat} (h : OwnI A xs v S) : ifree v = true ∧ ∀ i ∈ S,ifreeB (A.getD i .dead) = true:=by
  rcases h with ⟨rfl,_,rfl⟩ | ⟨i,rows,S',rfl,rfl,h3,h4⟩
  · exact ⟨rfl,by simp⟩
  · refine ⟨rfl,fun j hj=>?_⟩
    have h5:=h4.free
    rcases List.mem_cons.1 hj with rfl | hj
    · rw [h3]; exact h5.1
    · exact h5.2 j hj
def SgOut (A : List Box) (xs : List SigI) (ok : Bool) (r : AV) (A' : List Box) : Prop :=
  ∃ v S,r = .tuple [v,.bool ok] ∧ OwnI A' xs v S ∧ S.Nodup ∧ (∀ i ∈ S,A.length ≤ i) ∧ A.length ≤ A'.length ∧ ∀ i,i < A.length → A'.getD i .dead = A.getD i .dead
def SgNew (A : List Box) (xs : List SigI) (ok : Bool) (r : AV) (A' : List Box) : Prop :=
  ∃ B v S,A' = A ++ B ∧ (∀ b ∈ B,ifreeB b = true) ∧ r = .tuple [v,.bool ok] ∧ ifree v = true ∧ OwnI A' xs v S ∧ S.Nodup ∧ ∀ i ∈ S,A.length ≤ i ∧ i < A'.length
theorem sgNew_of {A A' : List Box} {xs : List SigI} {ok : Bool} {r : AV} (h : SgOut A xs ok r A') : ∃ keep,SgNew A xs ok r (only keep A'):=by
  obtain ⟨v,S,rfl,hT,hN,hge,hl,hf⟩:=h
  refine ⟨fun k=>decide (k < A.length) || decide (k ∈ S),?_⟩
  have hfree:=hT.free
  have hlow:=hT.low
  generalize hkp : (fun k=>decide (k < A.length) || decide (k ∈ S)) = keep
  have k1 : ∀ k,k < A.length → keep k = true:=fun k hk=>by rw [← hkp]; simp [hk]
  have k2 : ∀ k,k ∈ S → keep k = true:=fun k hk=>by rw [← hkp]; simp [hk]
  have k3 : ∀ k,A.length ≤ k → keep k = true → k ∈ S:=fun k h1 h2=>by
    rw [← hkp] at h2
    simp at h2
    rcases h2 with h2 | h2
    · omega
    · exact h2
  have e:=split_front (A:=A) (A':=only keep A') (by rw [only_length]; exact hl) (fun k hk=>by rw [only_getD,if_pos (k1 k hk)]; exact hf k hk)
  refine ⟨_,v,S,e,fun b hb=>?_,rfl,hfree.1,hT.frame fun i hi=>by rw [only_getD,if_pos (k2 i hi)],hN,fun i hi=>⟨hge i hi,by rw [only_length]; exact hlow i hi⟩⟩
  obtain ⟨i,hi,rfl⟩:=List.mem_iff_getElem.1 hb
  rw [List.getElem_drop]
  have hi2 : A.length + i < (only keep A').length:=by simp at hi; omega
  have e2 : (only keep A')[A.length + i] = (only keep A').getD (A.length + i) .dead:=by simp [List.getD,hi2]
  rw [e2,only_getD]
  split
  · rename_i hk; exact hfree.2 _ (k3 _ (by omega) hk)
  · rfl
theorem sg_call {f : FuncId} {args : List AV} {xs : List SigI} {ok : Bool} (h : ∀ A,ACalls Tryz.prog f args A (fun r A'=>SgOut A xs ok r A')) (A : List Box) : ACalls Tryz.prog f args A (SgNew A xs ok) :=
  ACalls.only ((h A).mono fun r A' h=>sgNew_of h)
set_option maxRecDepth 100000 in
theorem impl_plainSig (ys : List VI) (hl : ys.length ≤ 1000) (A : List Box) : ACalls Tryz.prog 25 [.slice (vRows ys)] A (fun r A'=>∃ j,r = .own j ∧ NewG A (ys.map siOf) j A'):=by
  refine acalls_enterK (cf:=cf 5 [0,2]) foll Tryz.func25 Tryz.ntmps25 (by simp [cf]) ?_
  simp only [Tryz.f25,EnterK_some,zW,zX,zD,builtinA,isLeaf,const1,ustrA,simprocAttr,ca55,cf,Tryz.results25]
  refine callO_intro (impl_plainItems ys hl _) ?_
  rintro r A' ⟨j,rfl,h⟩
  simp only [zW,zX,zD,builtinA,isLeaf,const1,ustrA,simprocAttr,ca55,cf,Tryz.results25]
  exact ⟨j,rfl,h⟩
end Go.Proofs.YtngheinmebopeaaGreatDoor
