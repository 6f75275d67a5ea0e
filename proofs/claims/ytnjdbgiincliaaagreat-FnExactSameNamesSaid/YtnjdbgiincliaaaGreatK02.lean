/- Zero0, TypesImpl, TypesVal. -/
import Derived.Test.YtnjdbgiincliaaaGreatK01
import Derived.Test.YtnjdbgiincliaaaGreatAbsW3
/- The program's comparison of a type with the zero type. -/
set_option linter.unusedVariables false
set_option linter.unusedSimpArgs false
namespace Go.Proofs.YtnjdbgiincliaaaGreat
open Go.Abs
theorem encQ4 (t : Ty) : enc t = [.int .i64 t.kind,.str t.mod,.str t.name,.slice (encs t.kids)]:=by cases t; rw [enc]; rfl
def tcF1 : AV:=.func (.func 193) [] []
def tcF2 : AV:=.func (.func 194) [] []
set_option maxRecDepth 100000 in
theorem tc_kids (t : Ty) (A : List Box) : ACalls Tryz.prog 193 [.agg (enc t)] A (fun r A'=>r = .slice (encs t.kids) ∧ A' = A):=by
  rw [encQ4]
  refine acalls_enter (cf:=cf 5 [0,1,2]) foll Tryz.func193 Tryz.ntmps193 (by simp [cf]) ?_
  simp only [Tryz.f193,EnterK_some,zW,zX,zD,builtinA,isLeaf,const1,Nat.reduceAdd,Nat.reduceMul,Nat.reduceSub,Nat.reduceLT,Nat.reduceLeDiff,Nat.reduceEqDiff,Nat.reduceBEq,Nat.reduceBNe,reduceIte,reduceCtorEq,Int.reduceToNat,Int.reduceLT,Int.reduceLE,Int.reduceEq,Int.reduceNe,Int.reduceNeg,ustrA,ti34,ti36,cf,Tryz.results193]
set_option maxRecDepth 100000 in
theorem tc_same (s t : Ty) (A : List Box) : ACalls Tryz.prog 194 [.agg (enc s),.agg (enc t)] A (fun r A'=>r = .bool (decide (s.kind = t.kind) && decide (s.mod = t.mod) && decide (s.name = t.name)) ∧ A' = A):=by
  rw [encQ4,encQ4]
  refine acalls_enter (cf:=cf 24 [0,1,2,3,4]) foll Tryz.func194 Tryz.ntmps194 (by simp [cf]) ?_
  simp only [Tryz.f194,EnterK_some,zW,zX,zD,builtinA,isLeaf,const1,Nat.reduceAdd,Nat.reduceMul,Nat.reduceSub,Nat.reduceLT,Nat.reduceLeDiff,Nat.reduceEqDiff,Nat.reduceBEq,Nat.reduceBNe,reduceIte,reduceCtorEq,Int.reduceToNat,Int.reduceLT,Int.reduceLE,Int.reduceEq,Int.reduceNe,Int.reduceNeg,ustrA,ti3,ti9,ti36,cf,Tryz.results194]
  by_cases h1 : s.kind = t.kind
  · by_cases h2 : s.mod = t.mod
    · simp only [zW,zX,zD,builtinA,isLeaf,const1,Nat.reduceAdd,Nat.reduceMul,Nat.reduceSub,Nat.reduceLT,Nat.reduceLeDiff,Nat.reduceEqDiff,Nat.reduceBEq,Nat.reduceBNe,reduceIte,reduceCtorEq,Int.reduceToNat,Int.reduceLT,Int.reduceLE,Int.reduceEq,Int.reduceNe,Int.reduceNeg,ustrA,ti3,ti9,ti36,cf,Tryz.results194,decide_eq_true h1,decide_eq_true h2]
    · simp only [zW,zX,zD,builtinA,isLeaf,const1,Nat.reduceAdd,Nat.reduceMul,Nat.reduceSub,Nat.reduceLT,Nat.reduceLeDiff,Nat.reduceEqDiff,Nat.reduceBEq,Nat.reduceBNe,reduceIte,reduceCtorEq,Int.reduceToNat,Int.reduceLT,Int.reduceLE,Int.reduceEq,Int.reduceNe,Int.reduceNeg,ustrA,ti3,ti9,ti36,cf,Tryz.results194,decide_eq_true h1,decide_eq_false h2]
  · simp only [zW,zX,zD,builtinA,isLeaf,const1,Nat.reduceAdd,Nat.reduceMul,Nat.reduceSub,Nat.reduceLT,Nat.reduceLeDiff,Nat.reduceEqDiff,Nat.reduceBEq,Nat.reduceBNe,reduceIte,reduceCtorEq,Int.reduceToNat,Int.reduceLT,Int.reduceLE,Int.reduceEq,Int.reduceNe,Int.reduceNeg,ustrA,ti3,ti9,ti36,cf,Tryz.results194,decide_eq_false h1]
set_option maxRecDepth 100000 in
theorem join_none (m : AV) (A : List Box) : ACalls Tryz.prog 259 [m,.slice [],.slice []] A (fun r A'=>r = .bool false ∧ A' = A):=by
  have h0 : decide (((0 : Nat) : Int) = 0) = true:=rfl
  refine acalls_enter (cf:=cf 32 [0,1,2,6,7,8,11,28]) foll Tryz.func259 Tryz.ntmps259 (by simp [cf]) ?_
  simp only [Tryz.f259,EnterK_some,zW,zX,zD,builtinA,isLeaf,const1,Nat.reduceAdd,Nat.reduceMul,Nat.reduceSub,Nat.reduceLT,Nat.reduceLeDiff,Nat.reduceEqDiff,Nat.reduceBEq,Nat.reduceBNe,reduceIte,reduceCtorEq,Int.reduceToNat,Int.reduceLT,Int.reduceLE,Int.reduceEq,Int.reduceNe,Int.reduceNeg,ustrA,ti3,ti34,ti36,ti165,ti419,ca290,mi165,ks419,cf,Tryz.results259]
  simp only [zW,zX,zD,builtinA,isLeaf,const1,Nat.reduceAdd,Nat.reduceMul,Nat.reduceSub,Nat.reduceLT,Nat.reduceLeDiff,Nat.reduceEqDiff,Nat.reduceBEq,Nat.reduceBNe,reduceIte,reduceCtorEq,Int.reduceToNat,Int.reduceLT,Int.reduceLE,Int.reduceEq,Int.reduceNe,Int.reduceNeg,ustrA,ti3,ti34,ti36,ti165,ti419,ca290,mi165,ks419,cf,Tryz.results259,h0]
def rowLen0 (A : List Box) : AV → Nat
  | .own q=>match A.getD q .dead with
    | .row _ rows _=>rows.length
    | _=>0
  | _=>0
set_option maxRecDepth 100000 in
set_option maxHeartbeats 2000000 in
theorem same_zero (t : Ty) (i : Nat) (A : List Box) : ACalls Tryz.prog 197 [.agg [tcF1,tcF2,.map i],.agg (enc t),.agg (enc ty0)] A (fun r A'=>r = .bool (decide (t = ty0)) ∧ A' = A):=by
  have hz : enc ty0 = [.int .i64 0,.str [],.str [],.slice []]:=by rw [ty0,enc]; rfl
  simp only [tcF1,tcF2]
  refine acalls_enter (cf:=cf 82 [0,1,2,3,4,5,6,7,8,9,10,11,12,21,34,35,36,37,69,76]) foll Tryz.func197 Tryz.ntmps197 (by simp [cf]) ?_
  simp only [Tryz.f197,EnterK_some,zW,zX,zD,builtinA,isLeaf,const1,Nat.reduceAdd,Nat.reduceMul,Nat.reduceSub,Nat.reduceLT,Nat.reduceLeDiff,Nat.reduceEqDiff,Nat.reduceBEq,Nat.reduceBNe,reduceIte,reduceCtorEq,Int.reduceToNat,Int.reduceLT,Int.reduceLE,Int.reduceEq,Int.reduceNe,Int.reduceNeg,ustrA,ti3,ti34,ti36,ti67,ti163,ti165,ti167,ti366,ti367,ca259,cf,Tryz.results197]
  simp only [zW,zX,zD,builtinA,isLeaf,const1,Nat.reduceAdd,Nat.reduceMul,Nat.reduceSub,Nat.reduceLT,Nat.reduceLeDiff,Nat.reduceEqDiff,Nat.reduceBEq,Nat.reduceBNe,reduceIte,reduceCtorEq,Int.reduceToNat,Int.reduceLT,Int.reduceLE,Int.reduceEq,Int.reduceNe,Int.reduceNeg,ustrA,ti3,ti34,ti36,ti67,ti163,ti165,ti167,ti366,ti367,ca259,cf,Tryz.results197,enc_length,enc_take,frzL_enc]
  refine ⟨enc_leaf t,enc_leaf ty0,?_,?_⟩
  · intro v hv
    rcases List.mem_cons.1 hv with rfl | hv
    · rfl
    · rcases List.mem_cons.1 hv with rfl | hv
      · rfl
      · cases hv
  refine aloop_intro [3,7] (fun e A'=>∃ B j,e = [(3,.ptr A.length 0),(7,.own (A.length + (j + 3)))] ∧ A' = A ++ (.cells [tcF1,tcF2,.map i] :: .cells (enc t) :: .cells (enc ty0) :: B) ∧ j < B.length ∧ (B.getD j .dead = .row 2 [[.slice [enc t],.slice [enc ty0]]] 0 ∨ (B.getD j .dead = .row 2 [] 0 ∧ t = ty0))) (fun e A'=>rowLen0 A' (Abs.look 7 e)) ?_ ?_
  · simp only [zW,zX,zD,builtinA,isLeaf,const1,Nat.reduceAdd,Nat.reduceMul,Nat.reduceSub,Nat.reduceLT,Nat.reduceLeDiff,Nat.reduceEqDiff,Nat.reduceBEq,Nat.reduceBNe,reduceIte,reduceCtorEq,Int.reduceToNat,Int.reduceLT,Int.reduceLE,Int.reduceEq,Int.reduceNe,Int.reduceNeg,ustrA,ti3,ti34,ti36,ti67,ti163,ti165,ti167,ti366,ti367,ca259,cf,Tryz.results197]
    exact ⟨_,2,rfl,rfl,by simp,.inl rfl⟩
  · rintro e A' ⟨B,j,rfl,rfl,hj,hB⟩
    have hgj : ∀ X Y Z : Box,∀ d : Box,(X :: Y :: Z :: B).getD (j + 3) d = B.getD j d:=fun _ _ _ _=>rfl
    have hmu : ∀ rows,B.getD j .dead = .row 2 rows 0 → rowLen0 (A ++ (.cells [tcF1,tcF2,.map i] :: .cells (enc t) :: .cells (enc ty0) :: B)) (.own (A.length + (j + 3))) = rows.length:=fun rows hr=>by
      have e2 : (A ++ (.cells [tcF1,tcF2,.map i] :: .cells (enc t) :: .cells (enc ty0) :: B)).getD (A.length + (j + 3)) .dead = .row 2 rows 0:=(getD_app _ _ _ _).trans hr
      simp only [rowLen0,e2]
    rcases hB with hB | ⟨hB,ht⟩
    · have hz1 : decide ((0 : Int) < ((1 : Nat) : Int)) = true:=rfl
      have hm1 : ((1 : Nat) : Int) - 1 = ((0 : Nat) : Int):=rfl
      have hw0 : IntKind.i64.wrap ((0 : Nat) : Int) = ((0 : Nat) : Int):=rfl
      have hB2 : ∀ L : List Box,(B ++ L).getD j .dead = .row 2 [[.slice [enc t],.slice [enc ty0]]] 0:=fun L=>by rw [getD_app1 _ _ _ _ hj,hB]
      have hmu':=hmu _ hB
      simp only [List.length_cons,List.length_nil] at hmu'
      rw [show Abs.look 7 [(3,AV.ptr A.length 0),(7,AV.own (A.length + (j + 3)))] = .own (A.length + (j + 3)) from rfl,hmu']
      have hq : ∀ (X Y : Box) (L : List Box) (d : Box),((B ++ [X]).set j Y ++ L).getD B.length d = X:=fun X Y L d=>by
        have h1 : B.length < ((B ++ [X]).set j Y).length:=by simp
        have h2 : j ≠ B.length:=by omega
        rw [getD_app1 _ _ _ _ h1,Go.Abs.getD_set_ne' h2,getD_app0]
        rfl
      have hq2 : ∀ (X Y Z d : Box),((B ++ [X]).set j Y ++ [Z]).getD (B.length + 1) d = Z:=fun X Y Z d=>by
        have e : ((B ++ [X]).set j Y).length = B.length + 1:=by simp
        rw [← e,getD_app0]
        rfl
      simp only [tcF1,tcF2]
      simp only [zW,zX,zD,builtinA,isLeaf,const1,Nat.reduceAdd,Nat.reduceMul,Nat.reduceSub,Nat.reduceLT,Nat.reduceLeDiff,Nat.reduceEqDiff,Nat.reduceBEq,Nat.reduceBNe,reduceIte,reduceCtorEq,Int.reduceToNat,Int.reduceLT,Int.reduceLE,Int.reduceEq,Int.reduceNe,Int.reduceNeg,ustrA,ti3,ti34,ti36,ti67,ti163,ti165,ti167,ti366,ti367,ca259,cf,Tryz.results197,hgj,hB,hB2,hz1,hm1,hw0,hq]
      refine ⟨⟨by omega,by omega⟩,⟨by omega,by omega⟩,?_⟩
      refine aloop_intro [3,7,8,34,35,36] (fun e A'=>∃ (B' : List Box) (j' k : Nat),e = [(3,.ptr A.length 0),(7,.own (A.length + (j' + 3))),(8,.ptr (A.length + (B.length + 3)) 0),(34,.slice [enc t]),(35,.int .i64 (1 : Nat)),(36,.int .i64 (k : Nat))]
        ∧ A' = A ++ (.cells [tcF1,tcF2,.map i] :: .cells (enc t) :: .cells (enc ty0) :: B') ∧ j' < B'.length ∧ B'.getD j' .dead = .row 2 [] 0 ∧ B.length < B'.length ∧ B'.getD B.length .dead = .cells [.slice [enc t],.slice [enc ty0]]
        ∧ k ≤ 1 ∧ (k = 1 → t = ty0)) (fun e _=>1 - (intOf (Abs.look 36 e)).toNat) ?_ ?_
      · refine ⟨_,B.length + 1,0,rfl,rfl,by simp,hq2 _ _ _ _,by simp only [List.length_append,List.length_set,List.length_singleton]; omega,hq _ _ _ _,by omega,by omega⟩
      · rintro e A' ⟨B',j',k,rfl,rfl,hj',hB',hlt,hb,hk,hkt⟩
        have hgj' : ∀ X Y Z : Box,∀ d : Box,(X :: Y :: Z :: B').getD (j' + 3) d = B'.getD j' d:=fun _ _ _ _=>rfl
        have hgb' : ∀ X Y Z : Box,∀ d : Box,(X :: Y :: Z :: B').getD (B.length + 3) d = B'.getD B.length d:=fun _ _ _ _=>rfl
        have hgB : ∀ L : List Box,(B' ++ L).getD B.length .dead = .cells [.slice [enc t],.slice [enc ty0]]:=fun L=>by rw [getD_app1 _ _ _ _ hlt,hb]
        rcases Nat.lt_or_ge k 1 with hk1 | hk1
        · have hk0 : k = 0:=by omega
          subst hk0
          have d01 : decide (((0 : Nat) : Int) < ((1 : Nat) : Int)) = true:=rfl
          simp only [tcF1,tcF2]
          simp only [zW,zX,zD,builtinA,isLeaf,const1,Nat.reduceAdd,Nat.reduceMul,Nat.reduceSub,Nat.reduceLT,Nat.reduceLeDiff,Nat.reduceEqDiff,Nat.reduceBEq,Nat.reduceBNe,reduceIte,reduceCtorEq,Int.reduceToNat,Int.reduceLT,Int.reduceLE,Int.reduceEq,Int.reduceNe,Int.reduceNeg,ustrA,ti3,ti34,ti36,ti67,ti163,ti165,ti167,ti366,ti367,ca259,cf,Tryz.results197,hgj',hgb',hb,hgB,d01,enc_length,enc_take,frzL_enc]
          refine ⟨⟨by omega,by omega⟩,⟨by omega,by omega⟩,?_⟩
          refine .inr (drawE_intro [(false,0,1),(false,0,1),(false,0,1),(false,0,1),(false,0,1),(false,0,1),(false,0,1),(false,0,1),(false,0,1),(true,0,0),(true,1,1)] [A ++ (.cells [tcF1,tcF2,.map i] :: .cells (enc t) :: .cells (enc ty0) :: (B' ++ [.cells (enc t),.cells (enc ty0)])),A ++ (.cells [tcF1,tcF2,.map i] :: .cells (enc t) :: .cells (enc ty0) :: (B' ++ [.cells (enc t),.cells (enc ty0),.cells [.nils,.nils]])),A ++ (.cells [tcF1,tcF2,.map i] :: .cells (enc t) :: .cells (enc ty0) :: (B' ++ [.cells (enc t),.cells (enc ty0),.cells [.slice (encs t.kids),.slice []]]))] 2 rfl (by kernel_rfl) (by kernel_rfl) (by kernel_rfl) (by kernel_rfl) (by kernel_rfl) (by kernel_rfl) ?_)
          simp only [tcF1,tcF2]
          simp only [zW,zX,zD,builtinA,isLeaf,const1,Nat.reduceAdd,Nat.reduceMul,Nat.reduceSub,Nat.reduceLT,Nat.reduceLeDiff,Nat.reduceEqDiff,Nat.reduceBEq,Nat.reduceBNe,reduceIte,reduceCtorEq,Int.reduceToNat,Int.reduceLT,Int.reduceLE,Int.reduceEq,Int.reduceNe,Int.reduceNeg,ustrA,ti3,ti34,ti36,ti67,ti163,ti165,ti167,ti366,ti367,ca259,cf,Tryz.results197,enc_take]
          refine ⟨by rw [enc_length]; omega,by rw [enc_length]; omega,?_⟩
          refine wpG_callv _ _ _ _ _ _ _ _ _ _ _ _ _ _ _ _ _ ?_
          simp only [zW,zX,zD,builtinA,isLeaf,const1,Nat.reduceAdd,Nat.reduceMul,Nat.reduceSub,Nat.reduceLT,Nat.reduceLeDiff,Nat.reduceEqDiff,Nat.reduceBEq,Nat.reduceBNe,reduceIte,reduceCtorEq,Int.reduceToNat,Int.reduceLT,Int.reduceLE,Int.reduceEq,Int.reduceNe,Int.reduceNeg,ustrA,ti3,ti34,ti36,ti67,ti163,ti165,ti167,ti366,ti367,ca259,cf,Tryz.results197,CallVE_eq,List.nil_append,List.append_nil]
          refine ⟨by kernel_rfl,callEN_intro (fun A=>by simp only [zW,zX,zD,builtinA,isLeaf,const1,Nat.reduceAdd,Nat.reduceMul,Nat.reduceSub,Nat.reduceLT,Nat.reduceLeDiff,Nat.reduceEqDiff,Nat.reduceBEq,Nat.reduceBNe,reduceIte,reduceCtorEq,Int.reduceToNat,Int.reduceLT,Int.reduceLE,Int.reduceEq,Int.reduceNe,Int.reduceNeg,ustrA,frzL_enc,Option.map_some]) (fun A=>tc_kids t A) ?_ rfl rfl⟩
          simp only [zW,zX,zD,builtinA,isLeaf,const1,Nat.reduceAdd,Nat.reduceMul,Nat.reduceSub,Nat.reduceLT,Nat.reduceLeDiff,Nat.reduceEqDiff,Nat.reduceBEq,Nat.reduceBNe,reduceIte,reduceCtorEq,Int.reduceToNat,Int.reduceLT,Int.reduceLE,Int.reduceEq,Int.reduceNe,Int.reduceNeg,ustrA,ti3,ti34,ti36,ti67,ti163,ti165,ti167,ti366,ti367,ca259,cf,Tryz.results197,enc_take]
          refine ⟨by rw [enc_length]; omega,by rw [enc_length]; omega,?_⟩
          refine wpG_callv _ _ _ _ _ _ _ _ _ _ _ _ _ _ _ _ _ ?_
          simp only [zW,zX,zD,builtinA,isLeaf,const1,Nat.reduceAdd,Nat.reduceMul,Nat.reduceSub,Nat.reduceLT,Nat.reduceLeDiff,Nat.reduceEqDiff,Nat.reduceBEq,Nat.reduceBNe,reduceIte,reduceCtorEq,Int.reduceToNat,Int.reduceLT,Int.reduceLE,Int.reduceEq,Int.reduceNe,Int.reduceNeg,ustrA,ti3,ti34,ti36,ti67,ti163,ti165,ti167,ti366,ti367,ca259,cf,Tryz.results197,CallVE_eq,List.nil_append,List.append_nil]
          refine ⟨by kernel_rfl,callEN_intro (fun A=>by simp only [zW,zX,zD,builtinA,isLeaf,const1,Nat.reduceAdd,Nat.reduceMul,Nat.reduceSub,Nat.reduceLT,Nat.reduceLeDiff,Nat.reduceEqDiff,Nat.reduceBEq,Nat.reduceBNe,reduceIte,reduceCtorEq,Int.reduceToNat,Int.reduceLT,Int.reduceLE,Int.reduceEq,Int.reduceNe,Int.reduceNeg,ustrA,frzL_enc,Option.map_some]) (fun A=>tc_kids ty0 A) ?_ rfl rfl⟩
          have hk0' : encs ty0.kids = []:=rfl
          simp only [zW,zX,zD,builtinA,isLeaf,const1,Nat.reduceAdd,Nat.reduceMul,Nat.reduceSub,Nat.reduceLT,Nat.reduceLeDiff,Nat.reduceEqDiff,Nat.reduceBEq,Nat.reduceBNe,reduceIte,reduceCtorEq,Int.reduceToNat,Int.reduceLT,Int.reduceLE,Int.reduceEq,Int.reduceNe,Int.reduceNeg,ustrA,ti3,ti34,ti36,ti67,ti163,ti165,ti167,ti366,ti367,ca259,cf,Tryz.results197,enc_take,hk0']
          by_cases hkn : t.kids = []
          · have hen : encs t.kids = []:=by rw [hkn]; rfl
            have d00 : decide (¬ ((0 : Nat) : Int) = ((0 : Nat) : Int)) = false:=rfl
            have hts:=fun A=>tc_same t ty0 A
            generalize hsn : (decide (t.kind = ty0.kind) && decide (t.mod = ty0.mod) && decide (t.name = ty0.name)) = sn at hts
            cases sn with
            | true =>
              have htz : t = ty0:=by
                obtain ⟨k,m,n,ks⟩:=t
                simp only [Bool.and_eq_true] at hsn
                have a1 : k = 0:=of_decide_eq_true hsn.1.1
                have a2 : m = []:=of_decide_eq_true hsn.1.2
                have a3 : n = []:=of_decide_eq_true hsn.2
                have a4 : ks = []:=hkn
                rw [a1,a2,a3,a4]; rfl
              simp only [zW,zX,zD,builtinA,isLeaf,const1,Nat.reduceAdd,Nat.reduceMul,Nat.reduceSub,Nat.reduceLT,Nat.reduceLeDiff,Nat.reduceEqDiff,Nat.reduceBEq,Nat.reduceBNe,reduceIte,reduceCtorEq,Int.reduceToNat,Int.reduceLT,Int.reduceLE,Int.reduceEq,Int.reduceNe,Int.reduceNeg,ustrA,ti3,ti34,ti36,ti67,ti163,ti165,ti167,ti366,ti367,ca259,cf,Tryz.results197,enc_take,hen,d00]
              refine ⟨by rw [enc_length]; omega,by rw [enc_length]; omega,?_⟩
              refine wpO_callv _ _ _ _ _ _ _ _ _ _ _ _ _ _ _ ?_
              simp only [zW,zX,zD,builtinA,isLeaf,const1,Nat.reduceAdd,Nat.reduceMul,Nat.reduceSub,Nat.reduceLT,Nat.reduceLeDiff,Nat.reduceEqDiff,Nat.reduceBEq,Nat.reduceBNe,reduceIte,reduceCtorEq,Int.reduceToNat,Int.reduceLT,Int.reduceLE,Int.reduceEq,Int.reduceNe,Int.reduceNeg,ustrA,ti3,ti34,ti36,ti67,ti163,ti165,ti167,ti366,ti367,ca259,cf,Tryz.results197,List.nil_append,List.append_nil]
              refine ⟨by kernel_rfl,?_⟩
              refine callK_intro (by simp only [zW,zX,zD,builtinA,isLeaf,const1,Nat.reduceAdd,Nat.reduceMul,Nat.reduceSub,Nat.reduceLT,Nat.reduceLeDiff,Nat.reduceEqDiff,Nat.reduceBEq,Nat.reduceBNe,reduceIte,reduceCtorEq,Int.reduceToNat,Int.reduceLT,Int.reduceLE,Int.reduceEq,Int.reduceNe,Int.reduceNeg,ustrA,frzL_enc,Option.map_some,List.cons_append,List.nil_append] <;> rfl) (hts _) ?_ rfl
              rintro r A2 ⟨rfl,rfl⟩
              simp only [zW,zX,zD,builtinA,isLeaf,const1,Nat.reduceAdd,Nat.reduceMul,Nat.reduceSub,Nat.reduceLT,Nat.reduceLeDiff,Nat.reduceEqDiff,Nat.reduceBEq,Nat.reduceBNe,reduceIte,reduceCtorEq,Int.reduceToNat,Int.reduceLT,Int.reduceLE,Int.reduceEq,Int.reduceNe,Int.reduceNeg,ustrA,ti3,ti34,ti36,ti67,ti163,ti165,ti167,ti366,ti367,ca259,cf,Tryz.results197]
              refine callK_intro (by simp only [zW,zX,zD,builtinA,isLeaf,const1,Nat.reduceAdd,Nat.reduceMul,Nat.reduceSub,Nat.reduceLT,Nat.reduceLeDiff,Nat.reduceEqDiff,Nat.reduceBEq,Nat.reduceBNe,reduceIte,reduceCtorEq,Int.reduceToNat,Int.reduceLT,Int.reduceLE,Int.reduceEq,Int.reduceNe,Int.reduceNeg,ustrA,Option.map_some] <;> rfl) (join_none _ _) ?_ rfl
              rintro r A2 ⟨rfl,rfl⟩
              simp only [zW,zX,zD,builtinA,isLeaf,const1,Nat.reduceAdd,Nat.reduceMul,Nat.reduceSub,Nat.reduceLT,Nat.reduceLeDiff,Nat.reduceEqDiff,Nat.reduceBEq,Nat.reduceBNe,reduceIte,reduceCtorEq,Int.reduceToNat,Int.reduceLT,Int.reduceLE,Int.reduceEq,Int.reduceNe,Int.reduceNeg,ustrA,ti3,ti34,ti36,ti67,ti163,ti165,ti167,ti366,ti367,ca259,cf,Tryz.results197,LoopK_eq]
              refine ⟨⟨_,j',1,rfl,rfl,by simp; omega,by rw [getD_app1 _ _ _ _ hj',hB'],by simp; omega,hgB _,by omega,fun _=>htz⟩,by simp only [intOf]; decide⟩
            | false =>
              have htz : ¬ t = ty0:=fun e=>by subst e; simp at hsn
              simp only [zW,zX,zD,builtinA,isLeaf,const1,Nat.reduceAdd,Nat.reduceMul,Nat.reduceSub,Nat.reduceLT,Nat.reduceLeDiff,Nat.reduceEqDiff,Nat.reduceBEq,Nat.reduceBNe,reduceIte,reduceCtorEq,Int.reduceToNat,Int.reduceLT,Int.reduceLE,Int.reduceEq,Int.reduceNe,Int.reduceNeg,ustrA,ti3,ti34,ti36,ti67,ti163,ti165,ti167,ti366,ti367,ca259,cf,Tryz.results197,enc_take,hen,d00]
              refine ⟨by rw [enc_length]; omega,by rw [enc_length]; omega,?_⟩
              refine wpO_callv _ _ _ _ _ _ _ _ _ _ _ _ _ _ _ ?_
              simp only [zW,zX,zD,builtinA,isLeaf,const1,Nat.reduceAdd,Nat.reduceMul,Nat.reduceSub,Nat.reduceLT,Nat.reduceLeDiff,Nat.reduceEqDiff,Nat.reduceBEq,Nat.reduceBNe,reduceIte,reduceCtorEq,Int.reduceToNat,Int.reduceLT,Int.reduceLE,Int.reduceEq,Int.reduceNe,Int.reduceNeg,ustrA,ti3,ti34,ti36,ti67,ti163,ti165,ti167,ti366,ti367,ca259,cf,Tryz.results197,List.nil_append,List.append_nil]
              refine ⟨by kernel_rfl,?_⟩
              refine callK_intro (by simp only [zW,zX,zD,builtinA,isLeaf,const1,Nat.reduceAdd,Nat.reduceMul,Nat.reduceSub,Nat.reduceLT,Nat.reduceLeDiff,Nat.reduceEqDiff,Nat.reduceBEq,Nat.reduceBNe,reduceIte,reduceCtorEq,Int.reduceToNat,Int.reduceLT,Int.reduceLE,Int.reduceEq,Int.reduceNe,Int.reduceNeg,ustrA,frzL_enc,Option.map_some,List.cons_append,List.nil_append] <;> rfl) (hts _) ?_ rfl
              rintro r A2 ⟨rfl,rfl⟩
              simp only [zW,zX,zD,builtinA,isLeaf,const1,Nat.reduceAdd,Nat.reduceMul,Nat.reduceSub,Nat.reduceLT,Nat.reduceLeDiff,Nat.reduceEqDiff,Nat.reduceBEq,Nat.reduceBNe,reduceIte,reduceCtorEq,Int.reduceToNat,Int.reduceLT,Int.reduceLE,Int.reduceEq,Int.reduceNe,Int.reduceNeg,ustrA,ti3,ti34,ti36,ti67,ti163,ti165,ti167,ti366,ti367,ca259,cf,Tryz.results197,decide_eq_false htz]
          · have htz : ¬ t = ty0:=fun e=>by subst e; exact hkn rfl
            have hnk : 0 < t.kids.length:=List.length_pos_iff.2 hkn
            have d00 : decide (((t.kids.length : Nat) : Int) = ((0 : Nat) : Int)) = false:=decide_eq_false (by omega)
            simp only [zW,zX,zD,builtinA,isLeaf,const1,Nat.reduceAdd,Nat.reduceMul,Nat.reduceSub,Nat.reduceLT,Nat.reduceLeDiff,Nat.reduceEqDiff,Nat.reduceBEq,Nat.reduceBNe,reduceIte,reduceCtorEq,Int.reduceToNat,Int.reduceLT,Int.reduceLE,Int.reduceEq,Int.reduceNe,Int.reduceNeg,ustrA,ti3,ti34,ti36,ti67,ti163,ti165,ti167,ti366,ti367,ca259,cf,Tryz.results197,enc_take,d00,encs_length,decide_eq_false htz]
        · have hk0 : k = 1:=by omega
          subst hk0
          have d11 : decide (((1 : Nat) : Int) < ((1 : Nat) : Int)) = false:=rfl
          simp only [tcF1,tcF2]
          simp only [zW,zX,zD,builtinA,isLeaf,const1,Nat.reduceAdd,Nat.reduceMul,Nat.reduceSub,Nat.reduceLT,Nat.reduceLeDiff,Nat.reduceEqDiff,Nat.reduceBEq,Nat.reduceBNe,reduceIte,reduceCtorEq,Int.reduceToNat,Int.reduceLT,Int.reduceLE,Int.reduceEq,Int.reduceNe,Int.reduceNeg,ustrA,ti3,ti34,ti36,ti67,ti163,ti165,ti167,ti366,ti367,ca259,cf,Tryz.results197,hgj',hgb',hb,hgB,d11,LoopK_eq,enc_length,enc_take,frzL_enc]
          refine ⟨⟨B',j',rfl,rfl,hj',.inr ⟨hB',hkt rfl⟩⟩,?_⟩
          have e2 : (A ++ (.cells [tcF1,tcF2,.map i] :: .cells (enc t) :: .cells (enc ty0) :: B')).getD (A.length + (j' + 3)) .dead = .row 2 [] 0:=(getD_app _ _ _ _).trans hB'
          simp only [tcF1,tcF2] at e2
          simp only [rowLen0,e2]
          decide
    · have hz0 : decide ((0 : Int) < ((0 : Nat) : Int)) = false:=rfl
      simp only [tcF1,tcF2]
      simp only [zW,zX,zD,builtinA,isLeaf,const1,Nat.reduceAdd,Nat.reduceMul,Nat.reduceSub,Nat.reduceLT,Nat.reduceLeDiff,Nat.reduceEqDiff,Nat.reduceBEq,Nat.reduceBNe,reduceIte,reduceCtorEq,Int.reduceToNat,Int.reduceLT,Int.reduceLE,Int.reduceEq,Int.reduceNe,Int.reduceNeg,ustrA,ti3,ti34,ti36,ti67,ti163,ti165,ti167,ti366,ti367,ca259,cf,Tryz.results197,hgj,hB,hz0,decide_eq_true ht]
set_option maxRecDepth 100000 in
theorem impl_typeComparison (A : List Box) : ACalls Tryz.prog 108 [] A (fun r A'=>r = .agg [tcF1,tcF2,.map (A.length + 1)] ∧ A' = A ++ [.cells [tcF1,tcF2,.map (A.length + 1)],.mapb []]):=by
  simp only [tcF1,tcF2]
  refine acalls_enterK (cf:=cf 7 [0,1,2]) foll Tryz.func108 Tryz.ntmps108 (by simp [cf]) ?_
  simp only [Tryz.f108,EnterK_some,zW,zX,zD,builtinA,isLeaf,const1,Nat.reduceAdd,Nat.reduceMul,Nat.reduceSub,Nat.reduceLT,Nat.reduceLeDiff,Nat.reduceEqDiff,Nat.reduceBEq,Nat.reduceBNe,reduceIte,reduceCtorEq,Int.reduceToNat,Int.reduceLT,Int.reduceLE,Int.reduceEq,Int.reduceNe,Int.reduceNeg,ustrA,ti165,ti167,cf,Tryz.results108]
set_option maxRecDepth 100000 in
theorem impl_TypeSame0 (t : Ty) (A : List Box) : ACalls Tryz.prog 251 [.agg (enc t),.agg (enc ty0)] A (fun r A'=>r = .bool (decide (t = ty0)) ∧ A' = A):=by
  refine acalls_enter (cf:=cf 9 [0,1,2,3,4]) foll Tryz.func251 Tryz.ntmps251 (by simp [cf]) ?_
  simp only [Tryz.f251,EnterK_some,zW,zX,zD,builtinA,isLeaf,const1,Nat.reduceAdd,Nat.reduceMul,Nat.reduceSub,Nat.reduceLT,Nat.reduceLeDiff,Nat.reduceEqDiff,Nat.reduceBEq,Nat.reduceBNe,reduceIte,reduceCtorEq,Int.reduceToNat,Int.reduceLT,Int.reduceLE,Int.reduceEq,Int.reduceNe,Int.reduceNeg,ustrA,ti36,ca108,ca197,cf,Tryz.results251]
  refine .inr (drawE_intro [(true,0,0),(false,0,1),(false,0,1),(true,1,1),(false,2,2)] [A ++ [.cells (enc t),.cells (enc ty0)],A ++ [.cells (enc t),.cells (enc ty0),.cells [tcF1,tcF2,.map (A.length + 2 + 1)],.mapb []],A ++ [.cells (enc t),.cells (enc ty0),.cells [tcF1,tcF2,.map (A.length + 2 + 1)],.mapb []]] 2 rfl (by kernel_rfl) (by kernel_rfl) (by kernel_rfl) (by kernel_rfl) (by kernel_rfl) (by kernel_rfl) ?_)
  simp only [zW,zX,zD,builtinA,isLeaf,const1,Nat.reduceAdd,Nat.reduceMul,Nat.reduceSub,Nat.reduceLT,Nat.reduceLeDiff,Nat.reduceEqDiff,Nat.reduceBEq,Nat.reduceBNe,reduceIte,reduceCtorEq,Int.reduceToNat,Int.reduceLT,Int.reduceLE,Int.reduceEq,Int.reduceNe,Int.reduceNeg,ustrA,ti36,ca108,ca197,cf,Tryz.results251]
  refine callE_intro (v:=.agg [tcF1,tcF2,.map (A.length + 2 + 1)]) (by simp only [zW,zX,zD,builtinA,isLeaf,const1,Nat.reduceAdd,Nat.reduceMul,Nat.reduceSub,Nat.reduceLT,Nat.reduceLeDiff,Nat.reduceEqDiff,Nat.reduceBEq,Nat.reduceBNe,reduceIte,reduceCtorEq,Int.reduceToNat,Int.reduceLT,Int.reduceLE,Int.reduceEq,Int.reduceNe,Int.reduceNeg,ustrA] <;> rfl) ((impl_typeComparison _).mono fun r A' h=>?_) ?_ rfl rfl
  · obtain ⟨h1,h2⟩:=h
    refine ⟨by rw [h1]; simp,?_⟩
    show A' = A ++ [.cells (enc t),.cells (enc ty0),.cells [tcF1,tcF2,.map (A.length + 2 + 1)],.mapb []]
    rw [h2]; simp
  simp only [zW,zX,zD,builtinA,isLeaf,const1,Nat.reduceAdd,Nat.reduceMul,Nat.reduceSub,Nat.reduceLT,Nat.reduceLeDiff,Nat.reduceEqDiff,Nat.reduceBEq,Nat.reduceBNe,reduceIte,reduceCtorEq,Int.reduceToNat,Int.reduceLT,Int.reduceLE,Int.reduceEq,Int.reduceNe,Int.reduceNeg,ustrA,ti36,ca108,ca197,cf,Tryz.results251,enc_take]
  refine ⟨by rw [enc_length]; omega,by rw [enc_length]; omega,by rw [enc_length]; omega,by rw [enc_length]; omega,?_⟩
  refine callEO_intro (same_zero t _ _) ?_ rfl
  simp only [zW,zX,zD,builtinA,isLeaf,const1,Nat.reduceAdd,Nat.reduceMul,Nat.reduceSub,Nat.reduceLT,Nat.reduceLeDiff,Nat.reduceEqDiff,Nat.reduceBEq,Nat.reduceBNe,reduceIte,reduceCtorEq,Int.reduceToNat,Int.reduceLT,Int.reduceLE,Int.reduceEq,Int.reduceNe,Int.reduceNeg,ustrA,ti36,ca108,ca197,cf,Tryz.results251]
end Go.Proofs.YtnjdbgiincliaaaGreat
/- Types as trees: what the program's own functions read of them. -/
set_option linter.unusedVariables false
set_option linter.unusedSimpArgs false
namespace Go.Proofs.YtnjdbgiincliaaaGreat
open Go.Abs
def ifA : Option (TypeId × AV) → AV
  | none=>.nili
  | some (t,x)=>.iface t x
def pairUp : List (Option (TypeId × AV) × Bool) → Option (TypeId × AV) × Bool
  | [(x,true),(y,ok)]=>(some (422,.agg [ifA x,ifA y]),ok)
  | _=>(none,false)
mutual
def readO : Ty → Int → Option (TypeId × AV) × Bool
  | .mk k m n ks,d =>
    if 8 < d then (none,false)
    else if k = 1 then (some (369,.agg []),(decide (m = []) && decide (n = [])) && decide ((ks.length : Int) = 0))
    else if k = 2 then (if m = [] then if n = [] then pairUp (readOs ks (d + 1)) else (none,false) else (none,false))
    else if k = 3 then (some (180,.agg [.str m,.str n]),((decide (m = []) || moduleB m) && localB n) && decide ((ks.length : Int) = 0))
    else (none,false)
def readOs : List Ty → Int → List (Option (TypeId × AV) × Bool)
  | [],_=>[]
  | t :: l,d=>readO t d :: readOs l d
end
theorem readOs_length (l : List Ty) (d : Int) : (readOs l d).length = l.length:=by
  induction l with
  | nil=>rfl
  | cons t l ih=>rw [readOs,List.length_cons,ih,List.length_cons]
theorem pairUp_no {l : List (Option (TypeId × AV) × Bool)} (h : ¬ (l.length : Int) = 2) : pairUp l = (none,false):=by
  match l,h with
  | [],_=>rfl
  | [_],_=>simp [pairUp]
  | [_,_],h=>exact absurd rfl h
  | _ :: _ :: _ :: _,_=>simp [pairUp]
def ReadT (t : Ty) : Prop:=∀ (d : Int) (A : List Box),0 ≤ d → d ≤ 9 → ACalls Tryz.prog 198 [.agg (enc t),.int .i64 d] A (fun v A'=>v = .tuple [ifA (readO t d).1,.bool (readO t d).2] ∧ A' = A)
set_option maxRecDepth 100000 in
theorem impl_readFun (m n : List UInt8) (ks : List Ty) (d : Int) (h0 : 0 ≤ d) (h1 : d ≤ 8) (hk : ∀ t ∈ ks,ReadT t) (A : List Box) :
    ACalls Tryz.prog 260 [.agg (enc (.mk 2 m n ks)),.int .i64 d] A (fun v A'=>v = .tuple [ifA (readO (.mk 2 m n ks) d).1,.bool (readO (.mk 2 m n ks) d).2] ∧ A' = A):=by
  have hw : IntKind.i64.wrap (d + 1) = d + 1:=wrap64 (by omega) (by omega)
  have hl : ((encs ks).length : Int) = ks.length:=by rw [encs_length]
  rw [enc,readO,if_neg (by omega),if_neg (by omega),if_pos rfl]
  refine acalls_enter (cf:=cf 50 [0,1,2,4,5,6,7,8,22,34]) foll Tryz.func260 Tryz.ntmps260 (by simp [cf]) ?_
  simp only [Tryz.f260,EnterK_some,zW,zX,zD,builtinA,isLeaf,const1,Nat.reduceAdd,Nat.reduceMul,Nat.reduceSub,Nat.reduceLT,Nat.reduceLeDiff,Nat.reduceEqDiff,Nat.reduceBEq,Nat.reduceBNe,reduceIte,reduceCtorEq,Int.reduceToNat,Int.reduceLT,Int.reduceLE,Int.reduceEq,Int.reduceNe,Int.reduceNeg,ustrA,ti3,ti9,ti34,ti36,ti422,ca198,cf,Tryz.results260]
  by_cases hm : m = []
  · rw [if_pos hm]
    by_cases hn : n = []
    · rw [if_pos hn]
      by_cases h2 : (ks.length : Int) = 2
      · match ks,h2,hk with
        | [a,b],_,hk =>
          have ha:=hk a (by simp)
          have hb:=hk b (by simp)
          clear hl
          simp only [encs]
          have h22 : decide (((2 : Nat) : Int) = 2) = true:=rfl
          simp only [zW,zX,zD,builtinA,isLeaf,const1,Nat.reduceAdd,Nat.reduceMul,Nat.reduceSub,Nat.reduceLT,Nat.reduceLeDiff,Nat.reduceEqDiff,Nat.reduceBEq,Nat.reduceBNe,reduceIte,reduceCtorEq,Int.reduceToNat,Int.reduceLT,Int.reduceLE,Int.reduceEq,Int.reduceNe,Int.reduceNeg,ustrA,ti3,ti9,ti34,ti36,ti422,ca198,cf,Tryz.results260,decide_eq_true hm,decide_eq_true hn,h22,Bool.not_true,enc_length,enc_take,hw]
          refine ⟨by decide,?_⟩
          refine callK_intro (by simp only [zW,zX,zD,builtinA,isLeaf,const1,Nat.reduceAdd,Nat.reduceMul,Nat.reduceSub,Nat.reduceLT,Nat.reduceLeDiff,Nat.reduceEqDiff,Nat.reduceBEq,Nat.reduceBNe,reduceIte,reduceCtorEq,Int.reduceToNat,Int.reduceLT,Int.reduceLE,Int.reduceEq,Int.reduceNe,Int.reduceNeg,ustrA,frzL_enc,Option.map_some,hw]; rfl) (ha _ _ (by omega) (by omega)) ?_ rfl; rintro v A' ⟨rfl,rfl⟩
          rw [readOs,readOs,readOs]
          rcases readO a (d + 1) with ⟨x,_ | _⟩
          · simp only [zW,zX,zD,builtinA,isLeaf,const1,Nat.reduceAdd,Nat.reduceMul,Nat.reduceSub,Nat.reduceLT,Nat.reduceLeDiff,Nat.reduceEqDiff,Nat.reduceBEq,Nat.reduceBNe,reduceIte,reduceCtorEq,Int.reduceToNat,Int.reduceLT,Int.reduceLE,Int.reduceEq,Int.reduceNe,Int.reduceNeg,ustrA,ti3,ti9,ti34,ti36,ti422,ca198,cf,Tryz.results260,pairUp,ifA]
          · simp only [zW,zX,zD,builtinA,isLeaf,const1,Nat.reduceAdd,Nat.reduceMul,Nat.reduceSub,Nat.reduceLT,Nat.reduceLeDiff,Nat.reduceEqDiff,Nat.reduceBEq,Nat.reduceBNe,reduceIte,reduceCtorEq,Int.reduceToNat,Int.reduceLT,Int.reduceLE,Int.reduceEq,Int.reduceNe,Int.reduceNeg,ustrA,ti3,ti9,ti34,ti36,ti422,ca198,cf,Tryz.results260,enc_length,enc_take,hw]
            refine ⟨by decide,?_⟩
            refine callK_intro (by simp only [zW,zX,zD,builtinA,isLeaf,const1,Nat.reduceAdd,Nat.reduceMul,Nat.reduceSub,Nat.reduceLT,Nat.reduceLeDiff,Nat.reduceEqDiff,Nat.reduceBEq,Nat.reduceBNe,reduceIte,reduceCtorEq,Int.reduceToNat,Int.reduceLT,Int.reduceLE,Int.reduceEq,Int.reduceNe,Int.reduceNeg,ustrA,frzL_enc,Option.map_some,hw]; rfl) (hb _ _ (by omega) (by omega)) ?_ rfl; rintro v A' ⟨rfl,rfl⟩
            rcases x with _ | ⟨t1,x1⟩ <;> rcases readO b (d + 1) with ⟨_ | ⟨t2,x2⟩,ok⟩ <;> simp only [ifA,pairUp] <;> simp only [zW,zX,zD,builtinA,isLeaf,const1,Nat.reduceAdd,Nat.reduceMul,Nat.reduceSub,Nat.reduceLT,Nat.reduceLeDiff,Nat.reduceEqDiff,Nat.reduceBEq,Nat.reduceBNe,reduceIte,reduceCtorEq,Int.reduceToNat,Int.reduceLT,Int.reduceLE,Int.reduceEq,Int.reduceNe,Int.reduceNeg,ustrA,ti3,ti9,ti34,ti36,ti422,ca198,cf,Tryz.results260]
      · rw [pairUp_no (by rw [readOs_length]; exact h2)]
        simp only [zW,zX,zD,builtinA,isLeaf,const1,Nat.reduceAdd,Nat.reduceMul,Nat.reduceSub,Nat.reduceLT,Nat.reduceLeDiff,Nat.reduceEqDiff,Nat.reduceBEq,Nat.reduceBNe,reduceIte,reduceCtorEq,Int.reduceToNat,Int.reduceLT,Int.reduceLE,Int.reduceEq,Int.reduceNe,Int.reduceNeg,ustrA,ti3,ti9,ti34,ti36,ti422,ca198,cf,Tryz.results260,hl,decide_eq_true hm,decide_eq_true hn,decide_eq_false h2,Bool.not_true,Bool.not_false,ifA]
    · rw [if_neg hn]
      simp only [zW,zX,zD,builtinA,isLeaf,const1,Nat.reduceAdd,Nat.reduceMul,Nat.reduceSub,Nat.reduceLT,Nat.reduceLeDiff,Nat.reduceEqDiff,Nat.reduceBEq,Nat.reduceBNe,reduceIte,reduceCtorEq,Int.reduceToNat,Int.reduceLT,Int.reduceLE,Int.reduceEq,Int.reduceNe,Int.reduceNeg,ustrA,ti3,ti9,ti34,ti36,ti422,ca198,cf,Tryz.results260,decide_eq_true hm,decide_eq_false hn,Bool.not_true,Bool.not_false,ifA]
  · rw [if_neg hm]
    simp only [zW,zX,zD,builtinA,isLeaf,const1,Nat.reduceAdd,Nat.reduceMul,Nat.reduceSub,Nat.reduceLT,Nat.reduceLeDiff,Nat.reduceEqDiff,Nat.reduceBEq,Nat.reduceBNe,reduceIte,reduceCtorEq,Int.reduceToNat,Int.reduceLT,Int.reduceLE,Int.reduceEq,Int.reduceNe,Int.reduceNeg,ustrA,ti3,ti9,ti34,ti36,ti422,ca198,cf,Tryz.results260,decide_eq_false hm,Bool.not_false,ifA]
set_option maxRecDepth 100000 in
theorem impl_readNode (τ : Ty) : ReadT τ:=by
  induction τ using Ty.ind with
  | h k m n ks ih =>
    intro d A h0 h1
    have hl : ((encs ks).length : Int) = ks.length:=by rw [encs_length]
    rw [enc]
    refine acalls_enter (cf:=cf 54 [0,1,2,4,5,7,9,10,28,35]) foll Tryz.func198 Tryz.ntmps198 (by simp [cf]) ?_
    simp only [Tryz.f198,EnterK_some,zW,zX,zD,builtinA,isLeaf,const1,Nat.reduceAdd,Nat.reduceMul,Nat.reduceSub,Nat.reduceLT,Nat.reduceLeDiff,Nat.reduceEqDiff,Nat.reduceBEq,Nat.reduceBNe,reduceIte,reduceCtorEq,Int.reduceToNat,Int.reduceLT,Int.reduceLE,Int.reduceEq,Int.reduceNe,Int.reduceNeg,ustrA,ti3,ti9,ti34,ti36,ti180,ti369,ca260,ca261,cf,Tryz.results198]
    by_cases h8 : 8 < d
    · rw [readO,if_pos h8]
      simp only [zW,zX,zD,builtinA,isLeaf,const1,Nat.reduceAdd,Nat.reduceMul,Nat.reduceSub,Nat.reduceLT,Nat.reduceLeDiff,Nat.reduceEqDiff,Nat.reduceBEq,Nat.reduceBNe,reduceIte,reduceCtorEq,Int.reduceToNat,Int.reduceLT,Int.reduceLE,Int.reduceEq,Int.reduceNe,Int.reduceNeg,ustrA,ti3,ti9,ti34,ti36,ti180,ti369,ca260,ca261,cf,Tryz.results198,decide_eq_true h8,ifA]
    · by_cases k1 : k = 1
      · rw [readO,if_neg h8,if_pos k1]
        simp only [zW,zX,zD,builtinA,isLeaf,const1,Nat.reduceAdd,Nat.reduceMul,Nat.reduceSub,Nat.reduceLT,Nat.reduceLeDiff,Nat.reduceEqDiff,Nat.reduceBEq,Nat.reduceBNe,reduceIte,reduceCtorEq,Int.reduceToNat,Int.reduceLT,Int.reduceLE,Int.reduceEq,Int.reduceNe,Int.reduceNeg,ustrA,ti3,ti9,ti34,ti36,ti180,ti369,ca260,ca261,cf,Tryz.results198,decide_eq_false h8,decide_eq_true k1,hl]
        refine .inl ⟨by kernel_rfl,by kernel_rfl,?_⟩
        repeat' first
          | (refine guardT_intro (fun h=>?_) (fun h=>?_) <;> (try simp only [decide_eq_true_eq,decide_eq_false_iff_not,Bool.not_eq_eq_eq_not,Bool.not_true,Bool.not_false] at h) <;> simp only [zW,zX,zD,builtinA,isLeaf,const1,Nat.reduceAdd,Nat.reduceMul,Nat.reduceSub,Nat.reduceLT,Nat.reduceLeDiff,Nat.reduceEqDiff,Nat.reduceBEq,Nat.reduceBNe,reduceIte,reduceCtorEq,Int.reduceToNat,Int.reduceLT,Int.reduceLE,Int.reduceEq,Int.reduceNe,Int.reduceNeg,ustrA,ti3,ti9,ti34,ti36,ti180,ti369,ca260,ca261,cf,Tryz.results198,hl,h])
          | (refine guardF_intro (fun h=>?_) (fun h=>?_) <;> (try simp only [decide_eq_true_eq,decide_eq_false_iff_not,Bool.not_eq_eq_eq_not,Bool.not_true,Bool.not_false] at h) <;> simp only [zW,zX,zD,builtinA,isLeaf,const1,Nat.reduceAdd,Nat.reduceMul,Nat.reduceSub,Nat.reduceLT,Nat.reduceLeDiff,Nat.reduceEqDiff,Nat.reduceBEq,Nat.reduceBNe,reduceIte,reduceCtorEq,Int.reduceToNat,Int.reduceLT,Int.reduceLE,Int.reduceEq,Int.reduceNe,Int.reduceNeg,ustrA,ti3,ti9,ti34,ti36,ti180,ti369,ca260,ca261,cf,Tryz.results198,hl,h])
          | (refine condK_intro (fun h=>?_) (fun h=>?_) <;> (try simp only [decide_eq_true_eq,decide_eq_false_iff_not,Bool.not_eq_eq_eq_not,Bool.not_true,Bool.not_false] at h) <;> simp only [zW,zX,zD,builtinA,isLeaf,const1,Nat.reduceAdd,Nat.reduceMul,Nat.reduceSub,Nat.reduceLT,Nat.reduceLeDiff,Nat.reduceEqDiff,Nat.reduceBEq,Nat.reduceBNe,reduceIte,reduceCtorEq,Int.reduceToNat,Int.reduceLT,Int.reduceLE,Int.reduceEq,Int.reduceNe,Int.reduceNeg,ustrA,ti3,ti9,ti34,ti36,ti180,ti369,ca260,ca261,cf,Tryz.results198,hl,h])
          | (refine guardDT_intro (fun h=>?_) (fun h=>?_) <;> (try simp only [decide_eq_true_eq,decide_eq_false_iff_not,Bool.not_eq_eq_eq_not,Bool.not_true,Bool.not_false] at h) <;> simp only [zW,zX,zD,builtinA,isLeaf,const1,Nat.reduceAdd,Nat.reduceMul,Nat.reduceSub,Nat.reduceLT,Nat.reduceLeDiff,Nat.reduceEqDiff,Nat.reduceBEq,Nat.reduceBNe,reduceIte,reduceCtorEq,Int.reduceToNat,Int.reduceLT,Int.reduceLE,Int.reduceEq,Int.reduceNe,Int.reduceNeg,ustrA,ti3,ti9,ti34,ti36,ti180,ti369,ca260,ca261,cf,Tryz.results198,hl,h])
          | (refine guardDF_intro (fun h=>?_) (fun h=>?_) <;> (try simp only [decide_eq_true_eq,decide_eq_false_iff_not,Bool.not_eq_eq_eq_not,Bool.not_true,Bool.not_false] at h) <;> simp only [zW,zX,zD,builtinA,isLeaf,const1,Nat.reduceAdd,Nat.reduceMul,Nat.reduceSub,Nat.reduceLT,Nat.reduceLeDiff,Nat.reduceEqDiff,Nat.reduceBEq,Nat.reduceBNe,reduceIte,reduceCtorEq,Int.reduceToNat,Int.reduceLT,Int.reduceLE,Int.reduceEq,Int.reduceNe,Int.reduceNeg,ustrA,ti3,ti9,ti34,ti36,ti180,ti369,ca260,ca261,cf,Tryz.results198,hl,h])
          | refine And.intro ?_ ?_
        all_goals simp [ifA, *]
      · by_cases k2 : k = 2
        · subst k2
          simp only [zW,zX,zD,builtinA,isLeaf,const1,Nat.reduceAdd,Nat.reduceMul,Nat.reduceSub,Nat.reduceLT,Nat.reduceLeDiff,Nat.reduceEqDiff,Nat.reduceBEq,Nat.reduceBNe,reduceIte,reduceCtorEq,Int.reduceToNat,Int.reduceLT,Int.reduceLE,Int.reduceEq,Int.reduceNe,Int.reduceNeg,ustrA,ti3,ti9,ti34,ti36,ti180,ti369,ca260,ca261,cf,Tryz.results198,decide_eq_false h8,decide_eq_false k1]
          refine callK_intro (by simp only [zW,zX,zD,builtinA,isLeaf,const1,Nat.reduceAdd,Nat.reduceMul,Nat.reduceSub,Nat.reduceLT,Nat.reduceLeDiff,Nat.reduceEqDiff,Nat.reduceBEq,Nat.reduceBNe,reduceIte,reduceCtorEq,Int.reduceToNat,Int.reduceLT,Int.reduceLE,Int.reduceEq,Int.reduceNe,Int.reduceNeg,ustrA,Option.map_some]; rfl) (impl_readFun m n ks d h0 (by omega) ih _) ?_ rfl; rintro v A' ⟨rfl,rfl⟩
          rcases readO (.mk 2 m n ks) d with ⟨_ | ⟨t,x⟩,ok⟩ <;> simp only [ifA] <;> (simp only [zW,zX,zD,builtinA,isLeaf,const1,Nat.reduceAdd,Nat.reduceMul,Nat.reduceSub,Nat.reduceLT,Nat.reduceLeDiff,Nat.reduceEqDiff,Nat.reduceBEq,Nat.reduceBNe,reduceIte,reduceCtorEq,Int.reduceToNat,Int.reduceLT,Int.reduceLE,Int.reduceEq,Int.reduceNe,Int.reduceNeg,ustrA,ti3,ti9,ti34,ti36,ti180,ti369,ca260,ca261,cf,Tryz.results198])
        · rw [readO,if_neg h8,if_neg k1,if_neg k2]
          by_cases k3 : k = 3
          · rw [if_pos k3]
            simp only [zW,zX,zD,builtinA,isLeaf,const1,Nat.reduceAdd,Nat.reduceMul,Nat.reduceSub,Nat.reduceLT,Nat.reduceLeDiff,Nat.reduceEqDiff,Nat.reduceBEq,Nat.reduceBNe,reduceIte,reduceCtorEq,Int.reduceToNat,Int.reduceLT,Int.reduceLE,Int.reduceEq,Int.reduceNe,Int.reduceNeg,ustrA,ti3,ti9,ti34,ti36,ti180,ti369,ca260,ca261,cf,Tryz.results198,decide_eq_false h8,decide_eq_false k1,decide_eq_false k2,decide_eq_true k3]
            refine .inl ⟨by kernel_rfl,by kernel_rfl,?_⟩
            refine callD_intro (by simp only [zW,zX,zD,builtinA,isLeaf,const1,Nat.reduceAdd,Nat.reduceMul,Nat.reduceSub,Nat.reduceLT,Nat.reduceLeDiff,Nat.reduceEqDiff,Nat.reduceBEq,Nat.reduceBNe,reduceIte,reduceCtorEq,Int.reduceToNat,Int.reduceLT,Int.reduceLE,Int.reduceEq,Int.reduceNe,Int.reduceNeg,ustrA,Option.map_some] <;> rfl) (impl_validName m n _) ?_ rfl
            cases hn : ((decide (m = []) || moduleB m) && localB n) with
            | true =>
              simp only [zW,zX,zD,builtinA,isLeaf,const1,Nat.reduceAdd,Nat.reduceMul,Nat.reduceSub,Nat.reduceLT,Nat.reduceLeDiff,Nat.reduceEqDiff,Nat.reduceBEq,Nat.reduceBNe,reduceIte,reduceCtorEq,Int.reduceToNat,Int.reduceLT,Int.reduceLE,Int.reduceEq,Int.reduceNe,Int.reduceNeg,ustrA,ti3,ti9,ti34,ti36,ti180,ti369,ca260,ca261,cf,Tryz.results198,hl,ifA]
            | false =>
              simp only [zW,zX,zD,builtinA,isLeaf,const1,Nat.reduceAdd,Nat.reduceMul,Nat.reduceSub,Nat.reduceLT,Nat.reduceLeDiff,Nat.reduceEqDiff,Nat.reduceBEq,Nat.reduceBNe,reduceIte,reduceCtorEq,Int.reduceToNat,Int.reduceLT,Int.reduceLE,Int.reduceEq,Int.reduceNe,Int.reduceNeg,ustrA,ti3,ti9,ti34,ti36,ti180,ti369,ca260,ca261,cf,Tryz.results198,hl,ifA]
          · rw [if_neg k3]
            simp only [zW,zX,zD,builtinA,isLeaf,const1,Nat.reduceAdd,Nat.reduceMul,Nat.reduceSub,Nat.reduceLT,Nat.reduceLeDiff,Nat.reduceEqDiff,Nat.reduceBEq,Nat.reduceBNe,reduceIte,reduceCtorEq,Int.reduceToNat,Int.reduceLT,Int.reduceLE,Int.reduceEq,Int.reduceNe,Int.reduceNeg,ustrA,ti3,ti9,ti34,ti36,ti180,ti369,ca260,ca261,cf,Tryz.results198,decide_eq_false h8,decide_eq_false k1,decide_eq_false k2,decide_eq_false k3,ifA]
end Go.Proofs.YtnjdbgiincliaaaGreat
/- Valid types as trees, and what the methods of the program answer on them. -/
set_option linter.unusedVariables false
set_option linter.unusedSimpArgs false
namespace Go.Proofs.YtnjdbgiincliaaaGreat
open Go.Abs
inductive VT where
  | num
  | fn (a b : VT)
  | nm (m n : List UInt8)
def vT : VT → TypeId
  | .num=>369
  | .fn _ _=>422
  | .nm _ _=>180
def vX : VT → AV
  | .num=>.agg []
  | .fn a b=>.agg [.iface (vT a) (vX a),.iface (vT b) (vX b)]
  | .nm m n=>.agg [.str m,.str n]
def toTy : VT → Ty
  | .num=>.mk 1 [] [] []
  | .fn a b=>.mk 2 [] [] [toTy a,toTy b]
  | .nm m n=>.mk 3 m n []
def dep : VT → Nat
  | .num=>1
  | .fn a b=>1 + max (dep a) (dep b)
  | .nm _ _=>1
def cnt : VT → Nat
  | .num=>1
  | .fn a b=>1 + cnt a + cnt b
  | .nm _ _=>1
def nmB (m n : List UInt8) : Bool:=(decide (m = []) || moduleB m) && localB n
def okV : VT → Bool
  | .num=>true
  | .fn a b=>okV a && okV b
  | .nm m n=>nmB m n
theorem dep_pos : ∀ v,1 ≤ dep v
  | .num=>by simp [dep]
  | .fn a b=>by simp [dep]
  | .nm _ _=>by simp [dep]
theorem cnt_dep : ∀ v,cnt v + 1 ≤ 2 ^ dep v
  | .num=>by simp [dep,cnt]
  | .nm _ _=>by simp [dep,cnt]
  | .fn a b=>by
    have ha:=cnt_dep a
    have hb:=cnt_dep b
    have h1 : 2 ^ dep a ≤ 2 ^ max (dep a) (dep b):=Nat.pow_le_pow_right (by decide) (Nat.le_max_left _ _)
    have h2 : 2 ^ dep b ≤ 2 ^ max (dep a) (dep b):=Nat.pow_le_pow_right (by decide) (Nat.le_max_right _ _)
    rw [dep,cnt,Nat.pow_add,Nat.pow_one]
    omega
theorem cnt_lt {v : VT} {k : Nat} (h : dep v ≤ k) : cnt v < 2 ^ k:=by
  have:=cnt_dep v
  have h2 : 2 ^ dep v ≤ 2 ^ k:=Nat.pow_le_pow_right (by decide) h
  omega
theorem count_toTy : ∀ v,count (toTy v) = cnt v
  | .num=>by simp [toTy,count,counts,cnt]
  | .nm _ _=>by simp [toTy,count,counts,cnt]
  | .fn a b=>by simp [toTy,count,counts,cnt,count_toTy a,count_toTy b]; omega
theorem shape_toTy : ∀ (v : VT) (d : Int),okV v = true → (dep v : Int) ≤ d → shape (toTy v) d = true
  | .num,d,_,h=>by
    simp [dep] at h
    simp [toTy,shape,shapes,kidsOf,ownB,h]
  | .nm m n,d,hv,h=>by
    simp [dep] at h
    simp [okV,nmB] at hv
    simp [toTy,shape,shapes,kidsOf,ownB,h,hv.1,hv.2]
  | .fn a b,d,hv,h=>by
    simp [dep] at h
    simp [okV] at hv
    have ha:=shape_toTy a (d - 1) hv.1 (by omega)
    have hb:=shape_toTy b (d - 1) hv.2 (by omega)
    simp [toTy,shape,shapes,kidsOf,ownB,ha,hb]
    have:=dep_pos a
    omega
theorem shape_of (τ : Ty) : ∀ (d : Int),shape τ d = true → ∃ v,τ = toTy v ∧ okV v = true ∧ (dep v : Int) ≤ d:=by
  induction τ using Ty.ind with
  | h k m n ks ih =>
    intro d h
    rw [shape] at h
    simp only [Bool.and_eq_true,decide_eq_true_eq] at h
    obtain ⟨⟨h1,h2,h3⟩,h4⟩:=h
    by_cases k1 : k = 1
    · subst k1
      simp [kidsOf] at h2
      have : ks = []:=by cases ks with
        | nil=>rfl
        | cons=>simp at h2; omega
      subst this
      simp [ownB] at h3
      obtain ⟨rfl,rfl⟩:=h3
      exact ⟨.num,rfl,rfl,h1⟩
    · by_cases k3 : k = 3
      · subst k3
        simp [kidsOf] at h2
        have : ks = []:=by cases ks with
          | nil=>rfl
          | cons=>simp at h2; omega
        subst this
        simp [ownB] at h3
        exact ⟨.nm m n,rfl,by simp [okV,nmB,h3.1,h3.2],h1⟩
      · by_cases k2 : k = 2
        · subst k2
          simp [kidsOf] at h2
          match ks,h2,ih,h4 with
          | [a,b],_,ih,h4 =>
            simp [ownB] at h3
            obtain ⟨rfl,rfl⟩:=h3
            simp only [shapes,Bool.and_eq_true] at h4
            obtain ⟨x,rfl,hx1,hx2⟩:=ih a (by simp) _ h4.1
            obtain ⟨y,rfl,hy1,hy2⟩:=ih b (by simp) _ h4.2.1
            refine ⟨.fn x y,rfl,by simp [okV,hx1,hy1],?_⟩
            simp only [dep]
            omega
          | [],h2,_,_=>simp at h2
          | [_],h2,_,_=>simp at h2
          | _ :: _ :: _ :: _,h2,_,_=>simp at h2; omega
        · simp [kidsOf,k1,k2,k3] at h2; try omega
theorem readO_toTy : ∀ (v : VT) (d : Int),okV v = true → d + dep v ≤ 9 → readO (toTy v) d = (some (vT v,vX v),true)
  | .num,d,_,h=>by
    simp [dep] at h
    have : ¬ 8 < d:=by omega
    simp [toTy,readO,this,vT,vX]
  | .nm m n,d,hv,h=>by
    simp [dep] at h
    simp [okV,nmB] at hv
    have : ¬ 8 < d:=by omega
    simp [toTy,readO,this,vT,vX,hv.1,hv.2]
  | .fn a b,d,hv,h=>by
    simp [dep] at h
    simp [okV] at hv
    have ha:=readO_toTy a (d + 1) hv.1 (by omega)
    have hb:=readO_toTy b (d + 1) hv.2 (by omega)
    have:=dep_pos a
    have : ¬ 8 < d:=by omega
    simp [toTy,readO,readOs,this,vT,vX,ha,hb,pairUp,ifA]
theorem readO_of (τ : Ty) : ∀ (d : Int),(readO τ d).2 = true → ∃ v,τ = toTy v ∧ okV v = true ∧ d + dep v ≤ 9:=by
  induction τ using Ty.ind with
  | h k m n ks ih =>
    intro d h
    rw [readO] at h
    split at h
    · cases h
    · rename_i hd
      split at h
      · rename_i k1
        subst k1
        simp at h
        obtain ⟨⟨rfl,rfl⟩,h⟩:=h
        have : ks = []:=by cases ks with
          | nil=>rfl
          | cons=>simp at h
        subst this
        exact ⟨.num,rfl,rfl,by simp [dep]; omega⟩
      · split at h
        · rename_i k1 k2
          subst k2
          split at h
          · rename_i hm
            subst hm
            split at h
            · rename_i hn
              subst hn
              match ks,ih,h with
              | [a,b],ih,h =>
                simp only [readOs,pairUp] at h
                have ha : (readO a (d + 1)).2 = true:=by
                  generalize readO a (d + 1) = x at h
                  generalize readO b (d + 1) = y at h
                  rcases x with ⟨x,_ | _⟩ <;> simp [pairUp] at h ⊢
                have hb : (readO b (d + 1)).2 = true:=by
                  generalize readO a (d + 1) = x at h
                  generalize readO b (d + 1) = y at h
                  rcases x with ⟨x,_ | _⟩ <;> rcases y with ⟨y,_ | _⟩ <;> simp [pairUp] at h ⊢
                obtain ⟨x,rfl,hx1,hx2⟩:=ih a (by simp) _ ha
                obtain ⟨y,rfl,hy1,hy2⟩:=ih b (by simp) _ hb
                refine ⟨.fn x y,rfl,by simp [okV,hx1,hy1],?_⟩
                simp only [dep]
                omega
              | [],_,h=>simp [readOs,pairUp] at h
              | [_],_,h=>simp [readOs,pairUp] at h
              | _ :: _ :: _ :: _,_,h=>simp [readOs,pairUp] at h
            · cases h
          · cases h
        · split at h
          · rename_i k1 k2 k3
            subst k3
            simp at h
            have : ks = []:=by cases ks with
              | nil=>rfl
              | cons=>simp at h
            subst this
            exact ⟨.nm m n,rfl,by simp [okV,nmB,h.1.1,h.1.2],by simp [dep]; omega⟩
          · cases h
structure VOk (v : VT) : Prop where
  ok : okV v = true
  dep : dep v ≤ 8
  cnt : cnt v ≤ 63
theorem validB_toTy {v : VT} (h : VOk v) : validB (toTy v) = true:=by
  have:=h.dep
  rw [validB,shape_toTy v 8 h.ok (by omega),count_toTy,decide_eq_true h.cnt]
  rfl
theorem validB_of {τ : Ty} (h : validB τ = true) : ∃ v,τ = toTy v ∧ VOk v:=by
  simp only [validB,Bool.and_eq_true,decide_eq_true_eq] at h
  obtain ⟨v,rfl,h1,h2⟩:=shape_of τ 8 h.1
  rw [count_toTy] at h
  exact ⟨v,rfl,h1,by omega,h.2⟩
theorem valid_cases (τ : Ty) : (∃ v,τ = toTy v ∧ VOk v) ∨ validB τ = false:=by
  cases h : validB τ with
  | true=>exact .inl (validB_of h)
  | false=>exact .inr rfl
theorem frzC_vX (v : VT) (A : List Box) : frzC (vX v) A = some (vX v,A):=by cases v <;> rfl
def pickF (x y z : FuncId) : VT → FuncId
  | .num=>x
  | .fn _ _=>y
  | .nm _ _=>z
structure Met (name : String) (gs : VT → FuncId) : Prop where
  find : ∀ v,methA Tryz.prog (vT v) name = some (gs v)
  call : ∀ v,callable Tryz.prog (gs v) = true
theorem met3 {name : String} {x y z : FuncId} (h1 : methA Tryz.prog 369 name = some x) (h2 : methA Tryz.prog 422 name = some y) (h3 : methA Tryz.prog 180 name = some z)
    (c1 : callable Tryz.prog x = true) (c2 : callable Tryz.prog y = true) (c3 : callable Tryz.prog z = true) : Met name (pickF x y z) :=
  ⟨fun v=>match v with
    | .num=>h1
    | .fn _ _=>h2
    | .nm _ _=>h3,
   fun v=>match v with
    | .num=>c1
    | .fn _ _=>c2
    | .nm _ _=>c3⟩
theorem meth_invK {own ow : FuncId → Bool} {name : String} {gs : VT → FuncId} {v : VT} {args args' : List AV} {A A1 : List Box} {R : AV → List Box → Prop} {N : Nat} {ops : Array Oper} {Q : Env → List Box → Prop} {rest : List Oper} {d : Option Tmp} {e : Env}
    (hm : Met name gs) (h : ACalls Tryz.prog (gs v) (vX v :: args') A1 R) (hf : frzs args A = some (args',A1)) (ho : ∀ g,own g = false)
    (hk : ∀ r A',R r A' → wpO Tryz.prog ow N ops Q rest (putA N d r e) A') : InvK Tryz.prog own name (.iface (vT v) (vX v)) args A (ContO Tryz.prog ow N ops Q rest d e):=by
  have h1:=hm.find v
  have h2:=hm.call v
  generalize gs v = g at h h1 h2
  refine ⟨g,h1,h2,callK_intro (args':=vX v :: args') (A1:=A1) ?_ h hk (ho g)⟩
  simp only [frzs,frzC_vX,hf]
theorem meth_invD {own : FuncId → Bool} {name : String} {gs : VT → FuncId} {v : VT} {args args' : List AV} {A : List Box} {x : AV} {N : Nat} {ops : Array Oper} {Q : Env → Prop} {rest : List Oper} {d : Option Tmp} {e : Env}
    (hm : Met name gs) (h : ACalls Tryz.prog (gs v) (vX v :: args') A (fun v' A'=>v' = x ∧ A' = A)) (hf : frzs args A = some (args',A)) (ho : ∀ g,own g = false)
    (hk : wpD Tryz.prog own N ops A Q rest (putA N d x e)) : InvD Tryz.prog own name (.iface (vT v) (vX v)) args A N ops Q rest d e:=by
  have h1:=hm.find v
  have h2:=hm.call v
  generalize gs v = g at h h1 h2
  refine ⟨g,h1,h2,callD_intro (args':=vX v :: args') ?_ h hk (ho g)⟩
  simp only [frzs,frzC_vX,hf]
end Go.Proofs.YtnjdbgiincliaaaGreat
