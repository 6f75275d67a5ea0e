/- ZeroX, SigD, Sigs, SigLaw. -/
import Derived.Test.YtnjdbgiincliaaaGreatK03
import Derived.Test.YtnjdbgiincliaaaGreatAbsW3
/- The program's comparison of an expression with the zero expression. -/
set_option linter.unusedVariables false
set_option linter.unusedSimpArgs false
namespace Go.Proofs.YtnjdbgiincliaaaGreat
open Go.Abs
def xks : Ex → List Ex
  | .mk _ _ _ _ _ ks=>ks
noncomputable def hd0 : Ex → Bool
  | .mk k i m n t _=>(((decide (k = 0) && decide (i = 0)) && decide (m = [])) && decide (n = [])) && decide (t = ty0)
theorem hd0_zero {t : Ex} (h : hd0 t = true) (hk : xks t = []) : t = ex0:=by
  obtain ⟨k,i,m,n,t,ks⟩:=t
  simp only [hd0,Bool.and_eq_true,decide_eq_true_eq] at h
  obtain ⟨⟨⟨⟨rfl,rfl⟩,rfl⟩,rfl⟩,rfl⟩:=h
  have : ks = []:=hk
  rw [this]; rfl
open Classical in
noncomputable def isX0 (t : Ex) : Bool:=decide (t = ex0)
theorem isX0_yes {t : Ex} (h : t = ex0) : isX0 t = true:=by simp [isX0,h]
theorem isX0_no {t : Ex} (h : ¬ t = ex0) : isX0 t = false:=by simp [isX0,h]
def xcF1 : AV:=.func (.func 232) [] []
def xcF2 (p : Nat) : AV:=.func (.func 233) [] [.ptr p 0]
set_option maxRecDepth 100000 in
theorem xc_kids (t : Ex) (A : List Box) : ACalls Tryz.prog 232 [.agg (encX t)] A (fun r A'=>r = .slice (encXs (xks t)) ∧ A' = A):=by
  obtain ⟨k,i,m,n,t,ks⟩:=t
  rw [encX]
  refine acalls_enter (cf:=cf 5 [0,1,2]) foll Tryz.func232 Tryz.ntmps232 (by simp [cf]) ?_
  simp only [Tryz.f232,EnterK_some,zW,zX,zD,builtinA,isLeaf,const1,Nat.reduceAdd,Nat.reduceMul,Nat.reduceSub,Nat.reduceLT,Nat.reduceLeDiff,Nat.reduceEqDiff,Nat.reduceBEq,Nat.reduceBNe,reduceIte,reduceCtorEq,Int.reduceToNat,Int.reduceLT,Int.reduceLE,Int.reduceEq,Int.reduceNe,Int.reduceNeg,ustrA,ti37,ti39,cf,Tryz.results232]
  rfl
set_option maxRecDepth 100000 in
theorem xc_same (x : Ex) (p q : Nat) (A : List Box) (hp : p < A.length) (hA : A.getD p .dead = .cells [tcF1,tcF2,.map q]) : ACalls Tryz.prog 233 [.agg (encX x),.agg (encX ex0),.ptr p 0] A (fun r A'=>r = .bool (hd0 x) ∧ A' = A):=by
  obtain ⟨k,i,m,n,t,ks⟩:=x
  have hz:=fun A=>same_zero t q A
  have h0 : encX ex0 = [.int .i64 0,.int .i64 0,.str [],.str [],.int .i64 0,.str [],.str [],.slice [],.slice []]:=rfl
  have hy : enc ty0 = [.int .i64 0,.str [],.str [],.slice []]:=by rw [ty0,enc]; rfl
  rw [encQ4 t,hy] at hz
  have hb : ∀ B,(A ++ B).getD p .dead = .cells [tcF1,tcF2,.map q]:=fun B=>by rw [Abs.getD_append_left hp]; exact hA
  simp only [tcF1,tcF2] at hz hb
  rw [encX,h0]
  by_cases h1 : k = 0
  · by_cases h2 : i = 0
    · by_cases h3 : m = []
      · by_cases h4 : n = []
        · have e : hd0 (.mk k i m n t ks) = decide (t = ty0):=by simp [hd0,h1,h2,h3,h4]
          rw [e]
          refine acalls_enter (cf:=cf 40 [0,1,2,3,4,5]) foll Tryz.func233 Tryz.ntmps233 (by simp [cf]) ?_
          simp only [Tryz.f233,EnterK_some,zW,zX,zD,builtinA,isLeaf,const1,Nat.reduceAdd,Nat.reduceMul,Nat.reduceSub,Nat.reduceLT,Nat.reduceLeDiff,Nat.reduceEqDiff,Nat.reduceBEq,Nat.reduceBNe,reduceIte,reduceCtorEq,Int.reduceToNat,Int.reduceLT,Int.reduceLE,Int.reduceEq,Int.reduceNe,Int.reduceNeg,ustrA,ti3,ti9,ti36,ti39,ti167,ca197,cf,Tryz.results233]
          simp only [zW,zX,zD,builtinA,isLeaf,const1,Nat.reduceAdd,Nat.reduceMul,Nat.reduceSub,Nat.reduceLT,Nat.reduceLeDiff,Nat.reduceEqDiff,Nat.reduceBEq,Nat.reduceBNe,reduceIte,reduceCtorEq,Int.reduceToNat,Int.reduceLT,Int.reduceLE,Int.reduceEq,Int.reduceNe,Int.reduceNeg,ustrA,ti3,ti9,ti36,ti39,ti167,ca197,cf,Tryz.results233,decide_eq_true h1,decide_eq_true h2,decide_eq_true h3,decide_eq_true h4,hb]
          refine callO_intro (hz _) ?_
          rintro r A' ⟨rfl,rfl⟩
          simp only [zW,zX,zD,builtinA,isLeaf,const1,Nat.reduceAdd,Nat.reduceMul,Nat.reduceSub,Nat.reduceLT,Nat.reduceLeDiff,Nat.reduceEqDiff,Nat.reduceBEq,Nat.reduceBNe,reduceIte,reduceCtorEq,Int.reduceToNat,Int.reduceLT,Int.reduceLE,Int.reduceEq,Int.reduceNe,Int.reduceNeg,ustrA,ti3,ti9,ti36,ti39,ti167,ca197,cf,Tryz.results233]
        · have e : hd0 (.mk k i m n t ks) = false:=by simp [hd0,h4]
          rw [e]
          refine acalls_enter (cf:=cf 40 [0,1,2,3,4,5]) foll Tryz.func233 Tryz.ntmps233 (by simp [cf]) ?_
          simp only [Tryz.f233,EnterK_some,zW,zX,zD,builtinA,isLeaf,const1,Nat.reduceAdd,Nat.reduceMul,Nat.reduceSub,Nat.reduceLT,Nat.reduceLeDiff,Nat.reduceEqDiff,Nat.reduceBEq,Nat.reduceBNe,reduceIte,reduceCtorEq,Int.reduceToNat,Int.reduceLT,Int.reduceLE,Int.reduceEq,Int.reduceNe,Int.reduceNeg,ustrA,ti3,ti9,ti36,ti39,ti167,ca197,cf,Tryz.results233]
          simp only [zW,zX,zD,builtinA,isLeaf,const1,Nat.reduceAdd,Nat.reduceMul,Nat.reduceSub,Nat.reduceLT,Nat.reduceLeDiff,Nat.reduceEqDiff,Nat.reduceBEq,Nat.reduceBNe,reduceIte,reduceCtorEq,Int.reduceToNat,Int.reduceLT,Int.reduceLE,Int.reduceEq,Int.reduceNe,Int.reduceNeg,ustrA,ti3,ti9,ti36,ti39,ti167,ca197,cf,Tryz.results233,decide_eq_true h1,decide_eq_true h2,decide_eq_true h3,decide_eq_false h4]
      · have e : hd0 (.mk k i m n t ks) = false:=by simp [hd0,h3]
        rw [e]
        refine acalls_enter (cf:=cf 40 [0,1,2,3,4,5]) foll Tryz.func233 Tryz.ntmps233 (by simp [cf]) ?_
        simp only [Tryz.f233,EnterK_some,zW,zX,zD,builtinA,isLeaf,const1,Nat.reduceAdd,Nat.reduceMul,Nat.reduceSub,Nat.reduceLT,Nat.reduceLeDiff,Nat.reduceEqDiff,Nat.reduceBEq,Nat.reduceBNe,reduceIte,reduceCtorEq,Int.reduceToNat,Int.reduceLT,Int.reduceLE,Int.reduceEq,Int.reduceNe,Int.reduceNeg,ustrA,ti3,ti9,ti36,ti39,ti167,ca197,cf,Tryz.results233]
        simp only [zW,zX,zD,builtinA,isLeaf,const1,Nat.reduceAdd,Nat.reduceMul,Nat.reduceSub,Nat.reduceLT,Nat.reduceLeDiff,Nat.reduceEqDiff,Nat.reduceBEq,Nat.reduceBNe,reduceIte,reduceCtorEq,Int.reduceToNat,Int.reduceLT,Int.reduceLE,Int.reduceEq,Int.reduceNe,Int.reduceNeg,ustrA,ti3,ti9,ti36,ti39,ti167,ca197,cf,Tryz.results233,decide_eq_true h1,decide_eq_true h2,decide_eq_false h3]
    · have e : hd0 (.mk k i m n t ks) = false:=by simp [hd0,h2]
      rw [e]
      refine acalls_enter (cf:=cf 40 [0,1,2,3,4,5]) foll Tryz.func233 Tryz.ntmps233 (by simp [cf]) ?_
      simp only [Tryz.f233,EnterK_some,zW,zX,zD,builtinA,isLeaf,const1,Nat.reduceAdd,Nat.reduceMul,Nat.reduceSub,Nat.reduceLT,Nat.reduceLeDiff,Nat.reduceEqDiff,Nat.reduceBEq,Nat.reduceBNe,reduceIte,reduceCtorEq,Int.reduceToNat,Int.reduceLT,Int.reduceLE,Int.reduceEq,Int.reduceNe,Int.reduceNeg,ustrA,ti3,ti9,ti36,ti39,ti167,ca197,cf,Tryz.results233]
      simp only [zW,zX,zD,builtinA,isLeaf,const1,Nat.reduceAdd,Nat.reduceMul,Nat.reduceSub,Nat.reduceLT,Nat.reduceLeDiff,Nat.reduceEqDiff,Nat.reduceBEq,Nat.reduceBNe,reduceIte,reduceCtorEq,Int.reduceToNat,Int.reduceLT,Int.reduceLE,Int.reduceEq,Int.reduceNe,Int.reduceNeg,ustrA,ti3,ti9,ti36,ti39,ti167,ca197,cf,Tryz.results233,decide_eq_true h1,decide_eq_false h2]
  · have e : hd0 (.mk k i m n t ks) = false:=by simp [hd0,h1]
    rw [e]
    refine acalls_enter (cf:=cf 40 [0,1,2,3,4,5]) foll Tryz.func233 Tryz.ntmps233 (by simp [cf]) ?_
    simp only [Tryz.f233,EnterK_some,zW,zX,zD,builtinA,isLeaf,const1,Nat.reduceAdd,Nat.reduceMul,Nat.reduceSub,Nat.reduceLT,Nat.reduceLeDiff,Nat.reduceEqDiff,Nat.reduceBEq,Nat.reduceBNe,reduceIte,reduceCtorEq,Int.reduceToNat,Int.reduceLT,Int.reduceLE,Int.reduceEq,Int.reduceNe,Int.reduceNeg,ustrA,ti3,ti9,ti36,ti39,ti167,ca197,cf,Tryz.results233]
    simp only [zW,zX,zD,builtinA,isLeaf,const1,Nat.reduceAdd,Nat.reduceMul,Nat.reduceSub,Nat.reduceLT,Nat.reduceLeDiff,Nat.reduceEqDiff,Nat.reduceBEq,Nat.reduceBNe,reduceIte,reduceCtorEq,Int.reduceToNat,Int.reduceLT,Int.reduceLE,Int.reduceEq,Int.reduceNe,Int.reduceNeg,ustrA,ti3,ti9,ti36,ti39,ti167,ca197,cf,Tryz.results233,decide_eq_false h1]
set_option maxRecDepth 100000 in
theorem joinX_none (m : AV) (A : List Box) : ACalls Tryz.prog 234 [m,.slice [],.slice []] A (fun r A'=>r = .bool false ∧ A' = A):=by
  have h0 : decide (((0 : Nat) : Int) = 0) = true:=rfl
  refine acalls_enter (cf:=cf 32 [0,1,2,6,7,8,11,28]) foll Tryz.func234 Tryz.ntmps234 (by simp [cf]) ?_
  simp only [Tryz.f234,EnterK_some,zW,zX,zD,builtinA,isLeaf,const1,Nat.reduceAdd,Nat.reduceMul,Nat.reduceSub,Nat.reduceLT,Nat.reduceLeDiff,Nat.reduceEqDiff,Nat.reduceBEq,Nat.reduceBNe,reduceIte,reduceCtorEq,Int.reduceToNat,Int.reduceLT,Int.reduceLE,Int.reduceEq,Int.reduceNe,Int.reduceNeg,ustrA,ti3,ti37,ti39,ti229,ti406,ca282,mi229,ks406,cf,Tryz.results234]
  simp only [zW,zX,zD,builtinA,isLeaf,const1,Nat.reduceAdd,Nat.reduceMul,Nat.reduceSub,Nat.reduceLT,Nat.reduceLeDiff,Nat.reduceEqDiff,Nat.reduceBEq,Nat.reduceBNe,reduceIte,reduceCtorEq,Int.reduceToNat,Int.reduceLT,Int.reduceLE,Int.reduceEq,Int.reduceNe,Int.reduceNeg,ustrA,ti3,ti37,ti39,ti229,ti406,ca282,mi229,ks406,cf,Tryz.results234,h0]
set_option maxRecDepth 100000 in
set_option maxHeartbeats 2000000 in
theorem sameX_zero (t : Ex) (i p q : Nat) (A : List Box) (hp : p < A.length) (hA : A.getD p .dead = .cells [tcF1,tcF2,.map q]) : ACalls Tryz.prog 154 [.agg [xcF1,xcF2 p,.map i],.agg (encX t),.agg (encX ex0)] A (fun r A'=>r = .bool (isX0 t) ∧ A' = A):=by
  have hz : encX ex0 = [.int .i64 0,.int .i64 0,.str [],.str [],.int .i64 0,.str [],.str [],.slice [],.slice []]:=rfl
  simp only [xcF1,xcF2]
  refine acalls_enter (cf:=cf 82 [0,1,2,3,4,5,6,7,8,9,10,11,12,21,34,35,36,37,69,76]) foll Tryz.func154 Tryz.ntmps154 (by simp [cf]) ?_
  simp only [Tryz.f154,EnterK_some,zW,zX,zD,builtinA,isLeaf,const1,Nat.reduceAdd,Nat.reduceMul,Nat.reduceSub,Nat.reduceLT,Nat.reduceLeDiff,Nat.reduceEqDiff,Nat.reduceBEq,Nat.reduceBNe,reduceIte,reduceCtorEq,Int.reduceToNat,Int.reduceLT,Int.reduceLE,Int.reduceEq,Int.reduceNe,Int.reduceNeg,ustrA,ti3,ti37,ti39,ti96,ti99,ti229,ti231,ti341,ti342,ca234,cf,Tryz.results154]
  simp only [zW,zX,zD,builtinA,isLeaf,const1,Nat.reduceAdd,Nat.reduceMul,Nat.reduceSub,Nat.reduceLT,Nat.reduceLeDiff,Nat.reduceEqDiff,Nat.reduceBEq,Nat.reduceBNe,reduceIte,reduceCtorEq,Int.reduceToNat,Int.reduceLT,Int.reduceLE,Int.reduceEq,Int.reduceNe,Int.reduceNeg,ustrA,ti3,ti37,ti39,ti96,ti99,ti229,ti231,ti341,ti342,ca234,cf,Tryz.results154,encX_length,encX_take,frzL_encX]
  refine ⟨encX_leaf t,encX_leaf ex0,?_,?_⟩
  · intro v hv
    rcases List.mem_cons.1 hv with rfl | hv
    · rfl
    · rcases List.mem_cons.1 hv with rfl | hv
      · rfl
      · cases hv
  refine aloop_intro [3,7] (fun e A'=>∃ B j,e = [(3,.ptr A.length 0),(7,.own (A.length + (j + 3)))] ∧ A' = A ++ (.cells [xcF1,xcF2 p,.map i] :: .cells (encX t) :: .cells (encX ex0) :: B) ∧ j < B.length ∧ (B.getD j .dead = .row 2 [[.slice [encX t],.slice [encX ex0]]] 0 ∨ (B.getD j .dead = .row 2 [] 0 ∧ t = ex0))) (fun e A'=>rowLen0 A' (Abs.look 7 e)) ?_ ?_
  · simp only [zW,zX,zD,builtinA,isLeaf,const1,Nat.reduceAdd,Nat.reduceMul,Nat.reduceSub,Nat.reduceLT,Nat.reduceLeDiff,Nat.reduceEqDiff,Nat.reduceBEq,Nat.reduceBNe,reduceIte,reduceCtorEq,Int.reduceToNat,Int.reduceLT,Int.reduceLE,Int.reduceEq,Int.reduceNe,Int.reduceNeg,ustrA,ti3,ti37,ti39,ti96,ti99,ti229,ti231,ti341,ti342,ca234,cf,Tryz.results154]
    exact ⟨_,2,rfl,rfl,by simp,.inl rfl⟩
  · rintro e A' ⟨B,j,rfl,rfl,hj,hB⟩
    have hgj : ∀ X Y Z : Box,∀ d : Box,(X :: Y :: Z :: B).getD (j + 3) d = B.getD j d:=fun _ _ _ _=>rfl
    have hmu : ∀ rows,B.getD j .dead = .row 2 rows 0 → rowLen0 (A ++ (.cells [xcF1,xcF2 p,.map i] :: .cells (encX t) :: .cells (encX ex0) :: B)) (.own (A.length + (j + 3))) = rows.length:=fun rows hr=>by
      have e2 : (A ++ (.cells [xcF1,xcF2 p,.map i] :: .cells (encX t) :: .cells (encX ex0) :: B)).getD (A.length + (j + 3)) .dead = .row 2 rows 0:=(getD_app _ _ _ _).trans hr
      simp only [rowLen0,e2]
    rcases hB with hB | ⟨hB,ht⟩
    · have hz1 : decide ((0 : Int) < ((1 : Nat) : Int)) = true:=rfl
      have hm1 : ((1 : Nat) : Int) - 1 = ((0 : Nat) : Int):=rfl
      have hw0 : IntKind.i64.wrap ((0 : Nat) : Int) = ((0 : Nat) : Int):=rfl
      have hB2 : ∀ L : List Box,(B ++ L).getD j .dead = .row 2 [[.slice [encX t],.slice [encX ex0]]] 0:=fun L=>by rw [getD_app1 _ _ _ _ hj,hB]
      have hmu':=hmu _ hB
      simp only [List.length_cons,List.length_nil] at hmu'
      rw [show Abs.look 7 [(3,AV.ptr A.length 0),(7,AV.own (A.length + (j + 3)))] = .own (A.length + (j + 3)) from rfl,hmu']
      have hq : ∀ (X Y : Box) (L : List Box) (d : Box),((B ++ [X]).set j Y ++ L).getD B.length d = X:=fun X Y L d=>by
        have h1 : B.length < ((B ++ [X]).set j Y).length:=by simp
        have h2 : j ≠ B.length:=by omega
        rw [getD_app1 _ _ _ _ h1,Go.Abs.getD_set_ne' h2,getD_app0]
        rfl
      have hq2 : ∀ (X Y Z d : Box),((B ++ [X]).set j Y ++ [Z]).getD (B.length + 1) d = Z:=fun X Y Z d=>by
        have e : ((B ++ [X]).set j Y).length = B.length + 1:=by simp
        rw [← e,getD_app0]
        rfl
      simp only [xcF1,xcF2]
      simp only [zW,zX,zD,builtinA,isLeaf,const1,Nat.reduceAdd,Nat.reduceMul,Nat.reduceSub,Nat.reduceLT,Nat.reduceLeDiff,Nat.reduceEqDiff,Nat.reduceBEq,Nat.reduceBNe,reduceIte,reduceCtorEq,Int.reduceToNat,Int.reduceLT,Int.reduceLE,Int.reduceEq,Int.reduceNe,Int.reduceNeg,ustrA,ti3,ti37,ti39,ti96,ti99,ti229,ti231,ti341,ti342,ca234,cf,Tryz.results154,hgj,hB,hB2,hz1,hm1,hw0,hq]
      refine ⟨⟨by omega,by omega⟩,⟨by omega,by omega⟩,?_⟩
      refine aloop_intro [3,7,8,34,35,36] (fun e A'=>∃ (B' : List Box) (j' k : Nat),e = [(3,.ptr A.length 0),(7,.own (A.length + (j' + 3))),(8,.ptr (A.length + (B.length + 3)) 0),(34,.slice [encX t]),(35,.int .i64 (1 : Nat)),(36,.int .i64 (k : Nat))]
        ∧ A' = A ++ (.cells [xcF1,xcF2 p,.map i] :: .cells (encX t) :: .cells (encX ex0) :: B') ∧ j' < B'.length ∧ B'.getD j' .dead = .row 2 [] 0 ∧ B.length < B'.length ∧ B'.getD B.length .dead = .cells [.slice [encX t],.slice [encX ex0]]
        ∧ k ≤ 1 ∧ (k = 1 → t = ex0)) (fun e _=>1 - (intOf (Abs.look 36 e)).toNat) ?_ ?_
      · refine ⟨_,B.length + 1,0,rfl,rfl,by simp,hq2 _ _ _ _,by simp only [List.length_append,List.length_set,List.length_singleton]; omega,hq _ _ _ _,by omega,by omega⟩
      · rintro e A' ⟨B',j',k,rfl,rfl,hj',hB',hlt,hb,hk,hkt⟩
        have hgj' : ∀ X Y Z : Box,∀ d : Box,(X :: Y :: Z :: B').getD (j' + 3) d = B'.getD j' d:=fun _ _ _ _=>rfl
        have hgb' : ∀ X Y Z : Box,∀ d : Box,(X :: Y :: Z :: B').getD (B.length + 3) d = B'.getD B.length d:=fun _ _ _ _=>rfl
        have hgB : ∀ L : List Box,(B' ++ L).getD B.length .dead = .cells [.slice [encX t],.slice [encX ex0]]:=fun L=>by rw [getD_app1 _ _ _ _ hlt,hb]
        rcases Nat.lt_or_ge k 1 with hk1 | hk1
        · have hk0 : k = 0:=by omega
          subst hk0
          have d01 : decide (((0 : Nat) : Int) < ((1 : Nat) : Int)) = true:=rfl
          simp only [xcF1,xcF2]
          simp only [zW,zX,zD,builtinA,isLeaf,const1,Nat.reduceAdd,Nat.reduceMul,Nat.reduceSub,Nat.reduceLT,Nat.reduceLeDiff,Nat.reduceEqDiff,Nat.reduceBEq,Nat.reduceBNe,reduceIte,reduceCtorEq,Int.reduceToNat,Int.reduceLT,Int.reduceLE,Int.reduceEq,Int.reduceNe,Int.reduceNeg,ustrA,ti3,ti37,ti39,ti96,ti99,ti229,ti231,ti341,ti342,ca234,cf,Tryz.results154,hgj',hgb',hb,hgB,d01,encX_length,encX_take,frzL_encX]
          refine ⟨⟨by omega,by omega⟩,⟨by omega,by omega⟩,?_⟩
          refine .inr (drawE_intro [(false,0,1),(false,0,1),(false,0,1),(false,0,1),(false,0,1),(false,0,1),(false,0,1),(false,0,1),(false,0,1),(true,0,0),(true,1,1)] [A ++ (.cells [xcF1,xcF2 p,.map i] :: .cells (encX t) :: .cells (encX ex0) :: (B' ++ [.cells (encX t),.cells (encX ex0)])),A ++ (.cells [xcF1,xcF2 p,.map i] :: .cells (encX t) :: .cells (encX ex0) :: (B' ++ [.cells (encX t),.cells (encX ex0),.cells [.nils,.nils]])),A ++ (.cells [xcF1,xcF2 p,.map i] :: .cells (encX t) :: .cells (encX ex0) :: (B' ++ [.cells (encX t),.cells (encX ex0),.cells [.slice (encXs (xks t)),.slice []]]))] 2 rfl (by kernel_rfl) (by kernel_rfl) (by kernel_rfl) (by kernel_rfl) (by kernel_rfl) (by kernel_rfl) ?_)
          simp only [xcF1,xcF2]
          simp only [zW,zX,zD,builtinA,isLeaf,const1,Nat.reduceAdd,Nat.reduceMul,Nat.reduceSub,Nat.reduceLT,Nat.reduceLeDiff,Nat.reduceEqDiff,Nat.reduceBEq,Nat.reduceBNe,reduceIte,reduceCtorEq,Int.reduceToNat,Int.reduceLT,Int.reduceLE,Int.reduceEq,Int.reduceNe,Int.reduceNeg,ustrA,ti3,ti37,ti39,ti96,ti99,ti229,ti231,ti341,ti342,ca234,cf,Tryz.results154,encX_take]
          refine ⟨by rw [encX_length]; omega,by rw [encX_length]; omega,?_⟩
          refine wpG_callv _ _ _ _ _ _ _ _ _ _ _ _ _ _ _ _ _ ?_
          simp only [zW,zX,zD,builtinA,isLeaf,const1,Nat.reduceAdd,Nat.reduceMul,Nat.reduceSub,Nat.reduceLT,Nat.reduceLeDiff,Nat.reduceEqDiff,Nat.reduceBEq,Nat.reduceBNe,reduceIte,reduceCtorEq,Int.reduceToNat,Int.reduceLT,Int.reduceLE,Int.reduceEq,Int.reduceNe,Int.reduceNeg,ustrA,ti3,ti37,ti39,ti96,ti99,ti229,ti231,ti341,ti342,ca234,cf,Tryz.results154,CallVE_eq,List.nil_append,List.append_nil]
          refine ⟨by kernel_rfl,callEN_intro (fun A=>by simp only [zW,zX,zD,builtinA,isLeaf,const1,Nat.reduceAdd,Nat.reduceMul,Nat.reduceSub,Nat.reduceLT,Nat.reduceLeDiff,Nat.reduceEqDiff,Nat.reduceBEq,Nat.reduceBNe,reduceIte,reduceCtorEq,Int.reduceToNat,Int.reduceLT,Int.reduceLE,Int.reduceEq,Int.reduceNe,Int.reduceNeg,ustrA,frzL_encX,Option.map_some]) (fun A=>xc_kids t A) ?_ rfl rfl⟩
          simp only [zW,zX,zD,builtinA,isLeaf,const1,Nat.reduceAdd,Nat.reduceMul,Nat.reduceSub,Nat.reduceLT,Nat.reduceLeDiff,Nat.reduceEqDiff,Nat.reduceBEq,Nat.reduceBNe,reduceIte,reduceCtorEq,Int.reduceToNat,Int.reduceLT,Int.reduceLE,Int.reduceEq,Int.reduceNe,Int.reduceNeg,ustrA,ti3,ti37,ti39,ti96,ti99,ti229,ti231,ti341,ti342,ca234,cf,Tryz.results154,encX_take]
          refine ⟨by rw [encX_length]; omega,by rw [encX_length]; omega,?_⟩
          refine wpG_callv _ _ _ _ _ _ _ _ _ _ _ _ _ _ _ _ _ ?_
          simp only [zW,zX,zD,builtinA,isLeaf,const1,Nat.reduceAdd,Nat.reduceMul,Nat.reduceSub,Nat.reduceLT,Nat.reduceLeDiff,Nat.reduceEqDiff,Nat.reduceBEq,Nat.reduceBNe,reduceIte,reduceCtorEq,Int.reduceToNat,Int.reduceLT,Int.reduceLE,Int.reduceEq,Int.reduceNe,Int.reduceNeg,ustrA,ti3,ti37,ti39,ti96,ti99,ti229,ti231,ti341,ti342,ca234,cf,Tryz.results154,CallVE_eq,List.nil_append,List.append_nil]
          refine ⟨by kernel_rfl,callEN_intro (fun A=>by simp only [zW,zX,zD,builtinA,isLeaf,const1,Nat.reduceAdd,Nat.reduceMul,Nat.reduceSub,Nat.reduceLT,Nat.reduceLeDiff,Nat.reduceEqDiff,Nat.reduceBEq,Nat.reduceBNe,reduceIte,reduceCtorEq,Int.reduceToNat,Int.reduceLT,Int.reduceLE,Int.reduceEq,Int.reduceNe,Int.reduceNeg,ustrA,frzL_encX,Option.map_some]) (fun A=>xc_kids ex0 A) ?_ rfl rfl⟩
          have hk0' : encXs (xks ex0) = []:=rfl
          simp only [zW,zX,zD,builtinA,isLeaf,const1,Nat.reduceAdd,Nat.reduceMul,Nat.reduceSub,Nat.reduceLT,Nat.reduceLeDiff,Nat.reduceEqDiff,Nat.reduceBEq,Nat.reduceBNe,reduceIte,reduceCtorEq,Int.reduceToNat,Int.reduceLT,Int.reduceLE,Int.reduceEq,Int.reduceNe,Int.reduceNeg,ustrA,ti3,ti37,ti39,ti96,ti99,ti229,ti231,ti341,ti342,ca234,cf,Tryz.results154,encX_take,hk0']
          by_cases hkn : (xks t) = []
          · have hen : encXs (xks t) = []:=by rw [hkn]; rfl
            have d00 : decide (¬ ((0 : Nat) : Int) = ((0 : Nat) : Int)) = false:=rfl
            have hts:=fun B=>xc_same t p q (A ++ B) (by simp; omega) (by rw [Abs.getD_append_left hp]; exact hA)
            generalize hsn : hd0 t = sn at hts
            cases sn with
            | true =>
              have htz : t = ex0:=hd0_zero hsn hkn
              simp only [zW,zX,zD,builtinA,isLeaf,const1,Nat.reduceAdd,Nat.reduceMul,Nat.reduceSub,Nat.reduceLT,Nat.reduceLeDiff,Nat.reduceEqDiff,Nat.reduceBEq,Nat.reduceBNe,reduceIte,reduceCtorEq,Int.reduceToNat,Int.reduceLT,Int.reduceLE,Int.reduceEq,Int.reduceNe,Int.reduceNeg,ustrA,ti3,ti37,ti39,ti96,ti99,ti229,ti231,ti341,ti342,ca234,cf,Tryz.results154,encX_take,hen,d00]
              refine ⟨by rw [encX_length]; omega,by rw [encX_length]; omega,?_⟩
              refine wpO_callv _ _ _ _ _ _ _ _ _ _ _ _ _ _ _ ?_
              simp only [zW,zX,zD,builtinA,isLeaf,const1,Nat.reduceAdd,Nat.reduceMul,Nat.reduceSub,Nat.reduceLT,Nat.reduceLeDiff,Nat.reduceEqDiff,Nat.reduceBEq,Nat.reduceBNe,reduceIte,reduceCtorEq,Int.reduceToNat,Int.reduceLT,Int.reduceLE,Int.reduceEq,Int.reduceNe,Int.reduceNeg,ustrA,ti3,ti37,ti39,ti96,ti99,ti229,ti231,ti341,ti342,ca234,cf,Tryz.results154,List.nil_append,List.append_nil]
              refine ⟨by kernel_rfl,?_⟩
              refine callK_intro (by simp only [zW,zX,zD,builtinA,isLeaf,const1,Nat.reduceAdd,Nat.reduceMul,Nat.reduceSub,Nat.reduceLT,Nat.reduceLeDiff,Nat.reduceEqDiff,Nat.reduceBEq,Nat.reduceBNe,reduceIte,reduceCtorEq,Int.reduceToNat,Int.reduceLT,Int.reduceLE,Int.reduceEq,Int.reduceNe,Int.reduceNeg,ustrA,frzL_encX,Option.map_some,List.cons_append,List.nil_append] <;> rfl) (hts _) ?_ rfl
              rintro r A2 ⟨rfl,rfl⟩
              simp only [zW,zX,zD,builtinA,isLeaf,const1,Nat.reduceAdd,Nat.reduceMul,Nat.reduceSub,Nat.reduceLT,Nat.reduceLeDiff,Nat.reduceEqDiff,Nat.reduceBEq,Nat.reduceBNe,reduceIte,reduceCtorEq,Int.reduceToNat,Int.reduceLT,Int.reduceLE,Int.reduceEq,Int.reduceNe,Int.reduceNeg,ustrA,ti3,ti37,ti39,ti96,ti99,ti229,ti231,ti341,ti342,ca234,cf,Tryz.results154]
              refine callK_intro (by simp only [zW,zX,zD,builtinA,isLeaf,const1,Nat.reduceAdd,Nat.reduceMul,Nat.reduceSub,Nat.reduceLT,Nat.reduceLeDiff,Nat.reduceEqDiff,Nat.reduceBEq,Nat.reduceBNe,reduceIte,reduceCtorEq,Int.reduceToNat,Int.reduceLT,Int.reduceLE,Int.reduceEq,Int.reduceNe,Int.reduceNeg,ustrA,Option.map_some] <;> rfl) (joinX_none _ _) ?_ rfl
              rintro r A2 ⟨rfl,rfl⟩
              simp only [zW,zX,zD,builtinA,isLeaf,const1,Nat.reduceAdd,Nat.reduceMul,Nat.reduceSub,Nat.reduceLT,Nat.reduceLeDiff,Nat.reduceEqDiff,Nat.reduceBEq,Nat.reduceBNe,reduceIte,reduceCtorEq,Int.reduceToNat,Int.reduceLT,Int.reduceLE,Int.reduceEq,Int.reduceNe,Int.reduceNeg,ustrA,ti3,ti37,ti39,ti96,ti99,ti229,ti231,ti341,ti342,ca234,cf,Tryz.results154,LoopK_eq]
              refine ⟨⟨_,j',1,rfl,rfl,by simp; omega,by rw [getD_app1 _ _ _ _ hj',hB'],by simp; omega,hgB _,by omega,fun _=>htz⟩,by simp only [intOf]; decide⟩
            | false =>
              have htz : ¬ t = ex0:=fun e=>by subst e; simp [hd0,ex0] at hsn
              simp only [zW,zX,zD,builtinA,isLeaf,const1,Nat.reduceAdd,Nat.reduceMul,Nat.reduceSub,Nat.reduceLT,Nat.reduceLeDiff,Nat.reduceEqDiff,Nat.reduceBEq,Nat.reduceBNe,reduceIte,reduceCtorEq,Int.reduceToNat,Int.reduceLT,Int.reduceLE,Int.reduceEq,Int.reduceNe,Int.reduceNeg,ustrA,ti3,ti37,ti39,ti96,ti99,ti229,ti231,ti341,ti342,ca234,cf,Tryz.results154,encX_take,hen,d00]
              refine ⟨by rw [encX_length]; omega,by rw [encX_length]; omega,?_⟩
              refine wpO_callv _ _ _ _ _ _ _ _ _ _ _ _ _ _ _ ?_
              simp only [zW,zX,zD,builtinA,isLeaf,const1,Nat.reduceAdd,Nat.reduceMul,Nat.reduceSub,Nat.reduceLT,Nat.reduceLeDiff,Nat.reduceEqDiff,Nat.reduceBEq,Nat.reduceBNe,reduceIte,reduceCtorEq,Int.reduceToNat,Int.reduceLT,Int.reduceLE,Int.reduceEq,Int.reduceNe,Int.reduceNeg,ustrA,ti3,ti37,ti39,ti96,ti99,ti229,ti231,ti341,ti342,ca234,cf,Tryz.results154,List.nil_append,List.append_nil]
              refine ⟨by kernel_rfl,?_⟩
              refine callK_intro (by simp only [zW,zX,zD,builtinA,isLeaf,const1,Nat.reduceAdd,Nat.reduceMul,Nat.reduceSub,Nat.reduceLT,Nat.reduceLeDiff,Nat.reduceEqDiff,Nat.reduceBEq,Nat.reduceBNe,reduceIte,reduceCtorEq,Int.reduceToNat,Int.reduceLT,Int.reduceLE,Int.reduceEq,Int.reduceNe,Int.reduceNeg,ustrA,frzL_encX,Option.map_some,List.cons_append,List.nil_append] <;> rfl) (hts _) ?_ rfl
              rintro r A2 ⟨rfl,rfl⟩
              simp only [zW,zX,zD,builtinA,isLeaf,const1,Nat.reduceAdd,Nat.reduceMul,Nat.reduceSub,Nat.reduceLT,Nat.reduceLeDiff,Nat.reduceEqDiff,Nat.reduceBEq,Nat.reduceBNe,reduceIte,reduceCtorEq,Int.reduceToNat,Int.reduceLT,Int.reduceLE,Int.reduceEq,Int.reduceNe,Int.reduceNeg,ustrA,ti3,ti37,ti39,ti96,ti99,ti229,ti231,ti341,ti342,ca234,cf,Tryz.results154,isX0_no htz]
          · have htz : ¬ t = ex0:=fun e=>by subst e; exact hkn rfl
            have hnk : 0 < (xks t).length:=List.length_pos_iff.2 hkn
            have d00 : decide ((((xks t).length : Nat) : Int) = ((0 : Nat) : Int)) = false:=decide_eq_false (by omega)
            simp only [zW,zX,zD,builtinA,isLeaf,const1,Nat.reduceAdd,Nat.reduceMul,Nat.reduceSub,Nat.reduceLT,Nat.reduceLeDiff,Nat.reduceEqDiff,Nat.reduceBEq,Nat.reduceBNe,reduceIte,reduceCtorEq,Int.reduceToNat,Int.reduceLT,Int.reduceLE,Int.reduceEq,Int.reduceNe,Int.reduceNeg,ustrA,ti3,ti37,ti39,ti96,ti99,ti229,ti231,ti341,ti342,ca234,cf,Tryz.results154,encX_take,d00,encXs_length,isX0_no htz]
        · have hk0 : k = 1:=by omega
          subst hk0
          have d11 : decide (((1 : Nat) : Int) < ((1 : Nat) : Int)) = false:=rfl
          simp only [xcF1,xcF2]
          simp only [zW,zX,zD,builtinA,isLeaf,const1,Nat.reduceAdd,Nat.reduceMul,Nat.reduceSub,Nat.reduceLT,Nat.reduceLeDiff,Nat.reduceEqDiff,Nat.reduceBEq,Nat.reduceBNe,reduceIte,reduceCtorEq,Int.reduceToNat,Int.reduceLT,Int.reduceLE,Int.reduceEq,Int.reduceNe,Int.reduceNeg,ustrA,ti3,ti37,ti39,ti96,ti99,ti229,ti231,ti341,ti342,ca234,cf,Tryz.results154,hgj',hgb',hb,hgB,d11,LoopK_eq,encX_length,encX_take,frzL_encX]
          refine ⟨⟨B',j',rfl,rfl,hj',.inr ⟨hB',hkt rfl⟩⟩,?_⟩
          have e2 : (A ++ (.cells [xcF1,xcF2 p,.map i] :: .cells (encX t) :: .cells (encX ex0) :: B')).getD (A.length + (j' + 3)) .dead = .row 2 [] 0:=(getD_app _ _ _ _).trans hB'
          simp only [xcF1,xcF2] at e2
          simp only [rowLen0,e2]
          decide
    · have hz0 : decide ((0 : Int) < ((0 : Nat) : Int)) = false:=rfl
      simp only [xcF1,xcF2]
      simp only [zW,zX,zD,builtinA,isLeaf,const1,Nat.reduceAdd,Nat.reduceMul,Nat.reduceSub,Nat.reduceLT,Nat.reduceLeDiff,Nat.reduceEqDiff,Nat.reduceBEq,Nat.reduceBNe,reduceIte,reduceCtorEq,Int.reduceToNat,Int.reduceLT,Int.reduceLE,Int.reduceEq,Int.reduceNe,Int.reduceNeg,ustrA,ti3,ti37,ti39,ti96,ti99,ti229,ti231,ti341,ti342,ca234,cf,Tryz.results154,hgj,hB,hz0,isX0_yes ht]
set_option maxRecDepth 100000 in
theorem impl_exprComparison (m : Nat) (A : List Box) : ACalls Tryz.prog 153 [.agg [tcF1,tcF2,.map m]] A (fun r A'=>r = .agg [xcF1,xcF2 A.length,.map (A.length + 2)] ∧ A' = A ++ [.cells [tcF1,tcF2,.map m],.cells [xcF1,xcF2 A.length,.map (A.length + 2)],.mapb []]):=by
  simp only [tcF1,tcF2,xcF1,xcF2]
  refine acalls_enterK (cf:=cf 10 [0,1,2,3,4]) foll Tryz.func153 Tryz.ntmps153 (by simp [cf]) ?_
  simp only [Tryz.f153,EnterK_some,zW,zX,zD,builtinA,isLeaf,const1,Nat.reduceAdd,Nat.reduceMul,Nat.reduceSub,Nat.reduceLT,Nat.reduceLeDiff,Nat.reduceEqDiff,Nat.reduceBEq,Nat.reduceBNe,reduceIte,reduceCtorEq,Int.reduceToNat,Int.reduceLT,Int.reduceLE,Int.reduceEq,Int.reduceNe,Int.reduceNeg,ustrA,ti167,ti229,ti231,cf,Tryz.results153]
  exact ⟨rfl,rfl⟩
set_option maxRecDepth 100000 in
theorem impl_ExprSame0 (t : Ex) (A : List Box) : ACalls Tryz.prog 66 [.agg (encX t),.agg (encX ex0)] A (fun r A'=>r = .bool (isX0 t) ∧ A' = A):=by
  have hl4 : (A ++ [Box.cells (encX t),.cells (encX ex0),.cells [tcF1,tcF2,.map (A.length + 2 + 1)],.mapb []]).length = A.length + 4:=by simp
  have hcmp:=impl_exprComparison (A.length + 2 + 1) (A ++ [Box.cells (encX t),.cells (encX ex0),.cells [tcF1,tcF2,.map (A.length + 2 + 1)],.mapb []])
  rw [hl4] at hcmp
  have hsz:=sameX_zero t (A.length + 4 + 2) (A.length + 4) (A.length + 2 + 1) (A ++ [Box.cells (encX t),.cells (encX ex0),.cells [tcF1,tcF2,.map (A.length + 2 + 1)],.mapb [],.cells [tcF1,tcF2,.map (A.length + 2 + 1)],.cells [xcF1,xcF2 (A.length + 4),.map (A.length + 4 + 2)],.mapb []]) (by simp) (by rw [Abs.getD_append_right (by omega),show A.length + 4 - A.length = 4 by omega]; rfl)
  refine acalls_enter (cf:=cf 10 [0,1,2,3,4]) foll Tryz.func66 Tryz.ntmps66 (by simp [cf]) ?_
  simp only [Tryz.f66,EnterK_some,zW,zX,zD,builtinA,isLeaf,const1,Nat.reduceAdd,Nat.reduceMul,Nat.reduceSub,Nat.reduceLT,Nat.reduceLeDiff,Nat.reduceEqDiff,Nat.reduceBEq,Nat.reduceBNe,reduceIte,reduceCtorEq,Int.reduceToNat,Int.reduceLT,Int.reduceLE,Int.reduceEq,Int.reduceNe,Int.reduceNeg,ustrA,ti39,ca108,ca153,ca154,cf,Tryz.results66]
  refine .inr (drawE_intro [(true,0,0),(true,1,1),(false,0,2),(false,0,2),(true,2,2),(false,3,3)] [A ++ [.cells (encX t),.cells (encX ex0)],A ++ [.cells (encX t),.cells (encX ex0),.cells [tcF1,tcF2,.map (A.length + 2 + 1)],.mapb []],A ++ [.cells (encX t),.cells (encX ex0),.cells [tcF1,tcF2,.map (A.length + 2 + 1)],.mapb [],.cells [tcF1,tcF2,.map (A.length + 2 + 1)],.cells [xcF1,xcF2 (A.length + 4),.map (A.length + 4 + 2)],.mapb []],A ++ [.cells (encX t),.cells (encX ex0),.cells [tcF1,tcF2,.map (A.length + 2 + 1)],.mapb [],.cells [tcF1,tcF2,.map (A.length + 2 + 1)],.cells [xcF1,xcF2 (A.length + 4),.map (A.length + 4 + 2)],.mapb []]] 3 rfl (by kernel_rfl) (by kernel_rfl) (by kernel_rfl) (by kernel_rfl) (by kernel_rfl) (by kernel_rfl) ?_)
  simp only [zW,zX,zD,builtinA,isLeaf,const1,Nat.reduceAdd,Nat.reduceMul,Nat.reduceSub,Nat.reduceLT,Nat.reduceLeDiff,Nat.reduceEqDiff,Nat.reduceBEq,Nat.reduceBNe,reduceIte,reduceCtorEq,Int.reduceToNat,Int.reduceLT,Int.reduceLE,Int.reduceEq,Int.reduceNe,Int.reduceNeg,ustrA,ti39,ca108,ca153,ca154,cf,Tryz.results66]
  refine callE_intro (v:=.agg [tcF1,tcF2,.map (A.length + 2 + 1)]) (by simp only [zW,zX,zD,builtinA,isLeaf,const1,Nat.reduceAdd,Nat.reduceMul,Nat.reduceSub,Nat.reduceLT,Nat.reduceLeDiff,Nat.reduceEqDiff,Nat.reduceBEq,Nat.reduceBNe,reduceIte,reduceCtorEq,Int.reduceToNat,Int.reduceLT,Int.reduceLE,Int.reduceEq,Int.reduceNe,Int.reduceNeg,ustrA] <;> rfl) ((impl_typeComparison _).mono fun r A' h=>?_) ?_ rfl rfl
  · obtain ⟨h1,h2⟩:=h
    refine ⟨by rw [h1]; simp,?_⟩
    show A' = A ++ [.cells (encX t),.cells (encX ex0),.cells [tcF1,tcF2,.map (A.length + 2 + 1)],.mapb []]
    rw [h2]; simp
  simp only [zW,zX,zD,builtinA,isLeaf,const1,Nat.reduceAdd,Nat.reduceMul,Nat.reduceSub,Nat.reduceLT,Nat.reduceLeDiff,Nat.reduceEqDiff,Nat.reduceBEq,Nat.reduceBNe,reduceIte,reduceCtorEq,Int.reduceToNat,Int.reduceLT,Int.reduceLE,Int.reduceEq,Int.reduceNe,Int.reduceNeg,ustrA,ti39,ca108,ca153,ca154,cf,Tryz.results66]
  refine callE_intro (v:=.agg [xcF1,xcF2 (A.length + 4),.map (A.length + 4 + 2)]) (by simp only [zW,zX,zD,builtinA,isLeaf,const1,Nat.reduceAdd,Nat.reduceMul,Nat.reduceSub,Nat.reduceLT,Nat.reduceLeDiff,Nat.reduceEqDiff,Nat.reduceBEq,Nat.reduceBNe,reduceIte,reduceCtorEq,Int.reduceToNat,Int.reduceLT,Int.reduceLE,Int.reduceEq,Int.reduceNe,Int.reduceNeg,ustrA] <;> rfl) (hcmp.mono fun r A' h=>?_) ?_ rfl rfl
  · obtain ⟨h1,h2⟩:=h
    refine ⟨h1,?_⟩
    show A' = A ++ [.cells (encX t),.cells (encX ex0),.cells [tcF1,tcF2,.map (A.length + 2 + 1)],.mapb [],.cells [tcF1,tcF2,.map (A.length + 2 + 1)],.cells [xcF1,xcF2 (A.length + 4),.map (A.length + 4 + 2)],.mapb []]
    rw [h2]; simp
  simp only [zW,zX,zD,builtinA,isLeaf,const1,Nat.reduceAdd,Nat.reduceMul,Nat.reduceSub,Nat.reduceLT,Nat.reduceLeDiff,Nat.reduceEqDiff,Nat.reduceBEq,Nat.reduceBNe,reduceIte,reduceCtorEq,Int.reduceToNat,Int.reduceLT,Int.reduceLE,Int.reduceEq,Int.reduceNe,Int.reduceNeg,ustrA,ti39,ca108,ca153,ca154,cf,Tryz.results66,encX_take]
  refine ⟨by rw [encX_length]; omega,by rw [encX_length]; omega,by rw [encX_length]; omega,by rw [encX_length]; omega,?_⟩
  refine callEO_intro hsz ?_ rfl
  simp only [zW,zX,zD,builtinA,isLeaf,const1,Nat.reduceAdd,Nat.reduceMul,Nat.reduceSub,Nat.reduceLT,Nat.reduceLeDiff,Nat.reduceEqDiff,Nat.reduceBEq,Nat.reduceBNe,reduceIte,reduceCtorEq,Int.reduceToNat,Int.reduceLT,Int.reduceLE,Int.reduceEq,Int.reduceNe,Int.reduceNeg,ustrA,ti39,ca108,ca153,ca154,cf,Tryz.results66]
end Go.Proofs.YtnjdbgiincliaaaGreat
/- Items of signatures as data. -/
set_option linter.unusedVariables false
set_option linter.unusedSimpArgs false
namespace Go.Proofs.YtnjdbgiincliaaaGreat
open Go.Abs
structure SigI where
  kind : Int
  name : List UInt8
  typ : Ty
def si0 : SigI:=⟨0,[],ty0⟩
def sE (x : SigI) : List AV:=.int .i64 x.kind :: .str x.name :: enc x.typ
def sEA (x : SigI) : List AV:=.int .i64 x.kind :: .str x.name :: encA x.typ
def sEs (l : List SigI) : List (List AV):=l.map sE
def sEAs (l : List SigI) : List (List AV):=l.map sEA
def szI (x : SigI) : Nat:=x.name.length + sz x.typ
def szIs (l : List SigI) : Nat:=(l.map szI).sum
def SigI.Ok (x : SigI) : Prop:=x.name.length < 2 ^ 63 ∧ x.typ.Ok
def zsi : List AV:=[.int .i64 0,.str [],.int .i64 0,.str [],.str [],.slice []]
theorem sE_length (x : SigI) : (sE x).length = 6:=by simp [sE,enc_length]
theorem sEA_length (x : SigI) : (sEA x).length = 6:=by simp [sEA,encA_length]
theorem sE_take (x : SigI) : List.take 6 (sE x) = sE x:=List.take_of_length_le (by rw [sE_length]; exact Nat.le_refl _)
theorem sEA_take (x : SigI) : List.take 6 (sEA x) = sEA x:=List.take_of_length_le (by rw [sEA_length]; exact Nat.le_refl _)
theorem sE_leaf (x : SigI) : ∀ v ∈ sE x,isLeaf v = true:=by
  intro v hv
  simp only [sE,List.mem_cons] at hv
  rcases hv with rfl | rfl | hv
  · rfl
  · rfl
  · exact enc_leaf _ v hv
theorem frzL_leaf : ∀ (l : List AV) (A : List Box),(∀ v ∈ l,isLeaf v = true) → frzL l A = some (l,A)
  | [],A,_=>rfl
  | v :: l,A,h=>by
    have h1 : frz1 v A = some (v,A):=by
      have:=h v (by simp)
      cases v <;> simp [isLeaf] at this <;> rfl
    simp only [frzL,h1,frzL_leaf l A fun x hx=>h x (by simp [hx])]
theorem frzL_sE (x : SigI) (A : List Box) : frzL (sE x) A = some (sE x,A):=frzL_leaf _ _ (sE_leaf x)
theorem sEA_leaf (x : SigI) : ∀ v ∈ sEA x,isLeaf v = true:=by
  intro v hv
  simp only [sEA,List.mem_cons] at hv
  rcases hv with rfl | rfl | hv
  · rfl
  · rfl
  · cases ht : x.typ with
    | mk k m n ks =>
      rw [ht,encA] at hv
      simp at hv
      rcases hv with rfl | rfl | rfl | rfl <;> rfl
theorem frzL_sEA (x : SigI) (A : List Box) : frzL (sEA x) A = some (sEA x,A):=frzL_leaf _ _ (sEA_leaf x)
theorem sEs_length (l : List SigI) : (sEs l).length = l.length:=by simp [sEs]
theorem sEAs_length (l : List SigI) : (sEAs l).length = l.length:=by simp [sEAs]
theorem sEs_getD {l : List SigI} {i : Nat} (h : i < l.length) : (sEs l).getD i [] = sE (l.getD i si0):=by simp [sEs,List.getD,h]
theorem sEAs_getD {l : List SigI} {i : Nat} (h : i < l.length) : (sEAs l).getD i [] = sEA (l.getD i si0):=by simp [sEAs,List.getD,h]
theorem si_mem {l : List SigI} {i : Nat} (h : i < l.length) : l.getD i si0 ∈ l:=by simp [List.getD,h]
theorem si_take {l : List SigI} {i : Nat} (h : i < l.length) : l.take (i + 1) = l.take i ++ [l.getD i si0]:=by
  rw [List.take_add_one]; simp [List.getD,h]
theorem szIs_take {l : List SigI} {i : Nat} (h : i < l.length) : szIs (l.take (i + 1)) = szIs (l.take i) + szI (l.getD i si0):=by
  rw [si_take h]; simp [szIs]
theorem szIs_le (l : List SigI) (i : Nat) : szIs (l.take i) ≤ szIs l:=by
  have h : szIs l = szIs (l.take i) + szIs (l.drop i):=by
    conv=>lhs; rw [← List.take_append_drop i l]
    simp only [szIs,List.map_append,List.sum_append]
  omega
theorem szIs_mem {x : SigI} {l : List SigI} (h : x ∈ l) : szI x ≤ szIs l:=by
  induction l with
  | nil=>simp at h
  | cons y l ih =>
    simp only [szIs,List.map_cons,List.sum_cons] at ih ⊢
    rcases List.mem_cons.1 h with rfl | h
    · omega
    · have:=ih h; omega
theorem encCl (n : Nat) (t : Ty) : (enc t).all (closed1 n) = true:=List.all_eq_true.2 fun x hx=>leaf_closed1 (enc_leaf t x hx)
theorem encD (t : Ty) : List.drop 4 (enc t) = []:=List.drop_of_length_le (by rw [enc_length]; exact Nat.le_refl _)
end Go.Proofs.YtnjdbgiincliaaaGreat
/- Items of signatures as data, and what the laws' helpers do with lists of them. -/
set_option linter.unusedVariables false
set_option linter.unusedSimpArgs false
namespace Go.Proofs.YtnjdbgiincliaaaGreat
open Go.Abs
set_option maxRecDepth 100000 in
theorem laws_szSigItem (x : SigI) (hx : x.Ok) (l : Int) (A : List Box) (h0 : 0 ≤ l) (h1 : l ≤ 1048576) :
    ACalls Tryz.prog 86 [.agg (sEA x),.int .i64 l] A (fun v A'=>v = .int .i64 (left l (szI x)) ∧ A' = A):=by
  have hw : IntKind.i64.wrap (l - ↑x.name.length) = l - x.name.length:=wrap64 (by have:=hx.1; omega) (by have:=hx.1; omega)
  rw [sEA]
  refine acalls_enter (cf:=cf 19 [0,1,2,4,11,17]) foll Tryz.func86 Tryz.ntmps86 (by simp [cf]) ?_
  simp only [Tryz.f86,EnterK_some,zW,zX,zD,builtinA,isLeaf,const1,ustrA,simprocAttr,ti3,ti9,ti25,ti134,ca138,cf,Tryz.results86]
  rw [hw]
  refine ⟨by omega,condK_intro (fun h=>?_) (fun h=>?_)⟩
  · simp only [zW,zX,zD,builtinA,isLeaf,const1,ustrA,simprocAttr,ti3,ti9,ti25,ti134,ca138,cf,Tryz.results86]
    rw [left,if_neg (by rw [szI]; simp at h; omega)]
  · simp only [decide_eq_false_iff_not] at h
    simp only [zW,zX,zD,builtinA,isLeaf,const1,ustrA,simprocAttr,ti3,ti9,ti25,ti134,ca138,cf,Tryz.results86,encA_length,encA_take]
    refine callK_intro (by simp only [zW,zX,zD,builtinA,isLeaf,const1,ustrA,simprocAttr,frzL_encA,Option.map_some]; rfl) (laws_szType x.typ hx.2 _ _ (by omega) (by omega)) ?_ rfl; rintro v A' ⟨rfl,rfl⟩
    by_cases hf : ((szI x : Nat) : Int) ≤ l
    · have hv : left (l - ↑x.name.length) (sz x.typ) = l - szI x:=by
        rw [szI] at hf ⊢
        rw [left,if_pos (by omega)]; omega
      have hn : decide (l - szI x < 0) = false:=by simp only [decide_eq_false_iff_not]; omega
      rw [hv,left,if_pos hf]
      simp only [zW,zX,zD,builtinA,isLeaf,const1,ustrA,simprocAttr,ti3,ti9,ti25,ti134,ca138,cf,Tryz.results86,hn]
    · have hv : left (l - ↑x.name.length) (sz x.typ) = -1:=by
        rw [szI] at hf
        rw [left,if_neg (by omega)]
      rw [hv,left,if_neg hf]
      simp only [zW,zX,zD,builtinA,isLeaf,const1,ustrA,simprocAttr,ti3,ti9,ti25,ti134,ca138,cf,Tryz.results86]
set_option maxRecDepth 100000 in
theorem laws_szSigItemS (ks : List SigI) (hl : ks.length < 2 ^ 63) (hk : ∀ t ∈ ks,t.Ok) (l : Int) (A : List Box) (h0 : 0 ≤ l) (h1 : l ≤ 1048576) :
    ACalls Tryz.prog 22 [.aslice (sEAs ks),.int .i64 l] A (fun v A'=>v = .int .i64 (left l (ks.length + szIs ks)) ∧ A' = A):=by
  have hw : IntKind.i64.wrap (l - ↑(sEAs ks).length) = l - ks.length:=by rw [sEAs_length]; exact wrap64 (by omega) (by omega)
  refine acalls_enter (cf:=cf 27 [0,1,4,5,11,15,25]) foll Tryz.func22 Tryz.ntmps22 (by simp [cf]) ?_
  simp only [Tryz.f22,EnterK_some,zW,zX,zD,builtinA,isLeaf,const1,ustrA,simprocAttr,ti3,ti46,ti134,ca86,cf,Tryz.results22]
  rw [hw]
  refine condK_intro (fun h=>?_) (fun h=>?_)
  · simp only [zW,zX,zD,builtinA,isLeaf,const1,ustrA,simprocAttr,ti3,ti46,ti134,ca86,cf,Tryz.results22]
    have : ¬ ((ks.length + szIs ks : Nat) : Int) ≤ l:=by simp at h; omega
    rw [left,if_neg this]
  · simp only [zW,zX,zD,builtinA,isLeaf,const1,ustrA,simprocAttr,ti3,ti46,ti134,ca86,cf,Tryz.results22]
    refine aloop_intro [0,1,5] (fun e A'=>∃ i,i ≤ ks.length ∧ ((ks.length + szIs (ks.take i) : Nat) : Int) ≤ l ∧ e = [(0,.aslice (sEAs ks)),(1,.int .i64 (l - (ks.length + szIs (ks.take i) : Nat))),(5,.int .i64 i)] ∧ A' = A) (fun e _=>ks.length - (intOf (Abs.look 5 e)).toNat) ?_ ?_
    · refine ⟨0,by omega,?_,?_,rfl⟩
      · simp at h; simp [szIs]; omega
      · simp only [zW,zX,zD,builtinA,isLeaf,const1,ustrA,simprocAttr,ti3,ti46,ti134,ca86,cf,Tryz.results22]
        simp [szIs]
    · rintro e A' ⟨i,hi,hle,rfl,rfl⟩
      simp only [zW,zX,zD,builtinA,isLeaf,const1,ustrA,simprocAttr,ti3,ti46,ti134,ca86,cf,Tryz.results22]
      refine condK_intro (fun h2=>?_) (fun h2=>?_)
      · have hi2 : i < ks.length:=by simp [sEAs_length] at h2; exact h2
        have he:=sEAs_getD hi2
        have hm:=si_mem hi2
        have hs:=szIs_take hi2
        simp only [zW,zX,zD,builtinA,isLeaf,const1,ustrA,simprocAttr,ti3,ti46,ti134,ca86,cf,Tryz.results22,he,sEA_length,sEA_take,sEAs_length]
        refine ⟨⟨by omega,by omega⟩,?_⟩
        refine callK_intro (by simp only [zW,zX,zD,builtinA,isLeaf,const1,ustrA,simprocAttr,frzL_sEA,Option.map_some]; rfl) (laws_szSigItem _ (hk _ hm) _ _ (by omega) (by omega)) ?_ rfl; rintro v A' ⟨rfl,rfl⟩
        by_cases hf : ((ks.length + szIs (ks.take (i + 1)) : Nat) : Int) ≤ l
        · have hv : left (l - ((ks.length + szIs (ks.take i) : Nat) : Int)) (szI (ks.getD i si0)) = l - ((ks.length + szIs (ks.take (i + 1)) : Nat) : Int):=by
            rw [left,if_pos (by omega)]; omega
          have hn : decide (l - ((ks.length + szIs (ks.take (i + 1)) : Nat) : Int) < 0) = false:=by simp only [decide_eq_false_iff_not]; omega
          have hi1 : IntKind.i64.wrap ((i : Int) + 1) = ((i + 1 : Nat) : Int):=by rw [wrap64 (by omega) (by omega)]; rfl
          rw [hv]
          simp only [zW,zX,zD,builtinA,isLeaf,const1,ustrA,simprocAttr,ti3,ti46,ti134,ca86,cf,Tryz.results22,hn,hi1,LoopK_eq,sEAs_length]
          refine ⟨⟨i + 1,by omega,hf,rfl⟩,?_⟩
          simp only [intOf]
          omega
        · have hv : left (l - ((ks.length + szIs (ks.take i) : Nat) : Int)) (szI (ks.getD i si0)) = -1:=by
            rw [left,if_neg (by omega)]
          have hz:=szIs_le ks (i + 1)
          rw [hv,left,if_neg (by omega)]
          simp only [zW,zX,zD,builtinA,isLeaf,const1,ustrA,simprocAttr,ti3,ti46,ti134,ca86,cf,Tryz.results22]
      · simp only [zW,zX,zD,builtinA,isLeaf,const1,ustrA,simprocAttr,ti3,ti46,ti134,ca86,cf,Tryz.results22]
        have : i = ks.length:=by simp [sEAs_length] at h2; omega
        subst this
        rw [List.take_length] at hle ⊢
        rw [left,if_pos hle]
set_option maxRecDepth 100000 in
theorem laws_toSigItem (x : SigI) (hx : szI x ≤ 1048576) (A : List Box) : ACalls Tryz.prog 90 [.agg (sEA x)] A (fun v A'=>v = .agg (sE x) ∧ A' = A):=by
  have h1 : sz x.typ ≤ 1048576:=by rw [szI] at hx; omega
  rw [sEA,sE]
  refine acalls_enter (cf:=cf 15 [0,1,2,3]) foll Tryz.func90 Tryz.ntmps90 (by simp [cf]) ?_
  simp only [Tryz.f90,EnterK_some,zW,zX,zD,builtinA,isLeaf,const1,ustrA,simprocAttr,ti3,ti9,ti25,ti36,ti69,ti134,ca141,cf,Tryz.results90]
  simp only [zW,zX,zD,builtinA,isLeaf,const1,ustrA,simprocAttr,ti3,ti9,ti25,ti36,ti69,ti134,ca141,cf,Tryz.results90,encA_length,encA_take]
  refine callK_intro (by simp only [zW,zX,zD,builtinA,isLeaf,const1,ustrA,simprocAttr,frzL_encA,Option.map_some]; rfl) (laws_toType x.typ h1 _) ?_ rfl; rintro v A' ⟨rfl,rfl⟩
  simp only [zW,zX,zD,builtinA,isLeaf,const1,ustrA,simprocAttr,ti3,ti9,ti25,ti36,ti69,ti134,ca141,cf,Tryz.results90,enc_length,enc_take,encD,frzL_enc,Option.map_some,encCl,List.all_cons,Bool.and_true,Bool.and_self]
theorem srow_step {l : List SigI} {i : Nat} (h : i < l.length) : (sEs (l.take i) ++ List.replicate (l.length - i) zsi).set i (sE (l.getD i si0) ++ List.drop 6 ((sEs (l.take i) ++ List.replicate (l.length - i) zsi).getD i [])) = sEs (l.take (i + 1)) ++ List.replicate (l.length - (i + 1)) zsi:=by
  have e1 : (sEs (l.take i)).length = i:=by rw [sEs_length]; simp; omega
  have e2 : List.drop 6 ((sEs (l.take i) ++ List.replicate (l.length - i) zsi).getD i []) = []:=by
    have e3 : l.length - i = (l.length - (i + 1)) + 1:=by omega
    rw [List.getD,List.getElem?_append_right (by omega),e1,Nat.sub_self,e3,List.replicate_succ]
    rfl
  have e4 : l.length - i = (l.length - (i + 1)) + 1:=by omega
  rw [e2,List.append_nil,List.set_append_right _ _ (by omega),e1,Nat.sub_self,e4,List.replicate_succ,List.set_cons_zero]
  simp only [sEs]
  rw [List.take_add_one,List.map_append,List.append_assoc]
  simp [List.getD,h]
set_option maxRecDepth 100000 in
theorem laws_toSigItemS (ks : List SigI) (hl : ks.length ≤ 1048576) (hk : szIs ks ≤ 1048576) (A : List Box) :
    ACalls Tryz.prog 24 [.aslice (sEAs ks)] A (fun v A'=>v = .slice (sEs ks) ∧ A' = A):=by
  have hl2 : ((sEAs ks).length : Int) ≤ 1048576:=by rw [sEAs_length]; omega
  refine acalls_enter (cf:=cf 23 [0,2,3,4,11]) foll Tryz.func24 Tryz.ntmps24 (by simp [cf]) ?_
  simp only [Tryz.f24,EnterK_some,zW,zX,zD,builtinA,isLeaf,const1,ustrA,simprocAttr,ti3,ti46,ti50,ti69,ti134,ca90,cf,Tryz.results24]
  refine ⟨⟨by omega,by omega,by omega⟩,?_⟩
  refine aloop_intro [0,3,4] (fun e A'=>∃ i,i ≤ ks.length ∧ e = [(0,.aslice (sEAs ks)),(3,.own A.length),(4,.int .i64 i)] ∧ A' = A ++ [.row 6 (sEs (ks.take i) ++ List.replicate (ks.length - i) zsi) 0]) (fun e _=>ks.length - (intOf (Abs.look 4 e)).toNat) ?_ ?_
  · simp only [zW,zX,zD,builtinA,isLeaf,const1,ustrA,simprocAttr,ti3,ti46,ti50,ti69,ti134,ca90,cf,Tryz.results24]
    exact ⟨0,by omega,rfl,by rw [sEAs_length]; simp [sEs,zsi]⟩
  · rintro e A' ⟨i,hi,rfl,rfl⟩
    simp only [zW,zX,zD,builtinA,isLeaf,const1,ustrA,simprocAttr,ti3,ti46,ti50,ti69,ti134,ca90,cf,Tryz.results24,sEAs_length]
    refine condK_intro (fun h2=>?_) (fun h2=>?_)
    · have hi2 : i < ks.length:=by simpa using h2
      have he:=sEAs_getD hi2
      have hm:=si_mem hi2
      have hzm:=szIs_mem hm
      simp only [zW,zX,zD,builtinA,isLeaf,const1,ustrA,simprocAttr,ti3,ti46,ti50,ti69,ti134,ca90,cf,Tryz.results24,he,sEA_length,sEA_take,sEAs_length]
      refine ⟨⟨by omega,by omega⟩,?_⟩
      refine callK_intro (by simp only [zW,zX,zD,builtinA,isLeaf,const1,ustrA,simprocAttr,frzL_sEA,Option.map_some]; rfl) (laws_toSigItem _ (by omega) _) ?_ rfl; rintro v A' ⟨rfl,rfl⟩
      have hi1 : IntKind.i64.wrap ((i : Int) + 1) = ((i + 1 : Nat) : Int):=by rw [wrap64 (by omega) (by omega)]; rfl
      simp only [zW,zX,zD,builtinA,isLeaf,const1,ustrA,simprocAttr,ti3,ti46,ti50,ti69,ti134,ca90,cf,Tryz.results24,sE_length,frzL_sE,srow_step hi2,hi1,LoopK_eq]
      have hlen : (sEs (List.take i ks)).length + (List.replicate (ks.length - i) zsi).length = ks.length:=by
        simp [sEs_length]; omega
      rw [hlen]
      refine ⟨⟨by omega,by omega⟩,⟨by omega,by omega,fun v hv=>sE_leaf _ v hv⟩,⟨i + 1,by omega,rfl,rfl⟩,?_⟩
      simp only [intOf]
      omega
    · simp only [zW,zX,zD,builtinA,isLeaf,const1,ustrA,simprocAttr,ti3,ti46,ti50,ti69,ti134,ca90,cf,Tryz.results24]
      have : i = ks.length:=by simp at h2; omega
      subst this
      simp [List.take_length]
set_option maxRecDepth 100000 in
theorem laws_eqSigItem (x : SigI) (hx : x.Ok) (A : List Box) : ACalls Tryz.prog 95 [.agg (sE x),.agg (sE x)] A (fun v A'=>v = .bool true ∧ A' = A):=by
  rw [sE]
  refine acalls_enter (cf:=cf 21 [0,1,2,3,4,9,14,20]) foll Tryz.func95 Tryz.ntmps95 (by simp [cf]) ?_
  simp only [Tryz.f95,EnterK_some,zW,zX,zD,builtinA,isLeaf,const1,ustrA,simprocAttr,ti3,ti9,ti36,ti69,ca149,cf,Tryz.results95]
  simp only [zW,zX,zD,builtinA,isLeaf,const1,ustrA,simprocAttr,ti3,ti9,ti36,ti69,ca149,cf,Tryz.results95,enc_length,enc_take]
  refine callK_intro (by simp only [zW,zX,zD,builtinA,isLeaf,const1,ustrA,simprocAttr,frzL_enc,Option.map_some]; rfl) (laws_eqType x.typ hx.2 _) ?_ rfl; rintro v A' ⟨rfl,rfl⟩
  simp only [zW,zX,zD,builtinA,isLeaf,const1,ustrA,simprocAttr,ti3,ti9,ti36,ti69,ca149,cf,Tryz.results95]
set_option maxRecDepth 100000 in
theorem laws_eqSigItemS (ks : List SigI) (hl : ks.length < 2 ^ 63) (hk : ∀ t ∈ ks,t.Ok) (A : List Box) :
    ACalls Tryz.prog 27 [.slice (sEs ks),.slice (sEs ks)] A (fun v A'=>v = .bool true ∧ A' = A):=by
  refine acalls_enter (cf:=cf 27 [0,1,4,5,10,14,26]) foll Tryz.func27 Tryz.ntmps27 (by simp [cf]) ?_
  simp only [Tryz.f27,EnterK_some,zW,zX,zD,builtinA,isLeaf,const1,ustrA,simprocAttr,ti3,ti50,ti69,ca95,cf,Tryz.results27]
  refine aloop_intro [0,1,5] (fun e A'=>∃ i,i ≤ ks.length ∧ e = [(0,.slice (sEs ks)),(1,.slice (sEs ks)),(5,.int .i64 i)] ∧ A' = A) (fun e _=>ks.length - (intOf (Abs.look 5 e)).toNat) ?_ ?_
  · simp only [zW,zX,zD,builtinA,isLeaf,const1,ustrA,simprocAttr,ti3,ti50,ti69,ca95,cf,Tryz.results27]
    exact ⟨0,by omega,rfl⟩
  · rintro e A' ⟨i,hi,rfl,rfl⟩
    simp only [zW,zX,zD,builtinA,isLeaf,const1,ustrA,simprocAttr,ti3,ti50,ti69,ca95,cf,Tryz.results27,sEs_length]
    refine condK_intro (fun h2=>?_) (fun h2=>?_)
    · have hi2 : i < ks.length:=by simpa using h2
      have he:=sEs_getD hi2
      have hm:=si_mem hi2
      have hi1 : IntKind.i64.wrap ((i : Int) + 1) = ((i + 1 : Nat) : Int):=by rw [wrap64 (by omega) (by omega)]; rfl
      simp only [zW,zX,zD,builtinA,isLeaf,const1,ustrA,simprocAttr,ti3,ti50,ti69,ca95,cf,Tryz.results27,he,sE_length,sE_take,sEs_length]
      refine .inl ⟨by kernel_rfl,by kernel_rfl,⟨by omega,by omega⟩,⟨by omega,by omega⟩,?_⟩
      refine callD_intro (by simp only [zW,zX,zD,builtinA,isLeaf,const1,ustrA,simprocAttr,frzL_sE,Option.map_some] <;> rfl) (laws_eqSigItem _ (hk _ hm) _) ?_ rfl
      simp only [zW,zX,zD,builtinA,isLeaf,const1,ustrA,simprocAttr,ti3,ti50,ti69,ca95,cf,Tryz.results27,hi1,LoopK_eq]
      refine ⟨⟨i + 1,by omega,rfl⟩,?_⟩
      simp only [intOf]
      omega
    · simp only [zW,zX,zD,builtinA,isLeaf,const1,ustrA,simprocAttr,ti3,ti50,ti69,ca95,cf,Tryz.results27]
end Go.Proofs.YtnjdbgiincliaaaGreat
/- From a law's argument, a list of items, to data. -/
set_option linter.unusedVariables false
set_option linter.unusedSimpArgs false
namespace Go.Proofs.YtnjdbgiincliaaaGreat
open Go.Abs Go.RowKit Go.ChangeShapes Go.WideShapes Go.ChangeAt Go.ChangeMaps
def SigsOk (l : List SigI) : Prop:=l.length < 2 ^ 63 ∧ ∀ x ∈ l,x.Ok
theorem cI : Tryz.prog.cellsOf 134 = 6:=by kernel_rfl
theorem cIS : Tryz.prog.cellsOf 46 = 1:=by kernel_rfl
theorem six {α : Type} {l : List α} (h : l.length = 6) : ∃ a b c d e f,l = [a,b,c,d,e,f]:=by
  match l,h with
  | [a,b,c,d,e,f],_=>exact ⟨a,b,c,d,e,f,rfl⟩
theorem si_of {cz : List AV} (h : Cells Tryz.prog 134 cz) : ∃ x : SigI,cz = sEA x ∧ x.Ok:=by
  generalize ht : 134 = t at h
  cases h with
  | int h1 h2=>subst ht; rw [Tryz.underlying134] at h1; injection h1 with h1; cases h1
  | bool h1=>subst ht; rw [Tryz.underlying134] at h1; injection h1 with h1; cases h1
  | str h1=>subst ht; rw [Tryz.underlying134] at h1; injection h1 with h1; cases h1
  | slice h1 h2 h3=>subst ht; rw [Tryz.underlying134] at h1; injection h1 with h1; cases h1
  | @struct t fs cs h1 h2 h3 =>
    subst ht
    rw [Tryz.underlying134] at h1
    injection h1 with h1
    injection h1 with h1
    subst h1
    rw [cI] at h2
    obtain ⟨a,b,c,d,e,f,rfl⟩:=six h2
    simp only [List.mem_cons,List.not_mem_nil,or_false,forall_eq_or_imp,forall_eq,c3,c9,cS,cT,List.drop_zero,List.drop_succ_cons,List.take_succ_cons,List.take_zero] at h3
    obtain ⟨n,e1⟩:=cells_int Tryz.underlying3 h3.1
    obtain ⟨m,e2,l2⟩:=cells_str Tryz.underlying9 h3.2.1
    obtain ⟨τ,e3,l3⟩:=(ty_of h3.2.2).1 rfl
    injection e1 with e1; injection e2 with e2
    subst e1; subst e2
    have hm : maxLen = 2 ^ 63 - 1:=rfl
    exact ⟨⟨n,m,τ⟩,by simp only [sEA]; rw [← e3],by simp only [SigI.Ok]; exact ⟨by omega,l3⟩⟩
theorem sis_of {cz : List AV} (h : Cells Tryz.prog 46 cz) : ∃ l,cz = [.aslice (sEAs l)] ∧ SigsOk l:=by
  generalize ht : 46 = t at h
  cases h with
  | int h1 h2=>subst ht; rw [Tryz.underlying46] at h1; injection h1 with h1; cases h1
  | bool h1=>subst ht; rw [Tryz.underlying46] at h1; injection h1 with h1; cases h1
  | str h1=>subst ht; rw [Tryz.underlying46] at h1; injection h1 with h1; cases h1
  | slice h1 h2 h3 =>
    subst ht
    rw [Tryz.underlying46] at h1
    injection h1 with h1
    injection h1 with h1
    subst h1
    obtain ⟨ks,k1,k2,k3⟩:=list_enc (f:=sEA) (Q:=SigI.Ok) fun r hr=>si_of (h3 r hr)
    have hm : maxLen = 2 ^ 63 - 1:=rfl
    refine ⟨ks,by rw [sEAs,k1],?_,k3⟩
    rw [k2]; omega
  | @struct t fs cs h1 h2 h3=>subst ht; rw [Tryz.underlying46] at h1; injection h1 with h1; cases h1
section
variable {H : Type} {enc' : TypeId × Value → H} {W : World}
end
end Go.Proofs.YtnjdbgiincliaaaGreat
