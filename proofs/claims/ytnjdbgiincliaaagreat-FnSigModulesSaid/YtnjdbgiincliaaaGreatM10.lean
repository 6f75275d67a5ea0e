/- DrawCopy. -/
import Derived.Test.YtnjdbgiincliaaaGreatM09
import Derived.Test.YtnjdbgiincliaaaGreatAbsW3
/- Copies of types. -/
set_option linter.unusedVariables false
set_option linter.unusedSimpArgs false
namespace Go.Proofs.YtnjdbgiincliaaaGreat
open Go.Abs
set_option maxRecDepth 100000 in
theorem spec_l1Copy (τ : Ty) (hτ : sz τ ≤ 1048576) : ∀ (A : List Box),ACalls Tryz.prog 204 [.agg (enc τ)] A (fun r A'=>r = .agg (enc τ) ∧ A' = A):=by
  induction τ using Ty.ind with
  | h k m n ks ih =>
    intro A
    have hks : ks.length ≤ 1048576:=by rw [sz] at hτ; omega
    have hok : ∀ t ∈ ks,sz t ≤ 1048576:=fun t ht=>by rw [sz] at hτ; have:=szs_mem ht; omega
    rw [enc]
    refine acalls_enter (cf:=cf 31 [0,1,2,3,4,16]) foll Tryz.func204 Tryz.ntmps204 (by simp [cf]) ?_
    simp only [Tryz.f204,EnterK_some,zW,zX,zD,builtinA,isLeaf,const1,Nat.reduceAdd,Nat.reduceMul,Nat.reduceSub,Nat.reduceLT,Nat.reduceLeDiff,Nat.reduceEqDiff,Nat.reduceBEq,Nat.reduceBNe,reduceIte,reduceCtorEq,Int.reduceToNat,Int.reduceLT,Int.reduceLE,Int.reduceEq,Int.reduceNe,Int.reduceNeg,ustrA,ti3,ti9,ti34,ti36,ca204,cf,Tryz.results204]
    refine aloop_intro [1,2,3,4] (fun e A'=>∃ i B x,i ≤ ks.length ∧ e = [(1,.ptr A.length 0),(2,.ptr (A.length + 1) 0),(3,.ptr (A.length + 2) 0),(4,.int .i64 i)] ∧ A' = A ++ (.cells [.int .i64 k,.str m,.str n,.slice (encs ks)] :: .cells [.int .i64 0,.str [],.str [],.nils] :: .cells [.int .i64 k,.str m,.str n,x] :: B) ∧
      ((i = 0 ∧ x = .nils ∧ B = []) ∨ (∃ j,x = .own (A.length + (j + 3)) ∧ j < B.length ∧ B.getD j .dead = .row 4 (encs (ks.take i)) 0))) (fun e _=>ks.length - (intOf (Abs.look 4 e)).toNat) ?_ ?_
    · simp only [zW,zX,zD,builtinA,isLeaf,const1,Nat.reduceAdd,Nat.reduceMul,Nat.reduceSub,Nat.reduceLT,Nat.reduceLeDiff,Nat.reduceEqDiff,Nat.reduceBEq,Nat.reduceBNe,reduceIte,reduceCtorEq,Int.reduceToNat,Int.reduceLT,Int.reduceLE,Int.reduceEq,Int.reduceNe,Int.reduceNeg,ustrA,ti3,ti9,ti34,ti36,ca204,cf,Tryz.results204]
      exact ⟨0,[],.nils,by omega,rfl,rfl,.inl ⟨rfl,rfl,rfl⟩⟩
    · rintro e A' ⟨i,B,x,hi,rfl,rfl,hx⟩
      simp only [zW,zX,zD,builtinA,isLeaf,const1,Nat.reduceAdd,Nat.reduceMul,Nat.reduceSub,Nat.reduceLT,Nat.reduceLeDiff,Nat.reduceEqDiff,Nat.reduceBEq,Nat.reduceBNe,reduceIte,reduceCtorEq,Int.reduceToNat,Int.reduceLT,Int.reduceLE,Int.reduceEq,Int.reduceNe,Int.reduceNeg,ustrA,ti3,ti9,ti34,ti36,ca204,cf,Tryz.results204,encs_length]
      refine condK_intro (fun h2=>?_) (fun h2=>?_)
      · have hi2 : i < ks.length:=by simpa using h2
        have he:=encs_getD hi2
        have hmm:=getD_mem hi2
        have hi1 : IntKind.i64.wrap ((i : Int) + 1) = ((i + 1 : Nat) : Int):=by rw [wrap64 (by omega) (by omega)]; rfl
        rcases hx with ⟨rfl,rfl,rfl⟩ | ⟨j,rfl,hj,hg⟩
        · simp only [wpc_skip,AThen_normal,wpc_block,wpc_seq,wpc_drawn]
          refine .inr (drawE_intro [(false,0,2),(false,0,2),(false,0,0),(false,0,0),(false,0,0),(false,0,0),(false,0,0),(true,0,0),(true,1,1),(true,2,2),(false,3,3),(true,3,3)] [A ++ [.cells [.int .i64 k,.str m,.str n,.slice (encs ks)],.cells [.int .i64 0,.str [],.str [],.nils],.cells [.int .i64 k,.str m,.str n,.nils]],A ++ [.cells [.int .i64 k,.str m,.str n,.slice (encs ks)],.cells [.int .i64 0,.str [],.str [],.nils],.cells [.int .i64 k,.str m,.str n,.nils]],A ++ [.cells [.int .i64 k,.str m,.str n,.slice (encs ks)],.cells [.int .i64 0,.str [],.str [],.nils],.cells [.int .i64 k,.str m,.str n,.nils],.row 4 [enc (ks.getD 0 ty0)] 0],A ++ [.cells [.int .i64 k,.str m,.str n,.slice (encs ks)],.cells [.int .i64 0,.str [],.str [],.nils],.cells [.int .i64 k,.str m,.str n,.nils],.row 4 [enc (ks.getD 0 ty0)] 0,.row 4 [enc (ks.getD 0 ty0)] 0],A ++ [.cells [.int .i64 k,.str m,.str n,.slice (encs ks)],.cells [.int .i64 0,.str [],.str [],.nils],.cells [.int .i64 k,.str m,.str n,.own (A.length + 4)],.row 4 [enc (ks.getD 0 ty0)] 0,.row 4 [enc (ks.getD 0 ty0)] 0]] 4 rfl (by kernel_rfl) (by kernel_rfl) (by kernel_rfl) (by kernel_rfl) (by kernel_rfl) (by kernel_rfl) ?_)
          simp only [zW,zX,zD,builtinA,isLeaf,const1,Nat.reduceAdd,Nat.reduceMul,Nat.reduceSub,Nat.reduceLT,Nat.reduceLeDiff,Nat.reduceEqDiff,Nat.reduceBEq,Nat.reduceBNe,reduceIte,reduceCtorEq,Int.reduceToNat,Int.reduceLT,Int.reduceLE,Int.reduceEq,Int.reduceNe,Int.reduceNeg,ustrA,ti3,ti9,ti34,ti36,ca204,cf,Tryz.results204,he,enc_length,enc_take,enc_drop,frzL_enc,enc_closed,Option.map_some,encs_length]
          refine ⟨⟨by omega,by omega⟩,?_⟩
          refine callE_intro (by simp only [zW,zX,zD,builtinA,isLeaf,const1,Nat.reduceAdd,Nat.reduceMul,Nat.reduceSub,Nat.reduceLT,Nat.reduceLeDiff,Nat.reduceEqDiff,Nat.reduceBEq,Nat.reduceBNe,reduceIte,reduceCtorEq,Int.reduceToNat,Int.reduceLT,Int.reduceLE,Int.reduceEq,Int.reduceNe,Int.reduceNeg,ustrA,enc_length,enc_take,enc_drop,frzL_enc,enc_closed,Option.map_some] <;> rfl) (ih _ hmm (hok _ hmm) _) ?_ rfl rfl
          simp only [zW,zX,zD,builtinA,isLeaf,const1,Nat.reduceAdd,Nat.reduceMul,Nat.reduceSub,Nat.reduceLT,Nat.reduceLeDiff,Nat.reduceEqDiff,Nat.reduceBEq,Nat.reduceBNe,reduceIte,reduceCtorEq,Int.reduceToNat,Int.reduceLT,Int.reduceLE,Int.reduceEq,Int.reduceNe,Int.reduceNeg,ustrA,ti3,ti9,ti34,ti36,ca204,cf,Tryz.results204,he,enc_length,enc_take,enc_drop,frzL_enc,enc_closed,Option.map_some,encs_length]
          have hsn : [enc (ks.getD 0 ty0)] = encs (ks.take 1):=by
            match ks,hi2 with
            | t :: l,_=>simp [encs]
          simp only [zW,zX,zD,builtinA,isLeaf,const1,Nat.reduceAdd,Nat.reduceMul,Nat.reduceSub,Nat.reduceLT,Nat.reduceLeDiff,Nat.reduceEqDiff,Nat.reduceBEq,Nat.reduceBNe,reduceIte,reduceCtorEq,Int.reduceToNat,Int.reduceLT,Int.reduceLE,Int.reduceEq,Int.reduceNe,Int.reduceNeg,ustrA,ti3,ti9,ti34,ti36,ca204,cf,Tryz.results204,hi1,LoopK_eq]
          refine ⟨fun v hv=>enc_leaf _ v hv,fun r hr=>by rw [List.mem_singleton.1 hr,enc_length],⟨0 + 1,[.row 4 [enc (ks.getD 0 ty0)] 0,.row 4 [enc (ks.getD 0 ty0)] 0],_,by omega,rfl,rfl,.inr ⟨1,rfl,by simp,by rw [hsn]; rfl⟩⟩,?_⟩
          simp only [intOf]
          omega
        · have hsn : encs (ks.take i) ++ [enc (ks.getD i ty0)] = encs (ks.take (i + 1)):=by
            rw [encs_map,encs_map,List.take_add_one,List.map_append]
            simp [List.getD,hi2]
          simp only [wpc_skip,AThen_normal,wpc_block,wpc_seq,wpc_drawn]
          refine .inr (drawE_intro [(false,0,2),(false,0,2),(false,0,0),(false,0,0),(false,0,0),(false,0,0),(false,0,0),(true,0,0),(true,1,1),(true,2,2),(false,3,3),(true,3,3)] [A ++ (.cells [.int .i64 k,.str m,.str n,.slice (encs ks)] :: .cells [.int .i64 0,.str [],.str [],.nils] :: .cells [.int .i64 k,.str m,.str n,.own (A.length + (j + 3))] :: B),A ++ (.cells [.int .i64 k,.str m,.str n,.slice (encs ks)] :: .cells [.int .i64 0,.str [],.str [],.nils] :: .cells [.int .i64 k,.str m,.str n,.own (A.length + (j + 3))] :: B),A ++ (.cells [.int .i64 k,.str m,.str n,.slice (encs ks)] :: .cells [.int .i64 0,.str [],.str [],.nils] :: .cells [.int .i64 k,.str m,.str n,.own (A.length + (j + 3))] :: (B ++ [.row 4 [enc (ks.getD i ty0)] 0])),A ++ (.cells [.int .i64 k,.str m,.str n,.slice (encs ks)] :: .cells [.int .i64 0,.str [],.str [],.nils] :: .cells [.int .i64 k,.str m,.str n,.own (A.length + (j + 3))] :: (B.set j .dead ++ [.row 4 [enc (ks.getD i ty0)] 0,.row 4 (encs (ks.take i) ++ [enc (ks.getD i ty0)]) 0])),A ++ (.cells [.int .i64 k,.str m,.str n,.slice (encs ks)] :: .cells [.int .i64 0,.str [],.str [],.nils] :: .cells [.int .i64 k,.str m,.str n,.own (A.length + (B.length + 1 + 3))] :: (B.set j .dead ++ [.row 4 [enc (ks.getD i ty0)] 0,.row 4 (encs (ks.take i) ++ [enc (ks.getD i ty0)]) 0]))] 4 rfl (by kernel_rfl) (by kernel_rfl) (by kernel_rfl) (by kernel_rfl) (by kernel_rfl) (by kernel_rfl) ?_)
          simp only [zW,zX,zD,builtinA,isLeaf,const1,Nat.reduceAdd,Nat.reduceMul,Nat.reduceSub,Nat.reduceLT,Nat.reduceLeDiff,Nat.reduceEqDiff,Nat.reduceBEq,Nat.reduceBNe,reduceIte,reduceCtorEq,Int.reduceToNat,Int.reduceLT,Int.reduceLE,Int.reduceEq,Int.reduceNe,Int.reduceNeg,ustrA,ti3,ti9,ti34,ti36,ca204,cf,Tryz.results204,he,hj,hg,enc_length,enc_take,enc_drop,frzL_enc,enc_closed,Option.map_some,encs_length]
          refine ⟨⟨by omega,by omega⟩,?_⟩
          refine callE_intro (by simp only [zW,zX,zD,builtinA,isLeaf,const1,Nat.reduceAdd,Nat.reduceMul,Nat.reduceSub,Nat.reduceLT,Nat.reduceLeDiff,Nat.reduceEqDiff,Nat.reduceBEq,Nat.reduceBNe,reduceIte,reduceCtorEq,Int.reduceToNat,Int.reduceLT,Int.reduceLE,Int.reduceEq,Int.reduceNe,Int.reduceNeg,ustrA,enc_length,enc_take,enc_drop,frzL_enc,enc_closed,Option.map_some] <;> rfl) (ih _ hmm (hok _ hmm) _) ?_ rfl rfl
          simp only [zW,zX,zD,builtinA,isLeaf,const1,Nat.reduceAdd,Nat.reduceMul,Nat.reduceSub,Nat.reduceLT,Nat.reduceLeDiff,Nat.reduceEqDiff,Nat.reduceBEq,Nat.reduceBNe,reduceIte,reduceCtorEq,Int.reduceToNat,Int.reduceLT,Int.reduceLE,Int.reduceEq,Int.reduceNe,Int.reduceNeg,ustrA,ti3,ti9,ti34,ti36,ca204,cf,Tryz.results204,he,hj,hg,enc_length,enc_take,enc_drop,frzL_enc,enc_closed,Option.map_some,encs_length]
          simp only [zW,zX,zD,builtinA,isLeaf,const1,Nat.reduceAdd,Nat.reduceMul,Nat.reduceSub,Nat.reduceLT,Nat.reduceLeDiff,Nat.reduceEqDiff,Nat.reduceBEq,Nat.reduceBNe,reduceIte,reduceCtorEq,Int.reduceToNat,Int.reduceLT,Int.reduceLE,Int.reduceEq,Int.reduceNe,Int.reduceNeg,ustrA,ti3,ti9,ti34,ti36,ca204,cf,Tryz.results204,hi1,LoopK_eq]
          refine ⟨fun v hv=>enc_leaf _ v hv,⟨fun r hr=>by rw [List.mem_singleton.1 hr,enc_length],by rw [List.length_take]; omega⟩,⟨i + 1,B.set j .dead ++ [.row 4 [enc (ks.getD i ty0)] 0,.row 4 (encs (ks.take i) ++ [enc (ks.getD i ty0)]) 0],_,by omega,rfl,rfl,.inr ⟨B.length + 1,rfl,by simp,?_⟩⟩,?_⟩
          · rw [getD_sapp,hsn]; rfl
          · simp only [intOf]
            omega
      · have : i = ks.length:=by simp at h2; omega
        subst this
        rw [List.take_length] at hx
        rcases hx with ⟨h0,rfl,rfl⟩ | ⟨j,rfl,hj,hg⟩
        · have : ks = []:=by cases ks with
            | nil=>rfl
            | cons=>simp at h0
          subst this
          simp only [zW,zX,zD,builtinA,isLeaf,const1,Nat.reduceAdd,Nat.reduceMul,Nat.reduceSub,Nat.reduceLT,Nat.reduceLeDiff,Nat.reduceEqDiff,Nat.reduceBEq,Nat.reduceBNe,reduceIte,reduceCtorEq,Int.reduceToNat,Int.reduceLT,Int.reduceLE,Int.reduceEq,Int.reduceNe,Int.reduceNeg,ustrA,ti3,ti9,ti34,ti36,ca204,cf,Tryz.results204,encs]
        · simp only [zW,zX,zD,builtinA,isLeaf,const1,Nat.reduceAdd,Nat.reduceMul,Nat.reduceSub,Nat.reduceLT,Nat.reduceLeDiff,Nat.reduceEqDiff,Nat.reduceBEq,Nat.reduceBNe,reduceIte,reduceCtorEq,Int.reduceToNat,Int.reduceLT,Int.reduceLE,Int.reduceEq,Int.reduceNe,Int.reduceNeg,ustrA,ti3,ti9,ti34,ti36,ca204,cf,Tryz.results204,hg,hj]
set_option maxRecDepth 100000 in
theorem spec_l1CopyK (k : Int) (m n : List UInt8) (ks : List Ty) (hτ : sz (.mk k m n ks) ≤ 1048576) (A : List Box) : ACalls Tryz.prog 204 [.agg (enc (.mk k m n ks))] A (fun r A'=>∃ x B,r = .agg [.int .i64 k,.str m,.str n,x] ∧ A' = A ++ B ∧ ((x = .nils ∧ ks = []) ∨ ∃ j,x = .own (A.length + j) ∧ j < B.length ∧ B.getD j .dead = .row 4 (encs ks) 0)):=by
    have hks : ks.length ≤ 1048576:=by rw [sz] at hτ; omega
    have ih : ∀ t ∈ ks,sz t ≤ 1048576 → ∀ (A : List Box),ACalls Tryz.prog 204 [.agg (enc t)] A (fun r A'=>r = .agg (enc t) ∧ A' = A):=fun t _ h=>spec_l1Copy t h
    have hok : ∀ t ∈ ks,sz t ≤ 1048576:=fun t ht=>by rw [sz] at hτ; have:=szs_mem ht; omega
    rw [enc]
    refine acalls_enterK (cf:=cf 31 [0,1,2,3,4,16]) foll Tryz.func204 Tryz.ntmps204 (by simp [cf]) ?_
    simp only [Tryz.f204,EnterK_some,zW,zX,zD,builtinA,isLeaf,const1,Nat.reduceAdd,Nat.reduceMul,Nat.reduceSub,Nat.reduceLT,Nat.reduceLeDiff,Nat.reduceEqDiff,Nat.reduceBEq,Nat.reduceBNe,reduceIte,reduceCtorEq,Int.reduceToNat,Int.reduceLT,Int.reduceLE,Int.reduceEq,Int.reduceNe,Int.reduceNeg,ustrA,ti3,ti9,ti34,ti36,ca204,cf,Tryz.results204]
    refine aloop_intro [1,2,3,4] (fun e A'=>∃ i B x,i ≤ ks.length ∧ e = [(1,.ptr A.length 0),(2,.ptr (A.length + 1) 0),(3,.ptr (A.length + 2) 0),(4,.int .i64 i)] ∧ A' = A ++ (.cells [.int .i64 k,.str m,.str n,.slice (encs ks)] :: .cells [.int .i64 0,.str [],.str [],.nils] :: .cells [.int .i64 k,.str m,.str n,x] :: B) ∧
      ((i = 0 ∧ x = .nils ∧ B = []) ∨ (∃ j,x = .own (A.length + (j + 3)) ∧ j < B.length ∧ B.getD j .dead = .row 4 (encs (ks.take i)) 0))) (fun e _=>ks.length - (intOf (Abs.look 4 e)).toNat) ?_ ?_
    · simp only [zW,zX,zD,builtinA,isLeaf,const1,Nat.reduceAdd,Nat.reduceMul,Nat.reduceSub,Nat.reduceLT,Nat.reduceLeDiff,Nat.reduceEqDiff,Nat.reduceBEq,Nat.reduceBNe,reduceIte,reduceCtorEq,Int.reduceToNat,Int.reduceLT,Int.reduceLE,Int.reduceEq,Int.reduceNe,Int.reduceNeg,ustrA,ti3,ti9,ti34,ti36,ca204,cf,Tryz.results204]
      exact ⟨0,[],.nils,by omega,rfl,rfl,.inl ⟨rfl,rfl,rfl⟩⟩
    · rintro e A' ⟨i,B,x,hi,rfl,rfl,hx⟩
      simp only [zW,zX,zD,builtinA,isLeaf,const1,Nat.reduceAdd,Nat.reduceMul,Nat.reduceSub,Nat.reduceLT,Nat.reduceLeDiff,Nat.reduceEqDiff,Nat.reduceBEq,Nat.reduceBNe,reduceIte,reduceCtorEq,Int.reduceToNat,Int.reduceLT,Int.reduceLE,Int.reduceEq,Int.reduceNe,Int.reduceNeg,ustrA,ti3,ti9,ti34,ti36,ca204,cf,Tryz.results204,encs_length]
      refine condK_intro (fun h2=>?_) (fun h2=>?_)
      · have hi2 : i < ks.length:=by simpa using h2
        have he:=encs_getD hi2
        have hmm:=getD_mem hi2
        have hi1 : IntKind.i64.wrap ((i : Int) + 1) = ((i + 1 : Nat) : Int):=by rw [wrap64 (by omega) (by omega)]; rfl
        rcases hx with ⟨rfl,rfl,rfl⟩ | ⟨j,rfl,hj,hg⟩
        · simp only [wpc_skip,AThen_normal,wpc_block,wpc_seq,wpc_drawn]
          refine .inr (drawE_intro [(false,0,2),(false,0,2),(false,0,0),(false,0,0),(false,0,0),(false,0,0),(false,0,0),(true,0,0),(true,1,1),(true,2,2),(false,3,3),(true,3,3)] [A ++ [.cells [.int .i64 k,.str m,.str n,.slice (encs ks)],.cells [.int .i64 0,.str [],.str [],.nils],.cells [.int .i64 k,.str m,.str n,.nils]],A ++ [.cells [.int .i64 k,.str m,.str n,.slice (encs ks)],.cells [.int .i64 0,.str [],.str [],.nils],.cells [.int .i64 k,.str m,.str n,.nils]],A ++ [.cells [.int .i64 k,.str m,.str n,.slice (encs ks)],.cells [.int .i64 0,.str [],.str [],.nils],.cells [.int .i64 k,.str m,.str n,.nils],.row 4 [enc (ks.getD 0 ty0)] 0],A ++ [.cells [.int .i64 k,.str m,.str n,.slice (encs ks)],.cells [.int .i64 0,.str [],.str [],.nils],.cells [.int .i64 k,.str m,.str n,.nils],.row 4 [enc (ks.getD 0 ty0)] 0,.row 4 [enc (ks.getD 0 ty0)] 0],A ++ [.cells [.int .i64 k,.str m,.str n,.slice (encs ks)],.cells [.int .i64 0,.str [],.str [],.nils],.cells [.int .i64 k,.str m,.str n,.own (A.length + 4)],.row 4 [enc (ks.getD 0 ty0)] 0,.row 4 [enc (ks.getD 0 ty0)] 0]] 4 rfl (by kernel_rfl) (by kernel_rfl) (by kernel_rfl) (by kernel_rfl) (by kernel_rfl) (by kernel_rfl) ?_)
          simp only [zW,zX,zD,builtinA,isLeaf,const1,Nat.reduceAdd,Nat.reduceMul,Nat.reduceSub,Nat.reduceLT,Nat.reduceLeDiff,Nat.reduceEqDiff,Nat.reduceBEq,Nat.reduceBNe,reduceIte,reduceCtorEq,Int.reduceToNat,Int.reduceLT,Int.reduceLE,Int.reduceEq,Int.reduceNe,Int.reduceNeg,ustrA,ti3,ti9,ti34,ti36,ca204,cf,Tryz.results204,he,enc_length,enc_take,enc_drop,frzL_enc,enc_closed,Option.map_some,encs_length]
          refine ⟨⟨by omega,by omega⟩,?_⟩
          refine callE_intro (by simp only [zW,zX,zD,builtinA,isLeaf,const1,Nat.reduceAdd,Nat.reduceMul,Nat.reduceSub,Nat.reduceLT,Nat.reduceLeDiff,Nat.reduceEqDiff,Nat.reduceBEq,Nat.reduceBNe,reduceIte,reduceCtorEq,Int.reduceToNat,Int.reduceLT,Int.reduceLE,Int.reduceEq,Int.reduceNe,Int.reduceNeg,ustrA,enc_length,enc_take,enc_drop,frzL_enc,enc_closed,Option.map_some] <;> rfl) (ih _ hmm (hok _ hmm) _) ?_ rfl rfl
          simp only [zW,zX,zD,builtinA,isLeaf,const1,Nat.reduceAdd,Nat.reduceMul,Nat.reduceSub,Nat.reduceLT,Nat.reduceLeDiff,Nat.reduceEqDiff,Nat.reduceBEq,Nat.reduceBNe,reduceIte,reduceCtorEq,Int.reduceToNat,Int.reduceLT,Int.reduceLE,Int.reduceEq,Int.reduceNe,Int.reduceNeg,ustrA,ti3,ti9,ti34,ti36,ca204,cf,Tryz.results204,he,enc_length,enc_take,enc_drop,frzL_enc,enc_closed,Option.map_some,encs_length]
          have hsn : [enc (ks.getD 0 ty0)] = encs (ks.take 1):=by
            match ks,hi2 with
            | t :: l,_=>simp [encs]
          simp only [zW,zX,zD,builtinA,isLeaf,const1,Nat.reduceAdd,Nat.reduceMul,Nat.reduceSub,Nat.reduceLT,Nat.reduceLeDiff,Nat.reduceEqDiff,Nat.reduceBEq,Nat.reduceBNe,reduceIte,reduceCtorEq,Int.reduceToNat,Int.reduceLT,Int.reduceLE,Int.reduceEq,Int.reduceNe,Int.reduceNeg,ustrA,ti3,ti9,ti34,ti36,ca204,cf,Tryz.results204,hi1,LoopK_eq]
          refine ⟨fun v hv=>enc_leaf _ v hv,fun r hr=>by rw [List.mem_singleton.1 hr,enc_length],⟨0 + 1,[.row 4 [enc (ks.getD 0 ty0)] 0,.row 4 [enc (ks.getD 0 ty0)] 0],_,by omega,rfl,rfl,.inr ⟨1,rfl,by simp,by rw [hsn]; rfl⟩⟩,?_⟩
          simp only [intOf]
          omega
        · have hsn : encs (ks.take i) ++ [enc (ks.getD i ty0)] = encs (ks.take (i + 1)):=by
            rw [encs_map,encs_map,List.take_add_one,List.map_append]
            simp [List.getD,hi2]
          simp only [wpc_skip,AThen_normal,wpc_block,wpc_seq,wpc_drawn]
          refine .inr (drawE_intro [(false,0,2),(false,0,2),(false,0,0),(false,0,0),(false,0,0),(false,0,0),(false,0,0),(true,0,0),(true,1,1),(true,2,2),(false,3,3),(true,3,3)] [A ++ (.cells [.int .i64 k,.str m,.str n,.slice (encs ks)] :: .cells [.int .i64 0,.str [],.str [],.nils] :: .cells [.int .i64 k,.str m,.str n,.own (A.length + (j + 3))] :: B),A ++ (.cells [.int .i64 k,.str m,.str n,.slice (encs ks)] :: .cells [.int .i64 0,.str [],.str [],.nils] :: .cells [.int .i64 k,.str m,.str n,.own (A.length + (j + 3))] :: B),A ++ (.cells [.int .i64 k,.str m,.str n,.slice (encs ks)] :: .cells [.int .i64 0,.str [],.str [],.nils] :: .cells [.int .i64 k,.str m,.str n,.own (A.length + (j + 3))] :: (B ++ [.row 4 [enc (ks.getD i ty0)] 0])),A ++ (.cells [.int .i64 k,.str m,.str n,.slice (encs ks)] :: .cells [.int .i64 0,.str [],.str [],.nils] :: .cells [.int .i64 k,.str m,.str n,.own (A.length + (j + 3))] :: (B.set j .dead ++ [.row 4 [enc (ks.getD i ty0)] 0,.row 4 (encs (ks.take i) ++ [enc (ks.getD i ty0)]) 0])),A ++ (.cells [.int .i64 k,.str m,.str n,.slice (encs ks)] :: .cells [.int .i64 0,.str [],.str [],.nils] :: .cells [.int .i64 k,.str m,.str n,.own (A.length + (B.length + 1 + 3))] :: (B.set j .dead ++ [.row 4 [enc (ks.getD i ty0)] 0,.row 4 (encs (ks.take i) ++ [enc (ks.getD i ty0)]) 0]))] 4 rfl (by kernel_rfl) (by kernel_rfl) (by kernel_rfl) (by kernel_rfl) (by kernel_rfl) (by kernel_rfl) ?_)
          simp only [zW,zX,zD,builtinA,isLeaf,const1,Nat.reduceAdd,Nat.reduceMul,Nat.reduceSub,Nat.reduceLT,Nat.reduceLeDiff,Nat.reduceEqDiff,Nat.reduceBEq,Nat.reduceBNe,reduceIte,reduceCtorEq,Int.reduceToNat,Int.reduceLT,Int.reduceLE,Int.reduceEq,Int.reduceNe,Int.reduceNeg,ustrA,ti3,ti9,ti34,ti36,ca204,cf,Tryz.results204,he,hj,hg,enc_length,enc_take,enc_drop,frzL_enc,enc_closed,Option.map_some,encs_length]
          refine ⟨⟨by omega,by omega⟩,?_⟩
          refine callE_intro (by simp only [zW,zX,zD,builtinA,isLeaf,const1,Nat.reduceAdd,Nat.reduceMul,Nat.reduceSub,Nat.reduceLT,Nat.reduceLeDiff,Nat.reduceEqDiff,Nat.reduceBEq,Nat.reduceBNe,reduceIte,reduceCtorEq,Int.reduceToNat,Int.reduceLT,Int.reduceLE,Int.reduceEq,Int.reduceNe,Int.reduceNeg,ustrA,enc_length,enc_take,enc_drop,frzL_enc,enc_closed,Option.map_some] <;> rfl) (ih _ hmm (hok _ hmm) _) ?_ rfl rfl
          simp only [zW,zX,zD,builtinA,isLeaf,const1,Nat.reduceAdd,Nat.reduceMul,Nat.reduceSub,Nat.reduceLT,Nat.reduceLeDiff,Nat.reduceEqDiff,Nat.reduceBEq,Nat.reduceBNe,reduceIte,reduceCtorEq,Int.reduceToNat,Int.reduceLT,Int.reduceLE,Int.reduceEq,Int.reduceNe,Int.reduceNeg,ustrA,ti3,ti9,ti34,ti36,ca204,cf,Tryz.results204,he,hj,hg,enc_length,enc_take,enc_drop,frzL_enc,enc_closed,Option.map_some,encs_length]
          simp only [zW,zX,zD,builtinA,isLeaf,const1,Nat.reduceAdd,Nat.reduceMul,Nat.reduceSub,Nat.reduceLT,Nat.reduceLeDiff,Nat.reduceEqDiff,Nat.reduceBEq,Nat.reduceBNe,reduceIte,reduceCtorEq,Int.reduceToNat,Int.reduceLT,Int.reduceLE,Int.reduceEq,Int.reduceNe,Int.reduceNeg,ustrA,ti3,ti9,ti34,ti36,ca204,cf,Tryz.results204,hi1,LoopK_eq]
          refine ⟨fun v hv=>enc_leaf _ v hv,⟨fun r hr=>by rw [List.mem_singleton.1 hr,enc_length],by rw [List.length_take]; omega⟩,⟨i + 1,B.set j .dead ++ [.row 4 [enc (ks.getD i ty0)] 0,.row 4 (encs (ks.take i) ++ [enc (ks.getD i ty0)]) 0],_,by omega,rfl,rfl,.inr ⟨B.length + 1,rfl,by simp,?_⟩⟩,?_⟩
          · rw [getD_sapp,hsn]; rfl
          · simp only [intOf]
            omega
      · have : i = ks.length:=by simp at h2; omega
        subst this
        rw [List.take_length] at hx
        rcases hx with ⟨h0,rfl,rfl⟩ | ⟨j,rfl,hj,hg⟩
        · have : ks = []:=by cases ks with
            | nil=>rfl
            | cons=>simp at h0
          subst this
          simp only [zW,zX,zD,builtinA,isLeaf,const1,Nat.reduceAdd,Nat.reduceMul,Nat.reduceSub,Nat.reduceLT,Nat.reduceLeDiff,Nat.reduceEqDiff,Nat.reduceBEq,Nat.reduceBNe,reduceIte,reduceCtorEq,Int.reduceToNat,Int.reduceLT,Int.reduceLE,Int.reduceEq,Int.reduceNe,Int.reduceNeg,ustrA,ti3,ti9,ti34,ti36,ca204,cf,Tryz.results204,encs]
          exact ⟨_,_,rfl,rfl,.inl rfl⟩
        · simp only [zW,zX,zD,builtinA,isLeaf,const1,Nat.reduceAdd,Nat.reduceMul,Nat.reduceSub,Nat.reduceLT,Nat.reduceLeDiff,Nat.reduceEqDiff,Nat.reduceBEq,Nat.reduceBNe,reduceIte,reduceCtorEq,Int.reduceToNat,Int.reduceLT,Int.reduceLE,Int.reduceEq,Int.reduceNe,Int.reduceNeg,ustrA,ti3,ti9,ti34,ti36,ca204,cf,Tryz.results204,hg,hj]
          refine ⟨_,_,rfl,rfl,.inr ?_⟩
          exact ⟨j + 3,rfl,by simp; omega,hg⟩
end Go.Proofs.YtnjdbgiincliaaaGreat
