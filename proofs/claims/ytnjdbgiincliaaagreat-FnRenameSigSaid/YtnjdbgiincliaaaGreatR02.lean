/- DrawMut, SigD. -/
import Derived.Test.YtnjdbgiincliaaaGreatR01
import Derived.Test.YtnjdbgiincliaaaGreatAbsW3
/- Types that are sometimes made invalid. -/
set_option linter.unusedVariables false
set_option linter.unusedSimpArgs false
namespace Go.Proofs.YtnjdbgiincliaaaGreat
open Go.Abs
theorem enc_mk (k : Int) (m n : List UInt8) (ks : List Ty) : enc (.mk k m n ks) = [.int .i64 k,.str m,.str n,.slice (encs ks)]:=by rw [enc]
theorem encs_nil : encs [] = []:=by rw [encs]
theorem sz_snoc (ks : List Ty) (t : Ty) : szs (ks ++ [t]) = szs ks + sz t:=by
  induction ks with
  | nil=>simp [szs]
  | cons u l ih=>simp only [List.cons_append,szs,ih]; omega
set_option maxRecDepth 100000 in
theorem spec_l1Mutate (bs : List UInt8) (τ : Ty) (hτ : sz τ ≤ 10000) (p : Nat) (i : Nat) (A : List Box) (hi : i < A.length) (hA : A.getD i .dead = Rd bs p) (hp : p < 2 ^ 38) :
    ACalls Tryz.prog 187 [.ptr i 0,.agg (enc τ)] A (fun r A'=>∃ τ' p',r = .agg (enc τ') ∧ sz τ' ≤ sz τ + 20 ∧ p ≤ p' ∧ p' ≤ p + 2 ∧ A' = A.set i (Rd bs p')):=by
  have hgA : ∀ X (B : List Box),(A.set i X ++ B).getD i .dead = X:=fun X B=>by rw [getD_app1 _ _ _ _ (by simpa using hi),getD_set1 hi]
  obtain ⟨k,m,n,ks⟩:=τ
  refine acalls_enter (cf:=cf 47 [0,1,3,4,5,6,10,11,17,23,29,37,40]) foll Tryz.func187 Tryz.ntmps187 (by simp [cf]) ?_
  simp only [Tryz.f187,EnterK_some,zW,zX,zD,builtinA,isLeaf,const1,Nat.reduceAdd,Nat.reduceMul,Nat.reduceSub,Nat.reduceLT,Nat.reduceLeDiff,Nat.reduceEqDiff,Nat.reduceBEq,Nat.reduceBNe,reduceIte,reduceCtorEq,Int.reduceToNat,Int.reduceLT,Int.reduceLE,Int.reduceEq,Int.reduceNe,Int.reduceNeg,ustrA,ti3,ti9,ti34,ti36,ti48,ti273,ca101,ca115,ca186,ca189,ca204,ca256,cf,Tryz.results187]
  simp only [zW,zX,zD,builtinA,isLeaf,const1,Nat.reduceAdd,Nat.reduceMul,Nat.reduceSub,Nat.reduceLT,Nat.reduceLeDiff,Nat.reduceEqDiff,Nat.reduceBEq,Nat.reduceBNe,reduceIte,reduceCtorEq,Int.reduceToNat,Int.reduceLT,Int.reduceLE,Int.reduceEq,Int.reduceNe,Int.reduceNeg,ustrA,ti3,ti9,ti34,ti36,ti48,ti273,ca101,ca115,ca186,ca189,ca204,ca256,cf,Tryz.results187,enc_length,enc_take,enc_drop,frzL_enc,enc_closed,Option.map_some]
  refine callK_intro (by simp only [zW,zX,zD,builtinA,isLeaf,const1,Nat.reduceAdd,Nat.reduceMul,Nat.reduceSub,Nat.reduceLT,Nat.reduceLeDiff,Nat.reduceEqDiff,Nat.reduceBEq,Nat.reduceBNe,reduceIte,reduceCtorEq,Int.reduceToNat,Int.reduceLT,Int.reduceLE,Int.reduceEq,Int.reduceNe,Int.reduceNeg,ustrA,enc_length,enc_take,enc_drop,frzL_enc,enc_closed,Option.map_some]; rfl) (spec_l1CopyK k m n ks (by omega) _) ?_ rfl
  rintro v A' ⟨x,B,rfl,rfl,hx⟩
  simp only [zW,zX,zD,builtinA,isLeaf,const1,Nat.reduceAdd,Nat.reduceMul,Nat.reduceSub,Nat.reduceLT,Nat.reduceLeDiff,Nat.reduceEqDiff,Nat.reduceBEq,Nat.reduceBNe,reduceIte,reduceCtorEq,Int.reduceToNat,Int.reduceLT,Int.reduceLE,Int.reduceEq,Int.reduceNe,Int.reduceNeg,ustrA,ti3,ti9,ti34,ti36,ti48,ti273,ca101,ca115,ca186,ca189,ca204,ca256,cf,Tryz.results187,enc_length,enc_take,enc_drop,frzL_enc,enc_closed,Option.map_some]
  refine callK_intro (by simp only [zW,zX,zD,builtinA,isLeaf,const1,Nat.reduceAdd,Nat.reduceMul,Nat.reduceSub,Nat.reduceLT,Nat.reduceLeDiff,Nat.reduceEqDiff,Nat.reduceBEq,Nat.reduceBNe,reduceIte,reduceCtorEq,Int.reduceToNat,Int.reduceLT,Int.reduceLE,Int.reduceEq,Int.reduceNe,Int.reduceNeg,ustrA,enc_length,enc_take,enc_drop,frzL_enc,enc_closed,Option.map_some]; rfl) (spec_pick bs p 50 i _ (by simp; omega) (by simp only [getD_app1 _ _ _ _ hi,hA]) (by omega) (by omega)) ?_ rfl
  rintro v A' ⟨j1,rfl,h0,h1,rfl⟩
  have hx' : (x = .nils ∧ ks = []) ∨ ∃ j,x = .own (A.length + (j + 2)) ∧ j < B.length ∧ B.getD j .dead = .row 4 (encs ks) 0:=by
    rcases hx with h | ⟨j,h1,h2,h3⟩
    · exact .inl h
    · refine .inr ⟨j,?_,h2,h3⟩
      rw [h1]
      simp only [List.length_append,List.length_cons,List.length_nil]
      congr 1
      omega
  clear hx
  rcases hx' with ⟨rfl,rfl⟩ | ⟨j,rfl,hj,hg⟩
  · simp only [zW,zX,zD,builtinA,isLeaf,const1,Nat.reduceAdd,Nat.reduceMul,Nat.reduceSub,Nat.reduceLT,Nat.reduceLeDiff,Nat.reduceEqDiff,Nat.reduceBEq,Nat.reduceBNe,reduceIte,reduceCtorEq,Int.reduceToNat,Int.reduceLT,Int.reduceLE,Int.reduceEq,Int.reduceNe,Int.reduceNeg,ustrA,ti3,ti9,ti34,ti36,ti48,ti273,ca101,ca115,ca186,ca189,ca204,ca256,cf,Tryz.results187,hi,enc_length,enc_take,enc_drop,frzL_enc,enc_closed,Option.map_some]
    by_cases k0 : j1 = 0
    · simp only [zW,zX,zD,builtinA,isLeaf,const1,Nat.reduceAdd,Nat.reduceMul,Nat.reduceSub,Nat.reduceLT,Nat.reduceLeDiff,Nat.reduceEqDiff,Nat.reduceBEq,Nat.reduceBNe,reduceIte,reduceCtorEq,Int.reduceToNat,Int.reduceLT,Int.reduceLE,Int.reduceEq,Int.reduceNe,Int.reduceNeg,ustrA,ti3,ti9,ti34,ti36,ti48,ti273,ca101,ca115,ca186,ca189,ca204,ca256,cf,Tryz.results187,hi,enc_length,enc_take,enc_drop,frzL_enc,enc_closed,Option.map_some,decide_eq_true k0]
      refine ⟨by simp,?_⟩
      refine callK_intro (by simp only [zW,zX,zD,builtinA,isLeaf,const1,Nat.reduceAdd,Nat.reduceMul,Nat.reduceSub,Nat.reduceLT,Nat.reduceLeDiff,Nat.reduceEqDiff,Nat.reduceBEq,Nat.reduceBNe,reduceIte,reduceCtorEq,Int.reduceToNat,Int.reduceLT,Int.reduceLE,Int.reduceEq,Int.reduceNe,Int.reduceNeg,ustrA,hi]; rfl) (spec_num bs (p + 1) [0,4,1,2,3] i _ (by simp; omega) (hgA _ _) (by omega) (by simp)) ?_ rfl
      rintro v A' ⟨s,rfl,hs,rfl⟩
      simp only [zW,zX,zD,builtinA,isLeaf,const1,Nat.reduceAdd,Nat.reduceMul,Nat.reduceSub,Nat.reduceLT,Nat.reduceLeDiff,Nat.reduceEqDiff,Nat.reduceBEq,Nat.reduceBNe,reduceIte,reduceCtorEq,Int.reduceToNat,Int.reduceLT,Int.reduceLE,Int.reduceEq,Int.reduceNe,Int.reduceNeg,ustrA,ti3,ti9,ti34,ti36,ti48,ti273,ca101,ca115,ca186,ca189,ca204,ca256,cf,Tryz.results187,hi,enc_length,enc_take,enc_drop,frzL_enc,enc_closed,Option.map_some]
      refine ⟨outer_set A _ i _ (rd_closed _ _ _),.mk s m n [],p + 1 + 1,by rw [enc_mk,encs_nil],?_,by omega,by omega,rfl⟩
      simp only [sz]; omega
    · simp only [zW,zX,zD,builtinA,isLeaf,const1,Nat.reduceAdd,Nat.reduceMul,Nat.reduceSub,Nat.reduceLT,Nat.reduceLeDiff,Nat.reduceEqDiff,Nat.reduceBEq,Nat.reduceBNe,reduceIte,reduceCtorEq,Int.reduceToNat,Int.reduceLT,Int.reduceLE,Int.reduceEq,Int.reduceNe,Int.reduceNeg,ustrA,ti3,ti9,ti34,ti36,ti48,ti273,ca101,ca115,ca186,ca189,ca204,ca256,cf,Tryz.results187,hi,enc_length,enc_take,enc_drop,frzL_enc,enc_closed,Option.map_some,decide_eq_false k0]
      by_cases k1 : j1 = 1
      · simp only [zW,zX,zD,builtinA,isLeaf,const1,Nat.reduceAdd,Nat.reduceMul,Nat.reduceSub,Nat.reduceLT,Nat.reduceLeDiff,Nat.reduceEqDiff,Nat.reduceBEq,Nat.reduceBNe,reduceIte,reduceCtorEq,Int.reduceToNat,Int.reduceLT,Int.reduceLE,Int.reduceEq,Int.reduceNe,Int.reduceNeg,ustrA,ti3,ti9,ti34,ti36,ti48,ti273,ca101,ca115,ca186,ca189,ca204,ca256,cf,Tryz.results187,hi,enc_length,enc_take,enc_drop,frzL_enc,enc_closed,Option.map_some,decide_eq_true k1]
        refine ⟨by simp,?_⟩
        refine callK_intro (by simp only [zW,zX,zD,builtinA,isLeaf,const1,Nat.reduceAdd,Nat.reduceMul,Nat.reduceSub,Nat.reduceLT,Nat.reduceLeDiff,Nat.reduceEqDiff,Nat.reduceBEq,Nat.reduceBNe,reduceIte,reduceCtorEq,Int.reduceToNat,Int.reduceLT,Int.reduceLE,Int.reduceEq,Int.reduceNe,Int.reduceNeg,ustrA,hi]; rfl) (spec_of bs (p + 1) [[],[116],[84],[116,117],[195,169]] i _ (by simp; omega) (hgA _ _) (by omega) (by simp)) ?_ rfl
        rintro v A' ⟨s,rfl,hs,rfl⟩
        simp only [zW,zX,zD,builtinA,isLeaf,const1,Nat.reduceAdd,Nat.reduceMul,Nat.reduceSub,Nat.reduceLT,Nat.reduceLeDiff,Nat.reduceEqDiff,Nat.reduceBEq,Nat.reduceBNe,reduceIte,reduceCtorEq,Int.reduceToNat,Int.reduceLT,Int.reduceLE,Int.reduceEq,Int.reduceNe,Int.reduceNeg,ustrA,ti3,ti9,ti34,ti36,ti48,ti273,ca101,ca115,ca186,ca189,ca204,ca256,cf,Tryz.results187,hi,enc_length,enc_take,enc_drop,frzL_enc,enc_closed,Option.map_some]
        refine ⟨outer_set A _ i _ (rd_closed _ _ _),.mk k m s [],p + 1 + 1,by rw [enc_mk,encs_nil],?_,by omega,by omega,rfl⟩
        have hsl : s.length ≤ 2:=by simp at hs; rcases hs with rfl | rfl | rfl | rfl | rfl <;> simp
        simp only [sz] at hτ ⊢; omega
      · simp only [zW,zX,zD,builtinA,isLeaf,const1,Nat.reduceAdd,Nat.reduceMul,Nat.reduceSub,Nat.reduceLT,Nat.reduceLeDiff,Nat.reduceEqDiff,Nat.reduceBEq,Nat.reduceBNe,reduceIte,reduceCtorEq,Int.reduceToNat,Int.reduceLT,Int.reduceLE,Int.reduceEq,Int.reduceNe,Int.reduceNeg,ustrA,ti3,ti9,ti34,ti36,ti48,ti273,ca101,ca115,ca186,ca189,ca204,ca256,cf,Tryz.results187,hi,enc_length,enc_take,enc_drop,frzL_enc,enc_closed,Option.map_some,decide_eq_false k1]
        by_cases k2 : j1 = 2
        · simp only [zW,zX,zD,builtinA,isLeaf,const1,Nat.reduceAdd,Nat.reduceMul,Nat.reduceSub,Nat.reduceLT,Nat.reduceLeDiff,Nat.reduceEqDiff,Nat.reduceBEq,Nat.reduceBNe,reduceIte,reduceCtorEq,Int.reduceToNat,Int.reduceLT,Int.reduceLE,Int.reduceEq,Int.reduceNe,Int.reduceNeg,ustrA,ti3,ti9,ti34,ti36,ti48,ti273,ca101,ca115,ca186,ca189,ca204,ca256,cf,Tryz.results187,hi,enc_length,enc_take,enc_drop,frzL_enc,enc_closed,Option.map_some,decide_eq_true k2]
          refine ⟨by simp,?_⟩
          refine callK_intro (by simp only [zW,zX,zD,builtinA,isLeaf,const1,Nat.reduceAdd,Nat.reduceMul,Nat.reduceSub,Nat.reduceLT,Nat.reduceLeDiff,Nat.reduceEqDiff,Nat.reduceBEq,Nat.reduceBNe,reduceIte,reduceCtorEq,Int.reduceToNat,Int.reduceLT,Int.reduceLE,Int.reduceEq,Int.reduceNe,Int.reduceNeg,ustrA,hi]; rfl) (spec_of bs (p + 1) [[65],[97],[73],[65,66]] i _ (by simp; omega) (hgA _ _) (by omega) (by simp)) ?_ rfl
          rintro v A' ⟨s,rfl,hs,rfl⟩
          simp only [zW,zX,zD,builtinA,isLeaf,const1,Nat.reduceAdd,Nat.reduceMul,Nat.reduceSub,Nat.reduceLT,Nat.reduceLeDiff,Nat.reduceEqDiff,Nat.reduceBEq,Nat.reduceBNe,reduceIte,reduceCtorEq,Int.reduceToNat,Int.reduceLT,Int.reduceLE,Int.reduceEq,Int.reduceNe,Int.reduceNeg,ustrA,ti3,ti9,ti34,ti36,ti48,ti273,ca101,ca115,ca186,ca189,ca204,ca256,cf,Tryz.results187,hi,enc_length,enc_take,enc_drop,frzL_enc,enc_closed,Option.map_some]
          refine ⟨outer_set A _ i _ (rd_closed _ _ _),.mk k s n [],p + 1 + 1,by rw [enc_mk,encs_nil],?_,by omega,by omega,rfl⟩
          have hsl : s.length ≤ 2:=by simp at hs; rcases hs with rfl | rfl | rfl | rfl <;> simp
          simp only [sz] at hτ ⊢; omega
        · simp only [zW,zX,zD,builtinA,isLeaf,const1,Nat.reduceAdd,Nat.reduceMul,Nat.reduceSub,Nat.reduceLT,Nat.reduceLeDiff,Nat.reduceEqDiff,Nat.reduceBEq,Nat.reduceBNe,reduceIte,reduceCtorEq,Int.reduceToNat,Int.reduceLT,Int.reduceLE,Int.reduceEq,Int.reduceNe,Int.reduceNeg,ustrA,ti3,ti9,ti34,ti36,ti48,ti273,ca101,ca115,ca186,ca189,ca204,ca256,cf,Tryz.results187,hi,enc_length,enc_take,enc_drop,frzL_enc,enc_closed,Option.map_some,decide_eq_false k2]
          by_cases k3 : j1 = 3
          · simp only [decide_eq_true k3,CondK_true]
            simp only [wpc_skip,AThen_normal,wpc_block,wpc_seq,wpc_drawn]
            refine .inr (drawE_intro [(false,0,2),(false,0,2),(true,0,0),(true,1,1),(true,2,2),(false,3,3),(true,3,3)] [A.set i (Rd bs (p + 1)) ++ (.cells (enc (.mk k m n [])) :: .cells [.int .i64 0,.str [],.str [],.nils] :: (B ++ [.cells [.int .i64 k,.str m,.str n,.nils]])),A.set i (Rd bs (p + 1)) ++ (.cells (enc (.mk k m n [])) :: .cells [.int .i64 0,.str [],.str [],.nils] :: (B ++ [.cells [.int .i64 k,.str m,.str n,.nils]])),A.set i (Rd bs (p + 1)) ++ (.cells (enc (.mk k m n [])) :: .cells [.int .i64 0,.str [],.str [],.nils] :: (B ++ [.cells [.int .i64 k,.str m,.str n,.nils],.row 4 [enc (toTy .num)] 0])),A.set i (Rd bs (p + 1)) ++ (.cells (enc (.mk k m n [])) :: .cells [.int .i64 0,.str [],.str [],.nils] :: (B ++ [.cells [.int .i64 k,.str m,.str n,.nils],.row 4 [enc (toTy .num)] 0,.row 4 [enc (toTy .num)] 0])),A.set i (Rd bs (p + 1)) ++ (.cells (enc (.mk k m n [])) :: .cells [.int .i64 0,.str [],.str [],.nils] :: (B ++ [.cells [.int .i64 k,.str m,.str n,.own (A.length + (B.length + 1 + 1 + 1 + 1))],.row 4 [enc (toTy .num)] 0,.row 4 [enc (toTy .num)] 0]))] 4 rfl (by kernel_rfl) (by kernel_rfl) (by kernel_rfl) (by kernel_rfl) (by kernel_rfl) (by kernel_rfl) ?_)
            simp only [zW,zX,zD,builtinA,isLeaf,const1,Nat.reduceAdd,Nat.reduceMul,Nat.reduceSub,Nat.reduceLT,Nat.reduceLeDiff,Nat.reduceEqDiff,Nat.reduceBEq,Nat.reduceBNe,reduceIte,reduceCtorEq,Int.reduceToNat,Int.reduceLT,Int.reduceLE,Int.reduceEq,Int.reduceNe,Int.reduceNeg,ustrA,ti3,ti9,ti34,ti36,ti48,ti273,ca101,ca115,ca186,ca189,ca204,ca256,cf,Tryz.results187,hi,enc_length,enc_take,enc_drop,frzL_enc,enc_closed,Option.map_some,enc_mk]
            refine callE_intro (by simp only [zW,zX,zD,builtinA,isLeaf,const1,Nat.reduceAdd,Nat.reduceMul,Nat.reduceSub,Nat.reduceLT,Nat.reduceLeDiff,Nat.reduceEqDiff,Nat.reduceBEq,Nat.reduceBNe,reduceIte,reduceCtorEq,Int.reduceToNat,Int.reduceLT,Int.reduceLE,Int.reduceEq,Int.reduceNe,Int.reduceNeg,ustrA,enc_length,enc_take,enc_drop,frzL_enc,enc_closed,Option.map_some] <;> rfl) (spec_l1Num _) ?_ rfl rfl
            simp only [zW,zX,zD,builtinA,isLeaf,const1,Nat.reduceAdd,Nat.reduceMul,Nat.reduceSub,Nat.reduceLT,Nat.reduceLeDiff,Nat.reduceEqDiff,Nat.reduceBEq,Nat.reduceBNe,reduceIte,reduceCtorEq,Int.reduceToNat,Int.reduceLT,Int.reduceLE,Int.reduceEq,Int.reduceNe,Int.reduceNeg,ustrA,ti3,ti9,ti34,ti36,ti48,ti273,ca101,ca115,ca186,ca189,ca204,ca256,cf,Tryz.results187,hi,enc_length,enc_take,enc_drop,frzL_enc,enc_closed,Option.map_some]
            refine ⟨fun v hv=>enc_leaf _ v hv,fun r hr=>by rw [List.mem_singleton.1 hr,enc_length],outer_set A _ i _ (rd_closed _ _ _),.mk k m n [toTy .num],p + 1,by rw [enc_mk,encs,encs],?_,by omega,by omega,rfl⟩
            simp only [sz,toTy,szs,List.length_singleton,List.length_nil]; omega
          · simp only [zW,zX,zD,builtinA,isLeaf,const1,Nat.reduceAdd,Nat.reduceMul,Nat.reduceSub,Nat.reduceLT,Nat.reduceLeDiff,Nat.reduceEqDiff,Nat.reduceBEq,Nat.reduceBNe,reduceIte,reduceCtorEq,Int.reduceToNat,Int.reduceLT,Int.reduceLE,Int.reduceEq,Int.reduceNe,Int.reduceNeg,ustrA,ti3,ti9,ti34,ti36,ti48,ti273,ca101,ca115,ca186,ca189,ca204,ca256,cf,Tryz.results187,hi,enc_length,enc_take,enc_drop,frzL_enc,enc_closed,Option.map_some,decide_eq_false k3]
            by_cases k4 : j1 = 4
            · simp only [zW,zX,zD,builtinA,isLeaf,const1,Nat.reduceAdd,Nat.reduceMul,Nat.reduceSub,Nat.reduceLT,Nat.reduceLeDiff,Nat.reduceEqDiff,Nat.reduceBEq,Nat.reduceBNe,reduceIte,reduceCtorEq,Int.reduceToNat,Int.reduceLT,Int.reduceLE,Int.reduceEq,Int.reduceNe,Int.reduceNeg,ustrA,ti3,ti9,ti34,ti36,ti48,ti273,ca101,ca115,ca186,ca189,ca204,ca256,cf,Tryz.results187,hi,enc_length,enc_take,enc_drop,frzL_enc,enc_closed,Option.map_some,decide_eq_true k4]
              refine aloop_intro [4,5,6] (fun e A'=>∃ r,r ≤ 8 ∧ e = [(4,.ptr (A.length + 1) 0),(5,.ptr (A.length + (B.length + 1 + 1)) 0),(6,.int .i64 (r : Nat))] ∧ ((r = 0 ∧ A' = A.set i (Rd bs (p + 1)) ++ (.cells (enc (.mk k m n [])) :: .cells [.int .i64 0,.str [],.str [],.nils] :: (B ++ [.cells [.int .i64 k,.str m,.str n,.nils]]))) ∨ (∃ τr,A' = A.set i (Rd bs (p + 1)) ++ (.cells (enc (.mk k m n [])) :: .cells [.int .i64 0,.str [],.str [],.nils] :: (B ++ [.cells (enc τr)])) ∧ sz τr ≤ sz (.mk k m n []) + 2 * r))) (fun e _=>8 - (intOf (Abs.look 6 e)).toNat) ?_ ?_
              · simp only [zW,zX,zD,builtinA,isLeaf,const1,Nat.reduceAdd,Nat.reduceMul,Nat.reduceSub,Nat.reduceLT,Nat.reduceLeDiff,Nat.reduceEqDiff,Nat.reduceBEq,Nat.reduceBNe,reduceIte,reduceCtorEq,Int.reduceToNat,Int.reduceLT,Int.reduceLE,Int.reduceEq,Int.reduceNe,Int.reduceNeg,ustrA,ti3,ti9,ti34,ti36,ti48,ti273,ca101,ca115,ca186,ca189,ca204,ca256,cf,Tryz.results187]
                exact ⟨0,by omega,rfl,.inl rfl⟩
              · rintro e A' ⟨r,hr,rfl,hx⟩
                simp only [zW,zX,zD,builtinA,isLeaf,const1,Nat.reduceAdd,Nat.reduceMul,Nat.reduceSub,Nat.reduceLT,Nat.reduceLeDiff,Nat.reduceEqDiff,Nat.reduceBEq,Nat.reduceBNe,reduceIte,reduceCtorEq,Int.reduceToNat,Int.reduceLT,Int.reduceLE,Int.reduceEq,Int.reduceNe,Int.reduceNeg,ustrA,ti3,ti9,ti34,ti36,ti48,ti273,ca101,ca115,ca186,ca189,ca204,ca256,cf,Tryz.results187,hi]
                have hi1 : IntKind.i64.wrap ((r : Int) + 1) = ((r + 1 : Nat) : Int):=by rw [wrap64 (by omega) (by omega)]; rfl
                refine condK_intro (fun h2=>?_) (fun h2=>?_)
                · have hr2 : r < 8:=by simp at h2; omega
                  rcases hx with ⟨rfl,rfl⟩ | ⟨τr,rfl,hτr⟩
                  · simp only [wpc_skip,AThen_normal,wpc_block,wpc_seq,wpc_drawn]
                    refine .inr (drawE_intro [(false,0,1),(true,0,0),(true,1,1),(true,2,2)] [A.set i (Rd bs (p + 1)) ++ (.cells (enc (.mk k m n [])) :: .cells [.int .i64 0,.str [],.str [],.nils] :: (B ++ [.cells [.int .i64 k,.str m,.str n,.nils]])),A.set i (Rd bs (p + 1)) ++ (.cells (enc (.mk k m n [])) :: .cells [.int .i64 0,.str [],.str [],.nils] :: (B ++ [.cells [.int .i64 k,.str m,.str n,.nils]])),A.set i (Rd bs (p + 1)) ++ (.cells (enc (.mk k m n [])) :: .cells [.int .i64 0,.str [],.str [],.nils] :: (B ++ [.cells [.int .i64 k,.str m,.str n,.nils]])),A.set i (Rd bs (p + 1)) ++ (.cells (enc (.mk k m n [])) :: .cells [.int .i64 0,.str [],.str [],.nils] :: (B ++ [.cells (enc (.mk 2 [] [] [.mk k m n [],toTy .num]))]))] 3 rfl (by kernel_rfl) (by kernel_rfl) (by kernel_rfl) (by kernel_rfl) (by kernel_rfl) (by kernel_rfl) ?_)
                    simp only [zW,zX,zD,builtinA,isLeaf,const1,Nat.reduceAdd,Nat.reduceMul,Nat.reduceSub,Nat.reduceLT,Nat.reduceLeDiff,Nat.reduceEqDiff,Nat.reduceBEq,Nat.reduceBNe,reduceIte,reduceCtorEq,Int.reduceToNat,Int.reduceLT,Int.reduceLE,Int.reduceEq,Int.reduceNe,Int.reduceNeg,ustrA,ti3,ti9,ti34,ti36,ti48,ti273,ca101,ca115,ca186,ca189,ca204,ca256,cf,Tryz.results187,hi,enc_length,enc_take,enc_drop,frzL_enc,enc_closed,Option.map_some]
                    refine callE_intro (by simp only [zW,zX,zD,builtinA,isLeaf,const1,Nat.reduceAdd,Nat.reduceMul,Nat.reduceSub,Nat.reduceLT,Nat.reduceLeDiff,Nat.reduceEqDiff,Nat.reduceBEq,Nat.reduceBNe,reduceIte,reduceCtorEq,Int.reduceToNat,Int.reduceLT,Int.reduceLE,Int.reduceEq,Int.reduceNe,Int.reduceNeg,ustrA,enc_length,enc_take,enc_drop,frzL_enc,enc_closed,Option.map_some] <;> rfl) (spec_l1Num _) ?_ rfl rfl
                    simp only [zW,zX,zD,builtinA,isLeaf,const1,Nat.reduceAdd,Nat.reduceMul,Nat.reduceSub,Nat.reduceLT,Nat.reduceLeDiff,Nat.reduceEqDiff,Nat.reduceBEq,Nat.reduceBNe,reduceIte,reduceCtorEq,Int.reduceToNat,Int.reduceLT,Int.reduceLE,Int.reduceEq,Int.reduceNe,Int.reduceNeg,ustrA,ti3,ti9,ti34,ti36,ti48,ti273,ca101,ca115,ca186,ca189,ca204,ca256,cf,Tryz.results187,hi,enc_length,enc_take,enc_drop,frzL_enc,enc_closed,Option.map_some]
                    refine callE_intro (by simp only [zW,zX,zD,builtinA,isLeaf,const1,Nat.reduceAdd,Nat.reduceMul,Nat.reduceSub,Nat.reduceLT,Nat.reduceLeDiff,Nat.reduceEqDiff,Nat.reduceBEq,Nat.reduceBNe,reduceIte,reduceCtorEq,Int.reduceToNat,Int.reduceLT,Int.reduceLE,Int.reduceEq,Int.reduceNe,Int.reduceNeg,ustrA,hi,enc_length,enc_take,enc_drop,frzL_enc,enc_closed,Option.map_some,enc_mk,encs_nil,encs_length] <;> rfl) (spec_l1Fun (.mk k m n []) (toTy .num) _) ?_ rfl rfl
                    simp only [zW,zX,zD,builtinA,isLeaf,const1,Nat.reduceAdd,Nat.reduceMul,Nat.reduceSub,Nat.reduceLT,Nat.reduceLeDiff,Nat.reduceEqDiff,Nat.reduceBEq,Nat.reduceBNe,reduceIte,reduceCtorEq,Int.reduceToNat,Int.reduceLT,Int.reduceLE,Int.reduceEq,Int.reduceNe,Int.reduceNeg,ustrA,ti3,ti9,ti34,ti36,ti48,ti273,ca101,ca115,ca186,ca189,ca204,ca256,cf,Tryz.results187,hi,hi1,enc_length,enc_take,enc_drop,frzL_enc,enc_closed,Option.map_some,LoopK_eq]
                    refine ⟨⟨0 + 1,by omega,rfl,.inr ⟨_,rfl,?_⟩⟩,?_⟩
                    · simp only [sz,toTy,szs,List.length_cons,List.length_nil]; omega
                    · simp only [intOf]; omega
                  · simp only [wpc_skip,AThen_normal,wpc_block,wpc_seq,wpc_drawn]
                    refine .inr (drawE_intro [(false,0,1),(true,0,0),(true,1,1),(true,2,2)] [A.set i (Rd bs (p + 1)) ++ (.cells (enc (.mk k m n [])) :: .cells [.int .i64 0,.str [],.str [],.nils] :: (B ++ [.cells (enc τr)])),A.set i (Rd bs (p + 1)) ++ (.cells (enc (.mk k m n [])) :: .cells [.int .i64 0,.str [],.str [],.nils] :: (B ++ [.cells (enc τr)])),A.set i (Rd bs (p + 1)) ++ (.cells (enc (.mk k m n [])) :: .cells [.int .i64 0,.str [],.str [],.nils] :: (B ++ [.cells (enc τr)])),A.set i (Rd bs (p + 1)) ++ (.cells (enc (.mk k m n [])) :: .cells [.int .i64 0,.str [],.str [],.nils] :: (B ++ [.cells (enc (.mk 2 [] [] [τr,toTy .num]))]))] 3 rfl (by kernel_rfl) (by kernel_rfl) (by kernel_rfl) (by kernel_rfl) (by kernel_rfl) (by kernel_rfl) ?_)
                    simp only [zW,zX,zD,builtinA,isLeaf,const1,Nat.reduceAdd,Nat.reduceMul,Nat.reduceSub,Nat.reduceLT,Nat.reduceLeDiff,Nat.reduceEqDiff,Nat.reduceBEq,Nat.reduceBNe,reduceIte,reduceCtorEq,Int.reduceToNat,Int.reduceLT,Int.reduceLE,Int.reduceEq,Int.reduceNe,Int.reduceNeg,ustrA,ti3,ti9,ti34,ti36,ti48,ti273,ca101,ca115,ca186,ca189,ca204,ca256,cf,Tryz.results187,hi,enc_length,enc_take,enc_drop,frzL_enc,enc_closed,Option.map_some]
                    refine callE_intro (by simp only [zW,zX,zD,builtinA,isLeaf,const1,Nat.reduceAdd,Nat.reduceMul,Nat.reduceSub,Nat.reduceLT,Nat.reduceLeDiff,Nat.reduceEqDiff,Nat.reduceBEq,Nat.reduceBNe,reduceIte,reduceCtorEq,Int.reduceToNat,Int.reduceLT,Int.reduceLE,Int.reduceEq,Int.reduceNe,Int.reduceNeg,ustrA,enc_length,enc_take,enc_drop,frzL_enc,enc_closed,Option.map_some] <;> rfl) (spec_l1Num _) ?_ rfl rfl
                    simp only [zW,zX,zD,builtinA,isLeaf,const1,Nat.reduceAdd,Nat.reduceMul,Nat.reduceSub,Nat.reduceLT,Nat.reduceLeDiff,Nat.reduceEqDiff,Nat.reduceBEq,Nat.reduceBNe,reduceIte,reduceCtorEq,Int.reduceToNat,Int.reduceLT,Int.reduceLE,Int.reduceEq,Int.reduceNe,Int.reduceNeg,ustrA,ti3,ti9,ti34,ti36,ti48,ti273,ca101,ca115,ca186,ca189,ca204,ca256,cf,Tryz.results187,hi,enc_length,enc_take,enc_drop,frzL_enc,enc_closed,Option.map_some]
                    refine callE_intro (by simp only [zW,zX,zD,builtinA,isLeaf,const1,Nat.reduceAdd,Nat.reduceMul,Nat.reduceSub,Nat.reduceLT,Nat.reduceLeDiff,Nat.reduceEqDiff,Nat.reduceBEq,Nat.reduceBNe,reduceIte,reduceCtorEq,Int.reduceToNat,Int.reduceLT,Int.reduceLE,Int.reduceEq,Int.reduceNe,Int.reduceNeg,ustrA,hi,enc_length,enc_take,enc_drop,frzL_enc,enc_closed,Option.map_some] <;> rfl) (spec_l1Fun τr (toTy .num) _) ?_ rfl rfl
                    simp only [zW,zX,zD,builtinA,isLeaf,const1,Nat.reduceAdd,Nat.reduceMul,Nat.reduceSub,Nat.reduceLT,Nat.reduceLeDiff,Nat.reduceEqDiff,Nat.reduceBEq,Nat.reduceBNe,reduceIte,reduceCtorEq,Int.reduceToNat,Int.reduceLT,Int.reduceLE,Int.reduceEq,Int.reduceNe,Int.reduceNeg,ustrA,ti3,ti9,ti34,ti36,ti48,ti273,ca101,ca115,ca186,ca189,ca204,ca256,cf,Tryz.results187,hi,hi1,enc_length,enc_take,enc_drop,frzL_enc,enc_closed,Option.map_some,LoopK_eq]
                    refine ⟨⟨r + 1,by omega,rfl,.inr ⟨_,rfl,?_⟩⟩,?_⟩
                    · simp only [sz,toTy,szs,List.length_cons,List.length_nil] at hτr ⊢; omega
                    · simp only [intOf]; omega
                · have hr8 : r = 8:=by simp at h2; omega
                  subst hr8
                  rcases hx with ⟨h,_⟩ | ⟨τr,rfl,hτr⟩
                  · cases h
                  · simp only [zW,zX,zD,builtinA,isLeaf,const1,Nat.reduceAdd,Nat.reduceMul,Nat.reduceSub,Nat.reduceLT,Nat.reduceLeDiff,Nat.reduceEqDiff,Nat.reduceBEq,Nat.reduceBNe,reduceIte,reduceCtorEq,Int.reduceToNat,Int.reduceLT,Int.reduceLE,Int.reduceEq,Int.reduceNe,Int.reduceNeg,ustrA,ti3,ti9,ti34,ti36,ti48,ti273,ca101,ca115,ca186,ca189,ca204,ca256,cf,Tryz.results187,hi,enc_length,enc_take,enc_drop,frzL_enc,enc_closed,Option.map_some]
                    exact ⟨outer_set A _ i _ (rd_closed _ _ _),τr,p + 1,rfl,by omega,by omega,by omega,rfl⟩
            · simp only [zW,zX,zD,builtinA,isLeaf,const1,Nat.reduceAdd,Nat.reduceMul,Nat.reduceSub,Nat.reduceLT,Nat.reduceLeDiff,Nat.reduceEqDiff,Nat.reduceBEq,Nat.reduceBNe,reduceIte,reduceCtorEq,Int.reduceToNat,Int.reduceLT,Int.reduceLE,Int.reduceEq,Int.reduceNe,Int.reduceNeg,ustrA,ti3,ti9,ti34,ti36,ti48,ti273,ca101,ca115,ca186,ca189,ca204,ca256,cf,Tryz.results187,hi,enc_length,enc_take,enc_drop,frzL_enc,enc_closed,Option.map_some,decide_eq_false k4]
              refine ⟨outer_set A _ i _ (rd_closed _ _ _),.mk k m n [],p + 1,by rw [enc_mk,encs_nil],?_,by omega,by omega,rfl⟩
              omega
  · simp only [zW,zX,zD,builtinA,isLeaf,const1,Nat.reduceAdd,Nat.reduceMul,Nat.reduceSub,Nat.reduceLT,Nat.reduceLeDiff,Nat.reduceEqDiff,Nat.reduceBEq,Nat.reduceBNe,reduceIte,reduceCtorEq,Int.reduceToNat,Int.reduceLT,Int.reduceLE,Int.reduceEq,Int.reduceNe,Int.reduceNeg,ustrA,ti3,ti9,ti34,ti36,ti48,ti273,ca101,ca115,ca186,ca189,ca204,ca256,cf,Tryz.results187,hi,enc_length,enc_take,enc_drop,frzL_enc,enc_closed,Option.map_some]
    by_cases k0 : j1 = 0
    · simp only [zW,zX,zD,builtinA,isLeaf,const1,Nat.reduceAdd,Nat.reduceMul,Nat.reduceSub,Nat.reduceLT,Nat.reduceLeDiff,Nat.reduceEqDiff,Nat.reduceBEq,Nat.reduceBNe,reduceIte,reduceCtorEq,Int.reduceToNat,Int.reduceLT,Int.reduceLE,Int.reduceEq,Int.reduceNe,Int.reduceNeg,ustrA,ti3,ti9,ti34,ti36,ti48,ti273,ca101,ca115,ca186,ca189,ca204,ca256,cf,Tryz.results187,hi,hj,hg,enc_length,enc_take,enc_drop,frzL_enc,enc_closed,Option.map_some,decide_eq_true k0]
      refine ⟨by simp,?_⟩
      refine callK_intro (by simp only [zW,zX,zD,builtinA,isLeaf,const1,Nat.reduceAdd,Nat.reduceMul,Nat.reduceSub,Nat.reduceLT,Nat.reduceLeDiff,Nat.reduceEqDiff,Nat.reduceBEq,Nat.reduceBNe,reduceIte,reduceCtorEq,Int.reduceToNat,Int.reduceLT,Int.reduceLE,Int.reduceEq,Int.reduceNe,Int.reduceNeg,ustrA,hi,hj,hg]; rfl) (spec_num bs (p + 1) [0,4,1,2,3] i _ (by simp; omega) (hgA _ _) (by omega) (by simp)) ?_ rfl
      rintro v A' ⟨s,rfl,hs,rfl⟩
      simp only [zW,zX,zD,builtinA,isLeaf,const1,Nat.reduceAdd,Nat.reduceMul,Nat.reduceSub,Nat.reduceLT,Nat.reduceLeDiff,Nat.reduceEqDiff,Nat.reduceBEq,Nat.reduceBNe,reduceIte,reduceCtorEq,Int.reduceToNat,Int.reduceLT,Int.reduceLE,Int.reduceEq,Int.reduceNe,Int.reduceNeg,ustrA,ti3,ti9,ti34,ti36,ti48,ti273,ca101,ca115,ca186,ca189,ca204,ca256,cf,Tryz.results187,hi,hj,hg,enc_length,enc_take,enc_drop,frzL_enc,enc_closed,Option.map_some]
      refine ⟨outer_set A _ i _ (rd_closed _ _ _),.mk s m n ks,p + 1 + 1,by rw [enc_mk],?_,by omega,by omega,rfl⟩
      simp only [sz]; omega
    · simp only [zW,zX,zD,builtinA,isLeaf,const1,Nat.reduceAdd,Nat.reduceMul,Nat.reduceSub,Nat.reduceLT,Nat.reduceLeDiff,Nat.reduceEqDiff,Nat.reduceBEq,Nat.reduceBNe,reduceIte,reduceCtorEq,Int.reduceToNat,Int.reduceLT,Int.reduceLE,Int.reduceEq,Int.reduceNe,Int.reduceNeg,ustrA,ti3,ti9,ti34,ti36,ti48,ti273,ca101,ca115,ca186,ca189,ca204,ca256,cf,Tryz.results187,hi,hj,hg,enc_length,enc_take,enc_drop,frzL_enc,enc_closed,Option.map_some,decide_eq_false k0]
      by_cases k1 : j1 = 1
      · simp only [zW,zX,zD,builtinA,isLeaf,const1,Nat.reduceAdd,Nat.reduceMul,Nat.reduceSub,Nat.reduceLT,Nat.reduceLeDiff,Nat.reduceEqDiff,Nat.reduceBEq,Nat.reduceBNe,reduceIte,reduceCtorEq,Int.reduceToNat,Int.reduceLT,Int.reduceLE,Int.reduceEq,Int.reduceNe,Int.reduceNeg,ustrA,ti3,ti9,ti34,ti36,ti48,ti273,ca101,ca115,ca186,ca189,ca204,ca256,cf,Tryz.results187,hi,hj,hg,enc_length,enc_take,enc_drop,frzL_enc,enc_closed,Option.map_some,decide_eq_true k1]
        refine ⟨by simp,?_⟩
        refine callK_intro (by simp only [zW,zX,zD,builtinA,isLeaf,const1,Nat.reduceAdd,Nat.reduceMul,Nat.reduceSub,Nat.reduceLT,Nat.reduceLeDiff,Nat.reduceEqDiff,Nat.reduceBEq,Nat.reduceBNe,reduceIte,reduceCtorEq,Int.reduceToNat,Int.reduceLT,Int.reduceLE,Int.reduceEq,Int.reduceNe,Int.reduceNeg,ustrA,hi,hj,hg]; rfl) (spec_of bs (p + 1) [[],[116],[84],[116,117],[195,169]] i _ (by simp; omega) (hgA _ _) (by omega) (by simp)) ?_ rfl
        rintro v A' ⟨s,rfl,hs,rfl⟩
        simp only [zW,zX,zD,builtinA,isLeaf,const1,Nat.reduceAdd,Nat.reduceMul,Nat.reduceSub,Nat.reduceLT,Nat.reduceLeDiff,Nat.reduceEqDiff,Nat.reduceBEq,Nat.reduceBNe,reduceIte,reduceCtorEq,Int.reduceToNat,Int.reduceLT,Int.reduceLE,Int.reduceEq,Int.reduceNe,Int.reduceNeg,ustrA,ti3,ti9,ti34,ti36,ti48,ti273,ca101,ca115,ca186,ca189,ca204,ca256,cf,Tryz.results187,hi,hj,hg,enc_length,enc_take,enc_drop,frzL_enc,enc_closed,Option.map_some]
        refine ⟨outer_set A _ i _ (rd_closed _ _ _),.mk k m s ks,p + 1 + 1,by rw [enc_mk],?_,by omega,by omega,rfl⟩
        have hsl : s.length ≤ 2:=by simp at hs; rcases hs with rfl | rfl | rfl | rfl | rfl <;> simp
        simp only [sz] at hτ ⊢; omega
      · simp only [zW,zX,zD,builtinA,isLeaf,const1,Nat.reduceAdd,Nat.reduceMul,Nat.reduceSub,Nat.reduceLT,Nat.reduceLeDiff,Nat.reduceEqDiff,Nat.reduceBEq,Nat.reduceBNe,reduceIte,reduceCtorEq,Int.reduceToNat,Int.reduceLT,Int.reduceLE,Int.reduceEq,Int.reduceNe,Int.reduceNeg,ustrA,ti3,ti9,ti34,ti36,ti48,ti273,ca101,ca115,ca186,ca189,ca204,ca256,cf,Tryz.results187,hi,hj,hg,enc_length,enc_take,enc_drop,frzL_enc,enc_closed,Option.map_some,decide_eq_false k1]
        by_cases k2 : j1 = 2
        · simp only [zW,zX,zD,builtinA,isLeaf,const1,Nat.reduceAdd,Nat.reduceMul,Nat.reduceSub,Nat.reduceLT,Nat.reduceLeDiff,Nat.reduceEqDiff,Nat.reduceBEq,Nat.reduceBNe,reduceIte,reduceCtorEq,Int.reduceToNat,Int.reduceLT,Int.reduceLE,Int.reduceEq,Int.reduceNe,Int.reduceNeg,ustrA,ti3,ti9,ti34,ti36,ti48,ti273,ca101,ca115,ca186,ca189,ca204,ca256,cf,Tryz.results187,hi,hj,hg,enc_length,enc_take,enc_drop,frzL_enc,enc_closed,Option.map_some,decide_eq_true k2]
          refine ⟨by simp,?_⟩
          refine callK_intro (by simp only [zW,zX,zD,builtinA,isLeaf,const1,Nat.reduceAdd,Nat.reduceMul,Nat.reduceSub,Nat.reduceLT,Nat.reduceLeDiff,Nat.reduceEqDiff,Nat.reduceBEq,Nat.reduceBNe,reduceIte,reduceCtorEq,Int.reduceToNat,Int.reduceLT,Int.reduceLE,Int.reduceEq,Int.reduceNe,Int.reduceNeg,ustrA,hi,hj,hg]; rfl) (spec_of bs (p + 1) [[65],[97],[73],[65,66]] i _ (by simp; omega) (hgA _ _) (by omega) (by simp)) ?_ rfl
          rintro v A' ⟨s,rfl,hs,rfl⟩
          simp only [zW,zX,zD,builtinA,isLeaf,const1,Nat.reduceAdd,Nat.reduceMul,Nat.reduceSub,Nat.reduceLT,Nat.reduceLeDiff,Nat.reduceEqDiff,Nat.reduceBEq,Nat.reduceBNe,reduceIte,reduceCtorEq,Int.reduceToNat,Int.reduceLT,Int.reduceLE,Int.reduceEq,Int.reduceNe,Int.reduceNeg,ustrA,ti3,ti9,ti34,ti36,ti48,ti273,ca101,ca115,ca186,ca189,ca204,ca256,cf,Tryz.results187,hi,hj,hg,enc_length,enc_take,enc_drop,frzL_enc,enc_closed,Option.map_some]
          refine ⟨outer_set A _ i _ (rd_closed _ _ _),.mk k s n ks,p + 1 + 1,by rw [enc_mk],?_,by omega,by omega,rfl⟩
          have hsl : s.length ≤ 2:=by simp at hs; rcases hs with rfl | rfl | rfl | rfl <;> simp
          simp only [sz] at hτ ⊢; omega
        · simp only [zW,zX,zD,builtinA,isLeaf,const1,Nat.reduceAdd,Nat.reduceMul,Nat.reduceSub,Nat.reduceLT,Nat.reduceLeDiff,Nat.reduceEqDiff,Nat.reduceBEq,Nat.reduceBNe,reduceIte,reduceCtorEq,Int.reduceToNat,Int.reduceLT,Int.reduceLE,Int.reduceEq,Int.reduceNe,Int.reduceNeg,ustrA,ti3,ti9,ti34,ti36,ti48,ti273,ca101,ca115,ca186,ca189,ca204,ca256,cf,Tryz.results187,hi,hj,hg,enc_length,enc_take,enc_drop,frzL_enc,enc_closed,Option.map_some,decide_eq_false k2]
          by_cases k3 : j1 = 3
          · simp only [decide_eq_true k3,CondK_true]
            simp only [wpc_skip,AThen_normal,wpc_block,wpc_seq,wpc_drawn]
            refine .inr (drawE_intro [(false,0,2),(false,0,2),(true,0,0),(true,1,1),(true,2,2),(false,3,3),(true,3,3)] [A.set i (Rd bs (p + 1)) ++ (.cells (enc (.mk k m n ks)) :: .cells [.int .i64 0,.str [],.str [],.nils] :: (B ++ [.cells [.int .i64 k,.str m,.str n,.own (A.length + (j + 2))]])),A.set i (Rd bs (p + 1)) ++ (.cells (enc (.mk k m n ks)) :: .cells [.int .i64 0,.str [],.str [],.nils] :: (B ++ [.cells [.int .i64 k,.str m,.str n,.own (A.length + (j + 2))]])),A.set i (Rd bs (p + 1)) ++ (.cells (enc (.mk k m n ks)) :: .cells [.int .i64 0,.str [],.str [],.nils] :: (B ++ [.cells [.int .i64 k,.str m,.str n,.own (A.length + (j + 2))],.row 4 [enc (toTy .num)] 0])),A.set i (Rd bs (p + 1)) ++ (.cells (enc (.mk k m n ks)) :: .cells [.int .i64 0,.str [],.str [],.nils] :: (B.set j .dead ++ [.cells [.int .i64 k,.str m,.str n,.own (A.length + (j + 2))],.row 4 [enc (toTy .num)] 0,.row 4 (encs ks ++ [enc (toTy .num)]) 0])),A.set i (Rd bs (p + 1)) ++ (.cells (enc (.mk k m n ks)) :: .cells [.int .i64 0,.str [],.str [],.nils] :: (B.set j .dead ++ [.cells [.int .i64 k,.str m,.str n,.own (A.length + (B.length + 1 + 1 + 1 + 1))],.row 4 [enc (toTy .num)] 0,.row 4 (encs ks ++ [enc (toTy .num)]) 0]))] 4 rfl (by kernel_rfl) (by kernel_rfl) (by kernel_rfl) (by kernel_rfl) (by kernel_rfl) (by kernel_rfl) ?_)
            simp only [zW,zX,zD,builtinA,isLeaf,const1,Nat.reduceAdd,Nat.reduceMul,Nat.reduceSub,Nat.reduceLT,Nat.reduceLeDiff,Nat.reduceEqDiff,Nat.reduceBEq,Nat.reduceBNe,reduceIte,reduceCtorEq,Int.reduceToNat,Int.reduceLT,Int.reduceLE,Int.reduceEq,Int.reduceNe,Int.reduceNeg,ustrA,ti3,ti9,ti34,ti36,ti48,ti273,ca101,ca115,ca186,ca189,ca204,ca256,cf,Tryz.results187,hi,hj,hg,enc_length,enc_take,enc_drop,frzL_enc,enc_closed,Option.map_some,enc_mk]
            refine callE_intro (by simp only [zW,zX,zD,builtinA,isLeaf,const1,Nat.reduceAdd,Nat.reduceMul,Nat.reduceSub,Nat.reduceLT,Nat.reduceLeDiff,Nat.reduceEqDiff,Nat.reduceBEq,Nat.reduceBNe,reduceIte,reduceCtorEq,Int.reduceToNat,Int.reduceLT,Int.reduceLE,Int.reduceEq,Int.reduceNe,Int.reduceNeg,ustrA,enc_length,enc_take,enc_drop,frzL_enc,enc_closed,Option.map_some] <;> rfl) (spec_l1Num _) ?_ rfl rfl
            simp only [zW,zX,zD,builtinA,isLeaf,const1,Nat.reduceAdd,Nat.reduceMul,Nat.reduceSub,Nat.reduceLT,Nat.reduceLeDiff,Nat.reduceEqDiff,Nat.reduceBEq,Nat.reduceBNe,reduceIte,reduceCtorEq,Int.reduceToNat,Int.reduceLT,Int.reduceLE,Int.reduceEq,Int.reduceNe,Int.reduceNeg,ustrA,ti3,ti9,ti34,ti36,ti48,ti273,ca101,ca115,ca186,ca189,ca204,ca256,cf,Tryz.results187,hi,hj,hg,enc_length,enc_take,enc_drop,frzL_enc,enc_closed,Option.map_some]
            have hsn : encs ks ++ [enc (toTy .num)] = encs (ks ++ [toTy .num]):=by rw [encs_map,encs_map]; simp
            rw [hsn]
            refine ⟨fun v hv=>enc_leaf _ v hv,⟨fun r hr=>by rw [List.mem_singleton.1 hr,enc_length],by rw [encs_length]; simp only [sz] at hτ; omega⟩,outer_set A _ i _ (rd_closed _ _ _),.mk k m n (ks ++ [toTy .num]),p + 1,by rw [enc_mk],?_,by omega,by omega,rfl⟩
            simp only [sz,sz_snoc,toTy,szs,List.length_append,List.length_singleton,List.length_nil]; omega
          · simp only [zW,zX,zD,builtinA,isLeaf,const1,Nat.reduceAdd,Nat.reduceMul,Nat.reduceSub,Nat.reduceLT,Nat.reduceLeDiff,Nat.reduceEqDiff,Nat.reduceBEq,Nat.reduceBNe,reduceIte,reduceCtorEq,Int.reduceToNat,Int.reduceLT,Int.reduceLE,Int.reduceEq,Int.reduceNe,Int.reduceNeg,ustrA,ti3,ti9,ti34,ti36,ti48,ti273,ca101,ca115,ca186,ca189,ca204,ca256,cf,Tryz.results187,hi,hj,hg,enc_length,enc_take,enc_drop,frzL_enc,enc_closed,Option.map_some,decide_eq_false k3]
            by_cases k4 : j1 = 4
            · simp only [zW,zX,zD,builtinA,isLeaf,const1,Nat.reduceAdd,Nat.reduceMul,Nat.reduceSub,Nat.reduceLT,Nat.reduceLeDiff,Nat.reduceEqDiff,Nat.reduceBEq,Nat.reduceBNe,reduceIte,reduceCtorEq,Int.reduceToNat,Int.reduceLT,Int.reduceLE,Int.reduceEq,Int.reduceNe,Int.reduceNeg,ustrA,ti3,ti9,ti34,ti36,ti48,ti273,ca101,ca115,ca186,ca189,ca204,ca256,cf,Tryz.results187,hi,hj,hg,enc_length,enc_take,enc_drop,frzL_enc,enc_closed,Option.map_some,decide_eq_true k4]
              refine aloop_intro [4,5,6] (fun e A'=>∃ r,r ≤ 8 ∧ e = [(4,.ptr (A.length + 1) 0),(5,.ptr (A.length + (B.length + 1 + 1)) 0),(6,.int .i64 (r : Nat))] ∧ ((r = 0 ∧ A' = A.set i (Rd bs (p + 1)) ++ (.cells (enc (.mk k m n ks)) :: .cells [.int .i64 0,.str [],.str [],.nils] :: (B ++ [.cells [.int .i64 k,.str m,.str n,.own (A.length + (j + 2))]]))) ∨ (∃ τr,A' = A.set i (Rd bs (p + 1)) ++ (.cells (enc (.mk k m n ks)) :: .cells [.int .i64 0,.str [],.str [],.nils] :: (B.set j (.row 4 (encs ks) ks.length) ++ [.cells (enc τr)])) ∧ sz τr ≤ sz (.mk k m n ks) + 2 * r))) (fun e _=>8 - (intOf (Abs.look 6 e)).toNat) ?_ ?_
              · simp only [zW,zX,zD,builtinA,isLeaf,const1,Nat.reduceAdd,Nat.reduceMul,Nat.reduceSub,Nat.reduceLT,Nat.reduceLeDiff,Nat.reduceEqDiff,Nat.reduceBEq,Nat.reduceBNe,reduceIte,reduceCtorEq,Int.reduceToNat,Int.reduceLT,Int.reduceLE,Int.reduceEq,Int.reduceNe,Int.reduceNeg,ustrA,ti3,ti9,ti34,ti36,ti48,ti273,ca101,ca115,ca186,ca189,ca204,ca256,cf,Tryz.results187]
                exact ⟨0,by omega,rfl,.inl rfl⟩
              · rintro e A' ⟨r,hr,rfl,hx⟩
                simp only [zW,zX,zD,builtinA,isLeaf,const1,Nat.reduceAdd,Nat.reduceMul,Nat.reduceSub,Nat.reduceLT,Nat.reduceLeDiff,Nat.reduceEqDiff,Nat.reduceBEq,Nat.reduceBNe,reduceIte,reduceCtorEq,Int.reduceToNat,Int.reduceLT,Int.reduceLE,Int.reduceEq,Int.reduceNe,Int.reduceNeg,ustrA,ti3,ti9,ti34,ti36,ti48,ti273,ca101,ca115,ca186,ca189,ca204,ca256,cf,Tryz.results187,hi,hj,hg]
                have hi1 : IntKind.i64.wrap ((r : Int) + 1) = ((r + 1 : Nat) : Int):=by rw [wrap64 (by omega) (by omega)]; rfl
                refine condK_intro (fun h2=>?_) (fun h2=>?_)
                · have hr2 : r < 8:=by simp at h2; omega
                  rcases hx with ⟨rfl,rfl⟩ | ⟨τr,rfl,hτr⟩
                  · simp only [wpc_skip,AThen_normal,wpc_block,wpc_seq,wpc_drawn]
                    refine .inr (drawE_intro [(false,0,1),(true,0,0),(true,1,1),(true,2,2)] [A.set i (Rd bs (p + 1)) ++ (.cells (enc (.mk k m n ks)) :: .cells [.int .i64 0,.str [],.str [],.nils] :: (B ++ [.cells [.int .i64 k,.str m,.str n,.own (A.length + (j + 2))]])),A.set i (Rd bs (p + 1)) ++ (.cells (enc (.mk k m n ks)) :: .cells [.int .i64 0,.str [],.str [],.nils] :: (B ++ [.cells [.int .i64 k,.str m,.str n,.own (A.length + (j + 2))]])),A.set i (Rd bs (p + 1)) ++ (.cells (enc (.mk k m n ks)) :: .cells [.int .i64 0,.str [],.str [],.nils] :: (B.set j (.row 4 (encs ks) ks.length) ++ [.cells [.int .i64 k,.str m,.str n,.own (A.length + (j + 2))]])),A.set i (Rd bs (p + 1)) ++ (.cells (enc (.mk k m n ks)) :: .cells [.int .i64 0,.str [],.str [],.nils] :: (B.set j (.row 4 (encs ks) ks.length) ++ [.cells (enc (.mk 2 [] [] [.mk k m n ks,toTy .num]))]))] 3 rfl (by kernel_rfl) (by kernel_rfl) (by kernel_rfl) (by kernel_rfl) (by kernel_rfl) (by kernel_rfl) ?_)
                    simp only [zW,zX,zD,builtinA,isLeaf,const1,Nat.reduceAdd,Nat.reduceMul,Nat.reduceSub,Nat.reduceLT,Nat.reduceLeDiff,Nat.reduceEqDiff,Nat.reduceBEq,Nat.reduceBNe,reduceIte,reduceCtorEq,Int.reduceToNat,Int.reduceLT,Int.reduceLE,Int.reduceEq,Int.reduceNe,Int.reduceNeg,ustrA,ti3,ti9,ti34,ti36,ti48,ti273,ca101,ca115,ca186,ca189,ca204,ca256,cf,Tryz.results187,hi,hj,hg,enc_length,enc_take,enc_drop,frzL_enc,enc_closed,Option.map_some]
                    refine callE_intro (by simp only [zW,zX,zD,builtinA,isLeaf,const1,Nat.reduceAdd,Nat.reduceMul,Nat.reduceSub,Nat.reduceLT,Nat.reduceLeDiff,Nat.reduceEqDiff,Nat.reduceBEq,Nat.reduceBNe,reduceIte,reduceCtorEq,Int.reduceToNat,Int.reduceLT,Int.reduceLE,Int.reduceEq,Int.reduceNe,Int.reduceNeg,ustrA,enc_length,enc_take,enc_drop,frzL_enc,enc_closed,Option.map_some] <;> rfl) (spec_l1Num _) ?_ rfl rfl
                    simp only [zW,zX,zD,builtinA,isLeaf,const1,Nat.reduceAdd,Nat.reduceMul,Nat.reduceSub,Nat.reduceLT,Nat.reduceLeDiff,Nat.reduceEqDiff,Nat.reduceBEq,Nat.reduceBNe,reduceIte,reduceCtorEq,Int.reduceToNat,Int.reduceLT,Int.reduceLE,Int.reduceEq,Int.reduceNe,Int.reduceNeg,ustrA,ti3,ti9,ti34,ti36,ti48,ti273,ca101,ca115,ca186,ca189,ca204,ca256,cf,Tryz.results187,hi,hj,hg,enc_length,enc_take,enc_drop,frzL_enc,enc_closed,Option.map_some]
                    refine callE_intro (by simp only [zW,zX,zD,builtinA,isLeaf,const1,Nat.reduceAdd,Nat.reduceMul,Nat.reduceSub,Nat.reduceLT,Nat.reduceLeDiff,Nat.reduceEqDiff,Nat.reduceBEq,Nat.reduceBNe,reduceIte,reduceCtorEq,Int.reduceToNat,Int.reduceLT,Int.reduceLE,Int.reduceEq,Int.reduceNe,Int.reduceNeg,ustrA,hi,hj,hg,enc_length,enc_take,enc_drop,frzL_enc,enc_closed,Option.map_some,enc_mk,encs_nil,encs_length] <;> rfl) (spec_l1Fun (.mk k m n ks) (toTy .num) _) ?_ rfl rfl
                    simp only [zW,zX,zD,builtinA,isLeaf,const1,Nat.reduceAdd,Nat.reduceMul,Nat.reduceSub,Nat.reduceLT,Nat.reduceLeDiff,Nat.reduceEqDiff,Nat.reduceBEq,Nat.reduceBNe,reduceIte,reduceCtorEq,Int.reduceToNat,Int.reduceLT,Int.reduceLE,Int.reduceEq,Int.reduceNe,Int.reduceNeg,ustrA,ti3,ti9,ti34,ti36,ti48,ti273,ca101,ca115,ca186,ca189,ca204,ca256,cf,Tryz.results187,hi,hj,hg,hi1,enc_length,enc_take,enc_drop,frzL_enc,enc_closed,Option.map_some,LoopK_eq]
                    refine ⟨⟨0 + 1,by omega,rfl,.inr ⟨_,rfl,?_⟩⟩,?_⟩
                    · simp only [sz,toTy,szs,List.length_cons,List.length_nil]; omega
                    · simp only [intOf]; omega
                  · simp only [wpc_skip,AThen_normal,wpc_block,wpc_seq,wpc_drawn]
                    refine .inr (drawE_intro [(false,0,1),(true,0,0),(true,1,1),(true,2,2)] [A.set i (Rd bs (p + 1)) ++ (.cells (enc (.mk k m n ks)) :: .cells [.int .i64 0,.str [],.str [],.nils] :: (B.set j (.row 4 (encs ks) ks.length) ++ [.cells (enc τr)])),A.set i (Rd bs (p + 1)) ++ (.cells (enc (.mk k m n ks)) :: .cells [.int .i64 0,.str [],.str [],.nils] :: (B.set j (.row 4 (encs ks) ks.length) ++ [.cells (enc τr)])),A.set i (Rd bs (p + 1)) ++ (.cells (enc (.mk k m n ks)) :: .cells [.int .i64 0,.str [],.str [],.nils] :: (B.set j (.row 4 (encs ks) ks.length) ++ [.cells (enc τr)])),A.set i (Rd bs (p + 1)) ++ (.cells (enc (.mk k m n ks)) :: .cells [.int .i64 0,.str [],.str [],.nils] :: (B.set j (.row 4 (encs ks) ks.length) ++ [.cells (enc (.mk 2 [] [] [τr,toTy .num]))]))] 3 rfl (by kernel_rfl) (by kernel_rfl) (by kernel_rfl) (by kernel_rfl) (by kernel_rfl) (by kernel_rfl) ?_)
                    simp only [zW,zX,zD,builtinA,isLeaf,const1,Nat.reduceAdd,Nat.reduceMul,Nat.reduceSub,Nat.reduceLT,Nat.reduceLeDiff,Nat.reduceEqDiff,Nat.reduceBEq,Nat.reduceBNe,reduceIte,reduceCtorEq,Int.reduceToNat,Int.reduceLT,Int.reduceLE,Int.reduceEq,Int.reduceNe,Int.reduceNeg,ustrA,ti3,ti9,ti34,ti36,ti48,ti273,ca101,ca115,ca186,ca189,ca204,ca256,cf,Tryz.results187,hi,hj,hg,enc_length,enc_take,enc_drop,frzL_enc,enc_closed,Option.map_some]
                    refine callE_intro (by simp only [zW,zX,zD,builtinA,isLeaf,const1,Nat.reduceAdd,Nat.reduceMul,Nat.reduceSub,Nat.reduceLT,Nat.reduceLeDiff,Nat.reduceEqDiff,Nat.reduceBEq,Nat.reduceBNe,reduceIte,reduceCtorEq,Int.reduceToNat,Int.reduceLT,Int.reduceLE,Int.reduceEq,Int.reduceNe,Int.reduceNeg,ustrA,enc_length,enc_take,enc_drop,frzL_enc,enc_closed,Option.map_some] <;> rfl) (spec_l1Num _) ?_ rfl rfl
                    simp only [zW,zX,zD,builtinA,isLeaf,const1,Nat.reduceAdd,Nat.reduceMul,Nat.reduceSub,Nat.reduceLT,Nat.reduceLeDiff,Nat.reduceEqDiff,Nat.reduceBEq,Nat.reduceBNe,reduceIte,reduceCtorEq,Int.reduceToNat,Int.reduceLT,Int.reduceLE,Int.reduceEq,Int.reduceNe,Int.reduceNeg,ustrA,ti3,ti9,ti34,ti36,ti48,ti273,ca101,ca115,ca186,ca189,ca204,ca256,cf,Tryz.results187,hi,hj,hg,enc_length,enc_take,enc_drop,frzL_enc,enc_closed,Option.map_some]
                    refine callE_intro (by simp only [zW,zX,zD,builtinA,isLeaf,const1,Nat.reduceAdd,Nat.reduceMul,Nat.reduceSub,Nat.reduceLT,Nat.reduceLeDiff,Nat.reduceEqDiff,Nat.reduceBEq,Nat.reduceBNe,reduceIte,reduceCtorEq,Int.reduceToNat,Int.reduceLT,Int.reduceLE,Int.reduceEq,Int.reduceNe,Int.reduceNeg,ustrA,hi,hj,hg,enc_length,enc_take,enc_drop,frzL_enc,enc_closed,Option.map_some] <;> rfl) (spec_l1Fun τr (toTy .num) _) ?_ rfl rfl
                    simp only [zW,zX,zD,builtinA,isLeaf,const1,Nat.reduceAdd,Nat.reduceMul,Nat.reduceSub,Nat.reduceLT,Nat.reduceLeDiff,Nat.reduceEqDiff,Nat.reduceBEq,Nat.reduceBNe,reduceIte,reduceCtorEq,Int.reduceToNat,Int.reduceLT,Int.reduceLE,Int.reduceEq,Int.reduceNe,Int.reduceNeg,ustrA,ti3,ti9,ti34,ti36,ti48,ti273,ca101,ca115,ca186,ca189,ca204,ca256,cf,Tryz.results187,hi,hj,hg,hi1,enc_length,enc_take,enc_drop,frzL_enc,enc_closed,Option.map_some,LoopK_eq]
                    refine ⟨⟨r + 1,by omega,rfl,.inr ⟨_,rfl,?_⟩⟩,?_⟩
                    · simp only [sz,toTy,szs,List.length_cons,List.length_nil] at hτr ⊢; omega
                    · simp only [intOf]; omega
                · have hr8 : r = 8:=by simp at h2; omega
                  subst hr8
                  rcases hx with ⟨h,_⟩ | ⟨τr,rfl,hτr⟩
                  · cases h
                  · simp only [zW,zX,zD,builtinA,isLeaf,const1,Nat.reduceAdd,Nat.reduceMul,Nat.reduceSub,Nat.reduceLT,Nat.reduceLeDiff,Nat.reduceEqDiff,Nat.reduceBEq,Nat.reduceBNe,reduceIte,reduceCtorEq,Int.reduceToNat,Int.reduceLT,Int.reduceLE,Int.reduceEq,Int.reduceNe,Int.reduceNeg,ustrA,ti3,ti9,ti34,ti36,ti48,ti273,ca101,ca115,ca186,ca189,ca204,ca256,cf,Tryz.results187,hi,hj,hg,enc_length,enc_take,enc_drop,frzL_enc,enc_closed,Option.map_some]
                    exact ⟨outer_set A _ i _ (rd_closed _ _ _),τr,p + 1,rfl,by omega,by omega,by omega,rfl⟩
            · simp only [zW,zX,zD,builtinA,isLeaf,const1,Nat.reduceAdd,Nat.reduceMul,Nat.reduceSub,Nat.reduceLT,Nat.reduceLeDiff,Nat.reduceEqDiff,Nat.reduceBEq,Nat.reduceBNe,reduceIte,reduceCtorEq,Int.reduceToNat,Int.reduceLT,Int.reduceLE,Int.reduceEq,Int.reduceNe,Int.reduceNeg,ustrA,ti3,ti9,ti34,ti36,ti48,ti273,ca101,ca115,ca186,ca189,ca204,ca256,cf,Tryz.results187,hi,hj,hg,enc_length,enc_take,enc_drop,frzL_enc,enc_closed,Option.map_some,decide_eq_false k4]
              refine ⟨outer_set A _ i _ (rd_closed _ _ _),.mk k m n ks,p + 1,by rw [enc_mk],?_,by omega,by omega,rfl⟩
              omega
end Go.Proofs.YtnjdbgiincliaaaGreat
/- Items of signatures as data. -/
set_option linter.unusedVariables false
set_option linter.unusedSimpArgs false
namespace Go.Proofs.YtnjdbgiincliaaaGreat
open Go.Abs
structure SigI where
  kind : Int
  name : List UInt8
  typ : Ty
def si0 : SigI:=⟨0,[],ty0⟩
def sE (x : SigI) : List AV:=.int .i64 x.kind :: .str x.name :: enc x.typ
def sEs (l : List SigI) : List (List AV):=l.map sE
def szI (x : SigI) : Nat:=x.name.length + sz x.typ
def szIs (l : List SigI) : Nat:=(l.map szI).sum
def SigI.Ok (x : SigI) : Prop:=x.name.length < 2 ^ 63 ∧ x.typ.Ok
def zsi : List AV:=[.int .i64 0,.str [],.int .i64 0,.str [],.str [],.slice []]
theorem sE_length (x : SigI) : (sE x).length = 6:=by simp [sE,enc_length]
theorem sE_take (x : SigI) : List.take 6 (sE x) = sE x:=List.take_of_length_le (by rw [sE_length]; exact Nat.le_refl _)
theorem sE_leaf (x : SigI) : ∀ v ∈ sE x,isLeaf v = true:=by
  intro v hv
  simp only [sE,List.mem_cons] at hv
  rcases hv with rfl | rfl | hv
  · rfl
  · rfl
  · exact enc_leaf _ v hv
theorem frzL_leaf : ∀ (l : List AV) (A : List Box),(∀ v ∈ l,isLeaf v = true) → frzL l A = some (l,A)
  | [],A,_=>rfl
  | v :: l,A,h=>by
    have h1 : frz1 v A = some (v,A):=by
      have:=h v (by simp)
      cases v <;> simp [isLeaf] at this <;> rfl
    simp only [frzL,h1,frzL_leaf l A fun x hx=>h x (by simp [hx])]
theorem frzL_sE (x : SigI) (A : List Box) : frzL (sE x) A = some (sE x,A):=frzL_leaf _ _ (sE_leaf x)
theorem sEs_length (l : List SigI) : (sEs l).length = l.length:=by simp [sEs]
theorem sEs_getD {l : List SigI} {i : Nat} (h : i < l.length) : (sEs l).getD i [] = sE (l.getD i si0):=by simp [sEs,List.getD,h]
theorem si_mem {l : List SigI} {i : Nat} (h : i < l.length) : l.getD i si0 ∈ l:=by simp [List.getD,h]
theorem si_take {l : List SigI} {i : Nat} (h : i < l.length) : l.take (i + 1) = l.take i ++ [l.getD i si0]:=by
  rw [List.take_add_one]; simp [List.getD,h]
theorem szIs_mem {x : SigI} {l : List SigI} (h : x ∈ l) : szI x ≤ szIs l:=by
  induction l with
  | nil=>simp at h
  | cons y l ih =>
    simp only [szIs,List.map_cons,List.sum_cons] at ih ⊢
    rcases List.mem_cons.1 h with rfl | h
    · omega
    · have:=ih h; omega
end Go.Proofs.YtnjdbgiincliaaaGreat
