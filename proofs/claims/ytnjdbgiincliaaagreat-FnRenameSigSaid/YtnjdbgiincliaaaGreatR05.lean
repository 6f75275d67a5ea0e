/- OkSz, SpCopyT, Zero0, Frk. -/
import Derived.Test.YtnjdbgiincliaaaGreatR04
import Derived.Test.YtnjdbgiincliaaaGreatAbsW3
/- Types that are small enough. -/
set_option linter.unusedVariables false
namespace Go.Proofs.YtnjdbgiincliaaaGreat
mutual
theorem okSz : ∀ t,sz t ≤ 1048576 → Ty.Ok t
  | .mk k m n ks,h=>by
    rw [sz] at h
    exact .mk (by omega) (by omega) (by omega) (oksSz ks (by omega))
theorem oksSz : ∀ l,szs l ≤ 1048576 → ∀ t ∈ l,Ty.Ok t
  | [],_=>by simp
  | t :: l,h=>by
    rw [szs] at h
    intro u hu
    rcases List.mem_cons.1 hu with e | hu
    · rw [e]; exact okSz t (by omega)
    · exact oksSz l (by omega) u hu
end
end Go.Proofs.YtnjdbgiincliaaaGreat
/- The model's copies of types; sizes of types. -/
set_option linter.unusedVariables false
set_option linter.unusedSimpArgs false
namespace Go.Proofs.YtnjdbgiincliaaaGreat
open Go.Abs
theorem sb_closed (t : Ty) (n : Nat) : (enc t).all (closed1 n) = true:=by cases t; rw [enc]; rfl
theorem sb_drop (t : Ty) : List.drop 4 (enc t) = []:=by cases t; rw [enc]; rfl
set_option maxRecDepth 100000 in
theorem spec_l1Copy0 (τ : Ty) (hτ : sz τ ≤ 1048576) : ∀ (A : List Box),ACalls Tryz.prog 204 [.agg (enc τ)] A (fun r A'=>r = .agg (enc τ) ∧ A' = A):=by
  induction τ using Ty.ind with
  | h k m n ks ih =>
    intro A
    have hks : ks.length ≤ 1048576:=by rw [sz] at hτ; omega
    have hok : ∀ t ∈ ks,sz t ≤ 1048576:=fun t ht=>by rw [sz] at hτ; have:=szs_mem ht; omega
    rw [enc]
    refine acalls_enter (cf:=cf 31 [0,1,2,3,4,16]) foll Tryz.func204 Tryz.ntmps204 (by simp [cf]) ?_
    simp only [Tryz.f204,EnterK_some,zW,zX,zD,builtinA,isLeaf,const1,Nat.reduceAdd,Nat.reduceMul,Nat.reduceSub,Nat.reduceLT,Nat.reduceLeDiff,Nat.reduceEqDiff,Nat.reduceBEq,Nat.reduceBNe,reduceIte,reduceCtorEq,Int.reduceToNat,Int.reduceLT,Int.reduceLE,Int.reduceEq,Int.reduceNe,Int.reduceNeg,ustrA,ti3,ti9,ti34,ti36,ca204,cf,Tryz.results204]
    refine aloop_intro [1,2,3,4] (fun e A'=>∃ i B x,i ≤ ks.length ∧ e = [(1,.ptr A.length 0),(2,.ptr (A.length + 1) 0),(3,.ptr (A.length + 2) 0),(4,.int .i64 i)] ∧ A' = A ++ (.cells [.int .i64 k,.str m,.str n,.slice (encs ks)] :: .cells [.int .i64 0,.str [],.str [],.nils] :: .cells [.int .i64 k,.str m,.str n,x] :: B) ∧
      ((i = 0 ∧ x = .nils ∧ B = []) ∨ (∃ j,x = .own (A.length + (j + 3)) ∧ j < B.length ∧ B.getD j .dead = .row 4 (encs (ks.take i)) 0))) (fun e _=>ks.length - (intOf (Abs.look 4 e)).toNat) ?_ ?_
    · simp only [zW,zX,zD,builtinA,isLeaf,const1,Nat.reduceAdd,Nat.reduceMul,Nat.reduceSub,Nat.reduceLT,Nat.reduceLeDiff,Nat.reduceEqDiff,Nat.reduceBEq,Nat.reduceBNe,reduceIte,reduceCtorEq,Int.reduceToNat,Int.reduceLT,Int.reduceLE,Int.reduceEq,Int.reduceNe,Int.reduceNeg,ustrA,ti3,ti9,ti34,ti36,ca204,cf,Tryz.results204]
      exact ⟨0,[],.nils,by omega,rfl,rfl,.inl ⟨rfl,rfl,rfl⟩⟩
    · rintro e A' ⟨i,B,x,hi,rfl,rfl,hx⟩
      simp only [zW,zX,zD,builtinA,isLeaf,const1,Nat.reduceAdd,Nat.reduceMul,Nat.reduceSub,Nat.reduceLT,Nat.reduceLeDiff,Nat.reduceEqDiff,Nat.reduceBEq,Nat.reduceBNe,reduceIte,reduceCtorEq,Int.reduceToNat,Int.reduceLT,Int.reduceLE,Int.reduceEq,Int.reduceNe,Int.reduceNeg,ustrA,ti3,ti9,ti34,ti36,ca204,cf,Tryz.results204,encs_length]
      refine condK_intro (fun h2=>?_) (fun h2=>?_)
      · have hi2 : i < ks.length:=by simpa using h2
        have he:=encs_getD hi2
        have hmm:=getD_mem hi2
        have hi1 : IntKind.i64.wrap ((i : Int) + 1) = ((i + 1 : Nat) : Int):=by rw [wrap64 (by omega) (by omega)]; rfl
        rcases hx with ⟨rfl,rfl,rfl⟩ | ⟨j,rfl,hj,hg⟩
        · simp only [wpc_skip,AThen_normal,wpc_block,wpc_seq,wpc_drawn]
          refine .inr (drawE_intro [(false,0,2),(false,0,2),(false,0,0),(false,0,0),(false,0,0),(false,0,0),(false,0,0),(true,0,0),(true,1,1),(true,2,2),(false,3,3),(true,3,3)] [A ++ [.cells [.int .i64 k,.str m,.str n,.slice (encs ks)],.cells [.int .i64 0,.str [],.str [],.nils],.cells [.int .i64 k,.str m,.str n,.nils]],A ++ [.cells [.int .i64 k,.str m,.str n,.slice (encs ks)],.cells [.int .i64 0,.str [],.str [],.nils],.cells [.int .i64 k,.str m,.str n,.nils]],A ++ [.cells [.int .i64 k,.str m,.str n,.slice (encs ks)],.cells [.int .i64 0,.str [],.str [],.nils],.cells [.int .i64 k,.str m,.str n,.nils],.row 4 [enc (ks.getD 0 ty0)] 0],A ++ [.cells [.int .i64 k,.str m,.str n,.slice (encs ks)],.cells [.int .i64 0,.str [],.str [],.nils],.cells [.int .i64 k,.str m,.str n,.nils],.row 4 [enc (ks.getD 0 ty0)] 0,.row 4 [enc (ks.getD 0 ty0)] 0],A ++ [.cells [.int .i64 k,.str m,.str n,.slice (encs ks)],.cells [.int .i64 0,.str [],.str [],.nils],.cells [.int .i64 k,.str m,.str n,.own (A.length + 4)],.row 4 [enc (ks.getD 0 ty0)] 0,.row 4 [enc (ks.getD 0 ty0)] 0]] 4 rfl (by kernel_rfl) (by kernel_rfl) (by kernel_rfl) (by kernel_rfl) (by kernel_rfl) (by kernel_rfl) ?_)
          simp only [zW,zX,zD,builtinA,isLeaf,const1,Nat.reduceAdd,Nat.reduceMul,Nat.reduceSub,Nat.reduceLT,Nat.reduceLeDiff,Nat.reduceEqDiff,Nat.reduceBEq,Nat.reduceBNe,reduceIte,reduceCtorEq,Int.reduceToNat,Int.reduceLT,Int.reduceLE,Int.reduceEq,Int.reduceNe,Int.reduceNeg,ustrA,ti3,ti9,ti34,ti36,ca204,cf,Tryz.results204,he,enc_length,enc_take,sb_drop,frzL_enc,sb_closed,Option.map_some,encs_length]
          refine ⟨⟨by omega,by omega⟩,?_⟩
          refine callE_intro (by simp only [zW,zX,zD,builtinA,isLeaf,const1,Nat.reduceAdd,Nat.reduceMul,Nat.reduceSub,Nat.reduceLT,Nat.reduceLeDiff,Nat.reduceEqDiff,Nat.reduceBEq,Nat.reduceBNe,reduceIte,reduceCtorEq,Int.reduceToNat,Int.reduceLT,Int.reduceLE,Int.reduceEq,Int.reduceNe,Int.reduceNeg,ustrA,enc_length,enc_take,sb_drop,frzL_enc,sb_closed,Option.map_some] <;> rfl) (ih _ hmm (hok _ hmm) _) ?_ rfl rfl
          simp only [zW,zX,zD,builtinA,isLeaf,const1,Nat.reduceAdd,Nat.reduceMul,Nat.reduceSub,Nat.reduceLT,Nat.reduceLeDiff,Nat.reduceEqDiff,Nat.reduceBEq,Nat.reduceBNe,reduceIte,reduceCtorEq,Int.reduceToNat,Int.reduceLT,Int.reduceLE,Int.reduceEq,Int.reduceNe,Int.reduceNeg,ustrA,ti3,ti9,ti34,ti36,ca204,cf,Tryz.results204,he,enc_length,enc_take,sb_drop,frzL_enc,sb_closed,Option.map_some,encs_length]
          have hsn : [enc (ks.getD 0 ty0)] = encs (ks.take 1):=by
            match ks,hi2 with
            | t :: l,_=>simp [encs]
          simp only [zW,zX,zD,builtinA,isLeaf,const1,Nat.reduceAdd,Nat.reduceMul,Nat.reduceSub,Nat.reduceLT,Nat.reduceLeDiff,Nat.reduceEqDiff,Nat.reduceBEq,Nat.reduceBNe,reduceIte,reduceCtorEq,Int.reduceToNat,Int.reduceLT,Int.reduceLE,Int.reduceEq,Int.reduceNe,Int.reduceNeg,ustrA,ti3,ti9,ti34,ti36,ca204,cf,Tryz.results204,hi1,LoopK_eq]
          refine ⟨fun v hv=>enc_leaf _ v hv,fun r hr=>by rw [List.mem_singleton.1 hr,enc_length],⟨0 + 1,[.row 4 [enc (ks.getD 0 ty0)] 0,.row 4 [enc (ks.getD 0 ty0)] 0],_,by omega,rfl,rfl,.inr ⟨1,rfl,by simp,by rw [hsn]; rfl⟩⟩,?_⟩
          simp only [intOf]
          omega
        · have hsn : encs (ks.take i) ++ [enc (ks.getD i ty0)] = encs (ks.take (i + 1)):=by
            rw [encs_map,encs_map,List.take_add_one,List.map_append]
            simp [List.getD,hi2]
          simp only [wpc_skip,AThen_normal,wpc_block,wpc_seq,wpc_drawn]
          refine .inr (drawE_intro [(false,0,2),(false,0,2),(false,0,0),(false,0,0),(false,0,0),(false,0,0),(false,0,0),(true,0,0),(true,1,1),(true,2,2),(false,3,3),(true,3,3)] [A ++ (.cells [.int .i64 k,.str m,.str n,.slice (encs ks)] :: .cells [.int .i64 0,.str [],.str [],.nils] :: .cells [.int .i64 k,.str m,.str n,.own (A.length + (j + 3))] :: B),A ++ (.cells [.int .i64 k,.str m,.str n,.slice (encs ks)] :: .cells [.int .i64 0,.str [],.str [],.nils] :: .cells [.int .i64 k,.str m,.str n,.own (A.length + (j + 3))] :: B),A ++ (.cells [.int .i64 k,.str m,.str n,.slice (encs ks)] :: .cells [.int .i64 0,.str [],.str [],.nils] :: .cells [.int .i64 k,.str m,.str n,.own (A.length + (j + 3))] :: (B ++ [.row 4 [enc (ks.getD i ty0)] 0])),A ++ (.cells [.int .i64 k,.str m,.str n,.slice (encs ks)] :: .cells [.int .i64 0,.str [],.str [],.nils] :: .cells [.int .i64 k,.str m,.str n,.own (A.length + (j + 3))] :: (B.set j .dead ++ [.row 4 [enc (ks.getD i ty0)] 0,.row 4 (encs (ks.take i) ++ [enc (ks.getD i ty0)]) 0])),A ++ (.cells [.int .i64 k,.str m,.str n,.slice (encs ks)] :: .cells [.int .i64 0,.str [],.str [],.nils] :: .cells [.int .i64 k,.str m,.str n,.own (A.length + (B.length + 1 + 3))] :: (B.set j .dead ++ [.row 4 [enc (ks.getD i ty0)] 0,.row 4 (encs (ks.take i) ++ [enc (ks.getD i ty0)]) 0]))] 4 rfl (by kernel_rfl) (by kernel_rfl) (by kernel_rfl) (by kernel_rfl) (by kernel_rfl) (by kernel_rfl) ?_)
          simp only [zW,zX,zD,builtinA,isLeaf,const1,Nat.reduceAdd,Nat.reduceMul,Nat.reduceSub,Nat.reduceLT,Nat.reduceLeDiff,Nat.reduceEqDiff,Nat.reduceBEq,Nat.reduceBNe,reduceIte,reduceCtorEq,Int.reduceToNat,Int.reduceLT,Int.reduceLE,Int.reduceEq,Int.reduceNe,Int.reduceNeg,ustrA,ti3,ti9,ti34,ti36,ca204,cf,Tryz.results204,he,hj,hg,enc_length,enc_take,sb_drop,frzL_enc,sb_closed,Option.map_some,encs_length]
          refine ⟨⟨by omega,by omega⟩,?_⟩
          refine callE_intro (by simp only [zW,zX,zD,builtinA,isLeaf,const1,Nat.reduceAdd,Nat.reduceMul,Nat.reduceSub,Nat.reduceLT,Nat.reduceLeDiff,Nat.reduceEqDiff,Nat.reduceBEq,Nat.reduceBNe,reduceIte,reduceCtorEq,Int.reduceToNat,Int.reduceLT,Int.reduceLE,Int.reduceEq,Int.reduceNe,Int.reduceNeg,ustrA,enc_length,enc_take,sb_drop,frzL_enc,sb_closed,Option.map_some] <;> rfl) (ih _ hmm (hok _ hmm) _) ?_ rfl rfl
          simp only [zW,zX,zD,builtinA,isLeaf,const1,Nat.reduceAdd,Nat.reduceMul,Nat.reduceSub,Nat.reduceLT,Nat.reduceLeDiff,Nat.reduceEqDiff,Nat.reduceBEq,Nat.reduceBNe,reduceIte,reduceCtorEq,Int.reduceToNat,Int.reduceLT,Int.reduceLE,Int.reduceEq,Int.reduceNe,Int.reduceNeg,ustrA,ti3,ti9,ti34,ti36,ca204,cf,Tryz.results204,he,hj,hg,enc_length,enc_take,sb_drop,frzL_enc,sb_closed,Option.map_some,encs_length]
          simp only [zW,zX,zD,builtinA,isLeaf,const1,Nat.reduceAdd,Nat.reduceMul,Nat.reduceSub,Nat.reduceLT,Nat.reduceLeDiff,Nat.reduceEqDiff,Nat.reduceBEq,Nat.reduceBNe,reduceIte,reduceCtorEq,Int.reduceToNat,Int.reduceLT,Int.reduceLE,Int.reduceEq,Int.reduceNe,Int.reduceNeg,ustrA,ti3,ti9,ti34,ti36,ca204,cf,Tryz.results204,hi1,LoopK_eq]
          refine ⟨fun v hv=>enc_leaf _ v hv,⟨fun r hr=>by rw [List.mem_singleton.1 hr,enc_length],by rw [List.length_take]; omega⟩,⟨i + 1,B.set j .dead ++ [.row 4 [enc (ks.getD i ty0)] 0,.row 4 (encs (ks.take i) ++ [enc (ks.getD i ty0)]) 0],_,by omega,rfl,rfl,.inr ⟨B.length + 1,rfl,by simp,?_⟩⟩,?_⟩
          · rw [getD_sapp,hsn]; rfl
          · simp only [intOf]
            omega
      · have : i = ks.length:=by simp at h2; omega
        subst this
        rw [List.take_length] at hx
        rcases hx with ⟨h0,rfl,rfl⟩ | ⟨j,rfl,hj,hg⟩
        · have : ks = []:=by cases ks with
            | nil=>rfl
            | cons=>simp at h0
          subst this
          simp only [zW,zX,zD,builtinA,isLeaf,const1,Nat.reduceAdd,Nat.reduceMul,Nat.reduceSub,Nat.reduceLT,Nat.reduceLeDiff,Nat.reduceEqDiff,Nat.reduceBEq,Nat.reduceBNe,reduceIte,reduceCtorEq,Int.reduceToNat,Int.reduceLT,Int.reduceLE,Int.reduceEq,Int.reduceNe,Int.reduceNeg,ustrA,ti3,ti9,ti34,ti36,ca204,cf,Tryz.results204,encs]
        · simp only [zW,zX,zD,builtinA,isLeaf,const1,Nat.reduceAdd,Nat.reduceMul,Nat.reduceSub,Nat.reduceLT,Nat.reduceLeDiff,Nat.reduceEqDiff,Nat.reduceBEq,Nat.reduceBNe,reduceIte,reduceCtorEq,Int.reduceToNat,Int.reduceLT,Int.reduceLE,Int.reduceEq,Int.reduceNe,Int.reduceNeg,ustrA,ti3,ti9,ti34,ti36,ca204,cf,Tryz.results204,hg,hj]
theorem sz_toTyS : ∀ v,okV v = true → sz (toTy v) ≤ 2 * cnt v
  | .num,_=>by simp [toTy,sz,szs,cnt]
  | .nm m n,h=>by
    simp only [okV,nmB,Bool.and_eq_true,Bool.or_eq_true,decide_eq_true_eq] at h
    have h1 : n.length = 1:=by have:=h.2; simp only [localB,Bool.and_eq_true,beq_iff_eq] at this; exact this.1
    have h2 : m.length ≤ 1:=by
      rcases h.1 with rfl | h
      · simp
      · simp only [moduleB,Bool.and_eq_true,beq_iff_eq] at h; omega
    simp only [toTy,sz,szs,cnt,List.length_nil]; omega
  | .fn a b,h=>by
    simp only [okV,Bool.and_eq_true] at h
    have ha:=sz_toTyS a h.1
    have hb:=sz_toTyS b h.2
    simp only [toTy,sz,szs,cnt,List.length_nil,List.length_cons]; omega
theorem ok_toTyS : ∀ v,okV v = true → (toTy v).Ok
  | .num,_=>.mk (by simp) (by simp) (by simp) (by simp)
  | .nm m n,h=>by
    simp only [okV,nmB,Bool.and_eq_true,Bool.or_eq_true,decide_eq_true_eq] at h
    have h1 : n.length = 1:=by have:=h.2; simp only [localB,Bool.and_eq_true,beq_iff_eq] at this; exact this.1
    have h2 : m.length ≤ 1:=by
      rcases h.1 with rfl | h
      · simp
      · simp only [moduleB,Bool.and_eq_true,beq_iff_eq] at h; omega
    exact .mk (by omega) (by omega) (by simp) (by simp)
  | .fn a b,h=>by
    simp [okV] at h
    refine .mk (by simp) (by simp) (by simp) fun t ht=>?_
    simp at ht
    rcases ht with rfl | rfl
    · exact ok_toTyS a h.1
    · exact ok_toTyS b h.2
end Go.Proofs.YtnjdbgiincliaaaGreat
/- The program's comparison of a type with the zero type. -/
set_option linter.unusedVariables false
set_option linter.unusedSimpArgs false
namespace Go.Proofs.YtnjdbgiincliaaaGreat
open Go.Abs
theorem encQ4 (t : Ty) : enc t = [.int .i64 t.kind,.str t.mod,.str t.name,.slice (encs t.kids)]:=by cases t; rw [enc]; rfl
def tcF1 : AV:=.func (.func 193) [] []
def tcF2 : AV:=.func (.func 194) [] []
set_option maxRecDepth 100000 in
theorem tc_kids (t : Ty) (A : List Box) : ACalls Tryz.prog 193 [.agg (enc t)] A (fun r A'=>r = .slice (encs t.kids) ∧ A' = A):=by
  rw [encQ4]
  refine acalls_enter (cf:=cf 5 [0,1,2]) foll Tryz.func193 Tryz.ntmps193 (by simp [cf]) ?_
  simp only [Tryz.f193,EnterK_some,zW,zX,zD,builtinA,isLeaf,const1,Nat.reduceAdd,Nat.reduceMul,Nat.reduceSub,Nat.reduceLT,Nat.reduceLeDiff,Nat.reduceEqDiff,Nat.reduceBEq,Nat.reduceBNe,reduceIte,reduceCtorEq,Int.reduceToNat,Int.reduceLT,Int.reduceLE,Int.reduceEq,Int.reduceNe,Int.reduceNeg,ustrA,ti34,ti36,cf,Tryz.results193]
set_option maxRecDepth 100000 in
theorem tc_same (s t : Ty) (A : List Box) : ACalls Tryz.prog 194 [.agg (enc s),.agg (enc t)] A (fun r A'=>r = .bool (decide (s.kind = t.kind) && decide (s.mod = t.mod) && decide (s.name = t.name)) ∧ A' = A):=by
  rw [encQ4,encQ4]
  refine acalls_enter (cf:=cf 24 [0,1,2,3,4]) foll Tryz.func194 Tryz.ntmps194 (by simp [cf]) ?_
  simp only [Tryz.f194,EnterK_some,zW,zX,zD,builtinA,isLeaf,const1,Nat.reduceAdd,Nat.reduceMul,Nat.reduceSub,Nat.reduceLT,Nat.reduceLeDiff,Nat.reduceEqDiff,Nat.reduceBEq,Nat.reduceBNe,reduceIte,reduceCtorEq,Int.reduceToNat,Int.reduceLT,Int.reduceLE,Int.reduceEq,Int.reduceNe,Int.reduceNeg,ustrA,ti3,ti9,ti36,cf,Tryz.results194]
  by_cases h1 : s.kind = t.kind
  · by_cases h2 : s.mod = t.mod
    · simp only [zW,zX,zD,builtinA,isLeaf,const1,Nat.reduceAdd,Nat.reduceMul,Nat.reduceSub,Nat.reduceLT,Nat.reduceLeDiff,Nat.reduceEqDiff,Nat.reduceBEq,Nat.reduceBNe,reduceIte,reduceCtorEq,Int.reduceToNat,Int.reduceLT,Int.reduceLE,Int.reduceEq,Int.reduceNe,Int.reduceNeg,ustrA,ti3,ti9,ti36,cf,Tryz.results194,decide_eq_true h1,decide_eq_true h2]
    · simp only [zW,zX,zD,builtinA,isLeaf,const1,Nat.reduceAdd,Nat.reduceMul,Nat.reduceSub,Nat.reduceLT,Nat.reduceLeDiff,Nat.reduceEqDiff,Nat.reduceBEq,Nat.reduceBNe,reduceIte,reduceCtorEq,Int.reduceToNat,Int.reduceLT,Int.reduceLE,Int.reduceEq,Int.reduceNe,Int.reduceNeg,ustrA,ti3,ti9,ti36,cf,Tryz.results194,decide_eq_true h1,decide_eq_false h2]
  · simp only [zW,zX,zD,builtinA,isLeaf,const1,Nat.reduceAdd,Nat.reduceMul,Nat.reduceSub,Nat.reduceLT,Nat.reduceLeDiff,Nat.reduceEqDiff,Nat.reduceBEq,Nat.reduceBNe,reduceIte,reduceCtorEq,Int.reduceToNat,Int.reduceLT,Int.reduceLE,Int.reduceEq,Int.reduceNe,Int.reduceNeg,ustrA,ti3,ti9,ti36,cf,Tryz.results194,decide_eq_false h1]
set_option maxRecDepth 100000 in
theorem join_none (m : AV) (A : List Box) : ACalls Tryz.prog 259 [m,.slice [],.slice []] A (fun r A'=>r = .bool false ∧ A' = A):=by
  have h0 : decide (((0 : Nat) : Int) = 0) = true:=rfl
  refine acalls_enter (cf:=cf 32 [0,1,2,6,7,8,11,28]) foll Tryz.func259 Tryz.ntmps259 (by simp [cf]) ?_
  simp only [Tryz.f259,EnterK_some,zW,zX,zD,builtinA,isLeaf,const1,Nat.reduceAdd,Nat.reduceMul,Nat.reduceSub,Nat.reduceLT,Nat.reduceLeDiff,Nat.reduceEqDiff,Nat.reduceBEq,Nat.reduceBNe,reduceIte,reduceCtorEq,Int.reduceToNat,Int.reduceLT,Int.reduceLE,Int.reduceEq,Int.reduceNe,Int.reduceNeg,ustrA,ti3,ti34,ti36,ti165,ti419,ca290,mi165,ks419,cf,Tryz.results259]
  simp only [zW,zX,zD,builtinA,isLeaf,const1,Nat.reduceAdd,Nat.reduceMul,Nat.reduceSub,Nat.reduceLT,Nat.reduceLeDiff,Nat.reduceEqDiff,Nat.reduceBEq,Nat.reduceBNe,reduceIte,reduceCtorEq,Int.reduceToNat,Int.reduceLT,Int.reduceLE,Int.reduceEq,Int.reduceNe,Int.reduceNeg,ustrA,ti3,ti34,ti36,ti165,ti419,ca290,mi165,ks419,cf,Tryz.results259,h0]
def rowLen0 (A : List Box) : AV → Nat
  | .own q=>match A.getD q .dead with
    | .row _ rows _=>rows.length
    | _=>0
  | _=>0
set_option maxRecDepth 100000 in
set_option maxHeartbeats 2000000 in
theorem same_zero (t : Ty) (i : Nat) (A : List Box) : ACalls Tryz.prog 197 [.agg [tcF1,tcF2,.map i],.agg (enc t),.agg (enc ty0)] A (fun r A'=>r = .bool (decide (t = ty0)) ∧ A' = A):=by
  have hz : enc ty0 = [.int .i64 0,.str [],.str [],.slice []]:=by rw [ty0,enc]; rfl
  simp only [tcF1,tcF2]
  refine acalls_enter (cf:=cf 82 [0,1,2,3,4,5,6,7,8,9,10,11,12,21,34,35,36,37,69,76]) foll Tryz.func197 Tryz.ntmps197 (by simp [cf]) ?_
  simp only [Tryz.f197,EnterK_some,zW,zX,zD,builtinA,isLeaf,const1,Nat.reduceAdd,Nat.reduceMul,Nat.reduceSub,Nat.reduceLT,Nat.reduceLeDiff,Nat.reduceEqDiff,Nat.reduceBEq,Nat.reduceBNe,reduceIte,reduceCtorEq,Int.reduceToNat,Int.reduceLT,Int.reduceLE,Int.reduceEq,Int.reduceNe,Int.reduceNeg,ustrA,ti3,ti34,ti36,ti67,ti163,ti165,ti167,ti366,ti367,ca259,cf,Tryz.results197]
  simp only [zW,zX,zD,builtinA,isLeaf,const1,Nat.reduceAdd,Nat.reduceMul,Nat.reduceSub,Nat.reduceLT,Nat.reduceLeDiff,Nat.reduceEqDiff,Nat.reduceBEq,Nat.reduceBNe,reduceIte,reduceCtorEq,Int.reduceToNat,Int.reduceLT,Int.reduceLE,Int.reduceEq,Int.reduceNe,Int.reduceNeg,ustrA,ti3,ti34,ti36,ti67,ti163,ti165,ti167,ti366,ti367,ca259,cf,Tryz.results197,enc_length,enc_take,frzL_enc]
  refine ⟨enc_leaf t,enc_leaf ty0,?_,?_⟩
  · intro v hv
    rcases List.mem_cons.1 hv with rfl | hv
    · rfl
    · rcases List.mem_cons.1 hv with rfl | hv
      · rfl
      · cases hv
  refine aloop_intro [3,7] (fun e A'=>∃ B j,e = [(3,.ptr A.length 0),(7,.own (A.length + (j + 3)))] ∧ A' = A ++ (.cells [tcF1,tcF2,.map i] :: .cells (enc t) :: .cells (enc ty0) :: B) ∧ j < B.length ∧ (B.getD j .dead = .row 2 [[.slice [enc t],.slice [enc ty0]]] 0 ∨ (B.getD j .dead = .row 2 [] 0 ∧ t = ty0))) (fun e A'=>rowLen0 A' (Abs.look 7 e)) ?_ ?_
  · simp only [zW,zX,zD,builtinA,isLeaf,const1,Nat.reduceAdd,Nat.reduceMul,Nat.reduceSub,Nat.reduceLT,Nat.reduceLeDiff,Nat.reduceEqDiff,Nat.reduceBEq,Nat.reduceBNe,reduceIte,reduceCtorEq,Int.reduceToNat,Int.reduceLT,Int.reduceLE,Int.reduceEq,Int.reduceNe,Int.reduceNeg,ustrA,ti3,ti34,ti36,ti67,ti163,ti165,ti167,ti366,ti367,ca259,cf,Tryz.results197]
    exact ⟨_,2,rfl,rfl,by simp,.inl rfl⟩
  · rintro e A' ⟨B,j,rfl,rfl,hj,hB⟩
    have hgj : ∀ X Y Z : Box,∀ d : Box,(X :: Y :: Z :: B).getD (j + 3) d = B.getD j d:=fun _ _ _ _=>rfl
    have hmu : ∀ rows,B.getD j .dead = .row 2 rows 0 → rowLen0 (A ++ (.cells [tcF1,tcF2,.map i] :: .cells (enc t) :: .cells (enc ty0) :: B)) (.own (A.length + (j + 3))) = rows.length:=fun rows hr=>by
      have e2 : (A ++ (.cells [tcF1,tcF2,.map i] :: .cells (enc t) :: .cells (enc ty0) :: B)).getD (A.length + (j + 3)) .dead = .row 2 rows 0:=(getD_app _ _ _ _).trans hr
      simp only [rowLen0,e2]
    rcases hB with hB | ⟨hB,ht⟩
    · have hz1 : decide ((0 : Int) < ((1 : Nat) : Int)) = true:=rfl
      have hm1 : ((1 : Nat) : Int) - 1 = ((0 : Nat) : Int):=rfl
      have hw0 : IntKind.i64.wrap ((0 : Nat) : Int) = ((0 : Nat) : Int):=rfl
      have hB2 : ∀ L : List Box,(B ++ L).getD j .dead = .row 2 [[.slice [enc t],.slice [enc ty0]]] 0:=fun L=>by rw [getD_app1 _ _ _ _ hj,hB]
      have hmu':=hmu _ hB
      simp only [List.length_cons,List.length_nil] at hmu'
      rw [show Abs.look 7 [(3,AV.ptr A.length 0),(7,AV.own (A.length + (j + 3)))] = .own (A.length + (j + 3)) from rfl,hmu']
      have hq : ∀ (X Y : Box) (L : List Box) (d : Box),((B ++ [X]).set j Y ++ L).getD B.length d = X:=fun X Y L d=>by
        have h1 : B.length < ((B ++ [X]).set j Y).length:=by simp
        have h2 : j ≠ B.length:=by omega
        rw [getD_app1 _ _ _ _ h1,Go.Abs.getD_set_ne' h2,getD_app0]
        rfl
      have hq2 : ∀ (X Y Z d : Box),((B ++ [X]).set j Y ++ [Z]).getD (B.length + 1) d = Z:=fun X Y Z d=>by
        have e : ((B ++ [X]).set j Y).length = B.length + 1:=by simp
        rw [← e,getD_app0]
        rfl
      simp only [tcF1,tcF2]
      simp only [zW,zX,zD,builtinA,isLeaf,const1,Nat.reduceAdd,Nat.reduceMul,Nat.reduceSub,Nat.reduceLT,Nat.reduceLeDiff,Nat.reduceEqDiff,Nat.reduceBEq,Nat.reduceBNe,reduceIte,reduceCtorEq,Int.reduceToNat,Int.reduceLT,Int.reduceLE,Int.reduceEq,Int.reduceNe,Int.reduceNeg,ustrA,ti3,ti34,ti36,ti67,ti163,ti165,ti167,ti366,ti367,ca259,cf,Tryz.results197,hgj,hB,hB2,hz1,hm1,hw0,hq]
      refine ⟨⟨by omega,by omega⟩,⟨by omega,by omega⟩,?_⟩
      refine aloop_intro [3,7,8,34,35,36] (fun e A'=>∃ (B' : List Box) (j' k : Nat),e = [(3,.ptr A.length 0),(7,.own (A.length + (j' + 3))),(8,.ptr (A.length + (B.length + 3)) 0),(34,.slice [enc t]),(35,.int .i64 (1 : Nat)),(36,.int .i64 (k : Nat))]
        ∧ A' = A ++ (.cells [tcF1,tcF2,.map i] :: .cells (enc t) :: .cells (enc ty0) :: B') ∧ j' < B'.length ∧ B'.getD j' .dead = .row 2 [] 0 ∧ B.length < B'.length ∧ B'.getD B.length .dead = .cells [.slice [enc t],.slice [enc ty0]]
        ∧ k ≤ 1 ∧ (k = 1 → t = ty0)) (fun e _=>1 - (intOf (Abs.look 36 e)).toNat) ?_ ?_
      · refine ⟨_,B.length + 1,0,rfl,rfl,by simp,hq2 _ _ _ _,by simp only [List.length_append,List.length_set,List.length_singleton]; omega,hq _ _ _ _,by omega,by omega⟩
      · rintro e A' ⟨B',j',k,rfl,rfl,hj',hB',hlt,hb,hk,hkt⟩
        have hgj' : ∀ X Y Z : Box,∀ d : Box,(X :: Y :: Z :: B').getD (j' + 3) d = B'.getD j' d:=fun _ _ _ _=>rfl
        have hgb' : ∀ X Y Z : Box,∀ d : Box,(X :: Y :: Z :: B').getD (B.length + 3) d = B'.getD B.length d:=fun _ _ _ _=>rfl
        have hgB : ∀ L : List Box,(B' ++ L).getD B.length .dead = .cells [.slice [enc t],.slice [enc ty0]]:=fun L=>by rw [getD_app1 _ _ _ _ hlt,hb]
        rcases Nat.lt_or_ge k 1 with hk1 | hk1
        · have hk0 : k = 0:=by omega
          subst hk0
          have d01 : decide (((0 : Nat) : Int) < ((1 : Nat) : Int)) = true:=rfl
          simp only [tcF1,tcF2]
          simp only [zW,zX,zD,builtinA,isLeaf,const1,Nat.reduceAdd,Nat.reduceMul,Nat.reduceSub,Nat.reduceLT,Nat.reduceLeDiff,Nat.reduceEqDiff,Nat.reduceBEq,Nat.reduceBNe,reduceIte,reduceCtorEq,Int.reduceToNat,Int.reduceLT,Int.reduceLE,Int.reduceEq,Int.reduceNe,Int.reduceNeg,ustrA,ti3,ti34,ti36,ti67,ti163,ti165,ti167,ti366,ti367,ca259,cf,Tryz.results197,hgj',hgb',hb,hgB,d01,enc_length,enc_take,frzL_enc]
          refine ⟨⟨by omega,by omega⟩,⟨by omega,by omega⟩,?_⟩
          refine .inr (drawE_intro [(false,0,1),(false,0,1),(false,0,1),(false,0,1),(false,0,1),(false,0,1),(false,0,1),(false,0,1),(false,0,1),(true,0,0),(true,1,1)] [A ++ (.cells [tcF1,tcF2,.map i] :: .cells (enc t) :: .cells (enc ty0) :: (B' ++ [.cells (enc t),.cells (enc ty0)])),A ++ (.cells [tcF1,tcF2,.map i] :: .cells (enc t) :: .cells (enc ty0) :: (B' ++ [.cells (enc t),.cells (enc ty0),.cells [.nils,.nils]])),A ++ (.cells [tcF1,tcF2,.map i] :: .cells (enc t) :: .cells (enc ty0) :: (B' ++ [.cells (enc t),.cells (enc ty0),.cells [.slice (encs t.kids),.slice []]]))] 2 rfl (by kernel_rfl) (by kernel_rfl) (by kernel_rfl) (by kernel_rfl) (by kernel_rfl) (by kernel_rfl) ?_)
          simp only [tcF1,tcF2]
          simp only [zW,zX,zD,builtinA,isLeaf,const1,Nat.reduceAdd,Nat.reduceMul,Nat.reduceSub,Nat.reduceLT,Nat.reduceLeDiff,Nat.reduceEqDiff,Nat.reduceBEq,Nat.reduceBNe,reduceIte,reduceCtorEq,Int.reduceToNat,Int.reduceLT,Int.reduceLE,Int.reduceEq,Int.reduceNe,Int.reduceNeg,ustrA,ti3,ti34,ti36,ti67,ti163,ti165,ti167,ti366,ti367,ca259,cf,Tryz.results197,enc_take]
          refine ⟨by rw [enc_length]; omega,by rw [enc_length]; omega,?_⟩
          refine wpG_callv _ _ _ _ _ _ _ _ _ _ _ _ _ _ _ _ _ ?_
          simp only [zW,zX,zD,builtinA,isLeaf,const1,Nat.reduceAdd,Nat.reduceMul,Nat.reduceSub,Nat.reduceLT,Nat.reduceLeDiff,Nat.reduceEqDiff,Nat.reduceBEq,Nat.reduceBNe,reduceIte,reduceCtorEq,Int.reduceToNat,Int.reduceLT,Int.reduceLE,Int.reduceEq,Int.reduceNe,Int.reduceNeg,ustrA,ti3,ti34,ti36,ti67,ti163,ti165,ti167,ti366,ti367,ca259,cf,Tryz.results197,CallVE_eq,List.nil_append,List.append_nil]
          refine ⟨by kernel_rfl,callEN_intro (fun A=>by simp only [zW,zX,zD,builtinA,isLeaf,const1,Nat.reduceAdd,Nat.reduceMul,Nat.reduceSub,Nat.reduceLT,Nat.reduceLeDiff,Nat.reduceEqDiff,Nat.reduceBEq,Nat.reduceBNe,reduceIte,reduceCtorEq,Int.reduceToNat,Int.reduceLT,Int.reduceLE,Int.reduceEq,Int.reduceNe,Int.reduceNeg,ustrA,frzL_enc,Option.map_some]) (fun A=>tc_kids t A) ?_ rfl rfl⟩
          simp only [zW,zX,zD,builtinA,isLeaf,const1,Nat.reduceAdd,Nat.reduceMul,Nat.reduceSub,Nat.reduceLT,Nat.reduceLeDiff,Nat.reduceEqDiff,Nat.reduceBEq,Nat.reduceBNe,reduceIte,reduceCtorEq,Int.reduceToNat,Int.reduceLT,Int.reduceLE,Int.reduceEq,Int.reduceNe,Int.reduceNeg,ustrA,ti3,ti34,ti36,ti67,ti163,ti165,ti167,ti366,ti367,ca259,cf,Tryz.results197,enc_take]
          refine ⟨by rw [enc_length]; omega,by rw [enc_length]; omega,?_⟩
          refine wpG_callv _ _ _ _ _ _ _ _ _ _ _ _ _ _ _ _ _ ?_
          simp only [zW,zX,zD,builtinA,isLeaf,const1,Nat.reduceAdd,Nat.reduceMul,Nat.reduceSub,Nat.reduceLT,Nat.reduceLeDiff,Nat.reduceEqDiff,Nat.reduceBEq,Nat.reduceBNe,reduceIte,reduceCtorEq,Int.reduceToNat,Int.reduceLT,Int.reduceLE,Int.reduceEq,Int.reduceNe,Int.reduceNeg,ustrA,ti3,ti34,ti36,ti67,ti163,ti165,ti167,ti366,ti367,ca259,cf,Tryz.results197,CallVE_eq,List.nil_append,List.append_nil]
          refine ⟨by kernel_rfl,callEN_intro (fun A=>by simp only [zW,zX,zD,builtinA,isLeaf,const1,Nat.reduceAdd,Nat.reduceMul,Nat.reduceSub,Nat.reduceLT,Nat.reduceLeDiff,Nat.reduceEqDiff,Nat.reduceBEq,Nat.reduceBNe,reduceIte,reduceCtorEq,Int.reduceToNat,Int.reduceLT,Int.reduceLE,Int.reduceEq,Int.reduceNe,Int.reduceNeg,ustrA,frzL_enc,Option.map_some]) (fun A=>tc_kids ty0 A) ?_ rfl rfl⟩
          have hk0' : encs ty0.kids = []:=rfl
          simp only [zW,zX,zD,builtinA,isLeaf,const1,Nat.reduceAdd,Nat.reduceMul,Nat.reduceSub,Nat.reduceLT,Nat.reduceLeDiff,Nat.reduceEqDiff,Nat.reduceBEq,Nat.reduceBNe,reduceIte,reduceCtorEq,Int.reduceToNat,Int.reduceLT,Int.reduceLE,Int.reduceEq,Int.reduceNe,Int.reduceNeg,ustrA,ti3,ti34,ti36,ti67,ti163,ti165,ti167,ti366,ti367,ca259,cf,Tryz.results197,enc_take,hk0']
          by_cases hkn : t.kids = []
          · have hen : encs t.kids = []:=by rw [hkn]; rfl
            have d00 : decide (¬ ((0 : Nat) : Int) = ((0 : Nat) : Int)) = false:=rfl
            have hts:=fun A=>tc_same t ty0 A
            generalize hsn : (decide (t.kind = ty0.kind) && decide (t.mod = ty0.mod) && decide (t.name = ty0.name)) = sn at hts
            cases sn with
            | true =>
              have htz : t = ty0:=by
                obtain ⟨k,m,n,ks⟩:=t
                simp only [Bool.and_eq_true] at hsn
                have a1 : k = 0:=of_decide_eq_true hsn.1.1
                have a2 : m = []:=of_decide_eq_true hsn.1.2
                have a3 : n = []:=of_decide_eq_true hsn.2
                have a4 : ks = []:=hkn
                rw [a1,a2,a3,a4]; rfl
              simp only [zW,zX,zD,builtinA,isLeaf,const1,Nat.reduceAdd,Nat.reduceMul,Nat.reduceSub,Nat.reduceLT,Nat.reduceLeDiff,Nat.reduceEqDiff,Nat.reduceBEq,Nat.reduceBNe,reduceIte,reduceCtorEq,Int.reduceToNat,Int.reduceLT,Int.reduceLE,Int.reduceEq,Int.reduceNe,Int.reduceNeg,ustrA,ti3,ti34,ti36,ti67,ti163,ti165,ti167,ti366,ti367,ca259,cf,Tryz.results197,enc_take,hen,d00]
              refine ⟨by rw [enc_length]; omega,by rw [enc_length]; omega,?_⟩
              refine wpO_callv _ _ _ _ _ _ _ _ _ _ _ _ _ _ _ ?_
              simp only [zW,zX,zD,builtinA,isLeaf,const1,Nat.reduceAdd,Nat.reduceMul,Nat.reduceSub,Nat.reduceLT,Nat.reduceLeDiff,Nat.reduceEqDiff,Nat.reduceBEq,Nat.reduceBNe,reduceIte,reduceCtorEq,Int.reduceToNat,Int.reduceLT,Int.reduceLE,Int.reduceEq,Int.reduceNe,Int.reduceNeg,ustrA,ti3,ti34,ti36,ti67,ti163,ti165,ti167,ti366,ti367,ca259,cf,Tryz.results197,List.nil_append,List.append_nil]
              refine ⟨by kernel_rfl,?_⟩
              refine callK_intro (by simp only [zW,zX,zD,builtinA,isLeaf,const1,Nat.reduceAdd,Nat.reduceMul,Nat.reduceSub,Nat.reduceLT,Nat.reduceLeDiff,Nat.reduceEqDiff,Nat.reduceBEq,Nat.reduceBNe,reduceIte,reduceCtorEq,Int.reduceToNat,Int.reduceLT,Int.reduceLE,Int.reduceEq,Int.reduceNe,Int.reduceNeg,ustrA,frzL_enc,Option.map_some,List.cons_append,List.nil_append] <;> rfl) (hts _) ?_ rfl
              rintro r A2 ⟨rfl,rfl⟩
              simp only [zW,zX,zD,builtinA,isLeaf,const1,Nat.reduceAdd,Nat.reduceMul,Nat.reduceSub,Nat.reduceLT,Nat.reduceLeDiff,Nat.reduceEqDiff,Nat.reduceBEq,Nat.reduceBNe,reduceIte,reduceCtorEq,Int.reduceToNat,Int.reduceLT,Int.reduceLE,Int.reduceEq,Int.reduceNe,Int.reduceNeg,ustrA,ti3,ti34,ti36,ti67,ti163,ti165,ti167,ti366,ti367,ca259,cf,Tryz.results197]
              refine callK_intro (by simp only [zW,zX,zD,builtinA,isLeaf,const1,Nat.reduceAdd,Nat.reduceMul,Nat.reduceSub,Nat.reduceLT,Nat.reduceLeDiff,Nat.reduceEqDiff,Nat.reduceBEq,Nat.reduceBNe,reduceIte,reduceCtorEq,Int.reduceToNat,Int.reduceLT,Int.reduceLE,Int.reduceEq,Int.reduceNe,Int.reduceNeg,ustrA,Option.map_some] <;> rfl) (join_none _ _) ?_ rfl
              rintro r A2 ⟨rfl,rfl⟩
              simp only [zW,zX,zD,builtinA,isLeaf,const1,Nat.reduceAdd,Nat.reduceMul,Nat.reduceSub,Nat.reduceLT,Nat.reduceLeDiff,Nat.reduceEqDiff,Nat.reduceBEq,Nat.reduceBNe,reduceIte,reduceCtorEq,Int.reduceToNat,Int.reduceLT,Int.reduceLE,Int.reduceEq,Int.reduceNe,Int.reduceNeg,ustrA,ti3,ti34,ti36,ti67,ti163,ti165,ti167,ti366,ti367,ca259,cf,Tryz.results197,LoopK_eq]
              refine ⟨⟨_,j',1,rfl,rfl,by simp; omega,by rw [getD_app1 _ _ _ _ hj',hB'],by simp; omega,hgB _,by omega,fun _=>htz⟩,by simp only [intOf]; decide⟩
            | false =>
              have htz : ¬ t = ty0:=fun e=>by subst e; simp at hsn
              simp only [zW,zX,zD,builtinA,isLeaf,const1,Nat.reduceAdd,Nat.reduceMul,Nat.reduceSub,Nat.reduceLT,Nat.reduceLeDiff,Nat.reduceEqDiff,Nat.reduceBEq,Nat.reduceBNe,reduceIte,reduceCtorEq,Int.reduceToNat,Int.reduceLT,Int.reduceLE,Int.reduceEq,Int.reduceNe,Int.reduceNeg,ustrA,ti3,ti34,ti36,ti67,ti163,ti165,ti167,ti366,ti367,ca259,cf,Tryz.results197,enc_take,hen,d00]
              refine ⟨by rw [enc_length]; omega,by rw [enc_length]; omega,?_⟩
              refine wpO_callv _ _ _ _ _ _ _ _ _ _ _ _ _ _ _ ?_
              simp only [zW,zX,zD,builtinA,isLeaf,const1,Nat.reduceAdd,Nat.reduceMul,Nat.reduceSub,Nat.reduceLT,Nat.reduceLeDiff,Nat.reduceEqDiff,Nat.reduceBEq,Nat.reduceBNe,reduceIte,reduceCtorEq,Int.reduceToNat,Int.reduceLT,Int.reduceLE,Int.reduceEq,Int.reduceNe,Int.reduceNeg,ustrA,ti3,ti34,ti36,ti67,ti163,ti165,ti167,ti366,ti367,ca259,cf,Tryz.results197,List.nil_append,List.append_nil]
              refine ⟨by kernel_rfl,?_⟩
              refine callK_intro (by simp only [zW,zX,zD,builtinA,isLeaf,const1,Nat.reduceAdd,Nat.reduceMul,Nat.reduceSub,Nat.reduceLT,Nat.reduceLeDiff,Nat.reduceEqDiff,Nat.reduceBEq,Nat.reduceBNe,reduceIte,reduceCtorEq,Int.reduceToNat,Int.reduceLT,Int.reduceLE,Int.reduceEq,Int.reduceNe,Int.reduceNeg,ustrA,frzL_enc,Option.map_some,List.cons_append,List.nil_append] <;> rfl) (hts _) ?_ rfl
              rintro r A2 ⟨rfl,rfl⟩
              simp only [zW,zX,zD,builtinA,isLeaf,const1,Nat.reduceAdd,Nat.reduceMul,Nat.reduceSub,Nat.reduceLT,Nat.reduceLeDiff,Nat.reduceEqDiff,Nat.reduceBEq,Nat.reduceBNe,reduceIte,reduceCtorEq,Int.reduceToNat,Int.reduceLT,Int.reduceLE,Int.reduceEq,Int.reduceNe,Int.reduceNeg,ustrA,ti3,ti34,ti36,ti67,ti163,ti165,ti167,ti366,ti367,ca259,cf,Tryz.results197,decide_eq_false htz]
          · have htz : ¬ t = ty0:=fun e=>by subst e; exact hkn rfl
            have hnk : 0 < t.kids.length:=List.length_pos_iff.2 hkn
            have d00 : decide (((t.kids.length : Nat) : Int) = ((0 : Nat) : Int)) = false:=decide_eq_false (by omega)
            simp only [zW,zX,zD,builtinA,isLeaf,const1,Nat.reduceAdd,Nat.reduceMul,Nat.reduceSub,Nat.reduceLT,Nat.reduceLeDiff,Nat.reduceEqDiff,Nat.reduceBEq,Nat.reduceBNe,reduceIte,reduceCtorEq,Int.reduceToNat,Int.reduceLT,Int.reduceLE,Int.reduceEq,Int.reduceNe,Int.reduceNeg,ustrA,ti3,ti34,ti36,ti67,ti163,ti165,ti167,ti366,ti367,ca259,cf,Tryz.results197,enc_take,d00,encs_length,decide_eq_false htz]
        · have hk0 : k = 1:=by omega
          subst hk0
          have d11 : decide (((1 : Nat) : Int) < ((1 : Nat) : Int)) = false:=rfl
          simp only [tcF1,tcF2]
          simp only [zW,zX,zD,builtinA,isLeaf,const1,Nat.reduceAdd,Nat.reduceMul,Nat.reduceSub,Nat.reduceLT,Nat.reduceLeDiff,Nat.reduceEqDiff,Nat.reduceBEq,Nat.reduceBNe,reduceIte,reduceCtorEq,Int.reduceToNat,Int.reduceLT,Int.reduceLE,Int.reduceEq,Int.reduceNe,Int.reduceNeg,ustrA,ti3,ti34,ti36,ti67,ti163,ti165,ti167,ti366,ti367,ca259,cf,Tryz.results197,hgj',hgb',hb,hgB,d11,LoopK_eq,enc_length,enc_take,frzL_enc]
          refine ⟨⟨B',j',rfl,rfl,hj',.inr ⟨hB',hkt rfl⟩⟩,?_⟩
          have e2 : (A ++ (.cells [tcF1,tcF2,.map i] :: .cells (enc t) :: .cells (enc ty0) :: B')).getD (A.length + (j' + 3)) .dead = .row 2 [] 0:=(getD_app _ _ _ _).trans hB'
          simp only [tcF1,tcF2] at e2
          simp only [rowLen0,e2]
          decide
    · have hz0 : decide ((0 : Int) < ((0 : Nat) : Int)) = false:=rfl
      simp only [tcF1,tcF2]
      simp only [zW,zX,zD,builtinA,isLeaf,const1,Nat.reduceAdd,Nat.reduceMul,Nat.reduceSub,Nat.reduceLT,Nat.reduceLeDiff,Nat.reduceEqDiff,Nat.reduceBEq,Nat.reduceBNe,reduceIte,reduceCtorEq,Int.reduceToNat,Int.reduceLT,Int.reduceLE,Int.reduceEq,Int.reduceNe,Int.reduceNeg,ustrA,ti3,ti34,ti36,ti67,ti163,ti165,ti167,ti366,ti367,ca259,cf,Tryz.results197,hgj,hB,hz0,decide_eq_true ht]
set_option maxRecDepth 100000 in
theorem impl_typeComparison (A : List Box) : ACalls Tryz.prog 108 [] A (fun r A'=>r = .agg [tcF1,tcF2,.map (A.length + 1)] ∧ A' = A ++ [.cells [tcF1,tcF2,.map (A.length + 1)],.mapb []]):=by
  simp only [tcF1,tcF2]
  refine acalls_enterK (cf:=cf 7 [0,1,2]) foll Tryz.func108 Tryz.ntmps108 (by simp [cf]) ?_
  simp only [Tryz.f108,EnterK_some,zW,zX,zD,builtinA,isLeaf,const1,Nat.reduceAdd,Nat.reduceMul,Nat.reduceSub,Nat.reduceLT,Nat.reduceLeDiff,Nat.reduceEqDiff,Nat.reduceBEq,Nat.reduceBNe,reduceIte,reduceCtorEq,Int.reduceToNat,Int.reduceLT,Int.reduceLE,Int.reduceEq,Int.reduceNe,Int.reduceNeg,ustrA,ti165,ti167,cf,Tryz.results108]
set_option maxRecDepth 100000 in
theorem impl_TypeSame0 (t : Ty) (A : List Box) : ACalls Tryz.prog 251 [.agg (enc t),.agg (enc ty0)] A (fun r A'=>r = .bool (decide (t = ty0)) ∧ A' = A):=by
  refine acalls_enter (cf:=cf 9 [0,1,2,3,4]) foll Tryz.func251 Tryz.ntmps251 (by simp [cf]) ?_
  simp only [Tryz.f251,EnterK_some,zW,zX,zD,builtinA,isLeaf,const1,Nat.reduceAdd,Nat.reduceMul,Nat.reduceSub,Nat.reduceLT,Nat.reduceLeDiff,Nat.reduceEqDiff,Nat.reduceBEq,Nat.reduceBNe,reduceIte,reduceCtorEq,Int.reduceToNat,Int.reduceLT,Int.reduceLE,Int.reduceEq,Int.reduceNe,Int.reduceNeg,ustrA,ti36,ca108,ca197,cf,Tryz.results251]
  refine .inr (drawE_intro [(true,0,0),(false,0,1),(false,0,1),(true,1,1),(false,2,2)] [A ++ [.cells (enc t),.cells (enc ty0)],A ++ [.cells (enc t),.cells (enc ty0),.cells [tcF1,tcF2,.map (A.length + 2 + 1)],.mapb []],A ++ [.cells (enc t),.cells (enc ty0),.cells [tcF1,tcF2,.map (A.length + 2 + 1)],.mapb []]] 2 rfl (by kernel_rfl) (by kernel_rfl) (by kernel_rfl) (by kernel_rfl) (by kernel_rfl) (by kernel_rfl) ?_)
  simp only [zW,zX,zD,builtinA,isLeaf,const1,Nat.reduceAdd,Nat.reduceMul,Nat.reduceSub,Nat.reduceLT,Nat.reduceLeDiff,Nat.reduceEqDiff,Nat.reduceBEq,Nat.reduceBNe,reduceIte,reduceCtorEq,Int.reduceToNat,Int.reduceLT,Int.reduceLE,Int.reduceEq,Int.reduceNe,Int.reduceNeg,ustrA,ti36,ca108,ca197,cf,Tryz.results251]
  refine callE_intro (v:=.agg [tcF1,tcF2,.map (A.length + 2 + 1)]) (by simp only [zW,zX,zD,builtinA,isLeaf,const1,Nat.reduceAdd,Nat.reduceMul,Nat.reduceSub,Nat.reduceLT,Nat.reduceLeDiff,Nat.reduceEqDiff,Nat.reduceBEq,Nat.reduceBNe,reduceIte,reduceCtorEq,Int.reduceToNat,Int.reduceLT,Int.reduceLE,Int.reduceEq,Int.reduceNe,Int.reduceNeg,ustrA] <;> rfl) ((impl_typeComparison _).mono fun r A' h=>?_) ?_ rfl rfl
  · obtain ⟨h1,h2⟩:=h
    refine ⟨by rw [h1]; simp,?_⟩
    show A' = A ++ [.cells (enc t),.cells (enc ty0),.cells [tcF1,tcF2,.map (A.length + 2 + 1)],.mapb []]
    rw [h2]; simp
  simp only [zW,zX,zD,builtinA,isLeaf,const1,Nat.reduceAdd,Nat.reduceMul,Nat.reduceSub,Nat.reduceLT,Nat.reduceLeDiff,Nat.reduceEqDiff,Nat.reduceBEq,Nat.reduceBNe,reduceIte,reduceCtorEq,Int.reduceToNat,Int.reduceLT,Int.reduceLE,Int.reduceEq,Int.reduceNe,Int.reduceNeg,ustrA,ti36,ca108,ca197,cf,Tryz.results251,enc_take]
  refine ⟨by rw [enc_length]; omega,by rw [enc_length]; omega,by rw [enc_length]; omega,by rw [enc_length]; omega,?_⟩
  refine callEO_intro (same_zero t _ _) ?_ rfl
  simp only [zW,zX,zD,builtinA,isLeaf,const1,Nat.reduceAdd,Nat.reduceMul,Nat.reduceSub,Nat.reduceLT,Nat.reduceLeDiff,Nat.reduceEqDiff,Nat.reduceBEq,Nat.reduceBNe,reduceIte,reduceCtorEq,Int.reduceToNat,Int.reduceLT,Int.reduceLE,Int.reduceEq,Int.reduceNe,Int.reduceNeg,ustrA,ti36,ca108,ca197,cf,Tryz.results251]
end Go.Proofs.YtnjdbgiincliaaaGreat
/- Calls that change one box at most. -/
set_option linter.unusedVariables false
set_option linter.unusedSimpArgs false
namespace Go.Proofs.YtnjdbgiincliaaaGreat
open Go.Abs
def FrK (i : Nat) (A A' : List Box) : Prop:=A.length ≤ A'.length ∧ ∀ k,k < A.length → k ≠ i → A'.getD k .dead = A.getD k .dead
theorem FrK.trans {i : Nat} {A B C : List Box} (h : FrK i A B) (k : FrK i B C) : FrK i A C :=
  ⟨Nat.le_trans h.1 k.1,fun x hx hi=>by rw [k.2 x (Nat.lt_of_lt_of_le hx h.1) hi,h.2 x hx hi]⟩
theorem FrK.app (i : Nat) (A B : List Box) : FrK i A (A ++ B):=⟨by simp,fun k hk _=>Abs.getD_append_left hk⟩
theorem FrK.refl (i : Nat) (A : List Box) : FrK i A A:=⟨Nat.le_refl _,fun _ _ _=>rfl⟩
theorem take_of_getD {A1 C : List Box} {n : Nat} (hn : n ≤ A1.length) (hc : C.length = n) (h : ∀ k,k < n → A1.getD k .dead = C.getD k .dead) : A1.take n = C:=by
  refine List.ext_getElem (by simp; omega) fun k h1 h2=>?_
  have h3 : k < A1.length:=by omega
  have:=h k (by omega)
  rw [List.getElem_take]
  simpa [List.getD,h3,h2] using this
theorem borrowI {P : Program} {f : FuncId} {args args' : List AV} {A : List Box} {x : AV} (hv : Views A args args') (hx : ifree x = true) (h : ∀ A,ACalls P f args' A (fun v A'=>v = x ∧ A' = A)) : ACalls P f args A (fun v A'=>v = x ∧ A' = A) :=
  ACalls.borrow hv ((h _).mono fun v A' ⟨h1,h2⟩=>⟨[],by rw [h2,List.append_nil],by rw [h1]; exact hx,by simp,h1,by simp⟩)
end Go.Proofs.YtnjdbgiincliaaaGreat
