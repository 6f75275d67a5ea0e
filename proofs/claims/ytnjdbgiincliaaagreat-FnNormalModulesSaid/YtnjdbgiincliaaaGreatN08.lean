/- SpCopyT, SigBase, Binds, OwnTy, OwnPlain, SubI. -/
import Derived.Test.YtnjdbgiincliaaaGreatN07
import Derived.Test.YtnjdbgiincliaaaGreatAbsW3
/- The model's copies of types; sizes of types. -/
set_option linter.unusedVariables false
set_option linter.unusedSimpArgs false
namespace Go.Proofs.YtnjdbgiincliaaaGreat
open Go.Abs
theorem sb_closed (t : Ty) (n : Nat) : (enc t).all (closed1 n) = true:=by cases t; rw [enc]; rfl
theorem sb_drop (t : Ty) : List.drop 4 (enc t) = []:=by cases t; rw [enc]; rfl
set_option maxRecDepth 100000 in
theorem spec_l1Copy0 (τ : Ty) (hτ : sz τ ≤ 1048576) : ∀ (A : List Box),ACalls Tryz.prog 204 [.agg (enc τ)] A (fun r A'=>r = .agg (enc τ) ∧ A' = A):=by
  induction τ using Ty.ind with
  | h k m n ks ih =>
    intro A
    have hks : ks.length ≤ 1048576:=by rw [sz] at hτ; omega
    have hok : ∀ t ∈ ks,sz t ≤ 1048576:=fun t ht=>by rw [sz] at hτ; have:=szs_mem ht; omega
    rw [enc]
    refine acalls_enter (cf:=cf 31 [0,1,2,3,4,16]) foll Tryz.func204 Tryz.ntmps204 (by simp [cf]) ?_
    simp only [Tryz.f204,EnterK_some,zW,zX,zD,builtinA,isLeaf,const1,Nat.reduceAdd,Nat.reduceMul,Nat.reduceSub,Nat.reduceLT,Nat.reduceLeDiff,Nat.reduceEqDiff,Nat.reduceBEq,Nat.reduceBNe,reduceIte,reduceCtorEq,Int.reduceToNat,Int.reduceLT,Int.reduceLE,Int.reduceEq,Int.reduceNe,Int.reduceNeg,ustrA,ti3,ti9,ti34,ti36,ca204,cf,Tryz.results204]
    refine aloop_intro [1,2,3,4] (fun e A'=>∃ i B x,i ≤ ks.length ∧ e = [(1,.ptr A.length 0),(2,.ptr (A.length + 1) 0),(3,.ptr (A.length + 2) 0),(4,.int .i64 i)] ∧ A' = A ++ (.cells [.int .i64 k,.str m,.str n,.slice (encs ks)] :: .cells [.int .i64 0,.str [],.str [],.nils] :: .cells [.int .i64 k,.str m,.str n,x] :: B) ∧
      ((i = 0 ∧ x = .nils ∧ B = []) ∨ (∃ j,x = .own (A.length + (j + 3)) ∧ j < B.length ∧ B.getD j .dead = .row 4 (encs (ks.take i)) 0))) (fun e _=>ks.length - (intOf (Abs.look 4 e)).toNat) ?_ ?_
    · simp only [zW,zX,zD,builtinA,isLeaf,const1,Nat.reduceAdd,Nat.reduceMul,Nat.reduceSub,Nat.reduceLT,Nat.reduceLeDiff,Nat.reduceEqDiff,Nat.reduceBEq,Nat.reduceBNe,reduceIte,reduceCtorEq,Int.reduceToNat,Int.reduceLT,Int.reduceLE,Int.reduceEq,Int.reduceNe,Int.reduceNeg,ustrA,ti3,ti9,ti34,ti36,ca204,cf,Tryz.results204]
      exact ⟨0,[],.nils,by omega,rfl,rfl,.inl ⟨rfl,rfl,rfl⟩⟩
    · rintro e A' ⟨i,B,x,hi,rfl,rfl,hx⟩
      simp only [zW,zX,zD,builtinA,isLeaf,const1,Nat.reduceAdd,Nat.reduceMul,Nat.reduceSub,Nat.reduceLT,Nat.reduceLeDiff,Nat.reduceEqDiff,Nat.reduceBEq,Nat.reduceBNe,reduceIte,reduceCtorEq,Int.reduceToNat,Int.reduceLT,Int.reduceLE,Int.reduceEq,Int.reduceNe,Int.reduceNeg,ustrA,ti3,ti9,ti34,ti36,ca204,cf,Tryz.results204,encs_length]
      refine condK_intro (fun h2=>?_) (fun h2=>?_)
      · have hi2 : i < ks.length:=by simpa using h2
        have he:=encs_getD hi2
        have hmm:=getD_mem hi2
        have hi1 : IntKind.i64.wrap ((i : Int) + 1) = ((i + 1 : Nat) : Int):=by rw [wrap64 (by omega) (by omega)]; rfl
        rcases hx with ⟨rfl,rfl,rfl⟩ | ⟨j,rfl,hj,hg⟩
        · simp only [wpc_skip,AThen_normal,wpc_block,wpc_seq,wpc_drawn]
          refine .inr (drawE_intro [(false,0,2),(false,0,2),(false,0,0),(false,0,0),(false,0,0),(false,0,0),(false,0,0),(true,0,0),(true,1,1),(true,2,2),(false,3,3),(true,3,3)] [A ++ [.cells [.int .i64 k,.str m,.str n,.slice (encs ks)],.cells [.int .i64 0,.str [],.str [],.nils],.cells [.int .i64 k,.str m,.str n,.nils]],A ++ [.cells [.int .i64 k,.str m,.str n,.slice (encs ks)],.cells [.int .i64 0,.str [],.str [],.nils],.cells [.int .i64 k,.str m,.str n,.nils]],A ++ [.cells [.int .i64 k,.str m,.str n,.slice (encs ks)],.cells [.int .i64 0,.str [],.str [],.nils],.cells [.int .i64 k,.str m,.str n,.nils],.row 4 [enc (ks.getD 0 ty0)] 0],A ++ [.cells [.int .i64 k,.str m,.str n,.slice (encs ks)],.cells [.int .i64 0,.str [],.str [],.nils],.cells [.int .i64 k,.str m,.str n,.nils],.row 4 [enc (ks.getD 0 ty0)] 0,.row 4 [enc (ks.getD 0 ty0)] 0],A ++ [.cells [.int .i64 k,.str m,.str n,.slice (encs ks)],.cells [.int .i64 0,.str [],.str [],.nils],.cells [.int .i64 k,.str m,.str n,.own (A.length + 4)],.row 4 [enc (ks.getD 0 ty0)] 0,.row 4 [enc (ks.getD 0 ty0)] 0]] 4 rfl (by kernel_rfl) (by kernel_rfl) (by kernel_rfl) (by kernel_rfl) (by kernel_rfl) (by kernel_rfl) ?_)
          simp only [zW,zX,zD,builtinA,isLeaf,const1,Nat.reduceAdd,Nat.reduceMul,Nat.reduceSub,Nat.reduceLT,Nat.reduceLeDiff,Nat.reduceEqDiff,Nat.reduceBEq,Nat.reduceBNe,reduceIte,reduceCtorEq,Int.reduceToNat,Int.reduceLT,Int.reduceLE,Int.reduceEq,Int.reduceNe,Int.reduceNeg,ustrA,ti3,ti9,ti34,ti36,ca204,cf,Tryz.results204,he,enc_length,enc_take,sb_drop,frzL_enc,sb_closed,Option.map_some,encs_length]
          refine ⟨⟨by omega,by omega⟩,?_⟩
          refine callE_intro (by simp only [zW,zX,zD,builtinA,isLeaf,const1,Nat.reduceAdd,Nat.reduceMul,Nat.reduceSub,Nat.reduceLT,Nat.reduceLeDiff,Nat.reduceEqDiff,Nat.reduceBEq,Nat.reduceBNe,reduceIte,reduceCtorEq,Int.reduceToNat,Int.reduceLT,Int.reduceLE,Int.reduceEq,Int.reduceNe,Int.reduceNeg,ustrA,enc_length,enc_take,sb_drop,frzL_enc,sb_closed,Option.map_some] <;> rfl) (ih _ hmm (hok _ hmm) _) ?_ rfl rfl
          simp only [zW,zX,zD,builtinA,isLeaf,const1,Nat.reduceAdd,Nat.reduceMul,Nat.reduceSub,Nat.reduceLT,Nat.reduceLeDiff,Nat.reduceEqDiff,Nat.reduceBEq,Nat.reduceBNe,reduceIte,reduceCtorEq,Int.reduceToNat,Int.reduceLT,Int.reduceLE,Int.reduceEq,Int.reduceNe,Int.reduceNeg,ustrA,ti3,ti9,ti34,ti36,ca204,cf,Tryz.results204,he,enc_length,enc_take,sb_drop,frzL_enc,sb_closed,Option.map_some,encs_length]
          have hsn : [enc (ks.getD 0 ty0)] = encs (ks.take 1):=by
            match ks,hi2 with
            | t :: l,_=>simp [encs]
          simp only [zW,zX,zD,builtinA,isLeaf,const1,Nat.reduceAdd,Nat.reduceMul,Nat.reduceSub,Nat.reduceLT,Nat.reduceLeDiff,Nat.reduceEqDiff,Nat.reduceBEq,Nat.reduceBNe,reduceIte,reduceCtorEq,Int.reduceToNat,Int.reduceLT,Int.reduceLE,Int.reduceEq,Int.reduceNe,Int.reduceNeg,ustrA,ti3,ti9,ti34,ti36,ca204,cf,Tryz.results204,hi1,LoopK_eq]
          refine ⟨fun v hv=>enc_leaf _ v hv,fun r hr=>by rw [List.mem_singleton.1 hr,enc_length],⟨0 + 1,[.row 4 [enc (ks.getD 0 ty0)] 0,.row 4 [enc (ks.getD 0 ty0)] 0],_,by omega,rfl,rfl,.inr ⟨1,rfl,by simp,by rw [hsn]; rfl⟩⟩,?_⟩
          simp only [intOf]
          omega
        · have hsn : encs (ks.take i) ++ [enc (ks.getD i ty0)] = encs (ks.take (i + 1)):=by
            rw [encs_map,encs_map,List.take_add_one,List.map_append]
            simp [List.getD,hi2]
          simp only [wpc_skip,AThen_normal,wpc_block,wpc_seq,wpc_drawn]
          refine .inr (drawE_intro [(false,0,2),(false,0,2),(false,0,0),(false,0,0),(false,0,0),(false,0,0),(false,0,0),(true,0,0),(true,1,1),(true,2,2),(false,3,3),(true,3,3)] [A ++ (.cells [.int .i64 k,.str m,.str n,.slice (encs ks)] :: .cells [.int .i64 0,.str [],.str [],.nils] :: .cells [.int .i64 k,.str m,.str n,.own (A.length + (j + 3))] :: B),A ++ (.cells [.int .i64 k,.str m,.str n,.slice (encs ks)] :: .cells [.int .i64 0,.str [],.str [],.nils] :: .cells [.int .i64 k,.str m,.str n,.own (A.length + (j + 3))] :: B),A ++ (.cells [.int .i64 k,.str m,.str n,.slice (encs ks)] :: .cells [.int .i64 0,.str [],.str [],.nils] :: .cells [.int .i64 k,.str m,.str n,.own (A.length + (j + 3))] :: (B ++ [.row 4 [enc (ks.getD i ty0)] 0])),A ++ (.cells [.int .i64 k,.str m,.str n,.slice (encs ks)] :: .cells [.int .i64 0,.str [],.str [],.nils] :: .cells [.int .i64 k,.str m,.str n,.own (A.length + (j + 3))] :: (B.set j .dead ++ [.row 4 [enc (ks.getD i ty0)] 0,.row 4 (encs (ks.take i) ++ [enc (ks.getD i ty0)]) 0])),A ++ (.cells [.int .i64 k,.str m,.str n,.slice (encs ks)] :: .cells [.int .i64 0,.str [],.str [],.nils] :: .cells [.int .i64 k,.str m,.str n,.own (A.length + (B.length + 1 + 3))] :: (B.set j .dead ++ [.row 4 [enc (ks.getD i ty0)] 0,.row 4 (encs (ks.take i) ++ [enc (ks.getD i ty0)]) 0]))] 4 rfl (by kernel_rfl) (by kernel_rfl) (by kernel_rfl) (by kernel_rfl) (by kernel_rfl) (by kernel_rfl) ?_)
          simp only [zW,zX,zD,builtinA,isLeaf,const1,Nat.reduceAdd,Nat.reduceMul,Nat.reduceSub,Nat.reduceLT,Nat.reduceLeDiff,Nat.reduceEqDiff,Nat.reduceBEq,Nat.reduceBNe,reduceIte,reduceCtorEq,Int.reduceToNat,Int.reduceLT,Int.reduceLE,Int.reduceEq,Int.reduceNe,Int.reduceNeg,ustrA,ti3,ti9,ti34,ti36,ca204,cf,Tryz.results204,he,hj,hg,enc_length,enc_take,sb_drop,frzL_enc,sb_closed,Option.map_some,encs_length]
          refine ⟨⟨by omega,by omega⟩,?_⟩
          refine callE_intro (by simp only [zW,zX,zD,builtinA,isLeaf,const1,Nat.reduceAdd,Nat.reduceMul,Nat.reduceSub,Nat.reduceLT,Nat.reduceLeDiff,Nat.reduceEqDiff,Nat.reduceBEq,Nat.reduceBNe,reduceIte,reduceCtorEq,Int.reduceToNat,Int.reduceLT,Int.reduceLE,Int.reduceEq,Int.reduceNe,Int.reduceNeg,ustrA,enc_length,enc_take,sb_drop,frzL_enc,sb_closed,Option.map_some] <;> rfl) (ih _ hmm (hok _ hmm) _) ?_ rfl rfl
          simp only [zW,zX,zD,builtinA,isLeaf,const1,Nat.reduceAdd,Nat.reduceMul,Nat.reduceSub,Nat.reduceLT,Nat.reduceLeDiff,Nat.reduceEqDiff,Nat.reduceBEq,Nat.reduceBNe,reduceIte,reduceCtorEq,Int.reduceToNat,Int.reduceLT,Int.reduceLE,Int.reduceEq,Int.reduceNe,Int.reduceNeg,ustrA,ti3,ti9,ti34,ti36,ca204,cf,Tryz.results204,he,hj,hg,enc_length,enc_take,sb_drop,frzL_enc,sb_closed,Option.map_some,encs_length]
          simp only [zW,zX,zD,builtinA,isLeaf,const1,Nat.reduceAdd,Nat.reduceMul,Nat.reduceSub,Nat.reduceLT,Nat.reduceLeDiff,Nat.reduceEqDiff,Nat.reduceBEq,Nat.reduceBNe,reduceIte,reduceCtorEq,Int.reduceToNat,Int.reduceLT,Int.reduceLE,Int.reduceEq,Int.reduceNe,Int.reduceNeg,ustrA,ti3,ti9,ti34,ti36,ca204,cf,Tryz.results204,hi1,LoopK_eq]
          refine ⟨fun v hv=>enc_leaf _ v hv,⟨fun r hr=>by rw [List.mem_singleton.1 hr,enc_length],by rw [List.length_take]; omega⟩,⟨i + 1,B.set j .dead ++ [.row 4 [enc (ks.getD i ty0)] 0,.row 4 (encs (ks.take i) ++ [enc (ks.getD i ty0)]) 0],_,by omega,rfl,rfl,.inr ⟨B.length + 1,rfl,by simp,?_⟩⟩,?_⟩
          · rw [getD_sapp,hsn]; rfl
          · simp only [intOf]
            omega
      · have : i = ks.length:=by simp at h2; omega
        subst this
        rw [List.take_length] at hx
        rcases hx with ⟨h0,rfl,rfl⟩ | ⟨j,rfl,hj,hg⟩
        · have : ks = []:=by cases ks with
            | nil=>rfl
            | cons=>simp at h0
          subst this
          simp only [zW,zX,zD,builtinA,isLeaf,const1,Nat.reduceAdd,Nat.reduceMul,Nat.reduceSub,Nat.reduceLT,Nat.reduceLeDiff,Nat.reduceEqDiff,Nat.reduceBEq,Nat.reduceBNe,reduceIte,reduceCtorEq,Int.reduceToNat,Int.reduceLT,Int.reduceLE,Int.reduceEq,Int.reduceNe,Int.reduceNeg,ustrA,ti3,ti9,ti34,ti36,ca204,cf,Tryz.results204,encs]
        · simp only [zW,zX,zD,builtinA,isLeaf,const1,Nat.reduceAdd,Nat.reduceMul,Nat.reduceSub,Nat.reduceLT,Nat.reduceLeDiff,Nat.reduceEqDiff,Nat.reduceBEq,Nat.reduceBNe,reduceIte,reduceCtorEq,Int.reduceToNat,Int.reduceLT,Int.reduceLE,Int.reduceEq,Int.reduceNe,Int.reduceNeg,ustrA,ti3,ti9,ti34,ti36,ca204,cf,Tryz.results204,hg,hj]
theorem sz_toTyS : ∀ v,okV v = true → sz (toTy v) ≤ 2 * cnt v
  | .num,_=>by simp [toTy,sz,szs,cnt]
  | .nm m n,h=>by
    simp only [okV,nmB,Bool.and_eq_true,Bool.or_eq_true,decide_eq_true_eq] at h
    have h1 : n.length = 1:=by have:=h.2; simp only [localB,Bool.and_eq_true,beq_iff_eq] at this; exact this.1
    have h2 : m.length ≤ 1:=by
      rcases h.1 with rfl | h
      · simp
      · simp only [moduleB,Bool.and_eq_true,beq_iff_eq] at h; omega
    simp only [toTy,sz,szs,cnt,List.length_nil]; omega
  | .fn a b,h=>by
    simp only [okV,Bool.and_eq_true] at h
    have ha:=sz_toTyS a h.1
    have hb:=sz_toTyS b h.2
    simp only [toTy,sz,szs,cnt,List.length_nil,List.length_cons]; omega
theorem ok_toTyS : ∀ v,okV v = true → (toTy v).Ok
  | .num,_=>.mk (by simp) (by simp) (by simp) (by simp)
  | .nm m n,h=>by
    simp only [okV,nmB,Bool.and_eq_true,Bool.or_eq_true,decide_eq_true_eq] at h
    have h1 : n.length = 1:=by have:=h.2; simp only [localB,Bool.and_eq_true,beq_iff_eq] at this; exact this.1
    have h2 : m.length ≤ 1:=by
      rcases h.1 with rfl | h
      · simp
      · simp only [moduleB,Bool.and_eq_true,beq_iff_eq] at h; omega
    exact .mk (by omega) (by omega) (by simp) (by simp)
  | .fn a b,h=>by
    simp [okV] at h
    refine .mk (by simp) (by simp) (by simp) fun t ht=>?_
    simp at ht
    rcases ht with rfl | rfl
    · exact ok_toTyS a h.1
    · exact ok_toTyS b h.2
end Go.Proofs.YtnjdbgiincliaaaGreat
/- Signatures: what both sides' texts share. -/
set_option linter.unusedVariables false
set_option linter.unusedSimpArgs false
namespace Go.Proofs.YtnjdbgiincliaaaGreat
open Go.Abs
def meanI : VI → VT
  | .ab n=>.nm [] n
  | .al _ v=>v
  | .va _ v=>v
def siOf : VI → SigI
  | .ab n=>⟨1,n,ty0⟩
  | .al n v=>⟨2,n,toTy v⟩
  | .va n v=>⟨3,n,toTy v⟩
theorem itemOf_si {x : SigI} {y : VI} (h : ItemOf x y) : x = siOf y:=by
  obtain ⟨k,n,t⟩:=x
  cases y <;> simp only [ItemOf] at h
  · obtain ⟨rfl,rfl,rfl⟩:=h; rfl
  · obtain ⟨rfl,rfl,rfl,_⟩:=h; rfl
  · obtain ⟨rfl,rfl,rfl,_⟩:=h; rfl
theorem itemOf_of {y : VI} (h : VOk (meanI y)) : ItemOf (siOf y) y:=by
  cases y with
  | ab n=>exact ⟨rfl,rfl,rfl⟩
  | al n v=>exact ⟨rfl,rfl,rfl,h⟩
  | va n v=>exact ⟨rfl,rfl,rfl,h⟩
theorem siOf_name (y : VI) : (siOf y).name = (viK y).2:=by cases y <;> rfl
theorem sEs_app (a b : List SigI) : sEs (a ++ b) = sEs a ++ sEs b:=by simp [sEs]
theorem mix_getD {Z : List SigI} {s : List SigI} {i : Nat} (hz : Z.length = i) (hi : i < s.length) : (sEs (Z ++ s.drop i)).getD i [] = sE (s.getD i si0):=by
  rw [sEs_app,Abs.getD_append_right (by rw [sEs_length]; omega),sEs_length,hz,Nat.sub_self]
  simp [sEs,List.getD,hi]
theorem mix_drop {s : List SigI} {i : Nat} (hi : i < s.length) : s.drop i = s.getD i si0 :: s.drop (i + 1):=by
  have : s.getD i si0 = s[i]:=by simp [List.getD,hi]
  rw [this,List.getElem_cons_drop hi]
theorem mix_set {Z : List SigI} {s : List SigI} {i : Nat} (x : SigI) (hz : Z.length = i) (hi : i < s.length) : (sEs (Z ++ s.drop i)).set i (sE x) = sEs ((Z ++ [x]) ++ s.drop (i + 1)):=by
  rw [mix_drop hi,sEs_app,List.set_append_right _ _ (by rw [sEs_length]; omega),sEs_length,hz,Nat.sub_self]
  simp [sEs]
theorem okI_ty {w : VT} (h : VOk w) (k : Int) {n : List UInt8} (hn : n.length < 2 ^ 63) : (⟨k,n,toTy w⟩ : SigI).Ok ∧ sz (toTy w) ≤ 1048576:=by
  have:=sz_toTyS _ h.ok
  have:=h.cnt
  exact ⟨⟨hn,ok_toTyS _ h.ok⟩,by omega⟩
theorem siOf_ok {y : VI} (h : VOk (meanI y)) (hn : (viK y).2.length < 2 ^ 63) : (siOf y).Ok ∧ sz (siOf y).typ ≤ 1048576:=by
  cases y with
  | ab n=>exact ⟨⟨hn,by show ty0.Ok; rw [ty0]; exact .mk (by simp) (by simp) (by simp) (by simp)⟩,by simp [siOf,ty0,sz,szs]⟩
  | al n v=>exact okI_ty h 2 hn
  | va n v=>exact okI_ty h 3 hn
theorem sEs_set (s : List SigI) (k : Nat) (x : SigI) : (sEs s).set k (sE x) = sEs (s.set k x):=by
  simp only [sEs,List.map_set]
theorem mean_ok {x : SigI} {y : VI} (hl : localB x.name = true) (h : ItemOf x y) : VOk (meanI y):=by
  cases y with
  | ab n=>exact ⟨by simp only [meanI,okV,nmB]; rw [← h.1,hl]; simp,by simp [meanI,dep],by simp [meanI,cnt]⟩
  | al n v=>exact h.2.2.2
  | va n v=>exact h.2.2.2
set_option maxRecDepth 100000 in
theorem spec_l2Copy (s : List SigI) (hl : s.length ≤ 1048576) (hz : ∀ x ∈ s,sz x.typ ≤ 1048576) (A : List Box) : ACalls Tryz.prog 118 [.slice (sEs s)] A (fun r A'=>∃ B j,A' = A ++ B ∧ r = .own (A.length + j) ∧ j < B.length ∧ B.getD j .dead = .row 6 (sEs s) 0):=by
  refine acalls_enterK (cf:=cf 33 [0,2,3,4,9]) foll Tryz.func118 Tryz.ntmps118 (by simp [cf]) ?_
  simp only [Tryz.f118,EnterK_some,zW,zX,zD,builtinA,isLeaf,const1,ustrA,simprocAttr,ti3,ti9,ti36,ti50,ti69,ca204,cf,Tryz.results118]
  refine aloop_intro [0,3,4] (fun e A'=>∃ i j B,i ≤ s.length ∧ e = [(0,.slice (sEs s)),(3,.own (A.length + j)),(4,.int .i64 i)] ∧ A' = A ++ B ∧ j < B.length ∧ B.getD j .dead = .row 6 (sEs (s.take i)) 0) (fun e _=>s.length - (intOf (Abs.look 4 e)).toNat) ?_ ?_
  · simp only [zW,zX,zD,builtinA,isLeaf,const1,ustrA,simprocAttr,ti3,ti9,ti36,ti50,ti69,ca204,cf,Tryz.results118]
    exact ⟨0,0,[.row 6 [] 0],by omega,rfl,rfl,by simp,rfl⟩
  · rintro e A' ⟨i,j,B,hi,rfl,rfl,hj,hg⟩
    simp only [zW,zX,zD,builtinA,isLeaf,const1,ustrA,simprocAttr,ti3,ti9,ti36,ti50,ti69,ca204,cf,Tryz.results118,sEs_length]
    refine condK_intro (fun h2=>?_) (fun h2=>?_)
    · have hi2 : i < s.length:=by simpa using h2
      have he:=sEs_getD hi2
      have hmm : s.getD i si0 ∈ s:=by simp [List.getD,hi2]
      have hi1 : IntKind.i64.wrap ((i : Int) + 1) = ((i + 1 : Nat) : Int):=by rw [wrap64 (by omega) (by omega)]; rfl
      have hsn : sEs (s.take i) ++ [sE (s.getD i si0)] = sEs (s.take (i + 1)):=by
        rw [sEs,sEs,List.take_add_one,List.map_append]
        simp [List.getD,hi2]
      have pi : (0 : Int) ≤ (i : Int) ∧ (i : Int) < (s.length : Int):=⟨by omega,by omega⟩
      generalize hx : s.getD i si0 = x at *
      simp only [sE] at he hsn
      have hl6 : ∀ (k : Int) (n : List UInt8) (t : Ty),(AV.int .i64 k :: .str n :: enc t).length = 6:=fun k n t=>by simp [enc_length]
      simp only [wpc_skip,AThen_normal,wpc_block,wpc_seq,wpc_drawn]
      refine .inr (drawE_intro [(false,0,2),(false,0,1),(false,0,1),(false,0,1),(false,0,1),(false,0,1),(false,0,1),(false,0,1),(false,0,1),(false,0,1),(false,0,1),(false,0,0),(false,0,0),(false,0,0),(false,0,0),(false,0,0),(true,0,0),(false,1,1),(true,1,1),(true,2,2),(false,3,3)] [A ++ B,A ++ B,A ++ (B ++ [.row 6 [(.int .i64 x.kind :: .str x.name :: enc x.typ)] 0]),A ++ (B.set j .dead ++ [.row 6 [(.int .i64 x.kind :: .str x.name :: enc x.typ)] 0,.row 6 (sEs (s.take i) ++ [(.int .i64 x.kind :: .str x.name :: enc x.typ)]) 0])] 3 rfl (by kernel_rfl) (by kernel_rfl) (by kernel_rfl) (by kernel_rfl) (by kernel_rfl) (by kernel_rfl) ?_)
      simp only [zW,zX,zD,builtinA,isLeaf,const1,ustrA,simprocAttr,ti3,ti9,ti36,ti50,ti69,ca204,cf,Tryz.results118,he,hj,hg,enc_length,enc_take,sb_drop,frzL_enc,sb_closed,Option.map_some,sEs_length]
      refine ⟨pi,pi,pi,pi,pi,?_⟩
      refine callE_intro (by simp only [zW,zX,zD,builtinA,isLeaf,const1,ustrA,simprocAttr,enc_length,enc_take,sb_drop,frzL_enc,sb_closed,Option.map_some] <;> rfl) (spec_l1Copy0 x.typ (hz x hmm) _) ?_ rfl rfl
      simp only [zW,zX,zD,builtinA,isLeaf,const1,ustrA,simprocAttr,ti3,ti9,ti36,ti50,ti69,ca204,cf,Tryz.results118,he,hj,hg,enc_length,enc_take,sb_drop,frzL_enc,sb_closed,Option.map_some,sEs_length,hl6]
      simp only [zW,zX,zD,builtinA,isLeaf,const1,ustrA,simprocAttr,ti3,ti9,ti36,ti50,ti69,ca204,cf,Tryz.results118,hi1,LoopK_eq]
      refine ⟨fun v hv=>sE_leaf x v hv,⟨fun r hr=>by rw [List.mem_singleton.1 hr]; exact hl6 _ _ _,by rw [List.length_take]; omega⟩,⟨i + 1,B.length + 1,B.set j .dead ++ [.row 6 [(.int .i64 x.kind :: .str x.name :: enc x.typ)] 0,.row 6 (sEs (s.take i) ++ [(.int .i64 x.kind :: .str x.name :: enc x.typ)]) 0],by omega,rfl,rfl,by simp,?_⟩,?_⟩
      · rw [getD_sapp,hsn]; rfl
      · simp only [intOf]
        omega
    · have : i = s.length:=by simp at h2; omega
      subst this
      rw [List.take_length] at hg
      simp only [zW,zX,zD,builtinA,isLeaf,const1,ustrA,simprocAttr,ti3,ti9,ti36,ti50,ti69,ca204,cf,Tryz.results118,hg,hj]
      exact ⟨B,j,rfl,rfl,hj,hg⟩
theorem itemOk_of {x : SigI} (h : itemOk x = true) : localB x.name = true ∧ ∃ y,ItemOf x y:=by
  rw [itemOk,Bool.and_eq_true] at h
  refine ⟨h.1,?_⟩
  have h2:=h.2
  by_cases k1 : x.kind = 1
  · rw [if_pos k1] at h2
    exact ⟨.ab x.name,rfl,k1,of_decide_eq_true h2⟩
  · rw [if_neg k1] at h2
    by_cases k2 : x.kind = 2 ∨ x.kind = 3
    · rw [if_pos k2] at h2
      rcases valid_cases x.typ with ⟨v,hv,hv2⟩ | hv
      · rcases k2 with k2 | k2
        · exact ⟨.al x.name v,rfl,k2,hv,hv2⟩
        · exact ⟨.va x.name v,rfl,k2,hv,hv2⟩
      · rw [hv] at h2; cases h2
    · rw [if_neg k2] at h2; cases h2
open Classical in
theorem reads_or (s : List SigI) : (∃ x ∈ s,itemOk x = false) ∨ ∃ ys,ReadsTo s ys:=by
  by_cases h : ∃ x ∈ s,itemOk x = false
  · exact .inl h
  · have h' : ∀ x ∈ s,itemOk x = true:=fun x hx=>by
      cases hc : itemOk x with
      | true=>rfl
      | false=>exact absurd ⟨x,hx,hc⟩ h
    refine .inr ⟨s.map fun x=>if hx : ∃ y,ItemOf x y then hx.choose else vi0,by simp,fun i hi=>?_⟩
    have hm:=si_mem hi
    obtain ⟨h1,h2⟩:=itemOk_of (h' _ hm)
    refine ⟨h1,?_⟩
    have e : (s.map fun x=>if hx : ∃ y,ItemOf x y then hx.choose else vi0).getD i vi0 = if hx : ∃ y,ItemOf (s.getD i si0) y then hx.choose else vi0:=by
      simp [List.getD,hi]
    rw [e,dif_pos h2]
    exact h2.choose_spec
theorem sigB_yes {s : List SigI} (h : sigB s = true) : ∃ ys,s.length ≤ 8 ∧ ReadsTo s ys ∧ ordB ys = true:=by
  have h8 : s.length ≤ 8:=by
    rcases Nat.lt_or_ge 8 s.length with h1 | h1
    · rw [sigB_bad (.inl h1)] at h; cases h
    · exact h1
  rcases reads_or s with hb | ⟨ys,hr⟩
  · rw [sigB_bad (.inr hb)] at h; cases h
  · exact ⟨ys,h8,hr,by rw [← sigB_reads h8 hr]; exact h⟩
end Go.Proofs.YtnjdbgiincliaaaGreat
/- Bindings as data, and what the laws' helpers do with lists of them. -/
set_option linter.unusedVariables false
set_option linter.unusedSimpArgs false
namespace Go.Proofs.YtnjdbgiincliaaaGreat
open Go.Abs
theorem bT4 (t : Ty) : enc t = [.int .i64 t.kind,.str t.mod,.str t.name,.slice (encs t.kids)]:=by cases t; rw [enc]; rfl
structure BdI where
  mod : List UInt8
  name : List UInt8
  typ : Ty
def bd0 : BdI:=⟨[],[],ty0⟩
def bE (x : BdI) : List AV:=[.str x.mod,.str x.name,.int .i64 x.typ.kind,.str x.typ.mod,.str x.typ.name,.slice (encs x.typ.kids)]
def bEs (l : List BdI) : List (List AV):=l.map bE
def BdI.Ok (x : BdI) : Prop:=x.mod.length < 2 ^ 63 ∧ x.name.length < 2 ^ 63 ∧ x.typ.Ok
def zbd : List AV:=[.str [],.str [],.int .i64 0,.str [],.str [],.slice []]
theorem bE_leaf (x : BdI) : ∀ v ∈ bE x,isLeaf v = true:=by simp [bE,isLeaf]
theorem bEs_length (l : List BdI) : (bEs l).length = l.length:=by simp [bEs]
theorem bEs_getD {l : List BdI} {i : Nat} (h : i < l.length) : (bEs l).getD i [] = bE (l.getD i bd0):=by simp [bEs,List.getD,h]
end Go.Proofs.YtnjdbgiincliaaaGreat
/- Types that are owned: their lists of kids lie in boxes. -/
set_option linter.unusedVariables false
set_option linter.unusedSimpArgs false
namespace Go.Proofs.YtnjdbgiincliaaaGreat
open Go.Abs
mutual
def OwnT (A : List Box) : Ty → List AV → List Nat → Prop
  | .mk k m n ks,r,S=>∃ v,r = [.int .i64 k,.str m,.str n,v] ∧ ((v = .nils ∧ ks = [] ∧ S = []) ∨ (v = .slice [] ∧ ks = [] ∧ S = []) ∨ ∃ i rows S',v = .own i ∧ S = i :: S' ∧ A.getD i .dead = .gr none 4 rows ∧ OwnR A ks rows S')
def OwnR (A : List Box) : List Ty → List (List AV) → List Nat → Prop
  | [],rows,S=>rows = [] ∧ S = []
  | t :: ks,rows,S=>∃ r rows' S1 S2,rows = r :: rows' ∧ S = S1 ++ S2 ∧ OwnT A t r S1 ∧ OwnR A ks rows' S2
end
def OwnK (A : List Box) (ks : List Ty) (v : AV) (S : List Nat) : Prop :=
  (v = .nils ∧ ks = [] ∧ S = []) ∨ (v = .slice [] ∧ ks = [] ∧ S = []) ∨ ∃ i rows S',v = .own i ∧ S = i :: S' ∧ A.getD i .dead = .gr none 4 rows ∧ OwnR A ks rows S'
theorem ownT_mk {A : List Box} {k : Int} {m n : List UInt8} {ks : List Ty} {r : List AV} {S : List Nat} : OwnT A (.mk k m n ks) r S ↔ ∃ v,r = [.int .i64 k,.str m,.str n,v] ∧ OwnK A ks v S:=by
  rw [OwnT]; rfl
mutual
theorem OwnT.frame {A A' : List Box} : ∀ {t : Ty} {r : List AV} {S : List Nat},OwnT A t r S → (∀ i ∈ S,A'.getD i .dead = A.getD i .dead) → OwnT A' t r S
  | .mk k m n ks,r,S,h,hf=>by
    rw [OwnT] at h ⊢
    obtain ⟨v,hr,h⟩:=h
    refine ⟨v,hr,?_⟩
    rcases h with h | h | ⟨i,rows,S',h1,h2,h3,h4⟩
    · exact .inl h
    · exact .inr (.inl h)
    · subst h2
      exact .inr (.inr ⟨i,rows,S',h1,rfl,by rw [hf i (by simp)]; exact h3,OwnR.frame h4 fun j hj=>hf j (by simp [hj])⟩)
theorem OwnR.frame {A A' : List Box} : ∀ {ks : List Ty} {rows : List (List AV)} {S : List Nat},OwnR A ks rows S → (∀ i ∈ S,A'.getD i .dead = A.getD i .dead) → OwnR A' ks rows S
  | [],rows,S,h,hf=>by rw [OwnR] at h ⊢; exact h
  | t :: ks,rows,S,h,hf=>by
    rw [OwnR] at h ⊢
    obtain ⟨r,rows',S1,S2,h1,h2,h3,h4⟩:=h
    subst h2
    exact ⟨r,rows',S1,S2,h1,rfl,OwnT.frame h3 fun j hj=>hf j (by simp [hj]),OwnR.frame h4 fun j hj=>hf j (by simp [hj])⟩
end
theorem OwnK.frame {A A' : List Box} {ks : List Ty} {v : AV} {S : List Nat} (h : OwnK A ks v S) (hf : ∀ i ∈ S,A'.getD i .dead = A.getD i .dead) : OwnK A' ks v S:=by
  rcases h with h | h | ⟨i,rows,S',h1,h2,h3,h4⟩
  · exact .inl h
  · exact .inr (.inl h)
  · subst h2
    exact .inr (.inr ⟨i,rows,S',h1,rfl,by rw [hf i (by simp)]; exact h3,h4.frame fun j hj=>hf j (by simp [hj])⟩)
theorem OwnR.length {A : List Box} : ∀ {ks : List Ty} {rows : List (List AV)} {S : List Nat},OwnR A ks rows S → rows.length = ks.length
  | [],rows,S,h=>by rw [OwnR] at h; rw [h.1]; rfl
  | t :: ks,rows,S,h=>by
    rw [OwnR] at h
    obtain ⟨r,rows',S1,S2,h1,h2,h3,h4⟩:=h
    subst h1
    simp [OwnR.length h4]
theorem live_lt {A : List Box} {i : Nat} {b : Box} (h : A.getD i .dead = b) (hb : b ≠ .dead) : i < A.length:=by
  rcases Nat.lt_or_ge i A.length with hh | hh
  · exact hh
  · simp [List.getD,Nat.not_lt.2 hh] at h; exact absurd h.symm hb
mutual
theorem OwnT.low {A : List Box} : ∀ {t : Ty} {r : List AV} {S : List Nat},OwnT A t r S → ∀ i ∈ S,i < A.length
  | .mk k m n ks,r,S,h=>by
    rw [OwnT] at h
    obtain ⟨v,hr,h⟩:=h
    rcases h with ⟨_,_,rfl⟩ | ⟨_,_,rfl⟩ | ⟨i,rows,S',h1,rfl,h3,h4⟩
    · simp
    · simp
    · intro j hj
      rcases List.mem_cons.1 hj with rfl | hj
      · exact live_lt h3 (by simp)
      · exact OwnR.low h4 j hj
theorem OwnR.low {A : List Box} : ∀ {ks : List Ty} {rows : List (List AV)} {S : List Nat},OwnR A ks rows S → ∀ i ∈ S,i < A.length
  | [],rows,S,h=>by rw [OwnR] at h; rw [h.2]; simp
  | t :: ks,rows,S,h=>by
    rw [OwnR] at h
    obtain ⟨r,rows',S1,S2,h1,rfl,h3,h4⟩:=h
    intro j hj
    rcases List.mem_append.1 hj with hj | hj
    · exact OwnT.low h3 j hj
    · exact OwnR.low h4 j hj
end
theorem OwnK.low {A : List Box} {ks : List Ty} {v : AV} {S : List Nat} (h : OwnK A ks v S) : ∀ i ∈ S,i < A.length:=by
  rcases h with ⟨_,_,rfl⟩ | ⟨_,_,rfl⟩ | ⟨i,rows,S',h1,rfl,h3,h4⟩
  · simp
  · simp
  · intro j hj
    rcases List.mem_cons.1 hj with rfl | hj
    · exact live_lt h3 (by simp)
    · exact h4.low j hj
theorem enc4 (k : Int) (m n : List UInt8) (ks : List Ty) : enc (.mk k m n ks) = [.int .i64 k,.str m,.str n,.slice (encs ks)]:=by rw [enc]
theorem rows_view {A : List Box} {i : Nat} {rows : List (List AV)} {ks : List Ty} (h : A.getD i .dead = .gr none 4 rows) (hl : rows.length = ks.length)
    (hv : ∀ k,k < rows.length → ∀ j,j < 4 → View A ((rows.getD k []).getD j .bot) ((enc (ks.getD k ty0)).getD j .bot)) : View A (.own i) (.slice (encs ks)):=by
  refine .gr i 4 none rows (encs ks) h (by rw [encs_length,hl]) (fun r hr=>?_) fun k j hk hj=>?_
  · rw [encs_map] at hr
    obtain ⟨t,_,rfl⟩:=List.mem_map.1 hr
    exact ⟨enc_length t,enc_leaf t⟩
  · unfold Abs.rowAt
    rw [encs_getD (by omega)]
    exact hv k hk j hj
mutual
theorem OwnT.view {A : List Box} : ∀ {t : Ty} {r : List AV} {S : List Nat},OwnT A t r S → r.length = 4 ∧ ∀ j,j < 4 → View A (r.getD j .bot) ((enc t).getD j .bot)
  | .mk k m n ks,r,S,h=>by
    rw [OwnT] at h
    obtain ⟨v,rfl,h⟩:=h
    have hk : View A v (.slice (encs ks)):=by
      rcases h with ⟨rfl,rfl,_⟩ | ⟨rfl,rfl,_⟩ | ⟨i,rows,S',rfl,_,h3,h4⟩
      · exact .nils
      · exact .leaf _ rfl
      · exact rows_view h3 h4.length (OwnR.view h4)
    refine ⟨rfl,fun j hj=>?_⟩
    rw [enc4]
    match j,hj with
    | 0,_=>exact .leaf _ rfl
    | 1,_=>exact .leaf _ rfl
    | 2,_=>exact .leaf _ rfl
    | 3,_=>exact hk
theorem OwnR.view {A : List Box} : ∀ {ks : List Ty} {rows : List (List AV)} {S : List Nat},OwnR A ks rows S → ∀ k,k < rows.length → ∀ j,j < 4 → View A ((rows.getD k []).getD j .bot) ((enc (ks.getD k ty0)).getD j .bot)
  | [],rows,S,h=>by rw [OwnR] at h; rw [h.1]; intro k hk; simp at hk
  | t :: ks,rows,S,h=>by
    rw [OwnR] at h
    obtain ⟨r,rows',S1,S2,rfl,h2,h3,h4⟩:=h
    intro k hk j hj
    cases k with
    | zero=>exact (OwnT.view h3).2 j hj
    | succ k =>
      have:=OwnR.view h4 k (by simpa using hk) j hj
      simpa using this
end
theorem OwnK.view {A : List Box} {ks : List Ty} {v : AV} {S : List Nat} (h : OwnK A ks v S) : View A v (.slice (encs ks)):=by
  rcases h with ⟨rfl,rfl,_⟩ | ⟨rfl,rfl,_⟩ | ⟨i,rows,S',rfl,_,h3,h4⟩
  · exact .nils
  · exact .leaf _ rfl
  · exact rows_view h3 h4.length h4.view
end Go.Proofs.YtnjdbgiincliaaaGreat
/- What the program's method plain makes: a type that is owned. -/
set_option linter.unusedVariables false
set_option linter.unusedSimpArgs false
namespace Go.Proofs.YtnjdbgiincliaaaGreat
open Go.Abs
def isFn : VT → Bool
  | .fn _ _=>true
  | _=>false
def plen : VT → Nat
  | .fn a b=>3 + plen a + plen b
  | _=>2
def prow : VT → Nat → Bool → List AV
  | .num,n,nest=>[.int .i64 1,.str [],.str [],bif nest then .nils else .slice []]
  | .nm m k,n,nest=>[.int .i64 3,.str m,.str k,bif nest then .nils else .slice []]
  | .fn a b,n,nest=>[.int .i64 2,.str [],.str [],.own (n + (2 + plen a + plen b))]
def pbox : VT → Nat → List Box
  | .num,n=>[.cells [],.cells [.int .i64 1,.str [],.str [],.nils]]
  | .nm m k,n=>[.cells [.str m,.str k],.cells [.int .i64 3,.str m,.str k,.nils]]
  | .fn a b,n=>.cells [.iface (vT a) (vX a),.iface (vT b) (vX b)] :: .cells [.int .i64 2,.str [],.str [],.own (n + (2 + plen a + plen b))] :: (pbox a (n + 2) ++ (pbox b (n + 2 + plen a) ++
      [.gr none 4 [prow a (n + 2) (isFn a || isFn b),prow b (n + 2 + plen a) (isFn a || isFn b)]]))
def pidx : VT → Nat → List Nat
  | .fn a b,n=>(n + (2 + plen a + plen b)) :: (pidx a (n + 2) ++ pidx b (n + 2 + plen a))
  | _,_=>[]
theorem pbox_length : ∀ v n,(pbox v n).length = plen v
  | .num,n=>rfl
  | .nm _ _,n=>rfl
  | .fn a b,n=>by simp [pbox,plen,pbox_length a,pbox_length b]; omega
theorem pidx_in : ∀ v n,∀ i ∈ pidx v n,n ≤ i ∧ i < n + plen v
  | .num,n=>by simp [pidx]
  | .nm _ _,n=>by simp [pidx]
  | .fn a b,n=>by
    intro i hi
    simp only [pidx,List.mem_cons,List.mem_append] at hi
    simp only [plen]
    rcases hi with rfl | hi | hi
    · omega
    · have:=pidx_in a _ i hi; omega
    · have:=pidx_in b _ i hi; omega
theorem pidx_nodup : ∀ v n,(pidx v n).Nodup
  | .num,n=>by simp [pidx]
  | .nm _ _,n=>by simp [pidx]
  | .fn a b,n=>by
    simp only [pidx,List.nodup_cons,List.mem_append,not_or]
    refine ⟨⟨fun h=>?_,fun h=>?_⟩,List.nodup_append.2 ⟨pidx_nodup a _,pidx_nodup b _,fun x hx y hy=>?_⟩⟩
    · have:=pidx_in a _ _ h; omega
    · have:=pidx_in b _ _ h; omega
    · have:=pidx_in a _ _ hx; have:=pidx_in b _ _ hy; omega
theorem prow_length (v : VT) (n : Nat) (b : Bool) : (prow v n b).length = 4:=by cases v <;> rfl
theorem prow_leaf (v : VT) (n : Nat) (h : isFn v = false) : ∀ x ∈ prow v n false,isLeaf x = true:=by
  cases v with
  | num=>simp [prow,isLeaf]
  | nm=>simp [prow,isLeaf]
  | fn=>cases h
theorem prow_elem (v : VT) (n : Nat) (b : Bool) : ∀ x ∈ prow v n b,isElem x = true:=by
  cases v <;> cases b <;> simp [prow,isElem,isLeaf]
theorem tail_app (A : List Box) (x y : Box) (P Q : List Box) (z : Box) : A ++ x :: y :: (P ++ (Q ++ [z])) = (A ++ x :: y :: (P ++ Q)) ++ [z]:=by simp
theorem pbox_top (x y : VT) (n : Nat) (B C : List Box) (h : B.length = n) : (B ++ pbox (.fn x y) n ++ C).getD (n + (2 + plen x + plen y)) .dead = .gr none 4 [prow x (n + 2) (isFn x || isFn y),prow y (n + 2 + plen x) (isFn x || isFn y)]:=by
  have hl:=pbox_length (.fn x y) n
  simp only [plen] at hl
  rw [Abs.getD_append_left (by rw [List.length_append]; omega),Abs.getD_append_right (by omega),h,show n + (2 + plen x + plen y) - n = (plen x + plen y) + 1 + 1 by omega]
  simp only [pbox,List.getD_cons_succ]
  rw [Abs.getD_append_right (by rw [pbox_length]; omega),pbox_length,show plen x + plen y - plen x = plen y by omega,Abs.getD_append_right (by rw [pbox_length]; omega),pbox_length,Nat.sub_self]
  rfl
theorem own_plain : ∀ (v : VT) (n : Nat) (nest : Bool) (L : List Box),(∀ k,k < plen v → L.getD (n + k) .dead = (pbox v n).getD k .dead) → OwnT L (toTy v) (prow v n nest) (pidx v n)
  | .num,n,nest,L,h=>by
    rw [toTy,ownT_mk]
    cases nest
    · exact ⟨.slice [],rfl,.inr (.inl ⟨rfl,rfl,rfl⟩)⟩
    · exact ⟨.nils,rfl,.inl ⟨rfl,rfl,rfl⟩⟩
  | .nm m k,n,nest,L,h=>by
    rw [toTy,ownT_mk]
    cases nest
    · exact ⟨.slice [],rfl,.inr (.inl ⟨rfl,rfl,rfl⟩)⟩
    · exact ⟨.nils,rfl,.inl ⟨rfl,rfl,rfl⟩⟩
  | .fn a b,n,nest,L,h=>by
    rw [toTy,ownT_mk]
    have ha:=own_plain a (n + 2) (isFn a || isFn b) L fun k hk=>by
      have:=h (2 + k) (by simp [plen]; omega)
      rw [show n + 2 + k = n + (2 + k) by omega,this]
      simp only [pbox]
      rw [show 2 + k = k + 1 + 1 by omega,List.getD_cons_succ,List.getD_cons_succ,Abs.getD_append_left (by rw [pbox_length]; exact hk)]
    have hb:=own_plain b (n + 2 + plen a) (isFn a || isFn b) L fun k hk=>by
      have:=h (2 + plen a + k) (by simp [plen]; omega)
      rw [show n + 2 + plen a + k = n + (2 + plen a + k) by omega,this]
      simp only [pbox]
      rw [show 2 + plen a + k = (plen a + k) + 1 + 1 by omega,List.getD_cons_succ,List.getD_cons_succ,Abs.getD_append_right (by rw [pbox_length]; omega),pbox_length,
        show plen a + k - plen a = k by omega,Abs.getD_append_left (by rw [pbox_length]; exact hk)]
    refine ⟨.own (n + (2 + plen a + plen b)),rfl,.inr (.inr ⟨_,[prow a (n + 2) (isFn a || isFn b),prow b (n + 2 + plen a) (isFn a || isFn b)],_,rfl,rfl,?_,?_⟩)⟩
    · rw [h (2 + plen a + plen b) (by rw [plen]; omega)]
      simp only [pbox]
      rw [show 2 + plen a + plen b = (plen a + plen b) + 1 + 1 by omega,List.getD_cons_succ,List.getD_cons_succ,Abs.getD_append_right (by rw [pbox_length]; omega),pbox_length,
        show plen a + plen b - plen a = plen b by omega,Abs.getD_append_right (by rw [pbox_length]; omega),pbox_length,Nat.sub_self]
      rfl
    · rw [OwnR]
      refine ⟨_,_,_,_,rfl,rfl,ha,?_⟩
      rw [OwnR]
      exact ⟨_,_,pidx b (n + 2 + plen a),[],rfl,by simp,hb,by simp [OwnR]⟩
theorem meth_invE {own : FuncId → Bool} {name : String} {gs : VT → FuncId} {v : VT} {args : List AV} {x : AV} {N : Nat} {ops : Array Oper} {T : Ranks} {As : Nat → List Box} {Q : Env → Prop} {k : Nat} {rest : List Oper} {d : Option Tmp} {e : Env}
    (hm : Met name gs) (h : ACalls Tryz.prog (gs v) (vX v :: args) (As (T.lo k)) (fun v' A'=>v' = x ∧ A' = As (T.next k (T.lo k)))) (hr : T.lo k = T.hi k)
    (hk : wpG Tryz.prog own N ops T As Q (k + 1) rest (putA N d x e)) : InvE Tryz.prog own N ops T As Q k name (.iface (vT v) (vX v)) args rest d e :=
  ⟨gs v,hm.find v,hm.call v,callEO_intro h hk hr⟩
def PlainM (v : VT) : Prop:=∀ A,ACalls Tryz.prog ((pickF 430 437 114) v) [vX v] A (fun r A'=>r = .agg (prow v A.length true) ∧ A' = A ++ pbox v A.length)
set_option maxRecDepth 100000 in
theorem num_plain : PlainM .num:=fun A=>by
  show ACalls Tryz.prog 430 _ _ _
  rw [vX]
  refine acalls_enterK (cf:=cf 4 [0,2]) foll Tryz.func430 Tryz.ntmps430 (by simp [cf]) ?_
  simp only [Tryz.f430,EnterK_some,zW,zX,zD,builtinA,isLeaf,const1,ustrA,simprocAttr,ti36,ti369,cf,Tryz.results430]
  exact ⟨rfl,rfl⟩
set_option maxRecDepth 100000 in
theorem name_plain (m k : List UInt8) : PlainM (.nm m k):=fun A=>by
  show ACalls Tryz.prog 114 _ _ _
  rw [vX]
  refine acalls_enterK (cf:=cf 8 [0,1,2]) foll Tryz.func114 Tryz.ntmps114 (by simp [cf]) ?_
  simp only [Tryz.f114,EnterK_some,zW,zX,zD,builtinA,isLeaf,const1,ustrA,simprocAttr,ti9,ti36,ti180,cf,Tryz.results114]
  exact ⟨rfl,rfl⟩
set_option maxRecDepth 100000 in
theorem fun_plain (a b : VT) (ha : PlainM a) (hb : PlainM b) : PlainM (.fn a b):=fun A=>by
  show ACalls Tryz.prog 437 _ _ _
  rw [vX]
  refine ACalls.grow ?_
  have ea : (pbox a (A.length + 2)).length = plen a:=pbox_length _ _
  have eb : (pbox b (A.length + 2 + plen a)).length = plen b:=pbox_length _ _
  have ca : ACalls Tryz.prog ((pickF 430 437 114) a) [vX a] (A ++ [Box.cells [.iface (vT a) (vX a),.iface (vT b) (vX b)],Box.cells [.int .i64 0,.str [],.str [],.nils]]) (fun r A'=>r = .agg (prow a (A.length + 2) true) ∧ A' = A ++ (Box.cells [.iface (vT a) (vX a),.iface (vT b) (vX b)] :: Box.cells [.int .i64 0,.str [],.str [],.nils] :: pbox a (A.length + 2))):=by
    have:=ha (A ++ [Box.cells [.iface (vT a) (vX a),.iface (vT b) (vX b)],Box.cells [.int .i64 0,.str [],.str [],.nils]])
    simpa using this
  have cb : ACalls Tryz.prog ((pickF 430 437 114) b) [vX b] (A ++ (Box.cells [.iface (vT a) (vX a),.iface (vT b) (vX b)] :: Box.cells [.int .i64 0,.str [],.str [],.nils] :: pbox a (A.length + 2))) (fun r A'=>r = .agg (prow b (A.length + 2 + plen a) true) ∧ A' = A ++ (Box.cells [.iface (vT a) (vX a),.iface (vT b) (vX b)] :: Box.cells [.int .i64 0,.str [],.str [],.nils] :: (pbox a (A.length + 2) ++ pbox b (A.length + 2 + plen a)))):=by
    have:=hb (A ++ (Box.cells [.iface (vT a) (vX a),.iface (vT b) (vX b)] :: Box.cells [.int .i64 0,.str [],.str [],.nils] :: pbox a (A.length + 2)))
    have hl : (A ++ (Box.cells [.iface (vT a) (vX a),.iface (vT b) (vX b)] :: Box.cells [.int .i64 0,.str [],.str [],.nils] :: pbox a (A.length + 2))).length = A.length + 2 + plen a:=by simp [ea]; omega
    rw [hl] at this
    simpa using this
  have hl2 : (A ++ (Box.cells [.iface (vT a) (vX a),.iface (vT b) (vX b)] :: Box.cells [.int .i64 0,.str [],.str [],.nils] :: (pbox a (A.length + 2) ++ pbox b (A.length + 2 + plen a)))).length = A.length + (2 + plen a + plen b):=by simp [ea,eb]; omega
  cases hf : (isFn a || isFn b) with
  | false =>
    have fz : ∀ B,frzs [.agg (prow a (A.length + 2) true),.agg (prow b (A.length + 2 + plen a) true)] B = some ([.agg (prow a (A.length + 2) false),.agg (prow b (A.length + 2 + plen a) false)],B):=by
      intro B
      cases a <;> cases b <;> simp [isFn] at hf <;> rfl
    have la : (prow a (A.length + 2) false).length = 4:=prow_length _ _ _
    have lb : (prow b (A.length + 2 + plen a) false).length = 4:=prow_length _ _ _
    refine acalls_enterK (cf:=cf 11 [0,1,2]) foll Tryz.func437 Tryz.ntmps437 (by simp [cf]) ?_
    simp only [Tryz.f437,EnterK_some,zW,zX,zD,builtinA,isLeaf,const1,ustrA,simprocAttr,ti34,ti36,ti175,ti422,cf,Tryz.results437]
    refine .inr (drawE_intro [(false,0,0),(false,0,0),(true,0,0),(false,0,1),(false,0,1),(true,1,1),(true,2,2),(false,3,3),(true,3,3)] [A ++ [Box.cells [.iface (vT a) (vX a),.iface (vT b) (vX b)],Box.cells [.int .i64 0,.str [],.str [],.nils]],A ++ (Box.cells [.iface (vT a) (vX a),.iface (vT b) (vX b)] :: Box.cells [.int .i64 0,.str [],.str [],.nils] :: pbox a (A.length + 2)),A ++ (Box.cells [.iface (vT a) (vX a),.iface (vT b) (vX b)] :: Box.cells [.int .i64 0,.str [],.str [],.nils] :: (pbox a (A.length + 2) ++ pbox b (A.length + 2 + plen a))),A ++ (Box.cells [.iface (vT a) (vX a),.iface (vT b) (vX b)] :: Box.cells [.int .i64 0,.str [],.str [],.nils] :: (pbox a (A.length + 2) ++ (pbox b (A.length + 2 + plen a) ++ [.row 4 [prow a (A.length + 2) false,prow b (A.length + 2 + plen a) false] 0]))),A ++ (Box.cells [.iface (vT a) (vX a),.iface (vT b) (vX b)] :: Box.cells [.int .i64 2,.str [],.str [],.own (A.length + (2 + plen a + plen b))] :: (pbox a (A.length + 2) ++ (pbox b (A.length + 2 + plen a) ++ [.row 4 [prow a (A.length + 2) false,prow b (A.length + 2 + plen a) false] 0])))] 4 rfl (by kernel_rfl) (by kernel_rfl) (by kernel_rfl) (by kernel_rfl) (by kernel_rfl) (by kernel_rfl) ?_)
    simp only [zW,zX,zD,builtinA,isLeaf,const1,ustrA,simprocAttr,ti34,ti36,ti175,ti422,cf,Tryz.results437]
    refine wpG_invoke _ _ _ _ _ _ _ _ _ _ _ _ _ _ _ _ _ _ ?_
    simp only [zW,zX,zD,builtinA,isLeaf,const1,ustrA,simprocAttr,ti34,ti36,ti175,ti422,cf,Tryz.results437]
    refine meth_invE (met3 (by kernel_rfl) (by kernel_rfl) (by kernel_rfl) (by kernel_rfl) (by kernel_rfl) (by kernel_rfl)) ca rfl ?_
    simp only [zW,zX,zD,builtinA,isLeaf,const1,ustrA,simprocAttr,ti34,ti36,ti175,ti422,cf,Tryz.results437]
    refine wpG_invoke _ _ _ _ _ _ _ _ _ _ _ _ _ _ _ _ _ _ ?_
    simp only [zW,zX,zD,builtinA,isLeaf,const1,ustrA,simprocAttr,ti34,ti36,ti175,ti422,cf,Tryz.results437]
    refine meth_invE (met3 (by kernel_rfl) (by kernel_rfl) (by kernel_rfl) (by kernel_rfl) (by kernel_rfl) (by kernel_rfl)) cb rfl ?_
    simp only [zW,zX,zD,builtinA,isLeaf,const1,ustrA,simprocAttr,ti34,ti36,ti175,ti422,cf,Tryz.results437,fz,la,lb,hl2]
    refine ⟨⟨prow_leaf a _ (by simp at hf; exact hf.1),prow_leaf b _ (by simp at hf; exact hf.2)⟩,.inr ⟨A.length + (2 + plen a + plen b),4,[prow a (A.length + 2) false,prow b (A.length + 2 + plen a) false],?_,rfl,?_⟩⟩
    · rw [tail_app A _ _ (pbox a (A.length + 2)) (pbox b (A.length + 2 + plen a)) _,Abs.getD_append_right (by simp [ea,eb]; omega)]
      simp [ea,eb]
      rw [show A.length + (2 + plen a + plen b) - (A.length + (plen a + plen b + 1 + 1)) = 0 by omega]
      rfl
    · rw [tail_app A _ _ (pbox a (A.length + 2)) (pbox b (A.length + 2 + plen a)) _,List.set_append_right _ _ (by simp [ea,eb]; omega)]
      simp [ea,eb]
      rw [show A.length + (2 + plen a + plen b) - (A.length + (plen a + plen b + 1 + 1)) = 0 by omega]
      simp [pbox,hf]
  | true =>
    have fz : frzs [.agg (prow a (A.length + 2) true),.agg (prow b (A.length + 2 + plen a) true)] (A ++ (Box.cells [.iface (vT a) (vX a),.iface (vT b) (vX b)] :: Box.cells [.int .i64 0,.str [],.str [],.nils] :: (pbox a (A.length + 2) ++ pbox b (A.length + 2 + plen a)))) = none:=by
      have hb2 : ∀ B C : List Box,B.length = A.length + 2 + plen a → isFn b = true → frzC (.agg (prow b (A.length + 2 + plen a) true)) (B ++ pbox b (A.length + 2 + plen a) ++ C) = none:=fun B C hB h=>by
        cases b with
        | num=>cases h
        | nm=>cases h
        | fn x y =>
          have hg : (B ++ pbox (.fn x y) (A.length + 2 + plen a) ++ C).getD (A.length + 2 + plen a + (2 + plen x + plen y)) .dead = .gr none 4 [prow x (A.length + 2 + plen a + 2) (isFn x || isFn y),prow y (A.length + 2 + plen a + 2 + plen x) (isFn x || isFn y)]:=pbox_top _ _ _ _ _ hB
          simp only [prow,frzC,frzL,frz1,hg]
          rfl
      have ha2 : ∀ B C : List Box,B.length = A.length + 2 → frzC (.agg (prow a (A.length + 2) true)) (B ++ pbox a (A.length + 2) ++ C) = if isFn a = true then none else some (.agg (prow a (A.length + 2) false),(B ++ pbox a (A.length + 2) ++ C)):=fun B C hB=>by
        cases a with
        | num=>rfl
        | nm=>rfl
        | fn x y =>
          have hg : (B ++ pbox (.fn x y) (A.length + 2) ++ C).getD (A.length + 2 + (2 + plen x + plen y)) .dead = .gr none 4 [prow x (A.length + 2 + 2) (isFn x || isFn y),prow y (A.length + 2 + 2 + plen x) (isFn x || isFn y)]:=pbox_top _ _ _ _ _ hB
          simp only [prow,frzC,frzL,frz1,hg]
          rfl
      have e1 : (A ++ (Box.cells [.iface (vT a) (vX a),.iface (vT b) (vX b)] :: Box.cells [.int .i64 0,.str [],.str [],.nils] :: (pbox a (A.length + 2) ++ pbox b (A.length + 2 + plen a)))) = (A ++ [Box.cells [.iface (vT a) (vX a),.iface (vT b) (vX b)],Box.cells [.int .i64 0,.str [],.str [],.nils]]) ++ pbox a (A.length + 2) ++ pbox b (A.length + 2 + plen a):=by simp
      rw [e1]
      simp only [frzs]
      rw [ha2 _ _ (by simp)]
      by_cases h : isFn a = true
      · rw [if_pos h]
      · rw [if_neg h]
        have hb1 : isFn b = true:=by simp [h] at hf; exact hf
        have:=hb2 ((A ++ [Box.cells [.iface (vT a) (vX a),.iface (vT b) (vX b)],Box.cells [.int .i64 0,.str [],.str [],.nils]]) ++ pbox a (A.length + 2)) [] (by simp [ea]; omega) hb1
        rw [List.append_nil] at this
        simp only [this]
    have la : (prow a (A.length + 2) true).length = 4:=prow_length _ _ _
    have lb : (prow b (A.length + 2 + plen a) true).length = 4:=prow_length _ _ _
    refine acalls_enterK (cf:=cf 11 [0,1,2]) foll Tryz.func437 Tryz.ntmps437 (by simp [cf]) ?_
    simp only [Tryz.f437,EnterK_some,zW,zX,zD,builtinA,isLeaf,const1,ustrA,simprocAttr,ti34,ti36,ti175,ti422,cf,Tryz.results437]
    refine .inr (drawE_intro [(false,0,0),(false,0,0),(true,0,0),(false,0,1),(false,0,1),(true,1,1),(true,2,2),(false,3,3),(true,3,3)] [A ++ [Box.cells [.iface (vT a) (vX a),.iface (vT b) (vX b)],Box.cells [.int .i64 0,.str [],.str [],.nils]],A ++ (Box.cells [.iface (vT a) (vX a),.iface (vT b) (vX b)] :: Box.cells [.int .i64 0,.str [],.str [],.nils] :: pbox a (A.length + 2)),A ++ (Box.cells [.iface (vT a) (vX a),.iface (vT b) (vX b)] :: Box.cells [.int .i64 0,.str [],.str [],.nils] :: (pbox a (A.length + 2) ++ pbox b (A.length + 2 + plen a))),A ++ (Box.cells [.iface (vT a) (vX a),.iface (vT b) (vX b)] :: Box.cells [.int .i64 0,.str [],.str [],.nils] :: (pbox a (A.length + 2) ++ (pbox b (A.length + 2 + plen a) ++ [.gr none 4 [prow a (A.length + 2) true,prow b (A.length + 2 + plen a) true]]))),A ++ (Box.cells [.iface (vT a) (vX a),.iface (vT b) (vX b)] :: Box.cells [.int .i64 2,.str [],.str [],.own (A.length + (2 + plen a + plen b))] :: (pbox a (A.length + 2) ++ (pbox b (A.length + 2 + plen a) ++ [.gr none 4 [prow a (A.length + 2) true,prow b (A.length + 2 + plen a) true]])))] 4 rfl (by kernel_rfl) (by kernel_rfl) (by kernel_rfl) (by kernel_rfl) (by kernel_rfl) (by kernel_rfl) ?_)
    simp only [zW,zX,zD,builtinA,isLeaf,const1,ustrA,simprocAttr,ti34,ti36,ti175,ti422,cf,Tryz.results437]
    refine wpG_invoke _ _ _ _ _ _ _ _ _ _ _ _ _ _ _ _ _ _ ?_
    simp only [zW,zX,zD,builtinA,isLeaf,const1,ustrA,simprocAttr,ti34,ti36,ti175,ti422,cf,Tryz.results437]
    refine meth_invE (met3 (by kernel_rfl) (by kernel_rfl) (by kernel_rfl) (by kernel_rfl) (by kernel_rfl) (by kernel_rfl)) ca rfl ?_
    simp only [zW,zX,zD,builtinA,isLeaf,const1,ustrA,simprocAttr,ti34,ti36,ti175,ti422,cf,Tryz.results437]
    refine wpG_invoke _ _ _ _ _ _ _ _ _ _ _ _ _ _ _ _ _ _ ?_
    simp only [zW,zX,zD,builtinA,isLeaf,const1,ustrA,simprocAttr,ti34,ti36,ti175,ti422,cf,Tryz.results437]
    refine meth_invE (met3 (by kernel_rfl) (by kernel_rfl) (by kernel_rfl) (by kernel_rfl) (by kernel_rfl) (by kernel_rfl)) cb rfl ?_
    simp only [zW,zX,zD,builtinA,isLeaf,const1,ustrA,simprocAttr,ti34,ti36,ti175,ti422,cf,Tryz.results437,fz,la,lb,hl2]
    refine ⟨⟨prow_elem a _ _,prow_elem b _ _⟩,.inl ⟨rfl,?_⟩⟩
    simp [pbox,hf]
theorem plainM : ∀ v,PlainM v
  | .num=>num_plain
  | .nm m k=>name_plain m k
  | .fn a b=>fun_plain a b (plainM a) (plainM b)
end Go.Proofs.YtnjdbgiincliaaaGreat
/- The program's SubstType: what it hands back is memory of its own. -/
set_option linter.unusedVariables false
set_option linter.unusedSimpArgs false
namespace Go.Proofs.YtnjdbgiincliaaaGreat
open Go.Abs
abbrev BNm:=List UInt8 × List UInt8
def bkE (p : BNm) : List AV:=[.str p.1,.str p.2]
def lookB (p : BNm) : List (BNm × VT) → Option VT
  | []=>none
  | (q,v) :: m=>if p = q then some v else lookB p m
def subV (m : List (BNm × VT)) : VT → VT
  | .num=>.num
  | .nm a b=>(lookB (a,b) m).getD (.nm a b)
  | .fn a b=>.fn (subV m a) (subV m b)
def esB (m : List (BNm × VT)) : List (AV × AV):=m.map fun q=>(.agg (bkE q.1),.iface (vT q.2) (vX q.2))
abbrev KB : List (Nat × TK):=[(0,.str),(1,.str)]
theorem bkE_eq (x y : BNm) : eqK KB (bkE x) (bkE y) = some (decide (x = y)):=by
  have : decide (x = y) = (decide (x.1 = y.1) && (decide (x.2 = y.2) && true)):=by
    rw [Bool.eq_iff_iff]
    simp [Prod.ext_iff]
  rw [this]
  simp [KB,eqK,bkE,c1A]
  try congr 1
theorem find_b (q : BNm) : ∀ (m : List (BNm × VT)) (n : Nat),(findA KB (bkE q) (esB m) n = some none ∧ lookB q m = none) ∨ ∃ j v,findA KB (bkE q) (esB m) n = some (some (j,.iface (vT v) (vX v))) ∧ lookB q m = some v
  | [],n=>.inl ⟨rfl,rfl⟩
  | (p,v) :: m,n=>by
    simp only [esB,List.map_cons,findA]
    rw [if_pos (show (bkE p).length = (bkE q).length from rfl),bkE_eq]
    by_cases h : q = p
    · subst h
      simp only [decide_true,lookB,if_true]
      exact .inr ⟨_,_,rfl,rfl⟩
    · simp only [decide_eq_false h,lookB,if_neg h]
      exact find_b q m (n + 1)
def SubM (m : List (BNm × VT)) (v : VT) : Prop:=∀ A i,i < A.length → A.getD i .dead = .mapb (esB m) → ACalls Tryz.prog ((pickF 432 439 360) v) [vX v,.map i] A (fun r A'=>r = .iface (vT (subV m v)) (vX (subV m v)) ∧ A' = A)
theorem num_sub (m : List (BNm × VT)) : SubM m .num:=fun A i hi hA=>by
  show ACalls Tryz.prog 432 _ _ _
  rw [vX]
  refine acalls_enter (cf:=cf 7 [0,4]) foll Tryz.func432 Tryz.ntmps432 (by simp [cf]) ?_
  simp only [Tryz.f432,EnterK_some,zW,zX,zD,builtinA,isLeaf,const1,ustrA,simprocAttr,ti369,cf,Tryz.results432]
  try rfl
set_option maxRecDepth 100000 in
theorem name_sub (m : List (BNm × VT)) (a b : List UInt8) : SubM m (.nm a b):=fun A i hi hA=>by
  show ACalls Tryz.prog 360 _ _ _
  rw [vX]
  have g1 : ∀ B : List Box,(A ++ B).getD i .dead = .mapb (esB m):=fun B=>by rw [Abs.getD_append_left hi]; exact hA
  rcases find_b (a,b) m 0 with ⟨h1,h2⟩ | ⟨j,v,h1,h2⟩
  · simp only [bkE] at h1
    rw [subV,h2]
    refine acalls_enter (cf:=cf 17 [0,1,2,4,5,6,13]) foll Tryz.func360 Tryz.ntmps360 (by simp [cf]) ?_
    simp only [Tryz.f360,EnterK_some,zW,zX,zD,builtinA,isLeaf,const1,ustrA,simprocAttr,ti180,ti375,mi375,cf,Tryz.results360]
    simp only [zW,zX,zD,builtinA,isLeaf,const1,ustrA,simprocAttr,ti180,ti375,mi375,cf,Tryz.results360,g1,h1]
    rfl
  · simp only [bkE] at h1
    rw [subV,h2]
    refine acalls_enter (cf:=cf 17 [0,1,2,4,5,6,13]) foll Tryz.func360 Tryz.ntmps360 (by simp [cf]) ?_
    simp only [Tryz.f360,EnterK_some,zW,zX,zD,builtinA,isLeaf,const1,ustrA,simprocAttr,ti180,ti375,mi375,cf,Tryz.results360]
    simp only [zW,zX,zD,builtinA,isLeaf,const1,ustrA,simprocAttr,ti180,ti375,mi375,cf,Tryz.results360,g1,h1]
set_option maxRecDepth 100000 in
theorem fun_sub (m : List (BNm × VT)) (a b : VT) (ha : SubM m a) (hb : SubM m b) : SubM m (.fn a b):=fun A i hi hA=>by
  show ACalls Tryz.prog 439 _ _ _
  rw [vX]
  have g1 : ∀ B : List Box,(A ++ B).getD i .dead = .mapb (esB m):=fun B=>by rw [Abs.getD_append_left hi]; exact hA
  refine acalls_enter (cf:=cf 15 [0,1,2,4]) foll Tryz.func439 Tryz.ntmps439 (by simp [cf]) ?_
  simp only [Tryz.f439,EnterK_some,zW,zX,zD,builtinA,isLeaf,const1,ustrA,simprocAttr,ti175,ti422,cf,Tryz.results439]
  refine .inl ⟨by kernel_rfl,by kernel_rfl,?_⟩
  refine wpD_invoke _ _ _ _ _ _ _ _ _ _ _ _ _ _ _ _ ?_
  simp only [zW,zX,zD,builtinA,isLeaf,const1,ustrA,simprocAttr,ti175,ti422,cf,Tryz.results439]
  refine meth_invD (met3 (by kernel_rfl) (by kernel_rfl) (by kernel_rfl) (by kernel_rfl) (by kernel_rfl) (by kernel_rfl)) (ha _ i (by simp; omega) (g1 _)) rfl (fun _=>rfl) ?_
  simp only [zW,zX,zD,builtinA,isLeaf,const1,ustrA,simprocAttr,ti175,ti422,cf,Tryz.results439]
  refine wpD_invoke _ _ _ _ _ _ _ _ _ _ _ _ _ _ _ _ ?_
  simp only [zW,zX,zD,builtinA,isLeaf,const1,ustrA,simprocAttr,ti175,ti422,cf,Tryz.results439]
  refine meth_invD (met3 (by kernel_rfl) (by kernel_rfl) (by kernel_rfl) (by kernel_rfl) (by kernel_rfl) (by kernel_rfl)) (hb _ i (by simp; omega) (g1 _)) rfl (fun _=>rfl) ?_
  simp only [zW,zX,zD,builtinA,isLeaf,const1,ustrA,simprocAttr,ti175,ti422,cf,Tryz.results439]
  try rfl
theorem subM (m : List (BNm × VT)) : ∀ v,SubM m v
  | .num=>num_sub m
  | .nm a b=>name_sub m a b
  | .fn a b=>fun_sub m a b (subM m a) (subM m b)
end Go.Proofs.YtnjdbgiincliaaaGreat
namespace Go.Proofs.YtnjdbgiincliaaaGreat
open Go.Abs
def addB (m : List (BNm × VT)) (p : BNm) (v : VT) : List (BNm × VT) :=
  match lookB p m with
  | some _=>m
  | none=>m ++ [(p,v)]
def foldB (bd : List (BNm × VT)) : List (BNm × VT):=bd.foldl (fun m q=>addB m q.1 q.2) []
def ofB (q : BNm × VT) : BdI:=⟨q.1.1,q.1.2,toTy q.2⟩
end Go.Proofs.YtnjdbgiincliaaaGreat
namespace Go.Proofs.YtnjdbgiincliaaaGreat
open Go.Abs
theorem lookB_in {p : BNm} {w : VT} : ∀ {m : List (BNm × VT)},lookB p m = some w → (p,w) ∈ m
  | [],h=>by simp [lookB] at h
  | (q,v) :: m,h=>by
    rw [lookB] at h
    by_cases e : p = q
    · rw [if_pos e] at h; cases h; subst e; simp
    · rw [if_neg e] at h; exact List.mem_cons_of_mem _ (lookB_in h)
theorem sub_ok (m : List (BNm × VT)) (hm : ∀ x ∈ m,VOk x.2) : ∀ v,okV v = true → okV (subV m v) = true ∧ dep (subV m v) ≤ dep v + 8 ∧ cnt (subV m v) ≤ cnt v * 63
  | .num,h=>⟨rfl,by simp [subV,dep],by simp [subV,cnt]⟩
  | .nm a b,h=>by
    rw [subV]
    rcases hl : lookB (a,b) m with _ | w
    · exact ⟨h,by simp,by simp [cnt]⟩
    · have hw:=hm _ (lookB_in hl)
      refine ⟨hw.ok,?_,?_⟩
      · have h9 : dep w ≤ 8:=hw.dep
        show dep w ≤ _
        omega
      · have h9 : cnt w ≤ 63:=hw.cnt
        show cnt w ≤ _
        simp only [cnt]; omega
  | .fn a b,h=>by
    simp only [okV,Bool.and_eq_true] at h
    obtain ⟨a1,a2,a3⟩:=sub_ok m hm a h.1
    obtain ⟨b1,b2,b3⟩:=sub_ok m hm b h.2
    simp only [subV,okV,dep,cnt,a1,b1,Bool.and_self,true_and]
    exact ⟨by omega,by omega⟩
theorem depM2 : ∀ v,dep v ≤ 900 → DepM v
  | .num,_=>num_depth
  | .nm m n,_=>name_depth m n
  | .fn a b,h=>by
    rw [dep] at h
    exact fun_depth a b (depM2 a (by omega)) (depM2 b (by omega)) (by omega)
set_option maxRecDepth 100000 in
theorem impl_withinLimits2 (v : VT) (hd : dep v ≤ 900) (hc : cnt v < 100000) (A : List Box) : ACalls Tryz.prog 199 [.iface (vT v) (vX v)] A (fun r A'=>r = .bool (decide (dep v ≤ 8) && decide (cnt v ≤ 63)) ∧ A' = A):=by
  refine acalls_enter (cf:=cf 11 [0,2]) foll Tryz.func199 Tryz.ntmps199 (by simp [cf]) ?_
  simp only [Tryz.f199,EnterK_some,zW,zX,zD,builtinA,isLeaf,const1,ustrA,simprocAttr,ti3,cf,Tryz.results199]
  refine wpO_invoke _ _ _ _ _ _ _ _ _ _ _ _ _ _ _ _ ?_
  simp only [zW,zX,zD,builtinA,isLeaf,const1,ustrA,simprocAttr,ti3,cf,Tryz.results199]
  refine meth_invK (met3 (by kernel_rfl) (by kernel_rfl) (by kernel_rfl) (by kernel_rfl) (by kernel_rfl) (by kernel_rfl)) (depM2 v hd _) rfl (fun _=>rfl) ?_
  rintro v A' ⟨rfl,rfl⟩
  simp only [zW,zX,zD,builtinA,isLeaf,const1,ustrA,simprocAttr,ti3,cf,Tryz.results199]
  by_cases h8 : dep v ≤ 8
  · have e8 : decide ((dep v : Int) ≤ 8) = true:=decide_eq_true (by omega)
    rw [decide_eq_true h8]
    simp only [zW,zX,zD,builtinA,isLeaf,const1,ustrA,simprocAttr,ti3,cf,Tryz.results199,e8]
    refine wpO_invoke _ _ _ _ _ _ _ _ _ _ _ _ _ _ _ _ ?_
    simp only [zW,zX,zD,builtinA,isLeaf,const1,ustrA,simprocAttr,ti3,cf,Tryz.results199]
    refine meth_invK (met3 (by kernel_rfl) (by kernel_rfl) (by kernel_rfl) (by kernel_rfl) (by kernel_rfl) (by kernel_rfl)) (cntM v (by omega) _) rfl (fun _=>rfl) ?_
    rintro v A' ⟨rfl,rfl⟩
    simp only [zW,zX,zD,builtinA,isLeaf,const1,ustrA,simprocAttr,ti3,cf,Tryz.results199]
    simp
    omega
  · have e8 : decide ((dep v : Int) ≤ 8) = false:=decide_eq_false (by omega)
    rw [decide_eq_false h8]
    simp only [zW,zX,zD,builtinA,isLeaf,const1,ustrA,simprocAttr,ti3,cf,Tryz.results199,e8]
end Go.Proofs.YtnjdbgiincliaaaGreat
