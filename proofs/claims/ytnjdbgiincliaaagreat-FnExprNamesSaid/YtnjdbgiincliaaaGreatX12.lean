/- DrawXC. -/
import Derived.Test.YtnjdbgiincliaaaGreatX11
import Derived.Test.YtnjdbgiincliaaaGreatAbsW3
/- Copies of expressions. -/
set_option linter.unusedVariables false
set_option linter.unusedSimpArgs false
namespace Go.Proofs.YtnjdbgiincliaaaGreat
open Go.Abs
theorem encX_closed (x : Ex) (n : Nat) : (encX x).all (closed1 n) = true:=by cases x; rw [encX]; rfl
theorem encX_drop (x : Ex) : List.drop 9 (encX x) = []:=by cases x; rw [encX]; rfl
set_option maxRecDepth 100000 in
set_option maxHeartbeats 4000000 in
theorem spec_l4Copy (x : Ex) (hx : szX x ≤ 1048576) : ∀ (A : List Box),ACalls Tryz.prog 235 [.agg (encX x)] A (fun r A'=>r = .agg (encX x) ∧ A' = A):=by
  induction x using Ex.ind with
  | h k i m n t ks ih =>
    intro A
    have hsx : szX (.mk k i m n t ks) = m.length + n.length + sz t + (ks.length + szXs ks):=by rw [szX]
    rw [hsx] at hx
    have hks : ks.length ≤ 1048576:=by omega
    have hok : ∀ t ∈ ks,szX t ≤ 1048576:=fun t ht=>by have:=szXs_mem ht; omega
    have hct:=fun A=>spec_l1Copy t (by omega) A
    have w1 : IntKind.i64.wrap 1 = 1:=wrap64 (by omega) (by omega)
    have etc4 : ∀ n,(enc t).all (closed1 n) = true:=fun n=>enc_closed t n
    rw [encT4] at hct
    rw [encX]
    refine acalls_enter (cf:=cf 36 [0,1,2,3,4,21]) foll Tryz.func235 Tryz.ntmps235 (by simp [cf]) ?_
    simp only [Tryz.f235,EnterK_some,zW,zX,zD,builtinA,isLeaf,const1,ustrA,simprocAttr,ti3,ti9,ti36,ti37,ti39,ca204,ca235,cf,Tryz.results235]
    refine .inr (drawI_intro (.pur 0 (.pur 1 (.pur 2 (.pur 3 (.pur 4 (.pur 5 (.pur 6 (.pur 7 (.pur 8 (.pur 9 (.or 10 (.pur 11 (.or 12 (.or 13 .done .stop) .stop)) (.or 12 (.or 10 (.pur 11 (.or 13 .done .stop)) .stop) .stop)))))))))))) (IBox A.length (.cells [.int .i64 k,.int .i64 i,.str m,.str n,.int .i64 t.kind,.str t.mod,.str t.name,.slice (encs t.kids),.slice (encXs ks)])) (by kernel_rfl) ?_ ?_)
    · exact ⟨by simp,by simp⟩
    iterate 10 (refine wpI_pur_intro (v:=?_) _ rfl rfl (by decide) rfl (fun A' hI=>?_) ?_; rotate_left 1; (simp only [zW,zX,zD,builtinA,isLeaf,const1,ustrA,simprocAttr,ti3,ti9,ti36,ti37,ti39,ca204,ca235,cf,Tryz.results235,hI.1,hI.2]; first | exact rfl | exact ⟨rfl,rfl⟩ | (refine ⟨by omega,?_⟩; exact rfl) | (refine ⟨⟨by omega,by omega⟩,?_⟩; exact rfl)))
    simp only [zW,zX,zD,builtinA,isLeaf,const1,ustrA,simprocAttr,ti3,ti9,ti36,ti37,ti39,ca204,ca235,cf,Tryz.results235,wpI_or_eq,wpI_stop_eq,wpI_done_eq]
    refine ⟨?_,⟨by simp,by simp⟩,?_⟩
    all_goals (refine callK_intro (by first | rfl | (simp only [zW,zX,zD,builtinA,isLeaf,const1,ustrA,simprocAttr]; rfl)) (hct _) ?_ rfl; rintro _ _ ⟨rfl,rfl⟩)
    all_goals simp only [zW,zX,zD,builtinA,isLeaf,const1,ustrA,simprocAttr,ti3,ti9,ti36,ti37,ti39,ca204,ca235,cf,Tryz.results235,wpI_or_eq,wpI_stop_eq,wpI_done_eq]
    all_goals try refine ⟨⟨by simp,by simp⟩,?_⟩
    all_goals (refine wpI_pur_intro (v:=?_) _ rfl rfl (by decide) rfl (fun A' hI=>?_) ?_; rotate_left 1; (simp only [zW,zX,zD,builtinA,isLeaf,const1,ustrA,simprocAttr,ti3,ti9,ti36,ti37,ti39,ca204,ca235,cf,Tryz.results235,hI.1,hI.2]; first | exact rfl | exact ⟨rfl,rfl⟩ | (refine ⟨by omega,?_⟩; exact rfl) | (refine ⟨⟨by omega,by omega⟩,?_⟩; exact rfl)))
    all_goals simp only [zW,zX,zD,builtinA,isLeaf,const1,ustrA,simprocAttr,ti3,ti9,ti36,ti37,ti39,ca204,ca235,cf,Tryz.results235,wpI_or_eq,wpI_stop_eq,wpI_done_eq]
    all_goals repeat refine ⟨⟨by simp,by simp⟩,?_⟩
    all_goals (
      refine aloop_intro [1,2,3,4] (fun e A'=>∃ q B x,q ≤ ks.length ∧ e = [(1,.ptr A.length 0),(2,.ptr (A.length + 1) 0),(3,.ptr (A.length + 2) 0),(4,.int .i64 q)] ∧ A' = A ++ (.cells [.int .i64 k,.int .i64 i,.str m,.str n,.int .i64 t.kind,.str t.mod,.str t.name,.slice (encs t.kids),.slice (encXs ks)] :: .cells [.int .i64 0,.int .i64 0,.str [],.str [],.int .i64 0,.str [],.str [],.nils,.nils] :: .cells [.int .i64 k,.int .i64 i,.str m,.str n,.int .i64 t.kind,.str t.mod,.str t.name,.slice (encs t.kids),x] :: B) ∧
        ((q = 0 ∧ x = .nils ∧ B = []) ∨ (∃ j,x = .own (A.length + (j + 3)) ∧ j < B.length ∧ B.getD j .dead = .row 9 (encXs (ks.take q)) 0))) (fun e _=>ks.length - (intOf (Abs.look 4 e)).toNat) ?_ ?_
      · simp only [zW,zX,zD,builtinA,isLeaf,const1,ustrA,simprocAttr,ti3,ti9,ti36,ti37,ti39,ca204,ca235,cf,Tryz.results235]
        exact ⟨0,[],.nils,by omega,rfl,rfl,.inl ⟨rfl,rfl,rfl⟩⟩
      · rintro e A' ⟨q,B,x,hi,rfl,rfl,hx⟩
        simp only [zW,zX,zD,builtinA,isLeaf,const1,ustrA,simprocAttr,ti3,ti9,ti36,ti37,ti39,ca204,ca235,cf,Tryz.results235,encXs_length]
        refine condK_intro (fun h2=>?_) (fun h2=>?_)
        · have hi2 : q < ks.length:=by simpa using h2
          have he:=encXs_getD hi2
          have hmm:=ex_mem hi2
          have hi1 : IntKind.i64.wrap ((q : Int) + 1) = ((q + 1 : Nat) : Int):=by rw [wrap64 (by omega) (by omega)]; rfl
          rcases hx with ⟨rfl,rfl,rfl⟩ | ⟨j,rfl,hj,hg⟩
          · simp only [wpc_skip,AThen_normal,wpc_block,wpc_seq,wpc_drawn]
            refine .inr (drawE_intro [(false,0,2),(false,0,2),(false,0,0),(false,0,0),(false,0,0),(false,0,0),(false,0,0),(true,0,0),(true,1,1),(true,2,2),(false,3,3),(true,3,3)] [A ++ [.cells [.int .i64 k,.int .i64 i,.str m,.str n,.int .i64 t.kind,.str t.mod,.str t.name,.slice (encs t.kids),.slice (encXs ks)],.cells [.int .i64 0,.int .i64 0,.str [],.str [],.int .i64 0,.str [],.str [],.nils,.nils],.cells [.int .i64 k,.int .i64 i,.str m,.str n,.int .i64 t.kind,.str t.mod,.str t.name,.slice (encs t.kids),.nils]],A ++ [.cells [.int .i64 k,.int .i64 i,.str m,.str n,.int .i64 t.kind,.str t.mod,.str t.name,.slice (encs t.kids),.slice (encXs ks)],.cells [.int .i64 0,.int .i64 0,.str [],.str [],.int .i64 0,.str [],.str [],.nils,.nils],.cells [.int .i64 k,.int .i64 i,.str m,.str n,.int .i64 t.kind,.str t.mod,.str t.name,.slice (encs t.kids),.nils]],A ++ [.cells [.int .i64 k,.int .i64 i,.str m,.str n,.int .i64 t.kind,.str t.mod,.str t.name,.slice (encs t.kids),.slice (encXs ks)],.cells [.int .i64 0,.int .i64 0,.str [],.str [],.int .i64 0,.str [],.str [],.nils,.nils],.cells [.int .i64 k,.int .i64 i,.str m,.str n,.int .i64 t.kind,.str t.mod,.str t.name,.slice (encs t.kids),.nils],.row 9 [encX (ks.getD 0 ex0)] 0],A ++ [.cells [.int .i64 k,.int .i64 i,.str m,.str n,.int .i64 t.kind,.str t.mod,.str t.name,.slice (encs t.kids),.slice (encXs ks)],.cells [.int .i64 0,.int .i64 0,.str [],.str [],.int .i64 0,.str [],.str [],.nils,.nils],.cells [.int .i64 k,.int .i64 i,.str m,.str n,.int .i64 t.kind,.str t.mod,.str t.name,.slice (encs t.kids),.nils],.row 9 [encX (ks.getD 0 ex0)] 0,.row 9 [encX (ks.getD 0 ex0)] 0],A ++ [.cells [.int .i64 k,.int .i64 i,.str m,.str n,.int .i64 t.kind,.str t.mod,.str t.name,.slice (encs t.kids),.slice (encXs ks)],.cells [.int .i64 0,.int .i64 0,.str [],.str [],.int .i64 0,.str [],.str [],.nils,.nils],.cells [.int .i64 k,.int .i64 i,.str m,.str n,.int .i64 t.kind,.str t.mod,.str t.name,.slice (encs t.kids),.own (A.length + 4)],.row 9 [encX (ks.getD 0 ex0)] 0,.row 9 [encX (ks.getD 0 ex0)] 0]] 4 rfl (by kernel_rfl) (by kernel_rfl) (by kernel_rfl) (by kernel_rfl) (by kernel_rfl) (by kernel_rfl) ?_)
            simp only [zW,zX,zD,builtinA,isLeaf,const1,ustrA,simprocAttr,ti3,ti9,ti36,ti37,ti39,ca204,ca235,cf,Tryz.results235,he,encX_length,encX_take,encX_drop,frzL_encX,encX_closed,Option.map_some,encXs_length]
            refine ⟨by omega,?_⟩
            refine callE_intro (by simp only [zW,zX,zD,builtinA,isLeaf,const1,ustrA,simprocAttr,encX_length,encX_take,encX_drop,frzL_encX,encX_closed,Option.map_some] <;> rfl) (ih _ hmm (hok _ hmm) _) ?_ rfl rfl
            simp only [zW,zX,zD,builtinA,isLeaf,const1,ustrA,simprocAttr,ti3,ti9,ti36,ti37,ti39,ca204,ca235,cf,Tryz.results235,he,encX_length,encX_take,encX_drop,frzL_encX,encX_closed,Option.map_some,encXs_length]
            have hsn : [encX (ks.getD 0 ex0)] = encXs (ks.take 1):=by
              match ks,hi2 with
              | t :: l,_=>simp [encXs]
            simp only [zW,zX,zD,builtinA,isLeaf,const1,ustrA,simprocAttr,ti3,ti9,ti36,ti37,ti39,ca204,ca235,cf,Tryz.results235,hi1,w1,LoopK_eq]
            refine ⟨fun v hv=>encX_leaf _ v hv,fun r hr=>by rw [List.mem_singleton.1 hr,encX_length],⟨0 + 1,[.row 9 [encX (ks.getD 0 ex0)] 0,.row 9 [encX (ks.getD 0 ex0)] 0],_,by omega,rfl,rfl,.inr ⟨1,rfl,by simp,by rw [hsn]; rfl⟩⟩,?_⟩
            simp only [intOf]
            omega
          · have hsn : encXs (ks.take q) ++ [encX (ks.getD q ex0)] = encXs (ks.take (q + 1)):=by
              rw [encXs_map,encXs_map,List.take_add_one,List.map_append]
              simp [List.getD,hi2]
            simp only [wpc_skip,AThen_normal,wpc_block,wpc_seq,wpc_drawn]
            refine .inr (drawE_intro [(false,0,2),(false,0,2),(false,0,0),(false,0,0),(false,0,0),(false,0,0),(false,0,0),(true,0,0),(true,1,1),(true,2,2),(false,3,3),(true,3,3)] [A ++ (.cells [.int .i64 k,.int .i64 i,.str m,.str n,.int .i64 t.kind,.str t.mod,.str t.name,.slice (encs t.kids),.slice (encXs ks)] :: .cells [.int .i64 0,.int .i64 0,.str [],.str [],.int .i64 0,.str [],.str [],.nils,.nils] :: .cells [.int .i64 k,.int .i64 i,.str m,.str n,.int .i64 t.kind,.str t.mod,.str t.name,.slice (encs t.kids),.own (A.length + (j + 3))] :: B),A ++ (.cells [.int .i64 k,.int .i64 i,.str m,.str n,.int .i64 t.kind,.str t.mod,.str t.name,.slice (encs t.kids),.slice (encXs ks)] :: .cells [.int .i64 0,.int .i64 0,.str [],.str [],.int .i64 0,.str [],.str [],.nils,.nils] :: .cells [.int .i64 k,.int .i64 i,.str m,.str n,.int .i64 t.kind,.str t.mod,.str t.name,.slice (encs t.kids),.own (A.length + (j + 3))] :: B),A ++ (.cells [.int .i64 k,.int .i64 i,.str m,.str n,.int .i64 t.kind,.str t.mod,.str t.name,.slice (encs t.kids),.slice (encXs ks)] :: .cells [.int .i64 0,.int .i64 0,.str [],.str [],.int .i64 0,.str [],.str [],.nils,.nils] :: .cells [.int .i64 k,.int .i64 i,.str m,.str n,.int .i64 t.kind,.str t.mod,.str t.name,.slice (encs t.kids),.own (A.length + (j + 3))] :: (B ++ [.row 9 [encX (ks.getD q ex0)] 0])),A ++ (.cells [.int .i64 k,.int .i64 i,.str m,.str n,.int .i64 t.kind,.str t.mod,.str t.name,.slice (encs t.kids),.slice (encXs ks)] :: .cells [.int .i64 0,.int .i64 0,.str [],.str [],.int .i64 0,.str [],.str [],.nils,.nils] :: .cells [.int .i64 k,.int .i64 i,.str m,.str n,.int .i64 t.kind,.str t.mod,.str t.name,.slice (encs t.kids),.own (A.length + (j + 3))] :: (B.set j .dead ++ [.row 9 [encX (ks.getD q ex0)] 0,.row 9 (encXs (ks.take q) ++ [encX (ks.getD q ex0)]) 0])),A ++ (.cells [.int .i64 k,.int .i64 i,.str m,.str n,.int .i64 t.kind,.str t.mod,.str t.name,.slice (encs t.kids),.slice (encXs ks)] :: .cells [.int .i64 0,.int .i64 0,.str [],.str [],.int .i64 0,.str [],.str [],.nils,.nils] :: .cells [.int .i64 k,.int .i64 i,.str m,.str n,.int .i64 t.kind,.str t.mod,.str t.name,.slice (encs t.kids),.own (A.length + (B.length + 1 + 3))] :: (B.set j .dead ++ [.row 9 [encX (ks.getD q ex0)] 0,.row 9 (encXs (ks.take q) ++ [encX (ks.getD q ex0)]) 0]))] 4 rfl (by kernel_rfl) (by kernel_rfl) (by kernel_rfl) (by kernel_rfl) (by kernel_rfl) (by kernel_rfl) ?_)
            simp only [zW,zX,zD,builtinA,isLeaf,const1,ustrA,simprocAttr,ti3,ti9,ti36,ti37,ti39,ca204,ca235,cf,Tryz.results235,he,hj,hg,encX_length,encX_take,encX_drop,frzL_encX,encX_closed,Option.map_some,encXs_length]
            refine ⟨by omega,?_⟩
            refine callE_intro (by simp only [zW,zX,zD,builtinA,isLeaf,const1,ustrA,simprocAttr,encX_length,encX_take,encX_drop,frzL_encX,encX_closed,Option.map_some] <;> rfl) (ih _ hmm (hok _ hmm) _) ?_ rfl rfl
            simp only [zW,zX,zD,builtinA,isLeaf,const1,ustrA,simprocAttr,ti3,ti9,ti36,ti37,ti39,ca204,ca235,cf,Tryz.results235,he,hj,hg,encX_length,encX_take,encX_drop,frzL_encX,encX_closed,Option.map_some,encXs_length]
            simp only [zW,zX,zD,builtinA,isLeaf,const1,ustrA,simprocAttr,ti3,ti9,ti36,ti37,ti39,ca204,ca235,cf,Tryz.results235,hi1,LoopK_eq]
            refine ⟨fun v hv=>encX_leaf _ v hv,⟨fun r hr=>by rw [List.mem_singleton.1 hr,encX_length],by rw [List.length_take]; omega⟩,⟨q + 1,B.set j .dead ++ [.row 9 [encX (ks.getD q ex0)] 0,.row 9 (encXs (ks.take q) ++ [encX (ks.getD q ex0)]) 0],_,by omega,rfl,rfl,.inr ⟨B.length + 1,rfl,by simp,?_⟩⟩,?_⟩
            · rw [getD_sapp,hsn]; rfl
            · simp only [intOf]
              omega
        · have : q = ks.length:=by simp at h2; omega
          subst this
          rw [List.take_length] at hx
          rcases hx with ⟨h0,rfl,rfl⟩ | ⟨j,rfl,hj,hg⟩
          · have : ks = []:=by cases ks with
              | nil=>rfl
              | cons=>simp at h0
            subst this
            simp only [zW,zX,zD,builtinA,isLeaf,const1,ustrA,simprocAttr,ti3,ti9,ti36,ti37,ti39,ca204,ca235,cf,Tryz.results235,encXs]
          · simp only [zW,zX,zD,builtinA,isLeaf,const1,ustrA,simprocAttr,ti3,ti9,ti36,ti37,ti39,ca204,ca235,cf,Tryz.results235,hg,hj]
      )
set_option maxRecDepth 100000 in
set_option maxHeartbeats 4000000 in
theorem spec_l4CopyK (k i : Int) (m n : List UInt8) (t : Ty) (ks : List Ex) (hx : szX (.mk k i m n t ks) ≤ 1048576) (A : List Box) : ACalls Tryz.prog 235 [.agg (encX (.mk k i m n t ks))] A (fun r A'=>∃ x B,r = .agg [.int .i64 k,.int .i64 i,.str m,.str n,.int .i64 t.kind,.str t.mod,.str t.name,.slice (encs t.kids),x] ∧ A' = A ++ B ∧ ((x = .nils ∧ ks = []) ∨ ∃ j,x = .own (A.length + j) ∧ j < B.length ∧ B.getD j .dead = .row 9 (encXs ks) 0)):=by
    have ih : ∀ t ∈ ks,szX t ≤ 1048576 → ∀ (A : List Box),ACalls Tryz.prog 235 [.agg (encX t)] A (fun r A'=>r = .agg (encX t) ∧ A' = A):=fun t _ h=>spec_l4Copy t h
    have hsx : szX (.mk k i m n t ks) = m.length + n.length + sz t + (ks.length + szXs ks):=by rw [szX]
    rw [hsx] at hx
    have hks : ks.length ≤ 1048576:=by omega
    have hok : ∀ t ∈ ks,szX t ≤ 1048576:=fun t ht=>by have:=szXs_mem ht; omega
    have hct:=fun A=>spec_l1Copy t (by omega) A
    have w1 : IntKind.i64.wrap 1 = 1:=wrap64 (by omega) (by omega)
    have etc4 : ∀ n,(enc t).all (closed1 n) = true:=fun n=>enc_closed t n
    rw [encT4] at hct
    rw [encX]
    refine acalls_enterK (cf:=cf 36 [0,1,2,3,4,21]) foll Tryz.func235 Tryz.ntmps235 (by simp [cf]) ?_
    simp only [Tryz.f235,EnterK_some,zW,zX,zD,builtinA,isLeaf,const1,ustrA,simprocAttr,ti3,ti9,ti36,ti37,ti39,ca204,ca235,cf,Tryz.results235]
    refine .inr (drawI_intro (.pur 0 (.pur 1 (.pur 2 (.pur 3 (.pur 4 (.pur 5 (.pur 6 (.pur 7 (.pur 8 (.pur 9 (.or 10 (.pur 11 (.or 12 (.or 13 .done .stop) .stop)) (.or 12 (.or 10 (.pur 11 (.or 13 .done .stop)) .stop) .stop)))))))))))) (IBox A.length (.cells [.int .i64 k,.int .i64 i,.str m,.str n,.int .i64 t.kind,.str t.mod,.str t.name,.slice (encs t.kids),.slice (encXs ks)])) (by kernel_rfl) ?_ ?_)
    · exact ⟨by simp,by simp⟩
    iterate 10 (refine wpI_pur_intro (v:=?_) _ rfl rfl (by decide) rfl (fun A' hI=>?_) ?_; rotate_left 1; (simp only [zW,zX,zD,builtinA,isLeaf,const1,ustrA,simprocAttr,ti3,ti9,ti36,ti37,ti39,ca204,ca235,cf,Tryz.results235,hI.1,hI.2]; first | exact rfl | exact ⟨rfl,rfl⟩ | (refine ⟨by omega,?_⟩; exact rfl) | (refine ⟨⟨by omega,by omega⟩,?_⟩; exact rfl)))
    simp only [zW,zX,zD,builtinA,isLeaf,const1,ustrA,simprocAttr,ti3,ti9,ti36,ti37,ti39,ca204,ca235,cf,Tryz.results235,wpI_or_eq,wpI_stop_eq,wpI_done_eq]
    refine ⟨?_,⟨by simp,by simp⟩,?_⟩
    all_goals (refine callK_intro (by first | rfl | (simp only [zW,zX,zD,builtinA,isLeaf,const1,ustrA,simprocAttr]; rfl)) (hct _) ?_ rfl; rintro _ _ ⟨rfl,rfl⟩)
    all_goals simp only [zW,zX,zD,builtinA,isLeaf,const1,ustrA,simprocAttr,ti3,ti9,ti36,ti37,ti39,ca204,ca235,cf,Tryz.results235,wpI_or_eq,wpI_stop_eq,wpI_done_eq]
    all_goals try refine ⟨⟨by simp,by simp⟩,?_⟩
    all_goals (refine wpI_pur_intro (v:=?_) _ rfl rfl (by decide) rfl (fun A' hI=>?_) ?_; rotate_left 1; (simp only [zW,zX,zD,builtinA,isLeaf,const1,ustrA,simprocAttr,ti3,ti9,ti36,ti37,ti39,ca204,ca235,cf,Tryz.results235,hI.1,hI.2]; first | exact rfl | exact ⟨rfl,rfl⟩ | (refine ⟨by omega,?_⟩; exact rfl) | (refine ⟨⟨by omega,by omega⟩,?_⟩; exact rfl)))
    all_goals simp only [zW,zX,zD,builtinA,isLeaf,const1,ustrA,simprocAttr,ti3,ti9,ti36,ti37,ti39,ca204,ca235,cf,Tryz.results235,wpI_or_eq,wpI_stop_eq,wpI_done_eq]
    all_goals repeat refine ⟨⟨by simp,by simp⟩,?_⟩
    all_goals (
      refine aloop_intro [1,2,3,4] (fun e A'=>∃ q B x,q ≤ ks.length ∧ e = [(1,.ptr A.length 0),(2,.ptr (A.length + 1) 0),(3,.ptr (A.length + 2) 0),(4,.int .i64 q)] ∧ A' = A ++ (.cells [.int .i64 k,.int .i64 i,.str m,.str n,.int .i64 t.kind,.str t.mod,.str t.name,.slice (encs t.kids),.slice (encXs ks)] :: .cells [.int .i64 0,.int .i64 0,.str [],.str [],.int .i64 0,.str [],.str [],.nils,.nils] :: .cells [.int .i64 k,.int .i64 i,.str m,.str n,.int .i64 t.kind,.str t.mod,.str t.name,.slice (encs t.kids),x] :: B) ∧
        ((q = 0 ∧ x = .nils ∧ B = []) ∨ (∃ j,x = .own (A.length + (j + 3)) ∧ j < B.length ∧ B.getD j .dead = .row 9 (encXs (ks.take q)) 0))) (fun e _=>ks.length - (intOf (Abs.look 4 e)).toNat) ?_ ?_
      · simp only [zW,zX,zD,builtinA,isLeaf,const1,ustrA,simprocAttr,ti3,ti9,ti36,ti37,ti39,ca204,ca235,cf,Tryz.results235]
        exact ⟨0,[],.nils,by omega,rfl,rfl,.inl ⟨rfl,rfl,rfl⟩⟩
      · rintro e A' ⟨q,B,x,hi,rfl,rfl,hx⟩
        simp only [zW,zX,zD,builtinA,isLeaf,const1,ustrA,simprocAttr,ti3,ti9,ti36,ti37,ti39,ca204,ca235,cf,Tryz.results235,encXs_length]
        refine condK_intro (fun h2=>?_) (fun h2=>?_)
        · have hi2 : q < ks.length:=by simpa using h2
          have he:=encXs_getD hi2
          have hmm:=ex_mem hi2
          have hi1 : IntKind.i64.wrap ((q : Int) + 1) = ((q + 1 : Nat) : Int):=by rw [wrap64 (by omega) (by omega)]; rfl
          rcases hx with ⟨rfl,rfl,rfl⟩ | ⟨j,rfl,hj,hg⟩
          · simp only [wpc_skip,AThen_normal,wpc_block,wpc_seq,wpc_drawn]
            refine .inr (drawE_intro [(false,0,2),(false,0,2),(false,0,0),(false,0,0),(false,0,0),(false,0,0),(false,0,0),(true,0,0),(true,1,1),(true,2,2),(false,3,3),(true,3,3)] [A ++ [.cells [.int .i64 k,.int .i64 i,.str m,.str n,.int .i64 t.kind,.str t.mod,.str t.name,.slice (encs t.kids),.slice (encXs ks)],.cells [.int .i64 0,.int .i64 0,.str [],.str [],.int .i64 0,.str [],.str [],.nils,.nils],.cells [.int .i64 k,.int .i64 i,.str m,.str n,.int .i64 t.kind,.str t.mod,.str t.name,.slice (encs t.kids),.nils]],A ++ [.cells [.int .i64 k,.int .i64 i,.str m,.str n,.int .i64 t.kind,.str t.mod,.str t.name,.slice (encs t.kids),.slice (encXs ks)],.cells [.int .i64 0,.int .i64 0,.str [],.str [],.int .i64 0,.str [],.str [],.nils,.nils],.cells [.int .i64 k,.int .i64 i,.str m,.str n,.int .i64 t.kind,.str t.mod,.str t.name,.slice (encs t.kids),.nils]],A ++ [.cells [.int .i64 k,.int .i64 i,.str m,.str n,.int .i64 t.kind,.str t.mod,.str t.name,.slice (encs t.kids),.slice (encXs ks)],.cells [.int .i64 0,.int .i64 0,.str [],.str [],.int .i64 0,.str [],.str [],.nils,.nils],.cells [.int .i64 k,.int .i64 i,.str m,.str n,.int .i64 t.kind,.str t.mod,.str t.name,.slice (encs t.kids),.nils],.row 9 [encX (ks.getD 0 ex0)] 0],A ++ [.cells [.int .i64 k,.int .i64 i,.str m,.str n,.int .i64 t.kind,.str t.mod,.str t.name,.slice (encs t.kids),.slice (encXs ks)],.cells [.int .i64 0,.int .i64 0,.str [],.str [],.int .i64 0,.str [],.str [],.nils,.nils],.cells [.int .i64 k,.int .i64 i,.str m,.str n,.int .i64 t.kind,.str t.mod,.str t.name,.slice (encs t.kids),.nils],.row 9 [encX (ks.getD 0 ex0)] 0,.row 9 [encX (ks.getD 0 ex0)] 0],A ++ [.cells [.int .i64 k,.int .i64 i,.str m,.str n,.int .i64 t.kind,.str t.mod,.str t.name,.slice (encs t.kids),.slice (encXs ks)],.cells [.int .i64 0,.int .i64 0,.str [],.str [],.int .i64 0,.str [],.str [],.nils,.nils],.cells [.int .i64 k,.int .i64 i,.str m,.str n,.int .i64 t.kind,.str t.mod,.str t.name,.slice (encs t.kids),.own (A.length + 4)],.row 9 [encX (ks.getD 0 ex0)] 0,.row 9 [encX (ks.getD 0 ex0)] 0]] 4 rfl (by kernel_rfl) (by kernel_rfl) (by kernel_rfl) (by kernel_rfl) (by kernel_rfl) (by kernel_rfl) ?_)
            simp only [zW,zX,zD,builtinA,isLeaf,const1,ustrA,simprocAttr,ti3,ti9,ti36,ti37,ti39,ca204,ca235,cf,Tryz.results235,he,encX_length,encX_take,encX_drop,frzL_encX,encX_closed,Option.map_some,encXs_length]
            refine ⟨by omega,?_⟩
            refine callE_intro (by simp only [zW,zX,zD,builtinA,isLeaf,const1,ustrA,simprocAttr,encX_length,encX_take,encX_drop,frzL_encX,encX_closed,Option.map_some] <;> rfl) (ih _ hmm (hok _ hmm) _) ?_ rfl rfl
            simp only [zW,zX,zD,builtinA,isLeaf,const1,ustrA,simprocAttr,ti3,ti9,ti36,ti37,ti39,ca204,ca235,cf,Tryz.results235,he,encX_length,encX_take,encX_drop,frzL_encX,encX_closed,Option.map_some,encXs_length]
            have hsn : [encX (ks.getD 0 ex0)] = encXs (ks.take 1):=by
              match ks,hi2 with
              | t :: l,_=>simp [encXs]
            simp only [zW,zX,zD,builtinA,isLeaf,const1,ustrA,simprocAttr,ti3,ti9,ti36,ti37,ti39,ca204,ca235,cf,Tryz.results235,hi1,w1,LoopK_eq]
            refine ⟨fun v hv=>encX_leaf _ v hv,fun r hr=>by rw [List.mem_singleton.1 hr,encX_length],⟨0 + 1,[.row 9 [encX (ks.getD 0 ex0)] 0,.row 9 [encX (ks.getD 0 ex0)] 0],_,by omega,rfl,rfl,.inr ⟨1,rfl,by simp,by rw [hsn]; rfl⟩⟩,?_⟩
            simp only [intOf]
            omega
          · have hsn : encXs (ks.take q) ++ [encX (ks.getD q ex0)] = encXs (ks.take (q + 1)):=by
              rw [encXs_map,encXs_map,List.take_add_one,List.map_append]
              simp [List.getD,hi2]
            simp only [wpc_skip,AThen_normal,wpc_block,wpc_seq,wpc_drawn]
            refine .inr (drawE_intro [(false,0,2),(false,0,2),(false,0,0),(false,0,0),(false,0,0),(false,0,0),(false,0,0),(true,0,0),(true,1,1),(true,2,2),(false,3,3),(true,3,3)] [A ++ (.cells [.int .i64 k,.int .i64 i,.str m,.str n,.int .i64 t.kind,.str t.mod,.str t.name,.slice (encs t.kids),.slice (encXs ks)] :: .cells [.int .i64 0,.int .i64 0,.str [],.str [],.int .i64 0,.str [],.str [],.nils,.nils] :: .cells [.int .i64 k,.int .i64 i,.str m,.str n,.int .i64 t.kind,.str t.mod,.str t.name,.slice (encs t.kids),.own (A.length + (j + 3))] :: B),A ++ (.cells [.int .i64 k,.int .i64 i,.str m,.str n,.int .i64 t.kind,.str t.mod,.str t.name,.slice (encs t.kids),.slice (encXs ks)] :: .cells [.int .i64 0,.int .i64 0,.str [],.str [],.int .i64 0,.str [],.str [],.nils,.nils] :: .cells [.int .i64 k,.int .i64 i,.str m,.str n,.int .i64 t.kind,.str t.mod,.str t.name,.slice (encs t.kids),.own (A.length + (j + 3))] :: B),A ++ (.cells [.int .i64 k,.int .i64 i,.str m,.str n,.int .i64 t.kind,.str t.mod,.str t.name,.slice (encs t.kids),.slice (encXs ks)] :: .cells [.int .i64 0,.int .i64 0,.str [],.str [],.int .i64 0,.str [],.str [],.nils,.nils] :: .cells [.int .i64 k,.int .i64 i,.str m,.str n,.int .i64 t.kind,.str t.mod,.str t.name,.slice (encs t.kids),.own (A.length + (j + 3))] :: (B ++ [.row 9 [encX (ks.getD q ex0)] 0])),A ++ (.cells [.int .i64 k,.int .i64 i,.str m,.str n,.int .i64 t.kind,.str t.mod,.str t.name,.slice (encs t.kids),.slice (encXs ks)] :: .cells [.int .i64 0,.int .i64 0,.str [],.str [],.int .i64 0,.str [],.str [],.nils,.nils] :: .cells [.int .i64 k,.int .i64 i,.str m,.str n,.int .i64 t.kind,.str t.mod,.str t.name,.slice (encs t.kids),.own (A.length + (j + 3))] :: (B.set j .dead ++ [.row 9 [encX (ks.getD q ex0)] 0,.row 9 (encXs (ks.take q) ++ [encX (ks.getD q ex0)]) 0])),A ++ (.cells [.int .i64 k,.int .i64 i,.str m,.str n,.int .i64 t.kind,.str t.mod,.str t.name,.slice (encs t.kids),.slice (encXs ks)] :: .cells [.int .i64 0,.int .i64 0,.str [],.str [],.int .i64 0,.str [],.str [],.nils,.nils] :: .cells [.int .i64 k,.int .i64 i,.str m,.str n,.int .i64 t.kind,.str t.mod,.str t.name,.slice (encs t.kids),.own (A.length + (B.length + 1 + 3))] :: (B.set j .dead ++ [.row 9 [encX (ks.getD q ex0)] 0,.row 9 (encXs (ks.take q) ++ [encX (ks.getD q ex0)]) 0]))] 4 rfl (by kernel_rfl) (by kernel_rfl) (by kernel_rfl) (by kernel_rfl) (by kernel_rfl) (by kernel_rfl) ?_)
            simp only [zW,zX,zD,builtinA,isLeaf,const1,ustrA,simprocAttr,ti3,ti9,ti36,ti37,ti39,ca204,ca235,cf,Tryz.results235,he,hj,hg,encX_length,encX_take,encX_drop,frzL_encX,encX_closed,Option.map_some,encXs_length]
            refine ⟨by omega,?_⟩
            refine callE_intro (by simp only [zW,zX,zD,builtinA,isLeaf,const1,ustrA,simprocAttr,encX_length,encX_take,encX_drop,frzL_encX,encX_closed,Option.map_some] <;> rfl) (ih _ hmm (hok _ hmm) _) ?_ rfl rfl
            simp only [zW,zX,zD,builtinA,isLeaf,const1,ustrA,simprocAttr,ti3,ti9,ti36,ti37,ti39,ca204,ca235,cf,Tryz.results235,he,hj,hg,encX_length,encX_take,encX_drop,frzL_encX,encX_closed,Option.map_some,encXs_length]
            simp only [zW,zX,zD,builtinA,isLeaf,const1,ustrA,simprocAttr,ti3,ti9,ti36,ti37,ti39,ca204,ca235,cf,Tryz.results235,hi1,LoopK_eq]
            refine ⟨fun v hv=>encX_leaf _ v hv,⟨fun r hr=>by rw [List.mem_singleton.1 hr,encX_length],by rw [List.length_take]; omega⟩,⟨q + 1,B.set j .dead ++ [.row 9 [encX (ks.getD q ex0)] 0,.row 9 (encXs (ks.take q) ++ [encX (ks.getD q ex0)]) 0],_,by omega,rfl,rfl,.inr ⟨B.length + 1,rfl,by simp,?_⟩⟩,?_⟩
            · rw [getD_sapp,hsn]; rfl
            · simp only [intOf]
              omega
        · have : q = ks.length:=by simp at h2; omega
          subst this
          rw [List.take_length] at hx
          rcases hx with ⟨h0,rfl,rfl⟩ | ⟨j,rfl,hj,hg⟩
          · have : ks = []:=by cases ks with
              | nil=>rfl
              | cons=>simp at h0
            subst this
            simp only [zW,zX,zD,builtinA,isLeaf,const1,ustrA,simprocAttr,ti3,ti9,ti36,ti37,ti39,ca204,ca235,cf,Tryz.results235,encXs]
            exact ⟨_,_,rfl,rfl,.inl rfl⟩
          · simp only [zW,zX,zD,builtinA,isLeaf,const1,ustrA,simprocAttr,ti3,ti9,ti36,ti37,ti39,ca204,ca235,cf,Tryz.results235,hg,hj]
            refine ⟨_,_,rfl,rfl,.inr ?_⟩
            exact ⟨j + 3,rfl,by simp; omega,hg⟩
      )
end Go.Proofs.YtnjdbgiincliaaaGreat
