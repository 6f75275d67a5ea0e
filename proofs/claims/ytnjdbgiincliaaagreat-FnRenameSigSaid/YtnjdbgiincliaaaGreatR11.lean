/- SigRen, SigRenS, SigRenI, SigRenJ. -/
import Derived.Test.YtnjdbgiincliaaaGreatR10
import Derived.Test.YtnjdbgiincliaaaGreatAbsW3
/- Renamed signatures, by the program and by the model. -/
set_option linter.unusedVariables false
set_option linter.unusedSimpArgs false
namespace Go.Proofs.YtnjdbgiincliaaaGreat
open Go.Abs
mutual
def swT (f t : List UInt8) : Ty → Ty
  | .mk k m n ks=>.mk k (renM f t m) n (swTs f t ks)
def swTs (f t : List UInt8) : List Ty → List Ty
  | []=>[]
  | x :: l=>swT f t x :: swTs f t l
end
theorem swTs_map (f t : List UInt8) : ∀ l,swTs f t l = l.map (swT f t)
  | []=>rfl
  | x :: l=>by rw [swTs,swTs_map f t l]; rfl
theorem swT_toTy {f t : List UInt8} (hf : f ≠ []) : ∀ v,swT f t (toTy v) = toTy (renV f t v)
  | .num=>by simp [toTy,swT,swTs,renV,mapT,renM,Ne.symm hf]
  | .nm m n=>by simp [toTy,swT,swTs,renV,mapT,renP]
  | .fn a b=>by
    have h1:=swT_toTy (t:=t) hf a
    have h2:=swT_toTy (t:=t) hf b
    simp only [renV] at h1 h2
    simp [toTy,swT,swTs,renV,mapT,renM,Ne.symm hf,h1,h2]
def swI (f t : List UInt8) (x : SigI) : SigI:=⟨x.kind,x.name,swT f t x.typ⟩
theorem swI_si {f t : List UInt8} (hf : f ≠ []) (y : VI) : swI f t (siOf y) = siOf (renI f t y):=by
  cases y with
  | ab n=>simp [swI,siOf,renI,ty0,swT,swTs,renM,Ne.symm hf]
  | al n v=>simp [swI,siOf,renI,swT_toTy hf]
  | va n v=>simp [swI,siOf,renI,swT_toTy hf]
set_option maxRecDepth 100000 in
set_option maxHeartbeats 1000000 in
theorem spec_l2Swap (f t : List UInt8) (τ : Ty) (hτ : sz τ ≤ 1048576) : ∀ (A : List Box),ACalls Tryz.prog 192 [.agg (enc τ),.str f,.str t] A (fun r A'=>r = .agg (enc (swT f t τ)) ∧ A' = A):=by
  induction τ using Ty.ind with
  | h k m n ks ih =>
    intro A
    have hks : ks.length ≤ 1048576:=by rw [sz] at hτ; omega
    have hok : ∀ t ∈ ks,sz t ≤ 1048576:=fun t ht=>by rw [sz] at hτ; have:=szs_mem ht; omega
    have hstep : ∀ {i : Nat},i < ks.length → encs (swTs f t (ks.take i)) ++ [enc (swT f t (ks.getD i ty0))] = encs (swTs f t (ks.take (i + 1))):=fun {i} hi2=>by
      rw [encs_map,encs_map,swTs_map,swTs_map,List.take_add_one,List.map_append,List.map_append]
      simp [List.getD,hi2]
    have htl : ∀ i,(encs (swTs f t (ks.take i))).length = (ks.take i).length:=fun i=>by rw [encs_length,swTs_map,List.length_map]
    rw [swT,enc,enc]
    obtain ⟨m',hm'⟩ : ∃ m',m' = renM f t m:=⟨_,rfl⟩
    rw [← hm']
    have hmm : (m = f ∧ m' = t) ∨ (m ≠ f ∧ m' = m):=by
      by_cases h : m = f
      · left; exact ⟨h,by rw [hm',renM,if_pos h]⟩
      · right; exact ⟨h,by rw [hm',renM,if_neg h]⟩
    clear hm'
    rcases hmm with ⟨hmf,hm'⟩ | ⟨hmf,hm'⟩
    all_goals
      refine acalls_enter (cf:=cf 43 [0,1,2,3,6,7,8,19,26]) foll Tryz.func192 Tryz.ntmps192 (by simp [cf]) ?_
      simp only [Tryz.f192,EnterK_some,zW,zX,zD,builtinA,isLeaf,const1,ustrA,simprocAttr,ti3,ti9,ti34,ti36,ca192,cf,Tryz.results192]
      first
        | simp only [zW,zX,zD,builtinA,isLeaf,const1,ustrA,simprocAttr,ti3,ti9,ti34,ti36,ca192,cf,Tryz.results192,decide_eq_true hmf]
        | simp only [zW,zX,zD,builtinA,isLeaf,const1,ustrA,simprocAttr,ti3,ti9,ti34,ti36,ca192,cf,Tryz.results192,decide_eq_false hmf]
    all_goals
      refine aloop_intro [1,2,3,6,7,8] (fun e A'=>∃ i B x,i ≤ ks.length ∧ e = [(1,.str f),(2,.str t),(3,.ptr A.length 0),(6,.ptr (A.length + 1) 0),(7,.ptr (A.length + 2) 0),(8,.int .i64 i)] ∧ A' = A ++ (.cells [.int .i64 k,.str m,.str n,.slice (encs ks)] :: .cells [.int .i64 0,.str [],.str [],.nils] :: .cells [.int .i64 k,.str m',.str n,x] :: B) ∧
        ((i = 0 ∧ x = .nils ∧ B = []) ∨ (∃ j,x = .own (A.length + (j + 3)) ∧ j < B.length ∧ B.getD j .dead = .row 4 (encs (swTs f t (ks.take i))) 0))) (fun e _=>ks.length - (intOf (Abs.look 8 e)).toNat) ?_ ?_
      · simp only [zW,zX,zD,builtinA,isLeaf,const1,ustrA,simprocAttr,ti3,ti9,ti34,ti36,ca192,cf,Tryz.results192]
        refine ⟨0,[],.nils,by omega,rfl,?_,.inl ⟨rfl,rfl,rfl⟩⟩
        rw [hm']
      · rintro e A' ⟨i,B,x,hi,rfl,rfl,hx⟩
        simp only [zW,zX,zD,builtinA,isLeaf,const1,ustrA,simprocAttr,ti3,ti9,ti34,ti36,ca192,cf,Tryz.results192,encs_length]
        refine condK_intro (fun h2=>?_) (fun h2=>?_)
        · have hi2 : i < ks.length:=by simpa using h2
          have he:=encs_getD hi2
          have hmm:=getD_mem hi2
          have hi1 : IntKind.i64.wrap ((i : Int) + 1) = ((i + 1 : Nat) : Int):=by rw [wrap64 (by omega) (by omega)]; rfl
          rcases hx with ⟨rfl,rfl,rfl⟩ | ⟨j,rfl,hj,hg⟩
          · simp only [wpc_skip,AThen_normal,wpc_block,wpc_seq,wpc_drawn]
            refine .inr (drawE_intro [(false,0,2),(false,0,2),(false,0,0),(false,0,0),(false,0,0),(false,0,0),(false,0,0),(false,0,0),(false,0,0),(true,0,0),(true,1,1),(true,2,2),(false,3,3),(true,3,3)] [A ++ (.cells [.int .i64 k,.str m,.str n,.slice (encs ks)] :: .cells [.int .i64 0,.str [],.str [],.nils] :: .cells [.int .i64 k,.str m',.str n,.nils] :: []),A ++ (.cells [.int .i64 k,.str m,.str n,.slice (encs ks)] :: .cells [.int .i64 0,.str [],.str [],.nils] :: .cells [.int .i64 k,.str m',.str n,.nils] :: []),A ++ (.cells [.int .i64 k,.str m,.str n,.slice (encs ks)] :: .cells [.int .i64 0,.str [],.str [],.nils] :: .cells [.int .i64 k,.str m',.str n,.nils] :: [.row 4 [enc (swT f t (ks.getD 0 ty0))] 0]),A ++ (.cells [.int .i64 k,.str m,.str n,.slice (encs ks)] :: .cells [.int .i64 0,.str [],.str [],.nils] :: .cells [.int .i64 k,.str m',.str n,.nils] :: [.row 4 [enc (swT f t (ks.getD 0 ty0))] 0,.row 4 [enc (swT f t (ks.getD 0 ty0))] 0]),A ++ (.cells [.int .i64 k,.str m,.str n,.slice (encs ks)] :: .cells [.int .i64 0,.str [],.str [],.nils] :: .cells [.int .i64 k,.str m',.str n,.own (A.length + 4)] :: [.row 4 [enc (swT f t (ks.getD 0 ty0))] 0,.row 4 [enc (swT f t (ks.getD 0 ty0))] 0])] 4 rfl (by kernel_rfl) (by kernel_rfl) (by kernel_rfl) (by kernel_rfl) (by kernel_rfl) (by kernel_rfl) ?_)
            simp only [zW,zX,zD,builtinA,isLeaf,const1,ustrA,simprocAttr,ti3,ti9,ti34,ti36,ca192,cf,Tryz.results192,he,enc_length,enc_take,sb_drop,frzL_enc,sb_closed,Option.map_some,encs_length]
            have hw1 : IntKind.i64.wrap 1 = ((0 + 1 : Nat) : Int):=by rw [wrap64 (by omega) (by omega)]; rfl
            refine ⟨by omega,?_⟩
            refine callE_intro (by simp only [zW,zX,zD,builtinA,isLeaf,const1,ustrA,simprocAttr,enc_length,enc_take,sb_drop,frzL_enc,sb_closed,Option.map_some] <;> rfl) (ih _ hmm (hok _ hmm) _) ?_ rfl rfl
            simp only [zW,zX,zD,builtinA,isLeaf,const1,ustrA,simprocAttr,ti3,ti9,ti34,ti36,ca192,cf,Tryz.results192,he,enc_length,enc_take,sb_drop,frzL_enc,sb_closed,Option.map_some,encs_length]
            have hsn : [enc (swT f t (ks.getD 0 ty0))] = encs (swTs f t (ks.take 1)):=by
              match ks,hi2 with
              | t :: l,_=>simp [encs,swTs]
            simp only [zW,zX,zD,builtinA,isLeaf,const1,ustrA,simprocAttr,ti3,ti9,ti34,ti36,ca192,cf,Tryz.results192,hi1,hw1,LoopK_eq]
            refine ⟨fun v hv=>enc_leaf _ v hv,fun r hr=>by rw [List.mem_singleton.1 hr,enc_length],⟨0 + 1,[.row 4 [enc (swT f t (ks.getD 0 ty0))] 0,.row 4 [enc (swT f t (ks.getD 0 ty0))] 0],_,by omega,rfl,rfl,.inr ⟨1,rfl,by simp,by rw [hsn]; rfl⟩⟩,?_⟩
            simp only [intOf]
            omega
          · have hsn:=hstep hi2
            have htli:=htl i
            simp only [wpc_skip,AThen_normal,wpc_block,wpc_seq,wpc_drawn]
            refine .inr (drawE_intro [(false,0,2),(false,0,2),(false,0,0),(false,0,0),(false,0,0),(false,0,0),(false,0,0),(false,0,0),(false,0,0),(true,0,0),(true,1,1),(true,2,2),(false,3,3),(true,3,3)] [A ++ (.cells [.int .i64 k,.str m,.str n,.slice (encs ks)] :: .cells [.int .i64 0,.str [],.str [],.nils] :: .cells [.int .i64 k,.str m',.str n,.own (A.length + (j + 3))] :: B),A ++ (.cells [.int .i64 k,.str m,.str n,.slice (encs ks)] :: .cells [.int .i64 0,.str [],.str [],.nils] :: .cells [.int .i64 k,.str m',.str n,.own (A.length + (j + 3))] :: B),A ++ (.cells [.int .i64 k,.str m,.str n,.slice (encs ks)] :: .cells [.int .i64 0,.str [],.str [],.nils] :: .cells [.int .i64 k,.str m',.str n,.own (A.length + (j + 3))] :: (B ++ [.row 4 [enc (swT f t (ks.getD i ty0))] 0])),A ++ (.cells [.int .i64 k,.str m,.str n,.slice (encs ks)] :: .cells [.int .i64 0,.str [],.str [],.nils] :: .cells [.int .i64 k,.str m',.str n,.own (A.length + (j + 3))] :: (B.set j .dead ++ [.row 4 [enc (swT f t (ks.getD i ty0))] 0,.row 4 (encs (swTs f t (ks.take i)) ++ [enc (swT f t (ks.getD i ty0))]) 0])),A ++ (.cells [.int .i64 k,.str m,.str n,.slice (encs ks)] :: .cells [.int .i64 0,.str [],.str [],.nils] :: .cells [.int .i64 k,.str m',.str n,.own (A.length + (B.length + 1 + 3))] :: (B.set j .dead ++ [.row 4 [enc (swT f t (ks.getD i ty0))] 0,.row 4 (encs (swTs f t (ks.take i)) ++ [enc (swT f t (ks.getD i ty0))]) 0]))] 4 rfl (by kernel_rfl) (by kernel_rfl) (by kernel_rfl) (by kernel_rfl) (by kernel_rfl) (by kernel_rfl) ?_)
            simp only [zW,zX,zD,builtinA,isLeaf,const1,ustrA,simprocAttr,ti3,ti9,ti34,ti36,ca192,cf,Tryz.results192,he,hj,hg,enc_length,enc_take,sb_drop,frzL_enc,sb_closed,Option.map_some,encs_length]
            refine ⟨⟨by omega,by omega⟩,?_⟩
            refine callE_intro (by simp only [zW,zX,zD,builtinA,isLeaf,const1,ustrA,simprocAttr,enc_length,enc_take,sb_drop,frzL_enc,sb_closed,Option.map_some] <;> rfl) (ih _ hmm (hok _ hmm) _) ?_ rfl rfl
            simp only [zW,zX,zD,builtinA,isLeaf,const1,ustrA,simprocAttr,ti3,ti9,ti34,ti36,ca192,cf,Tryz.results192,he,hj,hg,enc_length,enc_take,sb_drop,frzL_enc,sb_closed,Option.map_some,encs_length]
            simp only [zW,zX,zD,builtinA,isLeaf,const1,ustrA,simprocAttr,ti3,ti9,ti34,ti36,ca192,cf,Tryz.results192,hi1,LoopK_eq]
            refine ⟨fun v hv=>enc_leaf _ v hv,⟨fun r hr=>by rw [List.mem_singleton.1 hr,enc_length],by rw [swTs_map,List.length_map,List.length_take]; omega⟩,⟨i + 1,B.set j .dead ++ [.row 4 [enc (swT f t (ks.getD i ty0))] 0,.row 4 (encs (swTs f t (ks.take i)) ++ [enc (swT f t (ks.getD i ty0))]) 0],_,by omega,rfl,rfl,.inr ⟨B.length + 1,rfl,by simp,?_⟩⟩,?_⟩
            · rw [getD_sapp,hsn]; rfl
            · simp only [intOf]
              omega
        · have : i = ks.length:=by simp at h2; omega
          subst this
          rw [List.take_length] at hx
          rcases hx with ⟨h0,rfl,rfl⟩ | ⟨j,rfl,hj,hg⟩
          · have : ks = []:=by cases ks with
              | nil=>rfl
              | cons=>simp at h0
            subst this
            simp only [zW,zX,zD,builtinA,isLeaf,const1,ustrA,simprocAttr,ti3,ti9,ti34,ti36,ca192,cf,Tryz.results192,encs,swTs]
          · simp only [zW,zX,zD,builtinA,isLeaf,const1,ustrA,simprocAttr,ti3,ti9,ti34,ti36,ca192,cf,Tryz.results192,hg,hj]
end Go.Proofs.YtnjdbgiincliaaaGreat
/- The model's RenameSig. -/
set_option linter.unusedVariables false
set_option linter.unusedSimpArgs false
namespace Go.Proofs.YtnjdbgiincliaaaGreat
open Go.Abs
set_option maxRecDepth 100000 in
theorem spec_l2Renamed (s : List SigI) (f t : List UInt8) (hl : s.length ≤ 1048576) (hz : ∀ x ∈ s,sz x.typ ≤ 1048576) (A : List Box) : ACalls Tryz.prog 106 [.slice (sEs s),.str f,.str t] A (fun r A'=>∃ B j,A' = A ++ B ∧ r = .own (A.length + j) ∧ j < B.length ∧ B.getD j .dead = .row 6 (sEs (s.map (swI f t))) 0):=by
  refine acalls_enterK (cf:=cf 39 [0,1,2,6,7,8,13]) foll Tryz.func106 Tryz.ntmps106 (by simp [cf]) ?_
  simp only [Tryz.f106,EnterK_some,zW,zX,zD,builtinA,isLeaf,const1,ustrA,simprocAttr,ti3,ti9,ti36,ti50,ti69,ca192,cf,Tryz.results106]
  refine aloop_intro [0,1,2,7,8] (fun e A'=>∃ i j B,i ≤ s.length ∧ e = [(0,.slice (sEs s)),(1,.str f),(2,.str t),(7,.own (A.length + j)),(8,.int .i64 i)] ∧ A' = A ++ B ∧ j < B.length ∧ B.getD j .dead = .row 6 (sEs ((s.take i).map (swI f t))) 0) (fun e _=>s.length - (intOf (Abs.look 8 e)).toNat) ?_ ?_
  · simp only [zW,zX,zD,builtinA,isLeaf,const1,ustrA,simprocAttr,ti3,ti9,ti36,ti50,ti69,ca192,cf,Tryz.results106]
    exact ⟨0,0,[.row 6 [] 0],by omega,rfl,rfl,by simp,rfl⟩
  · rintro e A' ⟨i,j,B,hi,rfl,rfl,hj,hg⟩
    simp only [zW,zX,zD,builtinA,isLeaf,const1,ustrA,simprocAttr,ti3,ti9,ti36,ti50,ti69,ca192,cf,Tryz.results106,sEs_length]
    refine condK_intro (fun h2=>?_) (fun h2=>?_)
    · have hi2 : i < s.length:=by simpa using h2
      have he:=sEs_getD hi2
      have hmm : s.getD i si0 ∈ s:=by simp [List.getD,hi2]
      have hi1 : IntKind.i64.wrap ((i : Int) + 1) = ((i + 1 : Nat) : Int):=by rw [wrap64 (by omega) (by omega)]; rfl
      have hsn : sEs ((s.take i).map (swI f t)) ++ [sE (swI f t (s.getD i si0))] = sEs ((s.take (i + 1)).map (swI f t)):=by
        rw [sEs,sEs,List.take_add_one,List.map_append,List.map_append]
        simp [List.getD,hi2]
      have pi : (0 : Int) ≤ (i : Int) ∧ (i : Int) < (s.length : Int):=⟨by omega,by omega⟩
      generalize hx : s.getD i si0 = x at *
      simp only [sE,swI] at he hsn
      have hl6 : ∀ (k : Int) (n : List UInt8) (t : Ty),(AV.int .i64 k :: .str n :: enc t).length = 6:=fun k n t=>by simp [enc_length]
      have hsw:=fun A=>spec_l2Swap f t x.typ (hz x hmm) A
      have hle:=sE_leaf ⟨x.kind,x.name,swT f t x.typ⟩
      rw [sE] at hle
      generalize swT f t x.typ = τ at *
      simp only [wpc_skip,AThen_normal,wpc_block,wpc_seq,wpc_drawn]
      refine .inr (drawE_intro [(false,0,2),(false,0,1),(false,0,1),(false,0,1),(false,0,1),(false,0,1),(false,0,1),(false,0,1),(false,0,1),(false,0,1),(false,0,1),(false,0,0),(false,0,0),(false,0,0),(false,0,0),(false,0,0),(false,0,0),(false,0,0),(true,0,0),(false,1,1),(true,1,1),(true,2,2),(false,3,3)] [A ++ B,A ++ B,A ++ (B ++ [.row 6 [(.int .i64 x.kind :: .str x.name :: enc τ)] 0]),A ++ (B.set j .dead ++ [.row 6 [(.int .i64 x.kind :: .str x.name :: enc τ)] 0,.row 6 (sEs ((s.take i).map (swI f t)) ++ [(.int .i64 x.kind :: .str x.name :: enc τ)]) 0])] 3 rfl (by kernel_rfl) (by kernel_rfl) (by kernel_rfl) (by kernel_rfl) (by kernel_rfl) (by kernel_rfl) ?_)
      simp only [zW,zX,zD,builtinA,isLeaf,const1,ustrA,simprocAttr,ti3,ti9,ti36,ti50,ti69,ca192,cf,Tryz.results106,he,hj,hg,enc_length,enc_take,sb_drop,frzL_enc,sb_closed,Option.map_some,sEs_length]
      refine ⟨pi,pi,pi,pi,pi,?_⟩
      refine callE_intro (by simp only [zW,zX,zD,builtinA,isLeaf,const1,ustrA,simprocAttr,enc_length,enc_take,sb_drop,frzL_enc,sb_closed,Option.map_some] <;> rfl) (hsw _) ?_ rfl rfl
      simp only [zW,zX,zD,builtinA,isLeaf,const1,ustrA,simprocAttr,ti3,ti9,ti36,ti50,ti69,ca192,cf,Tryz.results106,he,hj,hg,enc_length,enc_take,sb_drop,frzL_enc,sb_closed,Option.map_some,sEs_length,hl6]
      simp only [zW,zX,zD,builtinA,isLeaf,const1,ustrA,simprocAttr,ti3,ti9,ti36,ti50,ti69,ca192,cf,Tryz.results106,hi1,LoopK_eq]
      refine ⟨fun v hv=>hle v hv,⟨fun r hr=>by rw [List.mem_singleton.1 hr]; exact hl6 _ _ _,by rw [List.length_map,List.length_take]; omega⟩,⟨i + 1,B.length + 1,B.set j .dead ++ [.row 6 [(.int .i64 x.kind :: .str x.name :: enc τ)] 0,.row 6 (sEs ((s.take i).map (swI f t)) ++ [(.int .i64 x.kind :: .str x.name :: enc τ)]) 0],by omega,rfl,rfl,by simp,?_⟩,?_⟩
      · rw [getD_sapp,hsn]; rfl
      · simp only [intOf]
        omega
    · have : i = s.length:=by simp at h2; omega
      subst this
      rw [List.take_length] at hg
      simp only [zW,zX,zD,builtinA,isLeaf,const1,ustrA,simprocAttr,ti3,ti9,ti36,ti50,ti69,ca192,cf,Tryz.results106,hg,hj]
      exact ⟨B,j,rfl,rfl,hj,hg⟩
theorem ready_all {s : List SigI} {ys : List VI} (h : ReadsTo s ys) : s = ys.map siOf:=by
  apply List.ext_getElem (by simp [h.1])
  intro i hi hi'
  have h1:=itemOf_si (h.2 i hi).2
  have e1 : s.getD i si0 = s[i]:=by simp [List.getD,hi]
  have hi2 : i < ys.length:=by simpa using hi'
  have e2 : ys.getD i vi0 = ys[i]:=by simp [List.getD,hi2]
  rw [e1,e2] at h1
  rw [h1,List.getElem_map]
theorem ren_map {f t : List UInt8} (hf : f ≠ []) {s : List SigI} {ys : List VI} (h : ReadsTo s ys) : s.map (swI f t) = (ys.map (renI f t)).map siOf:=by
  rw [ready_all h,List.map_map,List.map_map]
  congr 1
  funext y
  exact swI_si hf y
theorem ren_reads {s : List SigI} {ys : List VI} {f t : List UInt8} (ht : moduleB t = true) (hr : ReadsTo s ys) : ReadsTo ((ys.map (renI f t)).map siOf) (ys.map (renI f t)):=by
  refine ⟨by simp,fun i hi=>?_⟩
  have hi' : i < ys.length:=by simpa using hi
  have e : ((ys.map (renI f t)).map siOf).getD i si0 = siOf ((ys.map (renI f t)).getD i vi0):=by simp [List.getD,hi']
  have h1:=hr.2 i (by rw [← hr.1]; exact hi')
  rw [e,renI_getD f t hi']
  refine ⟨?_,itemOf_of (ren_ok ht hr hi')⟩
  rw [siOf_name,viK_ren,← siOf_name,← itemOf_si h1.2]
  exact h1.1
set_option maxRecDepth 100000 in
theorem spec_RenameSig (s : List SigI) (hs : s.length ≤ 1048576) (ho : ∀ x ∈ s,x.Ok ∧ sz x.typ ≤ 1048576) (f t : List UInt8) (A : List Box) : ACalls Tryz.prog 33 [.slice (sEs s),.str f,.str t] A (fun r A'=>∃ o,RdR s f t o ∧ r = nrR o ∧ A' = A):=by
  refine acalls_enter (cf:=cf 29 [0,1,2,6,7,20]) foll Tryz.func33 Tryz.ntmps33 (by simp [cf]) ?_
  simp only [Tryz.f33,EnterK_some,zW,zX,zD,builtinA,isLeaf,const1,ustrA,simprocAttr,ti50,ti69,ca87,ca104,ca105,ca106,cf,Tryz.results33]
  refine callO_intro (spec_SigValid s hs ho _) ?_
  rintro r A' ⟨rfl,hA⟩
  have hA:=hA.symm
  subst hA
  cases hb : sigB s with
  | false =>
    simp only [zW,zX,zD,builtinA,isLeaf,const1,ustrA,simprocAttr,ti50,ti69,ca87,ca104,ca105,ca106,cf,Tryz.results33]
    exact ⟨none,.inl hb,rfl⟩
  | true =>
    obtain ⟨ys,h8,hr,hord⟩:=sigB_yes hb
    have hys:=hr.1
    simp only [zW,zX,zD,builtinA,isLeaf,const1,ustrA,simprocAttr,ti50,ti69,ca87,ca104,ca105,ca106,cf,Tryz.results33]
    refine callO_intro (spec_ModuleName f _) ?_
    rintro r A' ⟨rfl,hA⟩
    have hA:=hA.symm
    subst hA
    cases hf : moduleB f with
    | false =>
      simp only [zW,zX,zD,builtinA,isLeaf,const1,ustrA,simprocAttr,ti50,ti69,ca87,ca104,ca105,ca106,cf,Tryz.results33]
      exact ⟨none,.inr (.inl hf),rfl⟩
    | true =>
      simp only [zW,zX,zD,builtinA,isLeaf,const1,ustrA,simprocAttr,ti50,ti69,ca87,ca104,ca105,ca106,cf,Tryz.results33]
      refine callO_intro (spec_ModuleName t _) ?_
      rintro r A' ⟨rfl,hA⟩
      have hA:=hA.symm
      subst hA
      cases ht : moduleB t with
      | false =>
        simp only [zW,zX,zD,builtinA,isLeaf,const1,ustrA,simprocAttr,ti50,ti69,ca87,ca104,ca105,ca106,cf,Tryz.results33]
        exact ⟨none,.inr (.inr ht),rfl⟩
      | true =>
        simp only [zW,zX,zD,builtinA,isLeaf,const1,ustrA,simprocAttr,ti50,ti69,ca87,ca104,ca105,ca106,cf,Tryz.results33]
        refine callO_intro (spec_l2Renamed s f t (by omega) (fun x hx=>(ho x hx).2) _) ?_
        rintro r A' ⟨B,j,rfl,rfl,hj,hg⟩
        rw [ren_map (moduleB_neR hf) hr] at hg
        have h1 : (A ++ B).getD (A.length + j) .dead = .row 6 (sEs ((ys.map (renI f t)).map siOf)) 0:=by
          rw [Abs.getD_append_right (by omega),show A.length + j - A.length = j by omega]; exact hg
        have hfz : frzs [.own (A.length + j)] (A ++ B) = some ([.slice (sEs ((ys.map (renI f t)).map siOf))],A ++ B.set j (.row 6 (sEs ((ys.map (renI f t)).map siOf)) (sEs ((ys.map (renI f t)).map siOf)).length)):=by
          have h2 : (A ++ B).set (A.length + j) (.row 6 (sEs ((ys.map (renI f t)).map siOf)) (sEs ((ys.map (renI f t)).map siOf)).length) = A ++ B.set j (.row 6 (sEs ((ys.map (renI f t)).map siOf)) (sEs ((ys.map (renI f t)).map siOf)).length):=by simp [List.set_append]
          simp only [frzs,frzC,frz1,h1,h2]
        have hsg : sigB ((ys.map (renI f t)).map siOf) = true:=by rw [sigB_reads (by simp; omega) (ren_reads ht hr)]; exact ordB_ren hf ht hord
        have hzk : ∀ x ∈ (ys.map (renI f t)).map siOf,x.Ok ∧ sz x.typ ≤ 1048576:=fun x hx=>by
          obtain ⟨z,hz1,rfl⟩:=List.mem_map.1 hx
          obtain ⟨y,hy1,rfl⟩:=List.mem_map.1 hz1
          obtain ⟨k,hk,rfl⟩:=List.mem_iff_getElem.1 hy1
          have e : ys[k] = ys.getD k vi0:=by simp [List.getD,hk]
          have h3:=hr.2 k (by omega)
          rw [e]
          refine siOf_ok (ren_ok ht hr hk) ?_
          rw [viK_ren,← siOf_name,← itemOf_si h3.2]
          exact (ho _ (si_mem (by omega))).1.1
        simp only [zW,zX,zD,builtinA,isLeaf,const1,ustrA,simprocAttr,ti50,ti69,ca87,ca104,ca105,ca106,cf,Tryz.results33]
        refine callK_intro hfz (spec_l2Made _ (by simp; omega) hzk _) ?_ rfl
        rintro r A' ⟨rfl,rfl⟩
        rw [if_pos hsg]
        simp only [sgR]
        simp only [zW,zX,zD,builtinA,isLeaf,const1,ustrA,simprocAttr,ti50,ti69,ca87,ca104,ca105,ca106,cf,Tryz.results33]
        exact ⟨some (ys.map (renI f t)),⟨ys,h8,hr,hord,⟨hf,ht⟩,rfl⟩,rfl⟩
end Go.Proofs.YtnjdbgiincliaaaGreat
/- The program's RenameSig. -/
set_option linter.unusedVariables false
set_option linter.unusedSimpArgs false
namespace Go.Proofs.YtnjdbgiincliaaaGreat
open Go.Abs
theorem wpG_mapUpdate (P : Program) (own : FuncId → Bool) (N : Nat) (ops : Array Oper) (T : Ranks) (As : Nat → List Box) (Q : Env → Prop) (k : Nat) (rest : List Oper) (e : Env) (d : Option Tmp) (ty : TypeId) (pos : String) (af : Array Edge) (t : TypeId) (x y z : Operand) : wpG P own N ops T As Q k (⟨d,.mapUpdate t x y z,ty,pos,af,none⟩ :: rest) e = StepK (astep P (.mapUpdate t x y z) [evA e x,evA e y,evA e z] (As (T.lo k))) (ContE P own N ops T As Q k rest d e (.mapUpdate t x y z) [evA e x,evA e y,evA e z]):=by
  rw [wpG_step _ _ _ _ _ _ _ _ _ _ _ _ _ _ rfl]; rfl
def esR (f t : List UInt8) : List (AV × AV):=[(.str f,.str t)]
abbrev RT : TypeId:=160
set_option maxRecDepth 100000 in
theorem ren_module (f t m : List UInt8) (i : Nat) (A : List Box) (hA : A.getD i .dead = .mapb (esR f t)) : ACalls Tryz.prog 354 [.map i,.str m] A (fun r A'=>r = .str (renM f t m) ∧ A' = A):=by
  rw [esR] at hA
  by_cases h : m = f
  · have hf : findS m [(AV.str f,AV.str t)] 0 = some (some (0,.str t)):=by simp [findS,h]
    rw [renM,if_pos h]
    refine acalls_enter (cf:=cf 16 [0,1,4,5,6,13]) foll Tryz.func354 Tryz.ntmps354 (by simp [cf]) ?_
    simp only [Tryz.f354,EnterK_some,zW,zX,zD,builtinA,isLeaf,const1,ustrA,simprocAttr,ti160,mi160,cf,Tryz.results354]
    simp only [zW,zX,zD,builtinA,isLeaf,const1,ustrA,simprocAttr,ti160,mi160,cf,Tryz.results354,hA,hf]
  · have hf : findS m [(AV.str f,AV.str t)] 0 = some none:=by simp [findS,h]
    rw [renM,if_neg h]
    refine acalls_enter (cf:=cf 16 [0,1,4,5,6,13]) foll Tryz.func354 Tryz.ntmps354 (by simp [cf]) ?_
    simp only [Tryz.f354,EnterK_some,zW,zX,zD,builtinA,isLeaf,const1,ustrA,simprocAttr,ti160,mi160,cf,Tryz.results354]
    simp only [zW,zX,zD,builtinA,isLeaf,const1,ustrA,simprocAttr,ti160,mi160,cf,Tryz.results354,hA,hf]
set_option maxRecDepth 100000 in
theorem ren_visit (f t m n : List UInt8) (i : Nat) (A : List Box) (hi : i < A.length) (hA : A.getD i .dead = .mapb (esR f t)) : ACalls Tryz.prog 492 [.map i,.agg [.str m,.str n]] A (fun r A'=>r = .iface (vT (renP f t (m,n))) (vX (renP f t (m,n))) ∧ A' = A):=by
  have hm:=fun L=>ren_module f t m i (A ++ L) (by rw [Abs.getD_append_left hi]; exact hA)
  rw [renP,vT,vX]
  refine acalls_enter (cf:=cf 13 [0,1,3,4]) foll Tryz.func492 Tryz.ntmps492 (by simp [cf]) ?_
  simp only [Tryz.f492,EnterK_some,zW,zX,zD,builtinA,isLeaf,const1,ustrA,simprocAttr,ti9,ti180,ca354,cf,Tryz.results492]
  refine .inl ⟨by kernel_rfl,by kernel_rfl,?_⟩
  refine callD_intro (by simp only [zW,zX,zD,builtinA,isLeaf,const1,ustrA,simprocAttr,Option.map_some] <;> rfl) (hm _) ?_ rfl
  simp only [zW,zX,zD,builtinA,isLeaf,const1,ustrA,simprocAttr,ti9,ti180,ca354,cf,Tryz.results492]
  try rfl
def insP (f t : List UInt8) (p : BNm) (s : List (BNm × VT)) : List (BNm × VT) :=
  match lookB p s with
  | some _=>s
  | none=>s ++ [(p,renP f t p)]
def AllR (f t : List UInt8) (s : List (BNm × VT)) : Prop:=∀ q ∈ s,q.2 = renP f t q.1
theorem insP_all {f t : List UInt8} {s : List (BNm × VT)} (h : AllR f t s) (p : BNm) : AllR f t (insP f t p s):=by
  unfold insP
  split
  · exact h
  · intro q hq
    rcases List.mem_append.1 hq with hq | hq
    · exact h q hq
    · rw [List.mem_singleton.1 hq]
theorem insP_has (f t : List UInt8) (p q : BNm) (s : List (BNm × VT)) (h : (lookB q s).isSome = true ∨ q = p) : (lookB q (insP f t p s)).isSome = true:=by
  have happ : ∀ (s : List (BNm × VT)) (v : VT),(lookB q s).isSome = true ∨ q = p → (lookB q (s ++ [(p,v)])).isSome = true:=by
    intro s v
    induction s with
    | nil =>
      rintro (h | rfl)
      · simp [lookB] at h
      · simp [lookB]
    | cons a s ih =>
      intro h
      rw [List.cons_append,lookB]
      by_cases e : q = a.1
      · rw [if_pos e]; rfl
      · rw [if_neg e]
        refine ih ?_
        rcases h with h | h
        · rw [lookB,if_neg e] at h; exact .inl h
        · exact .inr h
  unfold insP
  split
  · rename_i v hv
    rcases h with h | rfl
    · exact h
    · rw [hv]; rfl
  · exact happ s _ h
theorem foldR_all (f t : List UInt8) : ∀ (v : VT) (s : List (BNm × VT)),AllR f t s → AllR f t (foldV (insP f t) v s)
  | .num,s,h=>h
  | .nm m n,s,h=>insP_all h (m,n)
  | .fn a b,s,h=>foldR_all f t b _ (foldR_all f t a s h)
def cov (s : List (BNm × VT)) : VT → Prop
  | .num=>True
  | .nm m n=>(lookB (m,n) s).isSome = true
  | .fn a b=>cov s a ∧ cov s b
theorem foldR_keep (f t : List UInt8) (q : BNm) : ∀ (v : VT) (s : List (BNm × VT)),(lookB q s).isSome = true → (lookB q (foldV (insP f t) v s)).isSome = true
  | .num,s,h=>h
  | .nm m n,s,h=>insP_has f t (m,n) q s (.inl h)
  | .fn a b,s,h=>foldR_keep f t q b _ (foldR_keep f t q a s h)
theorem cov_keep (f t : List UInt8) (v : VT) (s : List (BNm × VT)) : ∀ w,cov s w → cov (foldV (insP f t) v s) w
  | .num,h=>trivial
  | .nm m n,h=>foldR_keep f t (m,n) v s h
  | .fn a b,h=>⟨cov_keep f t v s a h.1,cov_keep f t v s b h.2⟩
theorem cov_fold (f t : List UInt8) : ∀ (v : VT) (s : List (BNm × VT)),cov (foldV (insP f t) v s) v
  | .num,s=>trivial
  | .nm m n,s=>insP_has f t (m,n) (m,n) s (.inr rfl)
  | .fn a b,s=>⟨cov_keep f t b _ a (cov_fold f t a s),cov_fold f t b _⟩
theorem sub_ren {f t : List UInt8} {s : List (BNm × VT)} (h : AllR f t s) : ∀ w,cov s w → subV s w = renV f t w
  | .num,_=>rfl
  | .nm m n,hc=>by
    simp only [cov] at hc
    rw [subV]
    cases hl : lookB (m,n) s with
    | none=>rw [hl] at hc; cases hc
    | some u=>exact h _ (lookB_in hl)
  | .fn a b,hc=>by
    have h1:=sub_ren h a hc.1
    have h2:=sub_ren h b hc.2
    simp only [renV] at h1 h2
    rw [subV,h1,h2]; rfl
theorem find_bj (q : BNm) : ∀ (m : List (BNm × VT)) (n : Nat),(findA KB (bkE q) (esB m) n = some none ∧ lookB q m = none) ∨ ∃ j v,findA KB (bkE q) (esB m) n = some (some (j,.iface (vT v) (vX v))) ∧ lookB q m = some v ∧ n ≤ j ∧ m[j - n]? = some (q,v)
  | [],n=>.inl ⟨rfl,rfl⟩
  | (p,v) :: m,n=>by
    simp only [esB,List.map_cons,findA]
    rw [if_pos (show (bkE p).length = (bkE q).length from rfl),bkE_eq]
    by_cases h : q = p
    · subst h
      simp only [decide_true,lookB,if_true]
      exact .inr ⟨_,_,rfl,rfl,Nat.le_refl _,by simp⟩
    · simp only [decide_eq_false h,lookB,if_neg h]
      rcases find_bj q m (n + 1) with ⟨h1,h2⟩ | ⟨j,u,h1,h2,h3,h4⟩
      · exact .inl ⟨h1,h2⟩
      · exact .inr ⟨j,u,h1,h2,by omega,by rw [show j - n = (j - (n + 1)) + 1 by omega]; simpa using h4⟩
structure RenI (f t : List UInt8) (i b0 b1 mb : Nat) (s : List (BNm × VT)) (A : List Box) : Prop where
  h0 : A.getD b0 .dead = .cells [.ifx RT (.map i)]
  h1 : A.getD b1 .dead = .cells [.map mb]
  hm : A.getD mb .dead = .mapb (esB s)
  hi : A.getD i .dead = .mapb (esR f t)
  ne : mb ≠ b0 ∧ mb ≠ b1 ∧ mb ≠ i
  lt : b0 < A.length ∧ b1 < A.length ∧ mb < A.length ∧ i < A.length
  al : AllR f t s
theorem RenI.app {f t : List UInt8} {i b0 b1 mb : Nat} {s : List (BNm × VT)} {A : List Box} (h : RenI f t i b0 b1 mb s A) (L : List Box) : RenI f t i b0 b1 mb s (A ++ L):=by
  obtain ⟨a1,a2,a3,a4,a5,⟨l1,l2,l3,l4⟩,a6⟩:=h
  exact ⟨by rw [Abs.getD_append_left l1]; exact a1,by rw [Abs.getD_append_left l2]; exact a2,by rw [Abs.getD_append_left l3]; exact a3,by rw [Abs.getD_append_left l4]; exact a4,a5,by simp; omega,a6⟩
set_option maxRecDepth 100000 in
theorem repl_vis (f t : List UInt8) (i b0 b1 mb : Nat) (p : BNm) (s : List (BNm × VT)) (A : List Box) (h : RenI f t i b0 b1 mb s A) :
    ACalls Tryz.prog 419 [.agg [.str p.1,.str p.2],.ptr b0 0,.ptr b1 0] A (fun _ A'=>RenI f t i b0 b1 mb (insP f t p s) A' ∧ FrK mb A A'):=by
  have hg:=h.app [.cells [.str p.1,.str p.2]]
  obtain ⟨a1,a2,a3,a4,⟨n1,n2,n3⟩,⟨l1,l2,l3,l4⟩,a6⟩:=hg
  have hv:=ren_visit f t p.1 p.2 i _ l4 a4
  have ha:=insP_all h.al p
  have hx : AV.iface (vT (renP f t p)) (vX (renP f t p)) = AV.iface (vT (renP f t (p.1,p.2))) (vX (renP f t (p.1,p.2))):=rfl
  rw [← hx] at hv
  have hfr : ∀ X,FrK mb A ((A ++ [Box.cells [.str p.1,.str p.2]]).set mb X):=fun X=>⟨by simp,fun k hk hne=>by rw [Abs.getD_set_ne' (Ne.symm hne),Abs.getD_append_left hk]⟩
  have hfin : ∀ s',AllR f t s' → RenI f t i b0 b1 mb s' ((A ++ [Box.cells [.str p.1,.str p.2]]).set mb (.mapb (esB s'))):=fun s' hs' =>
    ⟨by rw [Abs.getD_set_ne' n1]; exact a1,by rw [Abs.getD_set_ne' n2]; exact a2,Abs.getD_set_self l3,by rw [Abs.getD_set_ne' n3]; exact a4,⟨n1,n2,n3⟩,⟨by rw [List.length_set]; exact l1,by rw [List.length_set]; exact l2,by rw [List.length_set]; exact l3,by rw [List.length_set]; exact l4⟩,hs'⟩
  rcases find_bj p s 0 with ⟨f1,f2⟩ | ⟨j,u,f1,f2,_,f3⟩
  · have hins : insP f t p s = s ++ [(p,renP f t p)]:=by rw [insP,f2]
    have hes:=esB_app s p (renP f t p)
    rw [← hins] at hes
    simp only [bkE] at f1
    have hF:=hfin _ ha
    have hR:=hfr (.mapb (esB (insP f t p s)))
    have hb3 : (A ++ [Box.cells [.str p.1,.str p.2]]).getD A.length .dead = .cells [.str p.1,.str p.2]:=by rw [Abs.getD_append_right (Nat.le_refl _),Nat.sub_self]; rfl
    refine acalls_enterK (cf:=cf 9 [0,1,2,3]) foll Tryz.func419 Tryz.ntmps419 (by simp [cf]) ?_
    simp only [Tryz.f419,EnterK_some,zW,zX,zD,builtinA,isLeaf,const1,ustrA,simprocAttr,ti180,ti375,ti518,mi375,cf,Tryz.results419]
    generalize hA2 : A ++ [Box.cells [.str p.1,.str p.2]] = A2 at *
    refine .inr (drawE_intro [(false,0,1),(false,0,1),(false,0,0),(false,0,0),(true,0,0),(true,1,1)] [A2,A2,A2.set mb (.mapb (esB (insP f t p s)))] 2 rfl (by kernel_rfl) (by kernel_rfl) (by kernel_rfl) (by kernel_rfl) (by kernel_rfl) (by kernel_rfl) ?_)
    simp only [zW,zX,zD,builtinA,isLeaf,const1,ustrA,simprocAttr,ti180,ti375,ti518,mi375,cf,Tryz.results419,a1,a2,a3,hb3]
    refine wpG_invoke _ _ _ _ _ _ _ _ _ _ _ _ _ _ _ _ _ _ ?_
    simp only [zW,zX,zD,builtinA,isLeaf,const1,ustrA,simprocAttr,ti180,ti375,ti518,mi375,cf,Tryz.results419]
    refine ⟨492,by kernel_rfl,by kernel_rfl,callEO_intro hv ?_ rfl⟩
    simp only [zW,zX,zD,builtinA,isLeaf,const1,ustrA,simprocAttr,ti180,ti375,ti518,mi375,cf,Tryz.results419,a1,a2,a3,hb3,f1,hes,wpG_mapUpdate]
    exact ⟨hF,hR⟩
  · have hins : insP f t p s = s:=by rw [insP,f2]
    have hu : u = renP f t p:=h.al _ (lookB_in f2)
    have hes : (esB s).set j (.agg [.str p.1,.str p.2],.iface (vT (renP f t p)) (vX (renP f t p))) = esB s:=by
      rw [Nat.sub_zero] at f3
      have hj:=(List.getElem?_eq_some_iff.1 f3).1
      apply List.ext_getElem? 
      intro k
      by_cases hk : j = k
      · subst hk
        rw [List.getElem?_set_self (by simpa [esB] using hj),esB,List.getElem?_map,f3,hu]; rfl
      · rw [List.getElem?_set_ne hk]
    simp only [bkE] at f1
    rw [hins] at ha ⊢
    have hF:=hfin _ ha
    have hR:=hfr (.mapb (esB s))
    have hb3 : (A ++ [Box.cells [.str p.1,.str p.2]]).getD A.length .dead = .cells [.str p.1,.str p.2]:=by rw [Abs.getD_append_right (Nat.le_refl _),Nat.sub_self]; rfl
    refine acalls_enterK (cf:=cf 9 [0,1,2,3]) foll Tryz.func419 Tryz.ntmps419 (by simp [cf]) ?_
    simp only [Tryz.f419,EnterK_some,zW,zX,zD,builtinA,isLeaf,const1,ustrA,simprocAttr,ti180,ti375,ti518,mi375,cf,Tryz.results419]
    generalize hA2 : A ++ [Box.cells [.str p.1,.str p.2]] = A2 at *
    refine .inr (drawE_intro [(false,0,1),(false,0,1),(false,0,0),(false,0,0),(true,0,0),(true,1,1)] [A2,A2,A2.set mb (.mapb (esB s))] 2 rfl (by kernel_rfl) (by kernel_rfl) (by kernel_rfl) (by kernel_rfl) (by kernel_rfl) (by kernel_rfl) ?_)
    simp only [zW,zX,zD,builtinA,isLeaf,const1,ustrA,simprocAttr,ti180,ti375,ti518,mi375,cf,Tryz.results419,a1,a2,a3,hb3]
    refine wpG_invoke _ _ _ _ _ _ _ _ _ _ _ _ _ _ _ _ _ _ ?_
    simp only [zW,zX,zD,builtinA,isLeaf,const1,ustrA,simprocAttr,ti180,ti375,ti518,mi375,cf,Tryz.results419]
    refine ⟨492,by kernel_rfl,by kernel_rfl,callEO_intro hv ?_ rfl⟩
    simp only [zW,zX,zD,builtinA,isLeaf,const1,ustrA,simprocAttr,ti180,ti375,ti518,mi375,cf,Tryz.results419,a1,a2,a3,hb3,f1,hes,wpG_mapUpdate]
    exact ⟨hF,hR⟩
theorem outer_takeR {A A' : List Box} (hl : A.length ≤ A'.length) (h : ∀ k,k < A.length → A'.getD k .dead = A.getD k .dead) : Outer A A' ∧ A'.take A.length = A:=by
  refine ⟨⟨hl,fun k hk=>.inl (h k hk)⟩,?_⟩
  refine List.ext_getElem (by simp; omega) fun k e1 e2=>?_
  have:=h k e2
  simp only [List.getD,show k < A'.length by omega,e2,List.getElem?_eq_getElem,Option.getD_some] at this
  rw [List.getElem_take,this]
theorem ren_vis (f t : List UInt8) (i b0 b1 mb : Nat) : Vis List.length (RenI f t i b0 b1 mb) (FrK mb) (insP f t) 419 [.ptr b0 0,.ptr b1 0] where
  call:=by kernel_rfl
  vis p s A _ _ h:=repl_vis f t i b0 b1 mb p s A h
  app s A B h:=⟨h.app B,FrK.app _ _ _⟩
  grow p s:=by unfold insP; split <;> simp
  trans A B C h k:=h.trans k
  box s A A' c h hf:=by
    have:=h.lt.2.2.1
    rw [hf.2 A.length (by simp) (by omega),Abs.getD_append_right (Nat.le_refl _),Nat.sub_self]; rfl
set_option maxRecDepth 100000 in
theorem impl_replT (f t : List UInt8) (v : VT) (hv : okV v = true) (hc : cnt v ≤ 900) (i : Nat) (A : List Box) (hi : i < A.length) (hA : A.getD i .dead = .mapb (esR f t)) : ACalls Tryz.prog 418 [.iface (vT v) (vX v),.ifx RT (.map i)] A (fun r A'=>r = .iface (vT (renV f t v)) (vX (renV f t v)) ∧ A' = A):=by
  refine acalls_enter (cf:=cf 13 [0,1,3,4,5]) foll Tryz.func418 Tryz.ntmps418 (by simp [cf]) ?_
  simp only [Tryz.f418,EnterK_some,zW,zX,zD,builtinA,isLeaf,const1,ustrA,simprocAttr,ti375,ti518,cf,Tryz.results418]
  refine wpO_invoke _ _ _ _ _ _ _ _ _ _ _ _ _ _ _ _ ?_
  simp only [zW,zX,zD,builtinA,isLeaf,const1,ustrA,simprocAttr,ti375,ti518,cf,Tryz.results418]
  have hI : RenI f t i A.length (A.length + 2) (A.length + 1) [] (A ++ [Box.cells [.ifx RT (.map i)],.mapb [],.cells [.map (A.length + 1)]]):=by
    refine ⟨?_,?_,?_,by rw [Abs.getD_append_left hi]; exact hA,⟨by omega,by omega,by omega⟩,⟨by simp,by simp,by simp,by simp; omega⟩,by intro q hq; simp at hq⟩
    · rw [Abs.getD_append_right (Nat.le_refl _),Nat.sub_self]; rfl
    · rw [Abs.getD_append_right (by omega),show A.length + 2 - A.length = 2 by omega]; rfl
    · rw [Abs.getD_append_right (by omega),show A.length + 1 - A.length = 1 by omega]; rfl
  refine meth_invK (met3 (by kernel_rfl) (by kernel_rfl) (by kernel_rfl) (by kernel_rfl) (by kernel_rfl) (by kernel_rfl)) (eachG (ren_vis f t i A.length (A.length + 2) (A.length + 1)) v [] _ hv (by simp; omega) hI) rfl (fun _=>rfl) ?_
  rintro r A1 ⟨hI1,hF1⟩
  have hall:=foldR_all f t v [] (by intro q hq; simp at hq)
  have hsub:=sub_ren hall v (cov_fold f t v [])
  have hl1:=hF1.1
  have hk1 : ∀ k,k < A.length → A1.getD k .dead = A.getD k .dead:=fun k hk=>by rw [hF1.2 k (by simp; omega) (by omega),Abs.getD_append_left hk]
  have g1:=hI1.h1
  obtain ⟨q1,q2⟩:=outer_takeR (A:=A) (A':=A1) (by simp at hl1; omega) hk1
  simp only [zW,zX,zD,builtinA,isLeaf,const1,ustrA,simprocAttr,ti375,ti518,cf,Tryz.results418,g1]
  refine wpO_invoke _ _ _ _ _ _ _ _ _ _ _ _ _ _ _ _ ?_
  simp only [zW,zX,zD,builtinA,isLeaf,const1,ustrA,simprocAttr,ti375,ti518,cf,Tryz.results418]
  refine meth_invK (met3 (by kernel_rfl) (by kernel_rfl) (by kernel_rfl) (by kernel_rfl) (by kernel_rfl) (by kernel_rfl)) (subM _ v A1 (A.length + 1) hI1.lt.2.2.1 hI1.hm) rfl (fun _=>rfl) ?_
  rintro r A2 ⟨rfl,hA2⟩
  have hA2:=hA2.symm
  subst hA2
  rw [hsub]
  simp only [zW,zX,zD,builtinA,isLeaf,const1,ustrA,simprocAttr,ti375,ti518,cf,Tryz.results418,q2]
  exact q1
def RepI (f t : List UInt8) (y : VI) : Prop:=∀ (i : Nat) (A : List Box),i < A.length → A.getD i .dead = .mapb (esR f t) → ACalls Tryz.prog ((pickI 408 415 424) y) [viX y,.ifx RT (.map i)] A (fun r A'=>r = .iface (viT (renI f t y)) (viX (renI f t y)) ∧ A' = A)
set_option maxRecDepth 100000 in
theorem ab_rep (f t n : List UInt8) : RepI f t (.ab n):=fun i A hi hA=>by
  show ACalls Tryz.prog 408 _ _ _
  rw [viX]
  refine acalls_enter (cf:=cf 7 [0,2,4]) foll Tryz.func408 Tryz.ntmps408 (by simp [cf]) ?_
  simp only [Tryz.f408,EnterK_some,zW,zX,zD,builtinA,isLeaf,const1,ustrA,simprocAttr,ti354,cf,Tryz.results408]
  try rfl
set_option maxRecDepth 100000 in
theorem al_rep (f t n : List UInt8) (v : VT) (hv : okV v = true) (hc : cnt v ≤ 900) : RepI f t (.al n v):=fun i A hi hA=>by
  show ACalls Tryz.prog 415 _ _ _
  rw [viX]
  have hr:=fun L=>impl_replT f t v hv hc i (A ++ L) (by simp; omega) (by rw [Abs.getD_append_left hi]; exact hA)
  refine acalls_enter (cf:=cf 13 [0,1,2,4]) foll Tryz.func415 Tryz.ntmps415 (by simp [cf]) ?_
  simp only [Tryz.f415,EnterK_some,zW,zX,zD,builtinA,isLeaf,const1,ustrA,simprocAttr,ti9,ti175,ti356,ca418,cf,Tryz.results415]
  refine .inl ⟨by kernel_rfl,by kernel_rfl,?_⟩
  refine callD_intro (by simp only [zW,zX,zD,builtinA,isLeaf,const1,ustrA,simprocAttr,Option.map_some] <;> rfl) (hr _) ?_ rfl
  simp only [zW,zX,zD,builtinA,isLeaf,const1,ustrA,simprocAttr,ti9,ti175,ti356,ca418,cf,Tryz.results415]
  try rfl
set_option maxRecDepth 100000 in
theorem va_rep (f t n : List UInt8) (v : VT) (hv : okV v = true) (hc : cnt v ≤ 900) : RepI f t (.va n v):=fun i A hi hA=>by
  show ACalls Tryz.prog 424 _ _ _
  rw [viX]
  have hr:=fun L=>impl_replT f t v hv hc i (A ++ L) (by simp; omega) (by rw [Abs.getD_append_left hi]; exact hA)
  refine acalls_enter (cf:=cf 13 [0,1,2,4]) foll Tryz.func424 Tryz.ntmps424 (by simp [cf]) ?_
  simp only [Tryz.f424,EnterK_some,zW,zX,zD,builtinA,isLeaf,const1,ustrA,simprocAttr,ti9,ti175,ti357,ca418,cf,Tryz.results424]
  refine .inl ⟨by kernel_rfl,by kernel_rfl,?_⟩
  refine callD_intro (by simp only [zW,zX,zD,builtinA,isLeaf,const1,ustrA,simprocAttr,Option.map_some] <;> rfl) (hr _) ?_ rfl
  simp only [zW,zX,zD,builtinA,isLeaf,const1,ustrA,simprocAttr,ti9,ti175,ti357,ca418,cf,Tryz.results424]
  try rfl
theorem repI (f t : List UInt8) {s : List SigI} {ys : List VI} (hr : ReadsTo s ys) {p : Nat} (hp : p < ys.length) : RepI f t (ys.getD p vi0):=by
  have h1:=hr.2 p (by rw [← hr.1]; exact hp)
  have h2:=mean_ok h1.1 h1.2
  cases hy : ys.getD p vi0 with
  | ab n=>exact ab_rep f t n
  | al n v=>rw [hy] at h2; exact al_rep f t n v h2.ok (by have:=h2.cnt; simp only [meanI] at this; omega)
  | va n v=>rw [hy] at h2; exact va_rep f t n v h2.ok (by have:=h2.cnt; simp only [meanI] at this; omega)
end Go.Proofs.YtnjdbgiincliaaaGreat
/- The program's RenameSig. -/
set_option linter.unusedVariables false
set_option linter.unusedSimpArgs false
namespace Go.Proofs.YtnjdbgiincliaaaGreat
open Go.Abs
def zvi : List AV:=[.nili]
theorem ren_set {f t : List UInt8} {ys : List VI} {p : Nat} (hp : p < ys.length) : (vRows ((ys.take p).map (renI f t)) ++ List.replicate (ys.length - p) zvi).set p (vRow (renI f t (ys.getD p vi0)) ++ List.drop 1 ((vRows ((ys.take p).map (renI f t)) ++ List.replicate (ys.length - p) zvi).getD p [])) = vRows ((ys.take (p + 1)).map (renI f t)) ++ List.replicate (ys.length - (p + 1)) zvi:=by
  have e1 : (vRows ((ys.take p).map (renI f t))).length = p:=by rw [vRows_length]; simp; omega
  have e3 : ys.length - p = (ys.length - (p + 1)) + 1:=by omega
  have e2 : List.drop 1 ((vRows ((ys.take p).map (renI f t)) ++ List.replicate (ys.length - p) zvi).getD p []) = []:=by
    rw [List.getD,List.getElem?_append_right (by omega),e1,Nat.sub_self,e3,List.replicate_succ]
    rfl
  rw [e2,List.append_nil,List.set_append_right _ _ (by omega),e1,Nat.sub_self,e3,List.replicate_succ,List.set_cons_zero]
  simp only [vRows]
  rw [List.take_add_one,List.map_append,List.map_append,List.append_assoc]
  simp [List.getD,hp]
set_option maxRecDepth 100000 in
theorem impl_rename (f t : List UInt8) (s : List SigI) (ys : List VI) (hr : ReadsTo s ys) (hl : ys.length ≤ 1000) (i mi : Nat) (A : List Box) (hi : i < A.length) (hb : A.getD i .dead = .row 1 (vRows ys) 0) (hm : mi < A.length) (hA : A.getD mi .dead = .mapb (esR f t)) :
    ACalls Tryz.prog 102 [.own i,.map mi] A (fun r A'=>∃ B j,A' = A ++ B ∧ r = .own (A.length + j) ∧ j < B.length ∧ B.getD j .dead = .row 1 (vRows (ys.map (renI f t))) 0):=by
  have hb2 : ∀ B,(A ++ B).getD i .dead = .row 1 (vRows ys) 0:=fun B=>by rw [Abs.getD_append_left hi]; exact hb
  refine acalls_enterK (cf:=cf 27 [0,1,4,5,6,7,11,12,13,14]) foll Tryz.func102 Tryz.ntmps102 (by simp [cf]) ?_
  simp only [Tryz.f102,EnterK_some,zW,zX,zD,builtinA,isLeaf,const1,ustrA,simprocAttr,ti3,ti140,ti158,ti160,cf,Tryz.results102]
  simp only [zW,zX,zD,builtinA,isLeaf,const1,ustrA,simprocAttr,ti3,ti140,ti158,ti160,cf,Tryz.results102,hb,hb2,vRows_length]
  refine ⟨⟨by omega,by omega,by omega⟩,?_⟩
  refine aloop_intro [1,5,11,12,13] (fun e A'=>∃ p B,p ≤ ys.length ∧ e = [(1,.map mi),(5,.own A.length),(11,.own i),(12,.int .i64 ys.length),(13,.int .i64 (p : Nat))] ∧ A' = A ++ (.row 1 (vRows ((ys.take p).map (renI f t)) ++ List.replicate (ys.length - p) zvi) 0 :: B)) (fun e _=>ys.length - (intOf (Abs.look 13 e)).toNat) ?_ ?_
  · simp only [zW,zX,zD,builtinA,isLeaf,const1,ustrA,simprocAttr,ti3,ti140,ti158,ti160,cf,Tryz.results102]
    exact ⟨0,[],by omega,rfl,by simp [vRows,zvi]⟩
  · rintro e A' ⟨p,B,hp,rfl,rfl⟩
    by_cases hp2 : p < ys.length
    · have d2 : decide ((p : Int) < (ys.length : Int)) = true:=by simp; omega
      have he:=vRows_getD hp2
      have hi1 : IntKind.i64.wrap ((p : Int) + 1) = ((p + 1 : Nat) : Int):=by rw [wrap64 (by omega) (by omega)]; rfl
      have pp : (0 : Int) ≤ (p : Int) ∧ (p : Int) < (ys.length : Int):=⟨by omega,by omega⟩
      have hset:=ren_set (f:=f) (t:=t) hp2
      have hlen : (vRows ((ys.take p).map (renI f t))).length + (List.replicate (ys.length - p) zvi).length = ys.length:=by rw [vRows_length]; simp; omega
      have hlen2 : ((ys.take p).map (renI f t)).length + (List.replicate (ys.length - p) zvi).length = ys.length:=by simp; omega
      have hrep:=repI f t hr hp2
      generalize ys.getD p vi0 = y at *
      simp only [vRow,List.cons_append,List.nil_append] at he hset
      simp only [zW,zX,zD,builtinA,isLeaf,const1,ustrA,simprocAttr,ti3,ti140,ti158,ti160,cf,Tryz.results102,hb2,vRows_length,d2,he]
      refine ⟨pp,?_⟩
      refine wpO_invoke _ _ _ _ _ _ _ _ _ _ _ _ _ _ _ _ ?_
      simp only [zW,zX,zD,builtinA,isLeaf,const1,ustrA,simprocAttr,ti3,ti140,ti158,ti160,cf,Tryz.results102]
      refine methI_invK (metI3 (by kernel_rfl) (by kernel_rfl) (by kernel_rfl) (by kernel_rfl) (by kernel_rfl) (by kernel_rfl)) (hrep mi _ (by simp; omega) (by rw [Abs.getD_append_left hm]; exact hA)) rfl (fun _=>rfl) ?_
      rintro r A' ⟨rfl,rfl⟩
      simp only [zW,zX,zD,builtinA,isLeaf,const1,ustrA,simprocAttr,ti3,ti140,ti158,ti160,cf,Tryz.results102,hset,hlen,hlen2,hi1,LoopK_eq]
      refine ⟨pp,⟨by omega,by omega,fun w hw=>by rw [List.mem_singleton.1 hw]⟩,⟨p + 1,_,by omega,rfl,rfl⟩,?_⟩
      simp only [intOf]; omega
    · have d2 : decide ((p : Int) < (ys.length : Int)) = false:=by simp; omega
      have e : p = ys.length:=by omega
      subst e
      simp only [zW,zX,zD,builtinA,isLeaf,const1,ustrA,simprocAttr,ti3,ti140,ti158,ti160,cf,Tryz.results102,d2]
      exact ⟨_,0,rfl,rfl,by simp,by simp⟩
set_option maxRecDepth 100000 in
theorem impl_readSigKR (s : List SigI) (hs : s.length ≤ 1048576) (ho : ∀ x ∈ s,x.Ok ∧ sz x.typ ≤ 1048576) (A : List Box) : ACalls Tryz.prog 91 [.slice (sEs s)] A (fun r A'=>∃ B,A' = A ++ B ∧
    ((∃ ys j,s.length ≤ 8 ∧ ReadsTo s ys ∧ r = .tuple [.own (A.length + j),.bool (ordB ys)] ∧ j < B.length ∧ B.getD j .dead = .row 1 (vRows ys) 0) ∨ ((8 < s.length ∨ ∃ x ∈ s,itemOk x = false) ∧ r = .tuple [.nils,.bool false]))):=by
  have hre:=impl_readEach s hs ho A
  refine acalls_enterK (cf:=cf 17 [0,2,3,4,5]) foll Tryz.func91 Tryz.ntmps91 (by simp [cf]) ?_
  simp only [Tryz.f91,EnterK_some,zW,zX,zD,builtinA,isLeaf,const1,ustrA,simprocAttr,ca180,ca182,cf,Tryz.results91]
  refine callO_intro hre ?_
  rintro r A' ⟨B,rfl,⟨ys,j,h8,hrt,rfl,hj,hg⟩ | ⟨hbad,rfl⟩⟩
  · have hg2 : (A ++ B).getD (A.length + j) .dead = .row 1 (vRows ys) 0:=by rw [Abs.getD_append_right (by omega),Nat.add_sub_cancel_left]; exact hg
    simp only [zW,zX,zD,builtinA,isLeaf,const1,ustrA,simprocAttr,ca180,ca182,cf,Tryz.results91]
    refine callO_intro (borrowI (.cons (.row (A.length + j) 1 0 (vRows ys) (vRows ys) hg2 rfl (vRows_leaf ys) (vRows_view ys _)) .nil) rfl (fun A=>impl_inOrder ys (by have:=hrt.1; omega) A)) ?_
    rintro r A' ⟨rfl,rfl⟩
    simp only [zW,zX,zD,builtinA,isLeaf,const1,ustrA,simprocAttr,ca180,ca182,cf,Tryz.results91]
    exact ⟨B,rfl,.inl ⟨ys,j,h8,hrt,rfl,hj,hg⟩⟩
  · simp only [zW,zX,zD,builtinA,isLeaf,const1,ustrA,simprocAttr,ca180,ca182,cf,Tryz.results91]
    exact ⟨B,rfl,.inr hbad⟩
set_option maxRecDepth 100000 in
theorem impl_RenameSig (s : List SigI) (hs : s.length ≤ 1048576) (ho : ∀ x ∈ s,x.Ok ∧ sz x.typ ≤ 1048576) (f t : List UInt8) (A : List Box) : ACalls Tryz.prog 32 [.slice (sEs s),.str f,.str t] A (fun r A'=>∃ o,RdR s f t o ∧ SgOut A (nrX o) o.isSome r A'):=by
  refine acalls_enterK (cf:=cf 34 [0,1,2,6,7,8,9,26]) foll Tryz.func32 Tryz.ntmps32 (by simp [cf]) ?_
  simp only [Tryz.f32,EnterK_some,zW,zX,zD,builtinA,isLeaf,const1,ustrA,simprocAttr,ti160,ca38,ca91,ca102,ca103,mi160,cf,Tryz.results32]
  refine callO_intro (impl_readSigKR s hs ho _) ?_
  rintro r A1 ⟨B,rfl,⟨ys,j,h8,hr,rfl,hj,hg⟩ | ⟨hbad,rfl⟩⟩
  · have hyl:=hr.1
    cases hord : ordB ys with
    | false =>
      simp only [zW,zX,zD,builtinA,isLeaf,const1,ustrA,simprocAttr,ti160,ca38,ca91,ca102,ca103,mi160,cf,Tryz.results32]
      exact ⟨none,.inl (by rw [sigB_reads h8 hr]; exact hord),sg_none A B⟩
    | true =>
      simp only [zW,zX,zD,builtinA,isLeaf,const1,ustrA,simprocAttr,ti160,ca38,ca91,ca102,ca103,mi160,cf,Tryz.results32]
      refine callK_intro (by simp only [zW,zX,zD,builtinA,isLeaf,const1,ustrA,simprocAttr,Option.map_some]; rfl) (impl_ModuleName f _) ?_ rfl; rintro v A' ⟨rfl,rfl⟩
      cases hf : moduleB f with
      | false =>
        simp only [zW,zX,zD,builtinA,isLeaf,const1,ustrA,simprocAttr,ti160,ca38,ca91,ca102,ca103,mi160,cf,Tryz.results32]
        exact ⟨none,.inr (.inl hf),sg_none A B⟩
      | true =>
        simp only [zW,zX,zD,builtinA,isLeaf,const1,ustrA,simprocAttr,ti160,ca38,ca91,ca102,ca103,mi160,cf,Tryz.results32]
        refine callK_intro (by simp only [zW,zX,zD,builtinA,isLeaf,const1,ustrA,simprocAttr,Option.map_some]; rfl) (impl_ModuleName t _) ?_ rfl; rintro v A' ⟨rfl,rfl⟩
        cases ht : moduleB t with
        | false =>
          simp only [zW,zX,zD,builtinA,isLeaf,const1,ustrA,simprocAttr,ti160,ca38,ca91,ca102,ca103,mi160,cf,Tryz.results32]
          exact ⟨none,.inr (.inr ht),sg_none A B⟩
        | true =>
          have hg2 : (A ++ B).getD (A.length + j) .dead = .row 1 (vRows ys) 0:=by rw [Abs.getD_append_right (by omega),Nat.add_sub_cancel_left]; exact hg
          simp only [zW,zX,zD,builtinA,isLeaf,const1,ustrA,simprocAttr,ti160,ca38,ca91,ca102,ca103,mi160,cf,Tryz.results32,wpO_insert,findS,updS]
          refine callO_intro (impl_rename f t s ys hr (by omega) (A.length + j) (A.length + B.length) (A ++ (B ++ [.mapb (esR f t)])) (by simp; omega) (by rw [← List.append_assoc,Abs.getD_append_left (by simp; omega)]; exact hg2) (by simp) (by rw [← List.append_assoc,Abs.getD_append_right (by simp),List.length_append,Nat.sub_self]; rfl)) ?_
          rintro r A' ⟨C,k,rfl,rfl,hk,hgk⟩
          generalize hBm : B ++ [Box.mapb (esR f t)] = Bm at *
          have hlm : Bm.length = B.length + 1:=by rw [← hBm]; simp
          simp only [zW,zX,zD,builtinA,isLeaf,const1,ustrA,simprocAttr,ti160,ca38,ca91,ca102,ca103,mi160,cf,Tryz.results32]
          have h1 : (A ++ (Bm ++ C)).getD (A.length + Bm.length + k) .dead = .row 1 (vRows (ys.map (renI f t))) 0:=by
            rw [Abs.getD_append_right (by omega),show A.length + Bm.length + k - A.length = Bm.length + k by omega,Abs.getD_append_right (by omega),show Bm.length + k - Bm.length = k by omega]; exact hgk
          have hfz : frzs [.own (A.length + Bm.length + k)] (A ++ (Bm ++ C)) = some ([.slice (vRows (ys.map (renI f t)))],A ++ (Bm ++ C).set (Bm.length + k) (.row 1 (vRows (ys.map (renI f t))) (vRows (ys.map (renI f t))).length)):=by
            have h2 : (A ++ (Bm ++ C)).set (A.length + Bm.length + k) (.row 1 (vRows (ys.map (renI f t))) (vRows (ys.map (renI f t))).length) = A ++ (Bm ++ C).set (Bm.length + k) (.row 1 (vRows (ys.map (renI f t))) (vRows (ys.map (renI f t))).length):=by
              rw [List.set_append_right _ _ (by omega),show A.length + Bm.length + k - A.length = Bm.length + k by omega]
            simp only [frzs,frzC,frz1,h1,h2]
          refine callK_intro hfz (impl_plainSig (ys.map (renI f t)) (by simp; omega) _) ?_ rfl
          rintro r A' ⟨i,rfl,hle,hfr,rows,S,hgi,hO,hN,hge⟩
          simp only [zW,zX,zD,builtinA,isLeaf,const1,ustrA,simprocAttr,ti160,ca38,ca91,ca102,ca103,mi160,cf,Tryz.results32]
          simp only [List.length_append,List.length_set] at hle hge
          exact ⟨some _,⟨ys,h8,hr,hord,⟨hf,ht⟩,rfl⟩,_,i :: S,rfl,.inr ⟨i,rows,S,rfl,rfl,hgi,hO⟩,hN,fun x hx=>by have:=hge x hx; omega,by omega,fun x hx=>by rw [hfr x (by simp; omega),Abs.getD_append_left hx]⟩
  · simp only [zW,zX,zD,builtinA,isLeaf,const1,ustrA,simprocAttr,ti160,ca38,ca91,ca102,ca103,mi160,cf,Tryz.results32]
    exact ⟨none,.inl (sigB_bad hbad),sg_none A B⟩
end Go.Proofs.YtnjdbgiincliaaaGreat
