/- SpNorm. -/
import Derived.Test.YtnjdbgiincliaaaGreatN09
import Derived.Test.YtnjdbgiincliaaaGreatAbsW3
/- The model's normal signatures. -/
set_option linter.unusedVariables false
set_option linter.unusedSimpArgs false
namespace Go.Proofs.YtnjdbgiincliaaaGreat
open Go.Abs
theorem subV_foldB (m : List (BNm × VT)) : ∀ v,subV (foldB m) v = subV m v
  | .num=>rfl
  | .nm a b=>by rw [subV,subV,lookB_foldB]
  | .fn a b=>by rw [subV,subV,subV_foldB m a,subV_foldB m b]
theorem ofB_sz {m : List (BNm × VT)} (hm : ∀ x ∈ m,VOk x.2) : ∀ b ∈ m.map ofB,sz b.typ ≤ 1048576:=by
  intro b hb
  obtain ⟨x,hx,rfl⟩:=List.mem_map.mp hb
  have:=sz_toTyS _ (hm x hx).ok
  have:=(hm x hx).cnt
  simp only [ofB]
  omega
def nxtL (ys : List VI) : List (BNm × VT):=ys.foldl nxtM []
def fitL (ys : List VI) : Prop:=∀ i,i < ys.length → fitI (subI (nxtL (ys.take i)) (ys.getD i vi0)) = true
theorem nxtL_snoc (ys : List VI) {i : Nat} (h : i < ys.length) : nxtL (ys.take (i + 1)) = nxtM (nxtL (ys.take i)) (ys.getD i vi0):=by
  rw [nxtL,List.take_add_one,List.foldl_append]
  simp [List.getD,h,nxtL]
theorem nxtM_len (m : List (BNm × VT)) (y : VI) : (nxtM m y).length ≤ m.length + 1:=by cases y <;> simp [nxtM]
theorem nxtL_len (ys : List VI) : ∀ i,i ≤ ys.length → (nxtL (ys.take i)).length ≤ i
  | 0,_=>by simp [nxtL]
  | i + 1,h=>by
    rw [nxtL_snoc ys (by omega)]
    have:=nxtM_len (nxtL (ys.take i)) (ys.getD i vi0)
    have:=nxtL_len ys i (by omega)
    omega
theorem nxtL_ok (ys : List VI) (hy : ∀ i,i < ys.length → VOk (meanI (ys.getD i vi0))) (hf : fitL ys) : ∀ i,i ≤ ys.length → ∀ x ∈ nxtL (ys.take i),VOk x.2
  | 0,_=>by simp [nxtL]
  | i + 1,h=>by
    rw [nxtL_snoc ys (by omega)]
    have ih:=nxtL_ok ys hy hf i (by omega)
    have h1:=hy i (by omega)
    have h2:=hf i (by omega)
    cases hq : ys.getD i vi0 with
    | ab n =>
      rw [hq] at h1
      simp only [nxtM,List.mem_append,List.mem_singleton]
      rintro x (hx | rfl)
      · exact ih x hx
      · exact h1
    | al n v =>
      rw [hq] at h1 h2
      simp only [nxtM,List.mem_append,List.mem_singleton]
      rintro x (hx | rfl)
      · exact ih x hx
      · simp only [fitI,subI,meanI,Bool.and_eq_true] at h2
        exact ⟨(sub_ok _ ih v h1.ok).1,of_decide_eq_true h2.1,of_decide_eq_true h2.2⟩
    | va n v=>exact ih
set_option maxRecDepth 100000 in
theorem spec_l2Binds (s : List SigI) (ys : List VI) (hl : ys.length ≤ 1000) (hr : ReadsTo s ys) (hf : fitL ys) (A : List Box) : ACalls Tryz.prog 120 [.slice (sEs s)] A (fun r A'=>r = .slice (bEs ((nxtL ys).map ofB)) ∧ A' = A):=by
  have hls:=hr.1
  have hy : ∀ i,i < ys.length → VOk (meanI (ys.getD i vi0)):=fun k hk=>by
    have:=hr.2 k (by omega)
    exact mean_ok this.1 this.2
  refine acalls_enter (cf:=cf 59 [0,2,3,4,5,10,17,18,35,46]) foll Tryz.func120 Tryz.ntmps120 (by simp [cf]) ?_
  simp only [Tryz.f120,EnterK_some,zW,zX,zD,builtinA,isLeaf,const1,ustrA,simprocAttr,ti3,ti9,ti36,ti50,ti69,ti186,ti292,ca119,ca121,ca188,cf,Tryz.results120]
  refine aloop_intro [0,3,4] (fun e A'=>∃ i j B sf,i ≤ s.length ∧ e = [(0,.slice (sEs s)),(3,.own (A.length + j)),(4,.int .i64 i)] ∧ A' = A ++ B ∧ j < B.length ∧ B.getD j .dead = .row 6 (bEs ((nxtL (ys.take i)).map ofB)) sf ∧ sf ≤ (nxtL (ys.take i)).length) (fun e _=>s.length - (intOf (Abs.look 4 e)).toNat) ?_ ?_
  · simp only [zW,zX,zD,builtinA,isLeaf,const1,ustrA,simprocAttr,ti3,ti9,ti36,ti50,ti69,ti186,ti292,ca119,ca121,ca188,cf,Tryz.results120]
    exact ⟨0,0,[.row 6 [] 0],0,by omega,rfl,rfl,by simp,rfl,by omega⟩
  · rintro e A' ⟨i,j,B,sf,hi,rfl,rfl,hj,hg,hsf⟩
    simp only [zW,zX,zD,builtinA,isLeaf,const1,ustrA,simprocAttr,ti3,ti9,ti36,ti50,ti69,ti186,ti292,ca119,ca121,ca188,cf,Tryz.results120,sEs_length]
    refine condK_intro (fun h2=>?_) (fun h2=>?_)
    · have hi2 : i < s.length:=by simpa using h2
      have he:=sEs_getD hi2
      have hi1 : IntKind.i64.wrap ((i : Int) + 1) = ((i + 1 : Nat) : Int):=by rw [wrap64 (by omega) (by omega)]; rfl
      have pi : (0 : Int) ≤ (i : Int) ∧ (i : Int) < (s.length : Int):=⟨by omega,by omega⟩
      have hit:=(hr.2 i hi2).2
      have hsn:=nxtL_snoc ys (i:=i) (by omega)
      have hok:=nxtL_ok ys hy hf i (by omega)
      have hln:=nxtL_len ys i (by omega)
      have hyi:=hy i (by omega)
      have hfi:=hf i (by omega)
      generalize nxtL (ys.take i) = m at *
      generalize s.getD i si0 = x at *
      obtain ⟨k,n,t⟩:=x
      simp only [sE] at he
      generalize ys.getD i vi0 = y at *
      cases y with
      | ab n' =>
        obtain ⟨rfl,rfl,rfl⟩:=hit
        simp only [nxtM] at hsn
        simp only [zW,zX,zD,builtinA,isLeaf,const1,ustrA,simprocAttr,ti3,ti9,ti36,ti50,ti69,ti186,ti292,ca119,ca121,ca188,cf,Tryz.results120,he,sEs_length,enc_length]
        refine ⟨pi,?_⟩
        have hrow : bE (ofB (([],n),.nm [] n)) = [.str [],.str n,.int .i64 3,.str [],.str n,.slice []]:=by simp [bE,ofB,toTy,Ty.kind,Ty.mod,Ty.name,Ty.kids,encs]
        have hrs : bEs (m.map ofB) ++ [[.str [],.str n,.int .i64 3,.str [],.str n,.slice []]] = bEs ((m ++ [(([],n),VT.nm [] n)]).map ofB):=by rw [← hrow]; simp [bEs]
        refine .inr (drawE_intro [(false,0,2),(false,0,1),(false,0,1),(false,0,1),(false,0,1),(false,0,1),(false,0,0),(false,0,0),(false,0,0),(false,0,0),(false,0,0),(true,0,0),(false,1,1),(true,1,1),(true,2,2),(false,3,3)] [A ++ B,A ++ B,A ++ (B ++ [.row 6 [[.str [],.str n,.int .i64 3,.str [],.str n,.slice []]] 0]),A ++ (B.set j .dead ++ [.row 6 [[.str [],.str n,.int .i64 3,.str [],.str n,.slice []]] 0,.row 6 (bEs (m.map ofB) ++ [[.str [],.str n,.int .i64 3,.str [],.str n,.slice []]]) sf])] 3 rfl (by kernel_rfl) (by kernel_rfl) (by kernel_rfl) (by kernel_rfl) (by kernel_rfl) (by kernel_rfl) ?_)
        simp only [zW,zX,zD,builtinA,isLeaf,const1,ustrA,simprocAttr,ti3,ti9,ti36,ti50,ti69,ti186,ti292,ca119,ca121,ca188,cf,Tryz.results120,he,hj,hg,enc_length,sEs_length]
        refine ⟨pi,pi,pi,?_⟩
        have hN:=fun A=>spec_l1Name0 [] n A
        simp only [enc,encs] at hN
        refine callE_intro (by simp only [zW,zX,zD,builtinA,isLeaf,const1,ustrA,simprocAttr,Option.map_some] <;> rfl) (hN _) ?_ rfl rfl
        simp only [zW,zX,zD,builtinA,isLeaf,const1,ustrA,simprocAttr,ti3,ti9,ti36,ti50,ti69,ti186,ti292,ca119,ca121,ca188,cf,Tryz.results120,he,hj,hg,enc_length,sEs_length]
        simp only [zW,zX,zD,builtinA,isLeaf,const1,ustrA,simprocAttr,ti3,ti9,ti36,ti50,ti69,ti186,ti292,ca119,ca121,ca188,cf,Tryz.results120,hi1,LoopK_eq]
        refine ⟨by simp [isLeaf],⟨fun r hr=>by rw [List.mem_singleton.1 hr]; rfl,by rw [bEs_length,List.length_map]; omega⟩,⟨i + 1,B.length + 1,B.set j .dead ++ [.row 6 [[.str [],.str n,.int .i64 3,.str [],.str n,.slice []]] 0,.row 6 (bEs (m.map ofB) ++ [[.str [],.str n,.int .i64 3,.str [],.str n,.slice []]]) sf],sf,by omega,rfl,rfl,by simp,?_,by rw [hsn,List.length_append]; omega⟩,?_⟩
        · rw [getD_sapp,hsn,hrs]; rfl
        · simp only [intOf]; omega
      | al n' v =>
        obtain ⟨rfl,rfl,rfl,hv⟩:=hit
        simp only [nxtM] at hsn
        simp only [subI] at hfi
        have hz : sz (toTy v) ≤ 1048576:=by have:=sz_toTyS _ hv.ok; have:=hv.cnt; omega
        have hS:=fun A=>spec_l1Subst (m.map ofB) (by simp; omega) (ofB_sz hok) (toTy v) hz A
        rw [subT_eq,subV_foldB] at hS
        have hsub:=sub_ok m hok v hv.ok
        have hcv:=hv.cnt
        generalize subV m v = w at *
        have hd : (decide (dep w ≤ 8) && decide (cnt w ≤ 63)) = true:=hfi
        have hszw:=sz_toTyS w hsub.1
        have hV:=fun A=>spec_TypeValid (toTy w) (ok_toTyS w hsub.1) (by omega) A
        rw [validB_sub hsub.1,hd] at hV
        simp only [zW,zX,zD,builtinA,isLeaf,const1,ustrA,simprocAttr,ti3,ti9,ti36,ti50,ti69,ti186,ti292,ca119,ca121,ca188,cf,Tryz.results120,he,sEs_length,enc_length]
        refine ⟨pi,?_⟩
        have h1 : (A ++ B).getD (A.length + j) .dead = .row 6 (bEs (m.map ofB)) sf:=by
          rw [Abs.getD_append_right (by omega),show A.length + j - A.length = j by omega]; exact hg
        have hfz : frzs [.agg (List.take 4 (enc (toTy v))),.own (A.length + j)] (A ++ B) = some ([.agg (enc (toTy v)),.slice (bEs (m.map ofB))],A ++ B.set j (.row 6 (bEs (m.map ofB)) (bEs (m.map ofB)).length)):=by
          have h2 : (A ++ B).set (A.length + j) (.row 6 (bEs (m.map ofB)) (bEs (m.map ofB)).length) = A ++ B.set j (.row 6 (bEs (m.map ofB)) (bEs (m.map ofB)).length):=by simp [List.set_append]
          simp only [frzs,frzC,frz1,enc_take,frzL_enc,h1,h2,Option.map_some]
        refine ⟨pi,?_⟩
        refine callK_intro hfz (hS _) ?_ rfl
        rintro r A' ⟨rfl,rfl⟩
        simp only [zW,zX,zD,builtinA,isLeaf,const1,ustrA,simprocAttr,ti3,ti9,ti36,ti50,ti69,ti186,ti292,ca119,ca121,ca188,cf,Tryz.results120,enc_length,enc_take,sub_drop,frzL_enc,sub_closed,Option.map_some]
        refine callK_intro (by simp only [zW,zX,zD,builtinA,isLeaf,const1,ustrA,simprocAttr,enc_length,enc_take,sub_drop,frzL_enc,sub_closed,Option.map_some]; rfl) (hV _) ?_ rfl; rintro v A' ⟨rfl,rfl⟩
        simp only [zW,zX,zD,builtinA,isLeaf,const1,ustrA,simprocAttr,ti3,ti9,ti36,ti50,ti69,ti186,ti292,ca119,ca121,ca188,cf,Tryz.results120,enc_length,enc_take,sub_drop,frzL_enc,sub_closed,Option.map_some]
        refine .inr (drawE_intro [(false,0,1),(false,0,0),(false,0,0),(false,0,0),(false,0,0),(false,0,0),(false,0,0),(false,0,0),(true,0,0),(true,1,1),(false,2,2)] [A ++ (B.set j (.row 6 (bEs (m.map ofB)) (bEs (m.map ofB)).length) ++ [(.cells (enc (toTy w)))]),A ++ (B.set j (.row 6 (bEs (m.map ofB)) (bEs (m.map ofB)).length) ++ [(.cells (enc (toTy w))),.row 6 [(.str [] :: .str n :: enc (toTy w))] 0]),A ++ ((B.set j (.row 6 (bEs (m.map ofB)) (bEs (m.map ofB)).length)).set j .dead ++ [(.cells (enc (toTy w))),.row 6 [(.str [] :: .str n :: enc (toTy w))] 0,.row 6 (bEs (m.map ofB) ++ [(.str [] :: .str n :: enc (toTy w))]) (bEs (m.map ofB)).length])] 2 rfl (by kernel_rfl) (by kernel_rfl) (by kernel_rfl) (by kernel_rfl) (by kernel_rfl) (by kernel_rfl) ?_)
        simp only [zW,zX,zD,builtinA,isLeaf,const1,ustrA,simprocAttr,ti3,ti9,ti36,ti50,ti69,ti186,ti292,ca119,ca121,ca188,cf,Tryz.results120,he,hj,hg,enc_length,sEs_length,enc_take,sub_drop,frzL_enc,sub_closed,Option.map_some]
        have hrow : bE (ofB (([],n),w)) = .str [] :: .str n :: enc (toTy w):=by rw [bT4 (toTy w)]; rfl
        have hrs : bEs (m.map ofB) ++ [.str [] :: .str n :: enc (toTy w)] = bEs ((m ++ [(([],n),w)]).map ofB):=by rw [← hrow]; simp [bEs]
        have hlf : ∀ v ∈ (AV.str [] :: AV.str n :: enc (toTy w)),isLeaf v = true:=by rw [← hrow]; exact bE_leaf _
        refine ⟨pi,fun v hv=>hlf v hv,⟨fun r hr=>by rw [List.mem_singleton.1 hr]; simp [enc_length],by rw [bEs_length,List.length_map]; omega⟩,?_⟩
        simp only [zW,zX,zD,builtinA,isLeaf,const1,ustrA,simprocAttr,ti3,ti9,ti36,ti50,ti69,ti186,ti292,ca119,ca121,ca188,cf,Tryz.results120,hi1,LoopK_eq]
        refine ⟨⟨i + 1,B.length + 2,B.set j .dead ++ [(.cells (enc (toTy w))),.row 6 [(.str [] :: .str n :: enc (toTy w))] 0,.row 6 (bEs (m.map ofB) ++ [(.str [] :: .str n :: enc (toTy w))]) (bEs (m.map ofB)).length],(bEs (m.map ofB)).length,by omega,rfl,rfl,by simp,?_,by rw [hsn,bEs_length,List.length_append,List.length_map]; omega⟩,?_⟩
        · rw [getD_sapp,hsn,hrs]; rfl
        · simp only [intOf]; omega
      | va n' v =>
        obtain ⟨rfl,rfl,rfl,hv⟩:=hit
        simp only [nxtM] at hsn
        simp only [zW,zX,zD,builtinA,isLeaf,const1,ustrA,simprocAttr,ti3,ti9,ti36,ti50,ti69,ti186,ti292,ca119,ca121,ca188,cf,Tryz.results120,he,sEs_length,enc_length]
        refine ⟨pi,?_⟩
        simp only [zW,zX,zD,builtinA,isLeaf,const1,ustrA,simprocAttr,ti3,ti9,ti36,ti50,ti69,ti186,ti292,ca119,ca121,ca188,cf,Tryz.results120,hi1,LoopK_eq]
        refine ⟨⟨i + 1,j,B,sf,by omega,rfl,rfl,hj,by rw [hsn]; exact hg,by rw [hsn]; exact hsf⟩,?_⟩
        simp only [intOf]; omega
    · have : i = s.length:=by simp at h2; omega
      subst this
      rw [← hls,List.take_length] at hg
      simp only [zW,zX,zD,builtinA,isLeaf,const1,ustrA,simprocAttr,ti3,ti9,ti36,ti50,ti69,ti186,ti292,ca119,ca121,ca188,cf,Tryz.results120,hg,hj]
end Go.Proofs.YtnjdbgiincliaaaGreat
