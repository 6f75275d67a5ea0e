/- SpNorm, NormP, SpSigN, OwnMark, OwnTo, OwnFree, OwnBd. -/
import Derived.Test.YtejbjgmgdbcddaaGreatDoorK07
import Derived.Test.YtejbjgmgdbcddaaGreatDoorAbsW3
/- The model's normal signatures. -/
set_option linter.unusedVariables false
set_option linter.unusedSimpArgs false
namespace Go.Proofs.YtejbjgmgdbcddaaGreatDoor
open Go.Abs
theorem subV_foldB (m : List (BNm × VT)) : ∀ v,subV (foldB m) v = subV m v
  | .num=>rfl
  | .nm a b=>by rw [subV,subV,lookB_foldB]
  | .fn a b=>by rw [subV,subV,subV_foldB m a,subV_foldB m b]
theorem ofB_sz {m : List (BNm × VT)} (hm : ∀ x ∈ m,VOk x.2) : ∀ b ∈ m.map ofB,sz b.typ ≤ 1048576:=by
  intro b hb
  obtain ⟨x,hx,rfl⟩:=List.mem_map.mp hb
  have:=sz_toTyS _ (hm x hx).ok
  have:=(hm x hx).cnt
  simp only [ofB]
  omega
def nxtL (ys : List VI) : List (BNm × VT):=ys.foldl nxtM []
def fitL (ys : List VI) : Prop:=∀ i,i < ys.length → fitI (subI (nxtL (ys.take i)) (ys.getD i vi0)) = true
theorem nxtL_snoc (ys : List VI) {i : Nat} (h : i < ys.length) : nxtL (ys.take (i + 1)) = nxtM (nxtL (ys.take i)) (ys.getD i vi0):=by
  rw [nxtL,List.take_add_one,List.foldl_append]
  simp [List.getD,h,nxtL]
theorem nxtM_len (m : List (BNm × VT)) (y : VI) : (nxtM m y).length ≤ m.length + 1:=by cases y <;> simp [nxtM]
theorem nxtL_len (ys : List VI) : ∀ i,i ≤ ys.length → (nxtL (ys.take i)).length ≤ i
  | 0,_=>by simp [nxtL]
  | i + 1,h=>by
    rw [nxtL_snoc ys (by omega)]
    have:=nxtM_len (nxtL (ys.take i)) (ys.getD i vi0)
    have:=nxtL_len ys i (by omega)
    omega
theorem nxtL_ok (ys : List VI) (hy : ∀ i,i < ys.length → VOk (meanI (ys.getD i vi0))) (hf : fitL ys) : ∀ i,i ≤ ys.length → ∀ x ∈ nxtL (ys.take i),VOk x.2
  | 0,_=>by simp [nxtL]
  | i + 1,h=>by
    rw [nxtL_snoc ys (by omega)]
    have ih:=nxtL_ok ys hy hf i (by omega)
    have h1:=hy i (by omega)
    have h2:=hf i (by omega)
    cases hq : ys.getD i vi0 with
    | ab n =>
      rw [hq] at h1
      simp only [nxtM,List.mem_append,List.mem_singleton]
      rintro x (hx | rfl)
      · exact ih x hx
      · exact h1
    | al n v =>
      rw [hq] at h1 h2
      simp only [nxtM,List.mem_append,List.mem_singleton]
      rintro x (hx | rfl)
      · exact ih x hx
      · simp only [fitI,subI,meanI,Bool.and_eq_true] at h2
        exact ⟨(sub_ok _ ih v h1.ok).1,of_decide_eq_true h2.1,of_decide_eq_true h2.2⟩
    | va n v=>exact ih
set_option maxRecDepth 100000 in
theorem spec_l2Binds (s : List SigI) (ys : List VI) (hl : ys.length ≤ 1000) (hr : ReadsTo s ys) (hf : fitL ys) (A : List Box) : ACalls Tryz.prog 93 [.slice (sEs s)] A (fun r A'=>r = .slice (bEs ((nxtL ys).map ofB)) ∧ A' = A):=by
  have hls:=hr.1
  have hy : ∀ i,i < ys.length → VOk (meanI (ys.getD i vi0)):=fun k hk=>by
    have:=hr.2 k (by omega)
    exact mean_ok this.1 this.2
  refine acalls_enter (cf:=cf 59 [0,2,3,4,5,10,17,18,35,46]) foll Tryz.func93 Tryz.ntmps93 (by simp [cf]) ?_
  simp only [Tryz.f93,EnterK_some,zW,zX,zD,builtinA,isLeaf,const1,ustrA,simprocAttr,ti3,ti9,ti23,ti32,ti41,ti174,ti195,ca71,ca78,ca92,cf,Tryz.results93]
  refine aloop_intro [0,3,4] (fun e A'=>∃ i j B sf,i ≤ s.length ∧ e = [(0,.slice (sEs s)),(3,.own (A.length + j)),(4,.int .i64 i)] ∧ A' = A ++ B ∧ j < B.length ∧ B.getD j .dead = .row 6 (bEs ((nxtL (ys.take i)).map ofB)) sf ∧ sf ≤ (nxtL (ys.take i)).length) (fun e _=>s.length - (intOf (Abs.look 4 e)).toNat) ?_ ?_
  · simp only [zW,zX,zD,builtinA,isLeaf,const1,ustrA,simprocAttr,ti3,ti9,ti23,ti32,ti41,ti174,ti195,ca71,ca78,ca92,cf,Tryz.results93]
    exact ⟨0,0,[.row 6 [] 0],0,by omega,rfl,rfl,by simp,rfl,by omega⟩
  · rintro e A' ⟨i,j,B,sf,hi,rfl,rfl,hj,hg,hsf⟩
    simp only [zW,zX,zD,builtinA,isLeaf,const1,ustrA,simprocAttr,ti3,ti9,ti23,ti32,ti41,ti174,ti195,ca71,ca78,ca92,cf,Tryz.results93,sEs_length]
    refine condK_intro (fun h2=>?_) (fun h2=>?_)
    · have hi2 : i < s.length:=by simpa using h2
      have he:=sEs_getD hi2
      have hi1 : IntKind.i64.wrap ((i : Int) + 1) = ((i + 1 : Nat) : Int):=by rw [wrap64 (by omega) (by omega)]; rfl
      have pi : (0 : Int) ≤ (i : Int) ∧ (i : Int) < (s.length : Int):=⟨by omega,by omega⟩
      have hit:=(hr.2 i hi2).2
      have hsn:=nxtL_snoc ys (i:=i) (by omega)
      have hok:=nxtL_ok ys hy hf i (by omega)
      have hln:=nxtL_len ys i (by omega)
      have hyi:=hy i (by omega)
      have hfi:=hf i (by omega)
      generalize nxtL (ys.take i) = m at *
      generalize s.getD i si0 = x at *
      obtain ⟨k,n,t⟩:=x
      simp only [sE] at he
      generalize ys.getD i vi0 = y at *
      cases y with
      | ab n' =>
        obtain ⟨rfl,rfl,rfl⟩:=hit
        simp only [nxtM] at hsn
        simp only [zW,zX,zD,builtinA,isLeaf,const1,ustrA,simprocAttr,ti3,ti9,ti23,ti32,ti41,ti174,ti195,ca71,ca78,ca92,cf,Tryz.results93,he,sEs_length,enc_length]
        refine ⟨pi,?_⟩
        have hrow : bE (ofB (([],n),.nm [] n)) = [.str [],.str n,.int .i64 3,.str [],.str n,.slice []]:=by simp [bE,ofB,toTy,Ty.kind,Ty.mod,Ty.name,Ty.kids,encs]
        have hrs : bEs (m.map ofB) ++ [[.str [],.str n,.int .i64 3,.str [],.str n,.slice []]] = bEs ((m ++ [(([],n),VT.nm [] n)]).map ofB):=by rw [← hrow]; simp [bEs]
        refine .inr (drawE_intro [(false,0,2),(false,0,1),(false,0,1),(false,0,1),(false,0,1),(false,0,1),(false,0,0),(false,0,0),(false,0,0),(false,0,0),(false,0,0),(true,0,0),(false,1,1),(true,1,1),(true,2,2),(false,3,3)] [A ++ B,A ++ B,A ++ (B ++ [.row 6 [[.str [],.str n,.int .i64 3,.str [],.str n,.slice []]] 0]),A ++ (B.set j .dead ++ [.row 6 [[.str [],.str n,.int .i64 3,.str [],.str n,.slice []]] 0,.row 6 (bEs (m.map ofB) ++ [[.str [],.str n,.int .i64 3,.str [],.str n,.slice []]]) sf])] 3 rfl (by kernel_rfl) (by kernel_rfl) (by kernel_rfl) (by kernel_rfl) (by kernel_rfl) (by kernel_rfl) ?_)
        simp only [zW,zX,zD,builtinA,isLeaf,const1,ustrA,simprocAttr,ti3,ti9,ti23,ti32,ti41,ti174,ti195,ca71,ca78,ca92,cf,Tryz.results93,he,hj,hg,enc_length,sEs_length]
        refine ⟨pi,pi,pi,?_⟩
        have hN:=fun A=>spec_l1Name0 [] n A
        simp only [enc,encs] at hN
        refine callE_intro (by simp only [zW,zX,zD,builtinA,isLeaf,const1,ustrA,simprocAttr,Option.map_some] <;> rfl) (hN _) ?_ rfl rfl
        simp only [zW,zX,zD,builtinA,isLeaf,const1,ustrA,simprocAttr,ti3,ti9,ti23,ti32,ti41,ti174,ti195,ca71,ca78,ca92,cf,Tryz.results93,he,hj,hg,enc_length,sEs_length]
        simp only [zW,zX,zD,builtinA,isLeaf,const1,ustrA,simprocAttr,ti3,ti9,ti23,ti32,ti41,ti174,ti195,ca71,ca78,ca92,cf,Tryz.results93,hi1,LoopK_eq]
        refine ⟨by simp [isLeaf],⟨fun r hr=>by rw [List.mem_singleton.1 hr]; rfl,by rw [bEs_length,List.length_map]; omega⟩,⟨i + 1,B.length + 1,B.set j .dead ++ [.row 6 [[.str [],.str n,.int .i64 3,.str [],.str n,.slice []]] 0,.row 6 (bEs (m.map ofB) ++ [[.str [],.str n,.int .i64 3,.str [],.str n,.slice []]]) sf],sf,by omega,rfl,rfl,by simp,?_,by rw [hsn,List.length_append]; omega⟩,?_⟩
        · rw [getD_sapp,hsn,hrs]; rfl
        · simp only [intOf]; omega
      | al n' v =>
        obtain ⟨rfl,rfl,rfl,hv⟩:=hit
        simp only [nxtM] at hsn
        simp only [subI] at hfi
        have hz : sz (toTy v) ≤ 1048576:=by have:=sz_toTyS _ hv.ok; have:=hv.cnt; omega
        have hS:=fun A=>spec_l1Subst (m.map ofB) (by simp; omega) (ofB_sz hok) (toTy v) hz A
        rw [subT_eq,subV_foldB] at hS
        have hsub:=sub_ok m hok v hv.ok
        have hcv:=hv.cnt
        generalize subV m v = w at *
        have hd : (decide (dep w ≤ 8) && decide (cnt w ≤ 63)) = true:=hfi
        have hszw:=sz_toTyS w hsub.1
        have hV:=fun A=>spec_TypeValid (toTy w) (ok_toTyS w hsub.1) (by omega) A
        rw [validB_sub hsub.1,hd] at hV
        simp only [zW,zX,zD,builtinA,isLeaf,const1,ustrA,simprocAttr,ti3,ti9,ti23,ti32,ti41,ti174,ti195,ca71,ca78,ca92,cf,Tryz.results93,he,sEs_length,enc_length]
        refine ⟨pi,?_⟩
        have h1 : (A ++ B).getD (A.length + j) .dead = .row 6 (bEs (m.map ofB)) sf:=by
          rw [Abs.getD_append_right (by omega),show A.length + j - A.length = j by omega]; exact hg
        have hfz : frzs [.agg (List.take 4 (enc (toTy v))),.own (A.length + j)] (A ++ B) = some ([.agg (enc (toTy v)),.slice (bEs (m.map ofB))],A ++ B.set j (.row 6 (bEs (m.map ofB)) (bEs (m.map ofB)).length)):=by
          have h2 : (A ++ B).set (A.length + j) (.row 6 (bEs (m.map ofB)) (bEs (m.map ofB)).length) = A ++ B.set j (.row 6 (bEs (m.map ofB)) (bEs (m.map ofB)).length):=by simp [List.set_append]
          simp only [frzs,frzC,frz1,enc_take,frzL_enc,h1,h2,Option.map_some]
        refine ⟨pi,?_⟩
        refine callK_intro hfz (hS _) ?_ rfl
        rintro r A' ⟨rfl,rfl⟩
        simp only [zW,zX,zD,builtinA,isLeaf,const1,ustrA,simprocAttr,ti3,ti9,ti23,ti32,ti41,ti174,ti195,ca71,ca78,ca92,cf,Tryz.results93,enc_length,enc_take,sub_drop,frzL_enc,sub_closed,Option.map_some]
        refine callK_intro (by simp only [zW,zX,zD,builtinA,isLeaf,const1,ustrA,simprocAttr,enc_length,enc_take,sub_drop,frzL_enc,sub_closed,Option.map_some]; rfl) (hV _) ?_ rfl; rintro v A' ⟨rfl,rfl⟩
        simp only [zW,zX,zD,builtinA,isLeaf,const1,ustrA,simprocAttr,ti3,ti9,ti23,ti32,ti41,ti174,ti195,ca71,ca78,ca92,cf,Tryz.results93,enc_length,enc_take,sub_drop,frzL_enc,sub_closed,Option.map_some]
        refine .inr (drawE_intro [(false,0,1),(false,0,0),(false,0,0),(false,0,0),(false,0,0),(false,0,0),(false,0,0),(false,0,0),(true,0,0),(true,1,1),(false,2,2)] [A ++ (B.set j (.row 6 (bEs (m.map ofB)) (bEs (m.map ofB)).length) ++ [(.cells (enc (toTy w)))]),A ++ (B.set j (.row 6 (bEs (m.map ofB)) (bEs (m.map ofB)).length) ++ [(.cells (enc (toTy w))),.row 6 [(.str [] :: .str n :: enc (toTy w))] 0]),A ++ ((B.set j (.row 6 (bEs (m.map ofB)) (bEs (m.map ofB)).length)).set j .dead ++ [(.cells (enc (toTy w))),.row 6 [(.str [] :: .str n :: enc (toTy w))] 0,.row 6 (bEs (m.map ofB) ++ [(.str [] :: .str n :: enc (toTy w))]) (bEs (m.map ofB)).length])] 2 rfl (by kernel_rfl) (by kernel_rfl) (by kernel_rfl) (by kernel_rfl) (by kernel_rfl) (by kernel_rfl) ?_)
        simp only [zW,zX,zD,builtinA,isLeaf,const1,ustrA,simprocAttr,ti3,ti9,ti23,ti32,ti41,ti174,ti195,ca71,ca78,ca92,cf,Tryz.results93,he,hj,hg,enc_length,sEs_length,enc_take,sub_drop,frzL_enc,sub_closed,Option.map_some]
        have hrow : bE (ofB (([],n),w)) = .str [] :: .str n :: enc (toTy w):=by rw [bT4 (toTy w)]; rfl
        have hrs : bEs (m.map ofB) ++ [.str [] :: .str n :: enc (toTy w)] = bEs ((m ++ [(([],n),w)]).map ofB):=by rw [← hrow]; simp [bEs]
        have hlf : ∀ v ∈ (AV.str [] :: AV.str n :: enc (toTy w)),isLeaf v = true:=by rw [← hrow]; exact bE_leaf _
        refine ⟨pi,fun v hv=>hlf v hv,⟨fun r hr=>by rw [List.mem_singleton.1 hr]; simp [enc_length],by rw [bEs_length,List.length_map]; omega⟩,?_⟩
        simp only [zW,zX,zD,builtinA,isLeaf,const1,ustrA,simprocAttr,ti3,ti9,ti23,ti32,ti41,ti174,ti195,ca71,ca78,ca92,cf,Tryz.results93,hi1,LoopK_eq]
        refine ⟨⟨i + 1,B.length + 2,B.set j .dead ++ [(.cells (enc (toTy w))),.row 6 [(.str [] :: .str n :: enc (toTy w))] 0,.row 6 (bEs (m.map ofB) ++ [(.str [] :: .str n :: enc (toTy w))]) (bEs (m.map ofB)).length],(bEs (m.map ofB)).length,by omega,rfl,rfl,by simp,?_,by rw [hsn,bEs_length,List.length_append,List.length_map]; omega⟩,?_⟩
        · rw [getD_sapp,hsn,hrs]; rfl
        · simp only [intOf]; omega
      | va n' v =>
        obtain ⟨rfl,rfl,rfl,hv⟩:=hit
        simp only [nxtM] at hsn
        simp only [zW,zX,zD,builtinA,isLeaf,const1,ustrA,simprocAttr,ti3,ti9,ti23,ti32,ti41,ti174,ti195,ca71,ca78,ca92,cf,Tryz.results93,he,sEs_length,enc_length]
        refine ⟨pi,?_⟩
        simp only [zW,zX,zD,builtinA,isLeaf,const1,ustrA,simprocAttr,ti3,ti9,ti23,ti32,ti41,ti174,ti195,ca71,ca78,ca92,cf,Tryz.results93,hi1,LoopK_eq]
        refine ⟨⟨i + 1,j,B,sf,by omega,rfl,rfl,hj,by rw [hsn]; exact hg,by rw [hsn]; exact hsf⟩,?_⟩
        simp only [intOf]; omega
    · have : i = s.length:=by simp at h2; omega
      subst this
      rw [← hls,List.take_length] at hg
      simp only [zW,zX,zD,builtinA,isLeaf,const1,ustrA,simprocAttr,ti3,ti9,ti23,ti32,ti41,ti174,ti195,ca71,ca78,ca92,cf,Tryz.results93,hg,hj]
end Go.Proofs.YtejbjgmgdbcddaaGreatDoor
/- The normal signature as data. -/
set_option linter.unusedVariables false
set_option linter.unusedSimpArgs false
namespace Go.Proofs.YtejbjgmgdbcddaaGreatDoor
open Go.Abs
theorem allV_sub {p : Nm → Bool} {m : List (BNm × VT)} (hm : ∀ x ∈ m,allV p x.2 = true) : ∀ {v : VT},allV p v = true → allV p (subV m v) = true
  | .num,_=>rfl
  | .nm a b,h=>by
    rw [subV]
    cases hl : lookB (a,b) m with
    | none=>exact h
    | some w =>
      obtain ⟨q,hq⟩ : ∃ q,(q,w) ∈ m:=by
        clear h hm
        induction m with
        | nil=>cases hl
        | cons x m ih =>
          obtain ⟨q,v⟩:=x
          rw [lookB] at hl
          split at hl
          · cases hl; exact ⟨q,by simp⟩
          · obtain ⟨q',h'⟩:=ih hl; exact ⟨q',by simp [h']⟩
      exact hm _ hq
  | .fn a b,h=>by
    simp only [allV,Bool.and_eq_true] at h
    simp only [subV,allV,Bool.and_eq_true]
    exact ⟨allV_sub hm h.1,allV_sub hm h.2⟩
theorem allV_mono {p q : Nm → Bool} (h : ∀ x,p x = true → q x = true) : ∀ {v : VT},allV p v = true → allV q v = true
  | .num,_=>rfl
  | .nm a b,h'=>h _ h'
  | .fn a b,h'=>by
    simp only [allV,Bool.and_eq_true] at h' ⊢
    exact ⟨allV_mono h h'.1,allV_mono h h'.2⟩
def zsN (ys : List VI) (i : Nat) : List VI:=(List.range i).map fun k=>subI (nxtL (ys.take k)) (ys.getD k vi0)
theorem zsN_length (ys : List VI) (i : Nat) : (zsN ys i).length = i:=by simp [zsN]
theorem zsN_succ (ys : List VI) (i : Nat) : zsN ys (i + 1) = zsN ys i ++ [subI (nxtL (ys.take i)) (ys.getD i vi0)]:=by simp [zsN,List.range_succ]
theorem zsN_getD (ys : List VI) {i k : Nat} (h : k < i) : (zsN ys i).getD k vi0 = subI (nxtL (ys.take k)) (ys.getD k vi0):=by
  simp [zsN,List.getD,h]
theorem normL_from (ys : List VI) : ∀ n i,n = ys.length - i → i ≤ ys.length → (∀ k,k < i → fitI (subI (nxtL (ys.take k)) (ys.getD k vi0)) = true) → normL [] ys = (normL (nxtL (ys.take i)) (ys.drop i)).map (zsN ys i ++ ·)
  | _,0,_,_,_=>by simp [zsN,nxtL]
  | n,i + 1,hn,hi,hk=>by
    rw [normL_from ys (n + 1) i (by omega) (by omega) fun k h=>hk k (by omega),vi_drop (show i < ys.length by omega),normL,if_pos (hk i (by omega)),nxtL_snoc ys (by omega),zsN_succ,Option.map_map]
    congr 1
    funext x
    simp
theorem normL_yes {ys : List VI} (hf : fitL ys) : normL [] ys = some (zsN ys ys.length):=by
  rw [normL_from ys 0 ys.length (by omega) (Nat.le_refl _) hf,List.drop_length,normL]
  simp
theorem normL_no {ys : List VI} {i : Nat} (hi : i < ys.length) (hf : ∀ k,k < i → fitI (subI (nxtL (ys.take k)) (ys.getD k vi0)) = true) (h : fitI (subI (nxtL (ys.take i)) (ys.getD i vi0)) = false) : normL [] ys = none:=by
  rw [normL_from ys _ i rfl (by omega) hf,vi_drop hi,normL,if_neg (by rw [h]; simp)]
  rfl
theorem normL_fit {ys zs : List VI} (h : normL [] ys = some zs) : fitL ys ∧ zs = zsN ys ys.length:=by
  have hf : fitL ys:=by
    intro i hi
    cases hc : fitI (subI (nxtL (ys.take i)) (ys.getD i vi0)) with
    | true=>rfl
    | false =>
      exfalso
      obtain ⟨j,hj,hmin⟩ : ∃ j,(j ≤ i ∧ fitI (subI (nxtL (ys.take j)) (ys.getD j vi0)) = false) ∧ ∀ k,k < j → fitI (subI (nxtL (ys.take k)) (ys.getD k vi0)) = true:=by
        clear h
        induction i using Nat.strongRecOn with
        | _ i ih =>
          by_cases hx : ∀ k,k < i → fitI (subI (nxtL (ys.take k)) (ys.getD k vi0)) = true
          · exact ⟨i,⟨Nat.le_refl _,hc⟩,hx⟩
          · simp only [Classical.not_forall] at hx
            obtain ⟨k,hk,hk2⟩:=hx
            obtain ⟨j,h1,h2⟩:=ih k hk (by omega) (by simpa using hk2)
            exact ⟨j,⟨by omega,h1.2⟩,h2⟩
      rw [normL_no (by omega) hmin hj.2] at h
      cases h
  exact ⟨hf,by rw [normL_yes hf] at h; exact (Option.some.inj h).symm⟩
theorem nxtL_all (ys : List VI) (ho : ordB ys = true) : ∀ i,i ≤ ys.length → ∀ x ∈ nxtL (ys.take i),allV (okN ((ys.take i).map viK)) x.2 = true
  | 0,_=>by simp [nxtL]
  | i + 1,h=>by
    have ih:=nxtL_all ys ho i (by omega)
    have hs : stepB (ys.take i) (ys.getD i vi0) = true:=by
      unfold ordB at ho
      rw [List.all_eq_true] at ho
      exact ho i (List.mem_range.mpr h)
    simp only [stepB,Bool.and_eq_true] at hs
    have hmono : ∀ x,okN ((ys.take i).map viK) x = true → okN ((ys.take (i + 1)).map viK) x = true:=fun x hx=>by
      rw [keys_take h]
      simp only [okN,Bool.or_eq_true,decide_eq_true_eq,List.mem_append] at hx ⊢
      rcases hx with hx | hx
      · exact .inl hx
      · exact .inr (.inl hx)
    rw [nxtL_snoc ys (by omega)]
    cases hy : ys.getD i vi0 with
    | ab n =>
      simp only [nxtM,List.mem_append,List.mem_singleton]
      rintro x (hx | rfl)
      · exact allV_mono hmono (ih x hx)
      · simp only [allV]
        rw [keys_take h,hy]
        simp [okN,viK]
    | al n v =>
      rw [hy] at hs
      simp only [allI] at hs
      simp only [nxtM,List.mem_append,List.mem_singleton]
      rintro x (hx | rfl)
      · exact allV_mono hmono (ih x hx)
      · exact allV_mono hmono (allV_sub ih hs.1)
    | va n v =>
      simp only [nxtM]
      exact fun x hx=>allV_mono hmono (ih x hx)
theorem zsN_keys (ys : List VI) : ∀ i,i ≤ ys.length → (zsN ys i).map viK = (ys.take i).map viK
  | 0,_=>by simp [zsN]
  | i + 1,h=>by rw [zsN_succ,List.map_append,zsN_keys ys i (by omega),keys_take h]; simp [viK_sub]
theorem ordB_norm {ys : List VI} (ho : ordB ys = true) : ordB (zsN ys ys.length) = true:=by
  have hz:=zsN_length ys ys.length
  have ho':=ho
  unfold ordB at ho' ⊢
  rw [List.all_eq_true] at ho' ⊢
  intro i hi
  rw [List.mem_range,hz] at hi
  have hs:=ho' i (List.mem_range.mpr hi)
  have e : (zsN ys ys.length).take i = zsN ys i:=by
    simp only [zsN,← List.map_take]
    congr 1
    rw [List.take_range,Nat.min_eq_left (by omega)]
  rw [e,zsN_getD ys hi]
  simp only [stepB,Bool.and_eq_true,viK_sub,zsN_keys ys i (by omega)] at hs ⊢
  refine ⟨?_,hs.2⟩
  have hall:=nxtL_all ys ho i (by omega)
  generalize nxtL (ys.take i) = m at *
  generalize ys.getD i vi0 = y at *
  cases y with
  | ab n=>rfl
  | al n v=>exact allV_sub hall hs.1
  | va n v=>exact allV_sub hall hs.1
theorem zsN_ok {ys : List VI} (hy : ∀ i,i < ys.length → VOk (meanI (ys.getD i vi0))) (hf : fitL ys) {i : Nat} (hi : i < ys.length) : VOk (meanI (subI (nxtL (ys.take i)) (ys.getD i vi0))):=by
  have h1:=nxtL_ok ys hy hf i (by omega)
  have h2:=mean_sub h1 (hy i hi)
  have h3:=hf i hi
  simp only [fitI,Bool.and_eq_true,decide_eq_true_eq] at h3
  exact ⟨h2.1,h3.1,h3.2⟩
theorem zsN_reads {s : List SigI} {ys : List VI} (hr : ReadsTo s ys) (hf : fitL ys) : ReadsTo ((zsN ys ys.length).map siOf) (zsN ys ys.length):=by
  have hy : ∀ i,i < ys.length → VOk (meanI (ys.getD i vi0)):=fun k hk=>by
    have:=hr.2 k (by rw [← hr.1]; exact hk)
    exact mean_ok this.1 this.2
  refine ⟨by simp,fun i hi=>?_⟩
  have hi' : i < ys.length:=by simpa [zsN_length] using hi
  have e : ((zsN ys ys.length).map siOf).getD i si0 = siOf ((zsN ys ys.length).getD i vi0):=by
    simp [List.getD,zsN,hi']
  have hrl:=hr.2 i (by rw [← hr.1]; exact hi')
  rw [e,zsN_getD ys hi']
  refine ⟨?_,itemOf_of (zsN_ok hy hf hi')⟩
  rw [siOf_name,viK_sub,← siOf_name,← itemOf_si hrl.2]
  exact hrl.1
end Go.Proofs.YtejbjgmgdbcddaaGreatDoor
/- The model's NormalSig. -/
set_option linter.unusedVariables false
set_option linter.unusedSimpArgs false
namespace Go.Proofs.YtejbjgmgdbcddaaGreatDoor
open Go.Abs
theorem rdN_bad {s : List SigI} (h : sigB s = false) : RdN s none:=by
  by_cases h8 : 8 < s.length
  · exact .inl (.inl h8)
  · rcases reads_or s with hb | ⟨ys,hr⟩
    · exact .inl (.inr hb)
    · exact .inr ⟨ys,by omega,hr,.inl (by rw [← sigB_reads (by omega) hr]; exact h)⟩
def sgR (s : List SigI) : AV:=.tuple [.slice (sEs s),.bool true]
def sgN : AV:=.tuple [.slice [],.bool false]
set_option maxRecDepth 100000 in
theorem spec_l2Made (s : List SigI) (hs : s.length ≤ 1048576) (ho : ∀ x ∈ s,x.Ok ∧ sz x.typ ≤ 1048576) (A : List Box) : ACalls Tryz.prog 94 [.slice (sEs s)] A (fun r A'=>r = (if sigB s = true then sgR s else sgN) ∧ A' = A):=by
  refine acalls_enter (cf:=cf 9 [0,2,3,6]) foll Tryz.func94 Tryz.ntmps94 (by simp [cf]) ?_
  simp only [Tryz.f94,EnterK_some,zW,zX,zD,builtinA,isLeaf,const1,ustrA,simprocAttr,ti23,ti41,ca24,cf,Tryz.results94]
  refine callK_intro (by simp only [zW,zX,zD,builtinA,isLeaf,const1,ustrA,simprocAttr,Option.map_some]; rfl) (spec_SigValid s hs ho _) ?_ rfl; rintro v A' ⟨rfl,rfl⟩
  cases hb : sigB s with
  | true =>
    simp only [zW,zX,zD,builtinA,isLeaf,const1,ustrA,simprocAttr,ti23,ti41,ca24,cf,Tryz.results94]
    rfl
  | false =>
    simp only [zW,zX,zD,builtinA,isLeaf,const1,ustrA,simprocAttr,ti23,ti41,ca24,cf,Tryz.results94]
    rfl
def nrR : Option (List VI) → AV
  | some zs=>sgR (zs.map siOf)
  | none=>sgN
theorem take_getD' {ys : List VI} {i k : Nat} (h : k < i) (hi : i ≤ ys.length) : (ys.take i).getD k vi0 = ys.getD k vi0:=by
  simp [List.getD,h]
theorem take_take' {ys : List VI} {i k : Nat} (h : k ≤ i) : (ys.take i).take k = ys.take k:=by
  rw [List.take_take,Nat.min_eq_left h]
theorem nxtL_pre {ys : List VI} (hy : ∀ i,i < ys.length → VOk (meanI (ys.getD i vi0))) {i : Nat} (hf : ∀ k,k < i → fitI (subI (nxtL (ys.take k)) (ys.getD k vi0)) = true) (hi : i ≤ ys.length) : ∀ x ∈ nxtL (ys.take i),VOk x.2:=by
  have h:=nxtL_ok (ys.take i) (fun k hk=>?_) (fun k hk=>?_) i (by simp; omega)
  · rwa [take_take' (Nat.le_refl _)] at h
  · have hk' : k < i:=by simp at hk; omega
    rw [take_getD' hk' hi]; exact hy k (by omega)
  · have hk' : k < i:=by simp at hk; omega
    rw [take_getD' hk' hi,take_take' (by omega)]; exact hf k hk'
theorem fitL_take {ys : List VI} {s : List SigI} (hl : ys.length = s.length) {i : Nat} (hi : i ≤ s.length) (hf : ∀ k,k < i → fitI (subI (nxtL (ys.take k)) (ys.getD k vi0)) = true) : fitL (ys.take i):=by
  intro k hk
  have hk' : k < i:=by simp at hk; omega
  rw [take_getD' hk' (by omega),take_take' (by omega)]; exact hf k hk'
theorem readsTo_take {ys : List VI} {s : List SigI} (h : ReadsTo s ys) {i : Nat} (hi : i ≤ s.length) : ReadsTo (s.take i) (ys.take i):=by
  refine ⟨by simp [h.1],fun k hk=>?_⟩
  have hk' : k < i:=by simp at hk; omega
  have hk2 : k < s.length:=by omega
  have:=h.2 k hk2
  rw [take_getD' hk' (by have:=h.1; omega)]
  have e : (s.take i).getD k si0 = s.getD k si0:=by simp [List.getD,hk']
  rw [e]; exact this
set_option maxRecDepth 100000 in
set_option maxHeartbeats 4000000 in
theorem spec_NormalSig (s : List SigI) (hs : s.length ≤ 1048576) (ho : ∀ x ∈ s,x.Ok ∧ sz x.typ ≤ 1048576) (A : List Box) : ACalls Tryz.prog 65 [.slice (sEs s)] A (fun r A'=>∃ o,RdN s o ∧ r = nrR o ∧ A' = A):=by
  refine acalls_enter (cf:=cf 50 [0,2,3,4,5,8,15,23,44]) foll Tryz.func65 Tryz.ntmps65 (by simp [cf]) ?_
  simp only [Tryz.f65,EnterK_some,zW,zX,zD,builtinA,isLeaf,const1,ustrA,simprocAttr,ti3,ti23,ti32,ti41,ca24,ca25,ca78,ca92,ca93,ca94,cf,Tryz.results65]
  refine callO_intro (spec_SigValid s hs ho _) ?_
  rintro r A' ⟨rfl,hA⟩
  have hA:=hA.symm
  subst hA
  cases hb : sigB s with
  | false =>
    simp only [zW,zX,zD,builtinA,isLeaf,const1,ustrA,simprocAttr,ti3,ti23,ti32,ti41,ca24,ca25,ca78,ca92,ca93,ca94,cf,Tryz.results65]
    exact ⟨none,rdN_bad hb,rfl⟩
  | true =>
    obtain ⟨ys,h8,hr,hord⟩:=sigB_yes hb
    have hys:=hr.1
    have hy : ∀ i,i < ys.length → VOk (meanI (ys.getD i vi0)):=fun k hk=>by
      have:=hr.2 k (by omega)
      exact mean_ok this.1 this.2
    have hnm : ∀ i,i < ys.length → (viK (ys.getD i vi0)).2.length < 2 ^ 63:=fun k hk=>by
      have h1:=hr.2 k (by omega)
      rw [← siOf_name,← itemOf_si h1.2]
      exact (ho _ (si_mem (by omega))).1.1
    have hsi : ∀ i,i < ys.length → s.getD i si0 = siOf (ys.getD i vi0):=fun k hk=>itemOf_si (hr.2 k (by omega)).2
    simp only [zW,zX,zD,builtinA,isLeaf,const1,ustrA,simprocAttr,ti3,ti23,ti32,ti41,ca24,ca25,ca78,ca92,ca93,ca94,cf,Tryz.results65]
    refine callO_intro (spec_l2Copy s hs (fun x hx=>(ho x hx).2) _) ?_
    rintro r A' ⟨B,j,rfl,rfl,hj,hg⟩
    simp only [zW,zX,zD,builtinA,isLeaf,const1,ustrA,simprocAttr,ti3,ti23,ti32,ti41,ca24,ca25,ca78,ca92,ca93,ca94,cf,Tryz.results65]
    refine aloop_intro [0,4,5] (fun e A'=>∃ i B,i ≤ s.length ∧ e = [(0,.slice (sEs s)),(4,.own (A.length + j)),(5,.int .i64 i)] ∧ A' = A ++ B ∧ j < B.length ∧ B.getD j .dead = .row 6 (sEs ((zsN ys i).map siOf ++ s.drop i)) 0 ∧ ∀ k,k < i → fitI (subI (nxtL (ys.take k)) (ys.getD k vi0)) = true) (fun e _=>s.length - (intOf (Abs.look 5 e)).toNat) ?_ ?_
    · simp only [zW,zX,zD,builtinA,isLeaf,const1,ustrA,simprocAttr,ti3,ti23,ti32,ti41,ca24,ca25,ca78,ca92,ca93,ca94,cf,Tryz.results65]
      exact ⟨0,B,by omega,rfl,rfl,hj,by rw [hg]; simp [zsN],fun k hk=>by omega⟩
    · rintro e A' ⟨i,B,hi,rfl,rfl,hj,hg,hfit⟩
      have hzl : ((zsN ys i).map siOf).length = i:=by simp [zsN_length]
      have hrl : (sEs ((zsN ys i).map siOf ++ s.drop i)).length = s.length:=by rw [sEs_length]; simp [zsN_length]; omega
      simp only [zW,zX,zD,builtinA,isLeaf,const1,ustrA,simprocAttr,ti3,ti23,ti32,ti41,ca24,ca25,ca78,ca92,ca93,ca94,cf,Tryz.results65,hg,hj,hrl]
      refine condK_intro (fun h2=>?_) (fun h2=>?_)
      · have hi2 : i < s.length:=by simpa using h2
        have hi1 : IntKind.i64.wrap ((i : Int) + 1) = ((i + 1 : Nat) : Int):=by rw [wrap64 (by omega) (by omega)]; rfl
        have pi : (0 : Int) ≤ (i : Int) ∧ (i : Int) < (s.length : Int):=⟨by omega,by omega⟩
        have he:=sEs_getD hi2
        have hm:=mix_getD hzl hi2
        have hset:=fun x=>mix_set x hzl hi2
        have hzs:=zsN_succ ys i
        have hdr:=mix_drop hi2
        have hit:=(hr.2 i hi2).2
        have hyi:=hy i (by omega)
        have hok:=nxtL_pre hy hfit (Nat.le_of_lt (hys ▸ hi2))
        have hno:=@normL_no ys i (by omega) hfit
        have hln:=nxtL_len ys i (by omega)
        have hrd:=readsTo_take hr hi
        have hB:=fun A=>spec_l2Binds (s.take i) (ys.take i) (by simp; omega) hrd (fitL_take hys hi hfit) A
        rw [← take_sEs] at hB
        have hfi : fitI (subI (nxtL (ys.take i)) (ys.getD i vi0)) = true → ∀ k,k < i + 1 → fitI (subI (nxtL (ys.take k)) (ys.getD k vi0)) = true:=fun h k hk=>by
          rcases Nat.lt_succ_iff_lt_or_eq.mp hk with h1 | rfl
          · exact hfit k h1
          · exact h
        have hnone : fitI (subI (nxtL (ys.take i)) (ys.getD i vi0)) = false → RdN s none:=fun h=>.inr ⟨ys,h8,hr,.inr (hno h)⟩
        have hrl' : (sEs ((zsN ys (i + 1)).map siOf ++ s.drop (i + 1))).length = s.length:=by rw [sEs_length]; simp [zsN_length]; omega
        generalize nxtL (ys.take i) = m at *
        generalize s.getD i si0 = x at *
        obtain ⟨k,n,t⟩:=x
        simp only [sE] at he hm
        generalize ys.getD i vi0 = y at *
        cases y with
        | ab n' =>
          obtain ⟨rfl,rfl,rfl⟩:=hit
          simp only [zW,zX,zD,builtinA,isLeaf,const1,ustrA,simprocAttr,ti3,ti23,ti32,ti41,ca24,ca25,ca78,ca92,ca93,ca94,cf,Tryz.results65,hm,hg,hj,hrl,enc_length]
          refine ⟨pi,?_⟩
          simp only [zW,zX,zD,builtinA,isLeaf,const1,ustrA,simprocAttr,ti3,ti23,ti32,ti41,ca24,ca25,ca78,ca92,ca93,ca94,cf,Tryz.results65,hi1,LoopK_eq]
          refine ⟨⟨i + 1,B,by omega,rfl,rfl,hj,?_,hfi (by simp [subI,fitI,meanI,dep,cnt])⟩,?_⟩
          · rw [hg,hzs,hdr]; simp [siOf,subI]
          · simp only [intOf]; omega
        | al n' v =>
          obtain ⟨rfl,rfl,rfl,hv⟩:=hit
          have hz : sz (toTy v) ≤ 1048576:=by have:=sz_toTyS _ hv.ok; have:=hv.cnt; omega
          have hS:=fun A=>spec_l1Subst (m.map ofB) (by simp; omega) (ofB_sz hok) (toTy v) hz A
          rw [subT_eq,subV_foldB] at hS
          have hsub:=sub_ok m hok v hv.ok
          have hcv:=hv.cnt
          simp only [subI] at hzs hfi hnone
          generalize subV m v = w at *
          have hszw:=sz_toTyS w hsub.1
          have hV:=fun A=>spec_TypeValid (toTy w) (ok_toTyS w hsub.1) (by omega) A
          have hval : validB (toTy w) = fitI (.al n w):=by rw [validB_sub hsub.1]; rfl
          rw [hval] at hV
          have hst:=hset ⟨2,n,toTy w⟩
          simp only [sE] at hst
          simp only [zW,zX,zD,builtinA,isLeaf,const1,ustrA,simprocAttr,ti3,ti23,ti32,ti41,ca24,ca25,ca78,ca92,ca93,ca94,cf,Tryz.results65,hm,hg,hj,hrl,enc_length]
          refine ⟨pi,?_⟩
          refine .inr (drawE_intro [(false,0,2),(false,0,2),(false,0,1),(false,0,1),(false,0,1),(false,0,1),(false,0,1),(false,0,0),(false,0,0),(false,0,0),(true,0,0),(true,1,1),(false,2,2),(false,2,2),(true,2,2)] [A ++ B,A ++ B,A ++ B,A ++ B.set j (.row 6 (sEs ((zsN ys (i + 1)).map siOf ++ s.drop (i + 1))) 0)] 3 rfl (by kernel_rfl) (by kernel_rfl) (by kernel_rfl) (by kernel_rfl) (by kernel_rfl) (by kernel_rfl) ?_)
          simp only [zW,zX,zD,builtinA,isLeaf,const1,ustrA,simprocAttr,ti3,ti23,ti32,ti41,ca24,ca25,ca78,ca92,ca93,ca94,cf,Tryz.results65,he,hm,hg,hj,hrl,sEs_length,enc_length,enc_take,sub_drop,frzL_enc,sub_closed,Option.map_some]
          refine ⟨pi,pi,⟨rows_sEs s,by omega,by omega⟩,?_⟩
          refine callE_intro (by simp only [zW,zX,zD,builtinA,isLeaf,const1,ustrA,simprocAttr,Option.map_some] <;> rfl) (hB _) ?_ rfl rfl
          simp only [zW,zX,zD,builtinA,isLeaf,const1,ustrA,simprocAttr,ti3,ti23,ti32,ti41,ca24,ca25,ca78,ca92,ca93,ca94,cf,Tryz.results65,he,hm,hg,hj,hrl,sEs_length,enc_length,enc_take,sub_drop,frzL_enc,sub_closed,Option.map_some]
          refine callE_intro (by simp only [zW,zX,zD,builtinA,isLeaf,const1,ustrA,simprocAttr,enc_length,enc_take,sub_drop,frzL_enc,sub_closed,Option.map_some] <;> rfl) (hS _) ?_ rfl rfl
          simp only [zW,zX,zD,builtinA,isLeaf,const1,ustrA,simprocAttr,ti3,ti23,ti32,ti41,ca24,ca25,ca78,ca92,ca93,ca94,cf,Tryz.results65,he,hm,hg,hj,hrl,hst,sEs_length,enc_length,enc_take,sub_drop,frzL_enc,sub_closed,Option.map_some]
          have hbx : sEs ((zsN ys i).map siOf ++ ⟨2,n,toTy w⟩ :: s.drop (i + 1)) = sEs ((zsN ys (i + 1)).map siOf ++ s.drop (i + 1)):=by rw [hzs]; simp [siOf]
          have hm2 : (sEs ((zsN ys (i + 1)).map siOf ++ s.drop (i + 1))).getD i [] = .int .i64 2 :: .str n :: enc (toTy w):=by
            rw [← hbx,sEs_app,Abs.getD_append_right (by rw [sEs_length]; omega),sEs_length,hzl,Nat.sub_self]
            rfl
          refine ⟨pi,⟨by omega,by omega,fun v hv=>enc_leaf _ v hv⟩,by rw [hbx],?_⟩
          have hgj : ∀ X : Box,(B.set j X).getD j .dead = X:=fun X=>getD_set_self hj
          simp only [zW,zX,zD,builtinA,isLeaf,const1,ustrA,simprocAttr,ti3,ti23,ti32,ti41,ca24,ca25,ca78,ca92,ca93,ca94,cf,Tryz.results65,hgj,hj,hrl',hm2,enc_length,enc_take,sub_drop,frzL_enc,sub_closed,Option.map_some]
          refine ⟨⟨by omega,by rw [sEs_length,List.length_append] at hrl'; omega⟩,?_⟩
          refine callK_intro (by simp only [zW,zX,zD,builtinA,isLeaf,const1,ustrA,simprocAttr,enc_length,enc_take,sub_drop,frzL_enc,sub_closed,Option.map_some]; rfl) (hV _) ?_ rfl; rintro v A' ⟨rfl,rfl⟩
          cases hf : fitI (.al n w) with
          | false =>
            simp only [zW,zX,zD,builtinA,isLeaf,const1,ustrA,simprocAttr,ti3,ti23,ti32,ti41,ca24,ca25,ca78,ca92,ca93,ca94,cf,Tryz.results65]
            exact ⟨none,hnone hf,rfl⟩
          | true =>
            simp only [zW,zX,zD,builtinA,isLeaf,const1,ustrA,simprocAttr,ti3,ti23,ti32,ti41,ca24,ca25,ca78,ca92,ca93,ca94,cf,Tryz.results65,hi1,LoopK_eq]
            refine ⟨⟨i + 1,B.set j _,by omega,rfl,rfl,by simpa using hj,hgj _,hfi hf⟩,?_⟩
            simp only [intOf]; omega
        | va n' v =>
          obtain ⟨rfl,rfl,rfl,hv⟩:=hit
          have hz : sz (toTy v) ≤ 1048576:=by have:=sz_toTyS _ hv.ok; have:=hv.cnt; omega
          have hS:=fun A=>spec_l1Subst (m.map ofB) (by simp; omega) (ofB_sz hok) (toTy v) hz A
          rw [subT_eq,subV_foldB] at hS
          have hsub:=sub_ok m hok v hv.ok
          have hcv:=hv.cnt
          simp only [subI] at hzs hfi hnone
          generalize subV m v = w at *
          have hszw:=sz_toTyS w hsub.1
          have hV:=fun A=>spec_TypeValid (toTy w) (ok_toTyS w hsub.1) (by omega) A
          have hval : validB (toTy w) = fitI (.va n w):=by rw [validB_sub hsub.1]; rfl
          rw [hval] at hV
          have hst:=hset ⟨3,n,toTy w⟩
          simp only [sE] at hst
          simp only [zW,zX,zD,builtinA,isLeaf,const1,ustrA,simprocAttr,ti3,ti23,ti32,ti41,ca24,ca25,ca78,ca92,ca93,ca94,cf,Tryz.results65,hm,hg,hj,hrl,enc_length]
          refine ⟨pi,?_⟩
          refine .inr (drawE_intro [(false,0,2),(false,0,2),(false,0,1),(false,0,1),(false,0,1),(false,0,1),(false,0,1),(false,0,0),(false,0,0),(false,0,0),(true,0,0),(true,1,1),(false,2,2),(false,2,2),(true,2,2)] [A ++ B,A ++ B,A ++ B,A ++ B.set j (.row 6 (sEs ((zsN ys (i + 1)).map siOf ++ s.drop (i + 1))) 0)] 3 rfl (by kernel_rfl) (by kernel_rfl) (by kernel_rfl) (by kernel_rfl) (by kernel_rfl) (by kernel_rfl) ?_)
          simp only [zW,zX,zD,builtinA,isLeaf,const1,ustrA,simprocAttr,ti3,ti23,ti32,ti41,ca24,ca25,ca78,ca92,ca93,ca94,cf,Tryz.results65,he,hm,hg,hj,hrl,sEs_length,enc_length,enc_take,sub_drop,frzL_enc,sub_closed,Option.map_some]
          refine ⟨pi,pi,⟨rows_sEs s,by omega,by omega⟩,?_⟩
          refine callE_intro (by simp only [zW,zX,zD,builtinA,isLeaf,const1,ustrA,simprocAttr,Option.map_some] <;> rfl) (hB _) ?_ rfl rfl
          simp only [zW,zX,zD,builtinA,isLeaf,const1,ustrA,simprocAttr,ti3,ti23,ti32,ti41,ca24,ca25,ca78,ca92,ca93,ca94,cf,Tryz.results65,he,hm,hg,hj,hrl,sEs_length,enc_length,enc_take,sub_drop,frzL_enc,sub_closed,Option.map_some]
          refine callE_intro (by simp only [zW,zX,zD,builtinA,isLeaf,const1,ustrA,simprocAttr,enc_length,enc_take,sub_drop,frzL_enc,sub_closed,Option.map_some] <;> rfl) (hS _) ?_ rfl rfl
          simp only [zW,zX,zD,builtinA,isLeaf,const1,ustrA,simprocAttr,ti3,ti23,ti32,ti41,ca24,ca25,ca78,ca92,ca93,ca94,cf,Tryz.results65,he,hm,hg,hj,hrl,hst,sEs_length,enc_length,enc_take,sub_drop,frzL_enc,sub_closed,Option.map_some]
          have hbx : sEs ((zsN ys i).map siOf ++ ⟨3,n,toTy w⟩ :: s.drop (i + 1)) = sEs ((zsN ys (i + 1)).map siOf ++ s.drop (i + 1)):=by rw [hzs]; simp [siOf]
          have hm2 : (sEs ((zsN ys (i + 1)).map siOf ++ s.drop (i + 1))).getD i [] = .int .i64 3 :: .str n :: enc (toTy w):=by
            rw [← hbx,sEs_app,Abs.getD_append_right (by rw [sEs_length]; omega),sEs_length,hzl,Nat.sub_self]
            rfl
          refine ⟨pi,⟨by omega,by omega,fun v hv=>enc_leaf _ v hv⟩,by rw [hbx],?_⟩
          have hgj : ∀ X : Box,(B.set j X).getD j .dead = X:=fun X=>getD_set_self hj
          simp only [zW,zX,zD,builtinA,isLeaf,const1,ustrA,simprocAttr,ti3,ti23,ti32,ti41,ca24,ca25,ca78,ca92,ca93,ca94,cf,Tryz.results65,hgj,hj,hrl',hm2,enc_length,enc_take,sub_drop,frzL_enc,sub_closed,Option.map_some]
          refine ⟨⟨by omega,by rw [sEs_length,List.length_append] at hrl'; omega⟩,?_⟩
          refine callK_intro (by simp only [zW,zX,zD,builtinA,isLeaf,const1,ustrA,simprocAttr,enc_length,enc_take,sub_drop,frzL_enc,sub_closed,Option.map_some]; rfl) (hV _) ?_ rfl; rintro v A' ⟨rfl,rfl⟩
          cases hf : fitI (.va n w) with
          | false =>
            simp only [zW,zX,zD,builtinA,isLeaf,const1,ustrA,simprocAttr,ti3,ti23,ti32,ti41,ca24,ca25,ca78,ca92,ca93,ca94,cf,Tryz.results65]
            exact ⟨none,hnone hf,rfl⟩
          | true =>
            simp only [zW,zX,zD,builtinA,isLeaf,const1,ustrA,simprocAttr,ti3,ti23,ti32,ti41,ca24,ca25,ca78,ca92,ca93,ca94,cf,Tryz.results65,hi1,LoopK_eq]
            refine ⟨⟨i + 1,B.set j _,by omega,rfl,rfl,by simpa using hj,hgj _,hfi hf⟩,?_⟩
            simp only [intOf]; omega
      · have hi2 : i = s.length:=by simp at h2; omega
        subst hi2
        have hfl : fitL ys:=fun k hk=>hfit k (by omega)
        have hzr:=zsN_reads hr hfl
        have hzo:=ordB_norm hord
        have hsg : sigB ((zsN ys ys.length).map siOf) = true:=by rw [sigB_reads (by simp [zsN_length]; omega) hzr]; exact hzo
        have hzk : ∀ x ∈ (zsN ys ys.length).map siOf,x.Ok ∧ sz x.typ ≤ 1048576:=fun x hx=>by
          obtain ⟨y,hy1,rfl⟩:=List.mem_map.1 hx
          obtain ⟨k,hk,rfl⟩:=List.mem_iff_getElem.1 hy1
          rw [zsN_length] at hk
          have e : (zsN ys ys.length)[k] = subI (nxtL (ys.take k)) (ys.getD k vi0):=by
            rw [← zsN_getD ys hk]; simp [List.getD,zsN_length,hk]
          rw [e]
          exact siOf_ok (zsN_ok hy hfl hk) (by rw [viK_sub]; exact hnm k hk)
        have hM:=fun A=>spec_l2Made ((zsN ys ys.length).map siOf) (by simp [zsN_length]; omega) hzk A
        rw [List.drop_length,List.append_nil,← hys] at hg
        have h1 : (A ++ B).getD (A.length + j) .dead = .row 6 (sEs ((zsN ys ys.length).map siOf)) 0:=by
          rw [Abs.getD_append_right (by omega),show A.length + j - A.length = j by omega]; exact hg
        have hfz : frzs [.own (A.length + j)] (A ++ B) = some ([.slice (sEs ((zsN ys ys.length).map siOf))],A ++ B.set j (.row 6 (sEs ((zsN ys ys.length).map siOf)) (sEs ((zsN ys ys.length).map siOf)).length)):=by
          have h2 : (A ++ B).set (A.length + j) (.row 6 (sEs ((zsN ys ys.length).map siOf)) (sEs ((zsN ys ys.length).map siOf)).length) = A ++ B.set j (.row 6 (sEs ((zsN ys ys.length).map siOf)) (sEs ((zsN ys ys.length).map siOf)).length):=by simp [List.set_append]
          simp only [frzs,frzC,frz1,h1,h2]
        simp only [zW,zX,zD,builtinA,isLeaf,const1,ustrA,simprocAttr,ti3,ti23,ti32,ti41,ca24,ca25,ca78,ca92,ca93,ca94,cf,Tryz.results65]
        refine callK_intro hfz (hM _) ?_ rfl
        rintro r A' ⟨rfl,rfl⟩
        rw [if_pos hsg]
        simp only [sgR]
        simp only [zW,zX,zD,builtinA,isLeaf,const1,ustrA,simprocAttr,ti3,ti23,ti32,ti41,ca24,ca25,ca78,ca92,ca93,ca94,cf,Tryz.results65]
        exact ⟨some (zsN ys ys.length),⟨ys,h8,hr,hord,normL_yes hfl⟩,rfl⟩
end Go.Proofs.YtejbjgmgdbcddaaGreatDoor
/- Marks that the laws write into what is owned. -/
set_option linter.unusedVariables false
set_option linter.unusedSimpArgs false
namespace Go.Proofs.YtejbjgmgdbcddaaGreatDoor
open Go.Abs
theorem OwnR.append {A : List Box} : ∀ {k1 k2 : List Ty} {r1 r2 : List (List AV)} {S1 S2 : List Nat},OwnR A k1 r1 S1 → OwnR A k2 r2 S2 → OwnR A (k1 ++ k2) (r1 ++ r2) (S1 ++ S2)
  | [],k2,r1,r2,S1,S2,h1,h2=>by
    rw [OwnR] at h1
    rw [h1.1,h1.2]; exact h2
  | t :: k1,k2,r1,r2,S1,S2,h1,h2=>by
    rw [OwnR] at h1
    obtain ⟨r,r',T1,T2,rfl,rfl,h3,h4⟩:=h1
    rw [List.cons_append,OwnR]
    exact ⟨r,r' ++ r2,T1,T2 ++ S2,by simp,by simp,h3,OwnR.append h4 h2⟩
theorem borrow0 {P : Program} {f : FuncId} {args args' : List AV} {A : List Box} {x : AV} (hv : Views A args args') (hx : ifree x = true) (h : ∀ A,ACalls P f args' A (fun v A'=>v = x ∧ A' = A)) : ACalls P f args A (fun v A'=>v = x ∧ A' = A) :=
  ACalls.borrow hv ((h _).mono fun v A' ⟨h1,h2⟩=>⟨[],by rw [h2,List.append_nil],by rw [h1]; exact hx,by simp,h1,by simp⟩)
end Go.Proofs.YtejbjgmgdbcddaaGreatDoor
/- A law's argument, a type, as memory of its own. -/
set_option linter.unusedVariables false
set_option linter.unusedSimpArgs false
namespace Go.Proofs.YtejbjgmgdbcddaaGreatDoor
open Go.Abs
theorem getD_repl {α : Type} {n i : Nat} {x d : α} (h : i < n) : (List.replicate n x).getD i d = x:=by simp [List.getD,h]
end Go.Proofs.YtejbjgmgdbcddaaGreatDoor
/- What is owned holds no place of other memory. -/
set_option linter.unusedVariables false
set_option linter.unusedSimpArgs false
namespace Go.Proofs.YtejbjgmgdbcddaaGreatDoor
open Go.Abs
mutual
theorem OwnT.free {A : List Box} : ∀ {t : Ty} {r : List AV} {S : List Nat},OwnT A t r S → ifrees r = true ∧ ∀ i ∈ S,ifreeB (A.getD i .dead) = true
  | .mk k m n ks,r,S,h=>by
    rw [OwnT] at h
    obtain ⟨v,rfl,h⟩:=h
    rcases h with ⟨rfl,_,rfl⟩ | ⟨rfl,_,rfl⟩ | ⟨i,rows,S',rfl,rfl,h3,h4⟩
    · exact ⟨by simp [ifrees,ifree],by simp⟩
    · exact ⟨by simp [ifrees,ifree],by simp⟩
    · refine ⟨by simp [ifrees,ifree],fun j hj=>?_⟩
      have h5:=OwnR.free h4
      rcases List.mem_cons.1 hj with rfl | hj
      · rw [h3]; exact h5.1
      · exact h5.2 j hj
theorem OwnR.free {A : List Box} : ∀ {ks : List Ty} {rows : List (List AV)} {S : List Nat},OwnR A ks rows S → rows.all ifrees = true ∧ ∀ i ∈ S,ifreeB (A.getD i .dead) = true
  | [],rows,S,h=>by rw [OwnR] at h; rw [h.1,h.2]; exact ⟨rfl,by simp⟩
  | t :: ks,rows,S,h=>by
    rw [OwnR] at h
    obtain ⟨r,rows',S1,S2,rfl,rfl,h3,h4⟩:=h
    have a:=OwnT.free h3
    have b:=OwnR.free h4
    refine ⟨by rw [List.all_cons,a.1,b.1]; rfl,fun j hj=>?_⟩
    rcases List.mem_append.1 hj with hj | hj
    · exact a.2 j hj
    · exact b.2 j hj
end
end Go.Proofs.YtejbjgmgdbcddaaGreatDoor
/- Lists of bindings as memory of their own. -/
set_option linter.unusedVariables false
set_option linter.unusedSimpArgs false
namespace Go.Proofs.YtejbjgmgdbcddaaGreatDoor
open Go.Abs
def bRow (b : BdI) (v : AV) : List AV:=[.str b.mod,.str b.name,.int .i64 b.typ.kind,.str b.typ.mod,.str b.typ.name,v]
def OwnB (A : List Box) : List BdI → List (List AV) → List Nat → Prop
  | [],rows,S=>rows = [] ∧ S = []
  | b :: bs,rows,S=>∃ v rows' S1 S2,rows = bRow b v :: rows' ∧ S = S1 ++ S2 ∧ OwnK A b.typ.kids v S1 ∧ OwnB A bs rows' S2
theorem OwnB.frame {A A' : List Box} : ∀ {bs : List BdI} {rows : List (List AV)} {S : List Nat},OwnB A bs rows S → (∀ i ∈ S,A'.getD i .dead = A.getD i .dead) → OwnB A' bs rows S
  | [],rows,S,h,hf=>h
  | b :: bs,rows,S,h,hf=>by
    rw [OwnB] at h ⊢
    obtain ⟨v,rows',S1,S2,h1,rfl,h3,h4⟩:=h
    exact ⟨v,rows',S1,S2,h1,rfl,h3.frame fun j hj=>hf j (by simp [hj]),OwnB.frame h4 fun j hj=>hf j (by simp [hj])⟩
theorem OwnB.length {A : List Box} : ∀ {bs : List BdI} {rows : List (List AV)} {S : List Nat},OwnB A bs rows S → rows.length = bs.length
  | [],rows,S,h=>by rw [OwnB] at h; rw [h.1]; rfl
  | b :: bs,rows,S,h=>by
    rw [OwnB] at h
    obtain ⟨v,rows',S1,S2,rfl,h2,h3,h4⟩:=h
    simp [OwnB.length h4]
theorem OwnB.low {A : List Box} : ∀ {bs : List BdI} {rows : List (List AV)} {S : List Nat},OwnB A bs rows S → ∀ i ∈ S,i < A.length
  | [],rows,S,h=>by rw [OwnB] at h; rw [h.2]; simp
  | b :: bs,rows,S,h=>by
    rw [OwnB] at h
    obtain ⟨v,rows',S1,S2,h1,rfl,h3,h4⟩:=h
    intro j hj
    rcases List.mem_append.1 hj with hj | hj
    · exact h3.low j hj
    · exact OwnB.low h4 j hj
theorem OwnB.append {A : List Box} : ∀ {k1 k2 : List BdI} {r1 r2 : List (List AV)} {S1 S2 : List Nat},OwnB A k1 r1 S1 → OwnB A k2 r2 S2 → OwnB A (k1 ++ k2) (r1 ++ r2) (S1 ++ S2)
  | [],k2,r1,r2,S1,S2,h1,h2=>by
    rw [OwnB] at h1
    rw [h1.1,h1.2]; exact h2
  | t :: k1,k2,r1,r2,S1,S2,h1,h2=>by
    rw [OwnB] at h1
    obtain ⟨v,r',T1,T2,rfl,rfl,h3,h4⟩:=h1
    rw [List.cons_append,OwnB]
    exact ⟨v,r' ++ r2,T1,T2 ++ S2,by simp,by simp,h3,OwnB.append h4 h2⟩
theorem OwnB.view {A : List Box} : ∀ {bs : List BdI} {rows : List (List AV)} {S : List Nat},OwnB A bs rows S → ∀ k,k < rows.length → ∀ j,j < 6 → View A ((rows.getD k []).getD j .bot) ((bE (bs.getD k bd0)).getD j .bot)
  | [],rows,S,h=>by rw [OwnB] at h; rw [h.1]; intro k hk; simp at hk
  | b :: bs,rows,S,h=>by
    rw [OwnB] at h
    obtain ⟨v,rows',S1,S2,rfl,h2,h3,h4⟩:=h
    intro k hk j hj
    cases k with
    | zero =>
      have hv:=h3.view
      match j,hj with
      | 0,_=>exact .leaf _ rfl
      | 1,_=>exact .leaf _ rfl
      | 2,_=>exact .leaf _ rfl
      | 3,_=>exact .leaf _ rfl
      | 4,_=>exact .leaf _ rfl
      | 5,_=>exact hv
    | succ k =>
      have:=OwnB.view h4 k (by simpa using hk) j hj
      simpa using this
end Go.Proofs.YtejbjgmgdbcddaaGreatDoor
