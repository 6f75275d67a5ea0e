/- SigNorm, SigRdN. -/
import Derived.Test.YtngheinmebopeaaGreatDoorK04
import Derived.Test.YtngheinmebopeaaGreatDoorAbsW3
/- The program's normal signatures. -/
set_option linter.unusedVariables false
set_option linter.unusedSimpArgs false
namespace Go.Proofs.YtngheinmebopeaaGreatDoor
open Go.Abs
def meanI : VI → VT
  | .ab n=>.nm [] n
  | .al _ v=>v
  | .va _ v=>v
def subI (m : List (BNm × VT)) : VI → VI
  | .ab n=>.ab n
  | .al n v=>.al n (subV m v)
  | .va n v=>.va n (subV m v)
def clN (c : Nat) : AV:=.func (.func 73) [] [.ptr c 0]
set_option maxRecDepth 100000 in
theorem norm_cl (m : List (BNm × VT)) (v : VT) (c i : Nat) (A : List Box) (hc : c < A.length) (hi : i < A.length) (hAc : A.getD c .dead = .cells [.map i]) (hA : A.getD i .dead = .mapb (esB m)) :
    ACalls Tryz.prog 73 [.iface (vT v) (vX v),.ptr c 0] A (fun r A'=>r = .iface (vT (subV m v)) (vX (subV m v)) ∧ A' = A):=by
  refine acalls_enter (cf:=cf 7 [0,1,3]) foll Tryz.func73 Tryz.ntmps73 (by simp [cf]) ?_
  simp only [Tryz.f73,EnterK_some,zW,zX,zD,builtinA,isLeaf,const1,ustrA,simprocAttr,ti100,cf,Tryz.results73]
  simp only [zW,zX,zD,builtinA,isLeaf,const1,ustrA,simprocAttr,ti100,cf,Tryz.results73,hAc]
  refine wpO_invoke _ _ _ _ _ _ _ _ _ _ _ _ _ _ _ _ ?_
  simp only [zW,zX,zD,builtinA,isLeaf,const1,ustrA,simprocAttr,ti100,cf,Tryz.results73]
  refine meth_invK (met3 (by kernel_rfl) (by kernel_rfl) (by kernel_rfl) (by kernel_rfl) (by kernel_rfl) (by kernel_rfl)) (subM m v A i hi hA) rfl (fun _=>rfl) ?_
  rintro r A' ⟨rfl,rfl⟩
  simp only [zW,zX,zD,builtinA,isLeaf,const1,ustrA,simprocAttr,ti100,cf,Tryz.results73]
def RetI (m : List (BNm × VT)) (y : VI) : Prop:=∀ (c i : Nat) (A : List Box),c < A.length → i < A.length → A.getD c .dead = .cells [.map i] → A.getD i .dead = .mapb (esB m) →
  ACalls Tryz.prog ((pickI 147 153 159) y) [viX y,clN c] A (fun r A'=>r = .iface (viT (subI m y)) (viX (subI m y)) ∧ A' = A)
set_option maxRecDepth 100000 in
theorem ab_ret (m : List (BNm × VT)) (n : List UInt8) : RetI m (.ab n):=fun c i A hc hi hAc hA=>by
  show ACalls Tryz.prog 147 _ _ _
  rw [viX,clN]
  refine acalls_enter (cf:=cf 7 [0,2,4]) foll Tryz.func147 Tryz.ntmps147 (by simp [cf]) ?_
  simp only [Tryz.f147,EnterK_some,zW,zX,zD,builtinA,isLeaf,const1,ustrA,simprocAttr,ti151,cf,Tryz.results147]
  rfl
set_option maxRecDepth 100000 in
theorem al_ret (m : List (BNm × VT)) (n : List UInt8) (v : VT) : RetI m (.al n v):=fun c i A hc hi hAc hA=>by
  show ACalls Tryz.prog 153 _ _ _
  have h:=norm_cl m v c i (A ++ [.cells [.str n,.iface (vT v) (vX v)]]) (by simp; omega) (by simp; omega) (by rw [Abs.getD_append_left hc]; exact hAc) (by rw [Abs.getD_append_left hi]; exact hA)
  rw [viX,clN]
  refine acalls_enter (cf:=cf 13 [0,1,2,4]) foll Tryz.func153 Tryz.ntmps153 (by simp [cf]) ?_
  simp only [Tryz.f153,EnterK_some,zW,zX,zD,builtinA,isLeaf,const1,ustrA,simprocAttr,ti9,ti126,ti158,cf,Tryz.results153]
  refine .inl ⟨by kernel_rfl,by kernel_rfl,?_⟩
  refine wpD_callv _ _ _ _ _ _ _ _ _ _ _ _ _ _ _ ?_
  simp only [zW,zX,zD,builtinA,isLeaf,const1,ustrA,simprocAttr,ti9,ti126,ti158,cf,Tryz.results153]
  refine ⟨by kernel_rfl,?_⟩
  refine callD_intro (by simp only [zW,zX,zD,builtinA,isLeaf,const1,ustrA,simprocAttr,Option.map_some,List.nil_append,List.append_nil,List.cons_append] <;> rfl) (h) ?_ rfl
  simp only [zW,zX,zD,builtinA,isLeaf,const1,ustrA,simprocAttr,ti9,ti126,ti158,cf,Tryz.results153]
  rfl
set_option maxRecDepth 100000 in
theorem va_ret (m : List (BNm × VT)) (n : List UInt8) (v : VT) : RetI m (.va n v):=fun c i A hc hi hAc hA=>by
  show ACalls Tryz.prog 159 _ _ _
  have h:=norm_cl m v c i (A ++ [.cells [.str n,.iface (vT v) (vX v)]]) (by simp; omega) (by simp; omega) (by rw [Abs.getD_append_left hc]; exact hAc) (by rw [Abs.getD_append_left hi]; exact hA)
  rw [viX,clN]
  refine acalls_enter (cf:=cf 13 [0,1,2,4]) foll Tryz.func159 Tryz.ntmps159 (by simp [cf]) ?_
  simp only [Tryz.f159,EnterK_some,zW,zX,zD,builtinA,isLeaf,const1,ustrA,simprocAttr,ti9,ti126,ti159,cf,Tryz.results159]
  refine .inl ⟨by kernel_rfl,by kernel_rfl,?_⟩
  refine wpD_callv _ _ _ _ _ _ _ _ _ _ _ _ _ _ _ ?_
  simp only [zW,zX,zD,builtinA,isLeaf,const1,ustrA,simprocAttr,ti9,ti126,ti159,cf,Tryz.results159]
  refine ⟨by kernel_rfl,?_⟩
  refine callD_intro (by simp only [zW,zX,zD,builtinA,isLeaf,const1,ustrA,simprocAttr,Option.map_some,List.nil_append,List.append_nil,List.cons_append] <;> rfl) (h) ?_ rfl
  simp only [zW,zX,zD,builtinA,isLeaf,const1,ustrA,simprocAttr,ti9,ti126,ti159,cf,Tryz.results159]
  rfl
theorem retI (m : List (BNm × VT)) : ∀ y,RetI m y
  | .ab n=>ab_ret m n
  | .al n v=>al_ret m n v
  | .va n v=>va_ret m n v
set_option maxRecDepth 100000 in
theorem ab_mean (n : List UInt8) (A : List Box) : ACalls Tryz.prog 145 [viX (.ab n)] A (fun r A'=>r = .iface (vT (meanI (.ab n))) (vX (meanI (.ab n))) ∧ A' = A):=by
  rw [viX]
  refine acalls_enter (cf:=cf 7 [0,1,2]) foll Tryz.func145 Tryz.ntmps145 (by simp [cf]) ?_
  simp only [Tryz.f145,EnterK_some,zW,zX,zD,builtinA,isLeaf,const1,ustrA,simprocAttr,ti9,ti132,ti151,cf,Tryz.results145]
  rfl
set_option maxRecDepth 100000 in
theorem al_mean (n : List UInt8) (v : VT) (A : List Box) : ACalls Tryz.prog 151 [viX (.al n v)] A (fun r A'=>r = .iface (vT (meanI (.al n v))) (vX (meanI (.al n v))) ∧ A' = A):=by
  rw [viX]
  refine acalls_enter (cf:=cf 5 [0,1,2]) foll Tryz.func151 Tryz.ntmps151 (by simp [cf]) ?_
  simp only [Tryz.f151,EnterK_some,zW,zX,zD,builtinA,isLeaf,const1,ustrA,simprocAttr,ti126,ti158,cf,Tryz.results151]
  rfl
set_option maxRecDepth 100000 in
theorem va_mean (n : List UInt8) (v : VT) (A : List Box) : ACalls Tryz.prog 157 [viX (.va n v)] A (fun r A'=>r = .iface (vT (meanI (.va n v))) (vX (meanI (.va n v))) ∧ A' = A):=by
  rw [viX]
  refine acalls_enter (cf:=cf 5 [0,1,2]) foll Tryz.func157 Tryz.ntmps157 (by simp [cf]) ?_
  simp only [Tryz.f157,EnterK_some,zW,zX,zD,builtinA,isLeaf,const1,ustrA,simprocAttr,ti126,ti159,cf,Tryz.results157]
  rfl
theorem meanIf (y : VI) (A : List Box) : ACalls Tryz.prog ((pickI 145 151 157) y) [viX y] A (fun r A'=>r = .iface (vT (meanI y)) (vX (meanI y)) ∧ A' = A):=by
  cases y with
  | ab n=>exact ab_mean n A
  | al n v=>exact al_mean n v A
  | va n v=>exact va_mean n v A
def nxtM (m : List (BNm × VT)) : VI → List (BNm × VT)
  | .ab n=>m ++ [(([],n),.nm [] n)]
  | .al n v=>m ++ [(([],n),subV m v)]
  | .va _ _=>m
def fitI (y : VI) : Bool:=decide (dep (meanI y) ≤ 8) && decide (cnt (meanI y) ≤ 63)
def normL : List (BNm × VT) → List VI → Option (List VI)
  | _,[]=>some []
  | m,y :: ys=>if fitI (subI m y) = true then (normL (nxtM m y) ys).map (subI m y :: ·) else none
theorem vi_drop {l : List VI} {i : Nat} (h : i < l.length) : l.drop i = l.getD i vi0 :: l.drop (i + 1):=by
  have : l.getD i vi0 = l[i]:=by simp [List.getD,h]
  rw [this,List.getElem_cons_drop h]
def KnM (m : List (BNm × VT)) (zs : List VI) : Prop:=(∀ x ∈ m,VOk x.2) ∧ ∀ x ∈ m,x.1.1 = [] ∧ (false,x.1.2) ∈ zs.map viK
theorem look_mem {q : BNm} : ∀ {m : List (BNm × VT)},lookB q m ≠ none → ∃ x ∈ m,x.1 = q
  | [],h=>absurd rfl h
  | (p,v) :: m,h=>by
    rw [lookB] at h
    by_cases e : q = p
    · exact ⟨(p,v),by simp,e.symm⟩
    · rw [if_neg e] at h
      obtain ⟨x,hx,h2⟩:=look_mem h
      exact ⟨x,List.mem_cons_of_mem _ hx,h2⟩
theorem mean_sub {m : List (BNm × VT)} (hm : ∀ x ∈ m,VOk x.2) {y : VI} (hy : VOk (meanI y)) : okV (meanI (subI m y)) = true ∧ dep (meanI (subI m y)) ≤ 16 ∧ cnt (meanI (subI m y)) ≤ 3969:=by
  have h1:=hy.dep
  have h2:=hy.cnt
  cases y with
  | ab n=>exact ⟨hy.ok,by simp only [subI,meanI] at *; omega,by simp only [subI,meanI] at *; omega⟩
  | al n v =>
    have:=sub_ok m hm v hy.ok
    exact ⟨this.1,by simp only [subI,meanI] at *; omega,by simp only [subI,meanI] at *; omega⟩
  | va n v =>
    have:=sub_ok m hm v hy.ok
    exact ⟨this.1,by simp only [subI,meanI] at *; omega,by simp only [subI,meanI] at *; omega⟩
theorem upd_noneB (m : List (BNm × VT)) (q : BNm) (v : VT) : updA none (bkE q) (.iface (vT v) (vX v)) (esB m) = esB (m ++ [(q,v)]):=by
  simp [updA,esB]
theorem viK_sub (m : List (BNm × VT)) (y : VI) : viK (subI m y) = viK y:=by cases y <;> rfl
set_option maxRecDepth 100000 in
set_option maxHeartbeats 4000000 in
theorem impl_normal (ys : List VI) (hl : ys.length ≤ 1000) (ho : ∀ k,k < ys.length → VOk (meanI (ys.getD k vi0))) (hord : ordB ys = true) (A : List Box) :
    ACalls Tryz.prog 40 [.slice (vRows ys)] A (fun r A'=>∃ B,A' = A ++ B ∧ ((∃ zs j,normL [] ys = some zs ∧ r = .tuple [.own (A.length + j),.bool true] ∧ j < B.length ∧ B.getD j .dead = .row 1 (vRows zs) 0) ∨ (normL [] ys = none ∧ r = .tuple [.nils,.bool false]))):=by
  refine acalls_enterK (cf:=cf 44 [0,2,3,4,5,6,7,8,13,14,15,16,26,31]) foll Tryz.func40 Tryz.ntmps40 (by simp [cf]) ?_
  simp only [Tryz.f40,EnterK_some,zW,zX,zD,builtinA,isLeaf,const1,ustrA,simprocAttr,ti3,ti4,ti9,ti38,ti42,ti100,ti104,ti132,ca74,mi100,cf,Tryz.results40]
  simp only [zW,zX,zD,builtinA,isLeaf,const1,ustrA,simprocAttr,ti3,ti4,ti9,ti38,ti42,ti100,ti104,ti132,ca74,mi100,cf,Tryz.results40,vRows_length]
  refine ⟨⟨by omega,by omega,by omega⟩,?_⟩
  refine aloop_intro [4,5,13,14,15] (fun e A'=>∃ i m zs B,i ≤ ys.length ∧ zs.length = i ∧ KnM m (ys.take i) ∧ normL [] ys = (normL m (ys.drop i)).map (zs ++ ·) ∧ e = [(4,.ptr (A.length + 1) 0),(5,.own (A.length + 2)),(13,.slice (vRows ys)),(14,.int .i64 ys.length),(15,.int .i64 i)] ∧ A' = A ++ (.mapb (esB m) :: .cells [.map A.length] :: .row 1 (vRows zs ++ List.replicate (ys.length - i) [.nili]) 0 :: B)) (fun e _=>ys.length - (intOf (Abs.look 15 e)).toNat) ?_ ?_
  · simp only [zW,zX,zD,builtinA,isLeaf,const1,ustrA,simprocAttr,ti3,ti4,ti9,ti38,ti42,ti100,ti104,ti132,ca74,mi100,cf,Tryz.results40]
    exact ⟨0,[],[],[],by omega,rfl,⟨by simp,by simp⟩,by simp,rfl,by simp [vRows,esB]⟩
  · rintro e A' ⟨i,m,zs,B,hi,hzl,⟨hm1,hm2⟩,hq,rfl,rfl⟩
    by_cases hlt : i < ys.length
    · have d2 : decide ((i : Int) < (ys.length : Int)) = true:=by simp; omega
      have hlt' : 0 ≤ (i : Int) ∧ (i : Int) < (ys.length : Int):=by omega
      have hg:=vRows_getD hlt
      have hi1 : IntKind.i64.wrap ((i : Int) + 1) = ((i + 1 : Nat) : Int):=by rw [wrap64 (by omega) (by omega)]; rfl
      have hoy:=ho i hlt
      rw [vi_drop hlt] at hq
      generalize hyv : ys.getD i vi0 = y at *
      rw [vRow] at hg
      have hret:=retI m y (A.length + 1) A.length
      simp only [zW,zX,zD,builtinA,isLeaf,const1,ustrA,simprocAttr,ti3,ti4,ti9,ti38,ti42,ti100,ti104,ti132,ca74,mi100,cf,Tryz.results40,vRows_length,d2,hg]
      refine ⟨hlt',?_⟩
      refine wpO_invoke _ _ _ _ _ _ _ _ _ _ _ _ _ _ _ _ ?_
      simp only [zW,zX,zD,builtinA,isLeaf,const1,ustrA,simprocAttr,ti3,ti4,ti9,ti38,ti42,ti100,ti104,ti132,ca74,mi100,cf,Tryz.results40]
      refine methI_invK (metI3 (by kernel_rfl) (by kernel_rfl) (by kernel_rfl) (by kernel_rfl) (by kernel_rfl) (by kernel_rfl)) (hret _ (by simp) (by simp) (by simp [List.getD]) (by simp [List.getD])) rfl (fun _=>rfl) ?_
      rintro r A' ⟨rfl,rfl⟩
      simp only [zW,zX,zD,builtinA,isLeaf,const1,ustrA,simprocAttr,ti3,ti4,ti9,ti38,ti42,ti100,ti104,ti132,ca74,mi100,cf,Tryz.results40]
      refine wpO_invoke _ _ _ _ _ _ _ _ _ _ _ _ _ _ _ _ ?_
      simp only [zW,zX,zD,builtinA,isLeaf,const1,ustrA,simprocAttr,ti3,ti4,ti9,ti38,ti42,ti100,ti104,ti132,ca74,mi100,cf,Tryz.results40]
      refine methI_invK (metI3 (by kernel_rfl) (by kernel_rfl) (by kernel_rfl) (by kernel_rfl) (by kernel_rfl) (by kernel_rfl)) (meanIf (subI m y) _) rfl (fun _=>rfl) ?_
      rintro r A' ⟨rfl,rfl⟩
      simp only [zW,zX,zD,builtinA,isLeaf,const1,ustrA,simprocAttr,ti3,ti4,ti9,ti38,ti42,ti100,ti104,ti132,ca74,mi100,cf,Tryz.results40]
      obtain ⟨z1,z2,z3⟩:=mean_sub hm1 hoy
      refine callK_intro (by rfl) (impl_withinLimits2 _ (by omega) (by omega) _) ?_ rfl
      rintro r A' ⟨rfl,rfl⟩
      rw [show (decide (dep (meanI (subI m y)) ≤ 8) && decide (cnt (meanI (subI m y)) ≤ 63)) = fitI (subI m y) from rfl]
      cases hfit : fitI (subI m y) with
      | false =>
        simp only [zW,zX,zD,builtinA,isLeaf,const1,ustrA,simprocAttr,ti3,ti4,ti9,ti38,ti42,ti100,ti104,ti132,ca74,mi100,cf,Tryz.results40]
        exact ⟨_,rfl,.inr (by rw [hq,normL,if_neg (by rw [hfit]; simp)]; rfl)⟩
      | true =>
        rw [normL,if_pos hfit] at hq
        simp only [zW,zX,zD,builtinA,isLeaf,const1,ustrA,simprocAttr,ti3,ti4,ti9,ti38,ti42,ti100,ti104,ti132,ca74,mi100,cf,Tryz.results40]
        refine wpO_invoke _ _ _ _ _ _ _ _ _ _ _ _ _ _ _ _ ?_
        simp only [zW,zX,zD,builtinA,isLeaf,const1,ustrA,simprocAttr,ti3,ti4,ti9,ti38,ti42,ti100,ti104,ti132,ca74,mi100,cf,Tryz.results40]
        refine methI_invK (metI3 (by kernel_rfl) (by kernel_rfl) (by kernel_rfl) (by kernel_rfl) (by kernel_rfl) (by kernel_rfl)) (keyI (subI m y) _) rfl (fun _=>rfl) ?_
        rintro r A' ⟨rfl,rfl⟩
        rw [viK_sub]
        have hst:=vRow_step (ys:=zs) (n:=ys.length) (subI m y) (by omega)
        have hlen : (vRows zs).length + (List.replicate (ys.length - i) [AV.nili]).length = ys.length:=by simp [vRows_length]; omega
        have hstep : stepB (ys.take i) y = true:=by
          have:=List.all_eq_true.1 hord i (List.mem_range.2 hlt)
          rwa [hyv] at this
        have hnot : viK y ∉ (ys.take i).map viK:=by
          simp only [stepB,Bool.and_eq_true,Bool.not_eq_true',decide_eq_false_iff_not] at hstep
          exact hstep.2
        have htk : (ys.take (i + 1)).map viK = (ys.take i).map viK ++ [viK y]:=by
          rw [List.take_add_one]
          have e : ys[i]? = some y:=by rw [← hyv]; simp [List.getD,hlt]
          rw [e]; simp
        have hqn : ∀ m',m' = nxtM m y → normL [] ys = (normL m' (ys.drop (i + 1))).map ((zs ++ [subI m y]) ++ ·):=fun m' h=>by
          rw [hq,h,Option.map_map]
          congr 1
          funext x
          simp
        have hVO : VOk (meanI (subI m y)):=by
          simp only [fitI,Bool.and_eq_true,decide_eq_true_eq] at hfit
          exact ⟨z1,hfit.1,hfit.2⟩
        subst hzl
        cases y with
        | va n v =>
          simp only [viK,kE]
          simp only [zW,zX,zD,builtinA,isLeaf,const1,ustrA,simprocAttr,ti3,ti4,ti9,ti38,ti42,ti100,ti104,ti132,ca74,mi100,cf,Tryz.results40,hlen,vRows_length,hst,hi1,LoopK_eq]
          refine ⟨⟨by omega,by simp; omega⟩,⟨by omega,by simp; omega,fun v' hv'=>?_⟩,⟨zs.length + 1,m,zs ++ [subI m (.va n v)],_,by omega,by simp,⟨hm1,fun x hx=>⟨(hm2 x hx).1,by rw [htk]; exact List.mem_append_left _ (hm2 x hx).2⟩⟩,hqn m rfl,rfl,rfl⟩,?_⟩
          · simp only [List.mem_singleton] at hv'
            subst hv'; rfl
          · simp only [intOf]; omega
        | al n v =>
          have hkn : lookB ([],n) m = none:=by
            rcases Classical.em (lookB ([],n) m = none) with h | h
            · exact h
            · obtain ⟨x,hx,hxe⟩:=look_mem h
              have:=(hm2 x hx).2
              rw [hxe] at this
              exact absurd this hnot
          have hfnd : findA KB (bkE ([],n)) (esB m) 0 = some none:=by
            rcases find_b ([],n) m 0 with ⟨f1,_⟩ | ⟨j,w,_,f2⟩
            · exact f1
            · rw [hkn] at f2; cases f2
          have hup:=upd_noneB m ([],n) (subV m v)
          simp only [bkE] at hfnd hup
          simp only [viK,kE]
          simp only [zW,zX,zD,builtinA,isLeaf,const1,ustrA,simprocAttr,ti3,ti4,ti9,ti38,ti42,ti100,ti104,ti132,ca74,mi100,cf,Tryz.results40,hlen,vRows_length]
          refine .inr (drawE_intro [(false,0,1),(false,0,1),(false,0,1),(false,0,1),(false,0,0),(true,0,0),(true,1,1)] [A ++ (.mapb (esB m) :: .cells [.map A.length] :: .row 1 (vRows zs ++ List.replicate (ys.length - zs.length) [.nili]) 0 :: (B ++ [.cells [.bool false,.str n]])),A ++ (.mapb (esB m) :: .cells [.map A.length] :: .row 1 (vRows zs ++ List.replicate (ys.length - zs.length) [.nili]) 0 :: (B ++ [.cells [.bool false,.str n]])),A ++ (.mapb (esB (m ++ [(([],n),subV m v)])) :: .cells [.map A.length] :: .row 1 (vRows zs ++ List.replicate (ys.length - zs.length) [.nili]) 0 :: (B ++ [.cells [.bool false,.str n]]))] 2 rfl (by kernel_rfl) (by kernel_rfl) (by kernel_rfl) (by kernel_rfl) (by kernel_rfl) (by kernel_rfl) ?_)
          simp only [zW,zX,zD,builtinA,isLeaf,const1,ustrA,simprocAttr,ti3,ti4,ti9,ti38,ti42,ti100,ti104,ti132,ca74,mi100,cf,Tryz.results40]
          refine wpG_invoke _ _ _ _ _ _ _ _ _ _ _ _ _ _ _ _ _ _ ?_
          simp only [zW,zX,zD,builtinA,isLeaf,const1,ustrA,simprocAttr,ti3,ti4,ti9,ti38,ti42,ti100,ti104,ti132,ca74,mi100,cf,Tryz.results40]
          refine methI_invE (metI3 (by kernel_rfl) (by kernel_rfl) (by kernel_rfl) (by kernel_rfl) (by kernel_rfl) (by kernel_rfl)) (meanIf (subI m (.al n v)) _) rfl ?_
          simp only [zW,zX,zD,builtinA,isLeaf,const1,ustrA,simprocAttr,ti3,ti4,ti9,ti38,ti42,ti100,ti104,ti132,ca74,mi100,cf,Tryz.results40,wpG_upd,hfnd,hup]
          refine ⟨by simp [esB,bkE,subI,meanI],⟨by omega,by rw [hlen]; omega⟩,⟨by omega,by rw [hlen]; omega,fun v' hv'=>?_⟩,?_⟩
          · simp only [List.mem_singleton] at hv'
            subst hv'; rfl
          simp only [zW,zX,zD,builtinA,isLeaf,const1,ustrA,simprocAttr,ti3,ti4,ti9,ti38,ti42,ti100,ti104,ti132,ca74,mi100,cf,Tryz.results40,hst,hi1,LoopK_eq]
          refine ⟨⟨zs.length + 1,m ++ [(([],n),subV m v)],zs ++ [subI m (.al n v)],_,by omega,by simp,⟨fun x hx=>?_,fun x hx=>?_⟩,hqn _ rfl,rfl,rfl⟩,?_⟩
          · rcases List.mem_append.1 hx with hx | hx
            · exact hm1 x hx
            · rw [List.mem_singleton.1 hx]; exact hVO
          · rw [htk]
            rcases List.mem_append.1 hx with hx | hx
            · exact ⟨(hm2 x hx).1,List.mem_append_left _ (hm2 x hx).2⟩
            · rw [List.mem_singleton.1 hx]; exact ⟨rfl,List.mem_append_right _ (by simp [viK])⟩
          · simp only [intOf]; omega
        | ab n =>
          have hkn : lookB ([],n) m = none:=by
            rcases Classical.em (lookB ([],n) m = none) with h | h
            · exact h
            · obtain ⟨x,hx,hxe⟩:=look_mem h
              have:=(hm2 x hx).2
              rw [hxe] at this
              exact absurd this hnot
          have hfnd : findA KB (bkE ([],n)) (esB m) 0 = some none:=by
            rcases find_b ([],n) m 0 with ⟨f1,_⟩ | ⟨j,w,_,f2⟩
            · exact f1
            · rw [hkn] at f2; cases f2
          have hup:=upd_noneB m ([],n) (.nm [] n)
          simp only [bkE] at hfnd hup
          simp only [viK,kE]
          simp only [zW,zX,zD,builtinA,isLeaf,const1,ustrA,simprocAttr,ti3,ti4,ti9,ti38,ti42,ti100,ti104,ti132,ca74,mi100,cf,Tryz.results40,hlen,vRows_length]
          refine .inr (drawE_intro [(false,0,1),(false,0,1),(false,0,1),(false,0,1),(false,0,0),(true,0,0),(true,1,1)] [A ++ (.mapb (esB m) :: .cells [.map A.length] :: .row 1 (vRows zs ++ List.replicate (ys.length - zs.length) [.nili]) 0 :: (B ++ [.cells [.bool false,.str n]])),A ++ (.mapb (esB m) :: .cells [.map A.length] :: .row 1 (vRows zs ++ List.replicate (ys.length - zs.length) [.nili]) 0 :: (B ++ [.cells [.bool false,.str n]])),A ++ (.mapb (esB (m ++ [(([],n),.nm [] n)])) :: .cells [.map A.length] :: .row 1 (vRows zs ++ List.replicate (ys.length - zs.length) [.nili]) 0 :: (B ++ [.cells [.bool false,.str n]]))] 2 rfl (by kernel_rfl) (by kernel_rfl) (by kernel_rfl) (by kernel_rfl) (by kernel_rfl) (by kernel_rfl) ?_)
          simp only [zW,zX,zD,builtinA,isLeaf,const1,ustrA,simprocAttr,ti3,ti4,ti9,ti38,ti42,ti100,ti104,ti132,ca74,mi100,cf,Tryz.results40]
          refine wpG_invoke _ _ _ _ _ _ _ _ _ _ _ _ _ _ _ _ _ _ ?_
          simp only [zW,zX,zD,builtinA,isLeaf,const1,ustrA,simprocAttr,ti3,ti4,ti9,ti38,ti42,ti100,ti104,ti132,ca74,mi100,cf,Tryz.results40]
          refine methI_invE (metI3 (by kernel_rfl) (by kernel_rfl) (by kernel_rfl) (by kernel_rfl) (by kernel_rfl) (by kernel_rfl)) (meanIf (subI m (.ab n)) _) rfl ?_
          simp only [zW,zX,zD,builtinA,isLeaf,const1,ustrA,simprocAttr,ti3,ti4,ti9,ti38,ti42,ti100,ti104,ti132,ca74,mi100,cf,Tryz.results40,wpG_upd,hfnd,hup]
          refine ⟨by simp [esB,bkE,subI,meanI],⟨by omega,by rw [hlen]; omega⟩,⟨by omega,by rw [hlen]; omega,fun v' hv'=>?_⟩,?_⟩
          · simp only [List.mem_singleton] at hv'
            subst hv'; rfl
          simp only [zW,zX,zD,builtinA,isLeaf,const1,ustrA,simprocAttr,ti3,ti4,ti9,ti38,ti42,ti100,ti104,ti132,ca74,mi100,cf,Tryz.results40,hst,hi1,LoopK_eq]
          refine ⟨⟨zs.length + 1,m ++ [(([],n),.nm [] n)],zs ++ [subI m (.ab n)],_,by omega,by simp,⟨fun x hx=>?_,fun x hx=>?_⟩,hqn _ rfl,rfl,rfl⟩,?_⟩
          · rcases List.mem_append.1 hx with hx | hx
            · exact hm1 x hx
            · rw [List.mem_singleton.1 hx]; exact hVO
          · rw [htk]
            rcases List.mem_append.1 hx with hx | hx
            · exact ⟨(hm2 x hx).1,List.mem_append_left _ (hm2 x hx).2⟩
            · rw [List.mem_singleton.1 hx]; exact ⟨rfl,List.mem_append_right _ (by simp [viK])⟩
          · simp only [intOf]; omega
    · have d2 : decide ((i : Int) < (ys.length : Int)) = false:=by simp; omega
      have e : zs.length = ys.length:=by omega
      subst hzl
      have hz : List.replicate (ys.length - zs.length) [AV.nili] = []:=by rw [e]; simp
      rw [hz,List.append_nil]
      simp only [zW,zX,zD,builtinA,isLeaf,const1,ustrA,simprocAttr,ti3,ti4,ti9,ti38,ti42,ti100,ti104,ti132,ca74,mi100,cf,Tryz.results40,vRows_length,d2]
      rw [List.drop_of_length_le (by omega),normL] at hq
      exact ⟨_,rfl,.inl ⟨zs,2,by rw [hq]; simp,rfl,by simp,rfl⟩⟩
end Go.Proofs.YtngheinmebopeaaGreatDoor
/- Reading a signature with normal types, and what a name in it stands for. -/
set_option linter.unusedVariables false
set_option linter.unusedSimpArgs false
namespace Go.Proofs.YtngheinmebopeaaGreatDoor
open Go.Abs
set_option maxRecDepth 100000 in
theorem pos_cl (y : VI) (q : Ky) (c : Nat) (A : List Box) (hc : c < A.length) (hA : A.getD c .dead = .cells (kE q)) : ACalls Tryz.prog 86 [.iface (viT y) (viX y),.ptr c 0] A (fun r A'=>r = .bool (decide (viK y = q)) ∧ A' = A):=by
  have he:=kE_eq (viK y) q
  simp only [kE] at hA he
  refine acalls_enter (cf:=cf 8 [0,1,3]) foll Tryz.func86 Tryz.ntmps86 (by simp [cf]) ?_
  simp only [Tryz.f86,EnterK_some,zW,zX,zD,builtinA,isLeaf,const1,ustrA,simprocAttr,ti42,ks42,cf,Tryz.results86]
  refine .inl ⟨by kernel_rfl,by kernel_rfl,?_⟩
  refine wpD_invoke _ _ _ _ _ _ _ _ _ _ _ _ _ _ _ _ ?_
  simp only [zW,zX,zD,builtinA,isLeaf,const1,ustrA,simprocAttr,ti42,ks42,cf,Tryz.results86]
  refine methI_invD (metI3 (by kernel_rfl) (by kernel_rfl) (by kernel_rfl) (by kernel_rfl) (by kernel_rfl) (by kernel_rfl)) (keyI y _) rfl (fun _=>rfl) ?_
  simp only [kE]
  simp only [zW,zX,zD,builtinA,isLeaf,const1,ustrA,simprocAttr,ti42,ks42,cf,Tryz.results86,hA,he]
set_option maxRecDepth 100000 in
theorem idx_items (ys : List VI) (hl : ys.length ≤ 1000) (q : Ky) (c : Nat) (A : List Box) (hc : c < A.length) (hA : A.getD c .dead = .cells (kE q)) :
    ACalls Tryz.prog 85 [.slice (vRows ys),.func (.func 86) [] [.ptr c 0]] A (fun r A'=>((∃ i,i < ys.length ∧ viK (ys.getD i vi0) = q ∧ r = .int .i64 (i : Nat)) ∨ ((∀ i,i < ys.length → viK (ys.getD i vi0) ≠ q) ∧ r = .int .i64 (-1))) ∧ A' = A):=by
  refine acalls_enter (cf:=cf 19 [0,1,4,5,7,8,9,16]) foll Tryz.func85 Tryz.ntmps85 (by simp [cf]) ?_
  simp only [Tryz.f85,EnterK_some,zW,zX,zD,builtinA,isLeaf,const1,ustrA,simprocAttr,ti3,ti38,ti104,cf,Tryz.results85]
  simp only [zW,zX,zD,builtinA,isLeaf,const1,ustrA,simprocAttr,ti3,ti38,ti104,cf,Tryz.results85,vRows_length]
  refine aloop_intro [0,1,7,8] (fun e A'=>∃ i,i ≤ ys.length ∧ (∀ k,k < i → viK (ys.getD k vi0) ≠ q) ∧ e = [(0,.slice (vRows ys)),(1,.func (.func 86) [] [.ptr c 0]),(7,.int .i64 ys.length),(8,.int .i64 i)] ∧ A' = A) (fun e _=>ys.length - (intOf (Abs.look 8 e)).toNat) ?_ ?_
  · simp only [zW,zX,zD,builtinA,isLeaf,const1,ustrA,simprocAttr,ti3,ti38,ti104,cf,Tryz.results85]
    exact ⟨0,by omega,fun k hk=>by omega,rfl⟩
  · rintro e A' ⟨i,hi,hq,rfl,rfl⟩
    by_cases hlt : i < ys.length
    · have d2 : decide ((i : Int) < (ys.length : Int)) = true:=by simp; omega
      have hlt' : 0 ≤ (i : Int) ∧ (i : Int) < (ys.length : Int):=by omega
      have hg:=vRows_getD hlt
      have hi1 : IntKind.i64.wrap ((i : Int) + 1) = ((i + 1 : Nat) : Int):=by rw [wrap64 (by omega) (by omega)]; rfl
      generalize hyv : ys.getD i vi0 = y at *
      rw [vRow] at hg
      simp only [zW,zX,zD,builtinA,isLeaf,const1,ustrA,simprocAttr,ti3,ti38,ti104,cf,Tryz.results85,vRows_length,d2,hg]
      refine ⟨hlt',?_⟩
      refine wpO_callv _ _ _ _ _ _ _ _ _ _ _ _ _ _ _ ?_
      simp only [zW,zX,zD,builtinA,isLeaf,const1,ustrA,simprocAttr,ti3,ti38,ti104,cf,Tryz.results85]
      refine ⟨by kernel_rfl,?_⟩
      refine callO_intro (pos_cl y q c _ hc hA) ?_
      rintro r A' ⟨rfl,rfl⟩
      by_cases hk : viK y = q
      · simp only [zW,zX,zD,builtinA,isLeaf,const1,ustrA,simprocAttr,ti3,ti38,ti104,cf,Tryz.results85,decide_eq_true hk]
        exact .inl ⟨i,hlt,by rw [hyv]; exact hk,rfl⟩
      · simp only [zW,zX,zD,builtinA,isLeaf,const1,ustrA,simprocAttr,ti3,ti38,ti104,cf,Tryz.results85,decide_eq_false hk,hi1,LoopK_eq]
        refine ⟨⟨i + 1,by omega,fun k hk2=>?_,rfl⟩,?_⟩
        · rcases Nat.lt_succ_iff_lt_or_eq.mp hk2 with h | rfl
          · exact hq k h
          · rw [hyv]; exact hk
        · simp only [intOf]; omega
    · have d2 : decide ((i : Int) < (ys.length : Int)) = false:=by simp; omega
      have e : i = ys.length:=by omega
      subst e
      simp only [zW,zX,zD,builtinA,isLeaf,const1,ustrA,simprocAttr,ti3,ti38,ti104,cf,Tryz.results85,vRows_length,d2]
      exact .inr hq
set_option maxRecDepth 100000 in
theorem impl_position (ys : List VI) (hl : ys.length ≤ 1000) (q : Ky) (A : List Box) : ACalls Tryz.prog 54 [.slice (vRows ys),.agg (kE q)] A (fun r A'=>((∃ i,i < ys.length ∧ viK (ys.getD i vi0) = q ∧ r = .int .i64 (i : Nat)) ∨ ((∀ i,i < ys.length → viK (ys.getD i vi0) ≠ q) ∧ r = .int .i64 (-1))) ∧ A' = A):=by
  have h:=idx_items ys hl q A.length (A ++ [.cells (kE q)]) (by simp) (by rw [Abs.getD_append_right (Nat.le_refl _)]; simp)
  simp only [kE] at h
  rw [kE]
  refine acalls_enter (cf:=cf 8 [0,1,3,4]) foll Tryz.func54 Tryz.ntmps54 (by simp [cf]) ?_
  simp only [Tryz.f54,EnterK_some,zW,zX,zD,builtinA,isLeaf,const1,ustrA,simprocAttr,ti42,ca85,cf,Tryz.results54]
  refine callO_intro h ?_
  rintro r A' ⟨h2,rfl⟩
  rcases h2 with ⟨i,hi,hv,rfl⟩ | ⟨hn,rfl⟩
  · simp only [zW,zX,zD,builtinA,isLeaf,const1,ustrA,simprocAttr,ti42,ca85,cf,Tryz.results54]
    exact .inl ⟨i,hi,hv,rfl⟩
  · simp only [zW,zX,zD,builtinA,isLeaf,const1,ustrA,simprocAttr,ti42,ca85,cf,Tryz.results54]
    exact .inr hn
def FindO (ys : List VI) (q : Ky) (o : Option VT) : Prop:=match o with
  | some v=>∃ i,i < ys.length ∧ viK (ys.getD i vi0) = q ∧ meanI (ys.getD i vi0) = v
  | none=>∀ i,i < ys.length → viK (ys.getD i vi0) ≠ q
def findR : Option VT → AV
  | some v=>.tuple [.iface (vT v) (vX v),.bool true]
  | none=>.tuple [.nili,.bool false]
set_option maxRecDepth 100000 in
theorem impl_findSig (ys : List VI) (hl : ys.length ≤ 1000) (q : Ky) (A : List Box) : ACalls Tryz.prog 78 [.slice (vRows ys),.agg (kE q)] A (fun r A'=>∃ o,FindO ys q o ∧ r = findR o ∧ A' = A):=by
  have h:=fun A=>impl_position ys hl q A
  simp only [kE] at h
  rw [kE]
  refine acalls_enter (cf:=cf 17 [0,1,3,4,5,6,11]) foll Tryz.func78 Tryz.ntmps78 (by simp [cf]) ?_
  simp only [Tryz.f78,EnterK_some,zW,zX,zD,builtinA,isLeaf,const1,ustrA,simprocAttr,ti3,ti38,ti42,ti104,ca54,cf,Tryz.results78]
  refine callO_intro (h _) ?_
  rintro r A' ⟨h2,rfl⟩
  rcases h2 with ⟨i,hi,hv,rfl⟩ | ⟨hn,rfl⟩
  · have d2 : decide ((i : Int) < 0) = false:=decide_eq_false (by omega)
    have hg:=vRows_getD hi
    generalize hyv : ys.getD i vi0 = y at *
    rw [vRow] at hg
    simp only [zW,zX,zD,builtinA,isLeaf,const1,ustrA,simprocAttr,ti3,ti38,ti42,ti104,ca54,cf,Tryz.results78,d2,vRows_length,hg]
    refine ⟨⟨by omega,by omega⟩,?_⟩
    refine wpO_invoke _ _ _ _ _ _ _ _ _ _ _ _ _ _ _ _ ?_
    simp only [zW,zX,zD,builtinA,isLeaf,const1,ustrA,simprocAttr,ti3,ti38,ti42,ti104,ca54,cf,Tryz.results78]
    refine methI_invK (metI3 (by kernel_rfl) (by kernel_rfl) (by kernel_rfl) (by kernel_rfl) (by kernel_rfl) (by kernel_rfl)) (meanIf y _) rfl (fun _=>rfl) ?_
    rintro r A' ⟨rfl,rfl⟩
    simp only [zW,zX,zD,builtinA,isLeaf,const1,ustrA,simprocAttr,ti3,ti38,ti42,ti104,ca54,cf,Tryz.results78]
    exact ⟨some (meanI y),⟨i,hi,by rw [hyv]; exact hv,by rw [hyv]⟩,rfl⟩
  · have d2 : decide ((-1 : Int) < 0) = true:=rfl
    simp only [zW,zX,zD,builtinA,isLeaf,const1,ustrA,simprocAttr,ti3,ti38,ti42,ti104,ca54,cf,Tryz.results78,d2]
    exact ⟨none,hn,rfl⟩
end Go.Proofs.YtngheinmebopeaaGreatDoor
namespace Go.Proofs.YtngheinmebopeaaGreatDoor
open Go.Abs
theorem mean_ok {x : SigI} {y : VI} (hl : localB x.name = true) (h : ItemOf x y) : VOk (meanI y):=by
  cases y with
  | ab n=>exact ⟨by simp only [meanI,okV,nmB]; rw [← h.1,hl]; simp,by simp [meanI,dep],by simp [meanI,cnt]⟩
  | al n v=>exact h.2.2.2
  | va n v=>exact h.2.2.2
def RdN (s : List SigI) : Option (List VI) → Prop
  | some zs=>∃ ys,s.length ≤ 8 ∧ ReadsTo s ys ∧ ordB ys = true ∧ normL [] ys = some zs
  | none=>(8 < s.length ∨ ∃ x ∈ s,itemOk x = false) ∨ ∃ ys,s.length ≤ 8 ∧ ReadsTo s ys ∧ (ordB ys = false ∨ normL [] ys = none)
def MeanIs (s : List SigI) (q : Ky) (o : Option VT) : Prop:=(∃ zs,RdN s (some zs) ∧ FindO zs q o) ∨ (RdN s none ∧ o = none)
theorem normL_len : ∀ {ys zs : List VI} {m : List (BNm × VT)},normL m ys = some zs → zs.length = ys.length
  | [],zs,m,h=>by cases h; rfl
  | y :: ys,zs,m,h=>by
    rw [normL] at h
    split at h
    · obtain ⟨x,hx,rfl⟩:=Option.map_eq_some_iff.1 h
      simp [normL_len hx]
    · cases h
end Go.Proofs.YtngheinmebopeaaGreatDoor
