/- SigNorm, SigRdN, SubT, SigOne. -/
import Derived.Test.YtnjdbgiincliaaaGreatN08
import Derived.Test.YtnjdbgiincliaaaGreatAbsW3
/- The program's normal signatures. -/
set_option linter.unusedVariables false
set_option linter.unusedSimpArgs false
namespace Go.Proofs.YtnjdbgiincliaaaGreat
open Go.Abs
def subI (m : List (BNm × VT)) : VI → VI
  | .ab n=>.ab n
  | .al n v=>.al n (subV m v)
  | .va n v=>.va n (subV m v)
def clN (c : Nat) : AV:=.func (.func 265) [] [.ptr c 0]
set_option maxRecDepth 100000 in
theorem norm_cl (m : List (BNm × VT)) (v : VT) (c i : Nat) (A : List Box) (hc : c < A.length) (hi : i < A.length) (hAc : A.getD c .dead = .cells [.map i]) (hA : A.getD i .dead = .mapb (esB m)) :
    ACalls Tryz.prog 265 [.iface (vT v) (vX v),.ptr c 0] A (fun r A'=>r = .iface (vT (subV m v)) (vX (subV m v)) ∧ A' = A):=by
  refine acalls_enter (cf:=cf 7 [0,1,3]) foll Tryz.func265 Tryz.ntmps265 (by simp [cf]) ?_
  simp only [Tryz.f265,EnterK_some,zW,zX,zD,builtinA,isLeaf,const1,ustrA,simprocAttr,ti375,cf,Tryz.results265]
  simp only [zW,zX,zD,builtinA,isLeaf,const1,ustrA,simprocAttr,ti375,cf,Tryz.results265,hAc]
  refine wpO_invoke _ _ _ _ _ _ _ _ _ _ _ _ _ _ _ _ ?_
  simp only [zW,zX,zD,builtinA,isLeaf,const1,ustrA,simprocAttr,ti375,cf,Tryz.results265]
  refine meth_invK (met3 (by kernel_rfl) (by kernel_rfl) (by kernel_rfl) (by kernel_rfl) (by kernel_rfl) (by kernel_rfl)) (subM m v A i hi hA) rfl (fun _=>rfl) ?_
  rintro r A' ⟨rfl,rfl⟩
  simp only [zW,zX,zD,builtinA,isLeaf,const1,ustrA,simprocAttr,ti375,cf,Tryz.results265]
def RetI (m : List (BNm × VT)) (y : VI) : Prop:=∀ (c i : Nat) (A : List Box),c < A.length → i < A.length → A.getD c .dead = .cells [.map i] → A.getD i .dead = .mapb (esB m) →
  ACalls Tryz.prog ((pickI 409 416 425) y) [viX y,clN c] A (fun r A'=>r = .iface (viT (subI m y)) (viX (subI m y)) ∧ A' = A)
set_option maxRecDepth 100000 in
theorem ab_ret (m : List (BNm × VT)) (n : List UInt8) : RetI m (.ab n):=fun c i A hc hi hAc hA=>by
  show ACalls Tryz.prog 409 _ _ _
  rw [viX,clN]
  refine acalls_enter (cf:=cf 7 [0,2,4]) foll Tryz.func409 Tryz.ntmps409 (by simp [cf]) ?_
  simp only [Tryz.f409,EnterK_some,zW,zX,zD,builtinA,isLeaf,const1,ustrA,simprocAttr,ti354,cf,Tryz.results409]
  rfl
set_option maxRecDepth 100000 in
theorem al_ret (m : List (BNm × VT)) (n : List UInt8) (v : VT) : RetI m (.al n v):=fun c i A hc hi hAc hA=>by
  show ACalls Tryz.prog 416 _ _ _
  have h:=norm_cl m v c i (A ++ [.cells [.str n,.iface (vT v) (vX v)]]) (by simp; omega) (by simp; omega) (by rw [Abs.getD_append_left hc]; exact hAc) (by rw [Abs.getD_append_left hi]; exact hA)
  rw [viX,clN]
  refine acalls_enter (cf:=cf 13 [0,1,2,4]) foll Tryz.func416 Tryz.ntmps416 (by simp [cf]) ?_
  simp only [Tryz.f416,EnterK_some,zW,zX,zD,builtinA,isLeaf,const1,ustrA,simprocAttr,ti9,ti175,ti356,cf,Tryz.results416]
  refine .inl ⟨by kernel_rfl,by kernel_rfl,?_⟩
  refine wpD_callv _ _ _ _ _ _ _ _ _ _ _ _ _ _ _ ?_
  simp only [zW,zX,zD,builtinA,isLeaf,const1,ustrA,simprocAttr,ti9,ti175,ti356,cf,Tryz.results416]
  refine ⟨by kernel_rfl,?_⟩
  refine callD_intro (by simp only [zW,zX,zD,builtinA,isLeaf,const1,ustrA,simprocAttr,Option.map_some,List.nil_append,List.append_nil,List.cons_append] <;> rfl) (h) ?_ rfl
  simp only [zW,zX,zD,builtinA,isLeaf,const1,ustrA,simprocAttr,ti9,ti175,ti356,cf,Tryz.results416]
  rfl
set_option maxRecDepth 100000 in
theorem va_ret (m : List (BNm × VT)) (n : List UInt8) (v : VT) : RetI m (.va n v):=fun c i A hc hi hAc hA=>by
  show ACalls Tryz.prog 425 _ _ _
  have h:=norm_cl m v c i (A ++ [.cells [.str n,.iface (vT v) (vX v)]]) (by simp; omega) (by simp; omega) (by rw [Abs.getD_append_left hc]; exact hAc) (by rw [Abs.getD_append_left hi]; exact hA)
  rw [viX,clN]
  refine acalls_enter (cf:=cf 13 [0,1,2,4]) foll Tryz.func425 Tryz.ntmps425 (by simp [cf]) ?_
  simp only [Tryz.f425,EnterK_some,zW,zX,zD,builtinA,isLeaf,const1,ustrA,simprocAttr,ti9,ti175,ti357,cf,Tryz.results425]
  refine .inl ⟨by kernel_rfl,by kernel_rfl,?_⟩
  refine wpD_callv _ _ _ _ _ _ _ _ _ _ _ _ _ _ _ ?_
  simp only [zW,zX,zD,builtinA,isLeaf,const1,ustrA,simprocAttr,ti9,ti175,ti357,cf,Tryz.results425]
  refine ⟨by kernel_rfl,?_⟩
  refine callD_intro (by simp only [zW,zX,zD,builtinA,isLeaf,const1,ustrA,simprocAttr,Option.map_some,List.nil_append,List.append_nil,List.cons_append] <;> rfl) (h) ?_ rfl
  simp only [zW,zX,zD,builtinA,isLeaf,const1,ustrA,simprocAttr,ti9,ti175,ti357,cf,Tryz.results425]
  rfl
theorem retI (m : List (BNm × VT)) : ∀ y,RetI m y
  | .ab n=>ab_ret m n
  | .al n v=>al_ret m n v
  | .va n v=>va_ret m n v
set_option maxRecDepth 100000 in
theorem ab_mean (n : List UInt8) (A : List Box) : ACalls Tryz.prog 406 [viX (.ab n)] A (fun r A'=>r = .iface (vT (meanI (.ab n))) (vX (meanI (.ab n))) ∧ A' = A):=by
  rw [viX]
  refine acalls_enter (cf:=cf 7 [0,1,2]) foll Tryz.func406 Tryz.ntmps406 (by simp [cf]) ?_
  simp only [Tryz.f406,EnterK_some,zW,zX,zD,builtinA,isLeaf,const1,ustrA,simprocAttr,ti9,ti180,ti354,cf,Tryz.results406]
  rfl
set_option maxRecDepth 100000 in
theorem al_mean (n : List UInt8) (v : VT) (A : List Box) : ACalls Tryz.prog 413 [viX (.al n v)] A (fun r A'=>r = .iface (vT (meanI (.al n v))) (vX (meanI (.al n v))) ∧ A' = A):=by
  rw [viX]
  refine acalls_enter (cf:=cf 5 [0,1,2]) foll Tryz.func413 Tryz.ntmps413 (by simp [cf]) ?_
  simp only [Tryz.f413,EnterK_some,zW,zX,zD,builtinA,isLeaf,const1,ustrA,simprocAttr,ti175,ti356,cf,Tryz.results413]
  rfl
set_option maxRecDepth 100000 in
theorem va_mean (n : List UInt8) (v : VT) (A : List Box) : ACalls Tryz.prog 422 [viX (.va n v)] A (fun r A'=>r = .iface (vT (meanI (.va n v))) (vX (meanI (.va n v))) ∧ A' = A):=by
  rw [viX]
  refine acalls_enter (cf:=cf 5 [0,1,2]) foll Tryz.func422 Tryz.ntmps422 (by simp [cf]) ?_
  simp only [Tryz.f422,EnterK_some,zW,zX,zD,builtinA,isLeaf,const1,ustrA,simprocAttr,ti175,ti357,cf,Tryz.results422]
  rfl
theorem meanIf (y : VI) (A : List Box) : ACalls Tryz.prog ((pickI 406 413 422) y) [viX y] A (fun r A'=>r = .iface (vT (meanI y)) (vX (meanI y)) ∧ A' = A):=by
  cases y with
  | ab n=>exact ab_mean n A
  | al n v=>exact al_mean n v A
  | va n v=>exact va_mean n v A
def nxtM (m : List (BNm × VT)) : VI → List (BNm × VT)
  | .ab n=>m ++ [(([],n),.nm [] n)]
  | .al n v=>m ++ [(([],n),subV m v)]
  | .va _ _=>m
def fitI (y : VI) : Bool:=decide (dep (meanI y) ≤ 8) && decide (cnt (meanI y) ≤ 63)
def normL : List (BNm × VT) → List VI → Option (List VI)
  | _,[]=>some []
  | m,y :: ys=>if fitI (subI m y) = true then (normL (nxtM m y) ys).map (subI m y :: ·) else none
theorem vi_drop {l : List VI} {i : Nat} (h : i < l.length) : l.drop i = l.getD i vi0 :: l.drop (i + 1):=by
  have : l.getD i vi0 = l[i]:=by simp [List.getD,h]
  rw [this,List.getElem_cons_drop h]
def KnM (m : List (BNm × VT)) (zs : List VI) : Prop:=(∀ x ∈ m,VOk x.2) ∧ ∀ x ∈ m,x.1.1 = [] ∧ (false,x.1.2) ∈ zs.map viK
theorem look_mem {q : BNm} : ∀ {m : List (BNm × VT)},lookB q m ≠ none → ∃ x ∈ m,x.1 = q
  | [],h=>absurd rfl h
  | (p,v) :: m,h=>by
    rw [lookB] at h
    by_cases e : q = p
    · exact ⟨(p,v),by simp,e.symm⟩
    · rw [if_neg e] at h
      obtain ⟨x,hx,h2⟩:=look_mem h
      exact ⟨x,List.mem_cons_of_mem _ hx,h2⟩
theorem mean_sub {m : List (BNm × VT)} (hm : ∀ x ∈ m,VOk x.2) {y : VI} (hy : VOk (meanI y)) : okV (meanI (subI m y)) = true ∧ dep (meanI (subI m y)) ≤ 16 ∧ cnt (meanI (subI m y)) ≤ 3969:=by
  have h1:=hy.dep
  have h2:=hy.cnt
  cases y with
  | ab n=>exact ⟨hy.ok,by simp only [subI,meanI] at *; omega,by simp only [subI,meanI] at *; omega⟩
  | al n v =>
    have:=sub_ok m hm v hy.ok
    exact ⟨this.1,by simp only [subI,meanI] at *; omega,by simp only [subI,meanI] at *; omega⟩
  | va n v =>
    have:=sub_ok m hm v hy.ok
    exact ⟨this.1,by simp only [subI,meanI] at *; omega,by simp only [subI,meanI] at *; omega⟩
theorem upd_noneB (m : List (BNm × VT)) (q : BNm) (v : VT) : updA none (bkE q) (.iface (vT v) (vX v)) (esB m) = esB (m ++ [(q,v)]):=by
  simp [updA,esB]
theorem viK_sub (m : List (BNm × VT)) (y : VI) : viK (subI m y) = viK y:=by cases y <;> rfl
set_option maxRecDepth 100000 in
set_option maxHeartbeats 4000000 in
theorem impl_normal (ys : List VI) (hl : ys.length ≤ 1000) (ho : ∀ k,k < ys.length → VOk (meanI (ys.getD k vi0))) (hord : ordB ys = true) (A : List Box) :
    ACalls Tryz.prog 203 [.slice (vRows ys)] A (fun r A'=>∃ B,A' = A ++ B ∧ ((∃ zs j,normL [] ys = some zs ∧ r = .tuple [.own (A.length + j),.bool true] ∧ j < B.length ∧ B.getD j .dead = .row 1 (vRows zs) 0) ∨ (normL [] ys = none ∧ r = .tuple [.nils,.bool false]))):=by
  refine acalls_enterK (cf:=cf 44 [0,2,3,4,5,6,7,8,13,14,15,16,26,31]) foll Tryz.func203 Tryz.ntmps203 (by simp [cf]) ?_
  simp only [Tryz.f203,EnterK_some,zW,zX,zD,builtinA,isLeaf,const1,ustrA,simprocAttr,ti3,ti4,ti9,ti140,ti158,ti180,ti360,ti375,ca199,mi375,cf,Tryz.results203]
  simp only [zW,zX,zD,builtinA,isLeaf,const1,ustrA,simprocAttr,ti3,ti4,ti9,ti140,ti158,ti180,ti360,ti375,ca199,mi375,cf,Tryz.results203,vRows_length]
  refine ⟨⟨by omega,by omega,by omega⟩,?_⟩
  refine aloop_intro [4,5,13,14,15] (fun e A'=>∃ i m zs B,i ≤ ys.length ∧ zs.length = i ∧ KnM m (ys.take i) ∧ normL [] ys = (normL m (ys.drop i)).map (zs ++ ·) ∧ e = [(4,.ptr (A.length + 1) 0),(5,.own (A.length + 2)),(13,.slice (vRows ys)),(14,.int .i64 ys.length),(15,.int .i64 i)] ∧ A' = A ++ (.mapb (esB m) :: .cells [.map A.length] :: .row 1 (vRows zs ++ List.replicate (ys.length - i) [.nili]) 0 :: B)) (fun e _=>ys.length - (intOf (Abs.look 15 e)).toNat) ?_ ?_
  · simp only [zW,zX,zD,builtinA,isLeaf,const1,ustrA,simprocAttr,ti3,ti4,ti9,ti140,ti158,ti180,ti360,ti375,ca199,mi375,cf,Tryz.results203]
    exact ⟨0,[],[],[],by omega,rfl,⟨by simp,by simp⟩,by simp,rfl,by simp [vRows,esB]⟩
  · rintro e A' ⟨i,m,zs,B,hi,hzl,⟨hm1,hm2⟩,hq,rfl,rfl⟩
    by_cases hlt : i < ys.length
    · have d2 : decide ((i : Int) < (ys.length : Int)) = true:=by simp; omega
      have hlt' : 0 ≤ (i : Int) ∧ (i : Int) < (ys.length : Int):=by omega
      have hg:=vRows_getD hlt
      have hi1 : IntKind.i64.wrap ((i : Int) + 1) = ((i + 1 : Nat) : Int):=by rw [wrap64 (by omega) (by omega)]; rfl
      have hoy:=ho i hlt
      rw [vi_drop hlt] at hq
      generalize hyv : ys.getD i vi0 = y at *
      rw [vRow] at hg
      have hret:=retI m y (A.length + 1) A.length
      simp only [zW,zX,zD,builtinA,isLeaf,const1,ustrA,simprocAttr,ti3,ti4,ti9,ti140,ti158,ti180,ti360,ti375,ca199,mi375,cf,Tryz.results203,vRows_length,d2,hg]
      refine ⟨hlt',?_⟩
      refine wpO_invoke _ _ _ _ _ _ _ _ _ _ _ _ _ _ _ _ ?_
      simp only [zW,zX,zD,builtinA,isLeaf,const1,ustrA,simprocAttr,ti3,ti4,ti9,ti140,ti158,ti180,ti360,ti375,ca199,mi375,cf,Tryz.results203]
      refine methI_invK (metI3 (by kernel_rfl) (by kernel_rfl) (by kernel_rfl) (by kernel_rfl) (by kernel_rfl) (by kernel_rfl)) (hret _ (by simp) (by simp) (by simp [List.getD]) (by simp [List.getD])) rfl (fun _=>rfl) ?_
      rintro r A' ⟨rfl,rfl⟩
      simp only [zW,zX,zD,builtinA,isLeaf,const1,ustrA,simprocAttr,ti3,ti4,ti9,ti140,ti158,ti180,ti360,ti375,ca199,mi375,cf,Tryz.results203]
      refine wpO_invoke _ _ _ _ _ _ _ _ _ _ _ _ _ _ _ _ ?_
      simp only [zW,zX,zD,builtinA,isLeaf,const1,ustrA,simprocAttr,ti3,ti4,ti9,ti140,ti158,ti180,ti360,ti375,ca199,mi375,cf,Tryz.results203]
      refine methI_invK (metI3 (by kernel_rfl) (by kernel_rfl) (by kernel_rfl) (by kernel_rfl) (by kernel_rfl) (by kernel_rfl)) (meanIf (subI m y) _) rfl (fun _=>rfl) ?_
      rintro r A' ⟨rfl,rfl⟩
      simp only [zW,zX,zD,builtinA,isLeaf,const1,ustrA,simprocAttr,ti3,ti4,ti9,ti140,ti158,ti180,ti360,ti375,ca199,mi375,cf,Tryz.results203]
      obtain ⟨z1,z2,z3⟩:=mean_sub hm1 hoy
      refine callK_intro (by rfl) (impl_withinLimits2 _ (by omega) (by omega) _) ?_ rfl
      rintro r A' ⟨rfl,rfl⟩
      rw [show (decide (dep (meanI (subI m y)) ≤ 8) && decide (cnt (meanI (subI m y)) ≤ 63)) = fitI (subI m y) from rfl]
      cases hfit : fitI (subI m y) with
      | false =>
        simp only [zW,zX,zD,builtinA,isLeaf,const1,ustrA,simprocAttr,ti3,ti4,ti9,ti140,ti158,ti180,ti360,ti375,ca199,mi375,cf,Tryz.results203]
        exact ⟨_,rfl,.inr (by rw [hq,normL,if_neg (by rw [hfit]; simp)]; rfl)⟩
      | true =>
        rw [normL,if_pos hfit] at hq
        simp only [zW,zX,zD,builtinA,isLeaf,const1,ustrA,simprocAttr,ti3,ti4,ti9,ti140,ti158,ti180,ti360,ti375,ca199,mi375,cf,Tryz.results203]
        refine wpO_invoke _ _ _ _ _ _ _ _ _ _ _ _ _ _ _ _ ?_
        simp only [zW,zX,zD,builtinA,isLeaf,const1,ustrA,simprocAttr,ti3,ti4,ti9,ti140,ti158,ti180,ti360,ti375,ca199,mi375,cf,Tryz.results203]
        refine methI_invK (metI3 (by kernel_rfl) (by kernel_rfl) (by kernel_rfl) (by kernel_rfl) (by kernel_rfl) (by kernel_rfl)) (keyI (subI m y) _) rfl (fun _=>rfl) ?_
        rintro r A' ⟨rfl,rfl⟩
        rw [viK_sub]
        have hst:=vRow_step (ys:=zs) (n:=ys.length) (subI m y) (by omega)
        have hlen : (vRows zs).length + (List.replicate (ys.length - i) [AV.nili]).length = ys.length:=by simp [vRows_length]; omega
        have hstep : stepB (ys.take i) y = true:=by
          have:=List.all_eq_true.1 hord i (List.mem_range.2 hlt)
          rwa [hyv] at this
        have hnot : viK y ∉ (ys.take i).map viK:=by
          simp only [stepB,Bool.and_eq_true,Bool.not_eq_true',decide_eq_false_iff_not] at hstep
          exact hstep.2
        have htk : (ys.take (i + 1)).map viK = (ys.take i).map viK ++ [viK y]:=by
          rw [List.take_add_one]
          have e : ys[i]? = some y:=by rw [← hyv]; simp [List.getD,hlt]
          rw [e]; simp
        have hqn : ∀ m',m' = nxtM m y → normL [] ys = (normL m' (ys.drop (i + 1))).map ((zs ++ [subI m y]) ++ ·):=fun m' h=>by
          rw [hq,h,Option.map_map]
          congr 1
          funext x
          simp
        have hVO : VOk (meanI (subI m y)):=by
          simp only [fitI,Bool.and_eq_true,decide_eq_true_eq] at hfit
          exact ⟨z1,hfit.1,hfit.2⟩
        subst hzl
        cases y with
        | va n v =>
          simp only [viK,kE]
          simp only [zW,zX,zD,builtinA,isLeaf,const1,ustrA,simprocAttr,ti3,ti4,ti9,ti140,ti158,ti180,ti360,ti375,ca199,mi375,cf,Tryz.results203,hlen,vRows_length,hst,hi1,LoopK_eq]
          refine ⟨⟨by omega,by simp; omega⟩,⟨by omega,by simp; omega,fun v' hv'=>?_⟩,⟨zs.length + 1,m,zs ++ [subI m (.va n v)],_,by omega,by simp,⟨hm1,fun x hx=>⟨(hm2 x hx).1,by rw [htk]; exact List.mem_append_left _ (hm2 x hx).2⟩⟩,hqn m rfl,rfl,rfl⟩,?_⟩
          · simp only [List.mem_singleton] at hv'
            subst hv'; rfl
          · simp only [intOf]; omega
        | al n v =>
          have hkn : lookB ([],n) m = none:=by
            rcases Classical.em (lookB ([],n) m = none) with h | h
            · exact h
            · obtain ⟨x,hx,hxe⟩:=look_mem h
              have:=(hm2 x hx).2
              rw [hxe] at this
              exact absurd this hnot
          have hfnd : findA KB (bkE ([],n)) (esB m) 0 = some none:=by
            rcases find_b ([],n) m 0 with ⟨f1,_⟩ | ⟨j,w,_,f2⟩
            · exact f1
            · rw [hkn] at f2; cases f2
          have hup:=upd_noneB m ([],n) (subV m v)
          simp only [bkE] at hfnd hup
          simp only [viK,kE]
          simp only [zW,zX,zD,builtinA,isLeaf,const1,ustrA,simprocAttr,ti3,ti4,ti9,ti140,ti158,ti180,ti360,ti375,ca199,mi375,cf,Tryz.results203,hlen,vRows_length]
          refine .inr (drawE_intro [(false,0,1),(false,0,1),(false,0,1),(false,0,1),(false,0,0),(true,0,0),(true,1,1)] [A ++ (.mapb (esB m) :: .cells [.map A.length] :: .row 1 (vRows zs ++ List.replicate (ys.length - zs.length) [.nili]) 0 :: (B ++ [.cells [.bool false,.str n]])),A ++ (.mapb (esB m) :: .cells [.map A.length] :: .row 1 (vRows zs ++ List.replicate (ys.length - zs.length) [.nili]) 0 :: (B ++ [.cells [.bool false,.str n]])),A ++ (.mapb (esB (m ++ [(([],n),subV m v)])) :: .cells [.map A.length] :: .row 1 (vRows zs ++ List.replicate (ys.length - zs.length) [.nili]) 0 :: (B ++ [.cells [.bool false,.str n]]))] 2 rfl (by kernel_rfl) (by kernel_rfl) (by kernel_rfl) (by kernel_rfl) (by kernel_rfl) (by kernel_rfl) ?_)
          simp only [zW,zX,zD,builtinA,isLeaf,const1,ustrA,simprocAttr,ti3,ti4,ti9,ti140,ti158,ti180,ti360,ti375,ca199,mi375,cf,Tryz.results203]
          refine wpG_invoke _ _ _ _ _ _ _ _ _ _ _ _ _ _ _ _ _ _ ?_
          simp only [zW,zX,zD,builtinA,isLeaf,const1,ustrA,simprocAttr,ti3,ti4,ti9,ti140,ti158,ti180,ti360,ti375,ca199,mi375,cf,Tryz.results203]
          refine methI_invE (metI3 (by kernel_rfl) (by kernel_rfl) (by kernel_rfl) (by kernel_rfl) (by kernel_rfl) (by kernel_rfl)) (meanIf (subI m (.al n v)) _) rfl ?_
          simp only [zW,zX,zD,builtinA,isLeaf,const1,ustrA,simprocAttr,ti3,ti4,ti9,ti140,ti158,ti180,ti360,ti375,ca199,mi375,cf,Tryz.results203,wpG_upd,hfnd,hup]
          refine ⟨by simp [esB,bkE,subI,meanI],⟨by omega,by rw [hlen]; omega⟩,⟨by omega,by rw [hlen]; omega,fun v' hv'=>?_⟩,?_⟩
          · simp only [List.mem_singleton] at hv'
            subst hv'; rfl
          simp only [zW,zX,zD,builtinA,isLeaf,const1,ustrA,simprocAttr,ti3,ti4,ti9,ti140,ti158,ti180,ti360,ti375,ca199,mi375,cf,Tryz.results203,hst,hi1,LoopK_eq]
          refine ⟨⟨zs.length + 1,m ++ [(([],n),subV m v)],zs ++ [subI m (.al n v)],_,by omega,by simp,⟨fun x hx=>?_,fun x hx=>?_⟩,hqn _ rfl,rfl,rfl⟩,?_⟩
          · rcases List.mem_append.1 hx with hx | hx
            · exact hm1 x hx
            · rw [List.mem_singleton.1 hx]; exact hVO
          · rw [htk]
            rcases List.mem_append.1 hx with hx | hx
            · exact ⟨(hm2 x hx).1,List.mem_append_left _ (hm2 x hx).2⟩
            · rw [List.mem_singleton.1 hx]; exact ⟨rfl,List.mem_append_right _ (by simp [viK])⟩
          · simp only [intOf]; omega
        | ab n =>
          have hkn : lookB ([],n) m = none:=by
            rcases Classical.em (lookB ([],n) m = none) with h | h
            · exact h
            · obtain ⟨x,hx,hxe⟩:=look_mem h
              have:=(hm2 x hx).2
              rw [hxe] at this
              exact absurd this hnot
          have hfnd : findA KB (bkE ([],n)) (esB m) 0 = some none:=by
            rcases find_b ([],n) m 0 with ⟨f1,_⟩ | ⟨j,w,_,f2⟩
            · exact f1
            · rw [hkn] at f2; cases f2
          have hup:=upd_noneB m ([],n) (.nm [] n)
          simp only [bkE] at hfnd hup
          simp only [viK,kE]
          simp only [zW,zX,zD,builtinA,isLeaf,const1,ustrA,simprocAttr,ti3,ti4,ti9,ti140,ti158,ti180,ti360,ti375,ca199,mi375,cf,Tryz.results203,hlen,vRows_length]
          refine .inr (drawE_intro [(false,0,1),(false,0,1),(false,0,1),(false,0,1),(false,0,0),(true,0,0),(true,1,1)] [A ++ (.mapb (esB m) :: .cells [.map A.length] :: .row 1 (vRows zs ++ List.replicate (ys.length - zs.length) [.nili]) 0 :: (B ++ [.cells [.bool false,.str n]])),A ++ (.mapb (esB m) :: .cells [.map A.length] :: .row 1 (vRows zs ++ List.replicate (ys.length - zs.length) [.nili]) 0 :: (B ++ [.cells [.bool false,.str n]])),A ++ (.mapb (esB (m ++ [(([],n),.nm [] n)])) :: .cells [.map A.length] :: .row 1 (vRows zs ++ List.replicate (ys.length - zs.length) [.nili]) 0 :: (B ++ [.cells [.bool false,.str n]]))] 2 rfl (by kernel_rfl) (by kernel_rfl) (by kernel_rfl) (by kernel_rfl) (by kernel_rfl) (by kernel_rfl) ?_)
          simp only [zW,zX,zD,builtinA,isLeaf,const1,ustrA,simprocAttr,ti3,ti4,ti9,ti140,ti158,ti180,ti360,ti375,ca199,mi375,cf,Tryz.results203]
          refine wpG_invoke _ _ _ _ _ _ _ _ _ _ _ _ _ _ _ _ _ _ ?_
          simp only [zW,zX,zD,builtinA,isLeaf,const1,ustrA,simprocAttr,ti3,ti4,ti9,ti140,ti158,ti180,ti360,ti375,ca199,mi375,cf,Tryz.results203]
          refine methI_invE (metI3 (by kernel_rfl) (by kernel_rfl) (by kernel_rfl) (by kernel_rfl) (by kernel_rfl) (by kernel_rfl)) (meanIf (subI m (.ab n)) _) rfl ?_
          simp only [zW,zX,zD,builtinA,isLeaf,const1,ustrA,simprocAttr,ti3,ti4,ti9,ti140,ti158,ti180,ti360,ti375,ca199,mi375,cf,Tryz.results203,wpG_upd,hfnd,hup]
          refine ⟨by simp [esB,bkE,subI,meanI],⟨by omega,by rw [hlen]; omega⟩,⟨by omega,by rw [hlen]; omega,fun v' hv'=>?_⟩,?_⟩
          · simp only [List.mem_singleton] at hv'
            subst hv'; rfl
          simp only [zW,zX,zD,builtinA,isLeaf,const1,ustrA,simprocAttr,ti3,ti4,ti9,ti140,ti158,ti180,ti360,ti375,ca199,mi375,cf,Tryz.results203,hst,hi1,LoopK_eq]
          refine ⟨⟨zs.length + 1,m ++ [(([],n),.nm [] n)],zs ++ [subI m (.ab n)],_,by omega,by simp,⟨fun x hx=>?_,fun x hx=>?_⟩,hqn _ rfl,rfl,rfl⟩,?_⟩
          · rcases List.mem_append.1 hx with hx | hx
            · exact hm1 x hx
            · rw [List.mem_singleton.1 hx]; exact hVO
          · rw [htk]
            rcases List.mem_append.1 hx with hx | hx
            · exact ⟨(hm2 x hx).1,List.mem_append_left _ (hm2 x hx).2⟩
            · rw [List.mem_singleton.1 hx]; exact ⟨rfl,List.mem_append_right _ (by simp [viK])⟩
          · simp only [intOf]; omega
    · have d2 : decide ((i : Int) < (ys.length : Int)) = false:=by simp; omega
      have e : zs.length = ys.length:=by omega
      subst hzl
      have hz : List.replicate (ys.length - zs.length) [AV.nili] = []:=by rw [e]; simp
      rw [hz,List.append_nil]
      simp only [zW,zX,zD,builtinA,isLeaf,const1,ustrA,simprocAttr,ti3,ti4,ti9,ti140,ti158,ti180,ti360,ti375,ca199,mi375,cf,Tryz.results203,vRows_length,d2]
      rw [List.drop_of_length_le (by omega),normL] at hq
      exact ⟨_,rfl,.inl ⟨zs,2,by rw [hq]; simp,rfl,by simp,rfl⟩⟩
end Go.Proofs.YtnjdbgiincliaaaGreat
/- Reading a signature with normal types, and what a name in it stands for. -/
set_option linter.unusedVariables false
set_option linter.unusedSimpArgs false
namespace Go.Proofs.YtnjdbgiincliaaaGreat
open Go.Abs
end Go.Proofs.YtnjdbgiincliaaaGreat
namespace Go.Proofs.YtnjdbgiincliaaaGreat
open Go.Abs
def RdN (s : List SigI) : Option (List VI) → Prop
  | some zs=>∃ ys,s.length ≤ 8 ∧ ReadsTo s ys ∧ ordB ys = true ∧ normL [] ys = some zs
  | none=>(8 < s.length ∨ ∃ x ∈ s,itemOk x = false) ∨ ∃ ys,s.length ≤ 8 ∧ ReadsTo s ys ∧ (ordB ys = false ∨ normL [] ys = none)
set_option maxRecDepth 100000 in
theorem impl_readNormal (s : List SigI) (hs : s.length ≤ 1048576) (ho : ∀ x ∈ s,x.Ok ∧ sz x.typ ≤ 1048576) (A : List Box) : ACalls Tryz.prog 117 [.slice (sEs s)] A (fun r A'=>∃ B,A' = A ++ B ∧
    ((∃ zs j,RdN s (some zs) ∧ r = .tuple [.own (A.length + j),.bool true] ∧ j < B.length ∧ B.getD j .dead = .row 1 (vRows zs) 0) ∨ (RdN s none ∧ r = .tuple [.nils,.bool false]))):=by
  refine acalls_enterK (cf:=cf 17 [0,2,3,4,5,12]) foll Tryz.func117 Tryz.ntmps117 (by simp [cf]) ?_
  simp only [Tryz.f117,EnterK_some,zW,zX,zD,builtinA,isLeaf,const1,ustrA,simprocAttr,ca91,ca203,cf,Tryz.results117]
  refine callK_intro (by simp only [zW,zX,zD,builtinA,isLeaf,const1,ustrA,simprocAttr,Option.map_some]; rfl) (impl_readSig s hs ho _) ?_ rfl
  rintro r A' ⟨h,rfl⟩
  rcases h with ⟨ys,h8,hrt,rfl⟩ | ⟨hbad,rfl⟩
  · cases hord : ordB ys with
    | false =>
      simp only [zW,zX,zD,builtinA,isLeaf,const1,ustrA,simprocAttr,ca91,ca203,cf,Tryz.results117]
      exact ⟨[],by simp,.inr (.inr ⟨ys,h8,hrt,.inl hord⟩)⟩
    | true =>
      have hn:=impl_normal ys (by have:=hrt.1; omega) (fun k hk=>by
        have:=hrt.2 k (by rw [← hrt.1]; exact hk)
        exact mean_ok this.1 this.2) hord
      simp only [zW,zX,zD,builtinA,isLeaf,const1,ustrA,simprocAttr,ca91,ca203,cf,Tryz.results117]
      refine callO_intro (hn _) ?_
      rintro r A2 ⟨B,rfl,⟨zs,j,e,rfl,hj,hg⟩ | ⟨e,rfl⟩⟩
      · simp only [zW,zX,zD,builtinA,isLeaf,const1,ustrA,simprocAttr,ca91,ca203,cf,Tryz.results117]
        exact ⟨_,rfl,.inl ⟨zs,j,⟨ys,h8,hrt,hord,e⟩,rfl,hj,hg⟩⟩
      · simp only [zW,zX,zD,builtinA,isLeaf,const1,ustrA,simprocAttr,ca91,ca203,cf,Tryz.results117]
        exact ⟨_,rfl,.inr (.inr ⟨ys,h8,hrt,.inr e⟩)⟩
  · simp only [zW,zX,zD,builtinA,isLeaf,const1,ustrA,simprocAttr,ca91,ca203,cf,Tryz.results117]
    exact ⟨[],by simp,.inr (.inl hbad)⟩
theorem normL_len : ∀ {ys zs : List VI} {m : List (BNm × VT)},normL m ys = some zs → zs.length = ys.length
  | [],zs,m,h=>by cases h; rfl
  | y :: ys,zs,m,h=>by
    rw [normL] at h
    split at h
    · obtain ⟨x,hx,rfl⟩:=Option.map_eq_some_iff.1 h
      simp [normL_len hx]
    · cases h
end Go.Proofs.YtnjdbgiincliaaaGreat
/- The model's SubstType answers as the program's. -/
set_option linter.unusedVariables false
set_option linter.unusedSimpArgs false
namespace Go.Proofs.YtnjdbgiincliaaaGreat
open Go.Abs
def lookT (m n : List UInt8) (t : Ty) : List BdI → Ty
  | []=>t
  | b :: bs=>if b.mod = m ∧ b.name = n then b.typ else lookT m n t bs
theorem bd_drop {l : List BdI} {i : Nat} (h : i < l.length) : l.drop i = l.getD i bd0 :: l.drop (i + 1):=by
  have : l.getD i bd0 = l[i]:=by simp [List.getD,h]
  rw [this,List.getElem_cons_drop h]
theorem sub_closed (t : Ty) (n : Nat) : (enc t).all (closed1 n) = true:=by cases t; rw [enc]; rfl
theorem sub_drop (t : Ty) : List.drop 4 (enc t) = []:=by cases t; rw [enc]; rfl
mutual
def subT (bs : List BdI) : Ty → Ty
  | .mk k m n ks=>if k = 3 then lookT m n (.mk k m n ks) bs else .mk k [] [] (subTs bs ks)
def subTs (bs : List BdI) : List Ty → List Ty
  | []=>[]
  | t :: l=>subT bs t :: subTs bs l
end
theorem subTs_map (bs : List BdI) : ∀ l,subTs bs l = l.map (subT bs)
  | []=>by simp [subTs]
  | t :: l=>by rw [subTs,subTs_map bs l]; rfl
set_option maxRecDepth 100000 in
theorem spec_l1Look (bs : List BdI) (hl : bs.length ≤ 1048576) (k : Int) (m n : List UInt8) (ks : List Ty) (A : List Box) : ACalls Tryz.prog 205 [.slice (bEs bs),.agg (enc (.mk k m n ks))] A (fun r A'=>(∃ b,r = .tuple [.agg (enc (lookT m n (.mk k m n ks) bs)),.bool b]) ∧ A' = A):=by
  rw [bT4 (.mk k m n ks)]
  simp only [Ty.kind,Ty.mod,Ty.name,Ty.kids]
  refine acalls_enter (cf:=cf 37 [0,1,3,4,5,6,10,30]) foll Tryz.func205 Tryz.ntmps205 (by simp [cf]) ?_
  simp only [Tryz.f205,EnterK_some,zW,zX,zD,builtinA,isLeaf,const1,Nat.reduceAdd,Nat.reduceMul,Nat.reduceSub,Nat.reduceLT,Nat.reduceLeDiff,Nat.reduceEqDiff,Nat.reduceBEq,Nat.reduceBNe,reduceIte,reduceCtorEq,Int.reduceToNat,Int.reduceLT,Int.reduceLE,Int.reduceEq,Int.reduceNe,Int.reduceNeg,ustrA,ti3,ti9,ti36,ti186,ti292,cf,Tryz.results205]
  refine aloop_intro [0,3,4,6] (fun e A'=>∃ i,i ≤ bs.length ∧ lookT m n (.mk k m n ks) (bs.drop i) = lookT m n (.mk k m n ks) bs ∧ e = [(0,.slice (bEs bs)),(3,.ptr A.length 0),(4,.ptr (A.length + 1) 0),(6,.int .i64 i)] ∧ A' = A ++ [.cells [.int .i64 k,.str m,.str n,.slice (encs ks)],.cells [.int .i64 0,.str [],.str [],.nils]]) (fun e _=>bs.length - (intOf (Abs.look 6 e)).toNat) ?_ ?_
  · simp only [zW,zX,zD,builtinA,isLeaf,const1,Nat.reduceAdd,Nat.reduceMul,Nat.reduceSub,Nat.reduceLT,Nat.reduceLeDiff,Nat.reduceEqDiff,Nat.reduceBEq,Nat.reduceBNe,reduceIte,reduceCtorEq,Int.reduceToNat,Int.reduceLT,Int.reduceLE,Int.reduceEq,Int.reduceNe,Int.reduceNeg,ustrA,ti3,ti9,ti36,ti186,ti292,cf,Tryz.results205]
    exact ⟨0,by omega,rfl,rfl⟩
  · rintro e A' ⟨i,hi,hq,rfl,rfl⟩
    simp only [zW,zX,zD,builtinA,isLeaf,const1,Nat.reduceAdd,Nat.reduceMul,Nat.reduceSub,Nat.reduceLT,Nat.reduceLeDiff,Nat.reduceEqDiff,Nat.reduceBEq,Nat.reduceBNe,reduceIte,reduceCtorEq,Int.reduceToNat,Int.reduceLT,Int.reduceLE,Int.reduceEq,Int.reduceNe,Int.reduceNeg,ustrA,ti3,ti9,ti36,ti186,ti292,cf,Tryz.results205,bEs_length]
    refine condK_intro (fun h2=>?_) (fun h2=>?_)
    · have hi2 : i < bs.length:=by simpa using h2
      have he:=bEs_getD hi2
      have hi1 : IntKind.i64.wrap ((i : Int) + 1) = ((i + 1 : Nat) : Int):=by rw [wrap64 (by omega) (by omega)]; rfl
      have pi : (0 : Int) ≤ (i : Int) ∧ (i : Int) < (bs.length : Int):=⟨by omega,by omega⟩
      rw [bd_drop hi2,lookT] at hq
      generalize bs.getD i bd0 = b at *
      simp only [bE] at he
      simp only [zW,zX,zD,builtinA,isLeaf,const1,Nat.reduceAdd,Nat.reduceMul,Nat.reduceSub,Nat.reduceLT,Nat.reduceLeDiff,Nat.reduceEqDiff,Nat.reduceBEq,Nat.reduceBNe,reduceIte,reduceCtorEq,Int.reduceToNat,Int.reduceLT,Int.reduceLE,Int.reduceEq,Int.reduceNe,Int.reduceNeg,ustrA,ti3,ti9,ti36,ti186,ti292,cf,Tryz.results205,he,bEs_length]
      refine .inl ⟨by kernel_rfl,by kernel_rfl,pi,?_⟩
      by_cases k1 : b.mod = m
      · simp only [zW,zX,zD,builtinA,isLeaf,const1,Nat.reduceAdd,Nat.reduceMul,Nat.reduceSub,Nat.reduceLT,Nat.reduceLeDiff,Nat.reduceEqDiff,Nat.reduceBEq,Nat.reduceBNe,reduceIte,reduceCtorEq,Int.reduceToNat,Int.reduceLT,Int.reduceLE,Int.reduceEq,Int.reduceNe,Int.reduceNeg,ustrA,ti3,ti9,ti36,ti186,ti292,cf,Tryz.results205,decide_eq_true k1,he,bEs_length]
        refine ⟨pi,?_⟩
        by_cases k2 : b.name = n
        · rw [if_pos ⟨k1,k2⟩] at hq
          simp only [zW,zX,zD,builtinA,isLeaf,const1,Nat.reduceAdd,Nat.reduceMul,Nat.reduceSub,Nat.reduceLT,Nat.reduceLeDiff,Nat.reduceEqDiff,Nat.reduceBEq,Nat.reduceBNe,reduceIte,reduceCtorEq,Int.reduceToNat,Int.reduceLT,Int.reduceLE,Int.reduceEq,Int.reduceNe,Int.reduceNeg,ustrA,ti3,ti9,ti36,ti186,ti292,cf,Tryz.results205,decide_eq_true k2,he,bEs_length]
          refine ⟨pi,true,?_⟩
          rw [← hq,bT4]
        · rw [if_neg (fun h=>k2 h.2)] at hq
          simp only [zW,zX,zD,builtinA,isLeaf,const1,Nat.reduceAdd,Nat.reduceMul,Nat.reduceSub,Nat.reduceLT,Nat.reduceLeDiff,Nat.reduceEqDiff,Nat.reduceBEq,Nat.reduceBNe,reduceIte,reduceCtorEq,Int.reduceToNat,Int.reduceLT,Int.reduceLE,Int.reduceEq,Int.reduceNe,Int.reduceNeg,ustrA,ti3,ti9,ti36,ti186,ti292,cf,Tryz.results205,decide_eq_false k2,hi1,LoopK_eq]
          refine ⟨⟨i + 1,by omega,hq,rfl⟩,?_⟩
          simp only [intOf]; omega
      · rw [if_neg (fun h=>k1 h.1)] at hq
        simp only [zW,zX,zD,builtinA,isLeaf,const1,Nat.reduceAdd,Nat.reduceMul,Nat.reduceSub,Nat.reduceLT,Nat.reduceLeDiff,Nat.reduceEqDiff,Nat.reduceBEq,Nat.reduceBNe,reduceIte,reduceCtorEq,Int.reduceToNat,Int.reduceLT,Int.reduceLE,Int.reduceEq,Int.reduceNe,Int.reduceNeg,ustrA,ti3,ti9,ti36,ti186,ti292,cf,Tryz.results205,decide_eq_false k1,hi1,LoopK_eq]
        refine ⟨⟨i + 1,by omega,hq,rfl⟩,?_⟩
        simp only [intOf]; omega
    · have : i = bs.length:=by simp at h2; omega
      subst this
      rw [List.drop_length,lookT] at hq
      simp only [zW,zX,zD,builtinA,isLeaf,const1,Nat.reduceAdd,Nat.reduceMul,Nat.reduceSub,Nat.reduceLT,Nat.reduceLeDiff,Nat.reduceEqDiff,Nat.reduceBEq,Nat.reduceBNe,reduceIte,reduceCtorEq,Int.reduceToNat,Int.reduceLT,Int.reduceLE,Int.reduceEq,Int.reduceNe,Int.reduceNeg,ustrA,ti3,ti9,ti36,ti186,ti292,cf,Tryz.results205]
      refine ⟨false,?_⟩
      rw [← hq,bT4]; rfl
theorem lookT_sz (bs : List BdI) (hz : ∀ b ∈ bs,sz b.typ ≤ 1048576) (m n : List UInt8) (t : Ty) (ht : sz t ≤ 1048576) : sz (lookT m n t bs) ≤ 1048576:=by
  induction bs with
  | nil=>exact ht
  | cons b bs ih =>
    rw [lookT]
    split
    · exact hz _ (by simp)
    · exact ih fun x hx=>hz x (by simp [hx])
set_option maxRecDepth 100000 in
theorem spec_l1Subst (bs : List BdI) (hl : bs.length ≤ 1048576) (hz : ∀ b ∈ bs,sz b.typ ≤ 1048576) (τ : Ty) (hτ : sz τ ≤ 1048576) : ∀ (A : List Box),ACalls Tryz.prog 119 [.agg (enc τ),.slice (bEs bs)] A (fun r A'=>r = .agg (enc (subT bs τ)) ∧ A' = A):=by
  induction τ using Ty.ind with
  | h k m n ks ih =>
    intro A
    have hks : ks.length ≤ 1048576:=by rw [sz] at hτ; omega
    have hok : ∀ t ∈ ks,sz t ≤ 1048576:=fun t ht=>by rw [sz] at hτ; have:=szs_mem ht; omega
    by_cases hk3 : k = 3
    · have hL:=spec_l1Look bs hl k m n ks
      have hC : ∀ A,ACalls Tryz.prog 204 [.agg (enc (lookT m n (.mk k m n ks) bs))] A (fun r A'=>r = .agg (enc (lookT m n (.mk k m n ks) bs)) ∧ A' = A):=fun A=>spec_l1Copy0 _ (lookT_sz bs hz m n _ hτ) A
      have hs3 : subT bs (.mk k m n ks) = lookT m n (.mk k m n ks) bs:=by rw [subT,if_pos hk3]
      rw [hs3]
      generalize lookT m n (.mk k m n ks) bs = ρ at *
      rw [bT4 (.mk k m n ks)] at hL ⊢
      simp only [Ty.kind,Ty.mod,Ty.name,Ty.kids] at hL ⊢
      refine acalls_enter (cf:=cf 43 [0,1,2,4,5,7,8,11,27]) foll Tryz.func119 Tryz.ntmps119 (by simp [cf]) ?_
      simp only [Tryz.f119,EnterK_some,zW,zX,zD,builtinA,isLeaf,const1,Nat.reduceAdd,Nat.reduceMul,Nat.reduceSub,Nat.reduceLT,Nat.reduceLeDiff,Nat.reduceEqDiff,Nat.reduceBEq,Nat.reduceBNe,reduceIte,reduceCtorEq,Int.reduceToNat,Int.reduceLT,Int.reduceLE,Int.reduceEq,Int.reduceNe,Int.reduceNeg,ustrA,ti3,ti34,ti36,ca119,ca204,ca205,cf,Tryz.results119]
      simp only [zW,zX,zD,builtinA,isLeaf,const1,Nat.reduceAdd,Nat.reduceMul,Nat.reduceSub,Nat.reduceLT,Nat.reduceLeDiff,Nat.reduceEqDiff,Nat.reduceBEq,Nat.reduceBNe,reduceIte,reduceCtorEq,Int.reduceToNat,Int.reduceLT,Int.reduceLE,Int.reduceEq,Int.reduceNe,Int.reduceNeg,ustrA,ti3,ti34,ti36,ca119,ca204,ca205,cf,Tryz.results119,decide_eq_true hk3]
      refine callK_intro (by simp only [zW,zX,zD,builtinA,isLeaf,const1,Nat.reduceAdd,Nat.reduceMul,Nat.reduceSub,Nat.reduceLT,Nat.reduceLeDiff,Nat.reduceEqDiff,Nat.reduceBEq,Nat.reduceBNe,reduceIte,reduceCtorEq,Int.reduceToNat,Int.reduceLT,Int.reduceLE,Int.reduceEq,Int.reduceNe,Int.reduceNeg,ustrA,Option.map_some]; rfl) (hL _) ?_ rfl
      rintro r A' ⟨⟨b,rfl⟩,rfl⟩
      simp only [zW,zX,zD,builtinA,isLeaf,const1,Nat.reduceAdd,Nat.reduceMul,Nat.reduceSub,Nat.reduceLT,Nat.reduceLeDiff,Nat.reduceEqDiff,Nat.reduceBEq,Nat.reduceBNe,reduceIte,reduceCtorEq,Int.reduceToNat,Int.reduceLT,Int.reduceLE,Int.reduceEq,Int.reduceNe,Int.reduceNeg,ustrA,ti3,ti34,ti36,ca119,ca204,ca205,cf,Tryz.results119,enc_length,enc_take,sub_drop,frzL_enc,sub_closed,Option.map_some]
      refine callK_intro (by simp only [zW,zX,zD,builtinA,isLeaf,const1,Nat.reduceAdd,Nat.reduceMul,Nat.reduceSub,Nat.reduceLT,Nat.reduceLeDiff,Nat.reduceEqDiff,Nat.reduceBEq,Nat.reduceBNe,reduceIte,reduceCtorEq,Int.reduceToNat,Int.reduceLT,Int.reduceLE,Int.reduceEq,Int.reduceNe,Int.reduceNeg,ustrA,enc_length,enc_take,sub_drop,frzL_enc,sub_closed,Option.map_some]; rfl) (hC _) ?_ rfl; rintro v A' ⟨rfl,rfl⟩
      simp only [zW,zX,zD,builtinA,isLeaf,const1,Nat.reduceAdd,Nat.reduceMul,Nat.reduceSub,Nat.reduceLT,Nat.reduceLeDiff,Nat.reduceEqDiff,Nat.reduceBEq,Nat.reduceBNe,reduceIte,reduceCtorEq,Int.reduceToNat,Int.reduceLT,Int.reduceLE,Int.reduceEq,Int.reduceNe,Int.reduceNeg,ustrA,ti3,ti34,ti36,ca119,ca204,ca205,cf,Tryz.results119,enc_length,enc_take,sub_drop,frzL_enc,sub_closed,Option.map_some]
    have hs3 : subT bs (.mk k m n ks) = .mk k [] [] (ks.map (subT bs)):=by rw [subT,if_neg hk3,subTs_map]
    rw [hs3]
    rw [enc,enc]
    refine acalls_enter (cf:=cf 43 [0,1,2,4,5,7,8,11,27]) foll Tryz.func119 Tryz.ntmps119 (by simp [cf]) ?_
    simp only [Tryz.f119,EnterK_some,zW,zX,zD,builtinA,isLeaf,const1,Nat.reduceAdd,Nat.reduceMul,Nat.reduceSub,Nat.reduceLT,Nat.reduceLeDiff,Nat.reduceEqDiff,Nat.reduceBEq,Nat.reduceBNe,reduceIte,reduceCtorEq,Int.reduceToNat,Int.reduceLT,Int.reduceLE,Int.reduceEq,Int.reduceNe,Int.reduceNeg,ustrA,ti3,ti34,ti36,ca119,ca204,ca205,cf,Tryz.results119]
    simp only [zW,zX,zD,builtinA,isLeaf,const1,Nat.reduceAdd,Nat.reduceMul,Nat.reduceSub,Nat.reduceLT,Nat.reduceLeDiff,Nat.reduceEqDiff,Nat.reduceBEq,Nat.reduceBNe,reduceIte,reduceCtorEq,Int.reduceToNat,Int.reduceLT,Int.reduceLE,Int.reduceEq,Int.reduceNe,Int.reduceNeg,ustrA,ti3,ti34,ti36,ca119,ca204,ca205,cf,Tryz.results119,decide_eq_false hk3]
    refine aloop_intro [1,2,4,7,8] (fun e A'=>∃ i B x,i ≤ ks.length ∧ e = [(1,.slice (bEs bs)),(2,.ptr A.length 0),(4,.ptr (A.length + 1) 0),(7,.ptr (A.length + 2) 0),(8,.int .i64 i)] ∧ A' = A ++ (.cells [.int .i64 k,.str m,.str n,.slice (encs ks)] :: .cells [.int .i64 0,.str [],.str [],.nils] :: .cells [.int .i64 k,.str [],.str [],x] :: B) ∧
      ((i = 0 ∧ x = .nils ∧ B = []) ∨ (∃ j,x = .own (A.length + (j + 3)) ∧ j < B.length ∧ B.getD j .dead = .row 4 (encs ((ks.take i).map (subT bs))) 0))) (fun e _=>ks.length - (intOf (Abs.look 8 e)).toNat) ?_ ?_
    · simp only [zW,zX,zD,builtinA,isLeaf,const1,Nat.reduceAdd,Nat.reduceMul,Nat.reduceSub,Nat.reduceLT,Nat.reduceLeDiff,Nat.reduceEqDiff,Nat.reduceBEq,Nat.reduceBNe,reduceIte,reduceCtorEq,Int.reduceToNat,Int.reduceLT,Int.reduceLE,Int.reduceEq,Int.reduceNe,Int.reduceNeg,ustrA,ti3,ti34,ti36,ca119,ca204,ca205,cf,Tryz.results119]
      exact ⟨0,[],.nils,by omega,rfl,rfl,.inl ⟨rfl,rfl,rfl⟩⟩
    · rintro e A' ⟨i,B,x,hi,rfl,rfl,hx⟩
      simp only [zW,zX,zD,builtinA,isLeaf,const1,Nat.reduceAdd,Nat.reduceMul,Nat.reduceSub,Nat.reduceLT,Nat.reduceLeDiff,Nat.reduceEqDiff,Nat.reduceBEq,Nat.reduceBNe,reduceIte,reduceCtorEq,Int.reduceToNat,Int.reduceLT,Int.reduceLE,Int.reduceEq,Int.reduceNe,Int.reduceNeg,ustrA,ti3,ti34,ti36,ca119,ca204,ca205,cf,Tryz.results119,encs_length]
      refine condK_intro (fun h2=>?_) (fun h2=>?_)
      · have hi2 : i < ks.length:=by simpa using h2
        have he:=encs_getD hi2
        have hmm:=getD_mem hi2
        have hi1 : IntKind.i64.wrap ((i : Int) + 1) = ((i + 1 : Nat) : Int):=by rw [wrap64 (by omega) (by omega)]; rfl
        rcases hx with ⟨rfl,rfl,rfl⟩ | ⟨j,rfl,hj,hg⟩
        · simp only [wpc_skip,AThen_normal,wpc_block,wpc_seq,wpc_drawn]
          refine .inr (drawE_intro [(false,0,2),(false,0,2),(false,0,0),(false,0,0),(false,0,0),(false,0,0),(false,0,0),(false,0,0),(true,0,0),(true,1,1),(true,2,2),(false,3,3),(true,3,3)] [A ++ [.cells [.int .i64 k,.str m,.str n,.slice (encs ks)],.cells [.int .i64 0,.str [],.str [],.nils],.cells [.int .i64 k,.str [],.str [],.nils]],A ++ [.cells [.int .i64 k,.str m,.str n,.slice (encs ks)],.cells [.int .i64 0,.str [],.str [],.nils],.cells [.int .i64 k,.str [],.str [],.nils]],A ++ [.cells [.int .i64 k,.str m,.str n,.slice (encs ks)],.cells [.int .i64 0,.str [],.str [],.nils],.cells [.int .i64 k,.str [],.str [],.nils],.row 4 [enc (subT bs (ks.getD 0 ty0))] 0],A ++ [.cells [.int .i64 k,.str m,.str n,.slice (encs ks)],.cells [.int .i64 0,.str [],.str [],.nils],.cells [.int .i64 k,.str [],.str [],.nils],.row 4 [enc (subT bs (ks.getD 0 ty0))] 0,.row 4 [enc (subT bs (ks.getD 0 ty0))] 0],A ++ [.cells [.int .i64 k,.str m,.str n,.slice (encs ks)],.cells [.int .i64 0,.str [],.str [],.nils],.cells [.int .i64 k,.str [],.str [],.own (A.length + 4)],.row 4 [enc (subT bs (ks.getD 0 ty0))] 0,.row 4 [enc (subT bs (ks.getD 0 ty0))] 0]] 4 rfl (by kernel_rfl) (by kernel_rfl) (by kernel_rfl) (by kernel_rfl) (by kernel_rfl) (by kernel_rfl) ?_)
          simp only [zW,zX,zD,builtinA,isLeaf,const1,Nat.reduceAdd,Nat.reduceMul,Nat.reduceSub,Nat.reduceLT,Nat.reduceLeDiff,Nat.reduceEqDiff,Nat.reduceBEq,Nat.reduceBNe,reduceIte,reduceCtorEq,Int.reduceToNat,Int.reduceLT,Int.reduceLE,Int.reduceEq,Int.reduceNe,Int.reduceNeg,ustrA,ti3,ti34,ti36,ca119,ca204,ca205,cf,Tryz.results119,he,enc_length,enc_take,sub_drop,frzL_enc,sub_closed,Option.map_some,encs_length]
          refine ⟨⟨by omega,by omega⟩,?_⟩
          refine callE_intro (by simp only [zW,zX,zD,builtinA,isLeaf,const1,Nat.reduceAdd,Nat.reduceMul,Nat.reduceSub,Nat.reduceLT,Nat.reduceLeDiff,Nat.reduceEqDiff,Nat.reduceBEq,Nat.reduceBNe,reduceIte,reduceCtorEq,Int.reduceToNat,Int.reduceLT,Int.reduceLE,Int.reduceEq,Int.reduceNe,Int.reduceNeg,ustrA,enc_length,enc_take,sub_drop,frzL_enc,sub_closed,Option.map_some] <;> rfl) (ih _ hmm (hok _ hmm) _) ?_ rfl rfl
          simp only [zW,zX,zD,builtinA,isLeaf,const1,Nat.reduceAdd,Nat.reduceMul,Nat.reduceSub,Nat.reduceLT,Nat.reduceLeDiff,Nat.reduceEqDiff,Nat.reduceBEq,Nat.reduceBNe,reduceIte,reduceCtorEq,Int.reduceToNat,Int.reduceLT,Int.reduceLE,Int.reduceEq,Int.reduceNe,Int.reduceNeg,ustrA,ti3,ti34,ti36,ca119,ca204,ca205,cf,Tryz.results119,he,enc_length,enc_take,sub_drop,frzL_enc,sub_closed,Option.map_some,encs_length]
          have hsn : [enc (subT bs (ks.getD 0 ty0))] = encs ((ks.take 1).map (subT bs)):=by
            match ks,hi2 with
            | t :: l,_=>simp [encs]
          simp only [zW,zX,zD,builtinA,isLeaf,const1,Nat.reduceAdd,Nat.reduceMul,Nat.reduceSub,Nat.reduceLT,Nat.reduceLeDiff,Nat.reduceEqDiff,Nat.reduceBEq,Nat.reduceBNe,reduceIte,reduceCtorEq,Int.reduceToNat,Int.reduceLT,Int.reduceLE,Int.reduceEq,Int.reduceNe,Int.reduceNeg,ustrA,ti3,ti34,ti36,ca119,ca204,ca205,cf,Tryz.results119,hi1,LoopK_eq]
          refine ⟨fun v hv=>enc_leaf _ v hv,fun r hr=>by rw [List.mem_singleton.1 hr,enc_length],⟨0 + 1,[.row 4 [enc (subT bs (ks.getD 0 ty0))] 0,.row 4 [enc (subT bs (ks.getD 0 ty0))] 0],_,by omega,rfl,rfl,.inr ⟨1,rfl,by simp,by rw [hsn]; rfl⟩⟩,?_⟩
          simp only [intOf]
          omega
        · have hsn : encs ((ks.take i).map (subT bs)) ++ [enc (subT bs (ks.getD i ty0))] = encs ((ks.take (i + 1)).map (subT bs)):=by
            rw [encs_map,encs_map,List.take_add_one,List.map_append,List.map_append]
            simp [List.getD,hi2]
          simp only [wpc_skip,AThen_normal,wpc_block,wpc_seq,wpc_drawn]
          refine .inr (drawE_intro [(false,0,2),(false,0,2),(false,0,0),(false,0,0),(false,0,0),(false,0,0),(false,0,0),(false,0,0),(true,0,0),(true,1,1),(true,2,2),(false,3,3),(true,3,3)] [A ++ (.cells [.int .i64 k,.str m,.str n,.slice (encs ks)] :: .cells [.int .i64 0,.str [],.str [],.nils] :: .cells [.int .i64 k,.str [],.str [],.own (A.length + (j + 3))] :: B),A ++ (.cells [.int .i64 k,.str m,.str n,.slice (encs ks)] :: .cells [.int .i64 0,.str [],.str [],.nils] :: .cells [.int .i64 k,.str [],.str [],.own (A.length + (j + 3))] :: B),A ++ (.cells [.int .i64 k,.str m,.str n,.slice (encs ks)] :: .cells [.int .i64 0,.str [],.str [],.nils] :: .cells [.int .i64 k,.str [],.str [],.own (A.length + (j + 3))] :: (B ++ [.row 4 [enc (subT bs (ks.getD i ty0))] 0])),A ++ (.cells [.int .i64 k,.str m,.str n,.slice (encs ks)] :: .cells [.int .i64 0,.str [],.str [],.nils] :: .cells [.int .i64 k,.str [],.str [],.own (A.length + (j + 3))] :: (B.set j .dead ++ [.row 4 [enc (subT bs (ks.getD i ty0))] 0,.row 4 (encs ((ks.take i).map (subT bs)) ++ [enc (subT bs (ks.getD i ty0))]) 0])),A ++ (.cells [.int .i64 k,.str m,.str n,.slice (encs ks)] :: .cells [.int .i64 0,.str [],.str [],.nils] :: .cells [.int .i64 k,.str [],.str [],.own (A.length + (B.length + 1 + 3))] :: (B.set j .dead ++ [.row 4 [enc (subT bs (ks.getD i ty0))] 0,.row 4 (encs ((ks.take i).map (subT bs)) ++ [enc (subT bs (ks.getD i ty0))]) 0]))] 4 rfl (by kernel_rfl) (by kernel_rfl) (by kernel_rfl) (by kernel_rfl) (by kernel_rfl) (by kernel_rfl) ?_)
          simp only [zW,zX,zD,builtinA,isLeaf,const1,Nat.reduceAdd,Nat.reduceMul,Nat.reduceSub,Nat.reduceLT,Nat.reduceLeDiff,Nat.reduceEqDiff,Nat.reduceBEq,Nat.reduceBNe,reduceIte,reduceCtorEq,Int.reduceToNat,Int.reduceLT,Int.reduceLE,Int.reduceEq,Int.reduceNe,Int.reduceNeg,ustrA,ti3,ti34,ti36,ca119,ca204,ca205,cf,Tryz.results119,he,hj,hg,enc_length,enc_take,sub_drop,frzL_enc,sub_closed,Option.map_some,encs_length]
          refine ⟨⟨by omega,by omega⟩,?_⟩
          refine callE_intro (by simp only [zW,zX,zD,builtinA,isLeaf,const1,Nat.reduceAdd,Nat.reduceMul,Nat.reduceSub,Nat.reduceLT,Nat.reduceLeDiff,Nat.reduceEqDiff,Nat.reduceBEq,Nat.reduceBNe,reduceIte,reduceCtorEq,Int.reduceToNat,Int.reduceLT,Int.reduceLE,Int.reduceEq,Int.reduceNe,Int.reduceNeg,ustrA,enc_length,enc_take,sub_drop,frzL_enc,sub_closed,Option.map_some] <;> rfl) (ih _ hmm (hok _ hmm) _) ?_ rfl rfl
          simp only [zW,zX,zD,builtinA,isLeaf,const1,Nat.reduceAdd,Nat.reduceMul,Nat.reduceSub,Nat.reduceLT,Nat.reduceLeDiff,Nat.reduceEqDiff,Nat.reduceBEq,Nat.reduceBNe,reduceIte,reduceCtorEq,Int.reduceToNat,Int.reduceLT,Int.reduceLE,Int.reduceEq,Int.reduceNe,Int.reduceNeg,ustrA,ti3,ti34,ti36,ca119,ca204,ca205,cf,Tryz.results119,he,hj,hg,enc_length,enc_take,sub_drop,frzL_enc,sub_closed,Option.map_some,encs_length]
          simp only [zW,zX,zD,builtinA,isLeaf,const1,Nat.reduceAdd,Nat.reduceMul,Nat.reduceSub,Nat.reduceLT,Nat.reduceLeDiff,Nat.reduceEqDiff,Nat.reduceBEq,Nat.reduceBNe,reduceIte,reduceCtorEq,Int.reduceToNat,Int.reduceLT,Int.reduceLE,Int.reduceEq,Int.reduceNe,Int.reduceNeg,ustrA,ti3,ti34,ti36,ca119,ca204,ca205,cf,Tryz.results119,hi1,LoopK_eq]
          refine ⟨fun v hv=>enc_leaf _ v hv,⟨fun r hr=>by rw [List.mem_singleton.1 hr,enc_length],by rw [List.length_map,List.length_take]; omega⟩,⟨i + 1,B.set j .dead ++ [.row 4 [enc (subT bs (ks.getD i ty0))] 0,.row 4 (encs ((ks.take i).map (subT bs)) ++ [enc (subT bs (ks.getD i ty0))]) 0],_,by omega,rfl,rfl,.inr ⟨B.length + 1,rfl,by simp,?_⟩⟩,?_⟩
          · rw [getD_sapp,hsn]; rfl
          · simp only [intOf]
            omega
      · have : i = ks.length:=by simp at h2; omega
        subst this
        rw [List.take_length] at hx
        rcases hx with ⟨h0,rfl,rfl⟩ | ⟨j,rfl,hj,hg⟩
        · have : ks = []:=by cases ks with
            | nil=>rfl
            | cons=>simp at h0
          subst this
          simp only [zW,zX,zD,builtinA,isLeaf,const1,Nat.reduceAdd,Nat.reduceMul,Nat.reduceSub,Nat.reduceLT,Nat.reduceLeDiff,Nat.reduceEqDiff,Nat.reduceBEq,Nat.reduceBNe,reduceIte,reduceCtorEq,Int.reduceToNat,Int.reduceLT,Int.reduceLE,Int.reduceEq,Int.reduceNe,Int.reduceNeg,ustrA,ti3,ti34,ti36,ca119,ca204,ca205,cf,Tryz.results119,encs]
        · simp only [zW,zX,zD,builtinA,isLeaf,const1,Nat.reduceAdd,Nat.reduceMul,Nat.reduceSub,Nat.reduceLT,Nat.reduceLeDiff,Nat.reduceEqDiff,Nat.reduceBEq,Nat.reduceBNe,reduceIte,reduceCtorEq,Int.reduceToNat,Int.reduceLT,Int.reduceLE,Int.reduceEq,Int.reduceNe,Int.reduceNeg,ustrA,ti3,ti34,ti36,ca119,ca204,ca205,cf,Tryz.results119,hg,hj]
end Go.Proofs.YtnjdbgiincliaaaGreat
namespace Go.Proofs.YtnjdbgiincliaaaGreat
open Go.Abs
theorem toTy_injS : ∀ {v v' : VT},toTy v = toTy v' → v = v'
  | .num,.num,_=>rfl
  | .num,.nm _ _,h=>by simp [toTy] at h
  | .num,.fn _ _,h=>by simp [toTy] at h
  | .nm _ _,.num,h=>by simp [toTy] at h
  | .nm _ _,.fn _ _,h=>by simp [toTy] at h
  | .fn _ _,.num,h=>by simp [toTy] at h
  | .fn _ _,.nm _ _,h=>by simp [toTy] at h
  | .nm m n,.nm m' n',h=>by simp [toTy] at h; rw [h.1,h.2]
  | .fn a b,.fn a' b',h=>by
    simp [toTy] at h
    rw [toTy_injS h.1,toTy_injS h.2]
theorem validB_sub {w : VT} (h : okV w = true) : validB (toTy w) = (decide (dep w ≤ 8) && decide (cnt w ≤ 63)):=by
  rw [Bool.eq_iff_iff]
  simp only [Bool.and_eq_true,decide_eq_true_eq]
  constructor
  · intro hv
    obtain ⟨v,e,hv⟩:=validB_of hv
    rw [toTy_injS e]
    exact ⟨hv.dep,hv.cnt⟩
  · exact fun hd=>validB_toTy ⟨h,hd.1,hd.2⟩
theorem lookB_add (p q : BNm) (v : VT) (m : List (BNm × VT)) : lookB p (addB m q v) = (lookB p m).or (if p = q then some v else none):=by
  have happ : ∀ m : List (BNm × VT),lookB p (m ++ [(q,v)]) = (lookB p m).or (if p = q then some v else none):=by
    intro m
    induction m with
    | nil=>simp [lookB]
    | cons x m ih =>
      obtain ⟨r,w⟩:=x
      simp only [List.cons_append,lookB]
      by_cases e : p = r
      · simp [e]
      · simp [e,ih]
  unfold addB
  rcases hl : lookB q m with _ | w
  · exact happ m
  · by_cases e : p = q
    · subst e; simp [hl]
    · simp [e]
theorem lookB_fold (p : BNm) : ∀ (l m : List (BNm × VT)),lookB p (l.foldl (fun m q=>addB m q.1 q.2) m) = (lookB p m).or (lookB p l)
  | [],m=>by simp [lookB]
  | (q,v) :: l,m=>by
    rw [List.foldl_cons,lookB_fold p l,lookB_add]
    simp only [lookB]
    by_cases e : p = q
    · subst e; simp
    · simp [e]
theorem lookB_foldB (p : BNm) (bd : List (BNm × VT)) : lookB p (foldB bd) = lookB p bd:=by
  rw [foldB,lookB_fold]; simp [lookB]
theorem lookT_eq (m n : List UInt8) (t : Ty) : ∀ bd : List (BNm × VT),lookT m n t (bd.map ofB) = ((lookB (m,n) bd).map toTy).getD t
  | []=>rfl
  | ((a,b),v) :: bd=>by
    simp only [List.map_cons,lookT,lookB,ofB]
    by_cases h : a = m ∧ b = n
    · obtain ⟨rfl,rfl⟩:=h; simp
    · have h2 : ¬ (m,n) = (a,b):=fun e=>h (by cases e; exact ⟨rfl,rfl⟩)
      rw [if_neg h,if_neg h2]
      exact lookT_eq m n t bd
theorem subT_eq (bd : List (BNm × VT)) : ∀ v,subT (bd.map ofB) (toTy v) = toTy (subV (foldB bd) v)
  | .num=>by simp [toTy,subT,subTs,subV]
  | .nm m n=>by
    simp only [toTy,subT,if_true,subV,lookB_foldB,lookT_eq]
    cases lookB (m,n) bd <;> simp [toTy]
  | .fn a b=>by simp [toTy,subT,subTs,subV,subT_eq bd a,subT_eq bd b]
set_option maxRecDepth 100000 in
theorem spec_l1Name0 (m n : List UInt8) (A : List Box) : ACalls Tryz.prog 188 [.str m,.str n] A (fun r A'=>r = .agg (enc (.mk 3 m n [])) ∧ A' = A):=by
  rw [enc,encs]
  refine acalls_enter (cf:=cf 8 [0,1,4]) foll Tryz.func188 Tryz.ntmps188 (by simp [cf]) ?_
  simp only [Tryz.f188,EnterK_some,zW,zX,zD,builtinA,isLeaf,const1,Nat.reduceAdd,Nat.reduceMul,Nat.reduceSub,Nat.reduceLT,Nat.reduceLeDiff,Nat.reduceEqDiff,Nat.reduceBEq,Nat.reduceBNe,reduceIte,reduceCtorEq,Int.reduceToNat,Int.reduceLT,Int.reduceLE,Int.reduceEq,Int.reduceNe,Int.reduceNeg,ustrA,ti36,cf,Tryz.results188]
end Go.Proofs.YtnjdbgiincliaaaGreat
/- What a name of a signature stands for is one thing only. -/
set_option linter.unusedVariables false
set_option linter.unusedSimpArgs false
namespace Go.Proofs.YtnjdbgiincliaaaGreat
open Go.Abs
theorem itemOf_one {x : SigI} {y y' : VI} (h : ItemOf x y) (h' : ItemOf x y') : y = y':=by
  cases y <;> cases y' <;> simp only [ItemOf] at h h'
  all_goals first
    | (exfalso; have:=h.2.1; have:=h'.2.1; omega)
    | (rw [← h.1,← h'.1,toTy_injS (h.2.2.1.symm.trans h'.2.2.1)]; done)
    | (rw [← h.1,← h'.1]; done)
theorem itemOf_yes {x : SigI} {y : VI} (hl : localB x.name = true) (h : ItemOf x y) : itemOk x = true:=by
  cases y <;> simp only [ItemOf] at h
  · simp [itemOk,hl,h.2.1,h.2.2]
  · simp [itemOk,hl,h.2.1,h.2.2.1,validB_toTy h.2.2.2]
  · simp [itemOk,hl,h.2.1,h.2.2.1,validB_toTy h.2.2.2]
theorem vi_ext {ys zs : List VI} (hl : ys.length = zs.length) (h : ∀ i,i < ys.length → ys.getD i vi0 = zs.getD i vi0) : ys = zs:=by
  refine List.ext_getElem hl fun i h1 h2=>?_
  have:=h i h1
  simpa [List.getD,h1,h2] using this
theorem readsTo_one {s : List SigI} {ys zs : List VI} (h : ReadsTo s ys) (h' : ReadsTo s zs) : ys = zs :=
  vi_ext (h.1.trans h'.1.symm) fun i hi=>itemOf_one (h.2 i (h.1 ▸ hi)).2 (h'.2 i (h.1 ▸ hi)).2
theorem readsTo_not {s : List SigI} {ys : List VI} (h : ReadsTo s ys) : ¬ ∃ x ∈ s,itemOk x = false:=by
  rintro ⟨x,hx,hf⟩
  obtain ⟨i,hi,rfl⟩:=List.mem_iff_getElem.1 hx
  have:=h.2 i hi
  have e : s.getD i si0 = s[i]:=by simp [List.getD,hi]
  rw [e] at this
  rw [itemOf_yes this.1 this.2] at hf
  cases hf
theorem rdN_one {s : List SigI} {zs zs' : List VI} (h : RdN s (some zs)) (h' : RdN s (some zs')) : zs = zs':=by
  obtain ⟨ys,_,hr,_,hn⟩:=h
  obtain ⟨ys',_,hr',_,hn'⟩:=h'
  rw [readsTo_one hr hr',hn'] at hn
  exact (Option.some.inj hn).symm
theorem rdN_not {s : List SigI} {zs : List VI} (h : RdN s (some zs)) : ¬ RdN s none:=by
  obtain ⟨ys,h8,hr,ho,hn⟩:=h
  rintro ((h | h) | ⟨ys',_,hr',h | h⟩)
  · omega
  · exact readsTo_not hr h
  · rw [readsTo_one hr' hr,ho] at h; cases h
  · rw [readsTo_one hr' hr,hn] at h; cases h
theorem normL_keys : ∀ {ys zs : List VI} {m : List (BNm × VT)},normL m ys = some zs → zs.map viK = ys.map viK
  | [],zs,m,h=>by cases h; rfl
  | y :: ys,zs,m,h=>by
    rw [normL] at h
    split at h
    · obtain ⟨x,hx,rfl⟩:=Option.map_eq_some_iff.1 h
      simp [normL_keys hx,viK_sub]
    · cases h
theorem keys_getD {ys zs : List VI} (h : zs.map viK = ys.map viK) {i : Nat} (hi : i < zs.length) : viK (zs.getD i vi0) = viK (ys.getD i vi0):=by
  have hl : zs.length = ys.length:=by simpa using congrArg List.length h
  have:=congrArg (fun l=>l[i]?) h
  simpa [List.getD,hi,hl ▸ hi] using this
end Go.Proofs.YtnjdbgiincliaaaGreat
