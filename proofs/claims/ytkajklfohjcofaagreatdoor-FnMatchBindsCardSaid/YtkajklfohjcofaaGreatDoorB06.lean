/- SigNorm, SigRdN. -/
import Derived.Test.YtkajklfohjcofaaGreatDoorB05
import Derived.Test.YtkajklfohjcofaaGreatDoorAbsW3
/- The program's normal signatures. -/
set_option linter.unusedVariables false
set_option linter.unusedSimpArgs false
namespace Go.Proofs.YtkajklfohjcofaaGreatDoor
open Go.Abs
def meanI : VI → VT
  | .ab n=>.nm [] n
  | .al _ v=>v
  | .va _ v=>v
def subI (m : List (BNm × VT)) : VI → VI
  | .ab n=>.ab n
  | .al n v=>.al n (subV m v)
  | .va n v=>.va n (subV m v)
def clN (c : Nat) : AV:=.func (.func 112) [] [.ptr c 0]
set_option maxRecDepth 100000 in
theorem norm_cl (m : List (BNm × VT)) (v : VT) (c i : Nat) (A : List Box) (hc : c < A.length) (hi : i < A.length) (hAc : A.getD c .dead = .cells [.map i]) (hA : A.getD i .dead = .mapb (esB m)) :
    ACalls Tryz.prog 112 [.iface (vT v) (vX v),.ptr c 0] A (fun r A'=>r = .iface (vT (subV m v)) (vX (subV m v)) ∧ A' = A):=by
  refine acalls_enter (cf:=cf 7 [0,1,3]) foll Tryz.func112 Tryz.ntmps112 (by simp [cf]) ?_
  simp only [Tryz.f112,EnterK_some,zW,zX,zD,builtinA,isLeaf,const1,ustrA,simprocAttr,ti102,cf,Tryz.results112]
  simp only [zW,zX,zD,builtinA,isLeaf,const1,ustrA,simprocAttr,ti102,cf,Tryz.results112,hAc]
  refine wpO_invoke _ _ _ _ _ _ _ _ _ _ _ _ _ _ _ _ ?_
  simp only [zW,zX,zD,builtinA,isLeaf,const1,ustrA,simprocAttr,ti102,cf,Tryz.results112]
  refine meth_invK (met3 (by kernel_rfl) (by kernel_rfl) (by kernel_rfl) (by kernel_rfl) (by kernel_rfl) (by kernel_rfl)) (subM m v A i hi hA) rfl (fun _=>rfl) ?_
  rintro r A' ⟨rfl,rfl⟩
  simp only [zW,zX,zD,builtinA,isLeaf,const1,ustrA,simprocAttr,ti102,cf,Tryz.results112]
def RetI (m : List (BNm × VT)) (y : VI) : Prop:=∀ (c i : Nat) (A : List Box),c < A.length → i < A.length → A.getD c .dead = .cells [.map i] → A.getD i .dead = .mapb (esB m) →
  ACalls Tryz.prog ((pickI 171 188 205) y) [viX y,clN c] A (fun r A'=>r = .iface (viT (subI m y)) (viX (subI m y)) ∧ A' = A)
set_option maxRecDepth 100000 in
theorem ab_ret (m : List (BNm × VT)) (n : List UInt8) : RetI m (.ab n):=fun c i A hc hi hAc hA=>by
  show ACalls Tryz.prog 171 _ _ _
  rw [viX,clN]
  refine acalls_enter (cf:=cf 7 [0,2,4]) foll Tryz.func171 Tryz.ntmps171 (by simp [cf]) ?_
  simp only [Tryz.f171,EnterK_some,zW,zX,zD,builtinA,isLeaf,const1,ustrA,simprocAttr,ti89,cf,Tryz.results171]
  rfl
set_option maxRecDepth 100000 in
theorem al_ret (m : List (BNm × VT)) (n : List UInt8) (v : VT) : RetI m (.al n v):=fun c i A hc hi hAc hA=>by
  show ACalls Tryz.prog 188 _ _ _
  have h:=norm_cl m v c i (A ++ [.cells [.str n,.iface (vT v) (vX v)]]) (by simp; omega) (by simp; omega) (by rw [Abs.getD_append_left hc]; exact hAc) (by rw [Abs.getD_append_left hi]; exact hA)
  rw [viX,clN]
  refine acalls_enter (cf:=cf 13 [0,1,2,4]) foll Tryz.func188 Tryz.ntmps188 (by simp [cf]) ?_
  simp only [Tryz.f188,EnterK_some,zW,zX,zD,builtinA,isLeaf,const1,ustrA,simprocAttr,ti9,ti92,ti162,cf,Tryz.results188]
  refine .inl ⟨by kernel_rfl,by kernel_rfl,?_⟩
  refine wpD_callv _ _ _ _ _ _ _ _ _ _ _ _ _ _ _ ?_
  simp only [zW,zX,zD,builtinA,isLeaf,const1,ustrA,simprocAttr,ti9,ti92,ti162,cf,Tryz.results188]
  refine ⟨by kernel_rfl,?_⟩
  refine callD_intro (by simp only [zW,zX,zD,builtinA,isLeaf,const1,ustrA,simprocAttr,Option.map_some,List.nil_append,List.append_nil,List.cons_append] <;> rfl) (h) ?_ rfl
  simp only [zW,zX,zD,builtinA,isLeaf,const1,ustrA,simprocAttr,ti9,ti92,ti162,cf,Tryz.results188]
  rfl
set_option maxRecDepth 100000 in
theorem va_ret (m : List (BNm × VT)) (n : List UInt8) (v : VT) : RetI m (.va n v):=fun c i A hc hi hAc hA=>by
  show ACalls Tryz.prog 205 _ _ _
  have h:=norm_cl m v c i (A ++ [.cells [.str n,.iface (vT v) (vX v)]]) (by simp; omega) (by simp; omega) (by rw [Abs.getD_append_left hc]; exact hAc) (by rw [Abs.getD_append_left hi]; exact hA)
  rw [viX,clN]
  refine acalls_enter (cf:=cf 13 [0,1,2,4]) foll Tryz.func205 Tryz.ntmps205 (by simp [cf]) ?_
  simp only [Tryz.f205,EnterK_some,zW,zX,zD,builtinA,isLeaf,const1,ustrA,simprocAttr,ti9,ti92,ti189,cf,Tryz.results205]
  refine .inl ⟨by kernel_rfl,by kernel_rfl,?_⟩
  refine wpD_callv _ _ _ _ _ _ _ _ _ _ _ _ _ _ _ ?_
  simp only [zW,zX,zD,builtinA,isLeaf,const1,ustrA,simprocAttr,ti9,ti92,ti189,cf,Tryz.results205]
  refine ⟨by kernel_rfl,?_⟩
  refine callD_intro (by simp only [zW,zX,zD,builtinA,isLeaf,const1,ustrA,simprocAttr,Option.map_some,List.nil_append,List.append_nil,List.cons_append] <;> rfl) (h) ?_ rfl
  simp only [zW,zX,zD,builtinA,isLeaf,const1,ustrA,simprocAttr,ti9,ti92,ti189,cf,Tryz.results205]
  rfl
theorem retI (m : List (BNm × VT)) : ∀ y,RetI m y
  | .ab n=>ab_ret m n
  | .al n v=>al_ret m n v
  | .va n v=>va_ret m n v
set_option maxRecDepth 100000 in
theorem ab_mean (n : List UInt8) (A : List Box) : ACalls Tryz.prog 169 [viX (.ab n)] A (fun r A'=>r = .iface (vT (meanI (.ab n))) (vX (meanI (.ab n))) ∧ A' = A):=by
  rw [viX]
  refine acalls_enter (cf:=cf 7 [0,1,2]) foll Tryz.func169 Tryz.ntmps169 (by simp [cf]) ?_
  simp only [Tryz.f169,EnterK_some,zW,zX,zD,builtinA,isLeaf,const1,ustrA,simprocAttr,ti9,ti89,ti154,cf,Tryz.results169]
  rfl
set_option maxRecDepth 100000 in
theorem al_mean (n : List UInt8) (v : VT) (A : List Box) : ACalls Tryz.prog 186 [viX (.al n v)] A (fun r A'=>r = .iface (vT (meanI (.al n v))) (vX (meanI (.al n v))) ∧ A' = A):=by
  rw [viX]
  refine acalls_enter (cf:=cf 5 [0,1,2]) foll Tryz.func186 Tryz.ntmps186 (by simp [cf]) ?_
  simp only [Tryz.f186,EnterK_some,zW,zX,zD,builtinA,isLeaf,const1,ustrA,simprocAttr,ti92,ti162,cf,Tryz.results186]
  rfl
set_option maxRecDepth 100000 in
theorem va_mean (n : List UInt8) (v : VT) (A : List Box) : ACalls Tryz.prog 203 [viX (.va n v)] A (fun r A'=>r = .iface (vT (meanI (.va n v))) (vX (meanI (.va n v))) ∧ A' = A):=by
  rw [viX]
  refine acalls_enter (cf:=cf 5 [0,1,2]) foll Tryz.func203 Tryz.ntmps203 (by simp [cf]) ?_
  simp only [Tryz.f203,EnterK_some,zW,zX,zD,builtinA,isLeaf,const1,ustrA,simprocAttr,ti92,ti189,cf,Tryz.results203]
  rfl
theorem meanIf (y : VI) (A : List Box) : ACalls Tryz.prog ((pickI 169 186 203) y) [viX y] A (fun r A'=>r = .iface (vT (meanI y)) (vX (meanI y)) ∧ A' = A):=by
  cases y with
  | ab n=>exact ab_mean n A
  | al n v=>exact al_mean n v A
  | va n v=>exact va_mean n v A
def nxtM (m : List (BNm × VT)) : VI → List (BNm × VT)
  | .ab n=>m ++ [(([],n),.nm [] n)]
  | .al n v=>m ++ [(([],n),subV m v)]
  | .va _ _=>m
def fitI (y : VI) : Bool:=decide (dep (meanI y) ≤ 8) && decide (cnt (meanI y) ≤ 63)
def normL : List (BNm × VT) → List VI → Option (List VI)
  | _,[]=>some []
  | m,y :: ys=>if fitI (subI m y) = true then (normL (nxtM m y) ys).map (subI m y :: ·) else none
theorem vi_drop {l : List VI} {i : Nat} (h : i < l.length) : l.drop i = l.getD i vi0 :: l.drop (i + 1):=by
  have : l.getD i vi0 = l[i]:=by simp [List.getD,h]
  rw [this,List.getElem_cons_drop h]
def KnM (m : List (BNm × VT)) (zs : List VI) : Prop:=(∀ x ∈ m,VOk x.2) ∧ ∀ x ∈ m,x.1.1 = [] ∧ (false,x.1.2) ∈ zs.map viK
theorem look_mem {q : BNm} : ∀ {m : List (BNm × VT)},lookB q m ≠ none → ∃ x ∈ m,x.1 = q
  | [],h=>absurd rfl h
  | (p,v) :: m,h=>by
    rw [lookB] at h
    by_cases e : q = p
    · exact ⟨(p,v),by simp,e.symm⟩
    · rw [if_neg e] at h
      obtain ⟨x,hx,h2⟩:=look_mem h
      exact ⟨x,List.mem_cons_of_mem _ hx,h2⟩
theorem mean_sub {m : List (BNm × VT)} (hm : ∀ x ∈ m,VOk x.2) {y : VI} (hy : VOk (meanI y)) : okV (meanI (subI m y)) = true ∧ dep (meanI (subI m y)) ≤ 16 ∧ cnt (meanI (subI m y)) ≤ 3969:=by
  have h1:=hy.dep
  have h2:=hy.cnt
  cases y with
  | ab n=>exact ⟨hy.ok,by simp only [subI,meanI] at *; omega,by simp only [subI,meanI] at *; omega⟩
  | al n v =>
    have:=sub_ok m hm v hy.ok
    exact ⟨this.1,by simp only [subI,meanI] at *; omega,by simp only [subI,meanI] at *; omega⟩
  | va n v =>
    have:=sub_ok m hm v hy.ok
    exact ⟨this.1,by simp only [subI,meanI] at *; omega,by simp only [subI,meanI] at *; omega⟩
theorem upd_noneB (m : List (BNm × VT)) (q : BNm) (v : VT) : updA none (bkE q) (.iface (vT v) (vX v)) (esB m) = esB (m ++ [(q,v)]):=by
  simp [updA,esB]
theorem viK_sub (m : List (BNm × VT)) (y : VI) : viK (subI m y) = viK y:=by cases y <;> rfl
set_option maxRecDepth 100000 in
set_option maxHeartbeats 4000000 in
theorem impl_normal (ys : List VI) (hl : ys.length ≤ 1000) (ho : ∀ k,k < ys.length → VOk (meanI (ys.getD k vi0))) (hord : ordB ys = true) (A : List Box) :
    ACalls Tryz.prog 79 [.slice (vRows ys)] A (fun r A'=>∃ B,A' = A ++ B ∧ ((∃ zs j,normL [] ys = some zs ∧ r = .tuple [.own (A.length + j),.bool true] ∧ j < B.length ∧ B.getD j .dead = .row 1 (vRows zs) 0) ∨ (normL [] ys = none ∧ r = .tuple [.nils,.bool false]))):=by
  refine acalls_enterK (cf:=cf 44 [0,2,3,4,5,6,7,8,13,14,15,16,26,31]) foll Tryz.func79 Tryz.ntmps79 (by simp [cf]) ?_
  simp only [Tryz.f79,EnterK_some,zW,zX,zD,builtinA,isLeaf,const1,ustrA,simprocAttr,ti3,ti4,ti9,ti64,ti68,ti87,ti102,ti154,ca70,mi102,cf,Tryz.results79]
  simp only [zW,zX,zD,builtinA,isLeaf,const1,ustrA,simprocAttr,ti3,ti4,ti9,ti64,ti68,ti87,ti102,ti154,ca70,mi102,cf,Tryz.results79,vRows_length]
  refine ⟨⟨by omega,by omega,by omega⟩,?_⟩
  refine aloop_intro [4,5,13,14,15] (fun e A'=>∃ i m zs B,i ≤ ys.length ∧ zs.length = i ∧ KnM m (ys.take i) ∧ normL [] ys = (normL m (ys.drop i)).map (zs ++ ·) ∧ e = [(4,.ptr (A.length + 1) 0),(5,.own (A.length + 2)),(13,.slice (vRows ys)),(14,.int .i64 ys.length),(15,.int .i64 i)] ∧ A' = A ++ (.mapb (esB m) :: .cells [.map A.length] :: .row 1 (vRows zs ++ List.replicate (ys.length - i) [.nili]) 0 :: B)) (fun e _=>ys.length - (intOf (Abs.look 15 e)).toNat) ?_ ?_
  · simp only [zW,zX,zD,builtinA,isLeaf,const1,ustrA,simprocAttr,ti3,ti4,ti9,ti64,ti68,ti87,ti102,ti154,ca70,mi102,cf,Tryz.results79]
    exact ⟨0,[],[],[],by omega,rfl,⟨by simp,by simp⟩,by simp,rfl,by simp [vRows,esB]⟩
  · rintro e A' ⟨i,m,zs,B,hi,hzl,⟨hm1,hm2⟩,hq,rfl,rfl⟩
    by_cases hlt : i < ys.length
    · have d2 : decide ((i : Int) < (ys.length : Int)) = true:=by simp; omega
      have hlt' : 0 ≤ (i : Int) ∧ (i : Int) < (ys.length : Int):=by omega
      have hg:=vRows_getD hlt
      have hi1 : IntKind.i64.wrap ((i : Int) + 1) = ((i + 1 : Nat) : Int):=by rw [wrap64 (by omega) (by omega)]; rfl
      have hoy:=ho i hlt
      rw [vi_drop hlt] at hq
      generalize hyv : ys.getD i vi0 = y at *
      rw [vRow] at hg
      have hret:=retI m y (A.length + 1) A.length
      simp only [zW,zX,zD,builtinA,isLeaf,const1,ustrA,simprocAttr,ti3,ti4,ti9,ti64,ti68,ti87,ti102,ti154,ca70,mi102,cf,Tryz.results79,vRows_length,d2,hg]
      refine ⟨hlt',?_⟩
      refine wpO_invoke _ _ _ _ _ _ _ _ _ _ _ _ _ _ _ _ ?_
      simp only [zW,zX,zD,builtinA,isLeaf,const1,ustrA,simprocAttr,ti3,ti4,ti9,ti64,ti68,ti87,ti102,ti154,ca70,mi102,cf,Tryz.results79]
      refine methI_invK (metI3 (by kernel_rfl) (by kernel_rfl) (by kernel_rfl) (by kernel_rfl) (by kernel_rfl) (by kernel_rfl)) (hret _ (by simp) (by simp) (by simp [List.getD]) (by simp [List.getD])) rfl (fun _=>rfl) ?_
      rintro r A' ⟨rfl,rfl⟩
      simp only [zW,zX,zD,builtinA,isLeaf,const1,ustrA,simprocAttr,ti3,ti4,ti9,ti64,ti68,ti87,ti102,ti154,ca70,mi102,cf,Tryz.results79]
      refine wpO_invoke _ _ _ _ _ _ _ _ _ _ _ _ _ _ _ _ ?_
      simp only [zW,zX,zD,builtinA,isLeaf,const1,ustrA,simprocAttr,ti3,ti4,ti9,ti64,ti68,ti87,ti102,ti154,ca70,mi102,cf,Tryz.results79]
      refine methI_invK (metI3 (by kernel_rfl) (by kernel_rfl) (by kernel_rfl) (by kernel_rfl) (by kernel_rfl) (by kernel_rfl)) (meanIf (subI m y) _) rfl (fun _=>rfl) ?_
      rintro r A' ⟨rfl,rfl⟩
      simp only [zW,zX,zD,builtinA,isLeaf,const1,ustrA,simprocAttr,ti3,ti4,ti9,ti64,ti68,ti87,ti102,ti154,ca70,mi102,cf,Tryz.results79]
      obtain ⟨z1,z2,z3⟩:=mean_sub hm1 hoy
      refine callK_intro (by rfl) (impl_withinLimits2 _ (by omega) (by omega) _) ?_ rfl
      rintro r A' ⟨rfl,rfl⟩
      rw [show (decide (dep (meanI (subI m y)) ≤ 8) && decide (cnt (meanI (subI m y)) ≤ 63)) = fitI (subI m y) from rfl]
      cases hfit : fitI (subI m y) with
      | false =>
        simp only [zW,zX,zD,builtinA,isLeaf,const1,ustrA,simprocAttr,ti3,ti4,ti9,ti64,ti68,ti87,ti102,ti154,ca70,mi102,cf,Tryz.results79]
        exact ⟨_,rfl,.inr (by rw [hq,normL,if_neg (by rw [hfit]; simp)]; rfl)⟩
      | true =>
        rw [normL,if_pos hfit] at hq
        simp only [zW,zX,zD,builtinA,isLeaf,const1,ustrA,simprocAttr,ti3,ti4,ti9,ti64,ti68,ti87,ti102,ti154,ca70,mi102,cf,Tryz.results79]
        refine wpO_invoke _ _ _ _ _ _ _ _ _ _ _ _ _ _ _ _ ?_
        simp only [zW,zX,zD,builtinA,isLeaf,const1,ustrA,simprocAttr,ti3,ti4,ti9,ti64,ti68,ti87,ti102,ti154,ca70,mi102,cf,Tryz.results79]
        refine methI_invK (metI3 (by kernel_rfl) (by kernel_rfl) (by kernel_rfl) (by kernel_rfl) (by kernel_rfl) (by kernel_rfl)) (keyI (subI m y) _) rfl (fun _=>rfl) ?_
        rintro r A' ⟨rfl,rfl⟩
        rw [viK_sub]
        have hst:=vRow_step (ys:=zs) (n:=ys.length) (subI m y) (by omega)
        have hlen : (vRows zs).length + (List.replicate (ys.length - i) [AV.nili]).length = ys.length:=by simp [vRows_length]; omega
        have hstep : stepB (ys.take i) y = true:=by
          have:=List.all_eq_true.1 hord i (List.mem_range.2 hlt)
          rwa [hyv] at this
        have hnot : viK y ∉ (ys.take i).map viK:=by
          simp only [stepB,Bool.and_eq_true,Bool.not_eq_true',decide_eq_false_iff_not] at hstep
          exact hstep.2
        have htk : (ys.take (i + 1)).map viK = (ys.take i).map viK ++ [viK y]:=by
          rw [List.take_add_one]
          have e : ys[i]? = some y:=by rw [← hyv]; simp [List.getD,hlt]
          rw [e]; simp
        have hqn : ∀ m',m' = nxtM m y → normL [] ys = (normL m' (ys.drop (i + 1))).map ((zs ++ [subI m y]) ++ ·):=fun m' h=>by
          rw [hq,h,Option.map_map]
          congr 1
          funext x
          simp
        have hVO : VOk (meanI (subI m y)):=by
          simp only [fitI,Bool.and_eq_true,decide_eq_true_eq] at hfit
          exact ⟨z1,hfit.1,hfit.2⟩
        subst hzl
        cases y with
        | va n v =>
          simp only [viK,kE]
          simp only [zW,zX,zD,builtinA,isLeaf,const1,ustrA,simprocAttr,ti3,ti4,ti9,ti64,ti68,ti87,ti102,ti154,ca70,mi102,cf,Tryz.results79,hlen,vRows_length,hst,hi1,LoopK_eq]
          refine ⟨⟨by omega,by simp; omega⟩,⟨by omega,by simp; omega,fun v' hv'=>?_⟩,⟨zs.length + 1,m,zs ++ [subI m (.va n v)],_,by omega,by simp,⟨hm1,fun x hx=>⟨(hm2 x hx).1,by rw [htk]; exact List.mem_append_left _ (hm2 x hx).2⟩⟩,hqn m rfl,rfl,rfl⟩,?_⟩
          · simp only [List.mem_singleton] at hv'
            subst hv'; rfl
          · simp only [intOf]; omega
        | al n v =>
          have hkn : lookB ([],n) m = none:=by
            rcases Classical.em (lookB ([],n) m = none) with h | h
            · exact h
            · obtain ⟨x,hx,hxe⟩:=look_mem h
              have:=(hm2 x hx).2
              rw [hxe] at this
              exact absurd this hnot
          have hfnd : findA KB (bkE ([],n)) (esB m) 0 = some none:=by
            rcases find_b ([],n) m 0 with ⟨f1,_⟩ | ⟨j,w,_,f2⟩
            · exact f1
            · rw [hkn] at f2; cases f2
          have hup:=upd_noneB m ([],n) (subV m v)
          simp only [bkE] at hfnd hup
          simp only [viK,kE]
          simp only [zW,zX,zD,builtinA,isLeaf,const1,ustrA,simprocAttr,ti3,ti4,ti9,ti64,ti68,ti87,ti102,ti154,ca70,mi102,cf,Tryz.results79,hlen,vRows_length]
          refine .inr (drawE_intro [(false,0,1),(false,0,1),(false,0,1),(false,0,1),(false,0,0),(true,0,0),(true,1,1)] [A ++ (.mapb (esB m) :: .cells [.map A.length] :: .row 1 (vRows zs ++ List.replicate (ys.length - zs.length) [.nili]) 0 :: (B ++ [.cells [.bool false,.str n]])),A ++ (.mapb (esB m) :: .cells [.map A.length] :: .row 1 (vRows zs ++ List.replicate (ys.length - zs.length) [.nili]) 0 :: (B ++ [.cells [.bool false,.str n]])),A ++ (.mapb (esB (m ++ [(([],n),subV m v)])) :: .cells [.map A.length] :: .row 1 (vRows zs ++ List.replicate (ys.length - zs.length) [.nili]) 0 :: (B ++ [.cells [.bool false,.str n]]))] 2 rfl (by kernel_rfl) (by kernel_rfl) (by kernel_rfl) (by kernel_rfl) (by kernel_rfl) (by kernel_rfl) ?_)
          simp only [zW,zX,zD,builtinA,isLeaf,const1,ustrA,simprocAttr,ti3,ti4,ti9,ti64,ti68,ti87,ti102,ti154,ca70,mi102,cf,Tryz.results79]
          refine wpG_invoke _ _ _ _ _ _ _ _ _ _ _ _ _ _ _ _ _ _ ?_
          simp only [zW,zX,zD,builtinA,isLeaf,const1,ustrA,simprocAttr,ti3,ti4,ti9,ti64,ti68,ti87,ti102,ti154,ca70,mi102,cf,Tryz.results79]
          refine methI_invE (metI3 (by kernel_rfl) (by kernel_rfl) (by kernel_rfl) (by kernel_rfl) (by kernel_rfl) (by kernel_rfl)) (meanIf (subI m (.al n v)) _) rfl ?_
          simp only [zW,zX,zD,builtinA,isLeaf,const1,ustrA,simprocAttr,ti3,ti4,ti9,ti64,ti68,ti87,ti102,ti154,ca70,mi102,cf,Tryz.results79,wpG_upd,hfnd,hup]
          refine ⟨by simp [esB,bkE,subI,meanI],⟨by omega,by rw [hlen]; omega⟩,⟨by omega,by rw [hlen]; omega,fun v' hv'=>?_⟩,?_⟩
          · simp only [List.mem_singleton] at hv'
            subst hv'; rfl
          simp only [zW,zX,zD,builtinA,isLeaf,const1,ustrA,simprocAttr,ti3,ti4,ti9,ti64,ti68,ti87,ti102,ti154,ca70,mi102,cf,Tryz.results79,hst,hi1,LoopK_eq]
          refine ⟨⟨zs.length + 1,m ++ [(([],n),subV m v)],zs ++ [subI m (.al n v)],_,by omega,by simp,⟨fun x hx=>?_,fun x hx=>?_⟩,hqn _ rfl,rfl,rfl⟩,?_⟩
          · rcases List.mem_append.1 hx with hx | hx
            · exact hm1 x hx
            · rw [List.mem_singleton.1 hx]; exact hVO
          · rw [htk]
            rcases List.mem_append.1 hx with hx | hx
            · exact ⟨(hm2 x hx).1,List.mem_append_left _ (hm2 x hx).2⟩
            · rw [List.mem_singleton.1 hx]; exact ⟨rfl,List.mem_append_right _ (by simp [viK])⟩
          · simp only [intOf]; omega
        | ab n =>
          have hkn : lookB ([],n) m = none:=by
            rcases Classical.em (lookB ([],n) m = none) with h | h
            · exact h
            · obtain ⟨x,hx,hxe⟩:=look_mem h
              have:=(hm2 x hx).2
              rw [hxe] at this
              exact absurd this hnot
          have hfnd : findA KB (bkE ([],n)) (esB m) 0 = some none:=by
            rcases find_b ([],n) m 0 with ⟨f1,_⟩ | ⟨j,w,_,f2⟩
            · exact f1
            · rw [hkn] at f2; cases f2
          have hup:=upd_noneB m ([],n) (.nm [] n)
          simp only [bkE] at hfnd hup
          simp only [viK,kE]
          simp only [zW,zX,zD,builtinA,isLeaf,const1,ustrA,simprocAttr,ti3,ti4,ti9,ti64,ti68,ti87,ti102,ti154,ca70,mi102,cf,Tryz.results79,hlen,vRows_length]
          refine .inr (drawE_intro [(false,0,1),(false,0,1),(false,0,1),(false,0,1),(false,0,0),(true,0,0),(true,1,1)] [A ++ (.mapb (esB m) :: .cells [.map A.length] :: .row 1 (vRows zs ++ List.replicate (ys.length - zs.length) [.nili]) 0 :: (B ++ [.cells [.bool false,.str n]])),A ++ (.mapb (esB m) :: .cells [.map A.length] :: .row 1 (vRows zs ++ List.replicate (ys.length - zs.length) [.nili]) 0 :: (B ++ [.cells [.bool false,.str n]])),A ++ (.mapb (esB (m ++ [(([],n),.nm [] n)])) :: .cells [.map A.length] :: .row 1 (vRows zs ++ List.replicate (ys.length - zs.length) [.nili]) 0 :: (B ++ [.cells [.bool false,.str n]]))] 2 rfl (by kernel_rfl) (by kernel_rfl) (by kernel_rfl) (by kernel_rfl) (by kernel_rfl) (by kernel_rfl) ?_)
          simp only [zW,zX,zD,builtinA,isLeaf,const1,ustrA,simprocAttr,ti3,ti4,ti9,ti64,ti68,ti87,ti102,ti154,ca70,mi102,cf,Tryz.results79]
          refine wpG_invoke _ _ _ _ _ _ _ _ _ _ _ _ _ _ _ _ _ _ ?_
          simp only [zW,zX,zD,builtinA,isLeaf,const1,ustrA,simprocAttr,ti3,ti4,ti9,ti64,ti68,ti87,ti102,ti154,ca70,mi102,cf,Tryz.results79]
          refine methI_invE (metI3 (by kernel_rfl) (by kernel_rfl) (by kernel_rfl) (by kernel_rfl) (by kernel_rfl) (by kernel_rfl)) (meanIf (subI m (.ab n)) _) rfl ?_
          simp only [zW,zX,zD,builtinA,isLeaf,const1,ustrA,simprocAttr,ti3,ti4,ti9,ti64,ti68,ti87,ti102,ti154,ca70,mi102,cf,Tryz.results79,wpG_upd,hfnd,hup]
          refine ⟨by simp [esB,bkE,subI,meanI],⟨by omega,by rw [hlen]; omega⟩,⟨by omega,by rw [hlen]; omega,fun v' hv'=>?_⟩,?_⟩
          · simp only [List.mem_singleton] at hv'
            subst hv'; rfl
          simp only [zW,zX,zD,builtinA,isLeaf,const1,ustrA,simprocAttr,ti3,ti4,ti9,ti64,ti68,ti87,ti102,ti154,ca70,mi102,cf,Tryz.results79,hst,hi1,LoopK_eq]
          refine ⟨⟨zs.length + 1,m ++ [(([],n),.nm [] n)],zs ++ [subI m (.ab n)],_,by omega,by simp,⟨fun x hx=>?_,fun x hx=>?_⟩,hqn _ rfl,rfl,rfl⟩,?_⟩
          · rcases List.mem_append.1 hx with hx | hx
            · exact hm1 x hx
            · rw [List.mem_singleton.1 hx]; exact hVO
          · rw [htk]
            rcases List.mem_append.1 hx with hx | hx
            · exact ⟨(hm2 x hx).1,List.mem_append_left _ (hm2 x hx).2⟩
            · rw [List.mem_singleton.1 hx]; exact ⟨rfl,List.mem_append_right _ (by simp [viK])⟩
          · simp only [intOf]; omega
    · have d2 : decide ((i : Int) < (ys.length : Int)) = false:=by simp; omega
      have e : zs.length = ys.length:=by omega
      subst hzl
      have hz : List.replicate (ys.length - zs.length) [AV.nili] = []:=by rw [e]; simp
      rw [hz,List.append_nil]
      simp only [zW,zX,zD,builtinA,isLeaf,const1,ustrA,simprocAttr,ti3,ti4,ti9,ti64,ti68,ti87,ti102,ti154,ca70,mi102,cf,Tryz.results79,vRows_length,d2]
      rw [List.drop_of_length_le (by omega),normL] at hq
      exact ⟨_,rfl,.inl ⟨zs,2,by rw [hq]; simp,rfl,by simp,rfl⟩⟩
end Go.Proofs.YtkajklfohjcofaaGreatDoor
/- Reading a signature with normal types, and what a name in it stands for. -/
set_option linter.unusedVariables false
set_option linter.unusedSimpArgs false
namespace Go.Proofs.YtkajklfohjcofaaGreatDoor
open Go.Abs
set_option maxRecDepth 100000 in
theorem pos_cl (y : VI) (q : Ky) (c : Nat) (A : List Box) (hc : c < A.length) (hA : A.getD c .dead = .cells (kE q)) : ACalls Tryz.prog 129 [.iface (viT y) (viX y),.ptr c 0] A (fun r A'=>r = .bool (decide (viK y = q)) ∧ A' = A):=by
  have he:=kE_eq (viK y) q
  simp only [kE] at hA he
  refine acalls_enter (cf:=cf 8 [0,1,3]) foll Tryz.func129 Tryz.ntmps129 (by simp [cf]) ?_
  simp only [Tryz.f129,EnterK_some,zW,zX,zD,builtinA,isLeaf,const1,ustrA,simprocAttr,ti68,ks68,cf,Tryz.results129]
  refine .inl ⟨by kernel_rfl,by kernel_rfl,?_⟩
  refine wpD_invoke _ _ _ _ _ _ _ _ _ _ _ _ _ _ _ _ ?_
  simp only [zW,zX,zD,builtinA,isLeaf,const1,ustrA,simprocAttr,ti68,ks68,cf,Tryz.results129]
  refine methI_invD (metI3 (by kernel_rfl) (by kernel_rfl) (by kernel_rfl) (by kernel_rfl) (by kernel_rfl) (by kernel_rfl)) (keyI y _) rfl (fun _=>rfl) ?_
  simp only [kE]
  simp only [zW,zX,zD,builtinA,isLeaf,const1,ustrA,simprocAttr,ti68,ks68,cf,Tryz.results129,hA,he]
set_option maxRecDepth 100000 in
theorem idx_items (ys : List VI) (hl : ys.length ≤ 1000) (q : Ky) (c : Nat) (A : List Box) (hc : c < A.length) (hA : A.getD c .dead = .cells (kE q)) :
    ACalls Tryz.prog 128 [.slice (vRows ys),.func (.func 129) [] [.ptr c 0]] A (fun r A'=>((∃ i,i < ys.length ∧ viK (ys.getD i vi0) = q ∧ r = .int .i64 (i : Nat)) ∨ ((∀ i,i < ys.length → viK (ys.getD i vi0) ≠ q) ∧ r = .int .i64 (-1))) ∧ A' = A):=by
  refine acalls_enter (cf:=cf 19 [0,1,4,5,7,8,9,16]) foll Tryz.func128 Tryz.ntmps128 (by simp [cf]) ?_
  simp only [Tryz.f128,EnterK_some,zW,zX,zD,builtinA,isLeaf,const1,ustrA,simprocAttr,ti3,ti64,ti87,cf,Tryz.results128]
  simp only [zW,zX,zD,builtinA,isLeaf,const1,ustrA,simprocAttr,ti3,ti64,ti87,cf,Tryz.results128,vRows_length]
  refine aloop_intro [0,1,7,8] (fun e A'=>∃ i,i ≤ ys.length ∧ (∀ k,k < i → viK (ys.getD k vi0) ≠ q) ∧ e = [(0,.slice (vRows ys)),(1,.func (.func 129) [] [.ptr c 0]),(7,.int .i64 ys.length),(8,.int .i64 i)] ∧ A' = A) (fun e _=>ys.length - (intOf (Abs.look 8 e)).toNat) ?_ ?_
  · simp only [zW,zX,zD,builtinA,isLeaf,const1,ustrA,simprocAttr,ti3,ti64,ti87,cf,Tryz.results128]
    exact ⟨0,by omega,fun k hk=>by omega,rfl⟩
  · rintro e A' ⟨i,hi,hq,rfl,rfl⟩
    by_cases hlt : i < ys.length
    · have d2 : decide ((i : Int) < (ys.length : Int)) = true:=by simp; omega
      have hlt' : 0 ≤ (i : Int) ∧ (i : Int) < (ys.length : Int):=by omega
      have hg:=vRows_getD hlt
      have hi1 : IntKind.i64.wrap ((i : Int) + 1) = ((i + 1 : Nat) : Int):=by rw [wrap64 (by omega) (by omega)]; rfl
      generalize hyv : ys.getD i vi0 = y at *
      rw [vRow] at hg
      simp only [zW,zX,zD,builtinA,isLeaf,const1,ustrA,simprocAttr,ti3,ti64,ti87,cf,Tryz.results128,vRows_length,d2,hg]
      refine ⟨hlt',?_⟩
      refine wpO_callv _ _ _ _ _ _ _ _ _ _ _ _ _ _ _ ?_
      simp only [zW,zX,zD,builtinA,isLeaf,const1,ustrA,simprocAttr,ti3,ti64,ti87,cf,Tryz.results128]
      refine ⟨by kernel_rfl,?_⟩
      refine callO_intro (pos_cl y q c _ hc hA) ?_
      rintro r A' ⟨rfl,rfl⟩
      by_cases hk : viK y = q
      · simp only [zW,zX,zD,builtinA,isLeaf,const1,ustrA,simprocAttr,ti3,ti64,ti87,cf,Tryz.results128,decide_eq_true hk]
        exact .inl ⟨i,hlt,by rw [hyv]; exact hk,rfl⟩
      · simp only [zW,zX,zD,builtinA,isLeaf,const1,ustrA,simprocAttr,ti3,ti64,ti87,cf,Tryz.results128,decide_eq_false hk,hi1,LoopK_eq]
        refine ⟨⟨i + 1,by omega,fun k hk2=>?_,rfl⟩,?_⟩
        · rcases Nat.lt_succ_iff_lt_or_eq.mp hk2 with h | rfl
          · exact hq k h
          · rw [hyv]; exact hk
        · simp only [intOf]; omega
    · have d2 : decide ((i : Int) < (ys.length : Int)) = false:=by simp; omega
      have e : i = ys.length:=by omega
      subst e
      simp only [zW,zX,zD,builtinA,isLeaf,const1,ustrA,simprocAttr,ti3,ti64,ti87,cf,Tryz.results128,vRows_length,d2]
      exact .inr hq
set_option maxRecDepth 100000 in
theorem impl_position (ys : List VI) (hl : ys.length ≤ 1000) (q : Ky) (A : List Box) : ACalls Tryz.prog 95 [.slice (vRows ys),.agg (kE q)] A (fun r A'=>((∃ i,i < ys.length ∧ viK (ys.getD i vi0) = q ∧ r = .int .i64 (i : Nat)) ∨ ((∀ i,i < ys.length → viK (ys.getD i vi0) ≠ q) ∧ r = .int .i64 (-1))) ∧ A' = A):=by
  have h:=idx_items ys hl q A.length (A ++ [.cells (kE q)]) (by simp) (by rw [Abs.getD_append_right (Nat.le_refl _)]; simp)
  simp only [kE] at h
  rw [kE]
  refine acalls_enter (cf:=cf 8 [0,1,3,4]) foll Tryz.func95 Tryz.ntmps95 (by simp [cf]) ?_
  simp only [Tryz.f95,EnterK_some,zW,zX,zD,builtinA,isLeaf,const1,ustrA,simprocAttr,ti68,ca128,cf,Tryz.results95]
  refine callO_intro h ?_
  rintro r A' ⟨h2,rfl⟩
  rcases h2 with ⟨i,hi,hv,rfl⟩ | ⟨hn,rfl⟩
  · simp only [zW,zX,zD,builtinA,isLeaf,const1,ustrA,simprocAttr,ti68,ca128,cf,Tryz.results95]
    exact .inl ⟨i,hi,hv,rfl⟩
  · simp only [zW,zX,zD,builtinA,isLeaf,const1,ustrA,simprocAttr,ti68,ca128,cf,Tryz.results95]
    exact .inr hn
def FindO (ys : List VI) (q : Ky) (o : Option VT) : Prop:=match o with
  | some v=>∃ i,i < ys.length ∧ viK (ys.getD i vi0) = q ∧ meanI (ys.getD i vi0) = v
  | none=>∀ i,i < ys.length → viK (ys.getD i vi0) ≠ q
def findR : Option VT → AV
  | some v=>.tuple [.iface (vT v) (vX v),.bool true]
  | none=>.tuple [.nili,.bool false]
set_option maxRecDepth 100000 in
theorem impl_findSig (ys : List VI) (hl : ys.length ≤ 1000) (q : Ky) (A : List Box) : ACalls Tryz.prog 63 [.slice (vRows ys),.agg (kE q)] A (fun r A'=>∃ o,FindO ys q o ∧ r = findR o ∧ A' = A):=by
  have h:=fun A=>impl_position ys hl q A
  simp only [kE] at h
  rw [kE]
  refine acalls_enter (cf:=cf 17 [0,1,3,4,5,6,11]) foll Tryz.func63 Tryz.ntmps63 (by simp [cf]) ?_
  simp only [Tryz.f63,EnterK_some,zW,zX,zD,builtinA,isLeaf,const1,ustrA,simprocAttr,ti3,ti64,ti68,ti87,ca95,cf,Tryz.results63]
  refine callO_intro (h _) ?_
  rintro r A' ⟨h2,rfl⟩
  rcases h2 with ⟨i,hi,hv,rfl⟩ | ⟨hn,rfl⟩
  · have d2 : decide ((i : Int) < 0) = false:=decide_eq_false (by omega)
    have hg:=vRows_getD hi
    generalize hyv : ys.getD i vi0 = y at *
    rw [vRow] at hg
    simp only [zW,zX,zD,builtinA,isLeaf,const1,ustrA,simprocAttr,ti3,ti64,ti68,ti87,ca95,cf,Tryz.results63,d2,vRows_length,hg]
    refine ⟨⟨by omega,by omega⟩,?_⟩
    refine wpO_invoke _ _ _ _ _ _ _ _ _ _ _ _ _ _ _ _ ?_
    simp only [zW,zX,zD,builtinA,isLeaf,const1,ustrA,simprocAttr,ti3,ti64,ti68,ti87,ca95,cf,Tryz.results63]
    refine methI_invK (metI3 (by kernel_rfl) (by kernel_rfl) (by kernel_rfl) (by kernel_rfl) (by kernel_rfl) (by kernel_rfl)) (meanIf y _) rfl (fun _=>rfl) ?_
    rintro r A' ⟨rfl,rfl⟩
    simp only [zW,zX,zD,builtinA,isLeaf,const1,ustrA,simprocAttr,ti3,ti64,ti68,ti87,ca95,cf,Tryz.results63]
    exact ⟨some (meanI y),⟨i,hi,by rw [hyv]; exact hv,by rw [hyv]⟩,rfl⟩
  · have d2 : decide ((-1 : Int) < 0) = true:=rfl
    simp only [zW,zX,zD,builtinA,isLeaf,const1,ustrA,simprocAttr,ti3,ti64,ti68,ti87,ca95,cf,Tryz.results63,d2]
    exact ⟨none,hn,rfl⟩
end Go.Proofs.YtkajklfohjcofaaGreatDoor
namespace Go.Proofs.YtkajklfohjcofaaGreatDoor
open Go.Abs
theorem mean_ok {x : SigI} {y : VI} (hl : localB x.name = true) (h : ItemOf x y) : VOk (meanI y):=by
  cases y with
  | ab n=>exact ⟨by simp only [meanI,okV,nmB]; rw [← h.1,hl]; simp,by simp [meanI,dep],by simp [meanI,cnt]⟩
  | al n v=>exact h.2.2.2
  | va n v=>exact h.2.2.2
def RdN (s : List SigI) : Option (List VI) → Prop
  | some zs=>∃ ys,s.length ≤ 8 ∧ ReadsTo s ys ∧ ordB ys = true ∧ normL [] ys = some zs
  | none=>(8 < s.length ∨ ∃ x ∈ s,itemOk x = false) ∨ ∃ ys,s.length ≤ 8 ∧ ReadsTo s ys ∧ (ordB ys = false ∨ normL [] ys = none)
set_option maxRecDepth 100000 in
theorem impl_readNormal (s : List SigI) (hs : s.length ≤ 1048576) (ho : ∀ x ∈ s,x.Ok ∧ sz x.typ ≤ 1048576) (A : List Box) : ACalls Tryz.prog 62 [.slice (sEs s)] A (fun r A'=>∃ B,A' = A ++ B ∧
    ((∃ zs j,RdN s (some zs) ∧ r = .tuple [.own (A.length + j),.bool true] ∧ j < B.length ∧ B.getD j .dead = .row 1 (vRows zs) 0) ∨ (RdN s none ∧ r = .tuple [.nils,.bool false]))):=by
  refine acalls_enterK (cf:=cf 17 [0,2,3,4,5,12]) foll Tryz.func62 Tryz.ntmps62 (by simp [cf]) ?_
  simp only [Tryz.f62,EnterK_some,zW,zX,zD,builtinA,isLeaf,const1,ustrA,simprocAttr,ca55,ca79,cf,Tryz.results62]
  refine callK_intro (by simp only [zW,zX,zD,builtinA,isLeaf,const1,ustrA,simprocAttr,Option.map_some]; rfl) (impl_readSig s hs ho _) ?_ rfl
  rintro r A' ⟨h,rfl⟩
  rcases h with ⟨ys,h8,hrt,rfl⟩ | ⟨hbad,rfl⟩
  · cases hord : ordB ys with
    | false =>
      simp only [zW,zX,zD,builtinA,isLeaf,const1,ustrA,simprocAttr,ca55,ca79,cf,Tryz.results62]
      exact ⟨[],by simp,.inr (.inr ⟨ys,h8,hrt,.inl hord⟩)⟩
    | true =>
      have hn:=impl_normal ys (by have:=hrt.1; omega) (fun k hk=>by
        have:=hrt.2 k (by rw [← hrt.1]; exact hk)
        exact mean_ok this.1 this.2) hord
      simp only [zW,zX,zD,builtinA,isLeaf,const1,ustrA,simprocAttr,ca55,ca79,cf,Tryz.results62]
      refine callO_intro (hn _) ?_
      rintro r A2 ⟨B,rfl,⟨zs,j,e,rfl,hj,hg⟩ | ⟨e,rfl⟩⟩
      · simp only [zW,zX,zD,builtinA,isLeaf,const1,ustrA,simprocAttr,ca55,ca79,cf,Tryz.results62]
        exact ⟨_,rfl,.inl ⟨zs,j,⟨ys,h8,hrt,hord,e⟩,rfl,hj,hg⟩⟩
      · simp only [zW,zX,zD,builtinA,isLeaf,const1,ustrA,simprocAttr,ca55,ca79,cf,Tryz.results62]
        exact ⟨_,rfl,.inr (.inr ⟨ys,h8,hrt,.inr e⟩)⟩
  · simp only [zW,zX,zD,builtinA,isLeaf,const1,ustrA,simprocAttr,ca55,ca79,cf,Tryz.results62]
    exact ⟨[],by simp,.inr (.inl hbad)⟩
theorem vX_free : ∀ v,ifree (vX v) = true
  | .num=>rfl
  | .nm m n=>rfl
  | .fn a b=>by
    have h1:=vX_free a
    have h2:=vX_free b
    simp [vX,ifree,ifrees,h1,h2]
theorem findR_free (o : Option VT) : ifree (findR o) = true:=by
  cases o with
  | none=>rfl
  | some v=>simp [findR,ifree,ifrees,vX_free v]
theorem findR_view (ys : List VI) (hl : ys.length ≤ 1000) (q : Ky) {A : List Box} {i : Nat} (hb : A.getD i .dead = .row 1 (vRows ys) 0) : ACalls Tryz.prog 63 [.own i,.agg (kE q)] A (fun r A'=>∃ o,FindO ys q o ∧ r = findR o ∧ A' = A):=by
  refine ACalls.borrow (.cons (.row i 1 0 (vRows ys) (vRows ys) hb rfl (vRows_leaf ys) (vRows_view ys _)) (.cons (.agg _ _ rfl fun k hk=>.leaf _ (by have h2 : k < 2:=hk; match k,h2 with | 0,_=>rfl | 1,_=>rfl)) .nil)) ((impl_findSig ys hl q _).mono ?_)
  rintro r A' ⟨o,h1,rfl,rfl⟩
  exact ⟨[],by simp,findR_free o,by simp,o,h1,rfl,by simp⟩
def MeanIs (s : List SigI) (q : Ky) (o : Option VT) : Prop:=(∃ zs,RdN s (some zs) ∧ FindO zs q o) ∨ (RdN s none ∧ o = none)
theorem normL_len : ∀ {ys zs : List VI} {m : List (BNm × VT)},normL m ys = some zs → zs.length = ys.length
  | [],zs,m,h=>by cases h; rfl
  | y :: ys,zs,m,h=>by
    rw [normL] at h
    split at h
    · obtain ⟨x,hx,rfl⟩:=Option.map_eq_some_iff.1 h
      simp [normL_len hx]
    · cases h
set_option maxRecDepth 100000 in
theorem impl_findMeaning (s : List SigI) (hs : s.length ≤ 1048576) (ho : ∀ x ∈ s,x.Ok ∧ sz x.typ ≤ 1048576) (q : Ky) (A : List Box) : ACalls Tryz.prog 67 [.slice (sEs s),.agg (kE q)] A (fun r A'=>∃ o,MeanIs s q o ∧ SubOut A o r A'):=by
  rw [kE]
  refine acalls_enterK (cf:=cf 28 [0,1,3,4,5,6,7,8,15,24]) foll Tryz.func67 Tryz.ntmps67 (by simp [cf]) ?_
  simp only [Tryz.f67,EnterK_some,zW,zX,zD,builtinA,isLeaf,const1,ustrA,simprocAttr,ti45,ti68,ca62,ca63,cf,Tryz.results67]
  refine callO_intro (impl_readNormal s hs ho _) ?_
  rintro r A1 ⟨B,rfl,⟨zs,j,hrd,rfl,hj,hg⟩ | ⟨hrd,rfl⟩⟩
  · have hzl : zs.length ≤ 1000:=by
      obtain ⟨ys,h8,hrt,_,hn⟩:=hrd
      have:=normL_len hn
      have:=hrt.1
      omega
    have hg2 : (A ++ (.cells [.bool q.1,.str q.2] :: .cells [.int .i64 0,.str [],.str [],.nils] :: B)).getD (A.length + 2 + j) .dead = .row 1 (vRows zs) 0:=by
      rw [Abs.getD_append_right (by omega),show A.length + 2 + j - A.length = j + 1 + 1 by omega]; exact hg
    have hfv:=findR_view zs hzl q hg2
    simp only [kE] at hfv
    simp only [zW,zX,zD,builtinA,isLeaf,const1,ustrA,simprocAttr,ti45,ti68,ca62,ca63,cf,Tryz.results67]
    refine callO_intro hfv ?_
    rintro r A' ⟨o,hfo,rfl,rfl⟩
    cases o with
    | none =>
      simp only [findR]
      simp only [zW,zX,zD,builtinA,isLeaf,const1,ustrA,simprocAttr,ti45,ti68,ca62,ca63,cf,Tryz.results67]
      exact ⟨none,.inl ⟨zs,hrd,hfo⟩,rfl,by simp,fun i hi=>Abs.getD_append_left hi⟩
    | some w =>
      simp only [findR]
      simp only [zW,zX,zD,builtinA,isLeaf,const1,ustrA,simprocAttr,ti45,ti68,ca62,ca63,cf,Tryz.results67]
      refine wpO_invoke _ _ _ _ _ _ _ _ _ _ _ _ _ _ _ _ ?_
      simp only [zW,zX,zD,builtinA,isLeaf,const1,ustrA,simprocAttr,ti45,ti68,ca62,ca63,cf,Tryz.results67]
      refine meth_invK (met3 (by kernel_rfl) (by kernel_rfl) (by kernel_rfl) (by kernel_rfl) (by kernel_rfl) (by kernel_rfl)) (plainM w _) rfl (fun _=>rfl) ?_
      rintro r A' ⟨rfl,rfl⟩
      have hpl : ∀ n,(prow w n true).length = 4:=fun n=>prow_length _ _ _
      simp only [zW,zX,zD,builtinA,isLeaf,const1,ustrA,simprocAttr,ti45,ti68,ca62,ca63,cf,Tryz.results67,hpl]
      refine ⟨some w,.inl ⟨zs,hrd,hfo⟩,prow w (A.length + (B.length + 1 + 1)) true,pidx w (A.length + (B.length + 1 + 1)),by rw [List.take_of_length_le (by rw [hpl]; exact Nat.le_refl _)],own_plain w _ true _ (fun k hk=>?_),pidx_nodup _ _,fun i hi=>by have:=pidx_in _ _ i hi; omega,by simp,fun i hi=>Abs.getD_append_left hi⟩
      rw [Abs.getD_append_right (by omega),show A.length + (B.length + 1 + 1) + k - A.length = (B.length + k) + 1 + 1 by omega,List.getD_cons_succ,List.getD_cons_succ,Abs.getD_append_right (by omega),show B.length + k - B.length = k by omega]
  · simp only [zW,zX,zD,builtinA,isLeaf,const1,ustrA,simprocAttr,ti45,ti68,ca62,ca63,cf,Tryz.results67]
    exact ⟨none,.inr ⟨hrd,rfl⟩,rfl,by simp,fun i hi=>Abs.getD_append_left hi⟩
end Go.Proofs.YtkajklfohjcofaaGreatDoor
