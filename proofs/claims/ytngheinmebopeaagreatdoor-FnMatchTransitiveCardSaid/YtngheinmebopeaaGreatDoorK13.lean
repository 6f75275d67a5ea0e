/- MatchI, SpMn, SpMatch. -/
import Derived.Test.YtngheinmebopeaaGreatDoorK12
import Derived.Test.YtngheinmebopeaaGreatDoorAbsW3
/- The program's matching of signatures. -/
set_option linter.unusedVariables false
set_option linter.unusedSimpArgs false
namespace Go.Proofs.YtngheinmebopeaaGreatDoor
open Go.Abs
theorem set_same {A : List Box} {i : Nat} {b : Box} (h : A.getD i .dead = b) (hi : i < A.length) : A.set i b = A:=by
  subst h
  refine List.ext_getElem (by simp) fun k h1 h2=>?_
  rw [List.getElem_set]
  split
  · rename_i e; subst e; simp [List.getD,hi]
  · rfl
theorem metQ {name : String} {gs : VT → FuncId} (h : Met name gs) (v : VT) : methP Tryz.prog (vT v) name:=by unfold methP; rw [h.find v]; rfl
theorem wpG_mapUpdate (P : Program) (own : FuncId → Bool) (N : Nat) (ops : Array Oper) (T : Ranks) (As : Nat → List Box) (Q : Env → Prop) (k : Nat) (rest : List Oper) (e : Env) (d : Option Tmp) (ty : TypeId) (pos : String) (af : Array Edge) (t : TypeId) (x y z : Operand) :
    wpG P own N ops T As Q k (⟨d,.mapUpdate t x y z,ty,pos,af,none⟩ :: rest) e = StepK (astep P (.mapUpdate t x y z) [evA e x,evA e y,evA e z] (As (T.lo k))) (ContE P own N ops T As Q k rest d e (.mapUpdate t x y z) [evA e x,evA e y,evA e z]):=by
  rw [wpG_step _ _ _ _ _ _ _ _ _ _ _ _ _ _ rfl]; rfl
open Classical in
set_option maxRecDepth 100000 in
set_option maxHeartbeats 4000000 in
theorem impl_visit (a : List SigI) (hs : List VI) (hra : RdN a (some hs)) (y : VI) (hy : VOk (meanI y)) (m : List (BNm × VT)) (hm : ∀ x ∈ m,VOk x.2) (hnew : ∀ n,y = .ab n → lookB ([],n) m = none) (j im : Nat) (A : List Box) (hj : j < A.length) (him : im < A.length)
    (hgj : A.getD j .dead = .cells [.slice (vRows hs),.map im]) (hgm : A.getD im .dead = .mapb (esB m)) :
    ACalls Tryz.prog 45 [.ptr j 0,.iface (viT y) (viX y)] A (fun r A'=>r = .int .i64 (visC hs m y) ∧ ∃ B,A' = A.set im (.mapb (esB (visS hs m y))) ++ B):=by
  have hh:=rdN_vok hra
  have hfind : ∀ q A,ACalls Tryz.prog 78 [.slice (vRows hs),.agg (kE q)] A (fun r A'=>r = findR (findF hs q) ∧ A' = A):=fun q A=>(impl_findSig hs (by omega) q A).mono fun r A' h=>by
    obtain ⟨o,h1,h2,h3⟩:=h
    rw [findO_one hra h1 (findF_is hs q)] at h2
    exact ⟨h2,h3⟩
  refine acalls_enterK (cf:=cf 59 [0,1,4,5,6,7,8,9,10,23,29,48,52,56]) foll Tryz.func45 Tryz.ntmps45 (by simp [cf]) ?_
  simp only [Tryz.f45,EnterK_some,zW,zX,zD,builtinA,isLeaf,const1,ustrA,simprocAttr,ti4,ti9,ti38,ti42,ti100,ti102,ti104,ti132,ti151,ca74,ca78,mi100,za151,cf,Tryz.results45]
  refine wpO_invoke _ _ _ _ _ _ _ _ _ _ _ _ _ _ _ _ ?_
  simp only [zW,zX,zD,builtinA,isLeaf,const1,ustrA,simprocAttr,ti4,ti9,ti38,ti42,ti100,ti102,ti104,ti132,ti151,ca74,ca78,mi100,za151,cf,Tryz.results45]
  refine methI_invK (metI3 (by kernel_rfl) (by kernel_rfl) (by kernel_rfl) (by kernel_rfl) (by kernel_rfl) (by kernel_rfl)) (keyI y _) rfl (fun _=>rfl) ?_
  rintro r A' ⟨rfl,hA⟩
  have hA:=hA.symm
  subst hA
  have hgj1 : ∀ X,(A ++ X).getD j .dead = .cells [.slice (vRows hs),.map im]:=fun X=>by rw [Abs.getD_append_left hj]; exact hgj
  have hgm1 : ∀ X,(A ++ X).getD im .dead = .mapb (esB m):=fun X=>by rw [Abs.getD_append_left him]; exact hgm
  simp only [kE]
  simp only [zW,zX,zD,builtinA,isLeaf,const1,ustrA,simprocAttr,ti4,ti9,ti38,ti42,ti100,ti102,ti104,ti132,ti151,ca74,ca78,mi100,za151,cf,Tryz.results45]
  refine .inl ⟨by kernel_rfl,by kernel_rfl,?_⟩
  have hf0:=hfind (viK y)
  simp only [kE] at hf0
  simp only [zW,zX,zD,builtinA,isLeaf,const1,ustrA,simprocAttr,ti4,ti9,ti38,ti42,ti100,ti102,ti104,ti132,ti151,ca74,ca78,mi100,za151,cf,Tryz.results45,hgj1]
  refine callD_intro (by simp only [zW,zX,zD,builtinA,isLeaf,const1,ustrA,simprocAttr,Option.map_some] <;> rfl) (hf0 _) ?_ rfl
  cases hf : findF hs (viK y) with
  | none =>
    simp only [findR]
    simp only [zW,zX,zD,builtinA,isLeaf,const1,ustrA,simprocAttr,ti4,ti9,ti38,ti42,ti100,ti102,ti104,ti132,ti151,ca74,ca78,mi100,za151,cf,Tryz.results45]
    refine ⟨by simp [visC,hf],[.cells (kE (viK y))],?_⟩
    simp only [visS,hf]
    rw [set_same hgm him]; rfl
  | some f =>
    simp only [findR]
    simp only [zW,zX,zD,builtinA,isLeaf,const1,ustrA,simprocAttr,ti4,ti9,ti38,ti42,ti100,ti102,ti104,ti132,ti151,ca74,ca78,mi100,za151,cf,Tryz.results45]
    cases y with
    | ab n =>
      simp only [viT,viX]
      simp only [zW,zX,zD,builtinA,isLeaf,const1,ustrA,simprocAttr,ti4,ti9,ti38,ti42,ti100,ti102,ti104,ti132,ti151,ca74,ca78,mi100,za151,cf,Tryz.results45,wpO_typeAssert,assert_yes]
      have h0 : lookB ([],n) m = none:=hnew n rfl
      obtain ⟨f1,f2⟩ : findA KB (bkE ([],n)) (esB m) 0 = some none ∧ lookB ([],n) m = none:=by
        rcases find_b ([],n) m 0 with h | ⟨j',v',h1,h2⟩
        · exact h
        · rw [h0] at h2; cases h2
      simp only [bkE] at f1
      have hes:=esB_app m ([],n) f
      have hgx : ∀ X,(A ++ (Box.cells [.bool (viK (.ab n)).1,.str (viK (.ab n)).2] :: .cells [.str n] :: X)).getD (A.length + 1) .dead = .cells [.str n]:=fun X=>by rw [Abs.getD_append_right (by omega),show A.length + 1 - A.length = 1 by omega]; rfl
      have hsx : ∀ X b,(A ++ X).set im b = A.set im b ++ X:=fun X b=>by rw [List.set_append_left _ _ him]
      refine .inr (drawE_intro [(false,0,0),(false,0,0),(false,0,0),(false,0,0),(false,0,0),(false,0,0),(false,0,0),(false,0,0),(true,0,0)] [A ++ [.cells [.bool (viK (.ab n)).1,.str (viK (.ab n)).2],.cells [.str n]],A.set im (.mapb (esB (m ++ [(([],n),f)]))) ++ [.cells [.bool (viK (.ab n)).1,.str (viK (.ab n)).2],.cells [.str n]]] 1 rfl (by kernel_rfl) (by kernel_rfl) (by kernel_rfl) (by kernel_rfl) (by kernel_rfl) (by kernel_rfl) ?_)
      simp only [zW,zX,zD,builtinA,isLeaf,const1,ustrA,simprocAttr,ti4,ti9,ti38,ti42,ti100,ti102,ti104,ti132,ti151,ca74,ca78,mi100,za151,cf,Tryz.results45,wpG_mapUpdate,hgj1,hgm1,hgx,hsx,f1,hes]
      exact ⟨by simp [visC,hf],_,by simp only [visS,hf]; rfl⟩
    | al n v =>
      simp only [viT,viX]
      have has:=fun A=>assert_no [.str []] 158 151 (.agg [.str n,.iface (vT v) (vX v)]) rfl (A:=A)
      have hv : VOk v:=hy
      have hb:=sub_ok m hm v hv.ok
      have hd:=hv.dep
      have hc:=hv.cnt
      have hd : dep v ≤ 8:=hd
      have hc : cnt v ≤ 63:=hc
      have hW:=fun A=>impl_withinLimits2 (subV m v) (by omega) (by omega) A
      simp only [zW,zX,zD,builtinA,isLeaf,const1,ustrA,simprocAttr,ti4,ti9,ti38,ti42,ti100,ti102,ti104,ti132,ti151,ca74,ca78,mi100,za151,cf,Tryz.results45,wpO_typeAssert,has]
      refine .inl ⟨by kernel_rfl,by kernel_rfl,?_⟩
      refine wpD_invoke _ _ _ _ _ _ _ _ _ _ _ _ _ _ _ _ ?_
      simp only [zW,zX,zD,builtinA,isLeaf,const1,ustrA,simprocAttr,ti4,ti9,ti38,ti42,ti100,ti102,ti104,ti132,ti151,ca74,ca78,mi100,za151,cf,Tryz.results45]
      refine methI_invD (metI3 (by kernel_rfl) (by kernel_rfl) (by kernel_rfl) (by kernel_rfl) (by kernel_rfl) (by kernel_rfl)) (meanIf (.al n v) _) rfl (fun _=>rfl) ?_
      have hS:=subM m v (A ++ [.cells [.bool (viK (.al n v)).1,.str (viK (.al n v)).2],.cells [.str []]]) im (by simp; omega) (hgm1 _)
      simp only [meanI]
      simp only [zW,zX,zD,builtinA,isLeaf,const1,ustrA,simprocAttr,ti4,ti9,ti38,ti42,ti100,ti102,ti104,ti132,ti151,ca74,ca78,mi100,za151,cf,Tryz.results45,hgj1,wpD_makeFunc,notNil,List.take_succ_cons,List.take_zero,List.drop_succ_cons,List.drop_zero,List.nil_append,List.cons_append,List.append_nil,List.map_cons,List.map_nil,List.size_toArray,List.length_nil,List.length_cons]
      refine ⟨metQ (gs:=(pickF 166 173 130)) (met3 (by kernel_rfl) (by kernel_rfl) (by kernel_rfl) (by kernel_rfl) (by kernel_rfl) (by kernel_rfl)) _,?_⟩
      refine wpD_invoke _ _ _ _ _ _ _ _ _ _ _ _ _ _ _ _ ?_
      simp only [zW,zX,zD,builtinA,isLeaf,const1,ustrA,simprocAttr,ti4,ti9,ti38,ti42,ti100,ti102,ti104,ti132,ti151,ca74,ca78,mi100,za151,cf,Tryz.results45]
      refine meth_invD (met3 (by kernel_rfl) (by kernel_rfl) (by kernel_rfl) (by kernel_rfl) (by kernel_rfl) (by kernel_rfl)) hS rfl (fun _=>rfl) ?_
      simp only [zW,zX,zD,builtinA,isLeaf,const1,ustrA,simprocAttr,ti4,ti9,ti38,ti42,ti100,ti102,ti104,ti132,ti151,ca74,ca78,mi100,za151,cf,Tryz.results45]
      refine wpO_invoke _ _ _ _ _ _ _ _ _ _ _ _ _ _ _ _ ?_
      simp only [zW,zX,zD,builtinA,isLeaf,const1,ustrA,simprocAttr,ti4,ti9,ti38,ti42,ti100,ti102,ti104,ti132,ti151,ca74,ca78,mi100,za151,cf,Tryz.results45]
      refine meth_invK (met3 (by kernel_rfl) (by kernel_rfl) (by kernel_rfl) (by kernel_rfl) (by kernel_rfl) (by kernel_rfl)) (smM (subV m v) f _) rfl (fun _=>rfl) ?_
      rintro r A' ⟨rfl,rfl⟩
      by_cases h1 : subV m v = f
      · rw [decide_eq_true h1]
        simp only [zW,zX,zD,builtinA,isLeaf,const1,ustrA,simprocAttr,ti4,ti9,ti38,ti42,ti100,ti102,ti104,ti132,ti151,ca74,ca78,mi100,za151,cf,Tryz.results45]
        exact ⟨by simp [visC,hf,h1],_,by simp only [visS,hf]; rw [set_same hgm him]⟩
      · rw [decide_eq_false h1]
        simp only [zW,zX,zD,builtinA,isLeaf,const1,ustrA,simprocAttr,ti4,ti9,ti38,ti42,ti100,ti102,ti104,ti132,ti151,ca74,ca78,mi100,za151,cf,Tryz.results45]
        refine callO_intro (hW _) ?_
        rintro r A' ⟨rfl,hA⟩
        have hA:=hA.symm
        subst hA
        rw [show (decide (dep (subV m v) ≤ 8) && decide (cnt (subV m v) ≤ 63)) = fitI (.al [] (subV m v)) from rfl]
        cases h2 : fitI (.al [] (subV m v)) with
        | false =>
          simp only [zW,zX,zD,builtinA,isLeaf,const1,ustrA,simprocAttr,ti4,ti9,ti38,ti42,ti100,ti102,ti104,ti132,ti151,ca74,ca78,mi100,za151,cf,Tryz.results45]
          exact ⟨by simp [visC,hf,h1,h2],_,by simp only [visS,hf]; rw [set_same hgm him]⟩
        | true =>
          simp only [zW,zX,zD,builtinA,isLeaf,const1,ustrA,simprocAttr,ti4,ti9,ti38,ti42,ti100,ti102,ti104,ti132,ti151,ca74,ca78,mi100,za151,cf,Tryz.results45]
          have hgx : ∀ X,(A ++ (Box.cells [.bool (viK (.al n v)).1,.str (viK (.al n v)).2] :: X)).getD A.length .dead = .cells [.bool (viK (.al n v)).1,.str (viK (.al n v)).2]:=fun X=>by rw [Abs.getD_append_right (Nat.le_refl _)]; simp
          simp only [zW,zX,zD,builtinA,isLeaf,const1,ustrA,simprocAttr,ti4,ti9,ti38,ti42,ti100,ti102,ti104,ti132,ti151,ca74,ca78,mi100,za151,cf,Tryz.results45,hgx,show (viK (.al n v)).1 = false from rfl]
          exact ⟨by simp [visC,hf,h1,h2],_,by simp only [visS,hf]; rw [set_same hgm him]⟩
    | va n v =>
      simp only [viT,viX]
      have has:=fun A=>assert_no [.str []] 159 151 (.agg [.str n,.iface (vT v) (vX v)]) rfl (A:=A)
      have hv : VOk v:=hy
      have hb:=sub_ok m hm v hv.ok
      have hd:=hv.dep
      have hc:=hv.cnt
      have hd : dep v ≤ 8:=hd
      have hc : cnt v ≤ 63:=hc
      have hW:=fun A=>impl_withinLimits2 (subV m v) (by omega) (by omega) A
      simp only [zW,zX,zD,builtinA,isLeaf,const1,ustrA,simprocAttr,ti4,ti9,ti38,ti42,ti100,ti102,ti104,ti132,ti151,ca74,ca78,mi100,za151,cf,Tryz.results45,wpO_typeAssert,has]
      refine .inl ⟨by kernel_rfl,by kernel_rfl,?_⟩
      refine wpD_invoke _ _ _ _ _ _ _ _ _ _ _ _ _ _ _ _ ?_
      simp only [zW,zX,zD,builtinA,isLeaf,const1,ustrA,simprocAttr,ti4,ti9,ti38,ti42,ti100,ti102,ti104,ti132,ti151,ca74,ca78,mi100,za151,cf,Tryz.results45]
      refine methI_invD (metI3 (by kernel_rfl) (by kernel_rfl) (by kernel_rfl) (by kernel_rfl) (by kernel_rfl) (by kernel_rfl)) (meanIf (.va n v) _) rfl (fun _=>rfl) ?_
      have hS:=subM m v (A ++ [.cells [.bool (viK (.va n v)).1,.str (viK (.va n v)).2],.cells [.str []]]) im (by simp; omega) (hgm1 _)
      simp only [meanI]
      simp only [zW,zX,zD,builtinA,isLeaf,const1,ustrA,simprocAttr,ti4,ti9,ti38,ti42,ti100,ti102,ti104,ti132,ti151,ca74,ca78,mi100,za151,cf,Tryz.results45,hgj1,wpD_makeFunc,notNil,List.take_succ_cons,List.take_zero,List.drop_succ_cons,List.drop_zero,List.nil_append,List.cons_append,List.append_nil,List.map_cons,List.map_nil,List.size_toArray,List.length_nil,List.length_cons]
      refine ⟨metQ (gs:=(pickF 166 173 130)) (met3 (by kernel_rfl) (by kernel_rfl) (by kernel_rfl) (by kernel_rfl) (by kernel_rfl) (by kernel_rfl)) _,?_⟩
      refine wpD_invoke _ _ _ _ _ _ _ _ _ _ _ _ _ _ _ _ ?_
      simp only [zW,zX,zD,builtinA,isLeaf,const1,ustrA,simprocAttr,ti4,ti9,ti38,ti42,ti100,ti102,ti104,ti132,ti151,ca74,ca78,mi100,za151,cf,Tryz.results45]
      refine meth_invD (met3 (by kernel_rfl) (by kernel_rfl) (by kernel_rfl) (by kernel_rfl) (by kernel_rfl) (by kernel_rfl)) hS rfl (fun _=>rfl) ?_
      simp only [zW,zX,zD,builtinA,isLeaf,const1,ustrA,simprocAttr,ti4,ti9,ti38,ti42,ti100,ti102,ti104,ti132,ti151,ca74,ca78,mi100,za151,cf,Tryz.results45]
      refine wpO_invoke _ _ _ _ _ _ _ _ _ _ _ _ _ _ _ _ ?_
      simp only [zW,zX,zD,builtinA,isLeaf,const1,ustrA,simprocAttr,ti4,ti9,ti38,ti42,ti100,ti102,ti104,ti132,ti151,ca74,ca78,mi100,za151,cf,Tryz.results45]
      refine meth_invK (met3 (by kernel_rfl) (by kernel_rfl) (by kernel_rfl) (by kernel_rfl) (by kernel_rfl) (by kernel_rfl)) (smM (subV m v) f _) rfl (fun _=>rfl) ?_
      rintro r A' ⟨rfl,rfl⟩
      by_cases h1 : subV m v = f
      · rw [decide_eq_true h1]
        simp only [zW,zX,zD,builtinA,isLeaf,const1,ustrA,simprocAttr,ti4,ti9,ti38,ti42,ti100,ti102,ti104,ti132,ti151,ca74,ca78,mi100,za151,cf,Tryz.results45]
        exact ⟨by simp [visC,hf,h1],_,by simp only [visS,hf]; rw [set_same hgm him]⟩
      · rw [decide_eq_false h1]
        simp only [zW,zX,zD,builtinA,isLeaf,const1,ustrA,simprocAttr,ti4,ti9,ti38,ti42,ti100,ti102,ti104,ti132,ti151,ca74,ca78,mi100,za151,cf,Tryz.results45]
        refine callO_intro (hW _) ?_
        rintro r A' ⟨rfl,hA⟩
        have hA:=hA.symm
        subst hA
        rw [show (decide (dep (subV m v) ≤ 8) && decide (cnt (subV m v) ≤ 63)) = fitI (.al [] (subV m v)) from rfl]
        cases h2 : fitI (.al [] (subV m v)) with
        | false =>
          simp only [zW,zX,zD,builtinA,isLeaf,const1,ustrA,simprocAttr,ti4,ti9,ti38,ti42,ti100,ti102,ti104,ti132,ti151,ca74,ca78,mi100,za151,cf,Tryz.results45]
          exact ⟨by simp [visC,hf,h1,h2],_,by simp only [visS,hf]; rw [set_same hgm him]⟩
        | true =>
          simp only [zW,zX,zD,builtinA,isLeaf,const1,ustrA,simprocAttr,ti4,ti9,ti38,ti42,ti100,ti102,ti104,ti132,ti151,ca74,ca78,mi100,za151,cf,Tryz.results45]
          have hgx : ∀ X,(A ++ (Box.cells [.bool (viK (.va n v)).1,.str (viK (.va n v)).2] :: X)).getD A.length .dead = .cells [.bool (viK (.va n v)).1,.str (viK (.va n v)).2]:=fun X=>by rw [Abs.getD_append_right (Nat.le_refl _)]; simp
          simp only [zW,zX,zD,builtinA,isLeaf,const1,ustrA,simprocAttr,ti4,ti9,ti38,ti42,ti100,ti102,ti104,ti132,ti151,ca74,ca78,mi100,za151,cf,Tryz.results45,hgx,show (viK (.va n v)).1 = true from rfl]
          exact ⟨by simp [visC,hf,h1,h2],_,by simp only [visS,hf]; rw [set_same hgm him]⟩
def offR : Option (Nat × Ky × Int) → AV
  | none=>.nili
  | some x=>.iface 44 (.agg [.int .i64 (x.1 : Nat),.bool x.2.1.1,.str x.2.1.2,.int .i64 x.2.2])
theorem rdN_ord {s : List SigI} {ws : List VI} (h : RdN s (some ws)) : ordB ws = true:=by
  obtain ⟨ys,h8,hr,hord,hn⟩:=h
  rw [(normL_fit hn).2]; exact ordB_norm hord
theorem knownB_new {hs ws : List VI} (ho : ordB ws = true) {i : Nat} (hi : i < ws.length) {n : List UInt8} (hy : ws.getD i vi0 = .ab n) : lookB ([],n) (knownB hs (ws.take i)) = none:=by
  refine lookB_none fun x hx e=>?_
  have h1:=(knownB_names hs _ x hx).2
  rw [e] at h1
  obtain ⟨z,hz,hzk⟩:=List.mem_map.1 h1
  obtain ⟨b,hb,rfl⟩:=List.mem_iff_getElem.1 hz
  simp only [List.length_take] at hb
  have hne:=ordB_ne ho (i:=b) (j:=i) (by omega) hi
  apply hne
  have e1 : ws.getD b vi0 = (ws.take i)[b]'(by simp; omega):=by simp [List.getD,show b < ws.length by omega]
  rw [e1,hzk,hy]; rfl
set_option maxRecDepth 100000 in
set_option maxHeartbeats 4000000 in
theorem impl_offers (a b : List SigI) (hs ws : List VI) (hra : RdN a (some hs)) (hrb : RdN b (some ws)) (A : List Box) :
    ACalls Tryz.prog 19 [.slice (vRows hs),.slice (vRows ws)] A (fun r A'=>r = offR (offC hs [] ws 0) ∧ ∃ B,A' = A ++ B):=by
  have hho:=rdN_vok hra
  have hwo:=rdN_vok hrb
  have hord:=rdN_ord hrb
  refine acalls_enterK (cf:=cf 30 [0,1,4,5,6,7,8,12,13,14,15,22]) foll Tryz.func19 Tryz.ntmps19 (by simp [cf]) ?_
  simp only [Tryz.f19,EnterK_some,zW,zX,zD,builtinA,isLeaf,const1,ustrA,simprocAttr,ti3,ti38,ti44,ti100,ti102,ti104,ca45,cf,Tryz.results19]
  simp only [zW,zX,zD,builtinA,isLeaf,const1,ustrA,simprocAttr,ti3,ti38,ti44,ti100,ti102,ti104,ca45,cf,Tryz.results19,vRows_length]
  refine aloop_intro [5,12,13,14] (fun e A'=>∃ i B,i ≤ ws.length ∧ (∀ k,k < i → visC hs (knownB hs (ws.take k)) (ws.getD k vi0) = 0) ∧ e = [(5,.ptr (A.length + 1) 0),(12,.slice (vRows ws)),(13,.int .i64 ws.length),(14,.int .i64 i)] ∧ A' = A ++ (.mapb (esB (knownB hs (ws.take i))) :: .cells [.slice (vRows hs),.map A.length] :: B)) (fun e _=>ws.length - (intOf (Abs.look 14 e)).toNat) ?_ ?_
  · simp only [zW,zX,zD,builtinA,isLeaf,const1,ustrA,simprocAttr,ti3,ti38,ti44,ti100,ti102,ti104,ca45,cf,Tryz.results19,vRows_length]
    exact ⟨0,[],by omega,fun k hk=>by omega,rfl,by simp [knownB,esB]⟩
  · rintro e A' ⟨i,B,hi,hk,rfl,rfl⟩
    by_cases hlt : i < ws.length
    · have d2 : decide ((i : Int) < (ws.length : Int)) = true:=by simp; omega
      have hlt' : 0 ≤ (i : Int) ∧ (i : Int) < (ws.length : Int):=by omega
      have hg:=vRows_getD hlt
      have hi1 : IntKind.i64.wrap ((i : Int) + 1) = ((i + 1 : Nat) : Int):=by rw [wrap64 (by omega) (by omega)]; rfl
      have hfrom:=offC_from hs ws _ i rfl (by omega) hk
      rw [vi_drop hlt,offC] at hfrom
      have hkn:=knownB_visS hs (ws.take i) (ws.getD i vi0)
      have hlen:=knownB_len hs (ws.take i)
      have hvis:=impl_visit a hs hra (ws.getD i vi0) (hwo.2 i hlt) (knownB hs (ws.take i)) (knownB_ok hho.2 _) (fun n hy=>knownB_new hord hlt hy) (A.length + 1) A.length (A ++ (.mapb (esB (knownB hs (ws.take i))) :: .cells [.slice (vRows hs),.map A.length] :: B)) (by simp) (by simp) (by rw [Abs.getD_append_right (by omega),show A.length + 1 - A.length = 1 by omega]; rfl) (by rw [Abs.getD_append_right (Nat.le_refl _)]; simp)
      have htk : ws.take (i + 1) = ws.take i ++ [ws.getD i vi0]:=by rw [List.take_add_one]; simp [List.getD,hlt]
      rw [← htk] at hkn
      generalize hyv : ws.getD i vi0 = y at *
      rw [vRow] at hg
      simp only [zW,zX,zD,builtinA,isLeaf,const1,ustrA,simprocAttr,ti3,ti38,ti44,ti100,ti102,ti104,ca45,cf,Tryz.results19,vRows_length,d2,hg]
      refine ⟨hlt',?_⟩
      refine callO_intro hvis ?_
      rintro r A' ⟨rfl,B',rfl⟩
      have hset : ∀ (X Y : Box) (rest : List Box),(A ++ X :: rest).set A.length Y = A ++ Y :: rest:=fun X Y rest=>by simp [List.set_append]
      rw [hset,← hkn]
      by_cases hc : visC hs (knownB hs (ws.take i)) y = 0
      · have hnx : ∀ k,k < i + 1 → visC hs (knownB hs (ws.take k)) (ws.getD k vi0) = 0:=fun k h=>by
          rcases Nat.lt_succ_iff_lt_or_eq.mp h with h1 | rfl
          · exact hk k h1
          · rw [hyv]; exact hc
        simp only [zW,zX,zD,builtinA,isLeaf,const1,ustrA,simprocAttr,ti3,ti38,ti44,ti100,ti102,ti104,ca45,cf,Tryz.results19,hc,hi1,LoopK_eq]
        refine ⟨⟨i + 1,B ++ B',by omega,hnx,rfl,by simp⟩,?_⟩
        simp only [intOf]; omega
      · rw [if_neg hc] at hfrom
        generalize visC hs (knownB hs (ws.take i)) y = c at *
        simp only [zW,zX,zD,builtinA,isLeaf,const1,ustrA,simprocAttr,ti3,ti38,ti44,ti100,ti102,ti104,ca45,cf,Tryz.results19,decide_eq_false hc,Bool.not_false]
        refine wpO_invoke _ _ _ _ _ _ _ _ _ _ _ _ _ _ _ _ ?_
        simp only [zW,zX,zD,builtinA,isLeaf,const1,ustrA,simprocAttr,ti3,ti38,ti44,ti100,ti102,ti104,ca45,cf,Tryz.results19]
        refine methI_invK (metI3 (by kernel_rfl) (by kernel_rfl) (by kernel_rfl) (by kernel_rfl) (by kernel_rfl) (by kernel_rfl)) (keyI y _) rfl (fun _=>rfl) ?_
        rintro r A' ⟨rfl,rfl⟩
        simp only [kE]
        simp only [zW,zX,zD,builtinA,isLeaf,const1,ustrA,simprocAttr,ti3,ti38,ti44,ti100,ti102,ti104,ca45,cf,Tryz.results19]
        rw [hfrom]
        exact ⟨rfl,_,rfl⟩
    · have d2 : decide ((i : Int) < (ws.length : Int)) = false:=by simp; omega
      have e : i = ws.length:=by omega
      subst e
      rw [offC_from hs ws _ ws.length rfl (Nat.le_refl _) hk,List.drop_length,offC]
      simp only [zW,zX,zD,builtinA,isLeaf,const1,ustrA,simprocAttr,ti3,ti38,ti44,ti100,ti102,ti104,ca45,cf,Tryz.results19,vRows_length,d2]
      exact ⟨rfl,_,rfl⟩
theorem frz_two {A B : List Box} {j k s1 s2 : Nat} {r1 r2 : List (List AV)} (hj : j < B.length) (hk : k < B.length) (h1 : B.getD j .dead = .row 1 r1 s1) (h2 : B.getD k .dead = .row 1 r2 s2) :
    ∃ C,frzs [.own (A.length + j),.own (A.length + k)] (A ++ B) = some ([.slice r1,.slice r2],A ++ C) ∧ C.length = B.length ∧ ∀ n,n ≠ j → n ≠ k → C.getD n .dead = B.getD n .dead:=by
  have g1 : (A ++ B).getD (A.length + j) .dead = .row 1 r1 s1:=by rw [Abs.getD_append_right (by omega),show A.length + j - A.length = j by omega]; exact h1
  have e1 : ∀ X : Box,(A ++ B).set (A.length + j) X = A ++ B.set j X:=fun X=>by simp [List.set_append]
  have e2 : ∀ (C : List Box) (X : Box),(A ++ C).set (A.length + k) X = A ++ C.set k X:=fun C X=>by simp [List.set_append]
  have g2 : ∃ s,(A ++ B.set j (.row 1 r1 r1.length)).getD (A.length + k) .dead = .row 1 r2 s:=by
    rw [Abs.getD_append_right (by omega),show A.length + k - A.length = k by omega]
    by_cases h : j = k
    · subst h
      rw [h1] at h2
      injection h2 with _ h3 _
      rw [getD_set_self hj,h3]; exact ⟨_,rfl⟩
    · rw [getD_set_ne' h]; exact ⟨_,h2⟩
  obtain ⟨s,g2⟩:=g2
  refine ⟨(B.set j (.row 1 r1 r1.length)).set k (.row 1 r2 r2.length),?_,by simp,fun n n1 n2=>by rw [getD_set_ne' (Ne.symm n2),getD_set_ne' (Ne.symm n1)]⟩
  simp only [frzs,frzC,frz1,g1,e1,g2,e2]
set_option maxRecDepth 100000 in
set_option maxHeartbeats 4000000 in
theorem impl_MatchSig (a b : List SigI) (ha : a.length ≤ 1048576) (hoa : ∀ x ∈ a,x.Ok ∧ sz x.typ ≤ 1048576) (hb : b.length ≤ 1048576) (hob : ∀ x ∈ b,x.Ok ∧ sz x.typ ≤ 1048576) (A : List Box) :
    ACalls Tryz.prog 7 [.slice (sEs a),.slice (sEs b)] A (fun r A'=>∃ c p,MtIs a b c p ∧ r = .int .i64 c ∧ A' = A):=by
  refine acalls_enter (cf:=cf 26 [0,1,4,5,6,7,8,17,23]) foll Tryz.func7 Tryz.ntmps7 (by simp [cf]) ?_
  simp only [Tryz.f7,EnterK_some,zW,zX,zD,builtinA,isLeaf,const1,ustrA,simprocAttr,ti3,ti44,ti49,ca17,ca18,ca19,cf,Tryz.results7]
  refine callO_intro (impl_readMatch a b ha hoa hb hob _) ?_
  rintro r A' ⟨B,rfl,⟨hs,ws,j,k,hra,hrb,rfl,hj,hk,gj,gk⟩ | ⟨c,hc,hn,rfl⟩⟩
  · simp only [zW,zX,zD,builtinA,isLeaf,const1,ustrA,simprocAttr,ti3,ti44,ti49,ca17,ca18,ca19,cf,Tryz.results7]
    obtain ⟨C,f1,f2,f3⟩:=frz_two (A:=A) (B:=B ++ [.cells [.int .i64 0,.bool false,.str [],.int .i64 0]]) (j:=j) (k:=k) (by simp; omega) (by simp; omega) (by rw [Abs.getD_append_left hj]; exact gj) (by rw [Abs.getD_append_left hk]; exact gk)
    refine callK_intro f1 (impl_offers a b hs ws hra hrb _) ?_ rfl
    rintro r A' ⟨rfl,D,rfl⟩
    have hM : MtIs a b (mcO (offC hs [] ws 0)) (mpO (offC hs [] ws 0)):=.inl ⟨hs,ws,hra,hrb,rfl,rfl⟩
    have hcl:=offC_code hs ws [] 0
    have hbx : (A ++ (C ++ D)).getD (A.length + B.length) .dead = .cells [.int .i64 0,.bool false,.str [],.int .i64 0]:=by
      simp only [List.length_append,List.length_singleton] at f2
      rw [Abs.getD_append_right (by omega),show A.length + B.length - A.length = B.length by omega,Abs.getD_append_left (by omega),f3 _ (by omega) (by omega),Abs.getD_append_right (Nat.le_refl _)]; simp
    cases ho : offC hs [] ws 0 with
    | none =>
      simp only [offR]
      simp only [zW,zX,zD,builtinA,isLeaf,const1,ustrA,simprocAttr,ti3,ti44,ti49,ca17,ca18,ca19,cf,Tryz.results7]
      refine callO_intro (As_nil _ _) ?_
      rintro r A' ⟨rfl,rfl⟩
      simp only [zW,zX,zD,builtinA,isLeaf,const1,ustrA,simprocAttr,ti3,ti44,ti49,ca17,ca18,ca19,cf,Tryz.results7]
      rw [ho] at hM
      exact ⟨_,_,hM,rfl⟩
    | some x =>
      obtain ⟨i,⟨q1,q2⟩,c⟩:=x
      have hil : A.length + B.length < (A ++ (C ++ D)).length:=by simp at f2 ⊢; omega
      have hA:=As_hit (A ++ (C ++ D)) (A.length + B.length) (.int .i64 (i : Nat)) (.bool q1) (.str q2) (.int .i64 c) _ hil hbx rfl
      have hsx : ∀ X : Box,(A ++ (C ++ D)).set (A.length + B.length) X = A ++ (C ++ D).set B.length X:=fun X=>by simp [List.set_append]
      have hgx : ∀ X : Box,(A ++ (C ++ D).set B.length X).getD (A.length + B.length) .dead = X:=fun X=>by
        rw [← hsx,getD_set_self hil]
      rw [hsx] at hA
      simp only [offR]
      simp only [zW,zX,zD,builtinA,isLeaf,const1,ustrA,simprocAttr,ti3,ti44,ti49,ca17,ca18,ca19,cf,Tryz.results7]
      refine callO_intro hA ?_
      rintro r A' ⟨rfl,rfl⟩
      rw [ho] at hM
      simp only [zW,zX,zD,builtinA,isLeaf,const1,ustrA,simprocAttr,ti3,ti44,ti49,ca17,ca18,ca19,cf,Tryz.results7,hgx]
      exact ⟨_,_,hM,rfl⟩
  · have hc0 : decide (c = 0) = false:=decide_eq_false (by rcases hc with ⟨h,_⟩ | ⟨h,_⟩ <;> omega)
    have hM : MtIs a b c (0,false):=.inr ⟨hn,rfl,by
      rcases hc with ⟨h,h1⟩ | ⟨h,h1,h2⟩
      · rw [h]; rcases h1 with h1 | h1 <;> simp [h1]
      · rw [h]; simp [h1,h2]⟩
    simp only [zW,zX,zD,builtinA,isLeaf,const1,ustrA,simprocAttr,ti3,ti44,ti49,ca17,ca18,ca19,cf,Tryz.results7,hc0,Bool.not_false]
    exact ⟨_,_,hM,rfl⟩
theorem impl_MatchSigF {a b : List SigI} {c : Int} {p : Nat × Bool} (hM : MtIs a b c p) (ha : a.length ≤ 1048576) (hoa : ∀ x ∈ a,x.Ok ∧ sz x.typ ≤ 1048576) (hb : b.length ≤ 1048576) (hob : ∀ x ∈ b,x.Ok ∧ sz x.typ ≤ 1048576) (A : List Box) :
    ACalls Tryz.prog 7 [.slice (sEs a),.slice (sEs b)] A (fun r A'=>r = .int .i64 c ∧ A' = A) :=
  (impl_MatchSig a b ha hoa hb hob A).mono fun r A' h=>by
    obtain ⟨c',p',h1,h2,h3⟩:=h
    rw [(mtIs_one h1 hM).1] at h2
    exact ⟨h2,h3⟩
end Go.Proofs.YtngheinmebopeaaGreatDoor
/- Whether both signatures have a normal form, by the model. -/
set_option linter.unusedVariables false
set_option linter.unusedSimpArgs false
namespace Go.Proofs.YtngheinmebopeaaGreatDoor
open Go.Abs
set_option maxRecDepth 100000 in
theorem spec_l3Normal (a b : List SigI) (ha : a.length ≤ 1048576) (hoa : ∀ x ∈ a,x.Ok ∧ sz x.typ ≤ 1048576) (hb : b.length ≤ 1048576) (hob : ∀ x ∈ b,x.Ok ∧ sz x.typ ≤ 1048576) (A : List Box) :
    ACalls Tryz.prog 46 [.slice (sEs a),.slice (sEs b)] A (fun r A'=>(∃ oa ob,RdN a oa ∧ RdN b ob ∧ r = .bool (oa.isSome && ob.isSome)) ∧ A' = A):=by
  refine acalls_enter (cf:=cf 23 [0,1,4,6,8]) foll Tryz.func46 Tryz.ntmps46 (by simp [cf]) ?_
  simp only [Tryz.f46,EnterK_some,zW,zX,zD,builtinA,isLeaf,const1,ustrA,simprocAttr,ca31,cf,Tryz.results46]
  refine callO_intro (spec_NormalSig a ha hoa _) ?_
  rintro r A' ⟨oa,h1,rfl,hA⟩
  have hA:=hA.symm
  subst hA
  have e : ∀ o,∃ s,nrR o = .tuple [.slice s,.bool o.isSome]:=fun o=>by cases o <;> exact ⟨_,rfl⟩
  obtain ⟨sa,ea⟩:=e oa
  rw [ea]
  simp only [zW,zX,zD,builtinA,isLeaf,const1,ustrA,simprocAttr,ca31,cf,Tryz.results46]
  refine callO_intro (spec_NormalSig b hb hob _) ?_
  rintro r A' ⟨ob,h2,rfl,hA⟩
  have hA:=hA.symm
  subst hA
  obtain ⟨sb,eb⟩:=e ob
  rw [eb]
  cases hq : oa.isSome with
  | true =>
    simp only [zW,zX,zD,builtinA,isLeaf,const1,ustrA,simprocAttr,ca31,cf,Tryz.results46]
    exact ⟨oa,ob,h1,h2,by rw [hq]; simp⟩
  | false =>
    simp only [zW,zX,zD,builtinA,isLeaf,const1,ustrA,simprocAttr,ca31,cf,Tryz.results46]
    exact ⟨oa,ob,h1,h2,by rw [hq]; simp⟩
theorem bE_ty (n : List UInt8) (f : VT) : bE ⟨[],n,toTy f⟩ = .str [] :: .str n :: enc (toTy f):=by rw [bT4 (toTy f)]; rfl
end Go.Proofs.YtngheinmebopeaaGreatDoor
/- The model's matching of signatures. -/
set_option linter.unusedVariables false
set_option linter.unusedSimpArgs false
namespace Go.Proofs.YtngheinmebopeaaGreatDoor
open Go.Abs
open Classical in
set_option maxRecDepth 100000 in
set_option maxHeartbeats 4000000 in
theorem spec_l3Item (a : List SigI) (ha : a.length ≤ 1048576) (hoa : ∀ x ∈ a,x.Ok ∧ sz x.typ ≤ 1048576) (hs : List VI) (hra : RdN a (some hs)) (y : VI) (hy : VOk (meanI y)) (m : List (BNm × VT)) (hm : ∀ x ∈ m,VOk x.2) (hml : m.length ≤ 1000) (A : List Box) :
    ACalls Tryz.prog 80 [.slice (sEs a),.agg (sE (siOf y)),.slice (bEs (m.map ofB))] A (fun r A'=>r = .int .i64 (visC hs m y) ∧ A' = A):=by
  cases y with
  | ab n =>
    simp only [siOf,sE]
    refine acalls_enter (cf:=cf 56 [0,1,2,4,6,8,9,10,11,12,15,24,34,43,50,54]) foll Tryz.func80 Tryz.ntmps80 (by simp [cf]) ?_
    simp only [Tryz.f80,EnterK_some,zW,zX,zD,builtinA,isLeaf,const1,ustrA,simprocAttr,ti3,ti9,ti62,ti64,ca63,ca65,ca92,ca93,ca94,cf,Tryz.results80]
    simp only [zW,zX,zD,builtinA,isLeaf,const1,ustrA,simprocAttr,ti3,ti9,ti62,ti64,ca63,ca65,ca92,ca93,ca94,cf,Tryz.results80,enc_length,enc_take,sub_drop,frzL_enc,sub_closed,Option.map_some]
    refine callO_intro (spec_FindType a ha hoa n _) ?_
    rintro r A' ⟨o,hf,rfl,hA⟩
    have hA:=hA.symm
    subst hA
    have ho:=meanIs_find hra hf
    subst ho
    cases hq : findF hs (false,n) with
    | none =>
      simp only [zW,zX,zD,builtinA,isLeaf,const1,ustrA,simprocAttr,ti3,ti9,ti62,ti64,ca63,ca65,ca92,ca93,ca94,cf,Tryz.results80,enc_length]
      simp [visC,viK,hq]
    | some f =>
      simp only [zW,zX,zD,builtinA,isLeaf,const1,ustrA,simprocAttr,ti3,ti9,ti62,ti64,ca63,ca65,ca92,ca93,ca94,cf,Tryz.results80,enc_length]
      simp [visC,viK,hq]
  | al n v =>
    have hv : VOk v:=hy
    have hz : sz (toTy v) ≤ 1048576:=by have:=sz_toTyS _ hv.ok; have:=hv.cnt; omega
    have hS:=fun A=>spec_l1Subst (m.map ofB) (by simp; omega) (ofB_sz hm) (toTy v) hz A
    rw [subT_eq,subV_foldB] at hS
    have hsub:=sub_ok m hm v hv.ok
    have hcv:=hv.cnt
    have hszw:=sz_toTyS (subV m v) hsub.1
    have hV:=fun A=>spec_TypeValid (toTy (subV m v)) (ok_toTyS _ hsub.1) (by omega) A
    have hval : validB (toTy (subV m v)) = fitI (.al [] (subV m v)):=by rw [validB_sub hsub.1]; rfl
    rw [hval] at hV
    simp only [siOf,sE]
    refine acalls_enter (cf:=cf 56 [0,1,2,4,6,8,9,10,11,12,15,24,34,43,50,54]) foll Tryz.func80 Tryz.ntmps80 (by simp [cf]) ?_
    simp only [Tryz.f80,EnterK_some,zW,zX,zD,builtinA,isLeaf,const1,ustrA,simprocAttr,ti3,ti9,ti62,ti64,ca63,ca65,ca92,ca93,ca94,cf,Tryz.results80]
    simp only [zW,zX,zD,builtinA,isLeaf,const1,ustrA,simprocAttr,ti3,ti9,ti62,ti64,ca63,ca65,ca92,ca93,ca94,cf,Tryz.results80,enc_length,enc_take,sub_drop,frzL_enc,sub_closed,Option.map_some]
    refine callO_intro (spec_FindVal a ha hoa n _) ?_
    rintro r A' ⟨o,hf,rfl,hA⟩
    have hA:=hA.symm
    subst hA
    simp only [zW,zX,zD,builtinA,isLeaf,const1,ustrA,simprocAttr,ti3,ti9,ti62,ti64,ca63,ca65,ca92,ca93,ca94,cf,Tryz.results80,enc_length,enc_take,sub_drop,frzL_enc,sub_closed,Option.map_some]
    refine callO_intro (spec_FindType a ha hoa n _) ?_
    rintro r A' ⟨o2,hf2,rfl,hA⟩
    have hA:=hA.symm
    subst hA
    have ho:=meanIs_find hra hf2
    subst ho
    cases hq : findF hs (false,n) with
    | none =>
      simp only [zW,zX,zD,builtinA,isLeaf,const1,ustrA,simprocAttr,ti3,ti9,ti62,ti64,ca63,ca65,ca92,ca93,ca94,cf,Tryz.results80,enc_length,enc_take,sub_drop,frzL_enc,sub_closed,Option.map_some,oTyS,Option.isSome_none]
      simp [visC,viK,hq]
    | some f =>
      have hfo:=findF_vok hra hq
      have hT:=fun A=>spec_TypeSame (toTy f) (ok_toTyS f hfo.ok) (toTy (subV m v)) A
      have hdT : decide (toTy f = toTy (subV m v)) = decide (subV m v = f):=by
        by_cases h : subV m v = f
        · rw [h]; simp
        · have : toTy f ≠ toTy (subV m v):=fun e=>h (toTy_injS e).symm
          simp [h,this]
      rw [hdT] at hT
      have hff:=vok_fit hfo []
      have hvc : visC hs m (.al n v) = if fitI (.al [] (subV m v)) = true then (if subV m v = f then 0 else 2) else 4:=by
        have hqq : findF hs (viK (.al n v)) = some f:=hq
        simp only [visC,hqq]
        by_cases h : subV m v = f
        · rw [if_pos h,h,hff]; simp
        · rw [if_neg h,if_neg h]
      rw [hvc]
      generalize subV m v = w at *
      simp only [zW,zX,zD,builtinA,isLeaf,const1,ustrA,simprocAttr,ti3,ti9,ti62,ti64,ca63,ca65,ca92,ca93,ca94,cf,Tryz.results80,enc_length,enc_take,sub_drop,frzL_enc,sub_closed,Option.map_some,oTyS,Option.isSome_some]
      refine callK_intro (by simp only [zW,zX,zD,builtinA,isLeaf,const1,ustrA,simprocAttr,enc_length,enc_take,sub_drop,frzL_enc,sub_closed,Option.map_some]; rfl) (hS _) ?_ rfl; rintro v A' ⟨rfl,rfl⟩
      simp only [zW,zX,zD,builtinA,isLeaf,const1,ustrA,simprocAttr,ti3,ti9,ti62,ti64,ca63,ca65,ca92,ca93,ca94,cf,Tryz.results80,enc_length,enc_take,sub_drop,frzL_enc,sub_closed,Option.map_some]
      refine callK_intro (by simp only [zW,zX,zD,builtinA,isLeaf,const1,ustrA,simprocAttr,enc_length,enc_take,sub_drop,frzL_enc,sub_closed,Option.map_some]; rfl) (hV _) ?_ rfl; rintro v A' ⟨rfl,rfl⟩
      cases hfit : fitI (.al [] w) with
      | false =>
        simp only [zW,zX,zD,builtinA,isLeaf,const1,ustrA,simprocAttr,ti3,ti9,ti62,ti64,ca63,ca65,ca92,ca93,ca94,cf,Tryz.results80,enc_length,enc_take,sub_drop,frzL_enc,sub_closed,Option.map_some]
      | true =>
        simp only [zW,zX,zD,builtinA,isLeaf,const1,ustrA,simprocAttr,ti3,ti9,ti62,ti64,ca63,ca65,ca92,ca93,ca94,cf,Tryz.results80,enc_length,enc_take,sub_drop,frzL_enc,sub_closed,Option.map_some]
        refine callK_intro (by simp only [zW,zX,zD,builtinA,isLeaf,const1,ustrA,simprocAttr,enc_length,enc_take,sub_drop,frzL_enc,sub_closed,Option.map_some]; rfl) (hT _) ?_ rfl; rintro v A' ⟨rfl,rfl⟩
        by_cases h : w = f
        · rw [decide_eq_true h]
          simp only [zW,zX,zD,builtinA,isLeaf,const1,ustrA,simprocAttr,ti3,ti9,ti62,ti64,ca63,ca65,ca92,ca93,ca94,cf,Tryz.results80,enc_length,enc_take,sub_drop,frzL_enc,sub_closed,Option.map_some]
          simp [h]
        · rw [decide_eq_false h]
          simp only [zW,zX,zD,builtinA,isLeaf,const1,ustrA,simprocAttr,ti3,ti9,ti62,ti64,ca63,ca65,ca92,ca93,ca94,cf,Tryz.results80,enc_length,enc_take,sub_drop,frzL_enc,sub_closed,Option.map_some]
          simp [h]
  | va n v =>
    have hv : VOk v:=hy
    have hz : sz (toTy v) ≤ 1048576:=by have:=sz_toTyS _ hv.ok; have:=hv.cnt; omega
    have hS:=fun A=>spec_l1Subst (m.map ofB) (by simp; omega) (ofB_sz hm) (toTy v) hz A
    rw [subT_eq,subV_foldB] at hS
    have hsub:=sub_ok m hm v hv.ok
    have hcv:=hv.cnt
    have hszw:=sz_toTyS (subV m v) hsub.1
    have hV:=fun A=>spec_TypeValid (toTy (subV m v)) (ok_toTyS _ hsub.1) (by omega) A
    have hval : validB (toTy (subV m v)) = fitI (.al [] (subV m v)):=by rw [validB_sub hsub.1]; rfl
    rw [hval] at hV
    simp only [siOf,sE]
    refine acalls_enter (cf:=cf 56 [0,1,2,4,6,8,9,10,11,12,15,24,34,43,50,54]) foll Tryz.func80 Tryz.ntmps80 (by simp [cf]) ?_
    simp only [Tryz.f80,EnterK_some,zW,zX,zD,builtinA,isLeaf,const1,ustrA,simprocAttr,ti3,ti9,ti62,ti64,ca63,ca65,ca92,ca93,ca94,cf,Tryz.results80]
    simp only [zW,zX,zD,builtinA,isLeaf,const1,ustrA,simprocAttr,ti3,ti9,ti62,ti64,ca63,ca65,ca92,ca93,ca94,cf,Tryz.results80,enc_length,enc_take,sub_drop,frzL_enc,sub_closed,Option.map_some]
    refine callO_intro (spec_FindVal a ha hoa n _) ?_
    rintro r A' ⟨o,hf,rfl,hA⟩
    have hA:=hA.symm
    subst hA
    simp only [zW,zX,zD,builtinA,isLeaf,const1,ustrA,simprocAttr,ti3,ti9,ti62,ti64,ca63,ca65,ca92,ca93,ca94,cf,Tryz.results80,enc_length,enc_take,sub_drop,frzL_enc,sub_closed,Option.map_some]
    have ho:=meanIs_find hra hf
    subst ho
    cases hq : findF hs (true,n) with
    | none =>
      simp only [zW,zX,zD,builtinA,isLeaf,const1,ustrA,simprocAttr,ti3,ti9,ti62,ti64,ca63,ca65,ca92,ca93,ca94,cf,Tryz.results80,enc_length,enc_take,sub_drop,frzL_enc,sub_closed,Option.map_some,oTyS,Option.isSome_none]
      simp [visC,viK,hq]
    | some f =>
      have hfo:=findF_vok hra hq
      have hT:=fun A=>spec_TypeSame (toTy f) (ok_toTyS f hfo.ok) (toTy (subV m v)) A
      have hdT : decide (toTy f = toTy (subV m v)) = decide (subV m v = f):=by
        by_cases h : subV m v = f
        · rw [h]; simp
        · have : toTy f ≠ toTy (subV m v):=fun e=>h (toTy_injS e).symm
          simp [h,this]
      rw [hdT] at hT
      have hff:=vok_fit hfo []
      have hvc : visC hs m (.va n v) = if fitI (.al [] (subV m v)) = true then (if subV m v = f then 0 else 3) else 4:=by
        have hqq : findF hs (viK (.va n v)) = some f:=hq
        simp only [visC,hqq]
        by_cases h : subV m v = f
        · rw [if_pos h,h,hff]; simp
        · rw [if_neg h,if_neg h]
      rw [hvc]
      generalize subV m v = w at *
      simp only [zW,zX,zD,builtinA,isLeaf,const1,ustrA,simprocAttr,ti3,ti9,ti62,ti64,ca63,ca65,ca92,ca93,ca94,cf,Tryz.results80,enc_length,enc_take,sub_drop,frzL_enc,sub_closed,Option.map_some,oTyS,Option.isSome_some]
      refine callK_intro (by simp only [zW,zX,zD,builtinA,isLeaf,const1,ustrA,simprocAttr,enc_length,enc_take,sub_drop,frzL_enc,sub_closed,Option.map_some]; rfl) (hS _) ?_ rfl; rintro v A' ⟨rfl,rfl⟩
      simp only [zW,zX,zD,builtinA,isLeaf,const1,ustrA,simprocAttr,ti3,ti9,ti62,ti64,ca63,ca65,ca92,ca93,ca94,cf,Tryz.results80,enc_length,enc_take,sub_drop,frzL_enc,sub_closed,Option.map_some]
      refine callK_intro (by simp only [zW,zX,zD,builtinA,isLeaf,const1,ustrA,simprocAttr,enc_length,enc_take,sub_drop,frzL_enc,sub_closed,Option.map_some]; rfl) (hV _) ?_ rfl; rintro v A' ⟨rfl,rfl⟩
      cases hfit : fitI (.al [] w) with
      | false =>
        simp only [zW,zX,zD,builtinA,isLeaf,const1,ustrA,simprocAttr,ti3,ti9,ti62,ti64,ca63,ca65,ca92,ca93,ca94,cf,Tryz.results80,enc_length,enc_take,sub_drop,frzL_enc,sub_closed,Option.map_some]
      | true =>
        simp only [zW,zX,zD,builtinA,isLeaf,const1,ustrA,simprocAttr,ti3,ti9,ti62,ti64,ca63,ca65,ca92,ca93,ca94,cf,Tryz.results80,enc_length,enc_take,sub_drop,frzL_enc,sub_closed,Option.map_some]
        refine callK_intro (by simp only [zW,zX,zD,builtinA,isLeaf,const1,ustrA,simprocAttr,enc_length,enc_take,sub_drop,frzL_enc,sub_closed,Option.map_some]; rfl) (hT _) ?_ rfl; rintro v A' ⟨rfl,rfl⟩
        by_cases h : w = f
        · rw [decide_eq_true h]
          simp only [zW,zX,zD,builtinA,isLeaf,const1,ustrA,simprocAttr,ti3,ti9,ti62,ti64,ca63,ca65,ca92,ca93,ca94,cf,Tryz.results80,enc_length,enc_take,sub_drop,frzL_enc,sub_closed,Option.map_some]
          simp [h]
        · rw [decide_eq_false h]
          simp only [zW,zX,zD,builtinA,isLeaf,const1,ustrA,simprocAttr,ti3,ti9,ti62,ti64,ca63,ca65,ca92,ca93,ca94,cf,Tryz.results80,enc_length,enc_take,sub_drop,frzL_enc,sub_closed,Option.map_some]
          simp [h]
set_option maxRecDepth 100000 in
set_option maxHeartbeats 4000000 in
theorem spec_l3Known (a b : List SigI) (hs ys : List VI) (ha : a.length ≤ 1048576) (hoa : ∀ x ∈ a,x.Ok ∧ sz x.typ ≤ 1048576) (hra : RdN a (some hs)) (hb8 : b.length ≤ 8) (hr : ReadsTo b ys) (A : List Box) :
    ACalls Tryz.prog 79 [.slice (sEs a),.slice (sEs b)] A (fun r A'=>∃ B j,A' = A ++ B ∧ r = .own (A.length + j) ∧ j < B.length ∧ B.getD j .dead = .row 6 (bEs ((knownB hs ys).map ofB)) 0):=by
  have hyl:=hr.1
  have hvh:=rdN_vok hra
  refine acalls_enterK (cf:=cf 46 [0,1,4,5,6,7,8,13,34]) foll Tryz.func79 Tryz.ntmps79 (by simp [cf]) ?_
  simp only [Tryz.f79,EnterK_some,zW,zX,zD,builtinA,isLeaf,const1,ustrA,simprocAttr,ti3,ti9,ti23,ti62,ti64,ti117,ti173,ca92,cf,Tryz.results79]
  refine aloop_intro [0,1,5,6] (fun e A'=>∃ i j B,i ≤ b.length ∧ e = [(0,.slice (sEs a)),(1,.slice (sEs b)),(5,.own (A.length + j)),(6,.int .i64 i)] ∧ A' = A ++ B ∧ j < B.length ∧ B.getD j .dead = .row 6 (bEs ((knownB hs (ys.take i)).map ofB)) 0) (fun e _=>b.length - (intOf (Abs.look 6 e)).toNat) ?_ ?_
  · simp only [zW,zX,zD,builtinA,isLeaf,const1,ustrA,simprocAttr,ti3,ti9,ti23,ti62,ti64,ti117,ti173,ca92,cf,Tryz.results79]
    exact ⟨0,0,[.row 6 [] 0],by omega,rfl,rfl,by simp,rfl⟩
  · rintro e A' ⟨i,j,B,hi,rfl,rfl,hj,hg⟩
    simp only [zW,zX,zD,builtinA,isLeaf,const1,ustrA,simprocAttr,ti3,ti9,ti23,ti62,ti64,ti117,ti173,ca92,cf,Tryz.results79,sEs_length]
    refine condK_intro (fun h2=>?_) (fun h2=>?_)
    · have hi2 : i < b.length:=by simpa using h2
      have hi1 : IntKind.i64.wrap ((i : Int) + 1) = ((i + 1 : Nat) : Int):=by rw [wrap64 (by omega) (by omega)]; rfl
      have pi : (0 : Int) ≤ (i : Int) ∧ (i : Int) < (b.length : Int):=⟨by omega,by omega⟩
      have he:=sEs_getD hi2
      have hsi:=itemOf_si (hr.2 i hi2).2
      have hkn:=knownB_visS hs (ys.take i) (ys.getD i vi0)
      have htk : ys.take (i + 1) = ys.take i ++ [ys.getD i vi0]:=by rw [List.take_add_one]; simp [List.getD,show i < ys.length by omega]
      rw [← htk] at hkn
      have hbl:=knownB_len hs (ys.take i)
      have hbl2 : (ys.take i).length ≤ 8:=by simp; omega
      rw [hsi] at he
      generalize ys.getD i vi0 = y at *
      generalize knownB hs (ys.take i) = m at *
      cases y with
      | ab n =>
        simp only [siOf,sE] at he
        simp only [zW,zX,zD,builtinA,isLeaf,const1,ustrA,simprocAttr,ti3,ti9,ti23,ti62,ti64,ti117,ti173,ca92,cf,Tryz.results79,he,sEs_length,enc_length]
        refine ⟨pi,?_⟩
        refine callO_intro (spec_FindType a ha hoa n _) ?_
        rintro r A' ⟨o,hm,rfl,hA⟩
        subst hA
        have ho:=meanIs_find hra hm
        subst ho
        cases hf : findF hs (false,n) with
        | none =>
          simp only [zW,zX,zD,builtinA,isLeaf,const1,ustrA,simprocAttr,ti3,ti9,ti23,ti62,ti64,ti117,ti173,ca92,cf,Tryz.results79,hf,he,sEs_length,enc_length,enc_take,hi1,LoopK_eq]
          refine ⟨pi,⟨i + 1,j,_,by omega,rfl,rfl,by simp; omega,?_⟩,?_⟩
          · rw [Abs.getD_append_left hj,hg,hkn]; simp [visS,viK,hf]
          · simp only [intOf]; omega
        | some f =>
          have hR:=bE_ty n f
          have hgX : ∀ Y,(B ++ Y).getD j .dead = .row 6 (bEs (m.map ofB)) 0:=fun Y=>by rw [Abs.getD_append_left hj]; exact hg
          have hsX : ∀ Y : List Box,(B ++ Y).set j .dead = B.set j .dead ++ Y:=fun Y=>by rw [List.set_append_left _ _ hj]
          have hjX : ∀ n,j < B.length + n:=fun n=>by omega
          have hlf : ∀ w ∈ AV.str [] :: .str n :: enc (toTy f),isLeaf w = true:=by rw [← hR]; exact bE_leaf _
          have hrs : bEs (m.map ofB) ++ [.str [] :: .str n :: enc (toTy f)] = bEs ((m ++ [(([],n),f)]).map ofB):=by rw [← hR]; simp [bEs,ofB]
          have hvs : visS hs m (.ab n) = m ++ [(([],n),f)]:=by simp [visS,viK,hf]
          simp only [zW,zX,zD,builtinA,isLeaf,const1,ustrA,simprocAttr,ti3,ti9,ti23,ti62,ti64,ti117,ti173,ca92,cf,Tryz.results79,hf,he,oTyS,sEs_length,enc_length,enc_take]
          refine ⟨pi,?_⟩
          refine .inr (drawE_intro [(false,0,1),(false,0,0),(false,0,0),(false,0,0),(false,0,0),(false,0,0),(false,0,0),(false,0,0),(true,0,0),(true,1,1),(false,2,2)] [A ++ (B ++ [.cells (enc (toTy f))]),A ++ (B ++ [.cells (enc (toTy f)),.row 6 [.str [] :: .str n :: enc (toTy f)] 0]),A ++ (B.set j .dead ++ [.cells (enc (toTy f)),.row 6 [.str [] :: .str n :: enc (toTy f)] 0,.row 6 (bEs (m.map ofB) ++ [.str [] :: .str n :: enc (toTy f)]) 0])] 2 rfl (by kernel_rfl) (by kernel_rfl) (by kernel_rfl) (by kernel_rfl) (by kernel_rfl) (by kernel_rfl) ?_)
          simp only [zW,zX,zD,builtinA,isLeaf,const1,ustrA,simprocAttr,ti3,ti9,ti23,ti62,ti64,ti117,ti173,ca92,cf,Tryz.results79,he,hgX,hsX,hjX,sEs_length,enc_length,enc_take,sub_drop,frzL_enc,sub_closed,Option.map_some]
          refine ⟨pi,fun w hw=>hlf w hw,⟨fun r hr=>by rw [List.mem_singleton.1 hr]; simp [enc_length],by rw [bEs_length]; simp; omega⟩,?_⟩
          simp only [zW,zX,zD,builtinA,isLeaf,const1,ustrA,simprocAttr,ti3,ti9,ti23,ti62,ti64,ti117,ti173,ca92,cf,Tryz.results79,hi1,LoopK_eq]
          refine ⟨⟨i + 1,B.length + 2,_,by omega,rfl,rfl,by simp,?_⟩,?_⟩
          · rw [Abs.getD_append_right (by simp),hkn,hvs,← hrs]; simp
          · simp only [intOf]; omega
      | al n v =>
        simp only [siOf,sE] at he
        simp only [zW,zX,zD,builtinA,isLeaf,const1,ustrA,simprocAttr,ti3,ti9,ti23,ti62,ti64,ti117,ti173,ca92,cf,Tryz.results79,he,sEs_length,enc_length]
        refine ⟨pi,?_⟩
        refine callO_intro (spec_FindType a ha hoa n _) ?_
        rintro r A' ⟨o,hm,rfl,hA⟩
        subst hA
        simp only [zW,zX,zD,builtinA,isLeaf,const1,ustrA,simprocAttr,ti3,ti9,ti23,ti62,ti64,ti117,ti173,ca92,cf,Tryz.results79,he,sEs_length,enc_length,enc_take,hi1,LoopK_eq]
        refine ⟨pi,⟨i + 1,j,_,by omega,rfl,rfl,by simp; omega,?_⟩,?_⟩
        · rw [Abs.getD_append_left hj,hg,hkn]; congr 4; simp only [visS]; split <;> first | rfl | (rename_i h1 h2; cases h2)
        · simp only [intOf]; omega
      | va n v =>
        simp only [siOf,sE] at he
        simp only [zW,zX,zD,builtinA,isLeaf,const1,ustrA,simprocAttr,ti3,ti9,ti23,ti62,ti64,ti117,ti173,ca92,cf,Tryz.results79,he,sEs_length,enc_length]
        refine ⟨pi,?_⟩
        refine callO_intro (spec_FindType a ha hoa n _) ?_
        rintro r A' ⟨o,hm,rfl,hA⟩
        subst hA
        simp only [zW,zX,zD,builtinA,isLeaf,const1,ustrA,simprocAttr,ti3,ti9,ti23,ti62,ti64,ti117,ti173,ca92,cf,Tryz.results79,he,sEs_length,enc_length,enc_take,hi1,LoopK_eq]
        refine ⟨pi,⟨i + 1,j,_,by omega,rfl,rfl,by simp; omega,?_⟩,?_⟩
        · rw [Abs.getD_append_left hj,hg,hkn]; congr 4; simp only [visS]; split <;> first | rfl | (rename_i h1 h2; cases h2)
        · simp only [intOf]; omega
    · have hi2 : i = b.length:=by simp at h2; omega
      rw [List.take_of_length_le (by omega)] at hg
      simp only [zW,zX,zD,builtinA,isLeaf,const1,ustrA,simprocAttr,ti3,ti9,ti23,ti62,ti64,ti117,ti173,ca92,cf,Tryz.results79]
      exact ⟨B,j,rfl,rfl,hj,hg⟩
set_option maxRecDepth 100000 in
set_option maxHeartbeats 4000000 in
theorem spec_l3Match (a b : List SigI) (hs ws : List VI) (ha : a.length ≤ 1048576) (hoa : ∀ x ∈ a,x.Ok ∧ sz x.typ ≤ 1048576) (hb : b.length ≤ 1048576) (hob : ∀ x ∈ b,x.Ok ∧ sz x.typ ≤ 1048576) (hra : RdN a (some hs)) (hrb : RdN b (some ws)) (A : List Box) :
    ACalls Tryz.prog 47 [.slice (sEs a),.slice (sEs b)] A (fun r A'=>r = .tuple [.int .i64 (mpO (offC hs [] ws 0)).1,.int .i64 (mcO (offC hs [] ws 0))] ∧ A' = A):=by
  obtain ⟨ys,h8,hr,hordy,hn⟩:=id hrb
  have hvh:=rdN_vok hra
  have hvw:=rdN_vok hrb
  have hord : ordB ws = true:=by rw [(normL_fit hn).2]; exact ordB_norm hordy
  have hwy : ws.map absO = ys.map absO:=by rw [(normL_fit hn).2,absO_zs ys _ (Nat.le_refl _),List.take_length]
  have hkw:=knownB_abs hs hwy
  have hkl:=knownB_len hs ws
  have hko:=knownB_ok hvh.2 ws
  refine acalls_enter (cf:=cf 36 [0,1,4,5,6,8,9,10,22,33]) foll Tryz.func47 Tryz.ntmps47 (by simp [cf]) ?_
  simp only [Tryz.f47,EnterK_some,zW,zX,zD,builtinA,isLeaf,const1,ustrA,simprocAttr,ti3,ti23,ti64,ca31,ca79,ca80,cf,Tryz.results47]
  refine callO_intro (spec_NormalSig b hb hob _) ?_
  rintro r A' ⟨o,h1,rfl,hA⟩
  have hA:=hA.symm
  subst hA
  obtain rfl:=rdN_oo hrb h1
  simp only [nrR,sgR]
  simp only [zW,zX,zD,builtinA,isLeaf,const1,ustrA,simprocAttr,ti3,ti23,ti64,ca31,ca79,ca80,cf,Tryz.results47]
  refine callO_intro (spec_l3Known a b hs ys ha hoa hra h8 hr _) ?_
  rintro r A' ⟨B,j,rfl,rfl,hj,hg⟩
  rw [← hkw] at hg
  simp only [zW,zX,zD,builtinA,isLeaf,const1,ustrA,simprocAttr,ti3,ti23,ti64,ca31,ca79,ca80,cf,Tryz.results47]
  refine aloop_intro [0,6,8,9] (fun e A'=>∃ i B sf,i ≤ ws.length ∧ (∀ k,k < i → visC hs (knownB hs (ws.take k)) (ws.getD k vi0) = 0) ∧ e = [(0,.slice (sEs a)),(6,.slice (sEs (ws.map siOf))),(8,.own (A.length + j)),(9,.int .i64 i)] ∧ A' = A ++ B ∧ j < B.length ∧ B.getD j .dead = .row 6 (bEs ((knownB hs ws).map ofB)) sf) (fun e _=>ws.length - (intOf (Abs.look 9 e)).toNat) ?_ ?_
  · simp only [zW,zX,zD,builtinA,isLeaf,const1,ustrA,simprocAttr,ti3,ti23,ti64,ca31,ca79,ca80,cf,Tryz.results47]
    exact ⟨0,B,0,by omega,fun k hk=>by omega,rfl,rfl,hj,hg⟩
  · rintro e A' ⟨i,B,sf,hi,hk,rfl,rfl,hj,hg⟩
    have hlen : (sEs (ws.map siOf)).length = ws.length:=by simp [sEs_length]
    by_cases hlt : i < ws.length
    · have d2 : decide ((i : Int) < (ws.length : Int)) = true:=by simp; omega
      have pi : (0 : Int) ≤ (i : Int) ∧ (i : Int) < (ws.length : Int):=⟨by omega,by omega⟩
      have hi1 : IntKind.i64.wrap ((i : Int) + 1) = ((i + 1 : Nat) : Int):=by rw [wrap64 (by omega) (by omega)]; rfl
      have hge:=siOf_getD hlt
      have hfrom:=offC_from hs ws _ i rfl (by omega) hk
      rw [vi_drop hlt,offC,← visC_all hord hlt] at hfrom
      have hI:=fun A=>spec_l3Item a ha hoa hs hra (ws.getD i vi0) (hvw.2 i hlt) (knownB hs ws) hko (by omega) A
      have hvi:=visC_all (hs:=hs) hord hlt
      generalize hyv : ws.getD i vi0 = y at *
      generalize knownB hs ws = m at *
      have h1 : (A ++ B).getD (A.length + j) .dead = .row 6 (bEs (m.map ofB)) sf:=by
        rw [Abs.getD_append_right (by omega),show A.length + j - A.length = j by omega]; exact hg
      have hX : (A ++ B).set (A.length + j) (.row 6 (bEs (m.map ofB)) (bEs (m.map ofB)).length) = A ++ B.set j (.row 6 (bEs (m.map ofB)) (bEs (m.map ofB)).length):=by simp [List.set_append]
      have hfz : frzs [.slice (sEs a),.agg (sE (siOf y)),.own (A.length + j)] (A ++ B) = some ([.slice (sEs a),.agg (sE (siOf y)),.slice (bEs (m.map ofB))],A ++ B.set j (.row 6 (bEs (m.map ofB)) (bEs (m.map ofB)).length)):=by
        simp only [frzs,frzC,frz1,h1,hX,sE,frzL,frzL_enc,Option.map_some]
      simp only [zW,zX,zD,builtinA,isLeaf,const1,ustrA,simprocAttr,ti3,ti23,ti64,ca31,ca79,ca80,cf,Tryz.results47,hlen,d2,hge]
      have h6 : (sE (siOf y)).take 6 = sE (siOf y):=List.take_of_length_le (by rw [sE_length]; exact Nat.le_refl _)
      rw [h6]
      refine ⟨⟨pi.1,pi.2,sE_length _⟩,by rw [sE_length]; exact Nat.le_refl _,?_⟩
      refine callK_intro hfz (hI _) ?_ rfl
      rintro r A' ⟨rfl,rfl⟩
      by_cases hc : visC hs m y = 0
      · have hnx : ∀ k,k < i + 1 → visC hs (knownB hs (ws.take k)) (ws.getD k vi0) = 0:=fun k h=>by
          rcases Nat.lt_succ_iff_lt_or_eq.mp h with h1 | rfl
          · exact hk k h1
          · rw [hyv,← hvi]; exact hc
        simp only [zW,zX,zD,builtinA,isLeaf,const1,ustrA,simprocAttr,ti3,ti23,ti64,ca31,ca79,ca80,cf,Tryz.results47,hc,hi1,LoopK_eq]
        refine ⟨⟨i + 1,_,_,by omega,hnx,rfl,rfl,by simpa using hj,getD_set_self hj⟩,?_⟩
        simp only [intOf]; omega
      · rw [if_neg hc] at hfrom
        rw [hfrom]
        generalize visC hs m y = c at *
        simp only [zW,zX,zD,builtinA,isLeaf,const1,ustrA,simprocAttr,ti3,ti23,ti64,ca31,ca79,ca80,cf,Tryz.results47,decide_eq_false hc,Bool.not_false]
        simp [mpO,mcO]
    · have d2 : decide ((i : Int) < (ws.length : Int)) = false:=by simp; omega
      have e : i = ws.length:=by omega
      subst e
      rw [offC_from hs ws _ ws.length rfl (Nat.le_refl _) hk,List.drop_length,offC]
      simp only [zW,zX,zD,builtinA,isLeaf,const1,ustrA,simprocAttr,ti3,ti23,ti64,ca31,ca79,ca80,cf,Tryz.results47,hlen,d2]
      simp [mpO,mcO]
set_option maxRecDepth 100000 in
theorem spec_l3Code {a b : List SigI} {c : Int} {p : Nat × Bool} (hM : MtIs a b c p) (ha : a.length ≤ 1048576) (hoa : ∀ x ∈ a,x.Ok ∧ sz x.typ ≤ 1048576) (hb : b.length ≤ 1048576) (hob : ∀ x ∈ b,x.Ok ∧ sz x.typ ≤ 1048576) (A : List Box) :
    ACalls Tryz.prog 20 [.slice (sEs a),.slice (sEs b)] A (fun r A'=>(∃ i : Int,r = .tuple [.int .i64 i,.int .i64 c]) ∧ A' = A):=by
  refine acalls_enter (cf:=cf 23 [0,1,4,5,13,17]) foll Tryz.func20 Tryz.ntmps20 (by simp [cf]) ?_
  simp only [Tryz.f20,EnterK_some,zW,zX,zD,builtinA,isLeaf,const1,ustrA,simprocAttr,ca26,ca46,ca47,cf,Tryz.results20]
  refine callO_intro (spec_SigValid a ha hoa _) ?_
  rintro r A' ⟨rfl,hA⟩
  have hA:=hA.symm
  subst hA
  cases hsa : sigB a with
  | false =>
    have hc : c = 5:=by
      rcases hM with ⟨hs,ws,h1,h2,h3,h4⟩ | ⟨h1,h2,h3⟩
      · rw [rdN_sigB h1] at hsa; cases hsa
      · rw [h3,hsa]; simp
    subst hc
    simp only [zW,zX,zD,builtinA,isLeaf,const1,ustrA,simprocAttr,ca26,ca46,ca47,cf,Tryz.results20]
    exact ⟨_,rfl⟩
  | true =>
    simp only [zW,zX,zD,builtinA,isLeaf,const1,ustrA,simprocAttr,ca26,ca46,ca47,cf,Tryz.results20]
    refine callO_intro (spec_SigValid b hb hob _) ?_
    rintro r A' ⟨rfl,hA⟩
    have hA:=hA.symm
    subst hA
    cases hsb : sigB b with
    | false =>
      have hc : c = 5:=by
        rcases hM with ⟨hs,ws,h1,h2,h3,h4⟩ | ⟨h1,h2,h3⟩
        · rw [rdN_sigB h2] at hsb; cases hsb
        · rw [h3,hsb]; simp
      subst hc
      simp only [zW,zX,zD,builtinA,isLeaf,const1,ustrA,simprocAttr,ca26,ca46,ca47,cf,Tryz.results20]
      exact ⟨_,rfl⟩
    | true =>
      simp only [zW,zX,zD,builtinA,isLeaf,const1,ustrA,simprocAttr,ca26,ca46,ca47,cf,Tryz.results20]
      refine callO_intro (spec_l3Normal a b ha hoa hb hob _) ?_
      rintro r A' ⟨⟨oa,ob,h1,h2,rfl⟩,hA⟩
      have hA:=hA.symm
      subst hA
      rcases hM with ⟨hs,ws,h3,h4,rfl,rfl⟩ | ⟨h3,rfl,rfl⟩
      · obtain rfl:=rdN_oo h3 h1
        obtain rfl:=rdN_oo h4 h2
        simp only [zW,zX,zD,builtinA,isLeaf,const1,ustrA,simprocAttr,ca26,ca46,ca47,cf,Tryz.results20,Option.isSome_some,Bool.and_self]
        refine callO_intro (spec_l3Match a b hs ws ha hoa hb hob h3 h4 _) ?_
        rintro r A' ⟨rfl,rfl⟩
        simp only [zW,zX,zD,builtinA,isLeaf,const1,ustrA,simprocAttr,ca26,ca46,ca47,cf,Tryz.results20]
        exact ⟨_,rfl⟩
      · have hq : (oa.isSome && ob.isSome) = false:=by
          rcases h3 with h3 | h3
          · rw [rdN_oo h1 h3]; rfl
          · rw [rdN_oo h2 h3]; simp
        rw [hq,hsa,hsb]
        simp only [zW,zX,zD,builtinA,isLeaf,const1,ustrA,simprocAttr,ca26,ca46,ca47,cf,Tryz.results20]
        exact ⟨_,rfl⟩
set_option maxRecDepth 100000 in
theorem spec_MatchSigF {a b : List SigI} {c : Int} {p : Nat × Bool} (hM : MtIs a b c p) (ha : a.length ≤ 1048576) (hoa : ∀ x ∈ a,x.Ok ∧ sz x.typ ≤ 1048576) (hb : b.length ≤ 1048576) (hob : ∀ x ∈ b,x.Ok ∧ sz x.typ ≤ 1048576) (A : List Box) :
    ACalls Tryz.prog 8 [.slice (sEs a),.slice (sEs b)] A (fun r A'=>r = .int .i64 c ∧ A' = A):=by
  refine acalls_enter (cf:=cf 14 [0,1,4,6]) foll Tryz.func8 Tryz.ntmps8 (by simp [cf]) ?_
  simp only [Tryz.f8,EnterK_some,zW,zX,zD,builtinA,isLeaf,const1,ustrA,simprocAttr,ca20,cf,Tryz.results8]
  refine callO_intro (spec_l3Code hM ha hoa hb hob _) ?_
  rintro r A' ⟨⟨i,rfl⟩,rfl⟩
  simp only [zW,zX,zD,builtinA,isLeaf,const1,ustrA,simprocAttr,ca20,cf,Tryz.results8]
end Go.Proofs.YtngheinmebopeaaGreatDoor
