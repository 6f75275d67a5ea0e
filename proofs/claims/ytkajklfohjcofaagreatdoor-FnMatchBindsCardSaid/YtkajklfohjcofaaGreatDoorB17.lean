/- MatchI. -/
import Derived.Test.YtkajklfohjcofaaGreatDoorB16
import Derived.Test.YtkajklfohjcofaaGreatDoorAbsW3
/- The program's matching of signatures. -/
set_option linter.unusedVariables false
set_option linter.unusedSimpArgs false
namespace Go.Proofs.YtkajklfohjcofaaGreatDoor
open Go.Abs
theorem set_same {A : List Box} {i : Nat} {b : Box} (h : A.getD i .dead = b) (hi : i < A.length) : A.set i b = A:=by
  subst h
  refine List.ext_getElem (by simp) fun k h1 h2=>?_
  rw [List.getElem_set]
  split
  · rename_i e; subst e; simp [List.getD,hi]
  · rfl
theorem metQ {name : String} {gs : VT → FuncId} (h : Met name gs) (v : VT) : methP Tryz.prog (vT v) name:=by unfold methP; rw [h.find v]; rfl
theorem wpG_mapUpdate (P : Program) (own : FuncId → Bool) (N : Nat) (ops : Array Oper) (T : Ranks) (As : Nat → List Box) (Q : Env → Prop) (k : Nat) (rest : List Oper) (e : Env) (d : Option Tmp) (ty : TypeId) (pos : String) (af : Array Edge) (t : TypeId) (x y z : Operand) :
    wpG P own N ops T As Q k (⟨d,.mapUpdate t x y z,ty,pos,af,none⟩ :: rest) e = StepK (astep P (.mapUpdate t x y z) [evA e x,evA e y,evA e z] (As (T.lo k))) (ContE P own N ops T As Q k rest d e (.mapUpdate t x y z) [evA e x,evA e y,evA e z]):=by
  rw [wpG_step _ _ _ _ _ _ _ _ _ _ _ _ _ _ rfl]; rfl
open Classical in
set_option maxRecDepth 100000 in
set_option maxHeartbeats 4000000 in
theorem impl_visit (a : List SigI) (hs : List VI) (hra : RdN a (some hs)) (y : VI) (hy : VOk (meanI y)) (m : List (BNm × VT)) (hm : ∀ x ∈ m,VOk x.2) (hnew : ∀ n,y = .ab n → lookB ([],n) m = none) (j im : Nat) (A : List Box) (hj : j < A.length) (him : im < A.length)
    (hgj : A.getD j .dead = .cells [.slice (vRows hs),.map im]) (hgm : A.getD im .dead = .mapb (esB m)) :
    ACalls Tryz.prog 84 [.ptr j 0,.iface (viT y) (viX y)] A (fun r A'=>r = .int .i64 (visC hs m y) ∧ ∃ B,A' = A.set im (.mapb (esB (visS hs m y))) ++ B):=by
  have hh:=rdN_vok hra
  have hfind : ∀ q A,ACalls Tryz.prog 63 [.slice (vRows hs),.agg (kE q)] A (fun r A'=>r = findR (findF hs q) ∧ A' = A):=fun q A=>(impl_findSig hs (by omega) q A).mono fun r A' h=>by
    obtain ⟨o,h1,h2,h3⟩:=h
    rw [findO_one hra h1 (findF_is hs q)] at h2
    exact ⟨h2,h3⟩
  refine acalls_enterK (cf:=cf 59 [0,1,4,5,6,7,8,9,10,23,29,48,52,56]) foll Tryz.func84 Tryz.ntmps84 (by simp [cf]) ?_
  simp only [Tryz.f84,EnterK_some,zW,zX,zD,builtinA,isLeaf,const1,ustrA,simprocAttr,ti4,ti9,ti64,ti68,ti87,ti89,ti102,ti135,ti154,ca63,ca70,mi102,za89,cf,Tryz.results84]
  refine wpO_invoke _ _ _ _ _ _ _ _ _ _ _ _ _ _ _ _ ?_
  simp only [zW,zX,zD,builtinA,isLeaf,const1,ustrA,simprocAttr,ti4,ti9,ti64,ti68,ti87,ti89,ti102,ti135,ti154,ca63,ca70,mi102,za89,cf,Tryz.results84]
  refine methI_invK (metI3 (by kernel_rfl) (by kernel_rfl) (by kernel_rfl) (by kernel_rfl) (by kernel_rfl) (by kernel_rfl)) (keyI y _) rfl (fun _=>rfl) ?_
  rintro r A' ⟨rfl,hA⟩
  have hA:=hA.symm
  subst hA
  have hgj1 : ∀ X,(A ++ X).getD j .dead = .cells [.slice (vRows hs),.map im]:=fun X=>by rw [Abs.getD_append_left hj]; exact hgj
  have hgm1 : ∀ X,(A ++ X).getD im .dead = .mapb (esB m):=fun X=>by rw [Abs.getD_append_left him]; exact hgm
  simp only [kE]
  simp only [zW,zX,zD,builtinA,isLeaf,const1,ustrA,simprocAttr,ti4,ti9,ti64,ti68,ti87,ti89,ti102,ti135,ti154,ca63,ca70,mi102,za89,cf,Tryz.results84]
  refine .inl ⟨by kernel_rfl,by kernel_rfl,?_⟩
  have hf0:=hfind (viK y)
  simp only [kE] at hf0
  simp only [zW,zX,zD,builtinA,isLeaf,const1,ustrA,simprocAttr,ti4,ti9,ti64,ti68,ti87,ti89,ti102,ti135,ti154,ca63,ca70,mi102,za89,cf,Tryz.results84,hgj1]
  refine callD_intro (by simp only [zW,zX,zD,builtinA,isLeaf,const1,ustrA,simprocAttr,Option.map_some] <;> rfl) (hf0 _) ?_ rfl
  cases hf : findF hs (viK y) with
  | none =>
    simp only [findR]
    simp only [zW,zX,zD,builtinA,isLeaf,const1,ustrA,simprocAttr,ti4,ti9,ti64,ti68,ti87,ti89,ti102,ti135,ti154,ca63,ca70,mi102,za89,cf,Tryz.results84]
    refine ⟨by simp [visC,hf],[.cells (kE (viK y))],?_⟩
    simp only [visS,hf]
    rw [set_same hgm him]; rfl
  | some f =>
    simp only [findR]
    simp only [zW,zX,zD,builtinA,isLeaf,const1,ustrA,simprocAttr,ti4,ti9,ti64,ti68,ti87,ti89,ti102,ti135,ti154,ca63,ca70,mi102,za89,cf,Tryz.results84]
    cases y with
    | ab n =>
      simp only [viT,viX]
      simp only [zW,zX,zD,builtinA,isLeaf,const1,ustrA,simprocAttr,ti4,ti9,ti64,ti68,ti87,ti89,ti102,ti135,ti154,ca63,ca70,mi102,za89,cf,Tryz.results84,wpO_typeAssert,assert_yes]
      have h0 : lookB ([],n) m = none:=hnew n rfl
      obtain ⟨f1,f2⟩ : findA KB (bkE ([],n)) (esB m) 0 = some none ∧ lookB ([],n) m = none:=by
        rcases find_b ([],n) m 0 with h | ⟨j',v',h1,h2⟩
        · exact h
        · rw [h0] at h2; cases h2
      simp only [bkE] at f1
      have hes:=esB_app m ([],n) f
      have hgx : ∀ X,(A ++ (Box.cells [.bool (viK (.ab n)).1,.str (viK (.ab n)).2] :: .cells [.str n] :: X)).getD (A.length + 1) .dead = .cells [.str n]:=fun X=>by rw [Abs.getD_append_right (by omega),show A.length + 1 - A.length = 1 by omega]; rfl
      have hsx : ∀ X b,(A ++ X).set im b = A.set im b ++ X:=fun X b=>by rw [List.set_append_left _ _ him]
      refine .inr (drawE_intro [(false,0,0),(false,0,0),(false,0,0),(false,0,0),(false,0,0),(false,0,0),(false,0,0),(false,0,0),(true,0,0)] [A ++ [.cells [.bool (viK (.ab n)).1,.str (viK (.ab n)).2],.cells [.str n]],A.set im (.mapb (esB (m ++ [(([],n),f)]))) ++ [.cells [.bool (viK (.ab n)).1,.str (viK (.ab n)).2],.cells [.str n]]] 1 rfl (by kernel_rfl) (by kernel_rfl) (by kernel_rfl) (by kernel_rfl) (by kernel_rfl) (by kernel_rfl) ?_)
      simp only [zW,zX,zD,builtinA,isLeaf,const1,ustrA,simprocAttr,ti4,ti9,ti64,ti68,ti87,ti89,ti102,ti135,ti154,ca63,ca70,mi102,za89,cf,Tryz.results84,wpG_mapUpdate,hgj1,hgm1,hgx,hsx,f1,hes]
      exact ⟨by simp [visC,hf],_,by simp only [visS,hf]; rfl⟩
    | al n v =>
      simp only [viT,viX]
      have has:=fun A=>assert_no [.str []] 162 89 (.agg [.str n,.iface (vT v) (vX v)]) rfl (A:=A)
      have hv : VOk v:=hy
      have hb:=sub_ok m hm v hv.ok
      have hd:=hv.dep
      have hc:=hv.cnt
      have hd : dep v ≤ 8:=hd
      have hc : cnt v ≤ 63:=hc
      have hW:=fun A=>impl_withinLimits2 (subV m v) (by omega) (by omega) A
      simp only [zW,zX,zD,builtinA,isLeaf,const1,ustrA,simprocAttr,ti4,ti9,ti64,ti68,ti87,ti89,ti102,ti135,ti154,ca63,ca70,mi102,za89,cf,Tryz.results84,wpO_typeAssert,has]
      refine .inl ⟨by kernel_rfl,by kernel_rfl,?_⟩
      refine wpD_invoke _ _ _ _ _ _ _ _ _ _ _ _ _ _ _ _ ?_
      simp only [zW,zX,zD,builtinA,isLeaf,const1,ustrA,simprocAttr,ti4,ti9,ti64,ti68,ti87,ti89,ti102,ti135,ti154,ca63,ca70,mi102,za89,cf,Tryz.results84]
      refine methI_invD (metI3 (by kernel_rfl) (by kernel_rfl) (by kernel_rfl) (by kernel_rfl) (by kernel_rfl) (by kernel_rfl)) (meanIf (.al n v) _) rfl (fun _=>rfl) ?_
      have hS:=subM m v (A ++ [.cells [.bool (viK (.al n v)).1,.str (viK (.al n v)).2],.cells [.str []]]) im (by simp; omega) (hgm1 _)
      simp only [meanI]
      simp only [zW,zX,zD,builtinA,isLeaf,const1,ustrA,simprocAttr,ti4,ti9,ti64,ti68,ti87,ti89,ti102,ti135,ti154,ca63,ca70,mi102,za89,cf,Tryz.results84,hgj1,wpD_makeFunc,notNil,List.take_succ_cons,List.take_zero,List.drop_succ_cons,List.drop_zero,List.nil_append,List.cons_append,List.append_nil,List.map_cons,List.map_nil,List.size_toArray,List.length_nil,List.length_cons]
      refine ⟨metQ (gs:=(pickF 212 219 182)) (met3 (by kernel_rfl) (by kernel_rfl) (by kernel_rfl) (by kernel_rfl) (by kernel_rfl) (by kernel_rfl)) _,?_⟩
      refine wpD_invoke _ _ _ _ _ _ _ _ _ _ _ _ _ _ _ _ ?_
      simp only [zW,zX,zD,builtinA,isLeaf,const1,ustrA,simprocAttr,ti4,ti9,ti64,ti68,ti87,ti89,ti102,ti135,ti154,ca63,ca70,mi102,za89,cf,Tryz.results84]
      refine meth_invD (met3 (by kernel_rfl) (by kernel_rfl) (by kernel_rfl) (by kernel_rfl) (by kernel_rfl) (by kernel_rfl)) hS rfl (fun _=>rfl) ?_
      simp only [zW,zX,zD,builtinA,isLeaf,const1,ustrA,simprocAttr,ti4,ti9,ti64,ti68,ti87,ti89,ti102,ti135,ti154,ca63,ca70,mi102,za89,cf,Tryz.results84]
      refine wpO_invoke _ _ _ _ _ _ _ _ _ _ _ _ _ _ _ _ ?_
      simp only [zW,zX,zD,builtinA,isLeaf,const1,ustrA,simprocAttr,ti4,ti9,ti64,ti68,ti87,ti89,ti102,ti135,ti154,ca63,ca70,mi102,za89,cf,Tryz.results84]
      refine meth_invK (met3 (by kernel_rfl) (by kernel_rfl) (by kernel_rfl) (by kernel_rfl) (by kernel_rfl) (by kernel_rfl)) (smM (subV m v) f _) rfl (fun _=>rfl) ?_
      rintro r A' ⟨rfl,rfl⟩
      by_cases h1 : subV m v = f
      · rw [decide_eq_true h1]
        simp only [zW,zX,zD,builtinA,isLeaf,const1,ustrA,simprocAttr,ti4,ti9,ti64,ti68,ti87,ti89,ti102,ti135,ti154,ca63,ca70,mi102,za89,cf,Tryz.results84]
        exact ⟨by simp [visC,hf,h1],_,by simp only [visS,hf]; rw [set_same hgm him]⟩
      · rw [decide_eq_false h1]
        simp only [zW,zX,zD,builtinA,isLeaf,const1,ustrA,simprocAttr,ti4,ti9,ti64,ti68,ti87,ti89,ti102,ti135,ti154,ca63,ca70,mi102,za89,cf,Tryz.results84]
        refine callO_intro (hW _) ?_
        rintro r A' ⟨rfl,hA⟩
        have hA:=hA.symm
        subst hA
        rw [show (decide (dep (subV m v) ≤ 8) && decide (cnt (subV m v) ≤ 63)) = fitI (.al [] (subV m v)) from rfl]
        cases h2 : fitI (.al [] (subV m v)) with
        | false =>
          simp only [zW,zX,zD,builtinA,isLeaf,const1,ustrA,simprocAttr,ti4,ti9,ti64,ti68,ti87,ti89,ti102,ti135,ti154,ca63,ca70,mi102,za89,cf,Tryz.results84]
          exact ⟨by simp [visC,hf,h1,h2],_,by simp only [visS,hf]; rw [set_same hgm him]⟩
        | true =>
          simp only [zW,zX,zD,builtinA,isLeaf,const1,ustrA,simprocAttr,ti4,ti9,ti64,ti68,ti87,ti89,ti102,ti135,ti154,ca63,ca70,mi102,za89,cf,Tryz.results84]
          have hgx : ∀ X,(A ++ (Box.cells [.bool (viK (.al n v)).1,.str (viK (.al n v)).2] :: X)).getD A.length .dead = .cells [.bool (viK (.al n v)).1,.str (viK (.al n v)).2]:=fun X=>by rw [Abs.getD_append_right (Nat.le_refl _)]; simp
          simp only [zW,zX,zD,builtinA,isLeaf,const1,ustrA,simprocAttr,ti4,ti9,ti64,ti68,ti87,ti89,ti102,ti135,ti154,ca63,ca70,mi102,za89,cf,Tryz.results84,hgx,show (viK (.al n v)).1 = false from rfl]
          exact ⟨by simp [visC,hf,h1,h2],_,by simp only [visS,hf]; rw [set_same hgm him]⟩
    | va n v =>
      simp only [viT,viX]
      have has:=fun A=>assert_no [.str []] 189 89 (.agg [.str n,.iface (vT v) (vX v)]) rfl (A:=A)
      have hv : VOk v:=hy
      have hb:=sub_ok m hm v hv.ok
      have hd:=hv.dep
      have hc:=hv.cnt
      have hd : dep v ≤ 8:=hd
      have hc : cnt v ≤ 63:=hc
      have hW:=fun A=>impl_withinLimits2 (subV m v) (by omega) (by omega) A
      simp only [zW,zX,zD,builtinA,isLeaf,const1,ustrA,simprocAttr,ti4,ti9,ti64,ti68,ti87,ti89,ti102,ti135,ti154,ca63,ca70,mi102,za89,cf,Tryz.results84,wpO_typeAssert,has]
      refine .inl ⟨by kernel_rfl,by kernel_rfl,?_⟩
      refine wpD_invoke _ _ _ _ _ _ _ _ _ _ _ _ _ _ _ _ ?_
      simp only [zW,zX,zD,builtinA,isLeaf,const1,ustrA,simprocAttr,ti4,ti9,ti64,ti68,ti87,ti89,ti102,ti135,ti154,ca63,ca70,mi102,za89,cf,Tryz.results84]
      refine methI_invD (metI3 (by kernel_rfl) (by kernel_rfl) (by kernel_rfl) (by kernel_rfl) (by kernel_rfl) (by kernel_rfl)) (meanIf (.va n v) _) rfl (fun _=>rfl) ?_
      have hS:=subM m v (A ++ [.cells [.bool (viK (.va n v)).1,.str (viK (.va n v)).2],.cells [.str []]]) im (by simp; omega) (hgm1 _)
      simp only [meanI]
      simp only [zW,zX,zD,builtinA,isLeaf,const1,ustrA,simprocAttr,ti4,ti9,ti64,ti68,ti87,ti89,ti102,ti135,ti154,ca63,ca70,mi102,za89,cf,Tryz.results84,hgj1,wpD_makeFunc,notNil,List.take_succ_cons,List.take_zero,List.drop_succ_cons,List.drop_zero,List.nil_append,List.cons_append,List.append_nil,List.map_cons,List.map_nil,List.size_toArray,List.length_nil,List.length_cons]
      refine ⟨metQ (gs:=(pickF 212 219 182)) (met3 (by kernel_rfl) (by kernel_rfl) (by kernel_rfl) (by kernel_rfl) (by kernel_rfl) (by kernel_rfl)) _,?_⟩
      refine wpD_invoke _ _ _ _ _ _ _ _ _ _ _ _ _ _ _ _ ?_
      simp only [zW,zX,zD,builtinA,isLeaf,const1,ustrA,simprocAttr,ti4,ti9,ti64,ti68,ti87,ti89,ti102,ti135,ti154,ca63,ca70,mi102,za89,cf,Tryz.results84]
      refine meth_invD (met3 (by kernel_rfl) (by kernel_rfl) (by kernel_rfl) (by kernel_rfl) (by kernel_rfl) (by kernel_rfl)) hS rfl (fun _=>rfl) ?_
      simp only [zW,zX,zD,builtinA,isLeaf,const1,ustrA,simprocAttr,ti4,ti9,ti64,ti68,ti87,ti89,ti102,ti135,ti154,ca63,ca70,mi102,za89,cf,Tryz.results84]
      refine wpO_invoke _ _ _ _ _ _ _ _ _ _ _ _ _ _ _ _ ?_
      simp only [zW,zX,zD,builtinA,isLeaf,const1,ustrA,simprocAttr,ti4,ti9,ti64,ti68,ti87,ti89,ti102,ti135,ti154,ca63,ca70,mi102,za89,cf,Tryz.results84]
      refine meth_invK (met3 (by kernel_rfl) (by kernel_rfl) (by kernel_rfl) (by kernel_rfl) (by kernel_rfl) (by kernel_rfl)) (smM (subV m v) f _) rfl (fun _=>rfl) ?_
      rintro r A' ⟨rfl,rfl⟩
      by_cases h1 : subV m v = f
      · rw [decide_eq_true h1]
        simp only [zW,zX,zD,builtinA,isLeaf,const1,ustrA,simprocAttr,ti4,ti9,ti64,ti68,ti87,ti89,ti102,ti135,ti154,ca63,ca70,mi102,za89,cf,Tryz.results84]
        exact ⟨by simp [visC,hf,h1],_,by simp only [visS,hf]; rw [set_same hgm him]⟩
      · rw [decide_eq_false h1]
        simp only [zW,zX,zD,builtinA,isLeaf,const1,ustrA,simprocAttr,ti4,ti9,ti64,ti68,ti87,ti89,ti102,ti135,ti154,ca63,ca70,mi102,za89,cf,Tryz.results84]
        refine callO_intro (hW _) ?_
        rintro r A' ⟨rfl,hA⟩
        have hA:=hA.symm
        subst hA
        rw [show (decide (dep (subV m v) ≤ 8) && decide (cnt (subV m v) ≤ 63)) = fitI (.al [] (subV m v)) from rfl]
        cases h2 : fitI (.al [] (subV m v)) with
        | false =>
          simp only [zW,zX,zD,builtinA,isLeaf,const1,ustrA,simprocAttr,ti4,ti9,ti64,ti68,ti87,ti89,ti102,ti135,ti154,ca63,ca70,mi102,za89,cf,Tryz.results84]
          exact ⟨by simp [visC,hf,h1,h2],_,by simp only [visS,hf]; rw [set_same hgm him]⟩
        | true =>
          simp only [zW,zX,zD,builtinA,isLeaf,const1,ustrA,simprocAttr,ti4,ti9,ti64,ti68,ti87,ti89,ti102,ti135,ti154,ca63,ca70,mi102,za89,cf,Tryz.results84]
          have hgx : ∀ X,(A ++ (Box.cells [.bool (viK (.va n v)).1,.str (viK (.va n v)).2] :: X)).getD A.length .dead = .cells [.bool (viK (.va n v)).1,.str (viK (.va n v)).2]:=fun X=>by rw [Abs.getD_append_right (Nat.le_refl _)]; simp
          simp only [zW,zX,zD,builtinA,isLeaf,const1,ustrA,simprocAttr,ti4,ti9,ti64,ti68,ti87,ti89,ti102,ti135,ti154,ca63,ca70,mi102,za89,cf,Tryz.results84,hgx,show (viK (.va n v)).1 = true from rfl]
          exact ⟨by simp [visC,hf,h1,h2],_,by simp only [visS,hf]; rw [set_same hgm him]⟩
def offR : Option (Nat × Ky × Int) → AV
  | none=>.nili
  | some x=>.iface 70 (.agg [.int .i64 (x.1 : Nat),.bool x.2.1.1,.str x.2.1.2,.int .i64 x.2.2])
theorem rdN_ord {s : List SigI} {ws : List VI} (h : RdN s (some ws)) : ordB ws = true:=by
  obtain ⟨ys,h8,hr,hord,hn⟩:=h
  rw [(normL_fit hn).2]; exact ordB_norm hord
theorem knownB_new {hs ws : List VI} (ho : ordB ws = true) {i : Nat} (hi : i < ws.length) {n : List UInt8} (hy : ws.getD i vi0 = .ab n) : lookB ([],n) (knownB hs (ws.take i)) = none:=by
  refine lookB_none fun x hx e=>?_
  have h1:=(knownB_names hs _ x hx).2
  rw [e] at h1
  obtain ⟨z,hz,hzk⟩:=List.mem_map.1 h1
  obtain ⟨b,hb,rfl⟩:=List.mem_iff_getElem.1 hz
  simp only [List.length_take] at hb
  have hne:=ordB_ne ho (i:=b) (j:=i) (by omega) hi
  apply hne
  have e1 : ws.getD b vi0 = (ws.take i)[b]'(by simp; omega):=by simp [List.getD,show b < ws.length by omega]
  rw [e1,hzk,hy]; rfl
set_option maxRecDepth 100000 in
set_option maxHeartbeats 4000000 in
theorem impl_offers (a b : List SigI) (hs ws : List VI) (hra : RdN a (some hs)) (hrb : RdN b (some ws)) (A : List Box) :
    ACalls Tryz.prog 48 [.slice (vRows hs),.slice (vRows ws)] A (fun r A'=>r = offR (offC hs [] ws 0) ∧ ∃ B,A' = A ++ B):=by
  have hho:=rdN_vok hra
  have hwo:=rdN_vok hrb
  have hord:=rdN_ord hrb
  refine acalls_enterK (cf:=cf 30 [0,1,4,5,6,7,8,12,13,14,15,22]) foll Tryz.func48 Tryz.ntmps48 (by simp [cf]) ?_
  simp only [Tryz.f48,EnterK_some,zW,zX,zD,builtinA,isLeaf,const1,ustrA,simprocAttr,ti3,ti64,ti70,ti87,ti102,ti135,ca84,cf,Tryz.results48]
  simp only [zW,zX,zD,builtinA,isLeaf,const1,ustrA,simprocAttr,ti3,ti64,ti70,ti87,ti102,ti135,ca84,cf,Tryz.results48,vRows_length]
  refine aloop_intro [5,12,13,14] (fun e A'=>∃ i B,i ≤ ws.length ∧ (∀ k,k < i → visC hs (knownB hs (ws.take k)) (ws.getD k vi0) = 0) ∧ e = [(5,.ptr (A.length + 1) 0),(12,.slice (vRows ws)),(13,.int .i64 ws.length),(14,.int .i64 i)] ∧ A' = A ++ (.mapb (esB (knownB hs (ws.take i))) :: .cells [.slice (vRows hs),.map A.length] :: B)) (fun e _=>ws.length - (intOf (Abs.look 14 e)).toNat) ?_ ?_
  · simp only [zW,zX,zD,builtinA,isLeaf,const1,ustrA,simprocAttr,ti3,ti64,ti70,ti87,ti102,ti135,ca84,cf,Tryz.results48,vRows_length]
    exact ⟨0,[],by omega,fun k hk=>by omega,rfl,by simp [knownB,esB]⟩
  · rintro e A' ⟨i,B,hi,hk,rfl,rfl⟩
    by_cases hlt : i < ws.length
    · have d2 : decide ((i : Int) < (ws.length : Int)) = true:=by simp; omega
      have hlt' : 0 ≤ (i : Int) ∧ (i : Int) < (ws.length : Int):=by omega
      have hg:=vRows_getD hlt
      have hi1 : IntKind.i64.wrap ((i : Int) + 1) = ((i + 1 : Nat) : Int):=by rw [wrap64 (by omega) (by omega)]; rfl
      have hfrom:=offC_from hs ws _ i rfl (by omega) hk
      rw [vi_drop hlt,offC] at hfrom
      have hkn:=knownB_visS hs (ws.take i) (ws.getD i vi0)
      have hlen:=knownB_len hs (ws.take i)
      have hvis:=impl_visit a hs hra (ws.getD i vi0) (hwo.2 i hlt) (knownB hs (ws.take i)) (knownB_ok hho.2 _) (fun n hy=>knownB_new hord hlt hy) (A.length + 1) A.length (A ++ (.mapb (esB (knownB hs (ws.take i))) :: .cells [.slice (vRows hs),.map A.length] :: B)) (by simp) (by simp) (by rw [Abs.getD_append_right (by omega),show A.length + 1 - A.length = 1 by omega]; rfl) (by rw [Abs.getD_append_right (Nat.le_refl _)]; simp)
      have htk : ws.take (i + 1) = ws.take i ++ [ws.getD i vi0]:=by rw [List.take_add_one]; simp [List.getD,hlt]
      rw [← htk] at hkn
      generalize hyv : ws.getD i vi0 = y at *
      rw [vRow] at hg
      simp only [zW,zX,zD,builtinA,isLeaf,const1,ustrA,simprocAttr,ti3,ti64,ti70,ti87,ti102,ti135,ca84,cf,Tryz.results48,vRows_length,d2,hg]
      refine ⟨hlt',?_⟩
      refine callO_intro hvis ?_
      rintro r A' ⟨rfl,B',rfl⟩
      have hset : ∀ (X Y : Box) (rest : List Box),(A ++ X :: rest).set A.length Y = A ++ Y :: rest:=fun X Y rest=>by simp [List.set_append]
      rw [hset,← hkn]
      by_cases hc : visC hs (knownB hs (ws.take i)) y = 0
      · have hnx : ∀ k,k < i + 1 → visC hs (knownB hs (ws.take k)) (ws.getD k vi0) = 0:=fun k h=>by
          rcases Nat.lt_succ_iff_lt_or_eq.mp h with h1 | rfl
          · exact hk k h1
          · rw [hyv]; exact hc
        simp only [zW,zX,zD,builtinA,isLeaf,const1,ustrA,simprocAttr,ti3,ti64,ti70,ti87,ti102,ti135,ca84,cf,Tryz.results48,hc,hi1,LoopK_eq]
        refine ⟨⟨i + 1,B ++ B',by omega,hnx,rfl,by simp⟩,?_⟩
        simp only [intOf]; omega
      · rw [if_neg hc] at hfrom
        generalize visC hs (knownB hs (ws.take i)) y = c at *
        simp only [zW,zX,zD,builtinA,isLeaf,const1,ustrA,simprocAttr,ti3,ti64,ti70,ti87,ti102,ti135,ca84,cf,Tryz.results48,decide_eq_false hc,Bool.not_false]
        refine wpO_invoke _ _ _ _ _ _ _ _ _ _ _ _ _ _ _ _ ?_
        simp only [zW,zX,zD,builtinA,isLeaf,const1,ustrA,simprocAttr,ti3,ti64,ti70,ti87,ti102,ti135,ca84,cf,Tryz.results48]
        refine methI_invK (metI3 (by kernel_rfl) (by kernel_rfl) (by kernel_rfl) (by kernel_rfl) (by kernel_rfl) (by kernel_rfl)) (keyI y _) rfl (fun _=>rfl) ?_
        rintro r A' ⟨rfl,rfl⟩
        simp only [kE]
        simp only [zW,zX,zD,builtinA,isLeaf,const1,ustrA,simprocAttr,ti3,ti64,ti70,ti87,ti102,ti135,ca84,cf,Tryz.results48]
        rw [hfrom]
        exact ⟨rfl,_,rfl⟩
    · have d2 : decide ((i : Int) < (ws.length : Int)) = false:=by simp; omega
      have e : i = ws.length:=by omega
      subst e
      rw [offC_from hs ws _ ws.length rfl (Nat.le_refl _) hk,List.drop_length,offC]
      simp only [zW,zX,zD,builtinA,isLeaf,const1,ustrA,simprocAttr,ti3,ti64,ti70,ti87,ti102,ti135,ca84,cf,Tryz.results48,vRows_length,d2]
      exact ⟨rfl,_,rfl⟩
theorem frz_two {A B : List Box} {j k s1 s2 : Nat} {r1 r2 : List (List AV)} (hj : j < B.length) (hk : k < B.length) (h1 : B.getD j .dead = .row 1 r1 s1) (h2 : B.getD k .dead = .row 1 r2 s2) :
    ∃ C,frzs [.own (A.length + j),.own (A.length + k)] (A ++ B) = some ([.slice r1,.slice r2],A ++ C) ∧ C.length = B.length ∧ ∀ n,n ≠ j → n ≠ k → C.getD n .dead = B.getD n .dead:=by
  have g1 : (A ++ B).getD (A.length + j) .dead = .row 1 r1 s1:=by rw [Abs.getD_append_right (by omega),show A.length + j - A.length = j by omega]; exact h1
  have e1 : ∀ X : Box,(A ++ B).set (A.length + j) X = A ++ B.set j X:=fun X=>by simp [List.set_append]
  have e2 : ∀ (C : List Box) (X : Box),(A ++ C).set (A.length + k) X = A ++ C.set k X:=fun C X=>by simp [List.set_append]
  have g2 : ∃ s,(A ++ B.set j (.row 1 r1 r1.length)).getD (A.length + k) .dead = .row 1 r2 s:=by
    rw [Abs.getD_append_right (by omega),show A.length + k - A.length = k by omega]
    by_cases h : j = k
    · subst h
      rw [h1] at h2
      injection h2 with _ h3 _
      rw [getD_set_self hj,h3]; exact ⟨_,rfl⟩
    · rw [getD_set_ne' h]; exact ⟨_,h2⟩
  obtain ⟨s,g2⟩:=g2
  refine ⟨(B.set j (.row 1 r1 r1.length)).set k (.row 1 r2 r2.length),?_,by simp,fun n n1 n2=>by rw [getD_set_ne' (Ne.symm n2),getD_set_ne' (Ne.symm n1)]⟩
  simp only [frzs,frzC,frz1,g1,e1,g2,e2]
set_option maxRecDepth 100000 in
set_option maxHeartbeats 4000000 in
theorem impl_MatchSig (a b : List SigI) (ha : a.length ≤ 1048576) (hoa : ∀ x ∈ a,x.Ok ∧ sz x.typ ≤ 1048576) (hb : b.length ≤ 1048576) (hob : ∀ x ∈ b,x.Ok ∧ sz x.typ ≤ 1048576) (A : List Box) :
    ACalls Tryz.prog 18 [.slice (sEs a),.slice (sEs b)] A (fun r A'=>∃ c p,MtIs a b c p ∧ r = .int .i64 c ∧ A' = A):=by
  refine acalls_enter (cf:=cf 26 [0,1,4,5,6,7,8,17,23]) foll Tryz.func18 Tryz.ntmps18 (by simp [cf]) ?_
  simp only [Tryz.f18,EnterK_some,zW,zX,zD,builtinA,isLeaf,const1,ustrA,simprocAttr,ti3,ti70,ti75,ca46,ca47,ca48,cf,Tryz.results18]
  refine callO_intro (impl_readMatch a b ha hoa hb hob _) ?_
  rintro r A' ⟨B,rfl,⟨hs,ws,j,k,hra,hrb,rfl,hj,hk,gj,gk⟩ | ⟨c,hc,hn,rfl⟩⟩
  · simp only [zW,zX,zD,builtinA,isLeaf,const1,ustrA,simprocAttr,ti3,ti70,ti75,ca46,ca47,ca48,cf,Tryz.results18]
    obtain ⟨C,f1,f2,f3⟩:=frz_two (A:=A) (B:=B ++ [.cells [.int .i64 0,.bool false,.str [],.int .i64 0]]) (j:=j) (k:=k) (by simp; omega) (by simp; omega) (by rw [Abs.getD_append_left hj]; exact gj) (by rw [Abs.getD_append_left hk]; exact gk)
    refine callK_intro f1 (impl_offers a b hs ws hra hrb _) ?_ rfl
    rintro r A' ⟨rfl,D,rfl⟩
    have hM : MtIs a b (mcO (offC hs [] ws 0)) (mpO (offC hs [] ws 0)):=.inl ⟨hs,ws,hra,hrb,rfl,rfl⟩
    have hcl:=offC_code hs ws [] 0
    have hbx : (A ++ (C ++ D)).getD (A.length + B.length) .dead = .cells [.int .i64 0,.bool false,.str [],.int .i64 0]:=by
      simp only [List.length_append,List.length_singleton] at f2
      rw [Abs.getD_append_right (by omega),show A.length + B.length - A.length = B.length by omega,Abs.getD_append_left (by omega),f3 _ (by omega) (by omega),Abs.getD_append_right (Nat.le_refl _)]; simp
    cases ho : offC hs [] ws 0 with
    | none =>
      simp only [offR]
      simp only [zW,zX,zD,builtinA,isLeaf,const1,ustrA,simprocAttr,ti3,ti70,ti75,ca46,ca47,ca48,cf,Tryz.results18]
      refine callO_intro (As_nil _ _) ?_
      rintro r A' ⟨rfl,rfl⟩
      simp only [zW,zX,zD,builtinA,isLeaf,const1,ustrA,simprocAttr,ti3,ti70,ti75,ca46,ca47,ca48,cf,Tryz.results18]
      rw [ho] at hM
      exact ⟨_,_,hM,rfl⟩
    | some x =>
      obtain ⟨i,⟨q1,q2⟩,c⟩:=x
      have hil : A.length + B.length < (A ++ (C ++ D)).length:=by simp at f2 ⊢; omega
      have hA:=As_hit (A ++ (C ++ D)) (A.length + B.length) (.int .i64 (i : Nat)) (.bool q1) (.str q2) (.int .i64 c) _ hil hbx rfl
      have hsx : ∀ X : Box,(A ++ (C ++ D)).set (A.length + B.length) X = A ++ (C ++ D).set B.length X:=fun X=>by simp [List.set_append]
      have hgx : ∀ X : Box,(A ++ (C ++ D).set B.length X).getD (A.length + B.length) .dead = X:=fun X=>by
        rw [← hsx,getD_set_self hil]
      rw [hsx] at hA
      simp only [offR]
      simp only [zW,zX,zD,builtinA,isLeaf,const1,ustrA,simprocAttr,ti3,ti70,ti75,ca46,ca47,ca48,cf,Tryz.results18]
      refine callO_intro hA ?_
      rintro r A' ⟨rfl,rfl⟩
      rw [ho] at hM
      simp only [zW,zX,zD,builtinA,isLeaf,const1,ustrA,simprocAttr,ti3,ti70,ti75,ca46,ca47,ca48,cf,Tryz.results18,hgx]
      exact ⟨_,_,hM,rfl⟩
  · have hc0 : decide (c = 0) = false:=decide_eq_false (by rcases hc with ⟨h,_⟩ | ⟨h,_⟩ <;> omega)
    have hM : MtIs a b c (0,false):=.inr ⟨hn,rfl,by
      rcases hc with ⟨h,h1⟩ | ⟨h,h1,h2⟩
      · rw [h]; rcases h1 with h1 | h1 <;> simp [h1]
      · rw [h]; simp [h1,h2]⟩
    simp only [zW,zX,zD,builtinA,isLeaf,const1,ustrA,simprocAttr,ti3,ti70,ti75,ca46,ca47,ca48,cf,Tryz.results18,hc0,Bool.not_false]
    exact ⟨_,_,hM,rfl⟩
theorem impl_MatchSigF {a b : List SigI} {c : Int} {p : Nat × Bool} (hM : MtIs a b c p) (ha : a.length ≤ 1048576) (hoa : ∀ x ∈ a,x.Ok ∧ sz x.typ ≤ 1048576) (hb : b.length ≤ 1048576) (hob : ∀ x ∈ b,x.Ok ∧ sz x.typ ≤ 1048576) (A : List Box) :
    ACalls Tryz.prog 18 [.slice (sEs a),.slice (sEs b)] A (fun r A'=>r = .int .i64 c ∧ A' = A) :=
  (impl_MatchSig a b ha hoa hb hob A).mono fun r A' h=>by
    obtain ⟨c',p',h1,h2,h3⟩:=h
    rw [(mtIs_one h1 hM).1] at h2
    exact ⟨h2,h3⟩
end Go.Proofs.YtkajklfohjcofaaGreatDoor
