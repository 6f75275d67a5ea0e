/- ExRd, ExRead, ExRead2. -/
import Derived.Test.YtnjdbgiincliaaaGreatK13
import Derived.Test.YtnjdbgiincliaaaGreatAbsW3
/- How the program reads an expression, as a function. -/
set_option linter.unusedVariables false
set_option linter.unusedSimpArgs false
namespace Go.Proofs.YtnjdbgiincliaaaGreat
open Go.Abs
def vtE : VE → TypeId
  | .var _=>345
  | .num _=>439
  | .nm _ _=>222
  | .fn _ _=>333
  | .app _ _=>441
  | .add _ _=>443
  | .ite _ _ _=>445
def vxE : VE → AV
  | .var i=>.agg [.int .i64 i]
  | .num i=>.agg [.int .i64 i]
  | .nm m n=>.agg [.str m,.str n]
  | .fn t b=>.agg [.iface (vT t) (vX t),.iface (vtE b) (vxE b)]
  | .app a b=>.agg [.iface (vtE a) (vxE a),.iface (vtE b) (vxE b)]
  | .add a b=>.agg [.iface (vtE a) (vxE a),.iface (vtE b) (vxE b)]
  | .ite c a b=>.agg [.iface (vtE c) (vxE c),.iface (vtE a) (vxE a),.iface (vtE b) (vxE b)]
def ifE (v : VE) : AV:=.iface (vtE v) (vxE v)
def rowsV (vs : List VE) : List (List AV):=vs.map fun v=>[ifE v]
theorem rowsV_length (vs : List VE) : (rowsV vs).length = vs.length:=by simp [rowsV]
noncomputable def rdT (t : Ty) : AV × Option VT:=by
  classical
  exact if h : ∃ v,t = toTy v ∧ VOk v then (.iface (vT h.choose) (vX h.choose),some h.choose) else (.nili,none)
theorem rdT_toTy {v : VT} (h : VOk v) : rdT (toTy v) = (.iface (vT v) (vX v),some v):=by
  have hh : ∃ u,toTy v = toTy u ∧ VOk u:=⟨v,rfl,h⟩
  have e : hh.choose = v:=(toTy_inj' hh.choose_spec.1).symm
  unfold rdT
  rw [dif_pos hh,e]
theorem rdT_bad {t : Ty} (h : validB t = false) : rdT t = (.nili,none):=by
  have hh : ¬ ∃ u,t = toTy u ∧ VOk u:=by
    rintro ⟨u,rfl,hu⟩
    rw [validB_toTy hu] at h; cases h
  unfold rdT
  rw [dif_neg hh]
def opc (k : Int) : Int:=if k = 1 then 0 else if k = 2 then 0 else if k = 3 then 0 else if k = 4 then 1 else if k = 5 then 2 else if k = 6 then 2 else if k = 7 then 3 else -1
noncomputable def zeroX (k i : Int) (m n : List UInt8) (t : Ty) : Bool :=
  ((decide (k = 1) || decide (k = 2)) || decide (i = 0)) && (decide (k = 3) || decide (m = [])) && (decide (k = 3) || decide (n = [])) && (decide (k = 4) || decide (t = ty0))
noncomputable def headX (k i : Int) (m n : List UInt8) (t : Ty) (vs : List VE) : AV × Option VE :=
  if k = 1 then (.iface 345 (.agg [.int .i64 i]),if 0 ≤ i ∧ i ≤ 12 then some (.var i) else none)
  else if k = 2 then (.iface 439 (.agg [.int .i64 i]),if 0 ≤ i ∧ i ≤ 99 then some (.num i) else none)
  else if k = 3 then (.iface 222 (.agg [.str m,.str n]),if ((decide (m = []) || moduleB m) && localB n) = true then some (.nm m n) else none)
  else if k = 4 then (.iface 333 (.agg [(rdT t).1,ifE (vs.getD 0 (.num 0))]),(rdT t).2.map fun u=>.fn u (vs.getD 0 (.num 0)))
  else if k = 5 then (.iface 441 (.agg [ifE (vs.getD 0 (.num 0)),ifE (vs.getD 1 (.num 0))]),some (.app (vs.getD 0 (.num 0)) (vs.getD 1 (.num 0))))
  else if k = 6 then (.iface 443 (.agg [ifE (vs.getD 0 (.num 0)),ifE (vs.getD 1 (.num 0))]),some (.add (vs.getD 0 (.num 0)) (vs.getD 1 (.num 0))))
  else if k = 7 then (.iface 445 (.agg [ifE (vs.getD 0 (.num 0)),ifE (vs.getD 1 (.num 0)),ifE (vs.getD 2 (.num 0))]),some (.ite (vs.getD 0 (.num 0)) (vs.getD 1 (.num 0)) (vs.getD 2 (.num 0))))
  else (.nili,none)
noncomputable def fin (k i : Int) (m n : List UInt8) (t : Ty) (r : Option (List VE) × Int) : (AV × Option VE) × Int :=
  match r.1 with
  | none=>((.nili,none),r.2)
  | some vs=>if (vs.length : Int) = opc k then (headX k i m n t vs,r.2) else ((.nili,none),r.2)
noncomputable def next (r : (AV × Option VE) × Int) (s : Option (List VE) × Int) : Option (List VE) × Int :=
  match r.1.2 with
  | none=>(none,r.2)
  | some v=>match s.1 with
    | none=>(none,s.2)
    | some vs=>(some (v :: vs),s.2)
mutual
noncomputable def readX : Ex → Int → Int → (AV × Option VE) × Int
  | .mk k i m n t ks,d,c =>
    if (decide (c + 1 ≤ 400) && decide (d ≤ 40) && zeroX k i m n t) = false then ((.nili,none),c + 1)
    else if opc k < ks.length then ((.nili,none),c + 1)
    else fin k i m n t (readXs ks (d + 1) (c + 1))
noncomputable def readXs : List Ex → Int → Int → Option (List VE) × Int
  | [],_,c=>(some [],c)
  | x :: l,d,c=>next (readX x d c) (readXs l d (readX x d c).2)
end
theorem readX_of (x : Ex) : ∀ (d c : Int) (v : VE),0 ≤ c → (readX x d c).1.2 = some v → x = toX v ∧ okE v ∧ d + depE v ≤ 41 ∧ c + cntE v ≤ 400 ∧ readX x d c = ((ifE v,some v),c + cntE v):=by
  induction x using Ex.ind with
  | h k i m n t ks ih =>
    have hs : ∀ (l : List Ex),(∀ x ∈ l,x ∈ ks) → ∀ (d c : Int) (vs : List VE),0 ≤ c → (readXs l d c).1 = some vs → l = vs.map toX ∧ (∀ v ∈ vs,okE v ∧ d + depE v ≤ 41) ∧ (readXs l d c).2 = c + (vs.map cntE).sum ∧ (vs = [] ∨ c + (vs.map cntE).sum ≤ 400):=by
      intro l
      induction l with
      | nil=>intro _ d c vs hc h; simp only [readXs,Option.some.injEq] at h; subst h; simp [readXs]
      | cons x l ihl =>
        intro hm d c vs hc h
        rw [readXs,next] at h
        cases h1 : (readX x d c).1.2 with
        | none=>rw [h1] at h; cases h
        | some v =>
          rw [h1] at h
          simp only at h
          obtain ⟨a1,a2,a3,a4,a5⟩:=ih x (hm x (by simp)) d c v hc h1
          have hc2 : (readX x d c).2 = c + cntE v:=by rw [a5]
          cases h2 : (readXs l d (readX x d c).2).1 with
          | none=>rw [h2] at h; cases h
          | some us =>
            rw [h2] at h
            simp only [Option.some.injEq] at h
            subst h
            obtain ⟨b1,b2,b3,b4⟩:=ihl (fun y hy=>hm y (by simp [hy])) d _ us (by rw [hc2]; omega) h2
            refine ⟨by rw [List.map_cons,← a1,← b1],fun u hu=>?_,?_,.inr ?_⟩
            · rcases List.mem_cons.1 hu with rfl | hu
              · exact ⟨a2,a3⟩
              · exact b2 u hu
            · rw [readXs,next,h1]
              simp only [h2]
              rw [b3,hc2]; simp; omega
            · rw [hc2] at b4
              rcases b4 with rfl | b4
              · simp; omega
              · simp; omega
    intro d c v hc h
    rw [readX] at h ⊢
    by_cases h1 : (decide (c + 1 ≤ 400) && decide (d ≤ 40) && zeroX k i m n t) = false
    · rw [if_pos h1] at h; cases h
    · rw [if_neg h1] at h ⊢
      by_cases h2 : opc k < ks.length
      · rw [if_pos h2] at h; cases h
      · rw [if_neg h2] at h ⊢
        simp only [Bool.not_eq_false,Bool.and_eq_true,decide_eq_true_eq] at h1
        obtain ⟨⟨g1,g2⟩,g3⟩:=h1
        rw [fin] at h ⊢
        cases h3 : (readXs ks (d + 1) (c + 1)).1 with
        | none=>rw [h3] at h; cases h
        | some vs =>
          rw [h3] at h
          simp only at h ⊢
          by_cases h4 : (vs.length : Int) = opc k
          · rw [if_pos h4] at h ⊢
            obtain ⟨b1,b2,b3,b4⟩:=hs ks (fun _ h=>h) (d + 1) (c + 1) vs (by omega) h3
            subst b1
            rw [b3]
            simp only at h
            unfold headX at h ⊢
            by_cases k1 : k = 1
            · subst k1
              obtain rfl : vs = []:=by simpa [opc] using h4
              simp only [if_true] at h ⊢
              split at h
              · rename_i hi
                injection h with h; subst h
                simp [zeroX] at g3
                rw [if_pos hi,g3.1.1,g3.1.2,g3.2]
                refine ⟨rfl,hi,by simp only [depE]; omega,by simp only [cntE]; omega,?_⟩
                simp [ifE,vtE,vxE,cntE]
              · cases h
            by_cases k2 : k = 2
            · subst k2
              obtain rfl : vs = []:=by simpa [opc] using h4
              simp only [if_neg k1,if_true] at h ⊢
              split at h
              · rename_i hi
                injection h with h; subst h
                simp [zeroX] at g3
                rw [if_pos hi,g3.1.1,g3.1.2,g3.2]
                refine ⟨rfl,hi,by simp only [depE]; omega,by simp only [cntE]; omega,?_⟩
                simp [ifE,vtE,vxE,cntE]
              · cases h
            by_cases k3 : k = 3
            · subst k3
              obtain rfl : vs = []:=by simpa [opc] using h4
              simp only [if_neg k1,if_neg k2,if_true] at h ⊢
              split at h
              · rename_i hi
                injection h with h; subst h
                simp [zeroX] at g3
                rw [if_pos hi,g3.1,g3.2]
                refine ⟨rfl,hi,by simp only [depE]; omega,by simp only [cntE]; omega,?_⟩
                simp [ifE,vtE,vxE,cntE]
              · cases h
            by_cases k4 : k = 4
            · subst k4
              obtain ⟨b,rfl⟩ : ∃ b,vs = [b]:=by
                match vs,h4 with
                | [b],_=>exact ⟨b,rfl⟩
                | [],h4=>simp [opc] at h4
                | _ :: _ :: _,h4=>simp [opc] at h4; omega
              simp only [if_neg k1,if_neg k2,if_neg k3,if_true] at h ⊢
              rcases valid_cases t with ⟨u,rfl,hu⟩ | hn
              · rw [rdT_toTy hu] at h ⊢
                simp only [Option.map_some,Option.some.injEq,List.getD_cons_zero] at h ⊢
                subst h
                have hb:=b2 b (by simp)
                simp [zeroX] at g3
                rw [g3.1.1,g3.1.2,g3.2]
                simp at b4
                refine ⟨rfl,⟨hu,hb.1⟩,by simp only [depE]; omega,by simp only [cntE]; omega,?_⟩
                simp [ifE,vtE,vxE,cntE]; omega
              · rw [rdT_bad hn] at h; cases h
            by_cases k5 : k = 5
            · subst k5
              obtain ⟨a,b,rfl⟩ : ∃ a b,vs = [a,b]:=by
                match vs,h4 with
                | [a,b],_=>exact ⟨a,b,rfl⟩
                | [],h4=>simp [opc] at h4
                | [_],h4=>simp [opc] at h4
                | _ :: _ :: _ :: _,h4=>simp [opc] at h4; omega
              simp only [if_neg k1,if_neg k2,if_neg k3,if_neg k4,if_true,Option.some.injEq,List.getD_cons_zero,List.getD_cons_succ] at h ⊢
              subst h
              have ha:=b2 a (by simp)
              have hb:=b2 b (by simp)
              simp [zeroX] at g3
              rw [g3.1.1.1,g3.1.1.2,g3.1.2,g3.2]
              simp at b4
              refine ⟨rfl,⟨ha.1,hb.1⟩,by simp only [depE]; omega,by simp only [cntE]; omega,?_⟩
              simp [ifE,vtE,vxE,cntE]; omega
            by_cases k6 : k = 6
            · subst k6
              obtain ⟨a,b,rfl⟩ : ∃ a b,vs = [a,b]:=by
                match vs,h4 with
                | [a,b],_=>exact ⟨a,b,rfl⟩
                | [],h4=>simp [opc] at h4
                | [_],h4=>simp [opc] at h4
                | _ :: _ :: _ :: _,h4=>simp [opc] at h4; omega
              simp only [if_neg k1,if_neg k2,if_neg k3,if_neg k4,if_neg k5,if_true,Option.some.injEq,List.getD_cons_zero,List.getD_cons_succ] at h ⊢
              subst h
              have ha:=b2 a (by simp)
              have hb:=b2 b (by simp)
              simp [zeroX] at g3
              rw [g3.1.1.1,g3.1.1.2,g3.1.2,g3.2]
              simp at b4
              refine ⟨rfl,⟨ha.1,hb.1⟩,by simp only [depE]; omega,by simp only [cntE]; omega,?_⟩
              simp [ifE,vtE,vxE,cntE]; omega
            by_cases k7 : k = 7
            · subst k7
              obtain ⟨e,a,b,rfl⟩ : ∃ e a b,vs = [e,a,b]:=by
                match vs,h4 with
                | [e,a,b],_=>exact ⟨e,a,b,rfl⟩
                | [],h4=>simp [opc] at h4
                | [_],h4=>simp [opc] at h4
                | [_,_],h4=>simp [opc] at h4
                | _ :: _ :: _ :: _ :: _,h4=>simp [opc] at h4; omega
              simp only [if_neg k1,if_neg k2,if_neg k3,if_neg k4,if_neg k5,if_neg k6,if_true,Option.some.injEq,List.getD_cons_zero,List.getD_cons_succ] at h ⊢
              subst h
              have he:=b2 e (by simp)
              have ha:=b2 a (by simp)
              have hb:=b2 b (by simp)
              simp [zeroX] at g3
              rw [g3.1.1.1,g3.1.1.2,g3.1.2,g3.2]
              simp at b4
              refine ⟨rfl,⟨he.1,ha.1,hb.1⟩,by simp only [depE]; omega,by simp only [cntE]; omega,?_⟩
              simp [ifE,vtE,vxE,cntE]; omega
            · rw [if_neg k1,if_neg k2,if_neg k3,if_neg k4,if_neg k5,if_neg k6,if_neg k7] at h; cases h
          · rw [if_neg h4] at h; cases h
theorem readX_toX : ∀ (v : VE) (d c : Int),okE v → d + depE v ≤ 41 → 0 ≤ c → c + cntE v ≤ 400 → readX (toX v) d c = ((ifE v,some v),c + cntE v)
  | .var i,d,c,ho,h1,h0,h2=>by
    simp only [okE,depE,cntE] at ho h1 h2
    have g1 : c + 1 ≤ 400:=by omega
    have g2 : d ≤ 40:=by omega
    simp [toX,readX,readXs,zeroX,opc,fin,headX,g1,g2,ho,ifE,vtE,vxE,cntE]
  | .num i,d,c,ho,h1,h0,h2=>by
    simp only [okE,depE,cntE] at ho h1 h2
    have g1 : c + 1 ≤ 400:=by omega
    have g2 : d ≤ 40:=by omega
    simp [toX,readX,readXs,zeroX,opc,fin,headX,g1,g2,ho,ifE,vtE,vxE,cntE]
  | .nm m n,d,c,ho,h1,h0,h2=>by
    simp only [okE,depE,cntE,nmB] at ho h1 h2
    have g1 : c + 1 ≤ 400:=by omega
    have g2 : d ≤ 40:=by omega
    simp [toX,readX,readXs,zeroX,opc,fin,headX,g1,g2,ho,ifE,vtE,vxE,cntE]
  | .fn t b,d,c,ho,h1,h0,h2=>by
    obtain ⟨o1,o2⟩:=ho
    simp only [depE,cntE] at h1 h2
    have g1 : c + 1 ≤ 400:=by omega
    have g2 : d ≤ 40:=by have:=depE_pos b; omega
    have hb:=readX_toX b (d + 1) (c + 1) o2 (by omega) (by omega) (by omega)
    simp [toX,readX,readXs,next,hb,zeroX,opc,fin,headX,rdT_toTy o1,g1,g2,ifE,vtE,vxE,cntE]
    omega
  | .app a b,d,c,ho,h1,h0,h2=>by
    obtain ⟨o1,o2⟩:=ho
    simp only [depE,cntE] at h1 h2
    have g1 : c + 1 ≤ 400:=by omega
    have g2 : d ≤ 40:=by have:=depE_pos b; omega
    have ha:=readX_toX a (d + 1) (c + 1) o1 (by omega) (by omega) (by omega)
    have hb:=readX_toX b (d + 1) (c + 1 + cntE a) o2 (by omega) (by omega) (by omega)
    simp [toX,readX,readXs,next,ha,hb,zeroX,opc,fin,headX,g1,g2,ifE,vtE,vxE,cntE]
    omega
  | .add a b,d,c,ho,h1,h0,h2=>by
    obtain ⟨o1,o2⟩:=ho
    simp only [depE,cntE] at h1 h2
    have g1 : c + 1 ≤ 400:=by omega
    have g2 : d ≤ 40:=by have:=depE_pos b; omega
    have ha:=readX_toX a (d + 1) (c + 1) o1 (by omega) (by omega) (by omega)
    have hb:=readX_toX b (d + 1) (c + 1 + cntE a) o2 (by omega) (by omega) (by omega)
    simp [toX,readX,readXs,next,ha,hb,zeroX,opc,fin,headX,g1,g2,ifE,vtE,vxE,cntE]
    omega
  | .ite e a b,d,c,ho,h1,h0,h2=>by
    obtain ⟨o0,o1,o2⟩:=ho
    simp only [depE,cntE] at h1 h2
    have g1 : c + 1 ≤ 400:=by omega
    have g2 : d ≤ 40:=by have:=depE_pos b; omega
    have he:=readX_toX e (d + 1) (c + 1) o0 (by omega) (by omega) (by omega)
    have ha:=readX_toX a (d + 1) (c + 1 + cntE e) o1 (by omega) (by omega) (by omega)
    have hb:=readX_toX b (d + 1) (c + 1 + cntE e + cntE a) o2 (by omega) (by omega) (by omega)
    simp [toX,readX,readXs,next,he,ha,hb,zeroX,opc,fin,headX,g1,g2,ifE,vtE,vxE,cntE]
    omega
end Go.Proofs.YtnjdbgiincliaaaGreat
/- The program's reading of expressions. -/
set_option linter.unusedVariables false
set_option linter.unusedSimpArgs false
namespace Go.Proofs.YtnjdbgiincliaaaGreat
open Go.Abs
set_option maxRecDepth 100000 in
theorem impl_enter (i : Nat) (c d : Int) (A : List Box) (hi : i < A.length) (hA : A.getD i .dead = .cells [.int .i64 c]) (h0 : 0 ≤ c) (h1 : c ≤ 1000) :
    ACalls Tryz.prog 275 [.ptr i 0,.int .i64 d] A (fun r A'=>r = .bool (decide (c + 1 ≤ 400) && decide (d ≤ 40)) ∧ A' = A.set i (.cells [.int .i64 (c + 1)])):=by
  have hw : IntKind.i64.wrap (c + 1) = c + 1:=wrap64 (by omega) (by omega)
  have hg : ∀ X,(A.set i X).getD i .dead = X:=fun X=>getD_set1 hi
  have ho : Outer A (A.set i (.cells [.int .i64 (c + 1)])):=by have:=outer_set A [] i (.cells [.int .i64 (c + 1)]) rfl; simpa using this
  by_cases g1 : c + 1 ≤ 400
  · rw [decide_eq_true g1]
    refine acalls_enter (cf:=cf 18 [0,1,4]) foll Tryz.func275 Tryz.ntmps275 (by simp [cf]) ?_
    simp only [Tryz.f275,EnterK_some,zW,zX,zD,builtinA,isLeaf,const1,ustrA,simprocAttr,ti3,ti327,cf,Tryz.results275]
    simp only [zW,zX,zD,builtinA,isLeaf,const1,ustrA,simprocAttr,ti3,ti327,cf,Tryz.results275,hA,hw,hg,hi,decide_eq_true g1]
    exact ho
  · rw [decide_eq_false g1]
    refine acalls_enter (cf:=cf 18 [0,1,4]) foll Tryz.func275 Tryz.ntmps275 (by simp [cf]) ?_
    simp only [Tryz.f275,EnterK_some,zW,zX,zD,builtinA,isLeaf,const1,ustrA,simprocAttr,ti3,ti327,cf,Tryz.results275]
    simp only [zW,zX,zD,builtinA,isLeaf,const1,ustrA,simprocAttr,ti3,ti327,cf,Tryz.results275,hA,hw,hg,hi,decide_eq_false g1]
    exact ho
set_option maxRecDepth 100000 in
theorem impl_operandCount (k : Int) (A : List Box) : ACalls Tryz.prog 278 [.int .i64 k] A (fun r A'=>r = .int .i64 (opc k) ∧ A' = A):=by
  refine acalls_enter (cf:=cf 15 [0,2,3,4,8,10,13]) foll Tryz.func278 Tryz.ntmps278 (by simp [cf]) ?_
  simp only [Tryz.f278,EnterK_some,zW,zX,zD,builtinA,isLeaf,const1,ustrA,simprocAttr,ti3,cf,Tryz.results278]
  repeat' first
    | (refine guardT_intro (fun h=>?_) (fun h=>?_) <;> (try simp only [decide_eq_true_eq,decide_eq_false_iff_not,Bool.not_eq_eq_eq_not,Bool.not_true,Bool.not_false] at h) <;> simp only [zW,zX,zD,builtinA,isLeaf,const1,ustrA,simprocAttr,ti3,cf,Tryz.results278,h])
    | (refine guardF_intro (fun h=>?_) (fun h=>?_) <;> (try simp only [decide_eq_true_eq,decide_eq_false_iff_not,Bool.not_eq_eq_eq_not,Bool.not_true,Bool.not_false] at h) <;> simp only [zW,zX,zD,builtinA,isLeaf,const1,ustrA,simprocAttr,ti3,cf,Tryz.results278,h])
    | (refine condK_intro (fun h=>?_) (fun h=>?_) <;> (try simp only [decide_eq_true_eq,decide_eq_false_iff_not,Bool.not_eq_eq_eq_not,Bool.not_true,Bool.not_false] at h) <;> simp only [zW,zX,zD,builtinA,isLeaf,const1,ustrA,simprocAttr,ti3,cf,Tryz.results278,h])
    | (refine guardDT_intro (fun h=>?_) (fun h=>?_) <;> (try simp only [decide_eq_true_eq,decide_eq_false_iff_not,Bool.not_eq_eq_eq_not,Bool.not_true,Bool.not_false] at h) <;> simp only [zW,zX,zD,builtinA,isLeaf,const1,ustrA,simprocAttr,ti3,cf,Tryz.results278,h])
    | (refine guardDF_intro (fun h=>?_) (fun h=>?_) <;> (try simp only [decide_eq_true_eq,decide_eq_false_iff_not,Bool.not_eq_eq_eq_not,Bool.not_true,Bool.not_false] at h) <;> simp only [zW,zX,zD,builtinA,isLeaf,const1,ustrA,simprocAttr,ti3,cf,Tryz.results278,h])
    | refine And.intro ?_ ?_
  all_goals simp [opc, *]
set_option maxRecDepth 100000 in
set_option maxHeartbeats 4000000 in
theorem impl_unusedAreZero (k i : Int) (m n : List UInt8) (t : Ty) (ks : List (List AV)) (A : List Box) :
    ACalls Tryz.prog 276 [.agg [.int .i64 k,.int .i64 i,.str m,.str n,.int .i64 t.kind,.str t.mod,.str t.name,.slice (encs t.kids),.slice ks]] A (fun r A'=>r = .bool (zeroX k i m n t) ∧ A' = A):=by
  have hz:=fun A=>impl_TypeSame0 t A
  have hz0:=fun A=>impl_TypeSame0 ty0 A
  rw [show enc ty0 = [.int .i64 0,.str [],.str [],.slice []] from rfl] at hz hz0
  rw [encQ4] at hz
  by_cases k1 : k = 1
  · refine acalls_enter (cf:=cf 36 [0,1,2,4,5,9,13]) foll Tryz.func276 Tryz.ntmps276 (by simp [cf]) ?_
    simp only [Tryz.f276,EnterK_some,zW,zX,zD,builtinA,isLeaf,const1,ustrA,simprocAttr,ti3,ti9,ti36,ti39,ca251,cf,Tryz.results276]
    simp only [zW,zX,zD,builtinA,isLeaf,const1,ustrA,simprocAttr,ti3,ti9,ti36,ti39,ca251,cf,Tryz.results276,decide_eq_true k1]
    by_cases hm : m = []
    · simp only [zW,zX,zD,builtinA,isLeaf,const1,ustrA,simprocAttr,ti3,ti9,ti36,ti39,ca251,cf,Tryz.results276,decide_eq_true hm]
      by_cases hn : n = []
      · simp only [zW,zX,zD,builtinA,isLeaf,const1,ustrA,simprocAttr,ti3,ti9,ti36,ti39,ca251,cf,Tryz.results276,decide_eq_true hn]
        refine callK_intro (by simp only [zW,zX,zD,builtinA,isLeaf,const1,ustrA,simprocAttr,Option.map_some] <;> rfl) (hz _) ?_ rfl
        rintro r A' ⟨rfl,rfl⟩
        simp only [zW,zX,zD,builtinA,isLeaf,const1,ustrA,simprocAttr,ti3,ti9,ti36,ti39,ca251,cf,Tryz.results276]
        try simp [zeroX,k1,hm,hn]
      · simp only [zW,zX,zD,builtinA,isLeaf,const1,ustrA,simprocAttr,ti3,ti9,ti36,ti39,ca251,cf,Tryz.results276,decide_eq_false hn]
        try simp [zeroX,k1,hm,hn]
    · simp only [zW,zX,zD,builtinA,isLeaf,const1,ustrA,simprocAttr,ti3,ti9,ti36,ti39,ca251,cf,Tryz.results276,decide_eq_false hm]
      try simp [zeroX,k1,hm]
  by_cases k2 : k = 2
  · refine acalls_enter (cf:=cf 36 [0,1,2,4,5,9,13]) foll Tryz.func276 Tryz.ntmps276 (by simp [cf]) ?_
    simp only [Tryz.f276,EnterK_some,zW,zX,zD,builtinA,isLeaf,const1,ustrA,simprocAttr,ti3,ti9,ti36,ti39,ca251,cf,Tryz.results276]
    simp only [zW,zX,zD,builtinA,isLeaf,const1,ustrA,simprocAttr,ti3,ti9,ti36,ti39,ca251,cf,Tryz.results276,decide_eq_false k1,decide_eq_true k2]
    by_cases hm : m = []
    · simp only [zW,zX,zD,builtinA,isLeaf,const1,ustrA,simprocAttr,ti3,ti9,ti36,ti39,ca251,cf,Tryz.results276,decide_eq_true hm]
      by_cases hn : n = []
      · simp only [zW,zX,zD,builtinA,isLeaf,const1,ustrA,simprocAttr,ti3,ti9,ti36,ti39,ca251,cf,Tryz.results276,decide_eq_true hn]
        refine callK_intro (by simp only [zW,zX,zD,builtinA,isLeaf,const1,ustrA,simprocAttr,Option.map_some] <;> rfl) (hz _) ?_ rfl
        rintro r A' ⟨rfl,rfl⟩
        simp only [zW,zX,zD,builtinA,isLeaf,const1,ustrA,simprocAttr,ti3,ti9,ti36,ti39,ca251,cf,Tryz.results276]
        try simp [zeroX,k1,k2,hm,hn]
      · simp only [zW,zX,zD,builtinA,isLeaf,const1,ustrA,simprocAttr,ti3,ti9,ti36,ti39,ca251,cf,Tryz.results276,decide_eq_false hn]
        try simp [zeroX,k1,k2,hm,hn]
    · simp only [zW,zX,zD,builtinA,isLeaf,const1,ustrA,simprocAttr,ti3,ti9,ti36,ti39,ca251,cf,Tryz.results276,decide_eq_false hm]
      try simp [zeroX,k1,k2,hm]
  by_cases k3 : k = 3
  · refine acalls_enter (cf:=cf 36 [0,1,2,4,5,9,13]) foll Tryz.func276 Tryz.ntmps276 (by simp [cf]) ?_
    simp only [Tryz.f276,EnterK_some,zW,zX,zD,builtinA,isLeaf,const1,ustrA,simprocAttr,ti3,ti9,ti36,ti39,ca251,cf,Tryz.results276]
    simp only [zW,zX,zD,builtinA,isLeaf,const1,ustrA,simprocAttr,ti3,ti9,ti36,ti39,ca251,cf,Tryz.results276,decide_eq_false k1,decide_eq_false k2,decide_eq_true k3]
    by_cases hi : i = 0
    · simp only [zW,zX,zD,builtinA,isLeaf,const1,ustrA,simprocAttr,ti3,ti9,ti36,ti39,ca251,cf,Tryz.results276,decide_eq_true hi]
      refine callK_intro (by simp only [zW,zX,zD,builtinA,isLeaf,const1,ustrA,simprocAttr,Option.map_some] <;> rfl) (hz _) ?_ rfl
      rintro r A' ⟨rfl,rfl⟩
      simp only [zW,zX,zD,builtinA,isLeaf,const1,ustrA,simprocAttr,ti3,ti9,ti36,ti39,ca251,cf,Tryz.results276]
      try simp [zeroX,k1,k2,k3,hi]
    · simp only [zW,zX,zD,builtinA,isLeaf,const1,ustrA,simprocAttr,ti3,ti9,ti36,ti39,ca251,cf,Tryz.results276,decide_eq_false hi]
      try simp [zeroX,k1,k2,k3,hi]
  by_cases k4 : k = 4
  · refine acalls_enter (cf:=cf 36 [0,1,2,4,5,9,13]) foll Tryz.func276 Tryz.ntmps276 (by simp [cf]) ?_
    simp only [Tryz.f276,EnterK_some,zW,zX,zD,builtinA,isLeaf,const1,ustrA,simprocAttr,ti3,ti9,ti36,ti39,ca251,cf,Tryz.results276]
    simp only [zW,zX,zD,builtinA,isLeaf,const1,ustrA,simprocAttr,ti3,ti9,ti36,ti39,ca251,cf,Tryz.results276,decide_eq_false k1,decide_eq_false k2,decide_eq_false k3,decide_eq_true k4]
    by_cases hi : i = 0
    · simp only [zW,zX,zD,builtinA,isLeaf,const1,ustrA,simprocAttr,ti3,ti9,ti36,ti39,ca251,cf,Tryz.results276,decide_eq_true hi]
      by_cases hm : m = []
      · simp only [zW,zX,zD,builtinA,isLeaf,const1,ustrA,simprocAttr,ti3,ti9,ti36,ti39,ca251,cf,Tryz.results276,decide_eq_true hm]
        by_cases hn : n = []
        · simp only [zW,zX,zD,builtinA,isLeaf,const1,ustrA,simprocAttr,ti3,ti9,ti36,ti39,ca251,cf,Tryz.results276,decide_eq_true hn]
          refine callK_intro (by simp only [zW,zX,zD,builtinA,isLeaf,const1,ustrA,simprocAttr,Option.map_some] <;> rfl) (hz0 _) ?_ rfl
          rintro r A' ⟨rfl,rfl⟩
          simp only [zW,zX,zD,builtinA,isLeaf,const1,ustrA,simprocAttr,ti3,ti9,ti36,ti39,ca251,cf,Tryz.results276]
          try simp [zeroX,k1,k2,k3,k4,hi,hm,hn]
        · simp only [zW,zX,zD,builtinA,isLeaf,const1,ustrA,simprocAttr,ti3,ti9,ti36,ti39,ca251,cf,Tryz.results276,decide_eq_false hn]
          try simp [zeroX,k1,k2,k3,k4,hi,hm,hn]
      · simp only [zW,zX,zD,builtinA,isLeaf,const1,ustrA,simprocAttr,ti3,ti9,ti36,ti39,ca251,cf,Tryz.results276,decide_eq_false hm]
        try simp [zeroX,k1,k2,k3,k4,hi,hm]
    · simp only [zW,zX,zD,builtinA,isLeaf,const1,ustrA,simprocAttr,ti3,ti9,ti36,ti39,ca251,cf,Tryz.results276,decide_eq_false hi]
      try simp [zeroX,k1,k2,k3,k4,hi]
  refine acalls_enter (cf:=cf 36 [0,1,2,4,5,9,13]) foll Tryz.func276 Tryz.ntmps276 (by simp [cf]) ?_
  simp only [Tryz.f276,EnterK_some,zW,zX,zD,builtinA,isLeaf,const1,ustrA,simprocAttr,ti3,ti9,ti36,ti39,ca251,cf,Tryz.results276]
  simp only [zW,zX,zD,builtinA,isLeaf,const1,ustrA,simprocAttr,ti3,ti9,ti36,ti39,ca251,cf,Tryz.results276,decide_eq_false k1,decide_eq_false k2,decide_eq_false k3,decide_eq_false k4]
  by_cases hi : i = 0
  · simp only [zW,zX,zD,builtinA,isLeaf,const1,ustrA,simprocAttr,ti3,ti9,ti36,ti39,ca251,cf,Tryz.results276,decide_eq_true hi]
    by_cases hm : m = []
    · simp only [zW,zX,zD,builtinA,isLeaf,const1,ustrA,simprocAttr,ti3,ti9,ti36,ti39,ca251,cf,Tryz.results276,decide_eq_true hm]
      by_cases hn : n = []
      · simp only [zW,zX,zD,builtinA,isLeaf,const1,ustrA,simprocAttr,ti3,ti9,ti36,ti39,ca251,cf,Tryz.results276,decide_eq_true hn]
        refine callK_intro (by simp only [zW,zX,zD,builtinA,isLeaf,const1,ustrA,simprocAttr,Option.map_some] <;> rfl) (hz _) ?_ rfl
        rintro r A' ⟨rfl,rfl⟩
        simp only [zW,zX,zD,builtinA,isLeaf,const1,ustrA,simprocAttr,ti3,ti9,ti36,ti39,ca251,cf,Tryz.results276]
        try simp [zeroX,k1,k2,k3,k4,hi,hm,hn]
      · simp only [zW,zX,zD,builtinA,isLeaf,const1,ustrA,simprocAttr,ti3,ti9,ti36,ti39,ca251,cf,Tryz.results276,decide_eq_false hn]
        try simp [zeroX,k1,k2,k3,k4,hi,hm,hn]
    · simp only [zW,zX,zD,builtinA,isLeaf,const1,ustrA,simprocAttr,ti3,ti9,ti36,ti39,ca251,cf,Tryz.results276,decide_eq_false hm]
      try simp [zeroX,k1,k2,k3,k4,hi,hm]
  · simp only [zW,zX,zD,builtinA,isLeaf,const1,ustrA,simprocAttr,ti3,ti9,ti36,ti39,ca251,cf,Tryz.results276,decide_eq_false hi]
    try simp [zeroX,k1,k2,k3,k4,hi]
set_option maxRecDepth 100000 in
set_option maxHeartbeats 4000000 in
theorem impl_readHead (k i : Int) (m n : List UInt8) (t : Ty) (ks : List (List AV)) (vs : List VE) (hl : (vs.length : Int) = opc k) (A : List Box) :
    ACalls Tryz.prog 280 [.agg [.int .i64 k,.int .i64 i,.str m,.str n,.int .i64 t.kind,.str t.mod,.str t.name,.slice (encs t.kids),.slice ks],.slice (rowsV vs)] A (fun r A'=>r = .tuple [(headX k i m n t vs).1,.bool (headX k i m n t vs).2.isSome] ∧ A' = A):=by
  by_cases k1 : k = 1
  · have hd : decide (0 ≤ i ∧ i ≤ 12) = (decide (0 ≤ i) && decide (i ≤ 12)):=by rw [Bool.eq_iff_iff]; simp
    rw [headX,if_pos k1]
    refine acalls_enter (cf:=cf 99 [0,1,2,4,5,6,7,9,10,24,38,51,66,76,86]) foll Tryz.func280 Tryz.ntmps280 (by simp [cf]) ?_
    simp only [Tryz.f280,EnterK_some,zW,zX,zD,builtinA,isLeaf,const1,ustrA,simprocAttr,ti3,ti9,ti36,ti39,ti122,ti222,ti333,ti335,ti345,ti439,ti441,ti443,ti445,ca111,ca261,cf,Tryz.results280]
    simp only [zW,zX,zD,builtinA,isLeaf,const1,ustrA,simprocAttr,ti3,ti9,ti36,ti39,ti122,ti222,ti333,ti335,ti345,ti439,ti441,ti443,ti445,ca111,ca261,cf,Tryz.results280,decide_eq_true k1]
    refine .inl ⟨by kernel_rfl,by kernel_rfl,?_⟩
    by_cases h1 : 0 ≤ i
    · by_cases h2 : i ≤ 12
      · simp only [zW,zX,zD,builtinA,isLeaf,const1,ustrA,simprocAttr,ti3,ti9,ti36,ti39,ti122,ti222,ti333,ti335,ti345,ti439,ti441,ti443,ti445,ca111,ca261,cf,Tryz.results280,decide_eq_true h1,decide_eq_true h2]
        simp [h1,h2]
      · simp only [zW,zX,zD,builtinA,isLeaf,const1,ustrA,simprocAttr,ti3,ti9,ti36,ti39,ti122,ti222,ti333,ti335,ti345,ti439,ti441,ti443,ti445,ca111,ca261,cf,Tryz.results280,decide_eq_true h1,decide_eq_false h2]
        simp [h1,h2]
    · simp only [zW,zX,zD,builtinA,isLeaf,const1,ustrA,simprocAttr,ti3,ti9,ti36,ti39,ti122,ti222,ti333,ti335,ti345,ti439,ti441,ti443,ti445,ca111,ca261,cf,Tryz.results280,decide_eq_false h1]
      simp [h1]
  by_cases k2 : k = 2
  · rw [headX,if_neg k1,if_pos k2]
    refine acalls_enter (cf:=cf 99 [0,1,2,4,5,6,7,9,10,24,38,51,66,76,86]) foll Tryz.func280 Tryz.ntmps280 (by simp [cf]) ?_
    simp only [Tryz.f280,EnterK_some,zW,zX,zD,builtinA,isLeaf,const1,ustrA,simprocAttr,ti3,ti9,ti36,ti39,ti122,ti222,ti333,ti335,ti345,ti439,ti441,ti443,ti445,ca111,ca261,cf,Tryz.results280]
    simp only [zW,zX,zD,builtinA,isLeaf,const1,ustrA,simprocAttr,ti3,ti9,ti36,ti39,ti122,ti222,ti333,ti335,ti345,ti439,ti441,ti443,ti445,ca111,ca261,cf,Tryz.results280,decide_eq_false k1,decide_eq_true k2]
    refine .inl ⟨by kernel_rfl,by kernel_rfl,?_⟩
    by_cases h1 : 0 ≤ i
    · by_cases h2 : i ≤ 99
      · simp only [zW,zX,zD,builtinA,isLeaf,const1,ustrA,simprocAttr,ti3,ti9,ti36,ti39,ti122,ti222,ti333,ti335,ti345,ti439,ti441,ti443,ti445,ca111,ca261,cf,Tryz.results280,decide_eq_true h1,decide_eq_true h2]
        simp [h1,h2]
      · simp only [zW,zX,zD,builtinA,isLeaf,const1,ustrA,simprocAttr,ti3,ti9,ti36,ti39,ti122,ti222,ti333,ti335,ti345,ti439,ti441,ti443,ti445,ca111,ca261,cf,Tryz.results280,decide_eq_true h1,decide_eq_false h2]
        simp [h1,h2]
    · simp only [zW,zX,zD,builtinA,isLeaf,const1,ustrA,simprocAttr,ti3,ti9,ti36,ti39,ti122,ti222,ti333,ti335,ti345,ti439,ti441,ti443,ti445,ca111,ca261,cf,Tryz.results280,decide_eq_false h1]
      simp [h1]
  by_cases k3 : k = 3
  · rw [headX,if_neg k1,if_neg k2,if_pos k3]
    refine acalls_enter (cf:=cf 99 [0,1,2,4,5,6,7,9,10,24,38,51,66,76,86]) foll Tryz.func280 Tryz.ntmps280 (by simp [cf]) ?_
    simp only [Tryz.f280,EnterK_some,zW,zX,zD,builtinA,isLeaf,const1,ustrA,simprocAttr,ti3,ti9,ti36,ti39,ti122,ti222,ti333,ti335,ti345,ti439,ti441,ti443,ti445,ca111,ca261,cf,Tryz.results280]
    simp only [zW,zX,zD,builtinA,isLeaf,const1,ustrA,simprocAttr,ti3,ti9,ti36,ti39,ti122,ti222,ti333,ti335,ti345,ti439,ti441,ti443,ti445,ca111,ca261,cf,Tryz.results280,decide_eq_false k1,decide_eq_false k2,decide_eq_true k3]
    refine .inl ⟨by kernel_rfl,by kernel_rfl,?_⟩
    refine callD_intro (by simp only [zW,zX,zD,builtinA,isLeaf,const1,ustrA,simprocAttr,Option.map_some] <;> rfl) (impl_validName m n _) ?_ rfl
    simp only [zW,zX,zD,builtinA,isLeaf,const1,ustrA,simprocAttr,ti3,ti9,ti36,ti39,ti122,ti222,ti333,ti335,ti345,ti439,ti441,ti443,ti445,ca111,ca261,cf,Tryz.results280]
    cases hn : ((decide (m = []) || moduleB m) && localB n) <;> rfl
  by_cases k4 : k = 4
  · obtain ⟨b,rfl⟩ : ∃ b,vs = [b]:=by
      match vs,hl with
      | [b],_=>exact ⟨b,rfl⟩
      | [],hl=>simp [opc,k4] at hl
      | _ :: _ :: _,hl=>simp [opc,k4] at hl; omega
    have hr:=fun A=>impl_readType t A
    rw [encQ4] at hr
    rw [headX,if_neg k1,if_neg k2,if_neg k3,if_pos k4]
    refine acalls_enter (cf:=cf 99 [0,1,2,4,5,6,7,9,10,24,38,51,66,76,86]) foll Tryz.func280 Tryz.ntmps280 (by simp [cf]) ?_
    simp only [Tryz.f280,EnterK_some,zW,zX,zD,builtinA,isLeaf,const1,ustrA,simprocAttr,ti3,ti9,ti36,ti39,ti122,ti222,ti333,ti335,ti345,ti439,ti441,ti443,ti445,ca111,ca261,cf,Tryz.results280]
    simp only [zW,zX,zD,builtinA,isLeaf,const1,ustrA,simprocAttr,ti3,ti9,ti36,ti39,ti122,ti222,ti333,ti335,ti345,ti439,ti441,ti443,ti445,ca111,ca261,cf,Tryz.results280,decide_eq_false k1,decide_eq_false k2,decide_eq_false k3,decide_eq_true k4]
    refine callK_intro (by simp only [zW,zX,zD,builtinA,isLeaf,const1,ustrA,simprocAttr,Option.map_some] <;> rfl) (hr _) ?_ rfl
    rintro r A' ⟨⟨v,rfl,hv,rfl⟩ | ⟨hv,rfl⟩,rfl⟩
    · rw [rdT_toTy hv]
      simp only [zW,zX,zD,builtinA,isLeaf,const1,ustrA,simprocAttr,ti3,ti9,ti36,ti39,ti122,ti222,ti333,ti335,ti345,ti439,ti441,ti443,ti445,ca111,ca261,cf,Tryz.results280,rowsV,ifE,List.map_cons,List.map_nil,List.getD_cons_zero,List.length_cons,List.length_nil]
      try simp
    · rw [rdT_bad hv]
      simp only [zW,zX,zD,builtinA,isLeaf,const1,ustrA,simprocAttr,ti3,ti9,ti36,ti39,ti122,ti222,ti333,ti335,ti345,ti439,ti441,ti443,ti445,ca111,ca261,cf,Tryz.results280,rowsV,ifE,List.map_cons,List.map_nil,List.getD_cons_zero,List.length_cons,List.length_nil]
      try simp
  by_cases k5 : k = 5
  · obtain ⟨a,b,rfl⟩ : ∃ a b,vs = [a,b]:=by
      match vs,hl with
      | [a,b],_=>exact ⟨a,b,rfl⟩
      | [],hl=>simp [opc,k5] at hl
      | [_],hl=>simp [opc,k5] at hl
      | _ :: _ :: _ :: _,hl=>simp [opc,k5] at hl; omega
    rw [headX,if_neg k1,if_neg k2,if_neg k3,if_neg k4,if_pos k5]
    refine acalls_enter (cf:=cf 99 [0,1,2,4,5,6,7,9,10,24,38,51,66,76,86]) foll Tryz.func280 Tryz.ntmps280 (by simp [cf]) ?_
    simp only [Tryz.f280,EnterK_some,zW,zX,zD,builtinA,isLeaf,const1,ustrA,simprocAttr,ti3,ti9,ti36,ti39,ti122,ti222,ti333,ti335,ti345,ti439,ti441,ti443,ti445,ca111,ca261,cf,Tryz.results280]
    simp only [zW,zX,zD,builtinA,isLeaf,const1,ustrA,simprocAttr,ti3,ti9,ti36,ti39,ti122,ti222,ti333,ti335,ti345,ti439,ti441,ti443,ti445,ca111,ca261,cf,Tryz.results280,decide_eq_false k1,decide_eq_false k2,decide_eq_false k3,decide_eq_false k4,decide_eq_true k5]
    refine .inl ⟨by kernel_rfl,by kernel_rfl,?_⟩
    simp only [zW,zX,zD,builtinA,isLeaf,const1,ustrA,simprocAttr,ti3,ti9,ti36,ti39,ti122,ti222,ti333,ti335,ti345,ti439,ti441,ti443,ti445,ca111,ca261,cf,Tryz.results280,rowsV,ifE,List.map_cons,List.map_nil,List.getD_cons_zero,List.getD_cons_succ,List.length_cons,List.length_nil]
    try simp
  by_cases k6 : k = 6
  · obtain ⟨a,b,rfl⟩ : ∃ a b,vs = [a,b]:=by
      match vs,hl with
      | [a,b],_=>exact ⟨a,b,rfl⟩
      | [],hl=>simp [opc,k6] at hl
      | [_],hl=>simp [opc,k6] at hl
      | _ :: _ :: _ :: _,hl=>simp [opc,k6] at hl; omega
    rw [headX,if_neg k1,if_neg k2,if_neg k3,if_neg k4,if_neg k5,if_pos k6]
    refine acalls_enter (cf:=cf 99 [0,1,2,4,5,6,7,9,10,24,38,51,66,76,86]) foll Tryz.func280 Tryz.ntmps280 (by simp [cf]) ?_
    simp only [Tryz.f280,EnterK_some,zW,zX,zD,builtinA,isLeaf,const1,ustrA,simprocAttr,ti3,ti9,ti36,ti39,ti122,ti222,ti333,ti335,ti345,ti439,ti441,ti443,ti445,ca111,ca261,cf,Tryz.results280]
    simp only [zW,zX,zD,builtinA,isLeaf,const1,ustrA,simprocAttr,ti3,ti9,ti36,ti39,ti122,ti222,ti333,ti335,ti345,ti439,ti441,ti443,ti445,ca111,ca261,cf,Tryz.results280,decide_eq_false k1,decide_eq_false k2,decide_eq_false k3,decide_eq_false k4,decide_eq_false k5,decide_eq_true k6]
    refine .inl ⟨by kernel_rfl,by kernel_rfl,?_⟩
    simp only [zW,zX,zD,builtinA,isLeaf,const1,ustrA,simprocAttr,ti3,ti9,ti36,ti39,ti122,ti222,ti333,ti335,ti345,ti439,ti441,ti443,ti445,ca111,ca261,cf,Tryz.results280,rowsV,ifE,List.map_cons,List.map_nil,List.getD_cons_zero,List.getD_cons_succ,List.length_cons,List.length_nil]
    try simp
  by_cases k7 : k = 7
  · obtain ⟨e,a,b,rfl⟩ : ∃ e a b,vs = [e,a,b]:=by
      match vs,hl with
      | [e,a,b],_=>exact ⟨e,a,b,rfl⟩
      | [],hl=>simp [opc,k7] at hl
      | [_],hl=>simp [opc,k7] at hl
      | [_,_],hl=>simp [opc,k7] at hl
      | _ :: _ :: _ :: _ :: _,hl=>simp [opc,k7] at hl; omega
    rw [headX,if_neg k1,if_neg k2,if_neg k3,if_neg k4,if_neg k5,if_neg k6,if_pos k7]
    refine acalls_enter (cf:=cf 99 [0,1,2,4,5,6,7,9,10,24,38,51,66,76,86]) foll Tryz.func280 Tryz.ntmps280 (by simp [cf]) ?_
    simp only [Tryz.f280,EnterK_some,zW,zX,zD,builtinA,isLeaf,const1,ustrA,simprocAttr,ti3,ti9,ti36,ti39,ti122,ti222,ti333,ti335,ti345,ti439,ti441,ti443,ti445,ca111,ca261,cf,Tryz.results280]
    simp only [zW,zX,zD,builtinA,isLeaf,const1,ustrA,simprocAttr,ti3,ti9,ti36,ti39,ti122,ti222,ti333,ti335,ti345,ti439,ti441,ti443,ti445,ca111,ca261,cf,Tryz.results280,decide_eq_false k1,decide_eq_false k2,decide_eq_false k3,decide_eq_false k4,decide_eq_false k5,decide_eq_false k6,decide_eq_true k7]
    refine .inl ⟨by kernel_rfl,by kernel_rfl,?_⟩
    simp only [zW,zX,zD,builtinA,isLeaf,const1,ustrA,simprocAttr,ti3,ti9,ti36,ti39,ti122,ti222,ti333,ti335,ti345,ti439,ti441,ti443,ti445,ca111,ca261,cf,Tryz.results280,rowsV,ifE,List.map_cons,List.map_nil,List.getD_cons_zero,List.getD_cons_succ,List.length_cons,List.length_nil]
    try simp
  rw [headX,if_neg k1,if_neg k2,if_neg k3,if_neg k4,if_neg k5,if_neg k6,if_neg k7]
  refine acalls_enter (cf:=cf 99 [0,1,2,4,5,6,7,9,10,24,38,51,66,76,86]) foll Tryz.func280 Tryz.ntmps280 (by simp [cf]) ?_
  simp only [Tryz.f280,EnterK_some,zW,zX,zD,builtinA,isLeaf,const1,ustrA,simprocAttr,ti3,ti9,ti36,ti39,ti122,ti222,ti333,ti335,ti345,ti439,ti441,ti443,ti445,ca111,ca261,cf,Tryz.results280]
  simp only [zW,zX,zD,builtinA,isLeaf,const1,ustrA,simprocAttr,ti3,ti9,ti36,ti39,ti122,ti222,ti333,ti335,ti345,ti439,ti441,ti443,ti445,ca111,ca261,cf,Tryz.results280,decide_eq_false k1,decide_eq_false k2,decide_eq_false k3,decide_eq_false k4,decide_eq_false k5,decide_eq_false k6,decide_eq_false k7]
  try simp
end Go.Proofs.YtnjdbgiincliaaaGreat
/- The program's reading of expressions, put together. -/
set_option linter.unusedVariables false
set_option linter.unusedSimpArgs false
namespace Go.Proofs.YtnjdbgiincliaaaGreat
open Go.Abs
theorem set_same {A : List Box} {i : Nat} {X : Box} (hi : i < A.length) (h : A.getD i .dead = X) : A.set i X = A:=by
  apply List.ext_getElem?
  intro k
  by_cases hk : i = k
  · subst hk
    rw [List.getElem?_set_self hi]
    have : A[i]? = some A[i]:=List.getElem?_eq_getElem hi
    simp [List.getD,hi] at h
    rw [this,h]
  · rw [List.getElem?_set_ne hk]
theorem set_set_app {A L : List Box} {i : Nat} {X Y : Box} (hi : i < A.length) : (A.set i X ++ L).set i Y = A.set i Y ++ L:=by
  rw [List.set_append_left _ _ (by simpa using hi),List.set_set]
theorem set_app {A L : List Box} {i : Nat} {Y : Box} (hi : i < A.length) : (A ++ L).set i Y = A.set i Y ++ L:=by
  rw [List.set_append_left _ _ hi]
theorem headX_val (k i : Int) (m n : List UInt8) (t : Ty) (vs : List VE) : (headX k i m n t vs).1 = .nili ∨ ∃ T y,(headX k i m n t vs).1 = .iface T y:=by
  unfold headX
  repeat' split
  all_goals first | exact .inl rfl | exact .inr ⟨_,_,rfl⟩
theorem readX_val (x : Ex) (d c : Int) : (readX x d c).1.1 = .nili ∨ ∃ T y,(readX x d c).1.1 = .iface T y:=by
  cases x with
  | mk k i m n t ks =>
    rw [readX]
    split
    · exact .inl rfl
    · split
      · exact .inl rfl
      · unfold fin
        split
        · exact .inl rfl
        · split
          · exact headX_val _ _ _ _ _ _
          · exact .inl rfl
theorem readXs_app (d : Int) : ∀ (l l' : List Ex) (c : Int),readXs (l ++ l') d c = match (readXs l d c).1 with
    | none=>(none,(readXs l d c).2)
    | some vs=>((readXs l' d (readXs l d c).2).1.map (vs ++ ·),(readXs l' d (readXs l d c).2).2)
  | [],l',c=>by simp [readXs]
  | x :: l,l',c=>by
    rw [List.cons_append,readXs,readXs,readXs_app d l l' _]
    unfold next
    cases (readX x d c).1.2 with
    | none=>rfl
    | some v =>
      simp only
      cases (readXs l d (readX x d c).2).1 with
      | none=>rfl
      | some vs =>
        simp only
        cases (readXs l' d (readXs l d (readX x d c).2).2).1 <;> simp
theorem readXs_step {ks : List Ex} {d c : Int} {i : Nat} {vs : List VE} {ci : Int} (hi : i < ks.length) (h : readXs (ks.take i) d c = (some vs,ci)) :
    readXs (ks.take (i + 1)) d c = ((readX (ks.getD i ex0) d ci).1.2.map fun v=>vs ++ [v],(readX (ks.getD i ex0) d ci).2):=by
  rw [ex_take hi,readXs_app,h]
  simp only [readXs,next]
  cases (readX (ks.getD i ex0) d ci).1.2 <;> simp
theorem readXs_stop {ks : List Ex} {d c : Int} {i : Nat} {ci : Int} (hi : i ≤ ks.length) (h : readXs (ks.take i) d c = (none,ci)) : readXs ks d c = (none,ci):=by
  have e : ks = ks.take i ++ ks.drop i:=(List.take_append_drop i ks).symm
  rw [e,readXs_app,h]
def NodeX (x : Ex) : Prop:=∀ (ir : Nat) (c d : Int) (A : List Box),ir < A.length → A.getD ir .dead = .cells [.int .i64 c] → 0 ≤ c → c ≤ 400 → 1 ≤ d → d ≤ 41 →
  ACalls Tryz.prog 227 [.ptr ir 0,.agg (encX x),.int .i64 d] A (fun r A'=>r = .tuple [(readX x d c).1.1,.bool (readX x d c).1.2.isSome] ∧ A' = A.set ir (.cells [.int .i64 (readX x d c).2]))
structure RdSt (ir jr jd : Nat) (c d : Int) (A : List Box) : Prop where
  lr : ir < A.length
  lj : jr < A.length
  ld : jd < A.length
  nr : ir ≠ jr
  nd : ir ≠ jd
  gc : A.getD ir .dead = .cells [.int .i64 c]
  gr : A.getD jr .dead = .cells [.ptr ir 0]
  gd : A.getD jd .dead = .cells [.int .i64 d]
theorem RdSt.app {ir jr jd : Nat} {c d : Int} {A : List Box} (h : RdSt ir jr jd c d A) (L : List Box) : RdSt ir jr jd c d (A ++ L) :=
  ⟨by have:=h.lr; simp; omega,by have:=h.lj; simp; omega,by have:=h.ld; simp; omega,h.nr,h.nd,by rw [Abs.getD_append_left h.lr]; exact h.gc,by rw [Abs.getD_append_left h.lj]; exact h.gr,by rw [Abs.getD_append_left h.ld]; exact h.gd⟩
theorem RdSt.set {ir jr jd : Nat} {c d : Int} {A : List Box} (h : RdSt ir jr jd c d A) (c' : Int) : RdSt ir jr jd c' d (A.set ir (.cells [.int .i64 c'])) :=
  ⟨by have:=h.lr; simpa,by have:=h.lj; simpa,by have:=h.ld; simpa,h.nr,h.nd,getD_set1 h.lr,by rw [Go.Abs.getD_set_ne' h.nr]; exact h.gr,by rw [Go.Abs.getD_set_ne' h.nd]; exact h.gd⟩
set_option maxRecDepth 100000 in
theorem node_clos (x : Ex) (hx : NodeX x) (ir jr jd : Nat) (c d : Int) (A : List Box) (h : RdSt ir jr jd c d A) (h0 : 0 ≤ c) (h1 : c ≤ 400) (h2 : 0 ≤ d) (h3 : d ≤ 40) :
    ACalls Tryz.prog 279 [.agg (encX x),.ptr jr 0,.ptr jd 0] A (fun r A'=>r = .tuple [(readX x (d + 1) c).1.1,.bool (readX x (d + 1) c).1.2.isSome] ∧ A' = A.set ir (.cells [.int .i64 (readX x (d + 1) c).2])):=by
  have hw : IntKind.i64.wrap (d + 1) = d + 1:=wrap64 (by omega) (by omega)
  have hA:=h.app [.cells (encX x)]
  have hgr:=hA.gr
  have hgd:=hA.gd
  have hir:=h.lr
  have hn:=hx ir c (d + 1) _ hA.lr hA.gc h0 h1 (by omega) (by omega)
  have hv:=readX_val x (d + 1) c
  generalize hq : readX x (d + 1) c = q at *
  obtain ⟨⟨v,o⟩,c'⟩:=q
  simp only at hv hn ⊢
  have ho : Outer A (A.set ir (.cells [.int .i64 c'])):=outer_set0 A ir _ rfl
  rcases hv with rfl | ⟨T,y,rfl⟩
  · refine acalls_enter (cf:=cf 13 [0,1,2,3,4,5]) foll Tryz.func279 Tryz.ntmps279 (by simp [cf]) ?_
    simp only [Tryz.f279,EnterK_some,zW,zX,zD,builtinA,isLeaf,const1,ustrA,simprocAttr,ti3,ti39,ti398,ca227,cf,Tryz.results279]
    simp only [zW,zX,zD,builtinA,isLeaf,const1,ustrA,simprocAttr,ti3,ti39,ti398,ca227,cf,Tryz.results279,hgr,hgd,hw,encX_length,encX_take]
    refine callK_intro (by simp only [zW,zX,zD,builtinA,isLeaf,const1,ustrA,simprocAttr,frzL_encX,Option.map_some] <;> rfl) (hn) ?_ rfl
    rintro r A' ⟨rfl,rfl⟩
    simp only [zW,zX,zD,builtinA,isLeaf,const1,ustrA,simprocAttr,ti3,ti39,ti398,ca227,cf,Tryz.results279,set_app hir]
    try exact outer_set A _ ir _ rfl
  · refine acalls_enter (cf:=cf 13 [0,1,2,3,4,5]) foll Tryz.func279 Tryz.ntmps279 (by simp [cf]) ?_
    simp only [Tryz.f279,EnterK_some,zW,zX,zD,builtinA,isLeaf,const1,ustrA,simprocAttr,ti3,ti39,ti398,ca227,cf,Tryz.results279]
    simp only [zW,zX,zD,builtinA,isLeaf,const1,ustrA,simprocAttr,ti3,ti39,ti398,ca227,cf,Tryz.results279,hgr,hgd,hw,encX_length,encX_take]
    refine callK_intro (by simp only [zW,zX,zD,builtinA,isLeaf,const1,ustrA,simprocAttr,frzL_encX,Option.map_some] <;> rfl) (hn) ?_ rfl
    rintro r A' ⟨rfl,rfl⟩
    simp only [zW,zX,zD,builtinA,isLeaf,const1,ustrA,simprocAttr,ti3,ti39,ti398,ca227,cf,Tryz.results279,set_app hir]
    try exact outer_set A _ ir _ rfl
theorem vrow_step {vs : List VE} {n : Nat} (v : VE) (h : vs.length < n) : (rowsV vs ++ List.replicate (n - vs.length) [AV.nili]).set vs.length (ifE v :: List.drop 1 ((rowsV vs ++ List.replicate (n - vs.length) [AV.nili]).getD vs.length [])) = rowsV (vs ++ [v]) ++ List.replicate (n - (vs.length + 1)) [AV.nili]:=by
  obtain ⟨m,rfl⟩ : ∃ m,n = vs.length + (m + 1):=⟨n - vs.length - 1,by omega⟩
  have e1 : vs.length + (m + 1) - vs.length = m + 1:=by omega
  have e2 : vs.length + (m + 1) - (vs.length + 1) = m:=by omega
  rw [e1,e2,List.replicate_succ]
  have hl:=rowsV_length vs
  rw [Abs.getD_append_right (by omega),List.set_append_right _ _ (by omega),hl]
  simp [rowsV]
noncomputable def eachX (ks : List Ex) (most d c : Int) : Option (List VE) × Int:=if most < ks.length then (none,c) else readXs ks d c
def outX : Option (List VE) → AV
  | none=>.tuple [.slice [],.bool false]
  | some vs=>.tuple [.slice (rowsV vs),.bool true]
set_option maxRecDepth 100000 in
set_option maxHeartbeats 1000000 in
theorem impl_readEachX (ks : List Ex) (hks : ks.length ≤ 1048576) (hk : ∀ x ∈ ks,NodeX x) (most : Int) (ir jr jd : Nat) (c d : Int) (A : List Box) (h : RdSt ir jr jd c d A) (h0 : 0 ≤ c) (h1 : c ≤ 400) (h2 : 0 ≤ d) (h3 : d ≤ 40) :
    ACalls Tryz.prog 277 [.slice (encXs ks),.int .i64 most,.func (.func 279) [] [.ptr jr 0,.ptr jd 0]] A (fun r A'=>r = outX (eachX ks most (d + 1) c).1 ∧ A' = A.set ir (.cells [.int .i64 (eachX ks most (d + 1) c).2])):=by
  have hl:=encXs_length ks
  have hir:=h.lr
  have hfin : ∀ c',Outer A (A.set ir (.cells [.int .i64 c'])):=fun c'=>outer_set0 A ir _ rfl
  have hsm : A.set ir (.cells [.int .i64 c]) = A:=set_same hir h.gc
  by_cases hm : most < ks.length
  · have d1 : decide ((ks.length : Int) > most) = true:=decide_eq_true hm
    have d1' : decide (most < (ks.length : Int)) = true:=decide_eq_true hm
    rw [eachX,if_pos hm,hsm,outX]
    refine acalls_enter (cf:=cf 41 [0,1,2,6,7,8,9,10,11,12,16,20,21,22,23,34]) foll Tryz.func277 Tryz.ntmps277 (by simp [cf]) ?_
    simp only [Tryz.f277,EnterK_some,zW,zX,zD,builtinA,isLeaf,const1,ustrA,simprocAttr,ti3,ti37,ti39,ti122,ti335,cf,Tryz.results277]
    simp only [zW,zX,zD,builtinA,isLeaf,const1,ustrA,simprocAttr,ti3,ti37,ti39,ti122,ti335,cf,Tryz.results277,hl,d1,d1']
  · have d1 : decide ((ks.length : Int) > most) = false:=decide_eq_false hm
    have d1' : decide (most < (ks.length : Int)) = false:=decide_eq_false hm
    rw [eachX,if_neg hm]
    refine acalls_enter (cf:=cf 41 [0,1,2,6,7,8,9,10,11,12,16,20,21,22,23,34]) foll Tryz.func277 Tryz.ntmps277 (by simp [cf]) ?_
    simp only [Tryz.f277,EnterK_some,zW,zX,zD,builtinA,isLeaf,const1,ustrA,simprocAttr,ti3,ti37,ti39,ti122,ti335,cf,Tryz.results277]
    simp only [zW,zX,zD,builtinA,isLeaf,const1,ustrA,simprocAttr,ti3,ti37,ti39,ti122,ti335,cf,Tryz.results277,hl,d1,d1']
    refine ⟨⟨by omega,by omega,by omega⟩,?_⟩
    refine aloop_intro [2,8,20,21,22] (fun e A'=>∃ (i : Nat) (vs : List VE) (ci : Int) (B : List Box),i ≤ ks.length ∧ vs.length = i ∧ readXs (ks.take i) (d + 1) c = (some vs,ci) ∧ 0 ≤ ci ∧ ci ≤ 400 ∧ e = [(2,.func (.func 279) [] [.ptr jr 0,.ptr jd 0]),(8,.own A.length),(20,.slice (encXs ks)),(21,.int .i64 (ks.length : Nat)),(22,.int .i64 (i : Nat))]
      ∧ A' = A.set ir (.cells [.int .i64 ci]) ++ (.row 1 (rowsV vs ++ List.replicate (ks.length - i) [.nili]) 0 :: B)) (fun e _=>ks.length - (intOf (Abs.look 22 e)).toNat) ?_ ?_
    · refine ⟨0,[],c,[],by omega,rfl,by simp [readXs],h0,h1,rfl,?_⟩
      rw [hsm]
      simp [rowsV]
    · rintro e A' ⟨i,vs,ci,B,hi,hvl,hrd,hc0,hc1,rfl,rfl⟩
      by_cases hlt : i < ks.length
      · have d2 : decide ((i : Int) < ((ks.length : Nat) : Int)) = true:=decide_eq_true (by omega)
        have hg:=encXs_getD hlt
        have hmm:=ex_mem hlt
        have hstep:=readXs_step hlt hrd
        have hi1 : IntKind.i64.wrap ((i : Int) + 1) = ((i + 1 : Nat) : Int):=by rw [wrap64 (by omega) (by omega)]; rfl
        have hof:=readX_of (ks.getD i ex0) (d + 1) ci
        have hcl:=node_clos (ks.getD i ex0) (hk _ hmm) ir jr jd ci d _ ((h.set ci).app (.row 1 (rowsV vs ++ List.replicate (ks.length - i) [.nili]) 0 :: (B ++ [.cells (encX (ks.getD i ex0))]))) hc0 hc1 h2 h3
        have hv:=readX_val (ks.getD i ex0) (d + 1) ci
        generalize hx : ks.getD i ex0 = x at *
        generalize hq : readX x (d + 1) ci = q at *
        obtain ⟨⟨v,o⟩,c'⟩:=q
        simp only at hcl hstep hof hv
        rw [set_set_app hir] at hcl
        simp only [zW,zX,zD,builtinA,isLeaf,const1,ustrA,simprocAttr,ti3,ti37,ti39,ti122,ti335,cf,Tryz.results277,hl,d2,hg,encX_length,encX_take]
        refine ⟨⟨by omega,by omega⟩,?_⟩
        refine wpO_callv _ _ _ _ _ _ _ _ _ _ _ _ _ _ _ ?_
        simp only [zW,zX,zD,builtinA,isLeaf,const1,ustrA,simprocAttr,ti3,ti37,ti39,ti122,ti335,cf,Tryz.results277,List.nil_append]
        refine ⟨by kernel_rfl,?_⟩
        refine callK_intro (by simp only [zW,zX,zD,builtinA,isLeaf,const1,ustrA,simprocAttr,frzL_encX,Option.map_some,List.cons_append,List.nil_append] <;> rfl) (hcl) ?_ rfl
        rintro r A' ⟨rfl,rfl⟩
        cases o with
        | some u =>
          obtain ⟨a1,a2,a3,a4,a5⟩:=hof u hc0 rfl
          simp only [Prod.mk.injEq] at a5
          obtain ⟨⟨rfl,_⟩,rfl⟩:=a5
          have hst:=vrow_step (vs:=vs) (n:=ks.length) u (by omega)
          have hlen : (rowsV vs).length + (List.replicate (ks.length - i) [AV.nili]).length = ks.length:=by simp [rowsV_length]; omega
          subst hvl
          have hife : ifE u = .iface (vtE u) (vxE u):=rfl
          rw [hife] at hst ⊢
          simp only [zW,zX,zD,builtinA,isLeaf,const1,ustrA,simprocAttr,ti3,ti37,ti39,ti122,ti335,cf,Tryz.results277,hlen,rowsV_length,Option.isSome_some,Bool.not_true,hst,hi1,LoopK_eq]
          refine ⟨⟨by omega,by simp; omega⟩,⟨by omega,by simp; omega,fun v hv=>?_⟩,⟨vs.length + 1,vs ++ [u],ci + cntE u,_,by omega,by simp,hstep,by omega,by omega,rfl,rfl⟩,?_⟩
          · rw [List.mem_singleton.1 hv]
          · simp only [intOf]; omega
        | none =>
          have hall:=readXs_stop (by omega) hstep
          rw [hall,outX]
          rcases hv with rfl | ⟨T,y,rfl⟩
          · simp only [zW,zX,zD,builtinA,isLeaf,const1,ustrA,simprocAttr,ti3,ti37,ti39,ti122,ti335,cf,Tryz.results277,Option.isSome_none,Bool.not_false]
            exact outer_set A _ ir _ rfl
          · simp only [zW,zX,zD,builtinA,isLeaf,const1,ustrA,simprocAttr,ti3,ti37,ti39,ti122,ti335,cf,Tryz.results277,Option.isSome_none,Bool.not_false]
            exact outer_set A _ ir _ rfl
      · have d2 : decide ((i : Int) < ((ks.length : Nat) : Int)) = false:=decide_eq_false (by omega)
        have e : i = ks.length:=by omega
        subst hvl
        rw [e,List.take_length] at hrd
        have hz : List.replicate (ks.length - vs.length) [AV.nili] = []:=by rw [e]; simp
        rw [hrd,outX,hz,List.append_nil]
        simp only [zW,zX,zD,builtinA,isLeaf,const1,ustrA,simprocAttr,ti3,ti37,ti39,ti122,ti335,cf,Tryz.results277,hl,d2]
        exact outer_set A _ ir _ rfl
end Go.Proofs.YtnjdbgiincliaaaGreat
