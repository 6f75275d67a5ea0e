/- ExRd, Zero, Zero0. -/
import Derived.Test.YtnjdbgiincliaaaGreatX01
import Derived.Test.YtnjdbgiincliaaaGreatAbsW3
/- How the program reads an expression, as a function. -/
set_option linter.unusedVariables false
set_option linter.unusedSimpArgs false
namespace Go.Proofs.YtnjdbgiincliaaaGreat
open Go.Abs
def vtE : VE → TypeId
  | .var _=>345
  | .num _=>439
  | .nm _ _=>222
  | .fn _ _=>333
  | .app _ _=>441
  | .add _ _=>443
  | .ite _ _ _=>445
def vxE : VE → AV
  | .var i=>.agg [.int .i64 i]
  | .num i=>.agg [.int .i64 i]
  | .nm m n=>.agg [.str m,.str n]
  | .fn t b=>.agg [.iface (vT t) (vX t),.iface (vtE b) (vxE b)]
  | .app a b=>.agg [.iface (vtE a) (vxE a),.iface (vtE b) (vxE b)]
  | .add a b=>.agg [.iface (vtE a) (vxE a),.iface (vtE b) (vxE b)]
  | .ite c a b=>.agg [.iface (vtE c) (vxE c),.iface (vtE a) (vxE a),.iface (vtE b) (vxE b)]
def ifE (v : VE) : AV:=.iface (vtE v) (vxE v)
def rowsV (vs : List VE) : List (List AV):=vs.map fun v=>[ifE v]
theorem rowsV_length (vs : List VE) : (rowsV vs).length = vs.length:=by simp [rowsV]
noncomputable def rdT (t : Ty) : AV × Option VT:=by
  classical
  exact if h : ∃ v,t = toTy v ∧ VOk v then (.iface (vT h.choose) (vX h.choose),some h.choose) else (.nili,none)
theorem rdT_toTy {v : VT} (h : VOk v) : rdT (toTy v) = (.iface (vT v) (vX v),some v):=by
  have hh : ∃ u,toTy v = toTy u ∧ VOk u:=⟨v,rfl,h⟩
  have e : hh.choose = v:=(toTy_inj' hh.choose_spec.1).symm
  unfold rdT
  rw [dif_pos hh,e]
theorem rdT_bad {t : Ty} (h : validB t = false) : rdT t = (.nili,none):=by
  have hh : ¬ ∃ u,t = toTy u ∧ VOk u:=by
    rintro ⟨u,rfl,hu⟩
    rw [validB_toTy hu] at h; cases h
  unfold rdT
  rw [dif_neg hh]
def opc (k : Int) : Int:=if k = 1 then 0 else if k = 2 then 0 else if k = 3 then 0 else if k = 4 then 1 else if k = 5 then 2 else if k = 6 then 2 else if k = 7 then 3 else -1
noncomputable def zeroX (k i : Int) (m n : List UInt8) (t : Ty) : Bool :=
  ((decide (k = 1) || decide (k = 2)) || decide (i = 0)) && (decide (k = 3) || decide (m = [])) && (decide (k = 3) || decide (n = [])) && (decide (k = 4) || decide (t = ty0))
noncomputable def headX (k i : Int) (m n : List UInt8) (t : Ty) (vs : List VE) : AV × Option VE :=
  if k = 1 then (.iface 345 (.agg [.int .i64 i]),if 0 ≤ i ∧ i ≤ 12 then some (.var i) else none)
  else if k = 2 then (.iface 439 (.agg [.int .i64 i]),if 0 ≤ i ∧ i ≤ 99 then some (.num i) else none)
  else if k = 3 then (.iface 222 (.agg [.str m,.str n]),if ((decide (m = []) || moduleB m) && localB n) = true then some (.nm m n) else none)
  else if k = 4 then (.iface 333 (.agg [(rdT t).1,ifE (vs.getD 0 (.num 0))]),(rdT t).2.map fun u=>.fn u (vs.getD 0 (.num 0)))
  else if k = 5 then (.iface 441 (.agg [ifE (vs.getD 0 (.num 0)),ifE (vs.getD 1 (.num 0))]),some (.app (vs.getD 0 (.num 0)) (vs.getD 1 (.num 0))))
  else if k = 6 then (.iface 443 (.agg [ifE (vs.getD 0 (.num 0)),ifE (vs.getD 1 (.num 0))]),some (.add (vs.getD 0 (.num 0)) (vs.getD 1 (.num 0))))
  else if k = 7 then (.iface 445 (.agg [ifE (vs.getD 0 (.num 0)),ifE (vs.getD 1 (.num 0)),ifE (vs.getD 2 (.num 0))]),some (.ite (vs.getD 0 (.num 0)) (vs.getD 1 (.num 0)) (vs.getD 2 (.num 0))))
  else (.nili,none)
noncomputable def fin (k i : Int) (m n : List UInt8) (t : Ty) (r : Option (List VE) × Int) : (AV × Option VE) × Int :=
  match r.1 with
  | none=>((.nili,none),r.2)
  | some vs=>if (vs.length : Int) = opc k then (headX k i m n t vs,r.2) else ((.nili,none),r.2)
noncomputable def next (r : (AV × Option VE) × Int) (s : Option (List VE) × Int) : Option (List VE) × Int :=
  match r.1.2 with
  | none=>(none,r.2)
  | some v=>match s.1 with
    | none=>(none,s.2)
    | some vs=>(some (v :: vs),s.2)
mutual
noncomputable def readX : Ex → Int → Int → (AV × Option VE) × Int
  | .mk k i m n t ks,d,c =>
    if (decide (c + 1 ≤ 400) && decide (d ≤ 40) && zeroX k i m n t) = false then ((.nili,none),c + 1)
    else if opc k < ks.length then ((.nili,none),c + 1)
    else fin k i m n t (readXs ks (d + 1) (c + 1))
noncomputable def readXs : List Ex → Int → Int → Option (List VE) × Int
  | [],_,c=>(some [],c)
  | x :: l,d,c=>next (readX x d c) (readXs l d (readX x d c).2)
end
theorem readX_of (x : Ex) : ∀ (d c : Int) (v : VE),0 ≤ c → (readX x d c).1.2 = some v → x = toX v ∧ okE v ∧ d + depE v ≤ 41 ∧ c + cntE v ≤ 400 ∧ readX x d c = ((ifE v,some v),c + cntE v):=by
  induction x using Ex.ind with
  | h k i m n t ks ih =>
    have hs : ∀ (l : List Ex),(∀ x ∈ l,x ∈ ks) → ∀ (d c : Int) (vs : List VE),0 ≤ c → (readXs l d c).1 = some vs → l = vs.map toX ∧ (∀ v ∈ vs,okE v ∧ d + depE v ≤ 41) ∧ (readXs l d c).2 = c + (vs.map cntE).sum ∧ (vs = [] ∨ c + (vs.map cntE).sum ≤ 400):=by
      intro l
      induction l with
      | nil=>intro _ d c vs hc h; simp only [readXs,Option.some.injEq] at h; subst h; simp [readXs]
      | cons x l ihl =>
        intro hm d c vs hc h
        rw [readXs,next] at h
        cases h1 : (readX x d c).1.2 with
        | none=>rw [h1] at h; cases h
        | some v =>
          rw [h1] at h
          simp only at h
          obtain ⟨a1,a2,a3,a4,a5⟩:=ih x (hm x (by simp)) d c v hc h1
          have hc2 : (readX x d c).2 = c + cntE v:=by rw [a5]
          cases h2 : (readXs l d (readX x d c).2).1 with
          | none=>rw [h2] at h; cases h
          | some us =>
            rw [h2] at h
            simp only [Option.some.injEq] at h
            subst h
            obtain ⟨b1,b2,b3,b4⟩:=ihl (fun y hy=>hm y (by simp [hy])) d _ us (by rw [hc2]; omega) h2
            refine ⟨by rw [List.map_cons,← a1,← b1],fun u hu=>?_,?_,.inr ?_⟩
            · rcases List.mem_cons.1 hu with rfl | hu
              · exact ⟨a2,a3⟩
              · exact b2 u hu
            · rw [readXs,next,h1]
              simp only [h2]
              rw [b3,hc2]; simp; omega
            · rw [hc2] at b4
              rcases b4 with rfl | b4
              · simp; omega
              · simp; omega
    intro d c v hc h
    rw [readX] at h ⊢
    by_cases h1 : (decide (c + 1 ≤ 400) && decide (d ≤ 40) && zeroX k i m n t) = false
    · rw [if_pos h1] at h; cases h
    · rw [if_neg h1] at h ⊢
      by_cases h2 : opc k < ks.length
      · rw [if_pos h2] at h; cases h
      · rw [if_neg h2] at h ⊢
        simp only [Bool.not_eq_false,Bool.and_eq_true,decide_eq_true_eq] at h1
        obtain ⟨⟨g1,g2⟩,g3⟩:=h1
        rw [fin] at h ⊢
        cases h3 : (readXs ks (d + 1) (c + 1)).1 with
        | none=>rw [h3] at h; cases h
        | some vs =>
          rw [h3] at h
          simp only at h ⊢
          by_cases h4 : (vs.length : Int) = opc k
          · rw [if_pos h4] at h ⊢
            obtain ⟨b1,b2,b3,b4⟩:=hs ks (fun _ h=>h) (d + 1) (c + 1) vs (by omega) h3
            subst b1
            rw [b3]
            simp only at h
            unfold headX at h ⊢
            by_cases k1 : k = 1
            · subst k1
              obtain rfl : vs = []:=by simpa [opc] using h4
              simp only [if_true] at h ⊢
              split at h
              · rename_i hi
                injection h with h; subst h
                simp [zeroX] at g3
                rw [if_pos hi,g3.1.1,g3.1.2,g3.2]
                refine ⟨rfl,hi,by simp only [depE]; omega,by simp only [cntE]; omega,?_⟩
                simp [ifE,vtE,vxE,cntE]
              · cases h
            by_cases k2 : k = 2
            · subst k2
              obtain rfl : vs = []:=by simpa [opc] using h4
              simp only [if_neg k1,if_true] at h ⊢
              split at h
              · rename_i hi
                injection h with h; subst h
                simp [zeroX] at g3
                rw [if_pos hi,g3.1.1,g3.1.2,g3.2]
                refine ⟨rfl,hi,by simp only [depE]; omega,by simp only [cntE]; omega,?_⟩
                simp [ifE,vtE,vxE,cntE]
              · cases h
            by_cases k3 : k = 3
            · subst k3
              obtain rfl : vs = []:=by simpa [opc] using h4
              simp only [if_neg k1,if_neg k2,if_true] at h ⊢
              split at h
              · rename_i hi
                injection h with h; subst h
                simp [zeroX] at g3
                rw [if_pos hi,g3.1,g3.2]
                refine ⟨rfl,hi,by simp only [depE]; omega,by simp only [cntE]; omega,?_⟩
                simp [ifE,vtE,vxE,cntE]
              · cases h
            by_cases k4 : k = 4
            · subst k4
              obtain ⟨b,rfl⟩ : ∃ b,vs = [b]:=by
                match vs,h4 with
                | [b],_=>exact ⟨b,rfl⟩
                | [],h4=>simp [opc] at h4
                | _ :: _ :: _,h4=>simp [opc] at h4; omega
              simp only [if_neg k1,if_neg k2,if_neg k3,if_true] at h ⊢
              rcases valid_cases t with ⟨u,rfl,hu⟩ | hn
              · rw [rdT_toTy hu] at h ⊢
                simp only [Option.map_some,Option.some.injEq,List.getD_cons_zero] at h ⊢
                subst h
                have hb:=b2 b (by simp)
                simp [zeroX] at g3
                rw [g3.1.1,g3.1.2,g3.2]
                simp at b4
                refine ⟨rfl,⟨hu,hb.1⟩,by simp only [depE]; omega,by simp only [cntE]; omega,?_⟩
                simp [ifE,vtE,vxE,cntE]; omega
              · rw [rdT_bad hn] at h; cases h
            by_cases k5 : k = 5
            · subst k5
              obtain ⟨a,b,rfl⟩ : ∃ a b,vs = [a,b]:=by
                match vs,h4 with
                | [a,b],_=>exact ⟨a,b,rfl⟩
                | [],h4=>simp [opc] at h4
                | [_],h4=>simp [opc] at h4
                | _ :: _ :: _ :: _,h4=>simp [opc] at h4; omega
              simp only [if_neg k1,if_neg k2,if_neg k3,if_neg k4,if_true,Option.some.injEq,List.getD_cons_zero,List.getD_cons_succ] at h ⊢
              subst h
              have ha:=b2 a (by simp)
              have hb:=b2 b (by simp)
              simp [zeroX] at g3
              rw [g3.1.1.1,g3.1.1.2,g3.1.2,g3.2]
              simp at b4
              refine ⟨rfl,⟨ha.1,hb.1⟩,by simp only [depE]; omega,by simp only [cntE]; omega,?_⟩
              simp [ifE,vtE,vxE,cntE]; omega
            by_cases k6 : k = 6
            · subst k6
              obtain ⟨a,b,rfl⟩ : ∃ a b,vs = [a,b]:=by
                match vs,h4 with
                | [a,b],_=>exact ⟨a,b,rfl⟩
                | [],h4=>simp [opc] at h4
                | [_],h4=>simp [opc] at h4
                | _ :: _ :: _ :: _,h4=>simp [opc] at h4; omega
              simp only [if_neg k1,if_neg k2,if_neg k3,if_neg k4,if_neg k5,if_true,Option.some.injEq,List.getD_cons_zero,List.getD_cons_succ] at h ⊢
              subst h
              have ha:=b2 a (by simp)
              have hb:=b2 b (by simp)
              simp [zeroX] at g3
              rw [g3.1.1.1,g3.1.1.2,g3.1.2,g3.2]
              simp at b4
              refine ⟨rfl,⟨ha.1,hb.1⟩,by simp only [depE]; omega,by simp only [cntE]; omega,?_⟩
              simp [ifE,vtE,vxE,cntE]; omega
            by_cases k7 : k = 7
            · subst k7
              obtain ⟨e,a,b,rfl⟩ : ∃ e a b,vs = [e,a,b]:=by
                match vs,h4 with
                | [e,a,b],_=>exact ⟨e,a,b,rfl⟩
                | [],h4=>simp [opc] at h4
                | [_],h4=>simp [opc] at h4
                | [_,_],h4=>simp [opc] at h4
                | _ :: _ :: _ :: _ :: _,h4=>simp [opc] at h4; omega
              simp only [if_neg k1,if_neg k2,if_neg k3,if_neg k4,if_neg k5,if_neg k6,if_true,Option.some.injEq,List.getD_cons_zero,List.getD_cons_succ] at h ⊢
              subst h
              have he:=b2 e (by simp)
              have ha:=b2 a (by simp)
              have hb:=b2 b (by simp)
              simp [zeroX] at g3
              rw [g3.1.1.1,g3.1.1.2,g3.1.2,g3.2]
              simp at b4
              refine ⟨rfl,⟨he.1,ha.1,hb.1⟩,by simp only [depE]; omega,by simp only [cntE]; omega,?_⟩
              simp [ifE,vtE,vxE,cntE]; omega
            · rw [if_neg k1,if_neg k2,if_neg k3,if_neg k4,if_neg k5,if_neg k6,if_neg k7] at h; cases h
          · rw [if_neg h4] at h; cases h
theorem readX_toX : ∀ (v : VE) (d c : Int),okE v → d + depE v ≤ 41 → 0 ≤ c → c + cntE v ≤ 400 → readX (toX v) d c = ((ifE v,some v),c + cntE v)
  | .var i,d,c,ho,h1,h0,h2=>by
    simp only [okE,depE,cntE] at ho h1 h2
    have g1 : c + 1 ≤ 400:=by omega
    have g2 : d ≤ 40:=by omega
    simp [toX,readX,readXs,zeroX,opc,fin,headX,g1,g2,ho,ifE,vtE,vxE,cntE]
  | .num i,d,c,ho,h1,h0,h2=>by
    simp only [okE,depE,cntE] at ho h1 h2
    have g1 : c + 1 ≤ 400:=by omega
    have g2 : d ≤ 40:=by omega
    simp [toX,readX,readXs,zeroX,opc,fin,headX,g1,g2,ho,ifE,vtE,vxE,cntE]
  | .nm m n,d,c,ho,h1,h0,h2=>by
    simp only [okE,depE,cntE,nmB] at ho h1 h2
    have g1 : c + 1 ≤ 400:=by omega
    have g2 : d ≤ 40:=by omega
    simp [toX,readX,readXs,zeroX,opc,fin,headX,g1,g2,ho,ifE,vtE,vxE,cntE]
  | .fn t b,d,c,ho,h1,h0,h2=>by
    obtain ⟨o1,o2⟩:=ho
    simp only [depE,cntE] at h1 h2
    have g1 : c + 1 ≤ 400:=by omega
    have g2 : d ≤ 40:=by have:=depE_pos b; omega
    have hb:=readX_toX b (d + 1) (c + 1) o2 (by omega) (by omega) (by omega)
    simp [toX,readX,readXs,next,hb,zeroX,opc,fin,headX,rdT_toTy o1,g1,g2,ifE,vtE,vxE,cntE]
    omega
  | .app a b,d,c,ho,h1,h0,h2=>by
    obtain ⟨o1,o2⟩:=ho
    simp only [depE,cntE] at h1 h2
    have g1 : c + 1 ≤ 400:=by omega
    have g2 : d ≤ 40:=by have:=depE_pos b; omega
    have ha:=readX_toX a (d + 1) (c + 1) o1 (by omega) (by omega) (by omega)
    have hb:=readX_toX b (d + 1) (c + 1 + cntE a) o2 (by omega) (by omega) (by omega)
    simp [toX,readX,readXs,next,ha,hb,zeroX,opc,fin,headX,g1,g2,ifE,vtE,vxE,cntE]
    omega
  | .add a b,d,c,ho,h1,h0,h2=>by
    obtain ⟨o1,o2⟩:=ho
    simp only [depE,cntE] at h1 h2
    have g1 : c + 1 ≤ 400:=by omega
    have g2 : d ≤ 40:=by have:=depE_pos b; omega
    have ha:=readX_toX a (d + 1) (c + 1) o1 (by omega) (by omega) (by omega)
    have hb:=readX_toX b (d + 1) (c + 1 + cntE a) o2 (by omega) (by omega) (by omega)
    simp [toX,readX,readXs,next,ha,hb,zeroX,opc,fin,headX,g1,g2,ifE,vtE,vxE,cntE]
    omega
  | .ite e a b,d,c,ho,h1,h0,h2=>by
    obtain ⟨o0,o1,o2⟩:=ho
    simp only [depE,cntE] at h1 h2
    have g1 : c + 1 ≤ 400:=by omega
    have g2 : d ≤ 40:=by have:=depE_pos b; omega
    have he:=readX_toX e (d + 1) (c + 1) o0 (by omega) (by omega) (by omega)
    have ha:=readX_toX a (d + 1) (c + 1 + cntE e) o1 (by omega) (by omega) (by omega)
    have hb:=readX_toX b (d + 1) (c + 1 + cntE e + cntE a) o2 (by omega) (by omega) (by omega)
    simp [toX,readX,readXs,next,he,ha,hb,zeroX,opc,fin,headX,g1,g2,ifE,vtE,vxE,cntE]
    omega
end Go.Proofs.YtnjdbgiincliaaaGreat
/- Comparisons with the zero type. -/
set_option linter.unusedVariables false
set_option linter.unusedSimpArgs false
namespace Go.Proofs.YtnjdbgiincliaaaGreat
open Go.Abs
set_option maxRecDepth 100000 in
theorem spec_l2Zero (τ : Ty) (A : List Box) : ACalls Tryz.prog 247 [.agg (enc τ)] A (fun r A'=>r = .bool (decide (τ = ty0)) ∧ A' = A):=by
  obtain ⟨k,m,n,ks⟩:=τ
  have hr : decide (Ty.mk k m n ks = ty0) = (((decide (k = 0) && decide (m = [])) && decide (n = [])) && decide (ks = [])):=by
    rw [Bool.eq_iff_iff]; simp [ty0,and_assoc]
  have hl : decide (((encs ks).length : Int) = 0) = decide (ks = []):=by
    rw [Bool.eq_iff_iff,encs_length]; simp only [decide_eq_true_eq]
    constructor
    · intro h; exact List.length_eq_zero_iff.1 (by omega)
    · rintro rfl; rfl
  rw [enc,hr]
  refine acalls_enter (cf:=cf 22 [0,1,2]) foll Tryz.func247 Tryz.ntmps247 (by simp [cf]) ?_
  simp only [Tryz.f247,EnterK_some,zW,zX,zD,builtinA,isLeaf,const1,ustrA,simprocAttr,ti3,ti9,ti34,ti36,cf,Tryz.results247]
  by_cases h1 : k = 0
  · by_cases h2 : m = []
    · by_cases h3 : n = []
      · simp only [zW,zX,zD,builtinA,isLeaf,const1,ustrA,simprocAttr,ti3,ti9,ti34,ti36,cf,Tryz.results247,decide_eq_true h1,decide_eq_true h2,decide_eq_true h3,hl]
      · simp only [zW,zX,zD,builtinA,isLeaf,const1,ustrA,simprocAttr,ti3,ti9,ti34,ti36,cf,Tryz.results247,decide_eq_true h1,decide_eq_true h2,decide_eq_false h3,hl]
    · simp only [zW,zX,zD,builtinA,isLeaf,const1,ustrA,simprocAttr,ti3,ti9,ti34,ti36,cf,Tryz.results247,decide_eq_true h1,decide_eq_false h2,hl]
  · simp only [zW,zX,zD,builtinA,isLeaf,const1,ustrA,simprocAttr,ti3,ti9,ti34,ti36,cf,Tryz.results247,decide_eq_false h1,hl]
end Go.Proofs.YtnjdbgiincliaaaGreat
/- The program's comparison of a type with the zero type. -/
set_option linter.unusedVariables false
set_option linter.unusedSimpArgs false
namespace Go.Proofs.YtnjdbgiincliaaaGreat
open Go.Abs
theorem encQ4 (t : Ty) : enc t = [.int .i64 t.kind,.str t.mod,.str t.name,.slice (encs t.kids)]:=by cases t; rw [enc]; rfl
def tcF1 : AV:=.func (.func 193) [] []
def tcF2 : AV:=.func (.func 194) [] []
set_option maxRecDepth 100000 in
theorem tc_kids (t : Ty) (A : List Box) : ACalls Tryz.prog 193 [.agg (enc t)] A (fun r A'=>r = .slice (encs t.kids) ∧ A' = A):=by
  rw [encQ4]
  refine acalls_enter (cf:=cf 5 [0,1,2]) foll Tryz.func193 Tryz.ntmps193 (by simp [cf]) ?_
  simp only [Tryz.f193,EnterK_some,zW,zX,zD,builtinA,isLeaf,const1,Nat.reduceAdd,Nat.reduceMul,Nat.reduceSub,Nat.reduceLT,Nat.reduceLeDiff,Nat.reduceEqDiff,Nat.reduceBEq,Nat.reduceBNe,reduceIte,reduceCtorEq,Int.reduceToNat,Int.reduceLT,Int.reduceLE,Int.reduceEq,Int.reduceNe,Int.reduceNeg,ustrA,ti34,ti36,cf,Tryz.results193]
set_option maxRecDepth 100000 in
theorem tc_same (s t : Ty) (A : List Box) : ACalls Tryz.prog 194 [.agg (enc s),.agg (enc t)] A (fun r A'=>r = .bool (decide (s.kind = t.kind) && decide (s.mod = t.mod) && decide (s.name = t.name)) ∧ A' = A):=by
  rw [encQ4,encQ4]
  refine acalls_enter (cf:=cf 24 [0,1,2,3,4]) foll Tryz.func194 Tryz.ntmps194 (by simp [cf]) ?_
  simp only [Tryz.f194,EnterK_some,zW,zX,zD,builtinA,isLeaf,const1,Nat.reduceAdd,Nat.reduceMul,Nat.reduceSub,Nat.reduceLT,Nat.reduceLeDiff,Nat.reduceEqDiff,Nat.reduceBEq,Nat.reduceBNe,reduceIte,reduceCtorEq,Int.reduceToNat,Int.reduceLT,Int.reduceLE,Int.reduceEq,Int.reduceNe,Int.reduceNeg,ustrA,ti3,ti9,ti36,cf,Tryz.results194]
  by_cases h1 : s.kind = t.kind
  · by_cases h2 : s.mod = t.mod
    · simp only [zW,zX,zD,builtinA,isLeaf,const1,Nat.reduceAdd,Nat.reduceMul,Nat.reduceSub,Nat.reduceLT,Nat.reduceLeDiff,Nat.reduceEqDiff,Nat.reduceBEq,Nat.reduceBNe,reduceIte,reduceCtorEq,Int.reduceToNat,Int.reduceLT,Int.reduceLE,Int.reduceEq,Int.reduceNe,Int.reduceNeg,ustrA,ti3,ti9,ti36,cf,Tryz.results194,decide_eq_true h1,decide_eq_true h2]
    · simp only [zW,zX,zD,builtinA,isLeaf,const1,Nat.reduceAdd,Nat.reduceMul,Nat.reduceSub,Nat.reduceLT,Nat.reduceLeDiff,Nat.reduceEqDiff,Nat.reduceBEq,Nat.reduceBNe,reduceIte,reduceCtorEq,Int.reduceToNat,Int.reduceLT,Int.reduceLE,Int.reduceEq,Int.reduceNe,Int.reduceNeg,ustrA,ti3,ti9,ti36,cf,Tryz.results194,decide_eq_true h1,decide_eq_false h2]
  · simp only [zW,zX,zD,builtinA,isLeaf,const1,Nat.reduceAdd,Nat.reduceMul,Nat.reduceSub,Nat.reduceLT,Nat.reduceLeDiff,Nat.reduceEqDiff,Nat.reduceBEq,Nat.reduceBNe,reduceIte,reduceCtorEq,Int.reduceToNat,Int.reduceLT,Int.reduceLE,Int.reduceEq,Int.reduceNe,Int.reduceNeg,ustrA,ti3,ti9,ti36,cf,Tryz.results194,decide_eq_false h1]
set_option maxRecDepth 100000 in
theorem join_none (m : AV) (A : List Box) : ACalls Tryz.prog 259 [m,.slice [],.slice []] A (fun r A'=>r = .bool false ∧ A' = A):=by
  have h0 : decide (((0 : Nat) : Int) = 0) = true:=rfl
  refine acalls_enter (cf:=cf 32 [0,1,2,6,7,8,11,28]) foll Tryz.func259 Tryz.ntmps259 (by simp [cf]) ?_
  simp only [Tryz.f259,EnterK_some,zW,zX,zD,builtinA,isLeaf,const1,Nat.reduceAdd,Nat.reduceMul,Nat.reduceSub,Nat.reduceLT,Nat.reduceLeDiff,Nat.reduceEqDiff,Nat.reduceBEq,Nat.reduceBNe,reduceIte,reduceCtorEq,Int.reduceToNat,Int.reduceLT,Int.reduceLE,Int.reduceEq,Int.reduceNe,Int.reduceNeg,ustrA,ti3,ti34,ti36,ti165,ti419,ca290,mi165,ks419,cf,Tryz.results259]
  simp only [zW,zX,zD,builtinA,isLeaf,const1,Nat.reduceAdd,Nat.reduceMul,Nat.reduceSub,Nat.reduceLT,Nat.reduceLeDiff,Nat.reduceEqDiff,Nat.reduceBEq,Nat.reduceBNe,reduceIte,reduceCtorEq,Int.reduceToNat,Int.reduceLT,Int.reduceLE,Int.reduceEq,Int.reduceNe,Int.reduceNeg,ustrA,ti3,ti34,ti36,ti165,ti419,ca290,mi165,ks419,cf,Tryz.results259,h0]
def rowLen0 (A : List Box) : AV → Nat
  | .own q=>match A.getD q .dead with
    | .row _ rows _=>rows.length
    | _=>0
  | _=>0
set_option maxRecDepth 100000 in
set_option maxHeartbeats 2000000 in
theorem same_zero (t : Ty) (i : Nat) (A : List Box) : ACalls Tryz.prog 197 [.agg [tcF1,tcF2,.map i],.agg (enc t),.agg (enc ty0)] A (fun r A'=>r = .bool (decide (t = ty0)) ∧ A' = A):=by
  have hz : enc ty0 = [.int .i64 0,.str [],.str [],.slice []]:=by rw [ty0,enc]; rfl
  simp only [tcF1,tcF2]
  refine acalls_enter (cf:=cf 82 [0,1,2,3,4,5,6,7,8,9,10,11,12,21,34,35,36,37,69,76]) foll Tryz.func197 Tryz.ntmps197 (by simp [cf]) ?_
  simp only [Tryz.f197,EnterK_some,zW,zX,zD,builtinA,isLeaf,const1,Nat.reduceAdd,Nat.reduceMul,Nat.reduceSub,Nat.reduceLT,Nat.reduceLeDiff,Nat.reduceEqDiff,Nat.reduceBEq,Nat.reduceBNe,reduceIte,reduceCtorEq,Int.reduceToNat,Int.reduceLT,Int.reduceLE,Int.reduceEq,Int.reduceNe,Int.reduceNeg,ustrA,ti3,ti34,ti36,ti67,ti163,ti165,ti167,ti366,ti367,ca259,cf,Tryz.results197]
  simp only [zW,zX,zD,builtinA,isLeaf,const1,Nat.reduceAdd,Nat.reduceMul,Nat.reduceSub,Nat.reduceLT,Nat.reduceLeDiff,Nat.reduceEqDiff,Nat.reduceBEq,Nat.reduceBNe,reduceIte,reduceCtorEq,Int.reduceToNat,Int.reduceLT,Int.reduceLE,Int.reduceEq,Int.reduceNe,Int.reduceNeg,ustrA,ti3,ti34,ti36,ti67,ti163,ti165,ti167,ti366,ti367,ca259,cf,Tryz.results197,enc_length,enc_take,frzL_enc]
  refine ⟨enc_leaf t,enc_leaf ty0,?_,?_⟩
  · intro v hv
    rcases List.mem_cons.1 hv with rfl | hv
    · rfl
    · rcases List.mem_cons.1 hv with rfl | hv
      · rfl
      · cases hv
  refine aloop_intro [3,7] (fun e A'=>∃ B j,e = [(3,.ptr A.length 0),(7,.own (A.length + (j + 3)))] ∧ A' = A ++ (.cells [tcF1,tcF2,.map i] :: .cells (enc t) :: .cells (enc ty0) :: B) ∧ j < B.length ∧ (B.getD j .dead = .row 2 [[.slice [enc t],.slice [enc ty0]]] 0 ∨ (B.getD j .dead = .row 2 [] 0 ∧ t = ty0))) (fun e A'=>rowLen0 A' (Abs.look 7 e)) ?_ ?_
  · simp only [zW,zX,zD,builtinA,isLeaf,const1,Nat.reduceAdd,Nat.reduceMul,Nat.reduceSub,Nat.reduceLT,Nat.reduceLeDiff,Nat.reduceEqDiff,Nat.reduceBEq,Nat.reduceBNe,reduceIte,reduceCtorEq,Int.reduceToNat,Int.reduceLT,Int.reduceLE,Int.reduceEq,Int.reduceNe,Int.reduceNeg,ustrA,ti3,ti34,ti36,ti67,ti163,ti165,ti167,ti366,ti367,ca259,cf,Tryz.results197]
    exact ⟨_,2,rfl,rfl,by simp,.inl rfl⟩
  · rintro e A' ⟨B,j,rfl,rfl,hj,hB⟩
    have hgj : ∀ X Y Z : Box,∀ d : Box,(X :: Y :: Z :: B).getD (j + 3) d = B.getD j d:=fun _ _ _ _=>rfl
    have hmu : ∀ rows,B.getD j .dead = .row 2 rows 0 → rowLen0 (A ++ (.cells [tcF1,tcF2,.map i] :: .cells (enc t) :: .cells (enc ty0) :: B)) (.own (A.length + (j + 3))) = rows.length:=fun rows hr=>by
      have e2 : (A ++ (.cells [tcF1,tcF2,.map i] :: .cells (enc t) :: .cells (enc ty0) :: B)).getD (A.length + (j + 3)) .dead = .row 2 rows 0:=(getD_app _ _ _ _).trans hr
      simp only [rowLen0,e2]
    rcases hB with hB | ⟨hB,ht⟩
    · have hz1 : decide ((0 : Int) < ((1 : Nat) : Int)) = true:=rfl
      have hm1 : ((1 : Nat) : Int) - 1 = ((0 : Nat) : Int):=rfl
      have hw0 : IntKind.i64.wrap ((0 : Nat) : Int) = ((0 : Nat) : Int):=rfl
      have hB2 : ∀ L : List Box,(B ++ L).getD j .dead = .row 2 [[.slice [enc t],.slice [enc ty0]]] 0:=fun L=>by rw [getD_app1 _ _ _ _ hj,hB]
      have hmu':=hmu _ hB
      simp only [List.length_cons,List.length_nil] at hmu'
      rw [show Abs.look 7 [(3,AV.ptr A.length 0),(7,AV.own (A.length + (j + 3)))] = .own (A.length + (j + 3)) from rfl,hmu']
      have hq : ∀ (X Y : Box) (L : List Box) (d : Box),((B ++ [X]).set j Y ++ L).getD B.length d = X:=fun X Y L d=>by
        have h1 : B.length < ((B ++ [X]).set j Y).length:=by simp
        have h2 : j ≠ B.length:=by omega
        rw [getD_app1 _ _ _ _ h1,Go.Abs.getD_set_ne' h2,getD_app0]
        rfl
      have hq2 : ∀ (X Y Z d : Box),((B ++ [X]).set j Y ++ [Z]).getD (B.length + 1) d = Z:=fun X Y Z d=>by
        have e : ((B ++ [X]).set j Y).length = B.length + 1:=by simp
        rw [← e,getD_app0]
        rfl
      simp only [tcF1,tcF2]
      simp only [zW,zX,zD,builtinA,isLeaf,const1,Nat.reduceAdd,Nat.reduceMul,Nat.reduceSub,Nat.reduceLT,Nat.reduceLeDiff,Nat.reduceEqDiff,Nat.reduceBEq,Nat.reduceBNe,reduceIte,reduceCtorEq,Int.reduceToNat,Int.reduceLT,Int.reduceLE,Int.reduceEq,Int.reduceNe,Int.reduceNeg,ustrA,ti3,ti34,ti36,ti67,ti163,ti165,ti167,ti366,ti367,ca259,cf,Tryz.results197,hgj,hB,hB2,hz1,hm1,hw0,hq]
      refine ⟨⟨by omega,by omega⟩,⟨by omega,by omega⟩,?_⟩
      refine aloop_intro [3,7,8,34,35,36] (fun e A'=>∃ (B' : List Box) (j' k : Nat),e = [(3,.ptr A.length 0),(7,.own (A.length + (j' + 3))),(8,.ptr (A.length + (B.length + 3)) 0),(34,.slice [enc t]),(35,.int .i64 (1 : Nat)),(36,.int .i64 (k : Nat))]
        ∧ A' = A ++ (.cells [tcF1,tcF2,.map i] :: .cells (enc t) :: .cells (enc ty0) :: B') ∧ j' < B'.length ∧ B'.getD j' .dead = .row 2 [] 0 ∧ B.length < B'.length ∧ B'.getD B.length .dead = .cells [.slice [enc t],.slice [enc ty0]]
        ∧ k ≤ 1 ∧ (k = 1 → t = ty0)) (fun e _=>1 - (intOf (Abs.look 36 e)).toNat) ?_ ?_
      · refine ⟨_,B.length + 1,0,rfl,rfl,by simp,hq2 _ _ _ _,by simp only [List.length_append,List.length_set,List.length_singleton]; omega,hq _ _ _ _,by omega,by omega⟩
      · rintro e A' ⟨B',j',k,rfl,rfl,hj',hB',hlt,hb,hk,hkt⟩
        have hgj' : ∀ X Y Z : Box,∀ d : Box,(X :: Y :: Z :: B').getD (j' + 3) d = B'.getD j' d:=fun _ _ _ _=>rfl
        have hgb' : ∀ X Y Z : Box,∀ d : Box,(X :: Y :: Z :: B').getD (B.length + 3) d = B'.getD B.length d:=fun _ _ _ _=>rfl
        have hgB : ∀ L : List Box,(B' ++ L).getD B.length .dead = .cells [.slice [enc t],.slice [enc ty0]]:=fun L=>by rw [getD_app1 _ _ _ _ hlt,hb]
        rcases Nat.lt_or_ge k 1 with hk1 | hk1
        · have hk0 : k = 0:=by omega
          subst hk0
          have d01 : decide (((0 : Nat) : Int) < ((1 : Nat) : Int)) = true:=rfl
          simp only [tcF1,tcF2]
          simp only [zW,zX,zD,builtinA,isLeaf,const1,Nat.reduceAdd,Nat.reduceMul,Nat.reduceSub,Nat.reduceLT,Nat.reduceLeDiff,Nat.reduceEqDiff,Nat.reduceBEq,Nat.reduceBNe,reduceIte,reduceCtorEq,Int.reduceToNat,Int.reduceLT,Int.reduceLE,Int.reduceEq,Int.reduceNe,Int.reduceNeg,ustrA,ti3,ti34,ti36,ti67,ti163,ti165,ti167,ti366,ti367,ca259,cf,Tryz.results197,hgj',hgb',hb,hgB,d01,enc_length,enc_take,frzL_enc]
          refine ⟨⟨by omega,by omega⟩,⟨by omega,by omega⟩,?_⟩
          refine .inr (drawE_intro [(false,0,1),(false,0,1),(false,0,1),(false,0,1),(false,0,1),(false,0,1),(false,0,1),(false,0,1),(false,0,1),(true,0,0),(true,1,1)] [A ++ (.cells [tcF1,tcF2,.map i] :: .cells (enc t) :: .cells (enc ty0) :: (B' ++ [.cells (enc t),.cells (enc ty0)])),A ++ (.cells [tcF1,tcF2,.map i] :: .cells (enc t) :: .cells (enc ty0) :: (B' ++ [.cells (enc t),.cells (enc ty0),.cells [.nils,.nils]])),A ++ (.cells [tcF1,tcF2,.map i] :: .cells (enc t) :: .cells (enc ty0) :: (B' ++ [.cells (enc t),.cells (enc ty0),.cells [.slice (encs t.kids),.slice []]]))] 2 rfl (by kernel_rfl) (by kernel_rfl) (by kernel_rfl) (by kernel_rfl) (by kernel_rfl) (by kernel_rfl) ?_)
          simp only [tcF1,tcF2]
          simp only [zW,zX,zD,builtinA,isLeaf,const1,Nat.reduceAdd,Nat.reduceMul,Nat.reduceSub,Nat.reduceLT,Nat.reduceLeDiff,Nat.reduceEqDiff,Nat.reduceBEq,Nat.reduceBNe,reduceIte,reduceCtorEq,Int.reduceToNat,Int.reduceLT,Int.reduceLE,Int.reduceEq,Int.reduceNe,Int.reduceNeg,ustrA,ti3,ti34,ti36,ti67,ti163,ti165,ti167,ti366,ti367,ca259,cf,Tryz.results197,enc_take]
          refine ⟨by rw [enc_length]; omega,by rw [enc_length]; omega,?_⟩
          refine wpG_callv _ _ _ _ _ _ _ _ _ _ _ _ _ _ _ _ _ ?_
          simp only [zW,zX,zD,builtinA,isLeaf,const1,Nat.reduceAdd,Nat.reduceMul,Nat.reduceSub,Nat.reduceLT,Nat.reduceLeDiff,Nat.reduceEqDiff,Nat.reduceBEq,Nat.reduceBNe,reduceIte,reduceCtorEq,Int.reduceToNat,Int.reduceLT,Int.reduceLE,Int.reduceEq,Int.reduceNe,Int.reduceNeg,ustrA,ti3,ti34,ti36,ti67,ti163,ti165,ti167,ti366,ti367,ca259,cf,Tryz.results197,CallVE_eq,List.nil_append,List.append_nil]
          refine ⟨by kernel_rfl,callEN_intro (fun A=>by simp only [zW,zX,zD,builtinA,isLeaf,const1,Nat.reduceAdd,Nat.reduceMul,Nat.reduceSub,Nat.reduceLT,Nat.reduceLeDiff,Nat.reduceEqDiff,Nat.reduceBEq,Nat.reduceBNe,reduceIte,reduceCtorEq,Int.reduceToNat,Int.reduceLT,Int.reduceLE,Int.reduceEq,Int.reduceNe,Int.reduceNeg,ustrA,frzL_enc,Option.map_some]) (fun A=>tc_kids t A) ?_ rfl rfl⟩
          simp only [zW,zX,zD,builtinA,isLeaf,const1,Nat.reduceAdd,Nat.reduceMul,Nat.reduceSub,Nat.reduceLT,Nat.reduceLeDiff,Nat.reduceEqDiff,Nat.reduceBEq,Nat.reduceBNe,reduceIte,reduceCtorEq,Int.reduceToNat,Int.reduceLT,Int.reduceLE,Int.reduceEq,Int.reduceNe,Int.reduceNeg,ustrA,ti3,ti34,ti36,ti67,ti163,ti165,ti167,ti366,ti367,ca259,cf,Tryz.results197,enc_take]
          refine ⟨by rw [enc_length]; omega,by rw [enc_length]; omega,?_⟩
          refine wpG_callv _ _ _ _ _ _ _ _ _ _ _ _ _ _ _ _ _ ?_
          simp only [zW,zX,zD,builtinA,isLeaf,const1,Nat.reduceAdd,Nat.reduceMul,Nat.reduceSub,Nat.reduceLT,Nat.reduceLeDiff,Nat.reduceEqDiff,Nat.reduceBEq,Nat.reduceBNe,reduceIte,reduceCtorEq,Int.reduceToNat,Int.reduceLT,Int.reduceLE,Int.reduceEq,Int.reduceNe,Int.reduceNeg,ustrA,ti3,ti34,ti36,ti67,ti163,ti165,ti167,ti366,ti367,ca259,cf,Tryz.results197,CallVE_eq,List.nil_append,List.append_nil]
          refine ⟨by kernel_rfl,callEN_intro (fun A=>by simp only [zW,zX,zD,builtinA,isLeaf,const1,Nat.reduceAdd,Nat.reduceMul,Nat.reduceSub,Nat.reduceLT,Nat.reduceLeDiff,Nat.reduceEqDiff,Nat.reduceBEq,Nat.reduceBNe,reduceIte,reduceCtorEq,Int.reduceToNat,Int.reduceLT,Int.reduceLE,Int.reduceEq,Int.reduceNe,Int.reduceNeg,ustrA,frzL_enc,Option.map_some]) (fun A=>tc_kids ty0 A) ?_ rfl rfl⟩
          have hk0' : encs ty0.kids = []:=rfl
          simp only [zW,zX,zD,builtinA,isLeaf,const1,Nat.reduceAdd,Nat.reduceMul,Nat.reduceSub,Nat.reduceLT,Nat.reduceLeDiff,Nat.reduceEqDiff,Nat.reduceBEq,Nat.reduceBNe,reduceIte,reduceCtorEq,Int.reduceToNat,Int.reduceLT,Int.reduceLE,Int.reduceEq,Int.reduceNe,Int.reduceNeg,ustrA,ti3,ti34,ti36,ti67,ti163,ti165,ti167,ti366,ti367,ca259,cf,Tryz.results197,enc_take,hk0']
          by_cases hkn : t.kids = []
          · have hen : encs t.kids = []:=by rw [hkn]; rfl
            have d00 : decide (¬ ((0 : Nat) : Int) = ((0 : Nat) : Int)) = false:=rfl
            have hts:=fun A=>tc_same t ty0 A
            generalize hsn : (decide (t.kind = ty0.kind) && decide (t.mod = ty0.mod) && decide (t.name = ty0.name)) = sn at hts
            cases sn with
            | true =>
              have htz : t = ty0:=by
                obtain ⟨k,m,n,ks⟩:=t
                simp only [Bool.and_eq_true] at hsn
                have a1 : k = 0:=of_decide_eq_true hsn.1.1
                have a2 : m = []:=of_decide_eq_true hsn.1.2
                have a3 : n = []:=of_decide_eq_true hsn.2
                have a4 : ks = []:=hkn
                rw [a1,a2,a3,a4]; rfl
              simp only [zW,zX,zD,builtinA,isLeaf,const1,Nat.reduceAdd,Nat.reduceMul,Nat.reduceSub,Nat.reduceLT,Nat.reduceLeDiff,Nat.reduceEqDiff,Nat.reduceBEq,Nat.reduceBNe,reduceIte,reduceCtorEq,Int.reduceToNat,Int.reduceLT,Int.reduceLE,Int.reduceEq,Int.reduceNe,Int.reduceNeg,ustrA,ti3,ti34,ti36,ti67,ti163,ti165,ti167,ti366,ti367,ca259,cf,Tryz.results197,enc_take,hen,d00]
              refine ⟨by rw [enc_length]; omega,by rw [enc_length]; omega,?_⟩
              refine wpO_callv _ _ _ _ _ _ _ _ _ _ _ _ _ _ _ ?_
              simp only [zW,zX,zD,builtinA,isLeaf,const1,Nat.reduceAdd,Nat.reduceMul,Nat.reduceSub,Nat.reduceLT,Nat.reduceLeDiff,Nat.reduceEqDiff,Nat.reduceBEq,Nat.reduceBNe,reduceIte,reduceCtorEq,Int.reduceToNat,Int.reduceLT,Int.reduceLE,Int.reduceEq,Int.reduceNe,Int.reduceNeg,ustrA,ti3,ti34,ti36,ti67,ti163,ti165,ti167,ti366,ti367,ca259,cf,Tryz.results197,List.nil_append,List.append_nil]
              refine ⟨by kernel_rfl,?_⟩
              refine callK_intro (by simp only [zW,zX,zD,builtinA,isLeaf,const1,Nat.reduceAdd,Nat.reduceMul,Nat.reduceSub,Nat.reduceLT,Nat.reduceLeDiff,Nat.reduceEqDiff,Nat.reduceBEq,Nat.reduceBNe,reduceIte,reduceCtorEq,Int.reduceToNat,Int.reduceLT,Int.reduceLE,Int.reduceEq,Int.reduceNe,Int.reduceNeg,ustrA,frzL_enc,Option.map_some,List.cons_append,List.nil_append] <;> rfl) (hts _) ?_ rfl
              rintro r A2 ⟨rfl,rfl⟩
              simp only [zW,zX,zD,builtinA,isLeaf,const1,Nat.reduceAdd,Nat.reduceMul,Nat.reduceSub,Nat.reduceLT,Nat.reduceLeDiff,Nat.reduceEqDiff,Nat.reduceBEq,Nat.reduceBNe,reduceIte,reduceCtorEq,Int.reduceToNat,Int.reduceLT,Int.reduceLE,Int.reduceEq,Int.reduceNe,Int.reduceNeg,ustrA,ti3,ti34,ti36,ti67,ti163,ti165,ti167,ti366,ti367,ca259,cf,Tryz.results197]
              refine callK_intro (by simp only [zW,zX,zD,builtinA,isLeaf,const1,Nat.reduceAdd,Nat.reduceMul,Nat.reduceSub,Nat.reduceLT,Nat.reduceLeDiff,Nat.reduceEqDiff,Nat.reduceBEq,Nat.reduceBNe,reduceIte,reduceCtorEq,Int.reduceToNat,Int.reduceLT,Int.reduceLE,Int.reduceEq,Int.reduceNe,Int.reduceNeg,ustrA,Option.map_some] <;> rfl) (join_none _ _) ?_ rfl
              rintro r A2 ⟨rfl,rfl⟩
              simp only [zW,zX,zD,builtinA,isLeaf,const1,Nat.reduceAdd,Nat.reduceMul,Nat.reduceSub,Nat.reduceLT,Nat.reduceLeDiff,Nat.reduceEqDiff,Nat.reduceBEq,Nat.reduceBNe,reduceIte,reduceCtorEq,Int.reduceToNat,Int.reduceLT,Int.reduceLE,Int.reduceEq,Int.reduceNe,Int.reduceNeg,ustrA,ti3,ti34,ti36,ti67,ti163,ti165,ti167,ti366,ti367,ca259,cf,Tryz.results197,LoopK_eq]
              refine ⟨⟨_,j',1,rfl,rfl,by simp; omega,by rw [getD_app1 _ _ _ _ hj',hB'],by simp; omega,hgB _,by omega,fun _=>htz⟩,by simp only [intOf]; decide⟩
            | false =>
              have htz : ¬ t = ty0:=fun e=>by subst e; simp at hsn
              simp only [zW,zX,zD,builtinA,isLeaf,const1,Nat.reduceAdd,Nat.reduceMul,Nat.reduceSub,Nat.reduceLT,Nat.reduceLeDiff,Nat.reduceEqDiff,Nat.reduceBEq,Nat.reduceBNe,reduceIte,reduceCtorEq,Int.reduceToNat,Int.reduceLT,Int.reduceLE,Int.reduceEq,Int.reduceNe,Int.reduceNeg,ustrA,ti3,ti34,ti36,ti67,ti163,ti165,ti167,ti366,ti367,ca259,cf,Tryz.results197,enc_take,hen,d00]
              refine ⟨by rw [enc_length]; omega,by rw [enc_length]; omega,?_⟩
              refine wpO_callv _ _ _ _ _ _ _ _ _ _ _ _ _ _ _ ?_
              simp only [zW,zX,zD,builtinA,isLeaf,const1,Nat.reduceAdd,Nat.reduceMul,Nat.reduceSub,Nat.reduceLT,Nat.reduceLeDiff,Nat.reduceEqDiff,Nat.reduceBEq,Nat.reduceBNe,reduceIte,reduceCtorEq,Int.reduceToNat,Int.reduceLT,Int.reduceLE,Int.reduceEq,Int.reduceNe,Int.reduceNeg,ustrA,ti3,ti34,ti36,ti67,ti163,ti165,ti167,ti366,ti367,ca259,cf,Tryz.results197,List.nil_append,List.append_nil]
              refine ⟨by kernel_rfl,?_⟩
              refine callK_intro (by simp only [zW,zX,zD,builtinA,isLeaf,const1,Nat.reduceAdd,Nat.reduceMul,Nat.reduceSub,Nat.reduceLT,Nat.reduceLeDiff,Nat.reduceEqDiff,Nat.reduceBEq,Nat.reduceBNe,reduceIte,reduceCtorEq,Int.reduceToNat,Int.reduceLT,Int.reduceLE,Int.reduceEq,Int.reduceNe,Int.reduceNeg,ustrA,frzL_enc,Option.map_some,List.cons_append,List.nil_append] <;> rfl) (hts _) ?_ rfl
              rintro r A2 ⟨rfl,rfl⟩
              simp only [zW,zX,zD,builtinA,isLeaf,const1,Nat.reduceAdd,Nat.reduceMul,Nat.reduceSub,Nat.reduceLT,Nat.reduceLeDiff,Nat.reduceEqDiff,Nat.reduceBEq,Nat.reduceBNe,reduceIte,reduceCtorEq,Int.reduceToNat,Int.reduceLT,Int.reduceLE,Int.reduceEq,Int.reduceNe,Int.reduceNeg,ustrA,ti3,ti34,ti36,ti67,ti163,ti165,ti167,ti366,ti367,ca259,cf,Tryz.results197,decide_eq_false htz]
          · have htz : ¬ t = ty0:=fun e=>by subst e; exact hkn rfl
            have hnk : 0 < t.kids.length:=List.length_pos_iff.2 hkn
            have d00 : decide (((t.kids.length : Nat) : Int) = ((0 : Nat) : Int)) = false:=decide_eq_false (by omega)
            simp only [zW,zX,zD,builtinA,isLeaf,const1,Nat.reduceAdd,Nat.reduceMul,Nat.reduceSub,Nat.reduceLT,Nat.reduceLeDiff,Nat.reduceEqDiff,Nat.reduceBEq,Nat.reduceBNe,reduceIte,reduceCtorEq,Int.reduceToNat,Int.reduceLT,Int.reduceLE,Int.reduceEq,Int.reduceNe,Int.reduceNeg,ustrA,ti3,ti34,ti36,ti67,ti163,ti165,ti167,ti366,ti367,ca259,cf,Tryz.results197,enc_take,d00,encs_length,decide_eq_false htz]
        · have hk0 : k = 1:=by omega
          subst hk0
          have d11 : decide (((1 : Nat) : Int) < ((1 : Nat) : Int)) = false:=rfl
          simp only [tcF1,tcF2]
          simp only [zW,zX,zD,builtinA,isLeaf,const1,Nat.reduceAdd,Nat.reduceMul,Nat.reduceSub,Nat.reduceLT,Nat.reduceLeDiff,Nat.reduceEqDiff,Nat.reduceBEq,Nat.reduceBNe,reduceIte,reduceCtorEq,Int.reduceToNat,Int.reduceLT,Int.reduceLE,Int.reduceEq,Int.reduceNe,Int.reduceNeg,ustrA,ti3,ti34,ti36,ti67,ti163,ti165,ti167,ti366,ti367,ca259,cf,Tryz.results197,hgj',hgb',hb,hgB,d11,LoopK_eq,enc_length,enc_take,frzL_enc]
          refine ⟨⟨B',j',rfl,rfl,hj',.inr ⟨hB',hkt rfl⟩⟩,?_⟩
          have e2 : (A ++ (.cells [tcF1,tcF2,.map i] :: .cells (enc t) :: .cells (enc ty0) :: B')).getD (A.length + (j' + 3)) .dead = .row 2 [] 0:=(getD_app _ _ _ _).trans hB'
          simp only [tcF1,tcF2] at e2
          simp only [rowLen0,e2]
          decide
    · have hz0 : decide ((0 : Int) < ((0 : Nat) : Int)) = false:=rfl
      simp only [tcF1,tcF2]
      simp only [zW,zX,zD,builtinA,isLeaf,const1,Nat.reduceAdd,Nat.reduceMul,Nat.reduceSub,Nat.reduceLT,Nat.reduceLeDiff,Nat.reduceEqDiff,Nat.reduceBEq,Nat.reduceBNe,reduceIte,reduceCtorEq,Int.reduceToNat,Int.reduceLT,Int.reduceLE,Int.reduceEq,Int.reduceNe,Int.reduceNeg,ustrA,ti3,ti34,ti36,ti67,ti163,ti165,ti167,ti366,ti367,ca259,cf,Tryz.results197,hgj,hB,hz0,decide_eq_true ht]
set_option maxRecDepth 100000 in
theorem impl_typeComparison (A : List Box) : ACalls Tryz.prog 108 [] A (fun r A'=>r = .agg [tcF1,tcF2,.map (A.length + 1)] ∧ A' = A ++ [.cells [tcF1,tcF2,.map (A.length + 1)],.mapb []]):=by
  simp only [tcF1,tcF2]
  refine acalls_enterK (cf:=cf 7 [0,1,2]) foll Tryz.func108 Tryz.ntmps108 (by simp [cf]) ?_
  simp only [Tryz.f108,EnterK_some,zW,zX,zD,builtinA,isLeaf,const1,Nat.reduceAdd,Nat.reduceMul,Nat.reduceSub,Nat.reduceLT,Nat.reduceLeDiff,Nat.reduceEqDiff,Nat.reduceBEq,Nat.reduceBNe,reduceIte,reduceCtorEq,Int.reduceToNat,Int.reduceLT,Int.reduceLE,Int.reduceEq,Int.reduceNe,Int.reduceNeg,ustrA,ti165,ti167,cf,Tryz.results108]
set_option maxRecDepth 100000 in
theorem impl_TypeSame0 (t : Ty) (A : List Box) : ACalls Tryz.prog 251 [.agg (enc t),.agg (enc ty0)] A (fun r A'=>r = .bool (decide (t = ty0)) ∧ A' = A):=by
  refine acalls_enter (cf:=cf 9 [0,1,2,3,4]) foll Tryz.func251 Tryz.ntmps251 (by simp [cf]) ?_
  simp only [Tryz.f251,EnterK_some,zW,zX,zD,builtinA,isLeaf,const1,Nat.reduceAdd,Nat.reduceMul,Nat.reduceSub,Nat.reduceLT,Nat.reduceLeDiff,Nat.reduceEqDiff,Nat.reduceBEq,Nat.reduceBNe,reduceIte,reduceCtorEq,Int.reduceToNat,Int.reduceLT,Int.reduceLE,Int.reduceEq,Int.reduceNe,Int.reduceNeg,ustrA,ti36,ca108,ca197,cf,Tryz.results251]
  refine .inr (drawE_intro [(true,0,0),(false,0,1),(false,0,1),(true,1,1),(false,2,2)] [A ++ [.cells (enc t),.cells (enc ty0)],A ++ [.cells (enc t),.cells (enc ty0),.cells [tcF1,tcF2,.map (A.length + 2 + 1)],.mapb []],A ++ [.cells (enc t),.cells (enc ty0),.cells [tcF1,tcF2,.map (A.length + 2 + 1)],.mapb []]] 2 rfl (by kernel_rfl) (by kernel_rfl) (by kernel_rfl) (by kernel_rfl) (by kernel_rfl) (by kernel_rfl) ?_)
  simp only [zW,zX,zD,builtinA,isLeaf,const1,Nat.reduceAdd,Nat.reduceMul,Nat.reduceSub,Nat.reduceLT,Nat.reduceLeDiff,Nat.reduceEqDiff,Nat.reduceBEq,Nat.reduceBNe,reduceIte,reduceCtorEq,Int.reduceToNat,Int.reduceLT,Int.reduceLE,Int.reduceEq,Int.reduceNe,Int.reduceNeg,ustrA,ti36,ca108,ca197,cf,Tryz.results251]
  refine callE_intro (v:=.agg [tcF1,tcF2,.map (A.length + 2 + 1)]) (by simp only [zW,zX,zD,builtinA,isLeaf,const1,Nat.reduceAdd,Nat.reduceMul,Nat.reduceSub,Nat.reduceLT,Nat.reduceLeDiff,Nat.reduceEqDiff,Nat.reduceBEq,Nat.reduceBNe,reduceIte,reduceCtorEq,Int.reduceToNat,Int.reduceLT,Int.reduceLE,Int.reduceEq,Int.reduceNe,Int.reduceNeg,ustrA] <;> rfl) ((impl_typeComparison _).mono fun r A' h=>?_) ?_ rfl rfl
  · obtain ⟨h1,h2⟩:=h
    refine ⟨by rw [h1]; simp,?_⟩
    show A' = A ++ [.cells (enc t),.cells (enc ty0),.cells [tcF1,tcF2,.map (A.length + 2 + 1)],.mapb []]
    rw [h2]; simp
  simp only [zW,zX,zD,builtinA,isLeaf,const1,Nat.reduceAdd,Nat.reduceMul,Nat.reduceSub,Nat.reduceLT,Nat.reduceLeDiff,Nat.reduceEqDiff,Nat.reduceBEq,Nat.reduceBNe,reduceIte,reduceCtorEq,Int.reduceToNat,Int.reduceLT,Int.reduceLE,Int.reduceEq,Int.reduceNe,Int.reduceNeg,ustrA,ti36,ca108,ca197,cf,Tryz.results251,enc_take]
  refine ⟨by rw [enc_length]; omega,by rw [enc_length]; omega,by rw [enc_length]; omega,by rw [enc_length]; omega,?_⟩
  refine callEO_intro (same_zero t _ _) ?_ rfl
  simp only [zW,zX,zD,builtinA,isLeaf,const1,Nat.reduceAdd,Nat.reduceMul,Nat.reduceSub,Nat.reduceLT,Nat.reduceLeDiff,Nat.reduceEqDiff,Nat.reduceBEq,Nat.reduceBNe,reduceIte,reduceCtorEq,Int.reduceToNat,Int.reduceLT,Int.reduceLE,Int.reduceEq,Int.reduceNe,Int.reduceNeg,ustrA,ti36,ca108,ca197,cf,Tryz.results251]
end Go.Proofs.YtnjdbgiincliaaaGreat
