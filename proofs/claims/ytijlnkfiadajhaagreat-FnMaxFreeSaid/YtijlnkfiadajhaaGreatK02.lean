/- ExVal, ExRd, Zero, Zero0. -/
import Derived.Test.YtijlnkfiadajhaaGreatK01
import Derived.Test.YtijlnkfiadajhaaGreatAbsW3
/- Valid expressions as data. -/
set_option linter.unusedVariables false
set_option linter.unusedSimpArgs false
namespace Go.Proofs.YtijlnkfiadajhaaGreat
open Go.Abs
inductive VE where
  | var (i : Int)
  | num (i : Int)
  | nm (m n : List UInt8)
  | fn (t : VT) (b : VE)
  | app (f a : VE)
  | add (a b : VE)
  | ite (c a b : VE)
def toX : VE → Ex
  | .var i=>.mk 1 i [] [] ty0 []
  | .num i=>.mk 2 i [] [] ty0 []
  | .nm m n=>.mk 3 0 m n ty0 []
  | .fn t b=>.mk 4 0 [] [] (toTy t) [toX b]
  | .app f a=>.mk 5 0 [] [] ty0 [toX f,toX a]
  | .add a b=>.mk 6 0 [] [] ty0 [toX a,toX b]
  | .ite c a b=>.mk 7 0 [] [] ty0 [toX c,toX a,toX b]
def depE : VE → Nat
  | .var _=>1
  | .num _=>1
  | .nm _ _=>1
  | .fn _ b=>1 + depE b
  | .app f a=>1 + max (depE f) (depE a)
  | .add a b=>1 + max (depE a) (depE b)
  | .ite c a b=>1 + max (depE c) (max (depE a) (depE b))
def cntE : VE → Nat
  | .var _=>1
  | .num _=>1
  | .nm _ _=>1
  | .fn _ b=>1 + cntE b
  | .app f a=>1 + cntE f + cntE a
  | .add a b=>1 + cntE a + cntE b
  | .ite c a b=>1 + cntE c + cntE a + cntE b
def okE : VE → Prop
  | .var i=>0 ≤ i ∧ i ≤ 12
  | .num i=>0 ≤ i ∧ i ≤ 99
  | .nm m n=>nmB m n = true
  | .fn t b=>VOk t ∧ okE b
  | .app f a=>okE f ∧ okE a
  | .add a b=>okE a ∧ okE b
  | .ite c a b=>okE c ∧ okE a ∧ okE b
mutual
def countX : Ex → Nat
  | .mk _ _ _ _ _ ks=>1 + countXs ks
def countXs : List Ex → Nat
  | []=>0
  | x :: l=>countX x + countXs l
end
mutual
theorem countX_sz : ∀ t,countX t ≤ 1 + szX t
  | .mk k i m n t ks=>by rw [countX,szX]; have:=countXs_sz ks; omega
theorem countXs_sz : ∀ l,countXs l ≤ l.length + szXs l
  | []=>by simp [countXs]
  | t :: l=>by rw [countXs,szXs,List.length_cons]; have:=countX_sz t; have:=countXs_sz l; omega
end
theorem countX_toX : ∀ v,countX (toX v) = cntE v
  | .var _=>by simp [toX,countX,countXs,cntE]
  | .num _=>by simp [toX,countX,countXs,cntE]
  | .nm _ _=>by simp [toX,countX,countXs,cntE]
  | .fn t b=>by simp [toX,countX,countXs,cntE,countX_toX b]
  | .app a b=>by simp [toX,countX,countXs,cntE,countX_toX a,countX_toX b]; omega
  | .add a b=>by simp [toX,countX,countXs,cntE,countX_toX a,countX_toX b]; omega
  | .ite c a b=>by simp [toX,countX,countXs,cntE,countX_toX a,countX_toX b,countX_toX c]; omega
def kidsX (k : Int) : Int:=if k = 1 then 0 else if k = 2 then 0 else if k = 3 then 0 else if k = 4 then 1 else if k = 5 then 2 else if k = 6 then 2 else if k = 7 then 3 else -1
noncomputable def ownX (k i : Int) (m n : List UInt8) (t : Ty) : Bool :=
  if k = 3 then decide (i = 0) && decide (t = ty0) && localB n && (decide (m = []) || moduleB m)
  else decide (m = []) && decide (n = []) && (if k = 1 then decide (0 ≤ i) && decide (i ≤ 12) && decide (t = ty0) else if k = 2 then decide (0 ≤ i) && decide (i ≤ 99) && decide (t = ty0)
    else if k = 4 then decide (i = 0) && validB t else decide (i = 0) && decide (t = ty0))
mutual
noncomputable def shapeX : Ex → Int → Bool
  | .mk k i m n t ks,d=>decide (1 ≤ d) && (decide (kidsX k = ks.length) && ownX k i m n t) && shapeXs ks (d - 1)
noncomputable def shapeXs : List Ex → Int → Bool
  | [],_=>true
  | x :: l,d=>shapeX x d && shapeXs l d
end
theorem shapeXs_take {l : List Ex} {i : Nat} (h : i < l.length) (d : Int) : shapeXs (l.take (i + 1)) d = (shapeXs (l.take i) d && shapeX (l.getD i ex0) d):=by
  induction l generalizing i with
  | nil=>simp at h
  | cons t l ih =>
    cases i with
    | zero=>simp [shapeXs,List.getD]
    | succ i =>
      have:=ih (i:=i) (by simpa using h)
      simp only [List.take_succ_cons,shapeXs,List.getD_cons_succ] at this ⊢
      rw [this,Bool.and_assoc]
theorem shapeXs_false {l : List Ex} {i : Nat} {d : Int} (h : i < l.length) (hs : shapeX (l.getD i ex0) d = false) : shapeXs l d = false:=by
  induction l generalizing i with
  | nil=>simp at h
  | cons t l ih =>
    rw [shapeXs]
    cases i with
    | zero=>have : shapeX t d = false:=hs; rw [this]; rfl
    | succ i=>rw [ih (i:=i) (by simpa using h) (by simpa using hs)]; simp
theorem depE_pos : ∀ v,1 ≤ depE v
  | .var _ | .num _ | .nm _ _=>by simp [depE]
  | .fn _ _ | .app _ _ | .add _ _ | .ite _ _ _=>by simp [depE]
theorem shapeX_toX : ∀ (v : VE) (d : Int),okE v → (depE v : Int) ≤ d → shapeX (toX v) d = true
  | .var i,d,hv,h=>by
    simp only [depE] at h; obtain ⟨h1,h2⟩:=hv
    simp [toX,shapeX,shapeXs,kidsX,ownX,h1,h2]; omega
  | .num i,d,hv,h=>by
    simp only [depE] at h; obtain ⟨h1,h2⟩:=hv
    simp [toX,shapeX,shapeXs,kidsX,ownX,h1,h2]; omega
  | .nm m n,d,hv,h=>by
    simp only [depE] at h
    simp [okE,nmB] at hv
    simp [toX,shapeX,shapeXs,kidsX,ownX,hv.1,hv.2]; omega
  | .fn t b,d,hv,h=>by
    simp only [depE] at h; obtain ⟨h1,h2⟩:=hv
    have hb:=shapeX_toX b (d - 1) h2 (by omega)
    simp [toX,shapeX,shapeXs,kidsX,ownX,hb,validB_toTy h1]; omega
  | .app a b,d,hv,h=>by
    simp only [depE] at h; obtain ⟨h1,h2⟩:=hv
    have ha:=shapeX_toX a (d - 1) h1 (by omega)
    have hb:=shapeX_toX b (d - 1) h2 (by omega)
    simp [toX,shapeX,shapeXs,kidsX,ownX,ha,hb]; omega
  | .add a b,d,hv,h=>by
    simp only [depE] at h; obtain ⟨h1,h2⟩:=hv
    have ha:=shapeX_toX a (d - 1) h1 (by omega)
    have hb:=shapeX_toX b (d - 1) h2 (by omega)
    simp [toX,shapeX,shapeXs,kidsX,ownX,ha,hb]; omega
  | .ite c a b,d,hv,h=>by
    simp only [depE] at h; obtain ⟨h0,h1,h2⟩:=hv
    have hc:=shapeX_toX c (d - 1) h0 (by omega)
    have ha:=shapeX_toX a (d - 1) h1 (by omega)
    have hb:=shapeX_toX b (d - 1) h2 (by omega)
    simp [toX,shapeX,shapeXs,kidsX,ownX,ha,hb,hc]; omega
theorem len0 {l : List Ex} (h : (0 : Int) = l.length) : l = []:=List.length_eq_zero_iff.1 (by omega)
theorem len1 {l : List Ex} (h : (1 : Int) = l.length) : ∃ a,l = [a]:=by
  match l,h with
  | [a],_=>exact ⟨a,rfl⟩
  | [],h=>simp at h
  | _ :: _ :: _,h=>simp at h; omega
theorem len2 {l : List Ex} (h : (2 : Int) = l.length) : ∃ a b,l = [a,b]:=by
  match l,h with
  | [a,b],_=>exact ⟨a,b,rfl⟩
  | [],h=>simp at h
  | [_],h=>simp at h
  | _ :: _ :: _ :: _,h=>simp at h; omega
theorem len3 {l : List Ex} (h : (3 : Int) = l.length) : ∃ a b c,l = [a,b,c]:=by
  match l,h with
  | [a,b,c],_=>exact ⟨a,b,c,rfl⟩
  | [],h=>simp at h
  | [_],h=>simp at h
  | [_,_],h=>simp at h
  | _ :: _ :: _ :: _ :: _,h=>simp at h; omega
theorem shapeX_of (x : Ex) : ∀ (d : Int),shapeX x d = true → ∃ v,x = toX v ∧ okE v ∧ (depE v : Int) ≤ d:=by
  induction x using Ex.ind with
  | h k i m n t ks ih =>
    intro d h
    rw [shapeX] at h
    simp only [Bool.and_eq_true,decide_eq_true_eq] at h
    obtain ⟨⟨h1,h2,h3⟩,h4⟩:=h
    by_cases k1 : k = 1
    · subst k1
      simp only [kidsX,if_true] at h2
      obtain rfl:=len0 h2
      simp [ownX] at h3
      obtain ⟨⟨rfl,rfl⟩,⟨h5,h6⟩,rfl⟩:=h3
      exact ⟨.var i,rfl,⟨h5,h6⟩,h1⟩
    by_cases k2 : k = 2
    · subst k2
      simp [kidsX] at h2
      obtain rfl:=len0 h2
      simp [ownX] at h3
      obtain ⟨⟨rfl,rfl⟩,⟨h5,h6⟩,rfl⟩:=h3
      exact ⟨.num i,rfl,⟨h5,h6⟩,h1⟩
    by_cases k3 : k = 3
    · subst k3
      simp [kidsX] at h2
      obtain rfl:=len0 h2
      simp [ownX] at h3
      obtain ⟨⟨⟨rfl,rfl⟩,h5⟩,h6⟩:=h3
      exact ⟨.nm m n,rfl,by simp [okE,nmB,h5,h6],h1⟩
    by_cases k4 : k = 4
    · subst k4
      simp [kidsX] at h2
      obtain ⟨b,rfl⟩:=len1 h2
      simp [ownX] at h3
      obtain ⟨⟨rfl,rfl⟩,rfl,h5⟩:=h3
      rcases valid_cases t with ⟨u,rfl,hu⟩ | hn
      · simp only [shapeXs,Bool.and_true] at h4
        obtain ⟨v,rfl,v1,v2⟩:=ih b (by simp) _ h4
        exact ⟨.fn u v,rfl,⟨hu,v1⟩,by simp only [depE]; omega⟩
      · rw [hn] at h5; cases h5
    by_cases k5 : k = 5
    · subst k5
      simp [kidsX] at h2
      obtain ⟨a,b,rfl⟩:=len2 h2
      simp [ownX] at h3
      obtain ⟨⟨rfl,rfl⟩,rfl,rfl⟩:=h3
      simp only [shapeXs,Bool.and_true,Bool.and_eq_true] at h4
      obtain ⟨u,rfl,u1,u2⟩:=ih a (by simp) _ h4.1
      obtain ⟨v,rfl,v1,v2⟩:=ih b (by simp) _ h4.2
      exact ⟨.app u v,rfl,⟨u1,v1⟩,by simp only [depE]; omega⟩
    by_cases k6 : k = 6
    · subst k6
      simp [kidsX] at h2
      obtain ⟨a,b,rfl⟩:=len2 h2
      simp [ownX] at h3
      obtain ⟨⟨rfl,rfl⟩,rfl,rfl⟩:=h3
      simp only [shapeXs,Bool.and_true,Bool.and_eq_true] at h4
      obtain ⟨u,rfl,u1,u2⟩:=ih a (by simp) _ h4.1
      obtain ⟨v,rfl,v1,v2⟩:=ih b (by simp) _ h4.2
      exact ⟨.add u v,rfl,⟨u1,v1⟩,by simp only [depE]; omega⟩
    by_cases k7 : k = 7
    · subst k7
      simp [kidsX] at h2
      obtain ⟨c,a,b,rfl⟩:=len3 h2
      simp [ownX] at h3
      obtain ⟨⟨rfl,rfl⟩,rfl,rfl⟩:=h3
      simp only [shapeXs,Bool.and_true,Bool.and_eq_true] at h4
      obtain ⟨w,rfl,w1,w2⟩:=ih c (by simp) _ h4.1
      obtain ⟨u,rfl,u1,u2⟩:=ih a (by simp) _ h4.2.1
      obtain ⟨v,rfl,v1,v2⟩:=ih b (by simp) _ h4.2.2
      exact ⟨.ite w u v,rfl,⟨w1,u1,v1⟩,by simp only [depE]; omega⟩
    · exfalso
      simp [kidsX,k1,k2,k3,k4,k5,k6,k7] at h2
      try omega
mutual
def cntU : Ex → Int → Int
  | .mk _ _ _ _ _ ks,most=>cntUs ks most 1
def cntUs : List Ex → Int → Int → Int
  | [],_,n=>n
  | x :: l,most,n=>if n ≤ most then cntUs l most (n + cntU x (most - n)) else n
end
mutual
theorem cntU_is : ∀ (x : Ex) (most : Int),0 ≤ most → 1 ≤ cntU x most ∧ cntU x most ≤ countX x ∧ ((countX x : Int) ≤ most → cntU x most = countX x) ∧ (most < countX x → most < cntU x most)
  | .mk _ _ _ _ _ ks,most,h=>by
    have:=cntUs_is ks most 1 (by omega) (by omega)
    simp only [countX,cntU]
    refine ⟨by omega,by omega,fun hh=>?_,fun hh=>?_⟩
    · rw [this.2.2.1 (by omega)]; omega
    · exact this.2.2.2 (by omega)
theorem cntUs_is : ∀ (l : List Ex) (most n : Int),0 ≤ most → 0 ≤ n → n ≤ cntUs l most n ∧ cntUs l most n ≤ n + countXs l ∧ (n + countXs l ≤ most → cntUs l most n = n + countXs l) ∧ (most < n + countXs l → most < cntUs l most n)
  | [],most,n,h,hn=>by simp [cntUs,countXs]
  | x :: l,most,n,h,hn=>by
    rw [cntUs,countXs]
    by_cases hh : n ≤ most
    · rw [if_pos hh]
      obtain ⟨a1,a2,a3,a4⟩:=cntU_is x (most - n) (by omega)
      obtain ⟨b1,b2,b3,b4⟩:=cntUs_is l most (n + cntU x (most - n)) h (by omega)
      refine ⟨by omega,by omega,fun q=>?_,fun q=>?_⟩
      · have:=a3 (by omega)
        rw [b3 (by omega),this]; omega
      · by_cases hq : (countX x : Int) ≤ most - n
        · have:=a3 hq
          exact b4 (by omega)
        · have:=a4 (by omega)
          omega
    · rw [if_neg hh]
      omega
end
noncomputable def validX (x : Ex) : Bool:=shapeX x 40 && decide (countX x ≤ 400)
structure EOk (v : VE) : Prop where
  ok : okE v
  dep : depE v ≤ 40
  cnt : cntE v ≤ 400
theorem validX_toX {v : VE} (h : EOk v) : validX (toX v) = true:=by
  rw [validX,shapeX_toX v 40 h.ok (by have:=h.dep; omega),countX_toX,decide_eq_true h.cnt]; rfl
theorem validX_cases (x : Ex) : (∃ v,x = toX v ∧ EOk v) ∨ validX x = false:=by
  cases h : validX x with
  | false=>exact .inr rfl
  | true =>
    left
    rw [validX,Bool.and_eq_true,decide_eq_true_eq] at h
    obtain ⟨v,rfl,h1,h2⟩:=shapeX_of x 40 h.1
    rw [countX_toX] at h
    exact ⟨v,rfl,h1,by omega,h.2⟩
theorem toTy_inj' : ∀ {v v' : VT},toTy v = toTy v' → v = v'
  | .num,.num,_=>rfl
  | .num,.nm _ _,h=>by simp [toTy] at h
  | .num,.fn _ _,h=>by simp [toTy] at h
  | .nm _ _,.num,h=>by simp [toTy] at h
  | .nm _ _,.fn _ _,h=>by simp [toTy] at h
  | .fn _ _,.num,h=>by simp [toTy] at h
  | .fn _ _,.nm _ _,h=>by simp [toTy] at h
  | .nm m n,.nm m' n',h=>by simp [toTy] at h; rw [h.1,h.2]
  | .fn a b,.fn a' b',h=>by
    simp [toTy] at h
    rw [toTy_inj' h.1,toTy_inj' h.2]
theorem toX_inj : ∀ {v v' : VE},toX v = toX v' → v = v'
  | .var _,v',h=>by cases v' <;> simp [toX] at h; rw [h]
  | .num _,v',h=>by cases v' <;> simp [toX] at h; rw [h]
  | .nm _ _,v',h=>by cases v' <;> simp [toX] at h; rw [h.1,h.2]
  | .fn t b,v',h=>by
    cases v' <;> simp [toX] at h
    rw [toTy_inj' h.1,toX_inj h.2]
  | .app a b,v',h=>by
    cases v' <;> simp [toX] at h
    rw [toX_inj h.1,toX_inj h.2]
  | .add a b,v',h=>by
    cases v' <;> simp [toX] at h
    rw [toX_inj h.1,toX_inj h.2]
  | .ite c a b,v',h=>by
    cases v' <;> simp [toX] at h
    rw [toX_inj h.1,toX_inj h.2.1,toX_inj h.2.2]
end Go.Proofs.YtijlnkfiadajhaaGreat
/- How the program reads an expression, as a function. -/
set_option linter.unusedVariables false
set_option linter.unusedSimpArgs false
namespace Go.Proofs.YtijlnkfiadajhaaGreat
open Go.Abs
def vtE : VE → TypeId
  | .var _=>253
  | .num _=>401
  | .nm _ _=>171
  | .fn _ _=>264
  | .app _ _=>404
  | .add _ _=>406
  | .ite _ _ _=>408
def vxE : VE → AV
  | .var i=>.agg [.int .i64 i]
  | .num i=>.agg [.int .i64 i]
  | .nm m n=>.agg [.str m,.str n]
  | .fn t b=>.agg [.iface (vT t) (vX t),.iface (vtE b) (vxE b)]
  | .app a b=>.agg [.iface (vtE a) (vxE a),.iface (vtE b) (vxE b)]
  | .add a b=>.agg [.iface (vtE a) (vxE a),.iface (vtE b) (vxE b)]
  | .ite c a b=>.agg [.iface (vtE c) (vxE c),.iface (vtE a) (vxE a),.iface (vtE b) (vxE b)]
def ifE (v : VE) : AV:=.iface (vtE v) (vxE v)
def rowsV (vs : List VE) : List (List AV):=vs.map fun v=>[ifE v]
theorem rowsV_length (vs : List VE) : (rowsV vs).length = vs.length:=by simp [rowsV]
noncomputable def rdT (t : Ty) : AV × Option VT:=by
  classical
  exact if h : ∃ v,t = toTy v ∧ VOk v then (.iface (vT h.choose) (vX h.choose),some h.choose) else (.nili,none)
theorem rdT_toTy {v : VT} (h : VOk v) : rdT (toTy v) = (.iface (vT v) (vX v),some v):=by
  have hh : ∃ u,toTy v = toTy u ∧ VOk u:=⟨v,rfl,h⟩
  have e : hh.choose = v:=(toTy_inj' hh.choose_spec.1).symm
  unfold rdT
  rw [dif_pos hh,e]
theorem rdT_bad {t : Ty} (h : validB t = false) : rdT t = (.nili,none):=by
  have hh : ¬ ∃ u,t = toTy u ∧ VOk u:=by
    rintro ⟨u,rfl,hu⟩
    rw [validB_toTy hu] at h; cases h
  unfold rdT
  rw [dif_neg hh]
def opc (k : Int) : Int:=if k = 1 then 0 else if k = 2 then 0 else if k = 3 then 0 else if k = 4 then 1 else if k = 5 then 2 else if k = 6 then 2 else if k = 7 then 3 else -1
noncomputable def zeroX (k i : Int) (m n : List UInt8) (t : Ty) : Bool :=
  ((decide (k = 1) || decide (k = 2)) || decide (i = 0)) && (decide (k = 3) || decide (m = [])) && (decide (k = 3) || decide (n = [])) && (decide (k = 4) || decide (t = ty0))
noncomputable def headX (k i : Int) (m n : List UInt8) (t : Ty) (vs : List VE) : AV × Option VE :=
  if k = 1 then (.iface 253 (.agg [.int .i64 i]),if 0 ≤ i ∧ i ≤ 12 then some (.var i) else none)
  else if k = 2 then (.iface 401 (.agg [.int .i64 i]),if 0 ≤ i ∧ i ≤ 99 then some (.num i) else none)
  else if k = 3 then (.iface 171 (.agg [.str m,.str n]),if ((decide (m = []) || moduleB m) && localB n) = true then some (.nm m n) else none)
  else if k = 4 then (.iface 264 (.agg [(rdT t).1,ifE (vs.getD 0 (.num 0))]),(rdT t).2.map fun u=>.fn u (vs.getD 0 (.num 0)))
  else if k = 5 then (.iface 404 (.agg [ifE (vs.getD 0 (.num 0)),ifE (vs.getD 1 (.num 0))]),some (.app (vs.getD 0 (.num 0)) (vs.getD 1 (.num 0))))
  else if k = 6 then (.iface 406 (.agg [ifE (vs.getD 0 (.num 0)),ifE (vs.getD 1 (.num 0))]),some (.add (vs.getD 0 (.num 0)) (vs.getD 1 (.num 0))))
  else if k = 7 then (.iface 408 (.agg [ifE (vs.getD 0 (.num 0)),ifE (vs.getD 1 (.num 0)),ifE (vs.getD 2 (.num 0))]),some (.ite (vs.getD 0 (.num 0)) (vs.getD 1 (.num 0)) (vs.getD 2 (.num 0))))
  else (.nili,none)
noncomputable def fin (k i : Int) (m n : List UInt8) (t : Ty) (r : Option (List VE) × Int) : (AV × Option VE) × Int :=
  match r.1 with
  | none=>((.nili,none),r.2)
  | some vs=>if (vs.length : Int) = opc k then (headX k i m n t vs,r.2) else ((.nili,none),r.2)
noncomputable def next (r : (AV × Option VE) × Int) (s : Option (List VE) × Int) : Option (List VE) × Int :=
  match r.1.2 with
  | none=>(none,r.2)
  | some v=>match s.1 with
    | none=>(none,s.2)
    | some vs=>(some (v :: vs),s.2)
mutual
noncomputable def readX : Ex → Int → Int → (AV × Option VE) × Int
  | .mk k i m n t ks,d,c =>
    if (decide (c + 1 ≤ 400) && decide (d ≤ 40) && zeroX k i m n t) = false then ((.nili,none),c + 1)
    else if opc k < ks.length then ((.nili,none),c + 1)
    else fin k i m n t (readXs ks (d + 1) (c + 1))
noncomputable def readXs : List Ex → Int → Int → Option (List VE) × Int
  | [],_,c=>(some [],c)
  | x :: l,d,c=>next (readX x d c) (readXs l d (readX x d c).2)
end
theorem readX_of (x : Ex) : ∀ (d c : Int) (v : VE),0 ≤ c → (readX x d c).1.2 = some v → x = toX v ∧ okE v ∧ d + depE v ≤ 41 ∧ c + cntE v ≤ 400 ∧ readX x d c = ((ifE v,some v),c + cntE v):=by
  induction x using Ex.ind with
  | h k i m n t ks ih =>
    have hs : ∀ (l : List Ex),(∀ x ∈ l,x ∈ ks) → ∀ (d c : Int) (vs : List VE),0 ≤ c → (readXs l d c).1 = some vs → l = vs.map toX ∧ (∀ v ∈ vs,okE v ∧ d + depE v ≤ 41) ∧ (readXs l d c).2 = c + (vs.map cntE).sum ∧ (vs = [] ∨ c + (vs.map cntE).sum ≤ 400):=by
      intro l
      induction l with
      | nil=>intro _ d c vs hc h; simp only [readXs,Option.some.injEq] at h; subst h; simp [readXs]
      | cons x l ihl =>
        intro hm d c vs hc h
        rw [readXs,next] at h
        cases h1 : (readX x d c).1.2 with
        | none=>rw [h1] at h; cases h
        | some v =>
          rw [h1] at h
          simp only at h
          obtain ⟨a1,a2,a3,a4,a5⟩:=ih x (hm x (by simp)) d c v hc h1
          have hc2 : (readX x d c).2 = c + cntE v:=by rw [a5]
          cases h2 : (readXs l d (readX x d c).2).1 with
          | none=>rw [h2] at h; cases h
          | some us =>
            rw [h2] at h
            simp only [Option.some.injEq] at h
            subst h
            obtain ⟨b1,b2,b3,b4⟩:=ihl (fun y hy=>hm y (by simp [hy])) d _ us (by rw [hc2]; omega) h2
            refine ⟨by rw [List.map_cons,← a1,← b1],fun u hu=>?_,?_,.inr ?_⟩
            · rcases List.mem_cons.1 hu with rfl | hu
              · exact ⟨a2,a3⟩
              · exact b2 u hu
            · rw [readXs,next,h1]
              simp only [h2]
              rw [b3,hc2]; simp; omega
            · rw [hc2] at b4
              rcases b4 with rfl | b4
              · simp; omega
              · simp; omega
    intro d c v hc h
    rw [readX] at h ⊢
    by_cases h1 : (decide (c + 1 ≤ 400) && decide (d ≤ 40) && zeroX k i m n t) = false
    · rw [if_pos h1] at h; cases h
    · rw [if_neg h1] at h ⊢
      by_cases h2 : opc k < ks.length
      · rw [if_pos h2] at h; cases h
      · rw [if_neg h2] at h ⊢
        simp only [Bool.not_eq_false,Bool.and_eq_true,decide_eq_true_eq] at h1
        obtain ⟨⟨g1,g2⟩,g3⟩:=h1
        rw [fin] at h ⊢
        cases h3 : (readXs ks (d + 1) (c + 1)).1 with
        | none=>rw [h3] at h; cases h
        | some vs =>
          rw [h3] at h
          simp only at h ⊢
          by_cases h4 : (vs.length : Int) = opc k
          · rw [if_pos h4] at h ⊢
            obtain ⟨b1,b2,b3,b4⟩:=hs ks (fun _ h=>h) (d + 1) (c + 1) vs (by omega) h3
            subst b1
            rw [b3]
            simp only at h
            unfold headX at h ⊢
            by_cases k1 : k = 1
            · subst k1
              obtain rfl : vs = []:=by simpa [opc] using h4
              simp only [if_true] at h ⊢
              split at h
              · rename_i hi
                injection h with h; subst h
                simp [zeroX] at g3
                rw [if_pos hi,g3.1.1,g3.1.2,g3.2]
                refine ⟨rfl,hi,by simp only [depE]; omega,by simp only [cntE]; omega,?_⟩
                simp [ifE,vtE,vxE,cntE]
              · cases h
            by_cases k2 : k = 2
            · subst k2
              obtain rfl : vs = []:=by simpa [opc] using h4
              simp only [if_neg k1,if_true] at h ⊢
              split at h
              · rename_i hi
                injection h with h; subst h
                simp [zeroX] at g3
                rw [if_pos hi,g3.1.1,g3.1.2,g3.2]
                refine ⟨rfl,hi,by simp only [depE]; omega,by simp only [cntE]; omega,?_⟩
                simp [ifE,vtE,vxE,cntE]
              · cases h
            by_cases k3 : k = 3
            · subst k3
              obtain rfl : vs = []:=by simpa [opc] using h4
              simp only [if_neg k1,if_neg k2,if_true] at h ⊢
              split at h
              · rename_i hi
                injection h with h; subst h
                simp [zeroX] at g3
                rw [if_pos hi,g3.1,g3.2]
                refine ⟨rfl,hi,by simp only [depE]; omega,by simp only [cntE]; omega,?_⟩
                simp [ifE,vtE,vxE,cntE]
              · cases h
            by_cases k4 : k = 4
            · subst k4
              obtain ⟨b,rfl⟩ : ∃ b,vs = [b]:=by
                match vs,h4 with
                | [b],_=>exact ⟨b,rfl⟩
                | [],h4=>simp [opc] at h4
                | _ :: _ :: _,h4=>simp [opc] at h4; omega
              simp only [if_neg k1,if_neg k2,if_neg k3,if_true] at h ⊢
              rcases valid_cases t with ⟨u,rfl,hu⟩ | hn
              · rw [rdT_toTy hu] at h ⊢
                simp only [Option.map_some,Option.some.injEq,List.getD_cons_zero] at h ⊢
                subst h
                have hb:=b2 b (by simp)
                simp [zeroX] at g3
                rw [g3.1.1,g3.1.2,g3.2]
                simp at b4
                refine ⟨rfl,⟨hu,hb.1⟩,by simp only [depE]; omega,by simp only [cntE]; omega,?_⟩
                simp [ifE,vtE,vxE,cntE]; omega
              · rw [rdT_bad hn] at h; cases h
            by_cases k5 : k = 5
            · subst k5
              obtain ⟨a,b,rfl⟩ : ∃ a b,vs = [a,b]:=by
                match vs,h4 with
                | [a,b],_=>exact ⟨a,b,rfl⟩
                | [],h4=>simp [opc] at h4
                | [_],h4=>simp [opc] at h4
                | _ :: _ :: _ :: _,h4=>simp [opc] at h4; omega
              simp only [if_neg k1,if_neg k2,if_neg k3,if_neg k4,if_true,Option.some.injEq,List.getD_cons_zero,List.getD_cons_succ] at h ⊢
              subst h
              have ha:=b2 a (by simp)
              have hb:=b2 b (by simp)
              simp [zeroX] at g3
              rw [g3.1.1.1,g3.1.1.2,g3.1.2,g3.2]
              simp at b4
              refine ⟨rfl,⟨ha.1,hb.1⟩,by simp only [depE]; omega,by simp only [cntE]; omega,?_⟩
              simp [ifE,vtE,vxE,cntE]; omega
            by_cases k6 : k = 6
            · subst k6
              obtain ⟨a,b,rfl⟩ : ∃ a b,vs = [a,b]:=by
                match vs,h4 with
                | [a,b],_=>exact ⟨a,b,rfl⟩
                | [],h4=>simp [opc] at h4
                | [_],h4=>simp [opc] at h4
                | _ :: _ :: _ :: _,h4=>simp [opc] at h4; omega
              simp only [if_neg k1,if_neg k2,if_neg k3,if_neg k4,if_neg k5,if_true,Option.some.injEq,List.getD_cons_zero,List.getD_cons_succ] at h ⊢
              subst h
              have ha:=b2 a (by simp)
              have hb:=b2 b (by simp)
              simp [zeroX] at g3
              rw [g3.1.1.1,g3.1.1.2,g3.1.2,g3.2]
              simp at b4
              refine ⟨rfl,⟨ha.1,hb.1⟩,by simp only [depE]; omega,by simp only [cntE]; omega,?_⟩
              simp [ifE,vtE,vxE,cntE]; omega
            by_cases k7 : k = 7
            · subst k7
              obtain ⟨e,a,b,rfl⟩ : ∃ e a b,vs = [e,a,b]:=by
                match vs,h4 with
                | [e,a,b],_=>exact ⟨e,a,b,rfl⟩
                | [],h4=>simp [opc] at h4
                | [_],h4=>simp [opc] at h4
                | [_,_],h4=>simp [opc] at h4
                | _ :: _ :: _ :: _ :: _,h4=>simp [opc] at h4; omega
              simp only [if_neg k1,if_neg k2,if_neg k3,if_neg k4,if_neg k5,if_neg k6,if_true,Option.some.injEq,List.getD_cons_zero,List.getD_cons_succ] at h ⊢
              subst h
              have he:=b2 e (by simp)
              have ha:=b2 a (by simp)
              have hb:=b2 b (by simp)
              simp [zeroX] at g3
              rw [g3.1.1.1,g3.1.1.2,g3.1.2,g3.2]
              simp at b4
              refine ⟨rfl,⟨he.1,ha.1,hb.1⟩,by simp only [depE]; omega,by simp only [cntE]; omega,?_⟩
              simp [ifE,vtE,vxE,cntE]; omega
            · rw [if_neg k1,if_neg k2,if_neg k3,if_neg k4,if_neg k5,if_neg k6,if_neg k7] at h; cases h
          · rw [if_neg h4] at h; cases h
theorem readX_toX : ∀ (v : VE) (d c : Int),okE v → d + depE v ≤ 41 → 0 ≤ c → c + cntE v ≤ 400 → readX (toX v) d c = ((ifE v,some v),c + cntE v)
  | .var i,d,c,ho,h1,h0,h2=>by
    simp only [okE,depE,cntE] at ho h1 h2
    have g1 : c + 1 ≤ 400:=by omega
    have g2 : d ≤ 40:=by omega
    simp [toX,readX,readXs,zeroX,opc,fin,headX,g1,g2,ho,ifE,vtE,vxE,cntE]
  | .num i,d,c,ho,h1,h0,h2=>by
    simp only [okE,depE,cntE] at ho h1 h2
    have g1 : c + 1 ≤ 400:=by omega
    have g2 : d ≤ 40:=by omega
    simp [toX,readX,readXs,zeroX,opc,fin,headX,g1,g2,ho,ifE,vtE,vxE,cntE]
  | .nm m n,d,c,ho,h1,h0,h2=>by
    simp only [okE,depE,cntE,nmB] at ho h1 h2
    have g1 : c + 1 ≤ 400:=by omega
    have g2 : d ≤ 40:=by omega
    simp [toX,readX,readXs,zeroX,opc,fin,headX,g1,g2,ho,ifE,vtE,vxE,cntE]
  | .fn t b,d,c,ho,h1,h0,h2=>by
    obtain ⟨o1,o2⟩:=ho
    simp only [depE,cntE] at h1 h2
    have g1 : c + 1 ≤ 400:=by omega
    have g2 : d ≤ 40:=by have:=depE_pos b; omega
    have hb:=readX_toX b (d + 1) (c + 1) o2 (by omega) (by omega) (by omega)
    simp [toX,readX,readXs,next,hb,zeroX,opc,fin,headX,rdT_toTy o1,g1,g2,ifE,vtE,vxE,cntE]
    omega
  | .app a b,d,c,ho,h1,h0,h2=>by
    obtain ⟨o1,o2⟩:=ho
    simp only [depE,cntE] at h1 h2
    have g1 : c + 1 ≤ 400:=by omega
    have g2 : d ≤ 40:=by have:=depE_pos b; omega
    have ha:=readX_toX a (d + 1) (c + 1) o1 (by omega) (by omega) (by omega)
    have hb:=readX_toX b (d + 1) (c + 1 + cntE a) o2 (by omega) (by omega) (by omega)
    simp [toX,readX,readXs,next,ha,hb,zeroX,opc,fin,headX,g1,g2,ifE,vtE,vxE,cntE]
    omega
  | .add a b,d,c,ho,h1,h0,h2=>by
    obtain ⟨o1,o2⟩:=ho
    simp only [depE,cntE] at h1 h2
    have g1 : c + 1 ≤ 400:=by omega
    have g2 : d ≤ 40:=by have:=depE_pos b; omega
    have ha:=readX_toX a (d + 1) (c + 1) o1 (by omega) (by omega) (by omega)
    have hb:=readX_toX b (d + 1) (c + 1 + cntE a) o2 (by omega) (by omega) (by omega)
    simp [toX,readX,readXs,next,ha,hb,zeroX,opc,fin,headX,g1,g2,ifE,vtE,vxE,cntE]
    omega
  | .ite e a b,d,c,ho,h1,h0,h2=>by
    obtain ⟨o0,o1,o2⟩:=ho
    simp only [depE,cntE] at h1 h2
    have g1 : c + 1 ≤ 400:=by omega
    have g2 : d ≤ 40:=by have:=depE_pos b; omega
    have he:=readX_toX e (d + 1) (c + 1) o0 (by omega) (by omega) (by omega)
    have ha:=readX_toX a (d + 1) (c + 1 + cntE e) o1 (by omega) (by omega) (by omega)
    have hb:=readX_toX b (d + 1) (c + 1 + cntE e + cntE a) o2 (by omega) (by omega) (by omega)
    simp [toX,readX,readXs,next,he,ha,hb,zeroX,opc,fin,headX,g1,g2,ifE,vtE,vxE,cntE]
    omega
end Go.Proofs.YtijlnkfiadajhaaGreat
/- Comparisons with the zero type. -/
set_option linter.unusedVariables false
set_option linter.unusedSimpArgs false
namespace Go.Proofs.YtijlnkfiadajhaaGreat
open Go.Abs
set_option maxRecDepth 100000 in
theorem spec_l2Zero (τ : Ty) (A : List Box) : ACalls Tryz.prog 206 [.agg (enc τ)] A (fun r A'=>r = .bool (decide (τ = ty0)) ∧ A' = A):=by
  obtain ⟨k,m,n,ks⟩:=τ
  have hr : decide (Ty.mk k m n ks = ty0) = (((decide (k = 0) && decide (m = [])) && decide (n = [])) && decide (ks = [])):=by
    rw [Bool.eq_iff_iff]; simp [ty0,and_assoc]
  have hl : decide (((encs ks).length : Int) = 0) = decide (ks = []):=by
    rw [Bool.eq_iff_iff,encs_length]; simp only [decide_eq_true_eq]
    constructor
    · intro h; exact List.length_eq_zero_iff.1 (by omega)
    · rintro rfl; rfl
  rw [enc,hr]
  refine acalls_enter (cf:=cf 22 [0,1,2]) foll Tryz.func206 Tryz.ntmps206 (by simp [cf]) ?_
  simp only [Tryz.f206,EnterK_some,zW,zX,zD,builtinA,isLeaf,const1,ustrA,simprocAttr,ti3,ti9,ti34,ti36,cf,Tryz.results206]
  by_cases h1 : k = 0
  · by_cases h2 : m = []
    · by_cases h3 : n = []
      · simp only [zW,zX,zD,builtinA,isLeaf,const1,ustrA,simprocAttr,ti3,ti9,ti34,ti36,cf,Tryz.results206,decide_eq_true h1,decide_eq_true h2,decide_eq_true h3,hl]
      · simp only [zW,zX,zD,builtinA,isLeaf,const1,ustrA,simprocAttr,ti3,ti9,ti34,ti36,cf,Tryz.results206,decide_eq_true h1,decide_eq_true h2,decide_eq_false h3,hl]
    · simp only [zW,zX,zD,builtinA,isLeaf,const1,ustrA,simprocAttr,ti3,ti9,ti34,ti36,cf,Tryz.results206,decide_eq_true h1,decide_eq_false h2,hl]
  · simp only [zW,zX,zD,builtinA,isLeaf,const1,ustrA,simprocAttr,ti3,ti9,ti34,ti36,cf,Tryz.results206,decide_eq_false h1,hl]
end Go.Proofs.YtijlnkfiadajhaaGreat
/- The program's comparison of a type with the zero type. -/
set_option linter.unusedVariables false
set_option linter.unusedSimpArgs false
namespace Go.Proofs.YtijlnkfiadajhaaGreat
open Go.Abs
theorem encQ4 (t : Ty) : enc t = [.int .i64 t.kind,.str t.mod,.str t.name,.slice (encs t.kids)]:=by cases t; rw [enc]; rfl
def tcF1 : AV:=.func (.func 171) [] []
def tcF2 : AV:=.func (.func 172) [] []
set_option maxRecDepth 100000 in
theorem tc_kids (t : Ty) (A : List Box) : ACalls Tryz.prog 171 [.agg (enc t)] A (fun r A'=>r = .slice (encs t.kids) ∧ A' = A):=by
  rw [encQ4]
  refine acalls_enter (cf:=cf 5 [0,1,2]) foll Tryz.func171 Tryz.ntmps171 (by simp [cf]) ?_
  simp only [Tryz.f171,EnterK_some,zW,zX,zD,builtinA,isLeaf,const1,Nat.reduceAdd,Nat.reduceMul,Nat.reduceSub,Nat.reduceLT,Nat.reduceLeDiff,Nat.reduceEqDiff,Nat.reduceBEq,Nat.reduceBNe,reduceIte,reduceCtorEq,Int.reduceToNat,Int.reduceLT,Int.reduceLE,Int.reduceEq,Int.reduceNe,Int.reduceNeg,ustrA,ti34,ti36,cf,Tryz.results171]
set_option maxRecDepth 100000 in
theorem tc_same (s t : Ty) (A : List Box) : ACalls Tryz.prog 172 [.agg (enc s),.agg (enc t)] A (fun r A'=>r = .bool (decide (s.kind = t.kind) && decide (s.mod = t.mod) && decide (s.name = t.name)) ∧ A' = A):=by
  rw [encQ4,encQ4]
  refine acalls_enter (cf:=cf 24 [0,1,2,3,4]) foll Tryz.func172 Tryz.ntmps172 (by simp [cf]) ?_
  simp only [Tryz.f172,EnterK_some,zW,zX,zD,builtinA,isLeaf,const1,Nat.reduceAdd,Nat.reduceMul,Nat.reduceSub,Nat.reduceLT,Nat.reduceLeDiff,Nat.reduceEqDiff,Nat.reduceBEq,Nat.reduceBNe,reduceIte,reduceCtorEq,Int.reduceToNat,Int.reduceLT,Int.reduceLE,Int.reduceEq,Int.reduceNe,Int.reduceNeg,ustrA,ti3,ti9,ti36,cf,Tryz.results172]
  by_cases h1 : s.kind = t.kind
  · by_cases h2 : s.mod = t.mod
    · simp only [zW,zX,zD,builtinA,isLeaf,const1,Nat.reduceAdd,Nat.reduceMul,Nat.reduceSub,Nat.reduceLT,Nat.reduceLeDiff,Nat.reduceEqDiff,Nat.reduceBEq,Nat.reduceBNe,reduceIte,reduceCtorEq,Int.reduceToNat,Int.reduceLT,Int.reduceLE,Int.reduceEq,Int.reduceNe,Int.reduceNeg,ustrA,ti3,ti9,ti36,cf,Tryz.results172,decide_eq_true h1,decide_eq_true h2]
    · simp only [zW,zX,zD,builtinA,isLeaf,const1,Nat.reduceAdd,Nat.reduceMul,Nat.reduceSub,Nat.reduceLT,Nat.reduceLeDiff,Nat.reduceEqDiff,Nat.reduceBEq,Nat.reduceBNe,reduceIte,reduceCtorEq,Int.reduceToNat,Int.reduceLT,Int.reduceLE,Int.reduceEq,Int.reduceNe,Int.reduceNeg,ustrA,ti3,ti9,ti36,cf,Tryz.results172,decide_eq_true h1,decide_eq_false h2]
  · simp only [zW,zX,zD,builtinA,isLeaf,const1,Nat.reduceAdd,Nat.reduceMul,Nat.reduceSub,Nat.reduceLT,Nat.reduceLeDiff,Nat.reduceEqDiff,Nat.reduceBEq,Nat.reduceBNe,reduceIte,reduceCtorEq,Int.reduceToNat,Int.reduceLT,Int.reduceLE,Int.reduceEq,Int.reduceNe,Int.reduceNeg,ustrA,ti3,ti9,ti36,cf,Tryz.results172,decide_eq_false h1]
set_option maxRecDepth 100000 in
theorem join_none (m : AV) (A : List Box) : ACalls Tryz.prog 228 [m,.slice [],.slice []] A (fun r A'=>r = .bool false ∧ A' = A):=by
  have h0 : decide (((0 : Nat) : Int) = 0) = true:=rfl
  refine acalls_enter (cf:=cf 32 [0,1,2,6,7,8,11,28]) foll Tryz.func228 Tryz.ntmps228 (by simp [cf]) ?_
  simp only [Tryz.f228,EnterK_some,zW,zX,zD,builtinA,isLeaf,const1,Nat.reduceAdd,Nat.reduceMul,Nat.reduceSub,Nat.reduceLT,Nat.reduceLeDiff,Nat.reduceEqDiff,Nat.reduceBEq,Nat.reduceBNe,reduceIte,reduceCtorEq,Int.reduceToNat,Int.reduceLT,Int.reduceLE,Int.reduceEq,Int.reduceNe,Int.reduceNeg,ustrA,ti3,ti34,ti36,ti188,ti420,ca262,mi188,ks420,cf,Tryz.results228]
  simp only [zW,zX,zD,builtinA,isLeaf,const1,Nat.reduceAdd,Nat.reduceMul,Nat.reduceSub,Nat.reduceLT,Nat.reduceLeDiff,Nat.reduceEqDiff,Nat.reduceBEq,Nat.reduceBNe,reduceIte,reduceCtorEq,Int.reduceToNat,Int.reduceLT,Int.reduceLE,Int.reduceEq,Int.reduceNe,Int.reduceNeg,ustrA,ti3,ti34,ti36,ti188,ti420,ca262,mi188,ks420,cf,Tryz.results228,h0]
def rowLen0 (A : List Box) : AV → Nat
  | .own q=>match A.getD q .dead with
    | .row _ rows _=>rows.length
    | _=>0
  | _=>0
set_option maxRecDepth 100000 in
set_option maxHeartbeats 2000000 in
theorem same_zero (t : Ty) (i : Nat) (A : List Box) : ACalls Tryz.prog 175 [.agg [tcF1,tcF2,.map i],.agg (enc t),.agg (enc ty0)] A (fun r A'=>r = .bool (decide (t = ty0)) ∧ A' = A):=by
  have hz : enc ty0 = [.int .i64 0,.str [],.str [],.slice []]:=by rw [ty0,enc]; rfl
  simp only [tcF1,tcF2]
  refine acalls_enter (cf:=cf 82 [0,1,2,3,4,5,6,7,8,9,10,11,12,21,34,35,36,37,69,76]) foll Tryz.func175 Tryz.ntmps175 (by simp [cf]) ?_
  simp only [Tryz.f175,EnterK_some,zW,zX,zD,builtinA,isLeaf,const1,Nat.reduceAdd,Nat.reduceMul,Nat.reduceSub,Nat.reduceLT,Nat.reduceLeDiff,Nat.reduceEqDiff,Nat.reduceBEq,Nat.reduceBNe,reduceIte,reduceCtorEq,Int.reduceToNat,Int.reduceLT,Int.reduceLE,Int.reduceEq,Int.reduceNe,Int.reduceNeg,ustrA,ti3,ti34,ti36,ti155,ti186,ti188,ti190,ti362,ti363,ca228,cf,Tryz.results175]
  simp only [zW,zX,zD,builtinA,isLeaf,const1,Nat.reduceAdd,Nat.reduceMul,Nat.reduceSub,Nat.reduceLT,Nat.reduceLeDiff,Nat.reduceEqDiff,Nat.reduceBEq,Nat.reduceBNe,reduceIte,reduceCtorEq,Int.reduceToNat,Int.reduceLT,Int.reduceLE,Int.reduceEq,Int.reduceNe,Int.reduceNeg,ustrA,ti3,ti34,ti36,ti155,ti186,ti188,ti190,ti362,ti363,ca228,cf,Tryz.results175,enc_length,enc_take,frzL_enc]
  refine ⟨enc_leaf t,enc_leaf ty0,?_,?_⟩
  · intro v hv
    rcases List.mem_cons.1 hv with rfl | hv
    · rfl
    · rcases List.mem_cons.1 hv with rfl | hv
      · rfl
      · cases hv
  refine aloop_intro [3,7] (fun e A'=>∃ B j,e = [(3,.ptr A.length 0),(7,.own (A.length + (j + 3)))] ∧ A' = A ++ (.cells [tcF1,tcF2,.map i] :: .cells (enc t) :: .cells (enc ty0) :: B) ∧ j < B.length ∧ (B.getD j .dead = .row 2 [[.slice [enc t],.slice [enc ty0]]] 0 ∨ (B.getD j .dead = .row 2 [] 0 ∧ t = ty0))) (fun e A'=>rowLen0 A' (Abs.look 7 e)) ?_ ?_
  · simp only [zW,zX,zD,builtinA,isLeaf,const1,Nat.reduceAdd,Nat.reduceMul,Nat.reduceSub,Nat.reduceLT,Nat.reduceLeDiff,Nat.reduceEqDiff,Nat.reduceBEq,Nat.reduceBNe,reduceIte,reduceCtorEq,Int.reduceToNat,Int.reduceLT,Int.reduceLE,Int.reduceEq,Int.reduceNe,Int.reduceNeg,ustrA,ti3,ti34,ti36,ti155,ti186,ti188,ti190,ti362,ti363,ca228,cf,Tryz.results175]
    exact ⟨_,2,rfl,rfl,by simp,.inl rfl⟩
  · rintro e A' ⟨B,j,rfl,rfl,hj,hB⟩
    have hgj : ∀ X Y Z : Box,∀ d : Box,(X :: Y :: Z :: B).getD (j + 3) d = B.getD j d:=fun _ _ _ _=>rfl
    have hmu : ∀ rows,B.getD j .dead = .row 2 rows 0 → rowLen0 (A ++ (.cells [tcF1,tcF2,.map i] :: .cells (enc t) :: .cells (enc ty0) :: B)) (.own (A.length + (j + 3))) = rows.length:=fun rows hr=>by
      have e2 : (A ++ (.cells [tcF1,tcF2,.map i] :: .cells (enc t) :: .cells (enc ty0) :: B)).getD (A.length + (j + 3)) .dead = .row 2 rows 0:=(getD_app _ _ _ _).trans hr
      simp only [rowLen0,e2]
    rcases hB with hB | ⟨hB,ht⟩
    · have hz1 : decide ((0 : Int) < ((1 : Nat) : Int)) = true:=rfl
      have hm1 : ((1 : Nat) : Int) - 1 = ((0 : Nat) : Int):=rfl
      have hw0 : IntKind.i64.wrap ((0 : Nat) : Int) = ((0 : Nat) : Int):=rfl
      have hB2 : ∀ L : List Box,(B ++ L).getD j .dead = .row 2 [[.slice [enc t],.slice [enc ty0]]] 0:=fun L=>by rw [getD_app1 _ _ _ _ hj,hB]
      have hmu':=hmu _ hB
      simp only [List.length_cons,List.length_nil] at hmu'
      rw [show Abs.look 7 [(3,AV.ptr A.length 0),(7,AV.own (A.length + (j + 3)))] = .own (A.length + (j + 3)) from rfl,hmu']
      have hq : ∀ (X Y : Box) (L : List Box) (d : Box),((B ++ [X]).set j Y ++ L).getD B.length d = X:=fun X Y L d=>by
        have h1 : B.length < ((B ++ [X]).set j Y).length:=by simp
        have h2 : j ≠ B.length:=by omega
        rw [getD_app1 _ _ _ _ h1,Go.Abs.getD_set_ne' h2,getD_app0]
        rfl
      have hq2 : ∀ (X Y Z d : Box),((B ++ [X]).set j Y ++ [Z]).getD (B.length + 1) d = Z:=fun X Y Z d=>by
        have e : ((B ++ [X]).set j Y).length = B.length + 1:=by simp
        rw [← e,getD_app0]
        rfl
      simp only [tcF1,tcF2]
      simp only [zW,zX,zD,builtinA,isLeaf,const1,Nat.reduceAdd,Nat.reduceMul,Nat.reduceSub,Nat.reduceLT,Nat.reduceLeDiff,Nat.reduceEqDiff,Nat.reduceBEq,Nat.reduceBNe,reduceIte,reduceCtorEq,Int.reduceToNat,Int.reduceLT,Int.reduceLE,Int.reduceEq,Int.reduceNe,Int.reduceNeg,ustrA,ti3,ti34,ti36,ti155,ti186,ti188,ti190,ti362,ti363,ca228,cf,Tryz.results175,hgj,hB,hB2,hz1,hm1,hw0,hq]
      refine ⟨⟨by omega,by omega⟩,⟨by omega,by omega⟩,?_⟩
      refine aloop_intro [3,7,8,34,35,36] (fun e A'=>∃ (B' : List Box) (j' k : Nat),e = [(3,.ptr A.length 0),(7,.own (A.length + (j' + 3))),(8,.ptr (A.length + (B.length + 3)) 0),(34,.slice [enc t]),(35,.int .i64 (1 : Nat)),(36,.int .i64 (k : Nat))]
        ∧ A' = A ++ (.cells [tcF1,tcF2,.map i] :: .cells (enc t) :: .cells (enc ty0) :: B') ∧ j' < B'.length ∧ B'.getD j' .dead = .row 2 [] 0 ∧ B.length < B'.length ∧ B'.getD B.length .dead = .cells [.slice [enc t],.slice [enc ty0]]
        ∧ k ≤ 1 ∧ (k = 1 → t = ty0)) (fun e _=>1 - (intOf (Abs.look 36 e)).toNat) ?_ ?_
      · refine ⟨_,B.length + 1,0,rfl,rfl,by simp,hq2 _ _ _ _,by simp only [List.length_append,List.length_set,List.length_singleton]; omega,hq _ _ _ _,by omega,by omega⟩
      · rintro e A' ⟨B',j',k,rfl,rfl,hj',hB',hlt,hb,hk,hkt⟩
        have hgj' : ∀ X Y Z : Box,∀ d : Box,(X :: Y :: Z :: B').getD (j' + 3) d = B'.getD j' d:=fun _ _ _ _=>rfl
        have hgb' : ∀ X Y Z : Box,∀ d : Box,(X :: Y :: Z :: B').getD (B.length + 3) d = B'.getD B.length d:=fun _ _ _ _=>rfl
        have hgB : ∀ L : List Box,(B' ++ L).getD B.length .dead = .cells [.slice [enc t],.slice [enc ty0]]:=fun L=>by rw [getD_app1 _ _ _ _ hlt,hb]
        rcases Nat.lt_or_ge k 1 with hk1 | hk1
        · have hk0 : k = 0:=by omega
          subst hk0
          have d01 : decide (((0 : Nat) : Int) < ((1 : Nat) : Int)) = true:=rfl
          simp only [tcF1,tcF2]
          simp only [zW,zX,zD,builtinA,isLeaf,const1,Nat.reduceAdd,Nat.reduceMul,Nat.reduceSub,Nat.reduceLT,Nat.reduceLeDiff,Nat.reduceEqDiff,Nat.reduceBEq,Nat.reduceBNe,reduceIte,reduceCtorEq,Int.reduceToNat,Int.reduceLT,Int.reduceLE,Int.reduceEq,Int.reduceNe,Int.reduceNeg,ustrA,ti3,ti34,ti36,ti155,ti186,ti188,ti190,ti362,ti363,ca228,cf,Tryz.results175,hgj',hgb',hb,hgB,d01,enc_length,enc_take,frzL_enc]
          refine ⟨⟨by omega,by omega⟩,⟨by omega,by omega⟩,?_⟩
          refine .inr (drawE_intro [(false,0,1),(false,0,1),(false,0,1),(false,0,1),(false,0,1),(false,0,1),(false,0,1),(false,0,1),(false,0,1),(true,0,0),(true,1,1)] [A ++ (.cells [tcF1,tcF2,.map i] :: .cells (enc t) :: .cells (enc ty0) :: (B' ++ [.cells (enc t),.cells (enc ty0)])),A ++ (.cells [tcF1,tcF2,.map i] :: .cells (enc t) :: .cells (enc ty0) :: (B' ++ [.cells (enc t),.cells (enc ty0),.cells [.nils,.nils]])),A ++ (.cells [tcF1,tcF2,.map i] :: .cells (enc t) :: .cells (enc ty0) :: (B' ++ [.cells (enc t),.cells (enc ty0),.cells [.slice (encs t.kids),.slice []]]))] 2 rfl (by kernel_rfl) (by kernel_rfl) (by kernel_rfl) (by kernel_rfl) (by kernel_rfl) (by kernel_rfl) ?_)
          simp only [tcF1,tcF2]
          simp only [zW,zX,zD,builtinA,isLeaf,const1,Nat.reduceAdd,Nat.reduceMul,Nat.reduceSub,Nat.reduceLT,Nat.reduceLeDiff,Nat.reduceEqDiff,Nat.reduceBEq,Nat.reduceBNe,reduceIte,reduceCtorEq,Int.reduceToNat,Int.reduceLT,Int.reduceLE,Int.reduceEq,Int.reduceNe,Int.reduceNeg,ustrA,ti3,ti34,ti36,ti155,ti186,ti188,ti190,ti362,ti363,ca228,cf,Tryz.results175,enc_take]
          refine ⟨by rw [enc_length]; omega,by rw [enc_length]; omega,?_⟩
          refine wpG_callv _ _ _ _ _ _ _ _ _ _ _ _ _ _ _ _ _ ?_
          simp only [zW,zX,zD,builtinA,isLeaf,const1,Nat.reduceAdd,Nat.reduceMul,Nat.reduceSub,Nat.reduceLT,Nat.reduceLeDiff,Nat.reduceEqDiff,Nat.reduceBEq,Nat.reduceBNe,reduceIte,reduceCtorEq,Int.reduceToNat,Int.reduceLT,Int.reduceLE,Int.reduceEq,Int.reduceNe,Int.reduceNeg,ustrA,ti3,ti34,ti36,ti155,ti186,ti188,ti190,ti362,ti363,ca228,cf,Tryz.results175,CallVE_eq,List.nil_append,List.append_nil]
          refine ⟨by kernel_rfl,callEN_intro (fun A=>by simp only [zW,zX,zD,builtinA,isLeaf,const1,Nat.reduceAdd,Nat.reduceMul,Nat.reduceSub,Nat.reduceLT,Nat.reduceLeDiff,Nat.reduceEqDiff,Nat.reduceBEq,Nat.reduceBNe,reduceIte,reduceCtorEq,Int.reduceToNat,Int.reduceLT,Int.reduceLE,Int.reduceEq,Int.reduceNe,Int.reduceNeg,ustrA,frzL_enc,Option.map_some]) (fun A=>tc_kids t A) ?_ rfl rfl⟩
          simp only [zW,zX,zD,builtinA,isLeaf,const1,Nat.reduceAdd,Nat.reduceMul,Nat.reduceSub,Nat.reduceLT,Nat.reduceLeDiff,Nat.reduceEqDiff,Nat.reduceBEq,Nat.reduceBNe,reduceIte,reduceCtorEq,Int.reduceToNat,Int.reduceLT,Int.reduceLE,Int.reduceEq,Int.reduceNe,Int.reduceNeg,ustrA,ti3,ti34,ti36,ti155,ti186,ti188,ti190,ti362,ti363,ca228,cf,Tryz.results175,enc_take]
          refine ⟨by rw [enc_length]; omega,by rw [enc_length]; omega,?_⟩
          refine wpG_callv _ _ _ _ _ _ _ _ _ _ _ _ _ _ _ _ _ ?_
          simp only [zW,zX,zD,builtinA,isLeaf,const1,Nat.reduceAdd,Nat.reduceMul,Nat.reduceSub,Nat.reduceLT,Nat.reduceLeDiff,Nat.reduceEqDiff,Nat.reduceBEq,Nat.reduceBNe,reduceIte,reduceCtorEq,Int.reduceToNat,Int.reduceLT,Int.reduceLE,Int.reduceEq,Int.reduceNe,Int.reduceNeg,ustrA,ti3,ti34,ti36,ti155,ti186,ti188,ti190,ti362,ti363,ca228,cf,Tryz.results175,CallVE_eq,List.nil_append,List.append_nil]
          refine ⟨by kernel_rfl,callEN_intro (fun A=>by simp only [zW,zX,zD,builtinA,isLeaf,const1,Nat.reduceAdd,Nat.reduceMul,Nat.reduceSub,Nat.reduceLT,Nat.reduceLeDiff,Nat.reduceEqDiff,Nat.reduceBEq,Nat.reduceBNe,reduceIte,reduceCtorEq,Int.reduceToNat,Int.reduceLT,Int.reduceLE,Int.reduceEq,Int.reduceNe,Int.reduceNeg,ustrA,frzL_enc,Option.map_some]) (fun A=>tc_kids ty0 A) ?_ rfl rfl⟩
          have hk0' : encs ty0.kids = []:=rfl
          simp only [zW,zX,zD,builtinA,isLeaf,const1,Nat.reduceAdd,Nat.reduceMul,Nat.reduceSub,Nat.reduceLT,Nat.reduceLeDiff,Nat.reduceEqDiff,Nat.reduceBEq,Nat.reduceBNe,reduceIte,reduceCtorEq,Int.reduceToNat,Int.reduceLT,Int.reduceLE,Int.reduceEq,Int.reduceNe,Int.reduceNeg,ustrA,ti3,ti34,ti36,ti155,ti186,ti188,ti190,ti362,ti363,ca228,cf,Tryz.results175,enc_take,hk0']
          by_cases hkn : t.kids = []
          · have hen : encs t.kids = []:=by rw [hkn]; rfl
            have d00 : decide (¬ ((0 : Nat) : Int) = ((0 : Nat) : Int)) = false:=rfl
            have hts:=fun A=>tc_same t ty0 A
            generalize hsn : (decide (t.kind = ty0.kind) && decide (t.mod = ty0.mod) && decide (t.name = ty0.name)) = sn at hts
            cases sn with
            | true =>
              have htz : t = ty0:=by
                obtain ⟨k,m,n,ks⟩:=t
                simp only [Bool.and_eq_true] at hsn
                have a1 : k = 0:=of_decide_eq_true hsn.1.1
                have a2 : m = []:=of_decide_eq_true hsn.1.2
                have a3 : n = []:=of_decide_eq_true hsn.2
                have a4 : ks = []:=hkn
                rw [a1,a2,a3,a4]; rfl
              simp only [zW,zX,zD,builtinA,isLeaf,const1,Nat.reduceAdd,Nat.reduceMul,Nat.reduceSub,Nat.reduceLT,Nat.reduceLeDiff,Nat.reduceEqDiff,Nat.reduceBEq,Nat.reduceBNe,reduceIte,reduceCtorEq,Int.reduceToNat,Int.reduceLT,Int.reduceLE,Int.reduceEq,Int.reduceNe,Int.reduceNeg,ustrA,ti3,ti34,ti36,ti155,ti186,ti188,ti190,ti362,ti363,ca228,cf,Tryz.results175,enc_take,hen,d00]
              refine ⟨by rw [enc_length]; omega,by rw [enc_length]; omega,?_⟩
              refine wpO_callv _ _ _ _ _ _ _ _ _ _ _ _ _ _ _ ?_
              simp only [zW,zX,zD,builtinA,isLeaf,const1,Nat.reduceAdd,Nat.reduceMul,Nat.reduceSub,Nat.reduceLT,Nat.reduceLeDiff,Nat.reduceEqDiff,Nat.reduceBEq,Nat.reduceBNe,reduceIte,reduceCtorEq,Int.reduceToNat,Int.reduceLT,Int.reduceLE,Int.reduceEq,Int.reduceNe,Int.reduceNeg,ustrA,ti3,ti34,ti36,ti155,ti186,ti188,ti190,ti362,ti363,ca228,cf,Tryz.results175,List.nil_append,List.append_nil]
              refine ⟨by kernel_rfl,?_⟩
              refine callK_intro (by simp only [zW,zX,zD,builtinA,isLeaf,const1,Nat.reduceAdd,Nat.reduceMul,Nat.reduceSub,Nat.reduceLT,Nat.reduceLeDiff,Nat.reduceEqDiff,Nat.reduceBEq,Nat.reduceBNe,reduceIte,reduceCtorEq,Int.reduceToNat,Int.reduceLT,Int.reduceLE,Int.reduceEq,Int.reduceNe,Int.reduceNeg,ustrA,frzL_enc,Option.map_some,List.cons_append,List.nil_append] <;> rfl) (hts _) ?_ rfl
              rintro r A2 ⟨rfl,rfl⟩
              simp only [zW,zX,zD,builtinA,isLeaf,const1,Nat.reduceAdd,Nat.reduceMul,Nat.reduceSub,Nat.reduceLT,Nat.reduceLeDiff,Nat.reduceEqDiff,Nat.reduceBEq,Nat.reduceBNe,reduceIte,reduceCtorEq,Int.reduceToNat,Int.reduceLT,Int.reduceLE,Int.reduceEq,Int.reduceNe,Int.reduceNeg,ustrA,ti3,ti34,ti36,ti155,ti186,ti188,ti190,ti362,ti363,ca228,cf,Tryz.results175]
              refine callK_intro (by simp only [zW,zX,zD,builtinA,isLeaf,const1,Nat.reduceAdd,Nat.reduceMul,Nat.reduceSub,Nat.reduceLT,Nat.reduceLeDiff,Nat.reduceEqDiff,Nat.reduceBEq,Nat.reduceBNe,reduceIte,reduceCtorEq,Int.reduceToNat,Int.reduceLT,Int.reduceLE,Int.reduceEq,Int.reduceNe,Int.reduceNeg,ustrA,Option.map_some] <;> rfl) (join_none _ _) ?_ rfl
              rintro r A2 ⟨rfl,rfl⟩
              simp only [zW,zX,zD,builtinA,isLeaf,const1,Nat.reduceAdd,Nat.reduceMul,Nat.reduceSub,Nat.reduceLT,Nat.reduceLeDiff,Nat.reduceEqDiff,Nat.reduceBEq,Nat.reduceBNe,reduceIte,reduceCtorEq,Int.reduceToNat,Int.reduceLT,Int.reduceLE,Int.reduceEq,Int.reduceNe,Int.reduceNeg,ustrA,ti3,ti34,ti36,ti155,ti186,ti188,ti190,ti362,ti363,ca228,cf,Tryz.results175,LoopK_eq]
              refine ⟨⟨_,j',1,rfl,rfl,by simp; omega,by rw [getD_app1 _ _ _ _ hj',hB'],by simp; omega,hgB _,by omega,fun _=>htz⟩,by simp only [intOf]; decide⟩
            | false =>
              have htz : ¬ t = ty0:=fun e=>by subst e; simp at hsn
              simp only [zW,zX,zD,builtinA,isLeaf,const1,Nat.reduceAdd,Nat.reduceMul,Nat.reduceSub,Nat.reduceLT,Nat.reduceLeDiff,Nat.reduceEqDiff,Nat.reduceBEq,Nat.reduceBNe,reduceIte,reduceCtorEq,Int.reduceToNat,Int.reduceLT,Int.reduceLE,Int.reduceEq,Int.reduceNe,Int.reduceNeg,ustrA,ti3,ti34,ti36,ti155,ti186,ti188,ti190,ti362,ti363,ca228,cf,Tryz.results175,enc_take,hen,d00]
              refine ⟨by rw [enc_length]; omega,by rw [enc_length]; omega,?_⟩
              refine wpO_callv _ _ _ _ _ _ _ _ _ _ _ _ _ _ _ ?_
              simp only [zW,zX,zD,builtinA,isLeaf,const1,Nat.reduceAdd,Nat.reduceMul,Nat.reduceSub,Nat.reduceLT,Nat.reduceLeDiff,Nat.reduceEqDiff,Nat.reduceBEq,Nat.reduceBNe,reduceIte,reduceCtorEq,Int.reduceToNat,Int.reduceLT,Int.reduceLE,Int.reduceEq,Int.reduceNe,Int.reduceNeg,ustrA,ti3,ti34,ti36,ti155,ti186,ti188,ti190,ti362,ti363,ca228,cf,Tryz.results175,List.nil_append,List.append_nil]
              refine ⟨by kernel_rfl,?_⟩
              refine callK_intro (by simp only [zW,zX,zD,builtinA,isLeaf,const1,Nat.reduceAdd,Nat.reduceMul,Nat.reduceSub,Nat.reduceLT,Nat.reduceLeDiff,Nat.reduceEqDiff,Nat.reduceBEq,Nat.reduceBNe,reduceIte,reduceCtorEq,Int.reduceToNat,Int.reduceLT,Int.reduceLE,Int.reduceEq,Int.reduceNe,Int.reduceNeg,ustrA,frzL_enc,Option.map_some,List.cons_append,List.nil_append] <;> rfl) (hts _) ?_ rfl
              rintro r A2 ⟨rfl,rfl⟩
              simp only [zW,zX,zD,builtinA,isLeaf,const1,Nat.reduceAdd,Nat.reduceMul,Nat.reduceSub,Nat.reduceLT,Nat.reduceLeDiff,Nat.reduceEqDiff,Nat.reduceBEq,Nat.reduceBNe,reduceIte,reduceCtorEq,Int.reduceToNat,Int.reduceLT,Int.reduceLE,Int.reduceEq,Int.reduceNe,Int.reduceNeg,ustrA,ti3,ti34,ti36,ti155,ti186,ti188,ti190,ti362,ti363,ca228,cf,Tryz.results175,decide_eq_false htz]
          · have htz : ¬ t = ty0:=fun e=>by subst e; exact hkn rfl
            have hnk : 0 < t.kids.length:=List.length_pos_iff.2 hkn
            have d00 : decide (((t.kids.length : Nat) : Int) = ((0 : Nat) : Int)) = false:=decide_eq_false (by omega)
            simp only [zW,zX,zD,builtinA,isLeaf,const1,Nat.reduceAdd,Nat.reduceMul,Nat.reduceSub,Nat.reduceLT,Nat.reduceLeDiff,Nat.reduceEqDiff,Nat.reduceBEq,Nat.reduceBNe,reduceIte,reduceCtorEq,Int.reduceToNat,Int.reduceLT,Int.reduceLE,Int.reduceEq,Int.reduceNe,Int.reduceNeg,ustrA,ti3,ti34,ti36,ti155,ti186,ti188,ti190,ti362,ti363,ca228,cf,Tryz.results175,enc_take,d00,encs_length,decide_eq_false htz]
        · have hk0 : k = 1:=by omega
          subst hk0
          have d11 : decide (((1 : Nat) : Int) < ((1 : Nat) : Int)) = false:=rfl
          simp only [tcF1,tcF2]
          simp only [zW,zX,zD,builtinA,isLeaf,const1,Nat.reduceAdd,Nat.reduceMul,Nat.reduceSub,Nat.reduceLT,Nat.reduceLeDiff,Nat.reduceEqDiff,Nat.reduceBEq,Nat.reduceBNe,reduceIte,reduceCtorEq,Int.reduceToNat,Int.reduceLT,Int.reduceLE,Int.reduceEq,Int.reduceNe,Int.reduceNeg,ustrA,ti3,ti34,ti36,ti155,ti186,ti188,ti190,ti362,ti363,ca228,cf,Tryz.results175,hgj',hgb',hb,hgB,d11,LoopK_eq,enc_length,enc_take,frzL_enc]
          refine ⟨⟨B',j',rfl,rfl,hj',.inr ⟨hB',hkt rfl⟩⟩,?_⟩
          have e2 : (A ++ (.cells [tcF1,tcF2,.map i] :: .cells (enc t) :: .cells (enc ty0) :: B')).getD (A.length + (j' + 3)) .dead = .row 2 [] 0:=(getD_app _ _ _ _).trans hB'
          simp only [tcF1,tcF2] at e2
          simp only [rowLen0,e2]
          decide
    · have hz0 : decide ((0 : Int) < ((0 : Nat) : Int)) = false:=rfl
      simp only [tcF1,tcF2]
      simp only [zW,zX,zD,builtinA,isLeaf,const1,Nat.reduceAdd,Nat.reduceMul,Nat.reduceSub,Nat.reduceLT,Nat.reduceLeDiff,Nat.reduceEqDiff,Nat.reduceBEq,Nat.reduceBNe,reduceIte,reduceCtorEq,Int.reduceToNat,Int.reduceLT,Int.reduceLE,Int.reduceEq,Int.reduceNe,Int.reduceNeg,ustrA,ti3,ti34,ti36,ti155,ti186,ti188,ti190,ti362,ti363,ca228,cf,Tryz.results175,hgj,hB,hz0,decide_eq_true ht]
set_option maxRecDepth 100000 in
theorem impl_typeComparison (A : List Box) : ACalls Tryz.prog 115 [] A (fun r A'=>r = .agg [tcF1,tcF2,.map (A.length + 1)] ∧ A' = A ++ [.cells [tcF1,tcF2,.map (A.length + 1)],.mapb []]):=by
  simp only [tcF1,tcF2]
  refine acalls_enterK (cf:=cf 7 [0,1,2]) foll Tryz.func115 Tryz.ntmps115 (by simp [cf]) ?_
  simp only [Tryz.f115,EnterK_some,zW,zX,zD,builtinA,isLeaf,const1,Nat.reduceAdd,Nat.reduceMul,Nat.reduceSub,Nat.reduceLT,Nat.reduceLeDiff,Nat.reduceEqDiff,Nat.reduceBEq,Nat.reduceBNe,reduceIte,reduceCtorEq,Int.reduceToNat,Int.reduceLT,Int.reduceLE,Int.reduceEq,Int.reduceNe,Int.reduceNeg,ustrA,ti188,ti190,cf,Tryz.results115]
set_option maxRecDepth 100000 in
theorem impl_TypeSame0 (t : Ty) (A : List Box) : ACalls Tryz.prog 209 [.agg (enc t),.agg (enc ty0)] A (fun r A'=>r = .bool (decide (t = ty0)) ∧ A' = A):=by
  refine acalls_enter (cf:=cf 9 [0,1,2,3,4]) foll Tryz.func209 Tryz.ntmps209 (by simp [cf]) ?_
  simp only [Tryz.f209,EnterK_some,zW,zX,zD,builtinA,isLeaf,const1,Nat.reduceAdd,Nat.reduceMul,Nat.reduceSub,Nat.reduceLT,Nat.reduceLeDiff,Nat.reduceEqDiff,Nat.reduceBEq,Nat.reduceBNe,reduceIte,reduceCtorEq,Int.reduceToNat,Int.reduceLT,Int.reduceLE,Int.reduceEq,Int.reduceNe,Int.reduceNeg,ustrA,ti36,ca115,ca175,cf,Tryz.results209]
  refine .inr (drawE_intro [(true,0,0),(false,0,1),(false,0,1),(true,1,1),(false,2,2)] [A ++ [.cells (enc t),.cells (enc ty0)],A ++ [.cells (enc t),.cells (enc ty0),.cells [tcF1,tcF2,.map (A.length + 2 + 1)],.mapb []],A ++ [.cells (enc t),.cells (enc ty0),.cells [tcF1,tcF2,.map (A.length + 2 + 1)],.mapb []]] 2 rfl (by kernel_rfl) (by kernel_rfl) (by kernel_rfl) (by kernel_rfl) (by kernel_rfl) (by kernel_rfl) ?_)
  simp only [zW,zX,zD,builtinA,isLeaf,const1,Nat.reduceAdd,Nat.reduceMul,Nat.reduceSub,Nat.reduceLT,Nat.reduceLeDiff,Nat.reduceEqDiff,Nat.reduceBEq,Nat.reduceBNe,reduceIte,reduceCtorEq,Int.reduceToNat,Int.reduceLT,Int.reduceLE,Int.reduceEq,Int.reduceNe,Int.reduceNeg,ustrA,ti36,ca115,ca175,cf,Tryz.results209]
  refine callE_intro (v:=.agg [tcF1,tcF2,.map (A.length + 2 + 1)]) (by simp only [zW,zX,zD,builtinA,isLeaf,const1,Nat.reduceAdd,Nat.reduceMul,Nat.reduceSub,Nat.reduceLT,Nat.reduceLeDiff,Nat.reduceEqDiff,Nat.reduceBEq,Nat.reduceBNe,reduceIte,reduceCtorEq,Int.reduceToNat,Int.reduceLT,Int.reduceLE,Int.reduceEq,Int.reduceNe,Int.reduceNeg,ustrA] <;> rfl) ((impl_typeComparison _).mono fun r A' h=>?_) ?_ rfl rfl
  · obtain ⟨h1,h2⟩:=h
    refine ⟨by rw [h1]; simp,?_⟩
    show A' = A ++ [.cells (enc t),.cells (enc ty0),.cells [tcF1,tcF2,.map (A.length + 2 + 1)],.mapb []]
    rw [h2]; simp
  simp only [zW,zX,zD,builtinA,isLeaf,const1,Nat.reduceAdd,Nat.reduceMul,Nat.reduceSub,Nat.reduceLT,Nat.reduceLeDiff,Nat.reduceEqDiff,Nat.reduceBEq,Nat.reduceBNe,reduceIte,reduceCtorEq,Int.reduceToNat,Int.reduceLT,Int.reduceLE,Int.reduceEq,Int.reduceNe,Int.reduceNeg,ustrA,ti36,ca115,ca175,cf,Tryz.results209,enc_take]
  refine ⟨by rw [enc_length]; omega,by rw [enc_length]; omega,by rw [enc_length]; omega,by rw [enc_length]; omega,?_⟩
  refine callEO_intro (same_zero t _ _) ?_ rfl
  simp only [zW,zX,zD,builtinA,isLeaf,const1,Nat.reduceAdd,Nat.reduceMul,Nat.reduceSub,Nat.reduceLT,Nat.reduceLeDiff,Nat.reduceEqDiff,Nat.reduceBEq,Nat.reduceBNe,reduceIte,reduceCtorEq,Int.reduceToNat,Int.reduceLT,Int.reduceLE,Int.reduceEq,Int.reduceNe,Int.reduceNeg,ustrA,ti36,ca115,ca175,cf,Tryz.results209]
end Go.Proofs.YtijlnkfiadajhaaGreat
