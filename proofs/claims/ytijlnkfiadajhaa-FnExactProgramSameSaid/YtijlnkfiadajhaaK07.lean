/- StSpec, StEq. -/
import Derived.Test.YtijlnkfiadajhaaK06
import Derived.Test.YtijlnkfiadajhaaAbsW3
/- Equality of structures: the model's. -/
set_option linter.unusedVariables false
set_option linter.unusedSimpArgs false
namespace Go.Proofs.Ytijlnkfiadajhaa
open Go.Abs
noncomputable def stB (x y : ItI) : Bool:=((decide (x.kind = y.kind) && decide (x.name = y.name)) && decide (x.typ = y.typ)) && decide (x.ex = y.ex)
noncomputable def stsB : List ItI → List ItI → Bool
  | [],[]=>true
  | x :: a,y :: b=>stB x y && stsB a b
  | _,_=>false
theorem it_drop {l : List ItI} {i : Nat} (h : i < l.length) : l.drop i = l.getD i itm0 :: l.drop (i + 1):=by
  have : l.getD i itm0 = l[i]:=by simp [List.getD,h]
  rw [this,List.getElem_cons_drop h]
theorem stsB_len : ∀ {a b : List ItI},a.length ≠ b.length → stsB a b = false
  | [],[],h=>absurd rfl h
  | [],_ :: _,_=>by simp [stsB]
  | _ :: _,[],_=>by simp [stsB]
  | x :: a,y :: b,h=>by simp [stsB,stsB_len (a:=a) (b:=b) (by simpa using h)]
theorem tE4 (t : Ty) : enc t = [.int .i64 t.kind,.str t.mod,.str t.name,.slice (encs t.kids)]:=by cases t; rw [enc]; rfl
theorem xE9 (x : ItI) : encX x.ex = [.int .i64 x.xk,.int .i64 x.xi,.str x.xm,.str x.xn,.int .i64 x.xt.kind,.str x.xt.mod,.str x.xt.name,.slice (encs x.xt.kids),.slice (encXs x.xs)]:=by rw [ItI.ex,encX]
set_option maxRecDepth 100000 in
set_option maxHeartbeats 4000000 in
theorem spec_StructSame (a b : List ItI) (ha : ∀ x ∈ a,x.Ok) (hla : a.length ≤ 1048576) (A : List Box) : ACalls Try.prog 23 [.slice (iEs a),.slice (iEs b)] A (fun r A'=>r = .bool (stsB a b) ∧ A' = A):=by
  by_cases hl : a.length = b.length
  · have hd : decide ((a.length : Int) = (b.length : Int)) = true:=decide_eq_true (by omega)
    refine acalls_enter (cf:=cf 69 [0,1,4,5,10,14,68]) foll Try.func23 Try.ntmps23 (by simp [cf]) ?_
    simp only [Try.f23,EnterK_some,zW,zX,zD,builtinA,isLeaf,const1,ustrA,simprocAttr,ti3,ti9,ti30,ti50,ti53,ti130,ca18,ca48,cf,Try.results23]
    simp only [zW,zX,zD,builtinA,isLeaf,const1,ustrA,simprocAttr,ti3,ti9,ti30,ti50,ti53,ti130,ca18,ca48,cf,Try.results23,iEs_length,hd]
    refine aloop_intro [0,1,5] (fun e A'=>∃ i,i ≤ a.length ∧ stsB (a.drop i) (b.drop i) = stsB a b ∧ e = [(0,.slice (iEs a)),(1,.slice (iEs b)),(5,.int .i64 i)] ∧ A' = A) (fun e _=>a.length - (intOf (Abs.look 5 e)).toNat) ?_ ?_
    · simp only [zW,zX,zD,builtinA,isLeaf,const1,ustrA,simprocAttr,ti3,ti9,ti30,ti50,ti53,ti130,ca18,ca48,cf,Try.results23]
      exact ⟨0,by omega,rfl,rfl⟩
    · rintro e A' ⟨i,hi,hq,rfl,rfl⟩
      simp only [zW,zX,zD,builtinA,isLeaf,const1,ustrA,simprocAttr,ti3,ti9,ti30,ti50,ti53,ti130,ca18,ca48,cf,Try.results23,iEs_length]
      refine condK_intro (fun h2=>?_) (fun h2=>?_)
      · have hi2 : i < a.length:=by simpa using h2
        have hj2 : i < b.length:=by omega
        rw [it_drop hi2,it_drop hj2,stsB] at hq
        have e1:=iEs_getD hi2
        have e2:=iEs_getD hj2
        have hm:=ha _ (it_mem hi2)
        have hi1 : IntKind.i64.wrap ((i : Int) + 1) = ((i + 1 : Nat) : Int):=by rw [wrap64 (by omega) (by omega)]; rfl
        generalize a.getD i itm0 = x at *
        generalize b.getD i itm0 = y at *
        have pa : (0 : Int) ≤ (i : Int) ∧ (i : Int) < (a.length : Int):=⟨by omega,by omega⟩
        have pb : (0 : Int) ≤ (i : Int) ∧ (i : Int) < (b.length : Int):=⟨by omega,by omega⟩
        have hty:=fun A=>spec_TypeSame x.typ hm.2.1 y.typ A
        have hex:=fun A=>spec_ExprSame x.ex hm.2.2 y.ex A
        rw [tE4 x.typ,tE4 y.typ] at hty
        rw [xE9 x,xE9 y] at hex
        simp only [iE] at e1 e2
        simp only [zW,zX,zD,builtinA,isLeaf,const1,ustrA,simprocAttr,ti3,ti9,ti30,ti50,ti53,ti130,ca18,ca48,cf,Try.results23,e1,e2,iEs_length]
        refine .inl ⟨by kernel_rfl,by kernel_rfl,pa,pb,?_⟩
        by_cases k1 : x.kind = y.kind
        · simp only [zW,zX,zD,builtinA,isLeaf,const1,ustrA,simprocAttr,ti3,ti9,ti30,ti50,ti53,ti130,ca18,ca48,cf,Try.results23,decide_eq_true k1,e1,e2,iEs_length]
          refine ⟨pa,pb,?_⟩
          by_cases k2 : x.name = y.name
          · simp only [zW,zX,zD,builtinA,isLeaf,const1,ustrA,simprocAttr,ti3,ti9,ti30,ti50,ti53,ti130,ca18,ca48,cf,Try.results23,decide_eq_true k2,e1,e2,iEs_length]
            refine ⟨pa,pb,?_⟩
            refine callD_intro (by simp only [zW,zX,zD,builtinA,isLeaf,const1,ustrA,simprocAttr,Option.map_some] <;> rfl) (hty _) ?_ rfl
            by_cases k3 : x.typ = y.typ
            · simp only [zW,zX,zD,builtinA,isLeaf,const1,ustrA,simprocAttr,ti3,ti9,ti30,ti50,ti53,ti130,ca18,ca48,cf,Try.results23,decide_eq_true k3,e1,e2,iEs_length]
              refine ⟨pa,pb,?_⟩
              refine callD_intro (by simp only [zW,zX,zD,builtinA,isLeaf,const1,ustrA,simprocAttr,Option.map_some] <;> rfl) (hex _) ?_ rfl
              by_cases k4 : x.ex = y.ex
              · have : stB x y = true:=by simp [stB,k1,k2,k3,k4]
                rw [this,Bool.true_and] at hq
                simp only [zW,zX,zD,builtinA,isLeaf,const1,ustrA,simprocAttr,ti3,ti9,ti30,ti50,ti53,ti130,ca18,ca48,cf,Try.results23,decide_eq_true k4,hi1,LoopK_eq]
                refine ⟨⟨i + 1,by omega,hq,rfl⟩,?_⟩
                simp only [intOf]; omega
              · have : stB x y = false:=by simp [stB,k4]
                rw [this,Bool.false_and] at hq
                simp only [zW,zX,zD,builtinA,isLeaf,const1,ustrA,simprocAttr,ti3,ti9,ti30,ti50,ti53,ti130,ca18,ca48,cf,Try.results23,decide_eq_false k4]
                rw [← hq]
            · have : stB x y = false:=by simp [stB,k3]
              rw [this,Bool.false_and] at hq
              simp only [zW,zX,zD,builtinA,isLeaf,const1,ustrA,simprocAttr,ti3,ti9,ti30,ti50,ti53,ti130,ca18,ca48,cf,Try.results23,decide_eq_false k3]
              rw [← hq]
          · have : stB x y = false:=by simp [stB,k2]
            rw [this,Bool.false_and] at hq
            simp only [zW,zX,zD,builtinA,isLeaf,const1,ustrA,simprocAttr,ti3,ti9,ti30,ti50,ti53,ti130,ca18,ca48,cf,Try.results23,decide_eq_false k2]
            rw [← hq]
        · have : stB x y = false:=by simp [stB,k1]
          rw [this,Bool.false_and] at hq
          simp only [zW,zX,zD,builtinA,isLeaf,const1,ustrA,simprocAttr,ti3,ti9,ti30,ti50,ti53,ti130,ca18,ca48,cf,Try.results23,decide_eq_false k1]
          rw [← hq]
      · have : i = a.length:=by simp at h2; omega
        subst this
        have hb0 : b.drop a.length = []:=by simp; omega
        rw [List.drop_length,hb0,stsB] at hq
        simp only [zW,zX,zD,builtinA,isLeaf,const1,ustrA,simprocAttr,ti3,ti9,ti30,ti50,ti53,ti130,ca18,ca48,cf,Try.results23]
        rw [← hq]
  · have hd : decide ((a.length : Int) = (b.length : Int)) = false:=decide_eq_false (by omega)
    rw [stsB_len hl]
    refine acalls_enter (cf:=cf 69 [0,1,4,5,10,14,68]) foll Try.func23 Try.ntmps23 (by simp [cf]) ?_
    simp only [Try.f23,EnterK_some,zW,zX,zD,builtinA,isLeaf,const1,ustrA,simprocAttr,ti3,ti9,ti30,ti50,ti53,ti130,ca18,ca48,cf,Try.results23]
    simp only [zW,zX,zD,builtinA,isLeaf,const1,ustrA,simprocAttr,ti3,ti9,ti30,ti50,ti53,ti130,ca18,ca48,cf,Try.results23,iEs_length,hd]
end Go.Proofs.Ytijlnkfiadajhaa
/- The program's StructSame answers whether two structures are the same list. -/
set_option linter.unusedVariables false
set_option linter.unusedSimpArgs false
namespace Go.Proofs.Ytijlnkfiadajhaa
open Go.Abs
theorem set_eqK {A : List Box} {i : Nat} {X : Box} (hi : i < A.length) (h : A.getD i .dead = X) : A.set i X = A:=by
  subst h
  apply List.ext_getElem (by simp)
  intro k h1 h2
  by_cases e : i = k
  · subst e; simp [List.getD,h2]
  · rw [List.getElem_set_ne e]
structure ItJ where
  kind : Int
  name : List UInt8
  typ : ITy
  ex : SX.IEx
def ij0 : ItJ:=⟨0,[],it0,SX.it0⟩
def kE (x : ItJ) : List AV:=.int .i64 x.kind :: .str x.name :: (encI x.typ ++ SX.encI x.ex)
def kEs (l : List ItJ) : List (List AV):=l.map kE
def rootX : Ex → ItI → ItI
  | .mk k i m n t ks,x=>{ x with xk:=k,xi:=i,xm:=m,xn:=n,xt:=t,xs:=ks }
def erK (x : ItJ) : ItI:=rootX (SX.erase x.ex) ⟨x.kind,x.name,erase x.typ,0,0,[],[],ty0,[]⟩
theorem rootX_ex (e : Ex) (x : ItI) : (rootX e x).ex = e:=by cases e; rfl
theorem rootX_kind (e : Ex) (x : ItI) : (rootX e x).kind = x.kind:=by cases e; rfl
theorem rootX_name (e : Ex) (x : ItI) : (rootX e x).name = x.name:=by cases e; rfl
theorem rootX_typ (e : Ex) (x : ItI) : (rootX e x).typ = x.typ:=by cases e; rfl
theorem erK_eq (x y : ItJ) : stB (erK x) (erK y) = (((decide (x.kind = y.kind) && decide (x.name = y.name)) && decide (erase x.typ = erase y.typ)) && decide (SX.erase x.ex = SX.erase y.ex)):=by
  simp only [stB,erK,rootX_ex,rootX_kind,rootX_name,rootX_typ]
theorem iE_split (x : ItI) : iE x = .int .i64 x.kind :: .str x.name :: (enc x.typ ++ encX x.ex):=by rw [tE4,xE9]; rfl
theorem kE_length (x : ItJ) : (kE x).length = 15:=by simp [kE,encI_length,SX.encI_length]
theorem kE_take (x : ItJ) : List.take 15 (kE x) = kE x:=List.take_of_length_le (by rw [kE_length]; exact Nat.le_refl _)
theorem kE_drop0 (x : ItJ) : (kE x).getD 0 .bot = .int .i64 x.kind:=rfl
theorem kE_drop1 (x : ItJ) : (List.drop 1 (kE x)).getD 0 .bot = .str x.name:=rfl
theorem kE_len1 (x : ItJ) : (List.drop 1 (kE x)).length = 14:=by rw [List.length_drop,kE_length]
theorem kE_len2 (x : ItJ) : (List.drop 2 (kE x)).length = 13:=by rw [List.length_drop,kE_length]
theorem kE_len6 (x : ItJ) : (List.drop 6 (kE x)).length = 9:=by rw [List.length_drop,kE_length]
theorem kE_drop2 (x : ItJ) : List.take 4 (List.drop 2 (kE x)) = encI x.typ:=by
  show List.take 4 (encI x.typ ++ SX.encI x.ex) = _
  rw [List.take_append_of_le_length (by rw [encI_length]; exact Nat.le_refl _),encI_take]
theorem kE_drop6 (x : ItJ) : List.take 9 (List.drop 6 (kE x)) = SX.encI x.ex:=by
  show List.take 9 (List.drop 4 (encI x.typ ++ SX.encI x.ex)) = _
  rw [List.drop_append_of_le_length (by rw [encI_length]; exact Nat.le_refl _),encI_drop,List.nil_append,SX.encI_take]
theorem frzK_leaf : ∀ (l : List AV) (A : List Box),(∀ v ∈ l,isLeaf v = true) → frzL l A = some (l,A)
  | [],A,_=>rfl
  | v :: l,A,h=>by
    have h1 : frz1 v A = some (v,A):=by
      have:=h v (by simp)
      cases v <;> simp [isLeaf] at this <;> rfl
    simp only [frzL,h1,frzK_leaf l A fun x hx=>h x (by simp [hx])]
theorem kE_leaf (x : ItJ) : ∀ v ∈ kE x,isLeaf v = true:=by
  intro v hv
  simp only [kE,List.mem_cons,List.mem_append] at hv
  rcases hv with rfl | rfl | hv | hv
  · rfl
  · rfl
  · exact encI_leaf _ v hv
  · exact SX.encI_leaf _ v hv
theorem frzL_kE (x : ItJ) (A : List Box) : frzL (kE x) A = some (kE x,A):=frzK_leaf _ _ (kE_leaf x)
theorem kEs_length (l : List ItJ) : (kEs l).length = l.length:=by simp [kEs]
theorem kEs_getD {l : List ItJ} {i : Nat} (h : i < l.length) : (kEs l).getD i [] = kE (l.getD i ij0):=by simp [kEs,List.getD,h]
structure StU (UT : List LL) (U : List SX.LL) : Prop where
  hU : SX.Univ U
  hN : U.length ≤ 100000000
  hL : ∀ x ∈ U,x.ks.length ≤ 1000000000
  hUT : TUs UT
  hTU : ∀ x ∈ U,∀ t ∈ x.ks,TU UT (SX.argX t)
structure StO (UT : List LL) (U : List SX.LL) (x : ItJ) : Prop where
  ty : TU UT x.typ
  ex : ∀ z,SX.below x.ex = some z → z ∈ U
  ar : TU UT (SX.argX x.ex)
structure StB (UT : List LL) (U : List SX.LL) (c bt it ix is : Nat) (mt : List (LL × LL)) (m : List (SX.LL × SX.LL)) (A : List Box) : Prop where
  lt : c < A.length ∧ bt < A.length ∧ it < A.length ∧ ix < A.length
  ne : c ≠ it ∧ c ≠ ix ∧ bt ≠ it ∧ bt ≠ ix ∧ it ≠ ix
  hc : A.getD c .dead = .cells [tF1,tF2,.map it,SX.xF1,SX.xF2 bt,.map ix,.map is]
  hbt : A.getD bt .dead = .cells [tF1,tF2,.map it]
  hit : A.getD it .dead = .mapb (esOf mt)
  hix : A.getD ix .dead = .mapb (SX.esOf m)
  ht : ClS UT mt
  hx : SX.ClS U m
theorem StB.app {UT : List LL} {U : List SX.LL} {c bt it ix is : Nat} {mt : List (LL × LL)} {m : List (SX.LL × SX.LL)} {A : List Box} (h : StB UT U c bt it ix is mt m A) (L : List Box) : StB UT U c bt it ix is mt m (A ++ L):=by
  obtain ⟨⟨l1,l3,l4,l5⟩,ne,h1,h3,h4,h5,h6,h7⟩:=h
  refine ⟨by simp only [List.length_append]; omega,ne,?_,?_,?_,?_,h6,h7⟩
  · rw [Abs.getD_append_left l1]; exact h1
  · rw [Abs.getD_append_left l3]; exact h3
  · rw [Abs.getD_append_left l4]; exact h4
  · rw [Abs.getD_append_left l5]; exact h5
theorem StB.put {UT : List LL} {U : List SX.LL} {c bt it ix is : Nat} {mt mt' : List (LL × LL)} {m m' : List (SX.LL × SX.LL)} {A : List Box} (h : StB UT U c bt it ix is mt m A) (ht : ClS UT mt') (hx : SX.ClS U m') : StB UT U c bt it ix is mt' m' ((A.set ix (.mapb (SX.esOf m'))).set it (.mapb (esOf mt'))):=by
  obtain ⟨⟨l1,l3,l4,l5⟩,⟨n1,n2,n5,n6,n7⟩,h1,h3,h4,h5,h6,h7⟩:=h
  refine ⟨by simp only [List.length_set]; omega,⟨n1,n2,n5,n6,n7⟩,?_,?_,?_,?_,ht,hx⟩
  · rw [Abs.getD_set_ne' (Ne.symm n1),Abs.getD_set_ne' (Ne.symm n2)]; exact h1
  · rw [Abs.getD_set_ne' (Ne.symm n5),Abs.getD_set_ne' (Ne.symm n6)]; exact h3
  · rw [Abs.getD_set_self (by simpa using l4)]
  · rw [Abs.getD_set_ne' n7,Abs.getD_set_self l5]
theorem StB.other {UT : List LL} {U : List SX.LL} {c bt it ix is : Nat} {mt : List (LL × LL)} {m : List (SX.LL × SX.LL)} {A : List Box} (h : StB UT U c bt it ix is mt m A) {X : Box} (h1 : is ≠ c) (h2 : is ≠ bt) (h3 : is ≠ it) (h4 : is ≠ ix) : StB UT U c bt it ix is mt m (A.set is X):=by
  obtain ⟨⟨l1,l3,l4,l5⟩,ne,g1,g3,g4,g5,h6,h7⟩:=h
  refine ⟨by simp only [List.length_set]; omega,ne,?_,?_,?_,?_,h6,h7⟩
  · rw [Abs.getD_set_ne' h1]; exact g1
  · rw [Abs.getD_set_ne' h2]; exact g3
  · rw [Abs.getD_set_ne' h3]; exact g4
  · rw [Abs.getD_set_ne' h4]; exact g5
theorem StB.same {UT : List LL} {U : List SX.LL} {c bt it ix is : Nat} {mt : List (LL × LL)} {m : List (SX.LL × SX.LL)} {A : List Box} (h : StB UT U c bt it ix is mt m A) : (A.set ix (.mapb (SX.esOf m))).set it (.mapb (esOf mt)) = A:=by
  rw [set_eqK h.lt.2.2.2 h.hix,set_eqK h.lt.2.2.1 h.hit]
set_option maxRecDepth 100000 in
set_option maxHeartbeats 4000000 in
theorem same_it {UT : List LL} {U : List SX.LL} (hS : StU UT U) (x y : ItJ) (hx : StO UT U x) (hy : StO UT U y) (c bt it ix is : Nat) (mt : List (LL × LL)) (m : List (SX.LL × SX.LL)) (A : List Box) (hA : StB UT U c bt it ix is mt m A) :
    ACalls Try.prog 90 [.agg (kE x),.agg (kE y),.ptr c 0] A (fun r A'=>∃ mt' m',A' = (A.set ix (.mapb (SX.esOf m'))).set it (.mapb (esOf mt')) ∧ r = .bool (stB (erK x) (erK y)) ∧ (stB (erK x) (erK y) = true → ClS UT mt' ∧ SX.ClS U m')):=by
  have hs0:=hA.same
  have hout : ∀ m' mt' (L : List Box),Outer A ((A.set ix (.mapb (SX.esOf m'))).set it (.mapb (esOf mt')) ++ L):=fun m' mt' L=>SX.outer2 A L ix it _ _ (SX.es_closed _ _) (es_closed _ _)
  have htk : ∀ m' mt' (L : List Box),List.take A.length ((A.set ix (.mapb (SX.esOf m'))).set it (.mapb (esOf mt')) ++ L) = (A.set ix (.mapb (SX.esOf m'))).set it (.mapb (esOf mt')):=fun m' mt' L=>List.take_left' (by simp)
  have hL0 : ∀ L : List Box,Outer A (A ++ L):=fun L=>by have:=hout m mt L; rwa [hs0] at this
  have hno : stB (erK x) (erK y) = false → ∃ mt' m',A = (A.set ix (.mapb (SX.esOf m'))).set it (.mapb (esOf mt')) ∧ AV.bool false = .bool (stB (erK x) (erK y)) ∧ (stB (erK x) (erK y) = true → ClS UT mt' ∧ SX.ClS U m'):=fun h=>⟨mt,m,hs0.symm,by rw [h],fun h2=>by rw [h] at h2; cases h2⟩
  have heq:=erK_eq x y
  refine acalls_enter (cf:=cf 36 [0,1,2,3,4,5]) foll Try.func90 Try.ntmps90 (by simp [cf]) ?_
  simp only [Try.f90,EnterK_some,zW,zX,zD,builtinA,isLeaf,const1,ustrA,simprocAttr,ti3,ti9,ti50,ti53,ti78,ti87,ti91,ti130,ca47,ca49,cf,Try.results90]
  simp only [zW,zX,zD,builtinA,isLeaf,const1,ustrA,simprocAttr,ti3,ti9,ti50,ti53,ti78,ti87,ti91,ti130,ca47,ca49,cf,Try.results90,kE_length,kE_take,kE_drop0,kE_drop1,kE_len1,frzL_kE]
  by_cases k1 : x.kind = y.kind
  · simp only [zW,zX,zD,builtinA,isLeaf,const1,ustrA,simprocAttr,ti3,ti9,ti50,ti53,ti78,ti87,ti91,ti130,ca47,ca49,cf,Try.results90,decide_eq_true k1,kE_length,kE_take,kE_drop0,kE_drop1,kE_len1]
    by_cases k2 : x.name = y.name
    · have hB2:=hA.app [Box.cells (kE x),.cells (kE y)]
      have hsm:=sameI hS.hUT.univ hS.hUT.len hS.hUT.lens x.typ y.typ hx.ty.mem hy.ty.mem it mt hA.ht (A ++ [Box.cells (kE x),.cells (kE y)]) hB2.lt.2.2.1 hB2.hit
      have hAc2:=hB2.hc
      simp only [zW,zX,zD,builtinA,isLeaf,const1,ustrA,simprocAttr,ti3,ti9,ti50,ti53,ti78,ti87,ti91,ti130,ca47,ca49,cf,Try.results90,decide_eq_true k2,hAc2,kE_length,kE_len2,kE_drop2]
      refine callO_intro hsm ?_
      rintro r A' ⟨mt',rfl,rfl,hmt'⟩
      by_cases k3 : erase x.typ = erase y.typ
      · have hmt2:=hmt' k3
        have hB3 : StB UT U c bt it ix is mt' m (((A ++ [Box.cells (kE x),.cells (kE y)])).set it (.mapb (esOf mt'))):=by
          have:=hB2.put hmt2 hA.hx
          rwa [set_eqK hB2.lt.2.2.2 hB2.hix] at this
        have g4 : ((A ++ [Box.cells (kE x),.cells (kE y)]).set it (.mapb (esOf mt'))).getD A.length .dead = .cells (kE x):=by rw [Abs.getD_set_ne' (by have:=hA.lt.2.2.1; omega),Abs.getD_append_right (Nat.le_refl _)]; simp
        have g5 : ((A ++ [Box.cells (kE x),.cells (kE y)]).set it (.mapb (esOf mt'))).getD (A.length + 1) .dead = .cells (kE y):=by rw [Abs.getD_set_ne' (by have:=hA.lt.2.2.1; omega),Abs.getD_append_right (by omega)]; simp
        have hcx3:=hB3.hc
        have hfin : ∀ Y Z,((((A ++ [Box.cells (kE x),.cells (kE y)]).set it (.mapb (esOf mt'))).set ix Y).set it Z) = (A.set ix Y).set it Z ++ [Box.cells (kE x),.cells (kE y)]:=fun Y Z=>by
          rw [List.set_append_left _ _ hA.lt.2.2.1,List.set_append_left _ _ (by simpa using hA.lt.2.2.2),List.set_append_left _ _ (by simpa using hA.lt.2.2.1),List.set_comm _ _ hA.ne.2.2.2.2,List.set_set]
        have hex:=SX.sameI hS.hU hS.hN hS.hL x.ex y.ex hx.ex hy.ex hS.hUT hS.hTU hx.ar hy.ar ix m hA.hx it bt mt' hmt2 _ hB3.lt.2.2.2 hB3.hix hB3.lt.2.2.1 hB3.lt.2.1 (Ne.symm hA.ne.2.2.2.2) (Ne.symm hA.ne.2.2.2.1) (Ne.symm hA.ne.2.2.1) hB3.hit hB3.hbt
        simp only [zW,zX,zD,builtinA,isLeaf,const1,ustrA,simprocAttr,ti3,ti9,ti50,ti53,ti78,ti87,ti91,ti130,ca47,ca49,cf,Try.results90,decide_eq_true k3,hcx3,g4,g5,kE_length,kE_len6,kE_drop6]
        refine callO_intro hex ?_
        rintro r A' ⟨m',mt2,rfl,rfl,hm2⟩
        rw [hfin]
        simp only [zW,zX,zD,builtinA,isLeaf,const1,ustrA,simprocAttr,ti3,ti9,ti50,ti53,ti78,ti87,ti91,ti130,ca47,ca49,cf,Try.results90]
        exact ⟨hout _ _ _,mt2,m',htk _ _ _,by rw [heq,decide_eq_true k1,decide_eq_true k2,decide_eq_true k3]; simp,fun h=>by
          rw [heq,decide_eq_true k1,decide_eq_true k2,decide_eq_true k3] at h
          have:=hm2 (by simpa using h)
          exact ⟨this.2,this.1⟩⟩
      · rw [List.set_append_left _ _ hA.lt.2.2.1]
        simp only [zW,zX,zD,builtinA,isLeaf,const1,ustrA,simprocAttr,ti3,ti9,ti50,ti53,ti78,ti87,ti91,ti130,ca47,ca49,cf,Try.results90,decide_eq_false k3]
        exact ⟨outer_set A _ it _ (es_closed _ _),mt',m,by rw [set_eqK hA.lt.2.2.2 hA.hix],by rw [heq,decide_eq_false k3]; simp,fun h=>by rw [heq,decide_eq_false k3] at h; simp at h⟩
    · simp only [zW,zX,zD,builtinA,isLeaf,const1,ustrA,simprocAttr,ti3,ti9,ti50,ti53,ti78,ti87,ti91,ti130,ca47,ca49,cf,Try.results90,decide_eq_false k2]
      exact hno (by rw [heq,decide_eq_false k2]; simp)
  · simp only [zW,zX,zD,builtinA,isLeaf,const1,ustrA,simprocAttr,ti3,ti9,ti50,ti53,ti78,ti87,ti91,ti130,ca47,ca49,cf,Try.results90,decide_eq_false k1]
    exact hno (by rw [heq,decide_eq_false k1]; simp)
structure KL where
  b : Nat
  off : Nat
  hd : ItJ
  tl : List ItJ
def KL.ks (x : KL) : List ItJ:=x.hd :: x.tl
def KL.idn (x : KL) : Nat × Nat × Nat:=(x.b,x.off,x.ks.length)
def kvK (x : KL) : List AV:=[.ivptr x.b x.off (kE x.hd),.int .i64 (x.ks.length : Nat)]
def oVK : Option KL → AV
  | none=>.slice []
  | some x=>.islice x.b x.off (kEs x.ks)
def oKK : Option KL → List ItJ
  | none=>[]
  | some x=>x.ks
def Chg (S : List Nat) (A A' : List Box) : Prop:=A'.length = A.length ∧ (∀ k,k ∉ S → A'.getD k .dead = A.getD k .dead) ∧ ∀ k ∈ S,∀ n,boxClosed n (A'.getD k .dead) = true
theorem Chg.outer {S : List Nat} {A A' : List Box} (h : Chg S A A') (L : List Box) : Outer A (A' ++ L):=by
  obtain ⟨h1,h2,h3⟩:=h
  refine ⟨by simp; omega,fun k hk=>?_⟩
  rw [Abs.getD_append_left (by omega)]
  by_cases e1 : k ∈ S
  · exact .inr (h3 k e1 _)
  · exact .inl (h2 k e1)
theorem Chg.cut {S : List Nat} {A L A' : List Box} (h : Chg S (A ++ L) A') (hS : ∀ k ∈ S,k < A.length) : Outer A A' ∧ Chg S A (A'.take A.length):=by
  obtain ⟨h1,h2,h3⟩:=h
  have hl : A.length ≤ A'.length:=by rw [h1]; simp
  have hg : ∀ k,k < A.length → (A'.take A.length).getD k .dead = A'.getD k .dead:=fun k hk=>by simp [List.getD,List.getElem?_take,hk]
  refine ⟨⟨hl,fun k hk=>?_⟩,by simp; omega,fun k e1=>?_,fun k hk n=>?_⟩
  · by_cases e1 : k ∈ S
    · exact .inr (h3 k e1 _)
    · left; rw [h2 k e1,Abs.getD_append_left hk]
  · by_cases hk : k < A.length
    · rw [hg k hk,h2 k e1,Abs.getD_append_left hk]
    · have e3 : (A'.take A.length).length = A.length:=by simp; omega
      simp [List.getD,List.getElem?_take,hk]
  · rw [hg _ (hS k hk)]; exact h3 k hk n
theorem Chg.far {S : List Nat} {A L A' : List Box} (h : Chg S (A ++ L) A') (hS : ∀ k ∈ S,A.length ≤ k) : Outer A A' ∧ A'.take A.length = A:=by
  obtain ⟨h1,h2,h3⟩:=h
  have hl : A.length ≤ A'.length:=by rw [h1]; simp
  have hg : ∀ k,k < A.length → A'.getD k .dead = A.getD k .dead:=fun k hk=>by
    rw [h2 k (fun h=>by have:=hS k h; omega),Abs.getD_append_left hk]
  refine ⟨⟨hl,fun k hk=>.inl (hg k hk)⟩,?_⟩
  refine List.ext_getElem (by simp; omega) fun k e1 e2=>?_
  have:=hg k e2
  simp only [List.getD,show k < A'.length by omega,e2,List.getElem?_eq_getElem,Option.getD_some] at this
  rw [List.getElem_take,this]
theorem Chg.two {A : List Box} {it ix is : Nat} {Y Z : Box} {W : Box} (hit : it < A.length) (hix : ix < A.length) (his : is < A.length) (h1 : it ≠ ix) (h2 : is ≠ it) (h3 : is ≠ ix) (hY : ∀ n,boxClosed n Y = true) (hZ : ∀ n,boxClosed n Z = true) (hW : ∀ n,boxClosed n W = true) : Chg [it,ix,is] A (((A.set is W).set ix Y).set it Z):=by
  refine ⟨by simp,fun k hk=>?_,fun k hk n=>?_⟩
  · simp only [List.mem_cons,List.not_mem_nil,or_false,not_or] at hk
    rw [Abs.getD_set_ne' (Ne.symm hk.1),Abs.getD_set_ne' (Ne.symm hk.2.1),Abs.getD_set_ne' (Ne.symm hk.2.2)]
  · simp only [List.mem_cons,List.not_mem_nil,or_false] at hk
    rcases hk with rfl | rfl | rfl
    · rw [Abs.getD_set_self (by simpa using hit)]; exact hZ n
    · rw [Abs.getD_set_ne' h1,Abs.getD_set_self (by simpa using hix)]; exact hY n
    · rw [Abs.getD_set_ne' (Ne.symm h2),Abs.getD_set_ne' (Ne.symm h3),Abs.getD_set_self his]; exact hW n
set_option maxRecDepth 100000 in
theorem sn_new (it : Nat) (A : List Box) (hi : it < A.length) : ACalls Try.prog 57 [.agg [tF1,tF2,.map it]] A (fun r A'=>∃ bt ix is B,r = .agg [tF1,tF2,.map it,SX.xF1,SX.xF2 bt,.map ix,.map is] ∧ A' = A ++ B ∧ (A.length ≤ bt ∧ A.length ≤ ix ∧ A.length ≤ is) ∧ (bt < A'.length ∧ ix < A'.length ∧ is < A'.length) ∧ (bt ≠ ix ∧ is ≠ bt ∧ is ≠ ix) ∧ A'.getD bt .dead = .cells [tF1,tF2,.map it] ∧ A'.getD ix .dead = .mapb [] ∧ A'.getD is .dead = .mapb []):=by
  have hxc:=fun B=>SX.xc_new it B
  simp only [tF1,tF2,SX.xF1,SX.xF2] at hxc ⊢
  refine acalls_enterK (cf:=cf 8 [0,1,2]) foll Try.func57 Try.ntmps57 (by simp [cf]) ?_
  simp only [Try.f57,EnterK_some,zW,zX,zD,builtinA,isLeaf,const1,ustrA,simprocAttr,ti78,ti89,ti91,ca45,cf,Try.results57]
  refine .inr (drawI_intro (.pur 0 (.pur 1 (.or 2 (.or 3 (.pur 4 (.or 5 .done .stop)) .stop) (.or 3 (.or 2 (.pur 4 (.or 5 .done .stop)) .stop) .stop)))) (IBox A.length (.cells [.func (.func 83) [] [],.func (.func 84) [] [],.map it])) (by kernel_rfl) ?_ ?_)
  · exact ⟨by simp,by simp⟩
  refine wpI_pur_intro (v:=?_) _ rfl rfl (by decide) rfl (fun A' hI=>?_) ?_
  rotate_left
  · simp only [zW,zX,zD,builtinA,isLeaf,const1,ustrA,simprocAttr,ti78,ti89,ti91,ca45,cf,Try.results57,hI.1,hI.2]
    first | exact ⟨rfl,rfl⟩ | exact rfl
  refine wpI_pur_intro (v:=?_) _ rfl rfl (by decide) rfl (fun A' hI=>?_) ?_
  rotate_left
  · simp only [zW,zX,zD,builtinA,isLeaf,const1,ustrA,simprocAttr,ti78,ti89,ti91,ca45,cf,Try.results57,hI.1,hI.2]
    first | exact ⟨rfl,rfl⟩ | exact rfl
  simp only [zW,zX,zD,builtinA,isLeaf,const1,ustrA,simprocAttr,ti78,ti89,ti91,ca45,cf,Try.results57,wpI_or_eq,wpI_stop_eq,wpI_done_eq]
  refine ⟨?_,⟨by simp,by simp⟩,?_⟩
  · refine callK_intro (by simp only [zW,zX,zD,builtinA,isLeaf,const1,ustrA,simprocAttr]; rfl) (hxc _) ?_ rfl
    rintro r A' ⟨rfl,rfl⟩
    simp only [zW,zX,zD,builtinA,isLeaf,const1,ustrA,simprocAttr,ti78,ti89,ti91,ca45,cf,Try.results57,wpI_or_eq,wpI_stop_eq,wpI_done_eq]
    refine ⟨⟨by simp,by simp⟩,⟨by simp,by simp⟩,?_⟩
    refine wpI_pur_intro (v:=?_) _ rfl rfl (by decide) rfl (fun A' hI=>?_) ?_
    rotate_left
    · simp only [zW,zX,zD,builtinA,isLeaf,const1,ustrA,simprocAttr,ti78,ti89,ti91,ca45,cf,Try.results57,hI.1,hI.2]
      first | exact ⟨rfl,rfl⟩ | exact rfl
    simp only [zW,zX,zD,builtinA,isLeaf,const1,ustrA,simprocAttr,ti78,ti89,ti91,ca45,cf,Try.results57,wpI_or_eq,wpI_stop_eq,wpI_done_eq]
    exact ⟨⟨by simp,by simp⟩,A.length + 2,A.length + 2 + 2,A.length + 5,_,rfl,rfl,⟨by omega,by omega,by omega⟩,⟨by omega,by omega,by omega⟩,⟨by omega,by omega,by omega⟩,by rw [Abs.getD_append_right (by omega),show A.length + 2 - A.length = 2 by omega]; rfl,by rw [Abs.getD_append_right (by omega),show A.length + 2 + 2 - A.length = 4 by omega]; rfl,by rw [Abs.getD_append_right (by omega),show A.length + 5 - A.length = 5 by omega]; rfl⟩
  · refine callK_intro (by simp only [zW,zX,zD,builtinA,isLeaf,const1,ustrA,simprocAttr]; rfl) (hxc _) ?_ rfl
    rintro r A' ⟨rfl,rfl⟩
    simp only [zW,zX,zD,builtinA,isLeaf,const1,ustrA,simprocAttr,ti78,ti89,ti91,ca45,cf,Try.results57,wpI_or_eq,wpI_stop_eq,wpI_done_eq]
    refine ⟨⟨by simp,by simp⟩,?_⟩
    refine wpI_pur_intro (v:=?_) _ rfl rfl (by decide) rfl (fun A' hI=>?_) ?_
    rotate_left
    · simp only [zW,zX,zD,builtinA,isLeaf,const1,ustrA,simprocAttr,ti78,ti89,ti91,ca45,cf,Try.results57,hI.1,hI.2]
      first | exact ⟨rfl,rfl⟩ | exact rfl
    simp only [zW,zX,zD,builtinA,isLeaf,const1,ustrA,simprocAttr,ti78,ti89,ti91,ca45,cf,Try.results57,wpI_or_eq,wpI_stop_eq,wpI_done_eq]
    exact ⟨⟨by simp,by simp⟩,A.length + 3,A.length + 3 + 2,A.length + 2,_,rfl,rfl,⟨by omega,by omega,by omega⟩,⟨by omega,by omega,by omega⟩,⟨by omega,by omega,by omega⟩,by rw [Abs.getD_append_right (by omega),show A.length + 3 - A.length = 3 by omega]; rfl,by rw [Abs.getD_append_right (by omega),show A.length + 3 + 2 - A.length = 5 by omega]; rfl,by rw [Abs.getD_append_right (by omega),show A.length + 2 - A.length = 2 by omega]; rfl⟩
def KnJ (G : Ghost) (w : World) (x : ItJ) : Prop:=(∀ z ∈ lists x.typ,LLok G w z) ∧ (∀ z ∈ SX.lists x.ex,SX.LLok G w z) ∧ ∀ z ∈ SX.argL x.ex,LLok G w z
theorem rootX_self (x : ItI) : rootX x.ex ⟨x.kind,x.name,x.typ,0,0,[],[],ty0,[]⟩ = x:=rfl
def KLok (G : Ghost) (w : World) (x : KL) : Prop:=∃ Y : Nat → Nat → Value,(∀ t ∈ x.ks,norm t.typ ∧ SX.norm t.ex) ∧ ∀ i,i < x.ks.length → (∀ j,j < 15 → RV G w ((kE (x.ks.getD i ij0)).getD j .bot) (Y i j)) ∧ ∀ j,j < 15 → w.cell? ⟨x.b,x.off + (i * 15 + j),none⟩ = some (Y i j)
theorem kE_lo (x : ItJ) {j : Nat} (h : j < 4) : (kE x).getD (j + 2) .bot = (encI x.typ).getD j .bot:=by
  show (encI x.typ ++ SX.encI x.ex).getD j .bot = _
  exact Abs.getD_append_left (by rw [encI_length]; exact h)
theorem kE_hi (x : ItJ) (j : Nat) : (kE x).getD (j + 6) .bot = (SX.encI x.ex).getD j .bot:=by
  show (encI x.typ ++ SX.encI x.ex).getD (j + 4) .bot = _
  rw [Abs.getD_append_right (by rw [encI_length]; omega),encI_length,Nat.add_sub_cancel]
theorem kE_uniq {G : Ghost} {w : World} (s t : ItJ) (X : Nat → Value) (hs : norm s.typ ∧ SX.norm s.ex) (ht : norm t.typ ∧ SX.norm t.ex) (h : ∀ j,j < 15 → RV G w ((kE s).getD j .bot) (X j)) (h' : ∀ j,j < 15 → RV G w ((kE t).getD j .bot) (X j)) : s = t:=by
  have h0:=h 0 (by decide)
  have h1:=h 1 (by decide)
  have g0:=h' 0 (by decide)
  have g1:=h' 1 (by decide)
  have e:=uniq s.typ t.typ (fun j=>X (j + 2)) hs.1 ht.1 (fun j hj=>by have:=h (j + 2) (by omega); rwa [kE_lo s hj] at this) (fun j hj=>by have:=h' (j + 2) (by omega); rwa [kE_lo t hj] at this)
  have e2:=SX.uniq s.ex t.ex (fun j=>X (j + 6)) hs.2 ht.2 (fun j hj=>by have:=h (j + 6) (by omega); rwa [kE_hi] at this) (fun j hj=>by have:=h' (j + 6) (by omega); rwa [kE_hi] at this)
  obtain ⟨k,n,ty,ex⟩:=s
  obtain ⟨k',n',ty',ex'⟩:=t
  simp only [kE,List.getD_cons_zero,List.getD_cons_succ] at h0 h1 g0 g1 e e2
  generalize X 0 = v0 at h0 g0
  generalize X 1 = v1 at h1 g1
  have e0 : k = k':=by cases h0; cases g0; rfl
  have e1 : n = n':=by cases h1; cases g1; rfl
  subst e0; subst e1; subst e; subst e2
  rfl
theorem KLok.inj {G : Ghost} {w : World} {x y : KL} (hx : KLok G w x) (hy : KLok G w y) (h : x.idn = y.idn) : x.ks = y.ks:=by
  obtain ⟨X,n1,h1⟩:=hx
  obtain ⟨Y,n2,h2⟩:=hy
  simp only [KL.idn,Prod.mk.injEq] at h
  obtain ⟨e1,e2,e3⟩:=h
  apply List.ext_getElem e3
  intro i hi hi'
  obtain ⟨a1,a2⟩:=h1 i hi
  obtain ⟨b1,b2⟩:=h2 i hi'
  have xe : ∀ j,j < 15 → X i j = Y i j:=fun j hj=>by
    have c1:=a2 j hj
    have c2:=b2 j hj
    rw [e1,e2,c2] at c1
    injection c1 with c1
    exact c1.symm
  have g1 : x.ks.getD i ij0 = x.ks[i]:=by simp [List.getD,hi]
  have g2 : y.ks.getD i ij0 = y.ks[i]:=by simp [List.getD,hi']
  rw [g1] at a1
  rw [g2] at b1
  exact kE_uniq _ _ (X i) (n1 _ (List.getElem_mem hi)) (n2 _ (List.getElem_mem hi')) a1 fun j hj=>by rw [xe j hj]; exact b1 j hj
theorem annotK {G : Ghost} {w : World} (a : List ItI) (v : Value) (h : RV G w (.slice (iEs a)) v) : ∃ o : Option KL,(oKK o).map erK = a ∧ RV G w (oVK o) v ∧ (∀ x ∈ oKK o,KnJ G w x) ∧ ∀ x,o = some x → KLok G w x:=by
  rcases Classical.em (a = []) with rfl | hne
  · exact ⟨none,rfl,h,by simp [oKK],by simp⟩
  · generalize hr0 : iEs a = rows0 at h
    cases h with
    | slice0=>exact absurd (List.map_eq_nil_iff.1 hr0) hne
    | sliceE=>exact absurd (List.map_eq_nil_iff.1 hr0) hne
    | slice _ b off cap sz X hr hcap hx hI hz hh =>
      subst hr0
      have hla : 0 < a.length:=List.length_pos_iff.2 hne
      have hsz : sz = 15:=by
        have:=(hr (iE (a.getD 0 itm0)) (List.mem_map.2 ⟨_,it_mem hla,rfl⟩)).1
        rw [← this,iE_length]
      subst hsz
      have hrow : ∀ i,i < a.length → R4 G w (a.getD i itm0).typ (fun j=>X i (2 + j)):=fun i hi j hj=>by
        have:=hh i (2 + j) (by rw [iEs_length]; exact hi) (by omega)
        unfold Abs.rowAt at this
        rw [iEs_getD hi,iE_split] at this
        have e : (AV.int .i64 (a.getD i itm0).kind :: .str (a.getD i itm0).name :: (enc (a.getD i itm0).typ ++ encX (a.getD i itm0).ex)).getD (2 + j) .bot = (enc (a.getD i itm0).typ).getD j .bot:=by
          rw [Nat.add_comm 2 j]
          show (enc (a.getD i itm0).typ ++ encX (a.getD i itm0).ex).getD j .bot = _
          exact Abs.getD_append_left (by rw [enc_length]; exact hj)
        rwa [e] at this
      have hrowX : ∀ i,i < a.length → SX.R4 G w (a.getD i itm0).ex (fun j=>X i (6 + j)):=fun i hi j hj=>by
        have:=hh i (6 + j) (by rw [iEs_length]; exact hi) (by omega)
        unfold Abs.rowAt at this
        rw [iEs_getD hi,iE_split] at this
        have e : (AV.int .i64 (a.getD i itm0).kind :: .str (a.getD i itm0).name :: (enc (a.getD i itm0).typ ++ encX (a.getD i itm0).ex)).getD (6 + j) .bot = (encX (a.getD i itm0).ex).getD j .bot:=by
          rw [show 6 + j = 4 + j + 1 + 1 by omega]
          show (enc (a.getD i itm0).typ ++ encX (a.getD i itm0).ex).getD (4 + j) .bot = _
          rw [Abs.getD_append_right (by rw [enc_length]; omega),enc_length,Nat.add_sub_cancel_left]
        rwa [e] at this
      have hex : ∀ i,∃ p : ITy × SX.IEx,i < a.length → (erase p.1 = (a.getD i itm0).typ ∧ norm p.1 ∧ T4 G w p.1 (fun j=>X i (2 + j)) ∧ ∀ z ∈ lists p.1,LLok G w z) ∧ (SX.erase p.2 = (a.getD i itm0).ex ∧ SX.norm p.2 ∧ SX.T4 G w p.2 (fun j=>X i (6 + j)) ∧ (∀ z ∈ SX.lists p.2,SX.LLok G w z) ∧ ∀ z ∈ SX.argL p.2,LLok G w z):=fun i=>by
        rcases Nat.lt_or_ge i a.length with hi | hi
        · obtain ⟨t,h1,h2,h3,h4⟩:=annot (G:=G) (w:=w) _ _ (hrow i hi)
          obtain ⟨e,g1,g2,g3,g4,g5⟩:=SX.annot (G:=G) (w:=w) _ _ (hrowX i hi)
          exact ⟨(t,e),fun _=>⟨⟨h1,h2,h3,h4⟩,g1,g2,g3,g4,g5⟩⟩
        · exact ⟨(it0,SX.it0),fun h=>by omega⟩
      obtain ⟨T,hT⟩:=Classical.axiomOfChoice hex
      obtain ⟨L,hL⟩ : ∃ L,L = (List.range a.length).map fun i=>(⟨(a.getD i itm0).kind,(a.getD i itm0).name,(T i).1,(T i).2⟩ : ItJ):=⟨_,rfl⟩
      have hlen : L.length = a.length:=by rw [hL]; simp
      have hget : ∀ i,i < a.length → L.getD i ij0 = ⟨(a.getD i itm0).kind,(a.getD i itm0).name,(T i).1,(T i).2⟩:=fun i hi=>by rw [hL]; simp [List.getD,hi]
      have hcell : ∀ i j,i < a.length → j < 15 → RV G w ((kE (L.getD i ij0)).getD j .bot) (X i j):=fun i j hi hj=>by
        have h0:=hh i j (by rw [iEs_length]; exact hi) hj
        unfold Abs.rowAt at h0
        rw [iEs_getD hi,iE_split] at h0
        rw [hget i hi]
        match j,hj with
        | 0,_=>exact h0
        | 1,_=>exact h0
        | j + 2,hj =>
          show RV G w ((encI (T i).1 ++ SX.encI (T i).2).getD j .bot) (X i (j + 2))
          rcases Nat.lt_or_ge j 4 with h4 | h4
          · rw [Abs.getD_append_left (by rw [encI_length]; exact h4)]
            have:=(hT i hi).1.2.2.1 j h4
            rw [show (fun j=>X i (2 + j)) j = X i (j + 2) by rw [Nat.add_comm]] at this
            exact this
          · rw [Abs.getD_append_right (by rw [encI_length]; exact h4),encI_length]
            have:=(hT i hi).2.2.2.1 (j - 4) (by omega)
            have e6 : 6 + (j - 4) = j + 2:=by omega
            have this2 : RV G w ((SX.encI (T i).2).getD (j - 4) .bot) (X i (6 + (j - 4))):=this
            rw [e6] at this2
            exact this2
      have hkn : ∀ x ∈ L,KnJ G w x ∧ norm x.typ ∧ SX.norm x.ex:=fun x hx=>by
        rw [hL] at hx
        obtain ⟨i,hi,rfl⟩:=List.mem_map.1 hx
        have:=hT i (by simpa using hi)
        exact ⟨⟨this.1.2.2.2,this.2.2.2.2.1,this.2.2.2.2.2⟩,this.1.2.1,this.2.2.1⟩
      have hmap : L.map erK = a:=by
        rw [hL]
        apply List.ext_getElem (by simp)
        intro i h1 h2
        have hi : i < a.length:=h2
        have e : a.getD i itm0 = a[i]:=by simp [List.getD,hi]
        simp only [List.getElem_map,List.getElem_range,erK,(hT i hi).1.1,(hT i hi).2.1]
        rw [e]; exact rootX_self _
      clear hL
      match L,hlen with
      | [],hlen=>simp at hlen; omega
      | u :: us,hlen =>
        have hk : (⟨b,off,u,us⟩ : KL).ks = u :: us:=rfl
        have hjl : (kEs (u :: us)).length = (iEs a).length:=by rw [kEs_length,iEs_length,hlen]
        refine ⟨some ⟨b,off,u,us⟩,hmap,?_,fun x hx=>(hkn x hx).1,fun x hx=>?_⟩
        · have := RV.islice (G := G) (w := w) (kEs (u :: us)) b off cap 15 X (fun r hr' => by
              obtain ⟨x,_,rfl⟩:=List.mem_map.1 hr'
              exact ⟨kE_length x,kE_leaf x⟩) (by rw [hjl]; exact hcap) (fun i j hi hj=>hx i j (by rw [← hjl]; exact hi) hj) (fun i j hi hj=>hI i j (by rw [← hjl]; exact hi) hj) (hz (by rw [iEs_length]; exact hla) (by decide)) (by decide) (by rw [hjl,iEs_length]; exact hla) (fun i j hi hj=>by
              unfold Go.Abs.rowAt
              rw [kEs_getD (by rw [kEs_length] at hi; exact hi)]
              exact hcell i j (by rw [kEs_length,hlen] at hi; exact hi) hj)
          rw [hjl] at this
          exact this
        · cases hx
          exact ⟨X,fun t ht=>(hkn t ht).2,fun i hi=>⟨fun j hj=>hcell i j (by rw [hk,hlen] at hi; exact hi) hj,fun j hj=>hx i j (by rw [hk,hlen] at hi; rw [iEs_length]; exact hi) hj⟩⟩
theorem szJ_erK (x : ItJ) : sz (erase x.typ) ≤ szJ (erK x) ∧ szX (SX.erase x.ex) ≤ szJ (erK x) ∧ sz (erase x.typ) + szX (SX.erase x.ex) ≤ szJ (erK x):=by
  simp only [szJ,erK,rootX_ex,rootX_name,rootX_typ]; omega
theorem lensK (a : List ItJ) : (a.flatMap fun x=>lists x.typ ++ SX.argL x.ex).length ≤ szJs (a.map erK) ∧ (a.flatMap fun x=>SX.lists x.ex).length ≤ szJs (a.map erK):=by
  induction a with
  | nil=>simp [szJs]
  | cons x a ih =>
    have h1:=lists_len x.typ
    have h2:=SX.argL_len x.ex
    have h3:=SX.lists_len x.ex
    have h4:=szJ_erK x
    have e : szJs ((x :: a).map erK) = szJ (erK x) + szJs (a.map erK):=by simp [szJs]
    rw [e]
    simp only [List.flatMap_cons,List.length_append] at ih ⊢
    omega
end Go.Proofs.Ytijlnkfiadajhaa
