/- StRead, StRead2. -/
import Derived.Test.YtnjdbgiincliaaaGreatK15
import Derived.Test.YtnjdbgiincliaaaGreatAbsW3
/- The program's reading of structures. -/
set_option linter.unusedVariables false
set_option linter.unusedSimpArgs false
namespace Go.Proofs.YtnjdbgiincliaaaGreat
open Go.Abs
inductive VD where
  | ty (n : List UInt8) (v : VT)
  | va (n : List UInt8) (e : VE)
def vdT : VD → TypeId
  | .ty _ _=>430
  | .va _ _=>432
def vdX : VD → AV
  | .ty n v=>.agg [.str n,.iface (vT v) (vX v)]
  | .va n e=>.agg [.str n,.iface (vtE e) (vxE e)]
def okD : VD → Prop
  | .ty _ v=>VOk v
  | .va _ e=>EOk e
def nameD : VD → List UInt8
  | .ty n _=>n
  | .va n _=>n
def isTy : VD → Bool
  | .ty _ _=>true
  | .va _ _=>false
def tyN (ys : List VD) : List (List UInt8):=(ys.filter isTy).map nameD
def vaN (ys : List VD) : List (List UInt8):=(ys.filter fun y=>!isTy y).map nameD
def stepD (ks vs : List (List UInt8)) : VD → Bool
  | .ty n v=>allV (okS ks) v && !decide (n ∈ ks)
  | .va n e=>(decide (mostE e 0 = 0) && allE (okS vs) (okS ks) e) && !decide (n ∈ vs)
def vd0 : VD:=.ty [] .num
def ordD (ys : List VD) : Bool:=(List.range ys.length).all fun i=>stepD (tyN (ys.take i)) (vaN (ys.take i)) (ys.getD i vd0)
def pickD (x y : FuncId) : VD → FuncId
  | .ty _ _=>x
  | .va _ _=>y
structure MetD (name : String) (gs : VD → FuncId) : Prop where
  find : ∀ v,methA Tryz.prog (vdT v) name = some (gs v)
  call : ∀ v,callable Tryz.prog (gs v) = true
theorem metD2 {name : String} {x y : FuncId} (h1 : methA Tryz.prog 430 name = some x) (h2 : methA Tryz.prog 432 name = some y)
    (c1 : callable Tryz.prog x = true) (c2 : callable Tryz.prog y = true) : MetD name (pickD x y) :=
  ⟨fun v=>match v with
    | .ty _ _=>h1
    | .va _ _=>h2,
   fun v=>match v with
    | .ty _ _=>c1
    | .va _ _=>c2⟩
theorem methD_invO {own ow : FuncId → Bool} {name : String} {gs : VD → FuncId} {v : VD} {args : List AV} {A : List Box} {R : AV → List Box → Prop} {N : Nat} {ops : Array Oper} {Q : Env → List Box → Prop} {rest : List Oper} {d : Option Tmp} {e : Env}
    (hm : MetD name gs) (h : ACalls Tryz.prog (gs v) (vdX v :: args) A R)
    (hk : ∀ r A',R r A' → wpO Tryz.prog ow N ops Q rest (putA N d r e) A') : InvK Tryz.prog own name (.iface (vdT v) (vdX v)) args A (ContO Tryz.prog ow N ops Q rest d e):=by
  have h1:=hm.find v
  have h2:=hm.call v
  generalize gs v = g at h h1 h2
  exact ⟨g,h1,h2,callO_intro h hk⟩
theorem out_set {A L : List Box} {a : Nat} (X : Box) (ha : a < A.length) (h : boxClosed A.length X = true) : Outer A ((A ++ L).set a X) ∧ ((A ++ L).set a X).take A.length = A.set a X:=by
  rw [List.set_append_left _ _ ha]
  exact ⟨outer_set A L a X h,by rw [List.take_append_of_le_length (by simp)]; rw [List.take_of_length_le (by simp)]⟩
theorem setSame2 {A : List Box} {a : Nat} {X : Box} (ha : a < A.length) (h : A.getD a .dead = X) : A.set a X = A:=by
  refine List.ext_getElem (by simp) fun k h1 h2=>?_
  rw [List.getElem_set]
  split
  · rename_i e
    subst e
    rw [← h]; simp [List.getD,ha]
  · rfl
set_option maxRecDepth 100000 in
theorem ty_add (a b : Nat) (ks : List (List UInt8)) (n : List UInt8) (v : VT) (hv : VOk v) (A : List Box) (ha : a < A.length) (hA : A.getD a .dead = .mapb (esN ks)) :
    ACalls Tryz.prog 441 [vdX (.ty n v),.agg [.map a,.map b]] A (fun r A'=>∃ ks',r = .bool (allV (okS ks) v && !decide (n ∈ ks)) ∧ A' = A.set a (.mapb (esN ks')) ∧ ((allV (okS ks) v && !decide (n ∈ ks)) = true → ks' = ks ++ [n])):=by
  have hkt:=impl_knowsTypesOf a b ks v hv (A ++ [.cells [.str n,.iface (vT v) (vX v)],.cells [.map a,.map b]]) (by simp; omega) (by rw [Abs.getD_append_left ha]; exact hA)
  have hdf:=impl_define a ks n (A ++ [.cells [.str n,.iface (vT v) (vX v)],.cells [.map a,.map b]]) (by simp; omega) (by rw [Abs.getD_append_left ha]; exact hA)
  rw [vdX]
  cases hq : allV (okS ks) v with
  | false =>
    rw [hq] at hkt
    refine acalls_enter (cf:=cf 16 [0,1,2,3,4]) foll Tryz.func441 Tryz.ntmps441 (by simp [cf]) ?_
    simp only [Tryz.f441,EnterK_some,zW,zX,zD,builtinA,isLeaf,const1,ustrA,simprocAttr,ti9,ti143,ti175,ti430,ti434,ca244,ca447,cf,Tryz.results441]
    refine callO_intro hkt ?_
    rintro r A1 ⟨rfl,rfl⟩
    simp only [zW,zX,zD,builtinA,isLeaf,const1,ustrA,simprocAttr,ti9,ti143,ti175,ti430,ti434,ca244,ca447,cf,Tryz.results441]
    exact ⟨ks,(setSame2 ha hA).symm⟩
  | true =>
    rw [hq] at hkt
    refine acalls_enter (cf:=cf 16 [0,1,2,3,4]) foll Tryz.func441 Tryz.ntmps441 (by simp [cf]) ?_
    simp only [Tryz.f441,EnterK_some,zW,zX,zD,builtinA,isLeaf,const1,ustrA,simprocAttr,ti9,ti143,ti175,ti430,ti434,ca244,ca447,cf,Tryz.results441]
    refine callO_intro hkt ?_
    rintro r A1 ⟨rfl,rfl⟩
    simp only [zW,zX,zD,builtinA,isLeaf,const1,ustrA,simprocAttr,ti9,ti143,ti175,ti430,ti434,ca244,ca447,cf,Tryz.results441]
    refine callO_intro hdf ?_
    rintro r A1 ⟨rfl,ks',rfl,hks⟩
    have ho:=out_set (L:=[.cells [.str n,.iface (vT v) (vX v)],.cells [.map a,.map b]]) (.mapb (esN ks')) ha (esN_closed _ _)
    simp only [zW,zX,zD,builtinA,isLeaf,const1,ustrA,simprocAttr,ti9,ti143,ti175,ti430,ti434,ca244,ca447,cf,Tryz.results441]
    exact ⟨ho.1,ks',ho.2,fun h=>hks (by simpa using h)⟩
set_option maxRecDepth 100000 in
theorem va_add (a b : Nat) (ks vs : List (List UInt8)) (n : List UInt8) (e : VE) (hv : EOk e) (A : List Box) (ha : a < A.length) (hA : A.getD a .dead = .mapb (esN ks)) (hb : b < A.length) (hB : A.getD b .dead = .mapb (esN vs)) :
    ACalls Tryz.prog 449 [vdX (.va n e),.agg [.map a,.map b]] A (fun r A'=>∃ vs',r = .bool ((decide (mostE e 0 = 0) && allE (okS vs) (okS ks) e) && !decide (n ∈ vs)) ∧ A' = A.set b (.mapb (esN vs')) ∧ (((decide (mostE e 0 = 0) && allE (okS vs) (okS ks) e) && !decide (n ∈ vs)) = true → vs' = vs ++ [n])):=by
  have hkt:=impl_allows a b ks vs e hv (A ++ [.cells [.str n,ifE e],.cells [.map a,.map b]]) (by simp; omega) (by rw [Abs.getD_append_left ha]; exact hA) (by simp; omega) (by rw [Abs.getD_append_left hb]; exact hB)
  have hdf:=impl_define b vs n (A ++ [.cells [.str n,ifE e],.cells [.map a,.map b]]) (by simp; omega) (by rw [Abs.getD_append_left hb]; exact hB)
  rw [ifE] at hkt hdf
  rw [vdX]
  cases hq : decide (mostE e 0 = 0) && allE (okS vs) (okS ks) e with
  | false =>
    rw [hq] at hkt
    refine acalls_enter (cf:=cf 16 [0,1,2,3,4]) foll Tryz.func449 Tryz.ntmps449 (by simp [cf]) ?_
    simp only [Tryz.f449,EnterK_some,zW,zX,zD,builtinA,isLeaf,const1,ustrA,simprocAttr,ti9,ti122,ti143,ti432,ti434,ca244,ca455,cf,Tryz.results449]
    refine callO_intro hkt ?_
    rintro r A1 ⟨rfl,rfl⟩
    simp only [zW,zX,zD,builtinA,isLeaf,const1,ustrA,simprocAttr,ti9,ti122,ti143,ti432,ti434,ca244,ca455,cf,Tryz.results449]
    exact ⟨vs,(setSame2 hb hB).symm⟩
  | true =>
    rw [hq] at hkt
    refine acalls_enter (cf:=cf 16 [0,1,2,3,4]) foll Tryz.func449 Tryz.ntmps449 (by simp [cf]) ?_
    simp only [Tryz.f449,EnterK_some,zW,zX,zD,builtinA,isLeaf,const1,ustrA,simprocAttr,ti9,ti122,ti143,ti432,ti434,ca244,ca455,cf,Tryz.results449]
    refine callO_intro hkt ?_
    rintro r A1 ⟨rfl,rfl⟩
    simp only [zW,zX,zD,builtinA,isLeaf,const1,ustrA,simprocAttr,ti9,ti122,ti143,ti432,ti434,ca244,ca455,cf,Tryz.results449]
    refine callO_intro hdf ?_
    rintro r A1 ⟨rfl,vs',rfl,hks⟩
    have ho:=out_set (L:=[.cells [.str n,.iface (vtE e) (vxE e)],.cells [.map a,.map b]]) (.mapb (esN vs')) hb (esN_closed _ _)
    simp only [zW,zX,zD,builtinA,isLeaf,const1,ustrA,simprocAttr,ti9,ti122,ti143,ti432,ti434,ca244,ca455,cf,Tryz.results449]
    exact ⟨ho.1,vs',ho.2,fun h=>hks (by simpa using h)⟩
def ScD (a b : Nat) (ys : List VD) (A : List Box) : Prop:=A.getD a .dead = .mapb (esN (tyN ys)) ∧ A.getD b .dead = .mapb (esN (vaN ys)) ∧ a ≠ b ∧ a < A.length ∧ b < A.length
theorem tyN_ty (ys : List VD) (n : List UInt8) (v : VT) : tyN (ys ++ [.ty n v]) = tyN ys ++ [n] ∧ vaN (ys ++ [.ty n v]) = vaN ys:=by
  simp only [tyN,vaN,List.filter_append,List.map_append]
  exact ⟨rfl,List.append_nil _⟩
theorem tyN_va (ys : List VD) (n : List UInt8) (v : VE) : tyN (ys ++ [.va n v]) = tyN ys ∧ vaN (ys ++ [.va n v]) = vaN ys ++ [n]:=by
  simp only [tyN,vaN,List.filter_append,List.map_append]
  exact ⟨List.append_nil _,rfl⟩
theorem addD (a b : Nat) (ys : List VD) (y : VD) (hy : okD y) (A : List Box) (h : ScD a b ys A) :
    ACalls Tryz.prog (pickD 441 449 y) [vdX y,.agg [.map a,.map b]] A (fun r A'=>r = .bool (stepD (tyN ys) (vaN ys) y) ∧ (∃ c X,A' = A.set c (.mapb X) ∧ (c = a ∨ c = b) ∧ ∃ l,X = esN l) ∧ (stepD (tyN ys) (vaN ys) y = true → ScD a b (ys ++ [y]) A')):=by
  obtain ⟨h1,h2,h3,h4,h5⟩:=h
  cases y with
  | ty n v =>
    refine (ty_add a b (tyN ys) n v hy A h4 h1).mono ?_
    rintro r A' ⟨ks',rfl,rfl,hk⟩
    refine ⟨rfl,⟨a,_,rfl,.inl rfl,_,rfl⟩,fun h=>?_⟩
    rw [hk h]
    exact ⟨by rw [(tyN_ty ys n v).1]; exact getD_set_self h4,by rw [(tyN_ty ys n v).2,getD_set_ne' h3]; exact h2,h3,by simpa using h4,by simpa using h5⟩
  | va n e =>
    refine (va_add a b (tyN ys) (vaN ys) n e hy A h4 h1 h5 h2).mono ?_
    rintro r A' ⟨ks',rfl,rfl,hk⟩
    refine ⟨rfl,⟨b,_,rfl,.inr rfl,_,rfl⟩,fun h=>?_⟩
    rw [hk h]
    exact ⟨by rw [(tyN_va ys n e).1,getD_set_ne' (Ne.symm h3)]; exact h1,by rw [(tyN_va ys n e).2]; exact getD_set_self h5,h3,by simpa using h4,by simpa using h5⟩
def dRow (y : VD) : List AV:=[.iface (vdT y) (vdX y)]
def dRows (ys : List VD) : List (List AV):=ys.map dRow
theorem dRows_length (ys : List VD) : (dRows ys).length = ys.length:=by simp [dRows]
theorem dRows_getD {ys : List VD} {i : Nat} (h : i < ys.length) : (dRows ys).getD i [] = dRow (ys.getD i vd0):=by simp [dRows,List.getD,h]
theorem vd_take {ys : List VD} {i : Nat} (h : i < ys.length) : ys.take (i + 1) = ys.take i ++ [ys.getD i vd0]:=by
  rw [List.take_add_one]; simp [List.getD,h]
theorem vd_mem {ys : List VD} {i : Nat} (h : i < ys.length) : ys.getD i vd0 ∈ ys:=by simp [List.getD,h]
theorem ordD_no {ys : List VD} {i : Nat} (hi : i < ys.length) (h : stepD (tyN (ys.take i)) (vaN (ys.take i)) (ys.getD i vd0) = false) : ordD ys = false:=by
  unfold ordD
  rw [List.all_eq_false]
  exact ⟨i,List.mem_range.mpr hi,by rw [h]; decide⟩
theorem ordD_yes {ys : List VD} (h : ∀ k,k < ys.length → stepD (tyN (ys.take k)) (vaN (ys.take k)) (ys.getD k vd0) = true) : ordD ys = true:=by
  unfold ordD
  rw [List.all_eq_true]
  intro k hk
  exact h k (List.mem_range.mp hk)
set_option maxRecDepth 100000 in
theorem impl_inOrderD (ys : List VD) (hy : ys.length ≤ 1000) (ho : ∀ y ∈ ys,okD y) (A : List Box) : ACalls Tryz.prog 271 [.slice (dRows ys)] A (fun r A'=>r = .bool (ordD ys) ∧ A' = A):=by
  have hcl : ∀ (A' : List Box),A'.take A.length = A → A.length + 2 < A'.length → Outer A A':=fun A' h1 h2=>outer_take h1 (by omega)
  refine acalls_enter (cf:=cf 20 [0,2,3,5,9,10,11,12,18]) foll Tryz.func271 Tryz.ntmps271 (by simp [cf]) ?_
  simp only [Tryz.f271,EnterK_some,zW,zX,zD,builtinA,isLeaf,const1,ustrA,simprocAttr,ti3,ti143,ti199,ti385,ti434,cf,Tryz.results271]
  refine aloop_intro [3,9,10,11] (fun e A'=>∃ i,i ≤ ys.length ∧ (∀ k,k < i → stepD (tyN (ys.take k)) (vaN (ys.take k)) (ys.getD k vd0) = true) ∧ e = [(3,.ptr (A.length + 2) 0),(9,.slice (dRows ys)),(10,.int .i64 ys.length),(11,.int .i64 i)] ∧ (A'.take A.length = A ∧ A.length + 2 < A'.length ∧ A'.getD (A.length + 2) .dead = .cells [.map A.length,.map (A.length + 1)]) ∧ ScD A.length (A.length + 1) (ys.take i) A') (fun e _=>ys.length - (intOf (Abs.look 11 e)).toNat) ?_ ?_
  · simp only [zW,zX,zD,builtinA,isLeaf,const1,ustrA,simprocAttr,ti3,ti143,ti199,ti385,ti434,cf,Tryz.results271,dRows_length]
    refine ⟨0,by omega,fun k hk=>by omega,rfl,?_⟩
    have hsc : ScD A.length (A.length + 1) (ys.take 0) (A ++ [.mapb [],.mapb [],.cells [.map A.length,.map (A.length + 1)]]) :=
      ⟨by rw [Abs.getD_append_right (by omega)]; simp [tyN,esN],by rw [Abs.getD_append_right (by omega)]; simp [vaN,esN],by omega,by simp,by simp⟩
    first
      | exact hsc
      | exact ⟨by omega,hsc⟩
      | exact ⟨by omega,by simp,hsc⟩
      | exact ⟨⟨by omega,by simp⟩,hsc⟩
      | exact ⟨by simp,by simp,by rw [Abs.getD_append_right (by omega)]; simp,hsc⟩
      | exact ⟨⟨by simp,by simp,by rw [Abs.getD_append_right (by omega)]; simp⟩,hsc⟩
  · rintro e A' ⟨i,hi,hq,rfl,⟨ht,hl,hc⟩,hsc⟩
    by_cases hlt : i < ys.length
    · have d1 : decide ((i : Int) < (ys.length : Int)) = true:=by simp; omega
      have hlt' : 0 ≤ (i : Int) ∧ (i : Int) < (ys.length : Int):=by omega
      have hg:=dRows_getD hlt
      have hvt:=vd_take hlt
      have hoy:=ho _ (vd_mem hlt)
      have hi1 : IntKind.i64.wrap ((i : Int) + 1) = ((i + 1 : Nat) : Int):=by rw [wrap64 (by omega) (by omega)]; rfl
      have hno:=@ordD_no ys i hlt
      have hadd:=addD A.length (A.length + 1) (ys.take i) (ys.getD i vd0) hoy A' hsc
      have hnext : stepD (tyN (ys.take i)) (vaN (ys.take i)) (ys.getD i vd0) = true → ∀ k,k < i + 1 → stepD (tyN (ys.take k)) (vaN (ys.take k)) (ys.getD k vd0) = true:=fun h k hk=>by
        rcases Nat.lt_succ_iff_lt_or_eq.mp hk with h' | rfl
        · exact hq k h'
        · exact h
      rw [← hvt] at hadd
      generalize stepD (tyN (ys.take i)) (vaN (ys.take i)) (ys.getD i vd0) = sd at *
      generalize ys.getD i vd0 = y at *
      rw [dRow] at hg
      simp only [zW,zX,zD,builtinA,isLeaf,const1,ustrA,simprocAttr,ti3,ti143,ti199,ti385,ti434,cf,Tryz.results271,dRows_length,d1,hg,hc]
      refine ⟨hlt',?_⟩
      refine wpO_invoke _ _ _ _ _ _ _ _ _ _ _ _ _ _ _ _ ?_
      simp only [zW,zX,zD,builtinA,isLeaf,const1,ustrA,simprocAttr,ti3,ti143,ti199,ti385,ti434,cf,Tryz.results271,hc]
      refine methD_invO (metD2 (by kernel_rfl) (by kernel_rfl) (by kernel_rfl) (by kernel_rfl)) hadd ?_
      rintro r A2 ⟨rfl,⟨c,X,rfl,hcc,l,rfl⟩,hsc2⟩
      have k1 : (A'.set c (.mapb (esN l))).take A.length = A:=by
        rw [List.take_set_of_le (by omega)]; exact ht
      have k2 : A.length + 2 < (A'.set c (.mapb (esN l))).length:=by simpa using hl
      have k3 : (A'.set c (.mapb (esN l))).getD (A.length + 2) .dead = .cells [.map A.length,.map (A.length + 1)]:=by rw [getD_set_ne' (by omega)]; exact hc
      cases sd with
      | true =>
        simp only [zW,zX,zD,builtinA,isLeaf,const1,ustrA,simprocAttr,ti3,ti143,ti199,ti385,ti434,cf,Tryz.results271,hi1,LoopK_eq]
        refine ⟨⟨i + 1,by omega,hnext rfl,rfl,⟨k1,by first | exact hl | exact k2,k3⟩,hsc2 rfl⟩,?_⟩
        simp only [intOf]; omega
      | false =>
        simp only [zW,zX,zD,builtinA,isLeaf,const1,ustrA,simprocAttr,ti3,ti143,ti199,ti385,ti434,cf,Tryz.results271]
        exact ⟨hcl _ k1 k2,by rw [hno rfl],k1⟩
    · have d1 : decide ((i : Int) < (ys.length : Int)) = false:=by simp; omega
      have e : i = ys.length:=by omega
      subst e
      simp only [zW,zX,zD,builtinA,isLeaf,const1,ustrA,simprocAttr,ti3,ti143,ti199,ti385,ti434,cf,Tryz.results271,dRows_length,d1]
      exact ⟨hcl _ ht hl,by rw [ordD_yes hq],ht⟩
noncomputable def defOk (x : ItI) : Bool:=localB x.name && (if x.kind = 1 then validB x.typ && isX0 x.ex else if x.kind = 2 then validX x.ex && decide (x.typ = ty0) else false)
theorem isX0_eq {t : Ex} (h : isX0 t = true) : t = ex0:=by simpa [isX0] using h
def DefOf (x : ItI) : VD → Prop
  | .ty n v=>x.name = n ∧ x.kind = 1 ∧ x.typ = toTy v ∧ x.ex = ex0
  | .va n e=>x.name = n ∧ x.kind = 2 ∧ x.ex = toX e ∧ x.typ = ty0
theorem rX9 (x : ItI) : encX x.ex = [.int .i64 x.xk,.int .i64 x.xi,.str x.xm,.str x.xn,.int .i64 x.xt.kind,.str x.xt.mod,.str x.xt.name,.slice (encs x.xt.kids),.slice (encXs x.xs)]:=by rw [ItI.ex,encX]
set_option maxRecDepth 100000 in
set_option maxHeartbeats 1000000 in
theorem impl_readDef (x : ItI) (hz : szJ x ≤ 1048576) (A : List Box) : ACalls Tryz.prog 270 [.agg (iE x)] A (fun r A'=>((∃ y,localB x.name = true ∧ DefOf x y ∧ okD y ∧ r = .tuple [.iface (vdT y) (vdX y),.bool true]) ∨ (defOk x = false ∧ ∃ c,r = .tuple [c,.bool false])) ∧ A' = A):=by
  have hzx : szX x.ex ≤ 1048576:=by unfold szJ at hz; omega
  have hrt:=fun A=>impl_readType x.typ A
  have hrx:=fun A=>impl_readExpr2 x.ex hzx A
  have hts:=fun A=>impl_TypeSame0 x.typ A
  have hxs:=fun A=>impl_ExprSame0 x.ex A
  have h0 : encX ex0 = [.int .i64 0,.int .i64 0,.str [],.str [],.int .i64 0,.str [],.str [],.slice [],.slice []]:=rfl
  have hy : enc ty0 = [.int .i64 0,.str [],.str [],.slice []]:=by rw [ty0,enc]; rfl
  rw [encQ4] at hrt hts
  rw [rX9] at hrx hxs
  rw [h0] at hxs
  rw [hy] at hts
  rw [iE]
  refine acalls_enter (cf:=cf 54 [0,1,2,3,4,5,6,7,11,13,14,34]) foll Tryz.func270 Tryz.ntmps270 (by simp [cf]) ?_
  simp only [Tryz.f270,EnterK_some,zW,zX,zD,builtinA,isLeaf,const1,ustrA,simprocAttr,ti3,ti9,ti36,ti39,ti304,ti430,ti432,ca66,ca111,ca143,ca250,ca251,cf,Tryz.results270]
  refine callK_intro (by simp only [zW,zX,zD,builtinA,isLeaf,const1,ustrA,simprocAttr,Option.map_some]; rfl) (impl_LocalName x.name _) ?_ rfl; rintro v A' ⟨rfl,rfl⟩
  cases hl : localB x.name with
  | false =>
    simp only [zW,zX,zD,builtinA,isLeaf,const1,ustrA,simprocAttr,ti3,ti9,ti36,ti39,ti304,ti430,ti432,ca66,ca111,ca143,ca250,ca251,cf,Tryz.results270]
    exact .inr ⟨by simp [defOk,hl],_,rfl⟩
  | true =>
    by_cases k1 : x.kind = 1
    · simp only [zW,zX,zD,builtinA,isLeaf,const1,ustrA,simprocAttr,ti3,ti9,ti36,ti39,ti304,ti430,ti432,ca66,ca111,ca143,ca250,ca251,cf,Tryz.results270,decide_eq_true k1]
      refine callK_intro (by simp only [zW,zX,zD,builtinA,isLeaf,const1,ustrA,simprocAttr,Option.map_some] <;> rfl) (hrt _) ?_ rfl
      rintro r A' ⟨⟨v,hv,hvo,rfl⟩ | ⟨hv,rfl⟩,rfl⟩
      · have hva : validB x.typ = true:=by rw [hv]; exact validB_toTy hvo
        simp only [zW,zX,zD,builtinA,isLeaf,const1,ustrA,simprocAttr,ti3,ti9,ti36,ti39,ti304,ti430,ti432,ca66,ca111,ca143,ca250,ca251,cf,Tryz.results270]
        refine .inl ⟨by kernel_rfl,by kernel_rfl,?_⟩
        refine callD_intro (by simp only [zW,zX,zD,builtinA,isLeaf,const1,ustrA,simprocAttr,Option.map_some] <;> rfl) (hxs _) ?_ rfl
        simp only [zW,zX,zD,builtinA,isLeaf,const1,ustrA,simprocAttr,ti3,ti9,ti36,ti39,ti304,ti430,ti432,ca66,ca111,ca143,ca250,ca251,cf,Tryz.results270]
        cases hx0 : isX0 x.ex with
        | true=>exact .inl ⟨.ty x.name v,⟨rfl,k1,hv,isX0_eq hx0⟩,hvo,rfl⟩
        | false=>exact .inr ⟨by simp [defOk,k1,hx0],_,rfl⟩
      · simp only [zW,zX,zD,builtinA,isLeaf,const1,ustrA,simprocAttr,ti3,ti9,ti36,ti39,ti304,ti430,ti432,ca66,ca111,ca143,ca250,ca251,cf,Tryz.results270]
        refine .inl ⟨by kernel_rfl,by kernel_rfl,?_⟩
        exact .inr ⟨by simp [defOk,k1,hv],_,rfl⟩
    · by_cases k2 : x.kind = 2
      · simp only [zW,zX,zD,builtinA,isLeaf,const1,ustrA,simprocAttr,ti3,ti9,ti36,ti39,ti304,ti430,ti432,ca66,ca111,ca143,ca250,ca251,cf,Tryz.results270,decide_eq_false k1,decide_eq_true k2]
        refine callK_intro (by simp only [zW,zX,zD,builtinA,isLeaf,const1,ustrA,simprocAttr,Option.map_some] <;> rfl) (hrx _) ?_ rfl
        rintro r A' ⟨⟨v,hv,hvo,rfl⟩ | ⟨hv,w,hw,rfl⟩,rfl⟩
        · have hva : validX x.ex = true:=by rw [hv]; exact validX_toX hvo
          simp only [zW,zX,zD,builtinA,isLeaf,const1,ustrA,simprocAttr,ti3,ti9,ti36,ti39,ti304,ti430,ti432,ca66,ca111,ca143,ca250,ca251,cf,Tryz.results270,ifE]
          refine .inl ⟨by kernel_rfl,by kernel_rfl,?_⟩
          refine callD_intro (by simp only [zW,zX,zD,builtinA,isLeaf,const1,ustrA,simprocAttr,Option.map_some] <;> rfl) (hts _) ?_ rfl
          simp only [zW,zX,zD,builtinA,isLeaf,const1,ustrA,simprocAttr,ti3,ti9,ti36,ti39,ti304,ti430,ti432,ca66,ca111,ca143,ca250,ca251,cf,Tryz.results270]
          by_cases ht : x.typ = ty0
          · rw [decide_eq_true ht]
            exact .inl ⟨.va x.name v,⟨rfl,k2,hv,ht⟩,hvo,rfl⟩
          · rw [decide_eq_false ht]
            exact .inr ⟨by simp [defOk,k2,ht],_,rfl⟩
        · rcases hw with rfl | ⟨T,y,rfl⟩
          · simp only [zW,zX,zD,builtinA,isLeaf,const1,ustrA,simprocAttr,ti3,ti9,ti36,ti39,ti304,ti430,ti432,ca66,ca111,ca143,ca250,ca251,cf,Tryz.results270]
            refine .inl ⟨by kernel_rfl,by kernel_rfl,?_⟩
            exact .inr ⟨by simp [defOk,k2,hv],_,rfl⟩
          · simp only [zW,zX,zD,builtinA,isLeaf,const1,ustrA,simprocAttr,ti3,ti9,ti36,ti39,ti304,ti430,ti432,ca66,ca111,ca143,ca250,ca251,cf,Tryz.results270]
            refine .inl ⟨by kernel_rfl,by kernel_rfl,?_⟩
            exact .inr ⟨by simp [defOk,k2,hv],_,rfl⟩
      · simp only [zW,zX,zD,builtinA,isLeaf,const1,ustrA,simprocAttr,ti3,ti9,ti36,ti39,ti304,ti430,ti432,ca66,ca111,ca143,ca250,ca251,cf,Tryz.results270,decide_eq_false k1,decide_eq_false k2]
        exact .inr ⟨by simp [defOk,k1,k2],_,rfl⟩
end Go.Proofs.YtnjdbgiincliaaaGreat
/- The program's StructValid. -/
set_option linter.unusedVariables false
set_option linter.unusedSimpArgs false
namespace Go.Proofs.YtnjdbgiincliaaaGreat
open Go.Abs
def ReadsD (s : List ItI) (ys : List VD) : Prop:=ys.length = s.length ∧ ∀ i,i < s.length → localB (s.getD i itm0).name = true ∧ DefOf (s.getD i itm0) (ys.getD i vd0) ∧ okD (ys.getD i vd0)
theorem vdX_leaf (y : VD) : isLeaf (AV.iface (vdT y) (vdX y)) = true:=by
  cases y with
  | ty n v=>cases v <;> rfl
  | va n v=>cases v <;> rfl
theorem dRows_leaf (ys : List VD) : ∀ r ∈ dRows ys,r.length = 1 ∧ ∀ v ∈ r,isLeaf v = true:=by
  intro r hr
  obtain ⟨y,_,rfl⟩:=List.mem_map.mp hr
  refine ⟨rfl,fun v hv=>?_⟩
  simp only [dRow,List.mem_singleton] at hv
  subst hv
  exact vdX_leaf y
theorem dRows_view (ys : List VD) (A : List Box) : ∀ k j,k < (dRows ys).length → j < 1 → View A (Abs.rowAt (dRows ys) k j) (Abs.rowAt (dRows ys) k j):=by
  intro k j hk hj
  have : j = 0:=by omega
  subst this
  refine .leaf _ ?_
  rw [dRows_length] at hk
  simp only [Abs.rowAt,dRows_getD hk,dRow]
  exact vdX_leaf _
theorem dRow_step {ys : List VD} {n : Nat} (y : VD) (h : ys.length < n) : (dRows ys ++ List.replicate (n - ys.length) [AV.nili]).set ys.length (AV.iface (vdT y) (vdX y) :: List.drop 1 ((dRows ys ++ List.replicate (n - ys.length) [AV.nili]).getD ys.length [])) = dRows (ys ++ [y]) ++ List.replicate (n - (ys.length + 1)) [AV.nili]:=by
  obtain ⟨m,rfl⟩ : ∃ m,n = ys.length + (m + 1):=⟨n - ys.length - 1,by omega⟩
  have e1 : ys.length + (m + 1) - ys.length = m + 1:=by omega
  have e2 : ys.length + (m + 1) - (ys.length + 1) = m:=by omega
  rw [e1,e2,List.replicate_succ]
  have hl:=dRows_length ys
  rw [Abs.getD_append_right (by omega),List.set_append_right _ _ (by omega),hl]
  simp [dRows,dRow]
set_option maxRecDepth 100000 in
theorem impl_readEachD (s : List ItI) (hs : s.length ≤ 1048576) (ho : ∀ x ∈ s,szJ x ≤ 1048576) (A : List Box) : ACalls Tryz.prog 269 [.slice (iEs s),.int .i64 10,.func (.func 270) [] []] A (fun r A'=>∃ B,A' = A ++ B ∧
    ((∃ ys j,s.length ≤ 10 ∧ ReadsD s ys ∧ r = .tuple [.own (A.length + j),.bool true] ∧ j < B.length ∧ B.getD j .dead = .row 1 (dRows ys) 0) ∨ ((10 < s.length ∨ ∃ x ∈ s,defOk x = false) ∧ r = .tuple [.nils,.bool false]))):=by
  by_cases h8 : s.length ≤ 10
  · have d1 : decide ((s.length : Int) > 10) = false:=by simp; omega
    have d1' : decide ((10 : Int) < (s.length : Int)) = false:=by simp; omega
    refine acalls_enterK (cf:=cf 41 [0,1,2,6,7,8,9,10,11,12,16,20,21,22,23,34]) foll Tryz.func269 Tryz.ntmps269 (by simp [cf]) ?_
    simp only [Tryz.f269,EnterK_some,zW,zX,zD,builtinA,isLeaf,const1,ustrA,simprocAttr,ti3,ti78,ti198,ti304,ti385,cf,Tryz.results269]
    simp only [zW,zX,zD,builtinA,isLeaf,const1,ustrA,simprocAttr,ti3,ti78,ti198,ti304,ti385,cf,Tryz.results269,iEs_length,d1,d1']
    refine ⟨⟨by omega,by omega,by omega⟩,?_⟩
    refine aloop_intro [2,8,20,21,22] (fun e A'=>∃ i ys B,i ≤ s.length ∧ ys.length = i ∧ (∀ k,k < i → localB (s.getD k itm0).name = true ∧ DefOf (s.getD k itm0) (ys.getD k vd0) ∧ okD (ys.getD k vd0)) ∧ e = [(2,.func (.func 270) [] []),(8,.own A.length),(20,.slice (iEs s)),(21,.int .i64 s.length),(22,.int .i64 i)] ∧ A' = A ++ (.row 1 (dRows ys ++ List.replicate (s.length - i) [.nili]) 0 :: B)) (fun e _=>s.length - (intOf (Abs.look 22 e)).toNat) ?_ ?_
    · simp only [zW,zX,zD,builtinA,isLeaf,const1,ustrA,simprocAttr,ti3,ti78,ti198,ti304,ti385,cf,Tryz.results269]
      exact ⟨0,[],[],by omega,rfl,fun k hk=>by omega,rfl,by simp [dRows]⟩
    · rintro e A' ⟨i,ys,B,hi,hyl,hq,rfl,rfl⟩
      by_cases hlt : i < s.length
      · have d2 : decide ((i : Int) < (s.length : Int)) = true:=by simp; omega
        have hlt' : 0 ≤ (i : Int) ∧ (i : Int) < (s.length : Int):=by omega
        have hg:=iEs_getD hlt
        have hmem:=it_mem hlt
        have hi1 : IntKind.i64.wrap ((i : Int) + 1) = ((i + 1 : Nat) : Int):=by rw [wrap64 (by omega) (by omega)]; rfl
        have hri:=fun A=>impl_readDef (s.getD i itm0) (ho _ hmem) A
        generalize hx : s.getD i itm0 = x at *
        simp only [zW,zX,zD,builtinA,isLeaf,const1,ustrA,simprocAttr,ti3,ti78,ti198,ti304,ti385,cf,Tryz.results269,iEs_length,d2,hg,iE_length,iE_take]
        refine ⟨hlt',?_⟩
        refine wpO_callv _ _ _ _ _ _ _ _ _ _ _ _ _ _ _ ?_
        simp only [zW,zX,zD,builtinA,isLeaf,const1,ustrA,simprocAttr,ti3,ti78,ti198,ti304,ti385,cf,Tryz.results269]
        refine ⟨by kernel_rfl,?_⟩
        refine callK_intro (by simp only [zW,zX,zD,builtinA,isLeaf,const1,ustrA,simprocAttr,frzL_iE,Option.map_some,List.nil_append,List.append_nil]; rfl) (hri _) ?_ rfl
        rintro r A' ⟨h,rfl⟩
        rcases h with ⟨y,hln,hit,hok,rfl⟩ | ⟨hbad,c,rfl⟩
        · have hst:=dRow_step (ys:=ys) (n:=s.length) y (by omega)
          have hlen : (dRows ys).length + (List.replicate (s.length - i) [AV.nili]).length = s.length:=by simp [dRows_length]; omega
          subst hyl
          simp only [zW,zX,zD,builtinA,isLeaf,const1,ustrA,simprocAttr,ti3,ti78,ti198,ti304,ti385,cf,Tryz.results269,hlen,dRows_length,hst,hi1,LoopK_eq]
          refine ⟨⟨by omega,by simp; omega⟩,⟨by omega,by simp; omega,fun v hv=>?_⟩,⟨ys.length + 1,ys ++ [y],_,by omega,by simp,fun k hk=>?_,rfl,rfl⟩,?_⟩
          · simp only [List.mem_singleton] at hv
            subst hv
            rfl
          · rcases Nat.lt_succ_iff_lt_or_eq.mp hk with h | rfl
            · have : (ys ++ [y]).getD k vd0 = ys.getD k vd0:=by simp [List.getD,List.getElem?_append_left h]
              rw [this]
              exact hq k h
            · rw [hx]
              have : (ys ++ [y]).getD ys.length vd0 = y:=by simp [List.getD]
              rw [this]
              exact ⟨hln,hit,hok⟩
          · simp only [intOf]; omega
        · simp only [zW,zX,zD,builtinA,isLeaf,const1,ustrA,simprocAttr,ti3,ti78,ti198,ti304,ti385,cf,Tryz.results269]
          exact ⟨_,rfl,.inr (.inr ⟨x,hmem,hbad⟩)⟩
      · have d2 : decide ((i : Int) < (s.length : Int)) = false:=by simp; omega
        have e : ys.length = s.length:=by omega
        subst hyl
        have hz : List.replicate (s.length - ys.length) [AV.nili] = []:=by rw [e]; simp
        rw [hz,List.append_nil]
        simp only [zW,zX,zD,builtinA,isLeaf,const1,ustrA,simprocAttr,ti3,ti78,ti198,ti304,ti385,cf,Tryz.results269,iEs_length,d2]
        exact ⟨_,rfl,.inl ⟨ys,0,h8,⟨e,fun k hk=>hq k (by omega)⟩,rfl,by simp,rfl⟩⟩
  · have d1 : decide ((s.length : Int) > 10) = true:=by simp; omega
    have d1' : decide ((10 : Int) < (s.length : Int)) = true:=by simp; omega
    refine acalls_enterK (cf:=cf 41 [0,1,2,6,7,8,9,10,11,12,16,20,21,22,23,34]) foll Tryz.func269 Tryz.ntmps269 (by simp [cf]) ?_
    simp only [Tryz.f269,EnterK_some,zW,zX,zD,builtinA,isLeaf,const1,ustrA,simprocAttr,ti3,ti78,ti198,ti304,ti385,cf,Tryz.results269]
    simp only [zW,zX,zD,builtinA,isLeaf,const1,ustrA,simprocAttr,ti3,ti78,ti198,ti304,ti385,cf,Tryz.results269,iEs_length,d1,d1']
    exact ⟨[],by simp,.inr (.inl (by omega))⟩
set_option maxRecDepth 100000 in
theorem impl_readStruct (s : List ItI) (hs : s.length ≤ 1048576) (ho : ∀ x ∈ s,szJ x ≤ 1048576) (A : List Box) : ACalls Tryz.prog 217 [.slice (iEs s)] A (fun r A' =>
    ((∃ ys,s.length ≤ 10 ∧ ReadsD s ys ∧ (∀ y ∈ ys,okD y) ∧ r = .tuple [.slice (dRows ys),.bool (ordD ys)]) ∨ ((10 < s.length ∨ ∃ x ∈ s,defOk x = false) ∧ r = .tuple [.slice [],.bool false])) ∧ A' = A):=by
  have hre:=impl_readEachD s hs ho A
  refine acalls_enter (cf:=cf 17 [0,2,3,4,5]) foll Tryz.func217 Tryz.ntmps217 (by simp [cf]) ?_
  simp only [Tryz.f217,EnterK_some,zW,zX,zD,builtinA,isLeaf,const1,ustrA,simprocAttr,ca269,ca271,cf,Tryz.results217]
  refine callO_intro hre ?_
  rintro r A' ⟨B,rfl,⟨ys,j,h8,hrt,rfl,hj,hg⟩ | ⟨hbad,rfl⟩⟩
  · have hg2 : (A ++ B).getD (A.length + j) .dead = .row 1 (dRows ys) 0:=by rw [Abs.getD_append_right (by omega),Nat.add_sub_cancel_left]; exact hg
    have hok : ∀ y ∈ ys,okD y:=fun y hy=>by
      obtain ⟨k,hk,rfl⟩:=List.getElem_of_mem hy
      have:=(hrt.2 k (by have:=hrt.1; omega)).2.2
      simpa [List.getD,hk] using this
    simp only [zW,zX,zD,builtinA,isLeaf,const1,ustrA,simprocAttr,ca269,ca271,cf,Tryz.results217]
    refine callO_intro (borrowI (.cons (.row (A.length + j) 1 0 (dRows ys) (dRows ys) hg2 rfl (dRows_leaf ys) (dRows_view ys _)) .nil) rfl (fun A=>impl_inOrderD ys (by have:=hrt.1; omega) hok A)) ?_
    rintro r A' ⟨rfl,rfl⟩
    simp only [zW,zX,zD,builtinA,isLeaf,const1,ustrA,simprocAttr,ca269,ca271,cf,Tryz.results217,hg2]
    exact .inl ⟨ys,h8,hrt,hok,rfl⟩
  · simp only [zW,zX,zD,builtinA,isLeaf,const1,ustrA,simprocAttr,ca269,ca271,cf,Tryz.results217]
    exact .inr hbad
theorem defOf_ty {x : ItI} {y : VD} (h : DefOf x y) (n : List UInt8) : isD 1 n x = decide (n ∈ tyN [y]):=by
  rw [Bool.eq_iff_iff]
  cases y with
  | ty m v=>obtain ⟨h1,h2,_⟩:=h; simp [isD,h1,h2,tyN,isTy,nameD,List.filter,eq_comm]
  | va m v=>obtain ⟨h1,h2,_⟩:=h; simp [isD,h1,h2,tyN,isTy,nameD,List.filter]
theorem defOf_va {x : ItI} {y : VD} (h : DefOf x y) (n : List UInt8) : isD 2 n x = decide (n ∈ vaN [y]):=by
  rw [Bool.eq_iff_iff]
  cases y with
  | ty m v=>obtain ⟨h1,h2,_⟩:=h; simp [isD,h1,h2,vaN,isTy,nameD,List.filter]
  | va m v=>obtain ⟨h1,h2,_⟩:=h; simp [isD,h1,h2,vaN,isTy,nameD,List.filter,eq_comm]
theorem tyN_app (a b : List VD) : tyN (a ++ b) = tyN a ++ tyN b:=by simp [tyN]
theorem vaN_app (a b : List VD) : vaN (a ++ b) = vaN a ++ vaN b:=by simp [vaN]
theorem has_ty {s : List ItI} {ys : List VD} (h : ReadsD s ys) (n : List UInt8) : ∀ i,i ≤ s.length → hasD (s.take i) 1 n = decide (n ∈ tyN (ys.take i))
  | 0,_=>by simp [hasD,tyN]
  | i + 1,hi=>by
    have hy : i < ys.length:=by have:=h.1; omega
    rw [hasD_take (by omega),vd_take hy,has_ty h n i (by omega),defOf_ty (h.2 i (by omega)).2.1 n,tyN_app]
    rw [Bool.eq_iff_iff]; simp
theorem has_va {s : List ItI} {ys : List VD} (h : ReadsD s ys) (n : List UInt8) : ∀ i,i ≤ s.length → hasD (s.take i) 2 n = decide (n ∈ vaN (ys.take i))
  | 0,_=>by simp [hasD,vaN]
  | i + 1,hi=>by
    have hy : i < ys.length:=by have:=h.1; omega
    rw [hasD_take (by omega),vd_take hy,has_va h n i (by omega),defOf_va (h.2 i (by omega)).2.1 n,vaN_app]
    rw [Bool.eq_iff_iff]; simp
theorem stepD_eq {s : List ItI} {ys : List VD} (h : ReadsD s ys) {i : Nat} (hi : i < s.length) : defB (s.take i) (s.getD i itm0) = stepD (tyN (ys.take i)) (vaN (ys.take i)) (ys.getD i vd0):=by
  obtain ⟨hl,hit,hok⟩:=h.2 i hi
  have hk : kT (s.take i) = okS (tyN (ys.take i)):=by
    funext p
    rw [kT,okS,has_ty h p.2 i (by omega)]
  have hv : kV (s.take i) = okS (vaN (ys.take i)):=by
    funext p
    rw [kV,okS,has_va h p.2 i (by omega)]
  have ht:=has_ty h (s.getD i itm0).name i (by omega)
  have hva:=has_va h (s.getD i itm0).name i (by omega)
  generalize s.getD i itm0 = x at *
  generalize ys.getD i vd0 = y at *
  symm
  cases y with
  | ty n v =>
    obtain ⟨h1,h2,h3,h4⟩:=hit
    rw [← h1,stepD,← ht,← hk]
    refine defB_iff ⟨fun q=>?_,fun q=>?_⟩
    · simp only [Bool.and_eq_true,Bool.not_eq_true'] at q
      exact ⟨hl,by rw [h2]; exact q.2,.inl ⟨h2,h4,v,h3,hok,q.1⟩⟩
    · obtain ⟨_,q2,q3⟩:=q
      rw [h2] at q2
      rcases q3 with ⟨_,_,v',e,_,q4⟩ | ⟨q4,_⟩
      · rw [toTy_one (h3.symm.trans e),q4,q2]; rfl
      · omega
  | va n e =>
    obtain ⟨h1,h2,h3,h4⟩:=hit
    rw [← h1,stepD,← hva,← hk,← hv]
    refine defB_iff ⟨fun q=>?_,fun q=>?_⟩
    · simp only [Bool.and_eq_true,Bool.not_eq_true',decide_eq_true_eq] at q
      exact ⟨hl,by rw [h2]; exact q.2,.inr ⟨h2,h4,e,h3,hok,q.1.1,q.1.2⟩⟩
    · obtain ⟨_,q2,q3⟩:=q
      rw [h2] at q2
      rcases q3 with ⟨q4,_⟩ | ⟨_,_,e',q,_,q4,q5⟩
      · omega
      · rw [toX_inj (h3.symm.trans q),decide_eq_true q4,q5,q2]; rfl
theorem stsV_reads {s : List ItI} {ys : List VD} (h8 : s.length ≤ 10) (h : ReadsD s ys) : stsV s = ordD ys:=by
  rw [stsV,ordD,h.1,decide_eq_true h8,Bool.true_and,Bool.eq_iff_iff,List.all_eq_true,List.all_eq_true]
  constructor
  · intro k i hi
    rw [← stepD_eq h (List.mem_range.mp hi)]; exact k i hi
  · intro k i hi
    rw [stepD_eq h (List.mem_range.mp hi)]; exact k i hi
theorem stsV_bad {s : List ItI} (h : 10 < s.length ∨ ∃ x ∈ s,defOk x = false) : stsV s = false:=by
  rcases h with h | ⟨x,hx,hb⟩
  · rw [stsV,decide_eq_false (by omega),Bool.false_and]
  · obtain ⟨i,hi,rfl⟩:=List.getElem_of_mem hx
    refine stsV_no hi ?_
    have e : s.getD i itm0 = s[i]:=by simp [List.getD,hi]
    rw [e]
    generalize s[i] = x at hb
    refine defB_no fun ⟨q1,_,q3⟩=>?_
    rw [defOk,q1,Bool.true_and] at hb
    rcases q3 with ⟨k,e0,v,ev,hv,_⟩ | ⟨k,e0,v,ev,hv,_⟩
    · rw [if_pos k,ev,validB_toTy hv,isX0_yes e0] at hb; cases hb
    · rw [if_neg (by omega),if_pos k,ev,validX_toX hv,decide_eq_true e0] at hb; cases hb
end Go.Proofs.YtnjdbgiincliaaaGreat
