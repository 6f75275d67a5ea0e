/- TypesVal, TypesMeth, OwnTy, OwnMark. -/
import Derived.Test.YtijlnkfiadajhaaGreatK01
import Derived.Test.YtijlnkfiadajhaaGreatAbsW3
/- Valid types as trees, and what the methods of the program answer on them. -/
set_option linter.unusedVariables false
set_option linter.unusedSimpArgs false
namespace Go.Proofs.YtijlnkfiadajhaaGreat
open Go.Abs
inductive VT where
  | num
  | fn (a b : VT)
  | nm (m n : List UInt8)
def vT : VT → TypeId
  | .num=>455
  | .fn _ _=>490
  | .nm _ _=>282
def vX : VT → AV
  | .num=>.agg []
  | .fn a b=>.agg [.iface (vT a) (vX a),.iface (vT b) (vX b)]
  | .nm m n=>.agg [.str m,.str n]
def toTy : VT → Ty
  | .num=>.mk 1 [] [] []
  | .fn a b=>.mk 2 [] [] [toTy a,toTy b]
  | .nm m n=>.mk 3 m n []
def dep : VT → Nat
  | .num=>1
  | .fn a b=>1 + max (dep a) (dep b)
  | .nm _ _=>1
def cnt : VT → Nat
  | .num=>1
  | .fn a b=>1 + cnt a + cnt b
  | .nm _ _=>1
def nmB (m n : List UInt8) : Bool:=(decide (m = []) || moduleB m) && localB n
def okV : VT → Bool
  | .num=>true
  | .fn a b=>okV a && okV b
  | .nm m n=>nmB m n
theorem dep_pos : ∀ v,1 ≤ dep v
  | .num=>by simp [dep]
  | .fn a b=>by simp [dep]
  | .nm _ _=>by simp [dep]
theorem cnt_dep : ∀ v,cnt v + 1 ≤ 2 ^ dep v
  | .num=>by simp [dep,cnt]
  | .nm _ _=>by simp [dep,cnt]
  | .fn a b=>by
    have ha:=cnt_dep a
    have hb:=cnt_dep b
    have h1 : 2 ^ dep a ≤ 2 ^ max (dep a) (dep b):=Nat.pow_le_pow_right (by decide) (Nat.le_max_left _ _)
    have h2 : 2 ^ dep b ≤ 2 ^ max (dep a) (dep b):=Nat.pow_le_pow_right (by decide) (Nat.le_max_right _ _)
    rw [dep,cnt,Nat.pow_add,Nat.pow_one]
    omega
theorem cnt_lt {v : VT} {k : Nat} (h : dep v ≤ k) : cnt v < 2 ^ k:=by
  have:=cnt_dep v
  have h2 : 2 ^ dep v ≤ 2 ^ k:=Nat.pow_le_pow_right (by decide) h
  omega
theorem count_toTy : ∀ v,count (toTy v) = cnt v
  | .num=>by simp [toTy,count,counts,cnt]
  | .nm _ _=>by simp [toTy,count,counts,cnt]
  | .fn a b=>by simp [toTy,count,counts,cnt,count_toTy a,count_toTy b]; omega
theorem shape_toTy : ∀ (v : VT) (d : Int),okV v = true → (dep v : Int) ≤ d → shape (toTy v) d = true
  | .num,d,_,h=>by
    simp [dep] at h
    simp [toTy,shape,shapes,kidsOf,ownB,h]
  | .nm m n,d,hv,h=>by
    simp [dep] at h
    simp [okV,nmB] at hv
    simp [toTy,shape,shapes,kidsOf,ownB,h,hv.1,hv.2]
  | .fn a b,d,hv,h=>by
    simp [dep] at h
    simp [okV] at hv
    have ha:=shape_toTy a (d - 1) hv.1 (by omega)
    have hb:=shape_toTy b (d - 1) hv.2 (by omega)
    simp [toTy,shape,shapes,kidsOf,ownB,ha,hb]
    have:=dep_pos a
    omega
theorem shape_of (τ : Ty) : ∀ (d : Int),shape τ d = true → ∃ v,τ = toTy v ∧ okV v = true ∧ (dep v : Int) ≤ d:=by
  induction τ using Ty.ind with
  | h k m n ks ih =>
    intro d h
    rw [shape] at h
    simp only [Bool.and_eq_true,decide_eq_true_eq] at h
    obtain ⟨⟨h1,h2,h3⟩,h4⟩:=h
    by_cases k1 : k = 1
    · subst k1
      simp [kidsOf] at h2
      have : ks = []:=by cases ks with
        | nil=>rfl
        | cons=>simp at h2; omega
      subst this
      simp [ownB] at h3
      obtain ⟨rfl,rfl⟩:=h3
      exact ⟨.num,rfl,rfl,h1⟩
    · by_cases k3 : k = 3
      · subst k3
        simp [kidsOf] at h2
        have : ks = []:=by cases ks with
          | nil=>rfl
          | cons=>simp at h2; omega
        subst this
        simp [ownB] at h3
        exact ⟨.nm m n,rfl,by simp [okV,nmB,h3.1,h3.2],h1⟩
      · by_cases k2 : k = 2
        · subst k2
          simp [kidsOf] at h2
          match ks,h2,ih,h4 with
          | [a,b],_,ih,h4 =>
            simp [ownB] at h3
            obtain ⟨rfl,rfl⟩:=h3
            simp only [shapes,Bool.and_eq_true] at h4
            obtain ⟨x,rfl,hx1,hx2⟩:=ih a (by simp) _ h4.1
            obtain ⟨y,rfl,hy1,hy2⟩:=ih b (by simp) _ h4.2.1
            refine ⟨.fn x y,rfl,by simp [okV,hx1,hy1],?_⟩
            simp only [dep]
            omega
          | [],h2,_,_=>simp at h2
          | [_],h2,_,_=>simp at h2
          | _ :: _ :: _ :: _,h2,_,_=>simp at h2; omega
        · simp [kidsOf,k1,k2,k3] at h2; try omega
theorem readO_toTy : ∀ (v : VT) (d : Int),okV v = true → d + dep v ≤ 9 → readO (toTy v) d = (some (vT v,vX v),true)
  | .num,d,_,h=>by
    simp [dep] at h
    have : ¬ 8 < d:=by omega
    simp [toTy,readO,this,vT,vX]
  | .nm m n,d,hv,h=>by
    simp [dep] at h
    simp [okV,nmB] at hv
    have : ¬ 8 < d:=by omega
    simp [toTy,readO,this,vT,vX,hv.1,hv.2]
  | .fn a b,d,hv,h=>by
    simp [dep] at h
    simp [okV] at hv
    have ha:=readO_toTy a (d + 1) hv.1 (by omega)
    have hb:=readO_toTy b (d + 1) hv.2 (by omega)
    have:=dep_pos a
    have : ¬ 8 < d:=by omega
    simp [toTy,readO,readOs,this,vT,vX,ha,hb,pairUp,ifA]
theorem readO_of (τ : Ty) : ∀ (d : Int),(readO τ d).2 = true → ∃ v,τ = toTy v ∧ okV v = true ∧ d + dep v ≤ 9:=by
  induction τ using Ty.ind with
  | h k m n ks ih =>
    intro d h
    rw [readO] at h
    split at h
    · cases h
    · rename_i hd
      split at h
      · rename_i k1
        subst k1
        simp at h
        obtain ⟨⟨rfl,rfl⟩,h⟩:=h
        have : ks = []:=by cases ks with
          | nil=>rfl
          | cons=>simp at h
        subst this
        exact ⟨.num,rfl,rfl,by simp [dep]; omega⟩
      · split at h
        · rename_i k1 k2
          subst k2
          split at h
          · rename_i hm
            subst hm
            split at h
            · rename_i hn
              subst hn
              match ks,ih,h with
              | [a,b],ih,h =>
                simp only [readOs,pairUp] at h
                have ha : (readO a (d + 1)).2 = true:=by
                  generalize readO a (d + 1) = x at h
                  generalize readO b (d + 1) = y at h
                  rcases x with ⟨x,_ | _⟩ <;> simp [pairUp] at h ⊢
                have hb : (readO b (d + 1)).2 = true:=by
                  generalize readO a (d + 1) = x at h
                  generalize readO b (d + 1) = y at h
                  rcases x with ⟨x,_ | _⟩ <;> rcases y with ⟨y,_ | _⟩ <;> simp [pairUp] at h ⊢
                obtain ⟨x,rfl,hx1,hx2⟩:=ih a (by simp) _ ha
                obtain ⟨y,rfl,hy1,hy2⟩:=ih b (by simp) _ hb
                refine ⟨.fn x y,rfl,by simp [okV,hx1,hy1],?_⟩
                simp only [dep]
                omega
              | [],_,h=>simp [readOs,pairUp] at h
              | [_],_,h=>simp [readOs,pairUp] at h
              | _ :: _ :: _ :: _,_,h=>simp [readOs,pairUp] at h
            · cases h
          · cases h
        · split at h
          · rename_i k1 k2 k3
            subst k3
            simp at h
            have : ks = []:=by cases ks with
              | nil=>rfl
              | cons=>simp at h
            subst this
            exact ⟨.nm m n,rfl,by simp [okV,nmB,h.1.1,h.1.2],by simp [dep]; omega⟩
          · cases h
structure VOk (v : VT) : Prop where
  ok : okV v = true
  dep : dep v ≤ 8
  cnt : cnt v ≤ 63
theorem validB_toTy {v : VT} (h : VOk v) : validB (toTy v) = true:=by
  have:=h.dep
  rw [validB,shape_toTy v 8 h.ok (by omega),count_toTy,decide_eq_true h.cnt]
  rfl
theorem validB_of {τ : Ty} (h : validB τ = true) : ∃ v,τ = toTy v ∧ VOk v:=by
  simp only [validB,Bool.and_eq_true,decide_eq_true_eq] at h
  obtain ⟨v,rfl,h1,h2⟩:=shape_of τ 8 h.1
  rw [count_toTy] at h
  exact ⟨v,rfl,h1,by omega,h.2⟩
theorem valid_cases (τ : Ty) : (∃ v,τ = toTy v ∧ VOk v) ∨ validB τ = false:=by
  cases h : validB τ with
  | true=>exact .inl (validB_of h)
  | false=>exact .inr rfl
theorem frzC_vX (v : VT) (A : List Box) : frzC (vX v) A = some (vX v,A):=by cases v <;> rfl
def pickF (x y z : FuncId) : VT → FuncId
  | .num=>x
  | .fn _ _=>y
  | .nm _ _=>z
structure Met (name : String) (gs : VT → FuncId) : Prop where
  find : ∀ v,methA Tryz.prog (vT v) name = some (gs v)
  call : ∀ v,callable Tryz.prog (gs v) = true
theorem met3 {name : String} {x y z : FuncId} (h1 : methA Tryz.prog 455 name = some x) (h2 : methA Tryz.prog 490 name = some y) (h3 : methA Tryz.prog 282 name = some z)
    (c1 : callable Tryz.prog x = true) (c2 : callable Tryz.prog y = true) (c3 : callable Tryz.prog z = true) : Met name (pickF x y z) :=
  ⟨fun v=>match v with
    | .num=>h1
    | .fn _ _=>h2
    | .nm _ _=>h3,
   fun v=>match v with
    | .num=>c1
    | .fn _ _=>c2
    | .nm _ _=>c3⟩
theorem meth_invK {own ow : FuncId → Bool} {name : String} {gs : VT → FuncId} {v : VT} {args args' : List AV} {A A1 : List Box} {R : AV → List Box → Prop} {N : Nat} {ops : Array Oper} {Q : Env → List Box → Prop} {rest : List Oper} {d : Option Tmp} {e : Env}
    (hm : Met name gs) (h : ACalls Tryz.prog (gs v) (vX v :: args') A1 R) (hf : frzs args A = some (args',A1)) (ho : ∀ g,own g = false)
    (hk : ∀ r A',R r A' → wpO Tryz.prog ow N ops Q rest (putA N d r e) A') : InvK Tryz.prog own name (.iface (vT v) (vX v)) args A (ContO Tryz.prog ow N ops Q rest d e):=by
  have h1:=hm.find v
  have h2:=hm.call v
  generalize gs v = g at h h1 h2
  refine ⟨g,h1,h2,callK_intro (args':=vX v :: args') (A1:=A1) ?_ h hk (ho g)⟩
  simp only [frzs,frzC_vX,hf]
theorem meth_invD {own : FuncId → Bool} {name : String} {gs : VT → FuncId} {v : VT} {args args' : List AV} {A : List Box} {x : AV} {N : Nat} {ops : Array Oper} {Q : Env → Prop} {rest : List Oper} {d : Option Tmp} {e : Env}
    (hm : Met name gs) (h : ACalls Tryz.prog (gs v) (vX v :: args') A (fun v' A'=>v' = x ∧ A' = A)) (hf : frzs args A = some (args',A)) (ho : ∀ g,own g = false)
    (hk : wpD Tryz.prog own N ops A Q rest (putA N d x e)) : InvD Tryz.prog own name (.iface (vT v) (vX v)) args A N ops Q rest d e:=by
  have h1:=hm.find v
  have h2:=hm.call v
  generalize gs v = g at h h1 h2
  refine ⟨g,h1,h2,callD_intro (args':=vX v :: args') ?_ h hk (ho g)⟩
  simp only [frzs,frzC_vX,hf]
end Go.Proofs.YtijlnkfiadajhaaGreat
/- The methods that measure a valid type, and the functions that read one. -/
set_option linter.unusedVariables false
set_option linter.unusedSimpArgs false
namespace Go.Proofs.YtijlnkfiadajhaaGreat
open Go.Abs
def DepM (v : VT) : Prop:=∀ A,ACalls Tryz.prog ((pickF 457 482 389) v) [vX v] A (fun r A'=>r = .int .i64 (dep v) ∧ A' = A)
def CntM (v : VT) : Prop:=∀ A,ACalls Tryz.prog ((pickF 456 481 388) v) [vX v] A (fun r A'=>r = .int .i64 (cnt v) ∧ A' = A)
set_option maxRecDepth 100000 in
theorem num_depth : DepM .num:=fun A=>by
  show ACalls Tryz.prog 457 _ _ _
  rw [vX]
  refine acalls_enter (cf:=cf 3 [0,2]) foll Tryz.func457 Tryz.ntmps457 (by simp [cf]) ?_
  simp only [Tryz.f457,EnterK_some,zW,zX,zD,builtinA,isLeaf,const1,ustrA,simprocAttr,ti455,cf,Tryz.results457]
  simp [dep]
set_option maxRecDepth 100000 in
theorem name_depth (m n : List UInt8) : DepM (.nm m n):=fun A=>by
  show ACalls Tryz.prog 389 _ _ _
  rw [vX]
  refine acalls_enter (cf:=cf 3 [0,2]) foll Tryz.func389 Tryz.ntmps389 (by simp [cf]) ?_
  simp only [Tryz.f389,EnterK_some,zW,zX,zD,builtinA,isLeaf,const1,ustrA,simprocAttr,ti282,cf,Tryz.results389]
  simp [dep]
set_option maxRecDepth 100000 in
theorem num_count : CntM .num:=fun A=>by
  show ACalls Tryz.prog 456 _ _ _
  rw [vX]
  refine acalls_enter (cf:=cf 3 [0,2]) foll Tryz.func456 Tryz.ntmps456 (by simp [cf]) ?_
  simp only [Tryz.f456,EnterK_some,zW,zX,zD,builtinA,isLeaf,const1,ustrA,simprocAttr,ti455,cf,Tryz.results456]
  simp [cnt]
set_option maxRecDepth 100000 in
theorem name_count (m n : List UInt8) : CntM (.nm m n):=fun A=>by
  show ACalls Tryz.prog 388 _ _ _
  rw [vX]
  refine acalls_enter (cf:=cf 3 [0,2]) foll Tryz.func388 Tryz.ntmps388 (by simp [cf]) ?_
  simp only [Tryz.f388,EnterK_some,zW,zX,zD,builtinA,isLeaf,const1,ustrA,simprocAttr,ti282,cf,Tryz.results388]
  simp [cnt]
set_option maxRecDepth 100000 in
theorem fun_depth (a b : VT) (ha : DepM a) (hb : DepM b) (hd : dep a < 1000 ∧ dep b < 1000) : DepM (.fn a b):=fun A=>by
  show ACalls Tryz.prog 482 _ _ _
  rw [vX]
  refine acalls_enter (cf:=cf 11 [0,1,2]) foll Tryz.func482 Tryz.ntmps482 (by simp [cf]) ?_
  simp only [Tryz.f482,EnterK_some,zW,zX,zD,builtinA,isLeaf,const1,ustrA,simprocAttr,ti3,ti262,ti490,cf,Tryz.results482]
  refine .inl ⟨by kernel_rfl,by kernel_rfl,?_⟩
  refine wpD_invoke _ _ _ _ _ _ _ _ _ _ _ _ _ _ _ _ ?_
  simp only [zW,zX,zD,builtinA,isLeaf,const1,ustrA,simprocAttr,ti3,ti262,ti490,cf,Tryz.results482]
  refine meth_invD (met3 (by kernel_rfl) (by kernel_rfl) (by kernel_rfl) (by kernel_rfl) (by kernel_rfl) (by kernel_rfl)) (ha _) rfl (fun _=>rfl) ?_
  simp only [zW,zX,zD,builtinA,isLeaf,const1,ustrA,simprocAttr,ti3,ti262,ti490,cf,Tryz.results482]
  refine wpD_invoke _ _ _ _ _ _ _ _ _ _ _ _ _ _ _ _ ?_
  simp only [zW,zX,zD,builtinA,isLeaf,const1,ustrA,simprocAttr,ti3,ti262,ti490,cf,Tryz.results482]
  refine meth_invD (met3 (by kernel_rfl) (by kernel_rfl) (by kernel_rfl) (by kernel_rfl) (by kernel_rfl) (by kernel_rfl)) (hb _) rfl (fun _=>rfl) ?_
  simp only [zW,zX,zD,builtinA,isLeaf,const1,ustrA,simprocAttr,ti3,ti262,ti490,cf,Tryz.results482]
  rw [wrap64 (by split <;> omega) (by split <;> omega),dep]
  congr 1
  split <;> omega
set_option maxRecDepth 100000 in
theorem fun_count (a b : VT) (ha : CntM a) (hb : CntM b) (hd : cnt a < 100000 ∧ cnt b < 100000) : CntM (.fn a b):=fun A=>by
  show ACalls Tryz.prog 481 _ _ _
  rw [vX]
  refine acalls_enter (cf:=cf 11 [0,1,2]) foll Tryz.func481 Tryz.ntmps481 (by simp [cf]) ?_
  simp only [Tryz.f481,EnterK_some,zW,zX,zD,builtinA,isLeaf,const1,ustrA,simprocAttr,ti3,ti262,ti490,cf,Tryz.results481]
  refine .inl ⟨by kernel_rfl,by kernel_rfl,?_⟩
  refine wpD_invoke _ _ _ _ _ _ _ _ _ _ _ _ _ _ _ _ ?_
  simp only [zW,zX,zD,builtinA,isLeaf,const1,ustrA,simprocAttr,ti3,ti262,ti490,cf,Tryz.results481]
  refine meth_invD (met3 (by kernel_rfl) (by kernel_rfl) (by kernel_rfl) (by kernel_rfl) (by kernel_rfl) (by kernel_rfl)) (ha _) rfl (fun _=>rfl) ?_
  simp only [zW,zX,zD,builtinA,isLeaf,const1,ustrA,simprocAttr,ti3,ti262,ti490,cf,Tryz.results481]
  refine wpD_invoke _ _ _ _ _ _ _ _ _ _ _ _ _ _ _ _ ?_
  simp only [zW,zX,zD,builtinA,isLeaf,const1,ustrA,simprocAttr,ti3,ti262,ti490,cf,Tryz.results481]
  refine meth_invD (met3 (by kernel_rfl) (by kernel_rfl) (by kernel_rfl) (by kernel_rfl) (by kernel_rfl) (by kernel_rfl)) (hb _) rfl (fun _=>rfl) ?_
  simp only [zW,zX,zD,builtinA,isLeaf,const1,ustrA,simprocAttr,ti3,ti262,ti490,cf,Tryz.results481]
  have h1 : IntKind.i64.wrap (1 + (cnt a : Int)) = 1 + cnt a:=wrap64 (by omega) (by omega)
  rw [h1,wrap64 (by omega) (by omega),cnt]
  congr 1
theorem depM : ∀ v,dep v ≤ 9 → DepM v
  | .num,_=>num_depth
  | .nm m n,_=>name_depth m n
  | .fn a b,h=>by
    rw [dep] at h
    exact fun_depth a b (depM a (by omega)) (depM b (by omega)) (by omega)
theorem cntM : ∀ v,cnt v < 100000 → CntM v
  | .num,_=>num_count
  | .nm m n,_=>name_count m n
  | .fn a b,h=>by
    rw [cnt] at h
    exact fun_count a b (cntM a (by omega)) (cntM b (by omega)) (by omega)
set_option maxRecDepth 100000 in
theorem impl_withinLimits (v : VT) (hd : dep v ≤ 9) (A : List Box) : ACalls Tryz.prog 251 [.iface (vT v) (vX v)] A (fun r A'=>r = .bool (decide (dep v ≤ 8) && decide (cnt v ≤ 63)) ∧ A' = A):=by
  have hc:=cnt_lt hd
  refine acalls_enter (cf:=cf 11 [0,2]) foll Tryz.func251 Tryz.ntmps251 (by simp [cf]) ?_
  simp only [Tryz.f251,EnterK_some,zW,zX,zD,builtinA,isLeaf,const1,ustrA,simprocAttr,ti3,cf,Tryz.results251]
  refine wpO_invoke _ _ _ _ _ _ _ _ _ _ _ _ _ _ _ _ ?_
  simp only [zW,zX,zD,builtinA,isLeaf,const1,ustrA,simprocAttr,ti3,cf,Tryz.results251]
  refine meth_invK (met3 (by kernel_rfl) (by kernel_rfl) (by kernel_rfl) (by kernel_rfl) (by kernel_rfl) (by kernel_rfl)) (depM v hd _) rfl (fun _=>rfl) ?_
  rintro v A' ⟨rfl,rfl⟩
  simp only [zW,zX,zD,builtinA,isLeaf,const1,ustrA,simprocAttr,ti3,cf,Tryz.results251]
  by_cases h8 : dep v ≤ 8
  · have e8 : decide ((dep v : Int) ≤ 8) = true:=decide_eq_true (by omega)
    rw [decide_eq_true h8]
    simp only [zW,zX,zD,builtinA,isLeaf,const1,ustrA,simprocAttr,ti3,cf,Tryz.results251,e8]
    refine wpO_invoke _ _ _ _ _ _ _ _ _ _ _ _ _ _ _ _ ?_
    simp only [zW,zX,zD,builtinA,isLeaf,const1,ustrA,simprocAttr,ti3,cf,Tryz.results251]
    refine meth_invK (met3 (by kernel_rfl) (by kernel_rfl) (by kernel_rfl) (by kernel_rfl) (by kernel_rfl) (by kernel_rfl)) (cntM v (by omega) _) rfl (fun _=>rfl) ?_
    rintro v A' ⟨rfl,rfl⟩
    simp only [zW,zX,zD,builtinA,isLeaf,const1,ustrA,simprocAttr,ti3,cf,Tryz.results251]
    simp
    omega
  · have e8 : decide ((dep v : Int) ≤ 8) = false:=decide_eq_false (by omega)
    rw [decide_eq_false h8]
    simp only [zW,zX,zD,builtinA,isLeaf,const1,ustrA,simprocAttr,ti3,cf,Tryz.results251,e8]
set_option maxRecDepth 100000 in
theorem impl_readType (τ : Ty) (A : List Box) : ACalls Tryz.prog 210 [.agg (enc τ)] A (fun r A'=>((∃ v,τ = toTy v ∧ VOk v ∧ r = .tuple [.iface (vT v) (vX v),.bool true]) ∨ (validB τ = false ∧ r = .tuple [.nili,.bool false])) ∧ A' = A):=by
  refine acalls_enter (cf:=cf 19 [0,1,2,3,4,5,17]) foll Tryz.func210 Tryz.ntmps210 (by simp [cf]) ?_
  simp only [Tryz.f210,EnterK_some,zW,zX,zD,builtinA,isLeaf,const1,ustrA,simprocAttr,ti36,ca250,ca251,cf,Tryz.results210]
  simp only [enc_take]
  refine ⟨by rw [enc_length]; omega,?_⟩
  refine callK_intro (by simp only [zW,zX,zD,builtinA,isLeaf,const1,ustrA,simprocAttr,frzL_enc,Option.map_some]; rfl) (impl_readNode τ _ _ (by omega) (by omega)) ?_ rfl; rintro v A' ⟨rfl,rfl⟩
  cases hr : (readO τ 1).2 with
  | false =>
    have hv : validB τ = false:=by
      rcases valid_cases τ with ⟨v,rfl,hv⟩ | h
      · have:=hv.dep
        rw [readO_toTy v 1 hv.ok (by omega)] at hr
        cases hr
      · exact h
    simp only [zW,zX,zD,builtinA,isLeaf,const1,ustrA,simprocAttr,ti36,ca250,ca251,cf,Tryz.results210]
    exact .inr hv
  | true =>
    obtain ⟨v,rfl,hv,hd⟩:=readO_of τ 1 hr
    have hro:=readO_toTy v 1 hv hd
    have hcl:=cnt_lt (v:=v) (k:=9) (by omega)
    rw [hro]
    simp only [ifA]
    simp only [zW,zX,zD,builtinA,isLeaf,const1,ustrA,simprocAttr,ti36,ca250,ca251,cf,Tryz.results210]
    refine callK_intro (by simp only [zW,zX,zD,builtinA,isLeaf,const1,ustrA,simprocAttr]; rfl) (impl_withinLimits v (by omega) _) ?_ rfl; rintro v A' ⟨rfl,rfl⟩
    by_cases hc : cnt v ≤ 63
    · have h8 : dep v ≤ 8:=by omega
      rw [decide_eq_true hc,decide_eq_true h8]
      simp only [zW,zX,zD,builtinA,isLeaf,const1,ustrA,simprocAttr,ti36,ca250,ca251,cf,Tryz.results210]
      exact .inl ⟨v,rfl,⟨hv,h8,hc⟩,rfl⟩
    · have hn : validB (toTy v) = false:=by
        rw [validB,count_toTy,decide_eq_false hc,Bool.and_false]
      rw [decide_eq_false hc]
      simp only [zW,zX,zD,builtinA,isLeaf,const1,ustrA,simprocAttr,ti36,ca250,ca251,cf,Tryz.results210]
      exact .inr hn
end Go.Proofs.YtijlnkfiadajhaaGreat
/- Types that are owned: their lists of kids lie in boxes. -/
set_option linter.unusedVariables false
set_option linter.unusedSimpArgs false
namespace Go.Proofs.YtijlnkfiadajhaaGreat
open Go.Abs
mutual
def OwnT (A : List Box) : Ty → List AV → List Nat → Prop
  | .mk k m n ks,r,S=>∃ v,r = [.int .i64 k,.str m,.str n,v] ∧ ((v = .nils ∧ ks = [] ∧ S = []) ∨ (v = .slice [] ∧ ks = [] ∧ S = []) ∨ ∃ i rows S',v = .own i ∧ S = i :: S' ∧ A.getD i .dead = .gr none 4 rows ∧ OwnR A ks rows S')
def OwnR (A : List Box) : List Ty → List (List AV) → List Nat → Prop
  | [],rows,S=>rows = [] ∧ S = []
  | t :: ks,rows,S=>∃ r rows' S1 S2,rows = r :: rows' ∧ S = S1 ++ S2 ∧ OwnT A t r S1 ∧ OwnR A ks rows' S2
end
def OwnK (A : List Box) (ks : List Ty) (v : AV) (S : List Nat) : Prop :=
  (v = .nils ∧ ks = [] ∧ S = []) ∨ (v = .slice [] ∧ ks = [] ∧ S = []) ∨ ∃ i rows S',v = .own i ∧ S = i :: S' ∧ A.getD i .dead = .gr none 4 rows ∧ OwnR A ks rows S'
theorem ownT_mk {A : List Box} {k : Int} {m n : List UInt8} {ks : List Ty} {r : List AV} {S : List Nat} : OwnT A (.mk k m n ks) r S ↔ ∃ v,r = [.int .i64 k,.str m,.str n,v] ∧ OwnK A ks v S:=by
  rw [OwnT]; rfl
mutual
theorem OwnT.frame {A A' : List Box} : ∀ {t : Ty} {r : List AV} {S : List Nat},OwnT A t r S → (∀ i ∈ S,A'.getD i .dead = A.getD i .dead) → OwnT A' t r S
  | .mk k m n ks,r,S,h,hf=>by
    rw [OwnT] at h ⊢
    obtain ⟨v,hr,h⟩:=h
    refine ⟨v,hr,?_⟩
    rcases h with h | h | ⟨i,rows,S',h1,h2,h3,h4⟩
    · exact .inl h
    · exact .inr (.inl h)
    · subst h2
      exact .inr (.inr ⟨i,rows,S',h1,rfl,by rw [hf i (by simp)]; exact h3,OwnR.frame h4 fun j hj=>hf j (by simp [hj])⟩)
theorem OwnR.frame {A A' : List Box} : ∀ {ks : List Ty} {rows : List (List AV)} {S : List Nat},OwnR A ks rows S → (∀ i ∈ S,A'.getD i .dead = A.getD i .dead) → OwnR A' ks rows S
  | [],rows,S,h,hf=>by rw [OwnR] at h ⊢; exact h
  | t :: ks,rows,S,h,hf=>by
    rw [OwnR] at h ⊢
    obtain ⟨r,rows',S1,S2,h1,h2,h3,h4⟩:=h
    subst h2
    exact ⟨r,rows',S1,S2,h1,rfl,OwnT.frame h3 fun j hj=>hf j (by simp [hj]),OwnR.frame h4 fun j hj=>hf j (by simp [hj])⟩
end
theorem OwnK.frame {A A' : List Box} {ks : List Ty} {v : AV} {S : List Nat} (h : OwnK A ks v S) (hf : ∀ i ∈ S,A'.getD i .dead = A.getD i .dead) : OwnK A' ks v S:=by
  rcases h with h | h | ⟨i,rows,S',h1,h2,h3,h4⟩
  · exact .inl h
  · exact .inr (.inl h)
  · subst h2
    exact .inr (.inr ⟨i,rows,S',h1,rfl,by rw [hf i (by simp)]; exact h3,h4.frame fun j hj=>hf j (by simp [hj])⟩)
theorem OwnR.length {A : List Box} : ∀ {ks : List Ty} {rows : List (List AV)} {S : List Nat},OwnR A ks rows S → rows.length = ks.length
  | [],rows,S,h=>by rw [OwnR] at h; rw [h.1]; rfl
  | t :: ks,rows,S,h=>by
    rw [OwnR] at h
    obtain ⟨r,rows',S1,S2,h1,h2,h3,h4⟩:=h
    subst h1
    simp [OwnR.length h4]
theorem live_lt {A : List Box} {i : Nat} {b : Box} (h : A.getD i .dead = b) (hb : b ≠ .dead) : i < A.length:=by
  rcases Nat.lt_or_ge i A.length with hh | hh
  · exact hh
  · simp [List.getD,Nat.not_lt.2 hh] at h; exact absurd h.symm hb
mutual
theorem OwnT.low {A : List Box} : ∀ {t : Ty} {r : List AV} {S : List Nat},OwnT A t r S → ∀ i ∈ S,i < A.length
  | .mk k m n ks,r,S,h=>by
    rw [OwnT] at h
    obtain ⟨v,hr,h⟩:=h
    rcases h with ⟨_,_,rfl⟩ | ⟨_,_,rfl⟩ | ⟨i,rows,S',h1,rfl,h3,h4⟩
    · simp
    · simp
    · intro j hj
      rcases List.mem_cons.1 hj with rfl | hj
      · exact live_lt h3 (by simp)
      · exact OwnR.low h4 j hj
theorem OwnR.low {A : List Box} : ∀ {ks : List Ty} {rows : List (List AV)} {S : List Nat},OwnR A ks rows S → ∀ i ∈ S,i < A.length
  | [],rows,S,h=>by rw [OwnR] at h; rw [h.2]; simp
  | t :: ks,rows,S,h=>by
    rw [OwnR] at h
    obtain ⟨r,rows',S1,S2,h1,rfl,h3,h4⟩:=h
    intro j hj
    rcases List.mem_append.1 hj with hj | hj
    · exact OwnT.low h3 j hj
    · exact OwnR.low h4 j hj
end
theorem OwnK.low {A : List Box} {ks : List Ty} {v : AV} {S : List Nat} (h : OwnK A ks v S) : ∀ i ∈ S,i < A.length:=by
  rcases h with ⟨_,_,rfl⟩ | ⟨_,_,rfl⟩ | ⟨i,rows,S',h1,rfl,h3,h4⟩
  · simp
  · simp
  · intro j hj
    rcases List.mem_cons.1 hj with rfl | hj
    · exact live_lt h3 (by simp)
    · exact h4.low j hj
theorem enc4 (k : Int) (m n : List UInt8) (ks : List Ty) : enc (.mk k m n ks) = [.int .i64 k,.str m,.str n,.slice (encs ks)]:=by rw [enc]
theorem rows_view {A : List Box} {i : Nat} {rows : List (List AV)} {ks : List Ty} (h : A.getD i .dead = .gr none 4 rows) (hl : rows.length = ks.length)
    (hv : ∀ k,k < rows.length → ∀ j,j < 4 → View A ((rows.getD k []).getD j .bot) ((enc (ks.getD k ty0)).getD j .bot)) : View A (.own i) (.slice (encs ks)):=by
  refine .gr i 4 none rows (encs ks) h (by rw [encs_length,hl]) (fun r hr=>?_) fun k j hk hj=>?_
  · rw [encs_map] at hr
    obtain ⟨t,_,rfl⟩:=List.mem_map.1 hr
    exact ⟨enc_length t,enc_leaf t⟩
  · unfold Abs.rowAt
    rw [encs_getD (by omega)]
    exact hv k hk j hj
mutual
theorem OwnT.view {A : List Box} : ∀ {t : Ty} {r : List AV} {S : List Nat},OwnT A t r S → r.length = 4 ∧ ∀ j,j < 4 → View A (r.getD j .bot) ((enc t).getD j .bot)
  | .mk k m n ks,r,S,h=>by
    rw [OwnT] at h
    obtain ⟨v,rfl,h⟩:=h
    have hk : View A v (.slice (encs ks)):=by
      rcases h with ⟨rfl,rfl,_⟩ | ⟨rfl,rfl,_⟩ | ⟨i,rows,S',rfl,_,h3,h4⟩
      · exact .nils
      · exact .leaf _ rfl
      · exact rows_view h3 h4.length (OwnR.view h4)
    refine ⟨rfl,fun j hj=>?_⟩
    rw [enc4]
    match j,hj with
    | 0,_=>exact .leaf _ rfl
    | 1,_=>exact .leaf _ rfl
    | 2,_=>exact .leaf _ rfl
    | 3,_=>exact hk
theorem OwnR.view {A : List Box} : ∀ {ks : List Ty} {rows : List (List AV)} {S : List Nat},OwnR A ks rows S → ∀ k,k < rows.length → ∀ j,j < 4 → View A ((rows.getD k []).getD j .bot) ((enc (ks.getD k ty0)).getD j .bot)
  | [],rows,S,h=>by rw [OwnR] at h; rw [h.1]; intro k hk; simp at hk
  | t :: ks,rows,S,h=>by
    rw [OwnR] at h
    obtain ⟨r,rows',S1,S2,rfl,h2,h3,h4⟩:=h
    intro k hk j hj
    cases k with
    | zero=>exact (OwnT.view h3).2 j hj
    | succ k =>
      have:=OwnR.view h4 k (by simpa using hk) j hj
      simpa using this
end
theorem OwnK.view {A : List Box} {ks : List Ty} {v : AV} {S : List Nat} (h : OwnK A ks v S) : View A v (.slice (encs ks)):=by
  rcases h with ⟨rfl,rfl,_⟩ | ⟨rfl,rfl,_⟩ | ⟨i,rows,S',rfl,_,h3,h4⟩
  · exact .nils
  · exact .leaf _ rfl
  · exact rows_view h3 h4.length h4.view
end Go.Proofs.YtijlnkfiadajhaaGreat
/- Marks that the laws write into what is owned. -/
set_option linter.unusedVariables false
set_option linter.unusedSimpArgs false
namespace Go.Proofs.YtijlnkfiadajhaaGreat
open Go.Abs
def dig (k : Nat) : UInt8:=UInt8.ofNat (48 + k % 10)
def digs (k : Nat) (acc : List UInt8) : List UInt8:=if k = 0 then acc else digs (k / 10) (dig k :: acc)
termination_by k
decreasing_by omega
def mtx (k : Int) : List UInt8:=if k ≤ 0 then [109,48] else 109 :: digs k.toNat []
theorem dig_eq (k : Nat) : Abs.byteOf [.int .u8 (IntKind.u8.wrap (48 + (k : Int).tmod 10))] = dig k ∧ Abs.isByte [.int .u8 (IntKind.u8.wrap (48 + (k : Int).tmod 10))] = true:=by
  have h1 : (k : Int).tmod 10 = ((k % 10 : Nat) : Int):=by
    rw [Int.tmod_eq_emod_of_nonneg (by omega)]; omega
  have h2 : IntKind.u8.wrap (48 + ((k % 10 : Nat) : Int)) = ((48 + k % 10 : Nat) : Int):=by
    simp [IntKind.wrap,IntKind.signed,IntKind.bits]
    omega
  rw [h1,h2]
  exact ⟨rfl,rfl⟩
set_option maxRecDepth 100000 in
theorem laws_markText (k : Int) (hk : k ≤ 2 ^ 60) (A : List Box) : ACalls Tryz.prog 79 [.int .i64 k] A (fun r A'=>r = .str (mtx k) ∧ A' = A):=by
  refine acalls_enter (cf:=cf 20 [0,2,3,5,7]) foll Tryz.func79 Tryz.ntmps79 (by simp [cf]) ?_
  simp only [Tryz.f79,EnterK_some,zW,zX,zD,builtinA,isLeaf,const1,Nat.reduceAdd,Nat.reduceMul,Nat.reduceSub,Nat.reduceLT,Nat.reduceLeDiff,Nat.reduceEqDiff,Nat.reduceBEq,Nat.reduceBNe,reduceIte,reduceCtorEq,Int.reduceToNat,Int.reduceLT,Int.reduceLE,Int.reduceEq,Int.reduceNe,Int.reduceNeg,ustrA,ti3,ti5,ti9,ti77,cf,Tryz.results79]
  by_cases h0 : k ≤ 0
  · simp only [zW,zX,zD,builtinA,isLeaf,const1,Nat.reduceAdd,Nat.reduceMul,Nat.reduceSub,Nat.reduceLT,Nat.reduceLeDiff,Nat.reduceEqDiff,Nat.reduceBEq,Nat.reduceBNe,reduceIte,reduceCtorEq,Int.reduceToNat,Int.reduceLT,Int.reduceLE,Int.reduceEq,Int.reduceNe,Int.reduceNeg,ustrA,ti3,ti5,ti9,ti77,cf,Tryz.results79,decide_eq_true h0]
    simp [mtx,h0]
  · simp only [zW,zX,zD,builtinA,isLeaf,const1,Nat.reduceAdd,Nat.reduceMul,Nat.reduceSub,Nat.reduceLT,Nat.reduceLeDiff,Nat.reduceEqDiff,Nat.reduceBEq,Nat.reduceBNe,reduceIte,reduceCtorEq,Int.reduceToNat,Int.reduceLT,Int.reduceLE,Int.reduceEq,Int.reduceNe,Int.reduceNeg,ustrA,ti3,ti5,ti9,ti77,cf,Tryz.results79,decide_eq_false h0]
    refine aloop_intro [0,3] (fun e A'=>∃ (j : Nat) (acc : List UInt8) (B : List Box),digs j acc = digs k.toNat [] ∧ acc.length + j ≤ k.toNat ∧ e = [(0,.int .i64 j),(3,.str acc)] ∧ A' = A ++ B) (fun e _=>(intOf (Abs.look 0 e)).toNat) ?_ ?_
    · refine ⟨k.toNat,[],[],rfl,by simp,?_,by simp⟩
      simp only [zW,zX,zD,builtinA,isLeaf,const1,Nat.reduceAdd,Nat.reduceMul,Nat.reduceSub,Nat.reduceLT,Nat.reduceLeDiff,Nat.reduceEqDiff,Nat.reduceBEq,Nat.reduceBNe,reduceIte,reduceCtorEq,Int.reduceToNat,Int.reduceLT,Int.reduceLE,Int.reduceEq,Int.reduceNe,Int.reduceNeg,ustrA,ti3,ti5,ti9,ti77,cf,Tryz.results79]
      have : (k.toNat : Int) = k:=by omega
      rw [this]
    · rintro e A' ⟨j,acc,B,hd,hl,rfl,rfl⟩
      simp only [zW,zX,zD,builtinA,isLeaf,const1,Nat.reduceAdd,Nat.reduceMul,Nat.reduceSub,Nat.reduceLT,Nat.reduceLeDiff,Nat.reduceEqDiff,Nat.reduceBEq,Nat.reduceBNe,reduceIte,reduceCtorEq,Int.reduceToNat,Int.reduceLT,Int.reduceLE,Int.reduceEq,Int.reduceNe,Int.reduceNeg,ustrA,ti3,ti5,ti9,ti77,cf,Tryz.results79]
      refine condK_intro (fun h2=>?_) (fun h2=>?_)
      · have hj : 0 < j:=by simpa using h2
        have hm : (j : Int).tmod 10 = ((j % 10 : Nat) : Int):=by rw [Int.tmod_eq_emod_of_nonneg (by omega)]; omega
        have hw : IntKind.i64.wrap (48 + (j : Int).tmod 10) = 48 + (j : Int).tmod 10:=wrap64 (by omega) (by omega)
        have hq : IntKind.i64.wrap ((j : Int).tdiv 10) = ((j / 10 : Nat) : Int):=by
          have : (j : Int).tdiv 10 = ((j / 10 : Nat) : Int):=by rw [Int.tdiv_eq_ediv_of_nonneg (by omega)]; omega
          rw [this,wrap64 (by omega) (by omega)]
        simp only [zW,zX,zD,builtinA,isLeaf,const1,Nat.reduceAdd,Nat.reduceMul,Nat.reduceSub,Nat.reduceLT,Nat.reduceLeDiff,Nat.reduceEqDiff,Nat.reduceBEq,Nat.reduceBNe,reduceIte,reduceCtorEq,Int.reduceToNat,Int.reduceLT,Int.reduceLE,Int.reduceEq,Int.reduceNe,Int.reduceNeg,ustrA,ti3,ti5,ti9,ti77,cf,Tryz.results79,hw,hq,LoopK_eq]
        refine ⟨by simp,by first | (simp; done) | (simp; exact (dig_eq j).2),by omega,⟨j / 10,dig j :: acc,_,?_,by simp; omega,?_,rfl⟩,?_⟩
        · rw [← hd,digs.eq_def j,if_neg (by omega)]
        · rw [← (dig_eq j).1]
          try rfl
        · simp only [intOf]; omega
      · have hj : j = 0:=by simpa using h2
        subst hj
        simp only [zW,zX,zD,builtinA,isLeaf,const1,Nat.reduceAdd,Nat.reduceMul,Nat.reduceSub,Nat.reduceLT,Nat.reduceLeDiff,Nat.reduceEqDiff,Nat.reduceBEq,Nat.reduceBNe,reduceIte,reduceCtorEq,Int.reduceToNat,Int.reduceLT,Int.reduceLE,Int.reduceEq,Int.reduceNe,Int.reduceNeg,ustrA,ti3,ti5,ti9,ti77,cf,Tryz.results79]
        refine ⟨by omega,?_⟩
        rw [mtx,if_neg h0,← hd,digs.eq_def,if_pos rfl]
mutual
def markT : Ty → Int → Ty × Int
  | .mk _ _ _ ks,k=>(.mk k (mtx (k + 1)) (mtx (k + 2)) (markL ks (k + 3)).1,(markL ks (k + 3)).2)
def markL : List Ty → Int → List Ty × Int
  | [],k=>([],k)
  | t :: l,k=>((markT t k).1 :: (markL l (markT t k).2).1,(markL l (markT t k).2).2)
end
mutual
theorem markT_next : ∀ (t : Ty) (k : Int),(markT t k).2 = k + 3 * count t
  | .mk _ _ _ ks,k=>by rw [markT,markL_next ks (k + 3),count]; omega
theorem markL_next : ∀ (l : List Ty) (k : Int),(markL l k).2 = k + 3 * counts l
  | [],k=>by simp [markL,counts]
  | t :: l,k=>by rw [markL,markL_next l,markT_next t,counts]; omega
end
theorem markL_length : ∀ (l : List Ty) (k : Int),(markL l k).1.length = l.length
  | [],k=>by simp [markL]
  | t :: l,k=>by simp [markL,markL_length l]
theorem markL_app : ∀ (l l' : List Ty) (k : Int),markL (l ++ l') k = ((markL l k).1 ++ (markL l' (markL l k).2).1,(markL l' (markL l k).2).2)
  | [],l',k=>by simp [markL]
  | t :: l,l',k=>by simp [markL,markL_app l l']
theorem split_at {α : Type} (d : α) {l : List α} {p : Nat} (h : p < l.length) : l = l.take p ++ l.getD p d :: l.drop (p + 1):=by
  have : l.getD p d = l[p]:=by simp [List.getD,h]
  rw [this,List.getElem_cons_drop h,List.take_append_drop]
theorem take_snoc {α : Type} (d : α) {l : List α} {p : Nat} (h : p < l.length) : l.take (p + 1) = l.take p ++ [l.getD p d]:=by
  rw [List.take_add_one]; simp [List.getD,h]
theorem markL_snoc {l : List Ty} {p : Nat} (h : p < l.length) (k : Int) : markL (l.take (p + 1)) k = ((markL (l.take p) k).1 ++ [(markT (l.getD p ty0) (markL (l.take p) k).2).1],(markT (l.getD p ty0) (markL (l.take p) k).2).2):=by
  rw [take_snoc ty0 h,markL_app]
  simp [markL]
theorem markL_getD {l : List Ty} {p : Nat} (h : p < l.length) (k : Int) : (markL l k).1.getD p ty0 = (markT (l.getD p ty0) (markL (l.take p) k).2).1:=by
  conv=>lhs; rw [split_at ty0 h,markL_app]
  have : (markL (l.take p) k).1.length = p:=by rw [markL_length]; simp; omega
  simp [markL,List.getD,List.getElem?_append_right,this]
theorem OwnR.append {A : List Box} : ∀ {k1 k2 : List Ty} {r1 r2 : List (List AV)} {S1 S2 : List Nat},OwnR A k1 r1 S1 → OwnR A k2 r2 S2 → OwnR A (k1 ++ k2) (r1 ++ r2) (S1 ++ S2)
  | [],k2,r1,r2,S1,S2,h1,h2=>by
    rw [OwnR] at h1
    rw [h1.1,h1.2]; exact h2
  | t :: k1,k2,r1,r2,S1,S2,h1,h2=>by
    rw [OwnR] at h1
    obtain ⟨r,r',T1,T2,rfl,rfl,h3,h4⟩:=h1
    rw [List.cons_append,OwnR]
    exact ⟨r,r' ++ r2,T1,T2 ++ S2,by simp,by simp,h3,OwnR.append h4 h2⟩
def MarkS (ks : List Ty) : Prop:=∀ (A : List Box) (v : AV) (S : List Nat) (k : Int),OwnK A ks v S → S.Nodup → 0 ≤ k → k + 3 * counts ks ≤ 2 ^ 50 →
  ACalls Tryz.prog 80 [v,.int .i64 k] A (fun r A'=>r = .int .i64 (markL ks k).2 ∧ A'.length = A.length ∧ OwnK A' (markL ks k).1 v S ∧ ∀ i,i ∉ S → A'.getD i .dead = A.getD i .dead)
set_option maxRecDepth 100000 in
theorem laws_markTypeS (ks : List Ty) (hks : ks.length < 2 ^ 63) (ih : ∀ t ∈ ks,MarkS t.kids) : MarkS ks:=by
  intro A v S k hO hN h0 h1
  rcases hO with ⟨rfl,rfl,rfl⟩ | ⟨rfl,rfl,rfl⟩ | ⟨i,rows,S',rfl,rfl,hb,hR⟩
  · refine acalls_enterK (cf:=cf 43 [0,1,4,5,9]) foll Tryz.func80 Tryz.ntmps80 (by simp [cf]) ?_
    simp only [Tryz.f80,EnterK_some,zW,zX,zD,builtinA,isLeaf,const1,Nat.reduceAdd,Nat.reduceMul,Nat.reduceSub,Nat.reduceLT,Nat.reduceLeDiff,Nat.reduceEqDiff,Nat.reduceBEq,Nat.reduceBNe,reduceIte,reduceCtorEq,Int.reduceToNat,Int.reduceLT,Int.reduceLE,Int.reduceEq,Int.reduceNe,Int.reduceNeg,ustrA,ti3,ti9,ti34,ti36,ca79,ca80,cf,Tryz.results80]
    refine aloop_intro [0,1,5] (fun e A'=>e = [(0,.nils),(1,.int .i64 k),(5,.int .i64 0)] ∧ A' = A) (fun e _=>0) ?_ ?_
    · simp only [zW,zX,zD,builtinA,isLeaf,const1,Nat.reduceAdd,Nat.reduceMul,Nat.reduceSub,Nat.reduceLT,Nat.reduceLeDiff,Nat.reduceEqDiff,Nat.reduceBEq,Nat.reduceBNe,reduceIte,reduceCtorEq,Int.reduceToNat,Int.reduceLT,Int.reduceLE,Int.reduceEq,Int.reduceNe,Int.reduceNeg,ustrA,ti3,ti9,ti34,ti36,ca79,ca80,cf,Tryz.results80]
    · rintro e A' ⟨rfl,rfl⟩
      simp only [zW,zX,zD,builtinA,isLeaf,const1,Nat.reduceAdd,Nat.reduceMul,Nat.reduceSub,Nat.reduceLT,Nat.reduceLeDiff,Nat.reduceEqDiff,Nat.reduceBEq,Nat.reduceBNe,reduceIte,reduceCtorEq,Int.reduceToNat,Int.reduceLT,Int.reduceLE,Int.reduceEq,Int.reduceNe,Int.reduceNeg,ustrA,ti3,ti9,ti34,ti36,ca79,ca80,cf,Tryz.results80]
      refine condK_intro (fun h=>absurd h (by simp)) (fun _=>?_)
      simp only [zW,zX,zD,builtinA,isLeaf,const1,Nat.reduceAdd,Nat.reduceMul,Nat.reduceSub,Nat.reduceLT,Nat.reduceLeDiff,Nat.reduceEqDiff,Nat.reduceBEq,Nat.reduceBNe,reduceIte,reduceCtorEq,Int.reduceToNat,Int.reduceLT,Int.reduceLE,Int.reduceEq,Int.reduceNe,Int.reduceNeg,ustrA,ti3,ti9,ti34,ti36,ca79,ca80,cf,Tryz.results80]
      exact ⟨by simp [markL],.inl ⟨rfl,by simp [markL],rfl⟩,fun _ _=>trivial⟩
  · refine acalls_enterK (cf:=cf 43 [0,1,4,5,9]) foll Tryz.func80 Tryz.ntmps80 (by simp [cf]) ?_
    simp only [Tryz.f80,EnterK_some,zW,zX,zD,builtinA,isLeaf,const1,Nat.reduceAdd,Nat.reduceMul,Nat.reduceSub,Nat.reduceLT,Nat.reduceLeDiff,Nat.reduceEqDiff,Nat.reduceBEq,Nat.reduceBNe,reduceIte,reduceCtorEq,Int.reduceToNat,Int.reduceLT,Int.reduceLE,Int.reduceEq,Int.reduceNe,Int.reduceNeg,ustrA,ti3,ti9,ti34,ti36,ca79,ca80,cf,Tryz.results80]
    refine aloop_intro [0,1,5] (fun e A'=>e = [(0,.slice []),(1,.int .i64 k),(5,.int .i64 0)] ∧ A' = A) (fun e _=>0) ?_ ?_
    · simp only [zW,zX,zD,builtinA,isLeaf,const1,Nat.reduceAdd,Nat.reduceMul,Nat.reduceSub,Nat.reduceLT,Nat.reduceLeDiff,Nat.reduceEqDiff,Nat.reduceBEq,Nat.reduceBNe,reduceIte,reduceCtorEq,Int.reduceToNat,Int.reduceLT,Int.reduceLE,Int.reduceEq,Int.reduceNe,Int.reduceNeg,ustrA,ti3,ti9,ti34,ti36,ca79,ca80,cf,Tryz.results80]
    · rintro e A' ⟨rfl,rfl⟩
      simp only [zW,zX,zD,builtinA,isLeaf,const1,Nat.reduceAdd,Nat.reduceMul,Nat.reduceSub,Nat.reduceLT,Nat.reduceLeDiff,Nat.reduceEqDiff,Nat.reduceBEq,Nat.reduceBNe,reduceIte,reduceCtorEq,Int.reduceToNat,Int.reduceLT,Int.reduceLE,Int.reduceEq,Int.reduceNe,Int.reduceNeg,ustrA,ti3,ti9,ti34,ti36,ca79,ca80,cf,Tryz.results80]
      refine condK_intro (fun h=>absurd h (by simp)) (fun _=>?_)
      simp only [zW,zX,zD,builtinA,isLeaf,const1,Nat.reduceAdd,Nat.reduceMul,Nat.reduceSub,Nat.reduceLT,Nat.reduceLeDiff,Nat.reduceEqDiff,Nat.reduceBEq,Nat.reduceBNe,reduceIte,reduceCtorEq,Int.reduceToNat,Int.reduceLT,Int.reduceLE,Int.reduceEq,Int.reduceNe,Int.reduceNeg,ustrA,ti3,ti9,ti34,ti36,ca79,ca80,cf,Tryz.results80]
      exact ⟨by simp [markL],.inr (.inl ⟨rfl,by simp [markL],rfl⟩),fun _ _=>trivial⟩
  · have hil:=live_lt hb (by simp)
    have hlen:=hR.length
    refine acalls_enterK (cf:=cf 43 [0,1,4,5,9]) foll Tryz.func80 Tryz.ntmps80 (by simp [cf]) ?_
    simp only [Tryz.f80,EnterK_some,zW,zX,zD,builtinA,isLeaf,const1,Nat.reduceAdd,Nat.reduceMul,Nat.reduceSub,Nat.reduceLT,Nat.reduceLeDiff,Nat.reduceEqDiff,Nat.reduceBEq,Nat.reduceBNe,reduceIte,reduceCtorEq,Int.reduceToNat,Int.reduceLT,Int.reduceLE,Int.reduceEq,Int.reduceNe,Int.reduceNeg,ustrA,ti3,ti9,ti34,ti36,ca79,ca80,cf,Tryz.results80]
    refine aloop_intro [0,1,5] (fun e A'=>∃ (p : Nat) (rl rr : List (List AV)) (SL SR : List Nat),p ≤ ks.length ∧ e = [(0,.own i),(1,.int .i64 (markL (ks.take p) k).2),(5,.int .i64 p)] ∧ A'.length = A.length ∧ A'.getD i .dead = .gr none 4 (rl ++ rr) ∧ rl.length = p ∧
      OwnR A' (markL (ks.take p) k).1 rl SL ∧ OwnR A' (ks.drop p) rr SR ∧ S' = SL ++ SR ∧ ∀ j,j ∉ i :: S' → A'.getD j .dead = A.getD j .dead) (fun e _=>ks.length - (intOf (Abs.look 5 e)).toNat) ?_ ?_
    · refine ⟨0,[],rows,[],S',by omega,?_,rfl,hb,rfl,by simp [markL,OwnR],by simpa using hR,rfl,fun _ _=>rfl⟩
      simp only [zW,zX,zD,builtinA,isLeaf,const1,Nat.reduceAdd,Nat.reduceMul,Nat.reduceSub,Nat.reduceLT,Nat.reduceLeDiff,Nat.reduceEqDiff,Nat.reduceBEq,Nat.reduceBNe,reduceIte,reduceCtorEq,Int.reduceToNat,Int.reduceLT,Int.reduceLE,Int.reduceEq,Int.reduceNe,Int.reduceNeg,ustrA,ti3,ti9,ti34,ti36,ca79,ca80,cf,Tryz.results80]
      simp [markL]
    · rintro e A' ⟨p,rl,rr,SL,SR,hp,rfl,hl,hb',hrl,hL,hRr,hS,hfr⟩
      have hrr:=hRr.length
      have hrows : rl.length + rr.length = ks.length:=by simp at hrr; omega
      simp only [zW,zX,zD,builtinA,isLeaf,const1,Nat.reduceAdd,Nat.reduceMul,Nat.reduceSub,Nat.reduceLT,Nat.reduceLeDiff,Nat.reduceEqDiff,Nat.reduceBEq,Nat.reduceBNe,reduceIte,reduceCtorEq,Int.reduceToNat,Int.reduceLT,Int.reduceLE,Int.reduceEq,Int.reduceNe,Int.reduceNeg,ustrA,ti3,ti9,ti34,ti36,ca79,ca80,cf,Tryz.results80,hb',hrows]
      refine condK_intro (fun h2=>?_) (fun h2=>?_)
      · have hp2 : p < ks.length:=by simpa using h2
        have hne : i ∉ S':=(List.nodup_cons.1 hN).1
        have hnd : (SL ++ SR).Nodup:=by rw [← hS]; exact (List.nodup_cons.1 hN).2
        have hdr : ks.drop p = ks.getD p ty0 :: ks.drop (p + 1):=by
          have : ks.getD p ty0 = ks[p]:=by simp [List.getD,hp2]
          rw [this,List.getElem_cons_drop hp2]
        rw [hdr,OwnR] at hRr
        obtain ⟨r,rr',S1,S2,rfl,rfl,hT,hR'⟩:=hRr
        have hmem:=getD_mem hp2
        obtain ⟨kk,m,n,kks,ht⟩ : ∃ kk m n kks,ks.getD p ty0 = .mk kk m n kks:=by cases ks.getD p ty0; exact ⟨_,_,_,_,rfl⟩
        rw [ht,ownT_mk] at hT
        obtain ⟨vk,rfl,hK⟩:=hT
        have hil' : i < A'.length:=by omega
        have hmk:=markL_next (ks.take p) k
        have hct:=counts_take hp2
        have hcl:=counts_le ks (p + 1)
        rw [ht] at hct
        simp only [count] at hct
        generalize hk1 : (markL (ks.take p) k).2 = k1 at *
        have b0 : 0 ≤ k1:=by omega
        have b1 : k1 + 3 + 3 * counts kks ≤ 2 ^ 50:=by omega
        have w1 : IntKind.i64.wrap (k1 + 1) = k1 + 1:=wrap64 (by omega) (by omega)
        have w2 : IntKind.i64.wrap (k1 + 1 + 1) = k1 + 2:=by rw [wrap64 (by omega) (by omega)]; omega
        have w3 : IntKind.i64.wrap (k1 + 2 + 1) = k1 + 3:=by rw [wrap64 (by omega) (by omega)]; omega
        have hi1 : IntKind.i64.wrap ((p : Int) + 1) = ((p + 1 : Nat) : Int):=by rw [wrap64 (by omega) (by omega)]; rfl
        have hrp : (p : Int) < ((rl ++ [AV.int .i64 kk,.str m,.str n,vk] :: rr').length : Int):=by simp; omega
        have hg : ∀ x,((rl ++ x :: rr').getD p []) = x:=fun x=>by simp [List.getD,List.getElem?_append_right,hrl]
        have hst : ∀ x y,(rl ++ x :: rr').set p y = rl ++ y :: rr':=fun x y=>by rw [List.set_append_right _ _ (by omega),hrl,Nat.sub_self]; rfl
        have hgs : ∀ X,(A'.set i X).getD i .dead = X:=fun X=>getD_set1 hil'
        have hpl : p < rl.length + (rr'.length + 1):=by simp at hrows; omega
        have hpi : (p : Int) < ((rl.length + (rr'.length + 1) : Nat) : Int):=by omega
        simp only [zW,zX,zD,builtinA,isLeaf,const1,Nat.reduceAdd,Nat.reduceMul,Nat.reduceSub,Nat.reduceLT,Nat.reduceLeDiff,Nat.reduceEqDiff,Nat.reduceBEq,Nat.reduceBNe,reduceIte,reduceCtorEq,Int.reduceToNat,Int.reduceLT,Int.reduceLE,Int.reduceEq,Int.reduceNe,Int.reduceNeg,ustrA,ti3,ti9,ti34,ti36,ca79,ca80,cf,Tryz.results80,hb',hg,hst,hgs,List.set_set,w1]
        refine ⟨⟨by omega,hpi⟩,⟨hpl,by simp [isElem,isLeaf]⟩,?_⟩
        refine callK_intro (by simp only [zW,zX,zD,builtinA,isLeaf,const1,Nat.reduceAdd,Nat.reduceMul,Nat.reduceSub,Nat.reduceLT,Nat.reduceLeDiff,Nat.reduceEqDiff,Nat.reduceBEq,Nat.reduceBNe,reduceIte,reduceCtorEq,Int.reduceToNat,Int.reduceLT,Int.reduceLE,Int.reduceEq,Int.reduceNe,Int.reduceNeg,ustrA]; rfl) (laws_markText (k1 + 1) (by omega) _) ?_ rfl; rintro v A' ⟨rfl,rfl⟩
        simp only [zW,zX,zD,builtinA,isLeaf,const1,Nat.reduceAdd,Nat.reduceMul,Nat.reduceSub,Nat.reduceLT,Nat.reduceLeDiff,Nat.reduceEqDiff,Nat.reduceBEq,Nat.reduceBNe,reduceIte,reduceCtorEq,Int.reduceToNat,Int.reduceLT,Int.reduceLE,Int.reduceEq,Int.reduceNe,Int.reduceNeg,ustrA,ti3,ti9,ti34,ti36,ca79,ca80,cf,Tryz.results80,hb',hg,hst,hgs,List.set_set,w2]
        refine ⟨⟨by omega,hpi⟩,⟨hpl,by simp [isElem,isLeaf]⟩,?_⟩
        refine callK_intro (by simp only [zW,zX,zD,builtinA,isLeaf,const1,Nat.reduceAdd,Nat.reduceMul,Nat.reduceSub,Nat.reduceLT,Nat.reduceLeDiff,Nat.reduceEqDiff,Nat.reduceBEq,Nat.reduceBNe,reduceIte,reduceCtorEq,Int.reduceToNat,Int.reduceLT,Int.reduceLE,Int.reduceEq,Int.reduceNe,Int.reduceNeg,ustrA]; rfl) (laws_markText (k1 + 2) (by omega) _) ?_ rfl; rintro v A' ⟨rfl,rfl⟩
        simp only [zW,zX,zD,builtinA,isLeaf,const1,Nat.reduceAdd,Nat.reduceMul,Nat.reduceSub,Nat.reduceLT,Nat.reduceLeDiff,Nat.reduceEqDiff,Nat.reduceBEq,Nat.reduceBNe,reduceIte,reduceCtorEq,Int.reduceToNat,Int.reduceLT,Int.reduceLE,Int.reduceEq,Int.reduceNe,Int.reduceNeg,ustrA,ti3,ti9,ti34,ti36,ca79,ca80,cf,Tryz.results80,hb',hg,hst,hgs,List.set_set,w3]
        refine ⟨⟨by omega,hpi⟩,⟨hpl,by simp [isElem,isLeaf]⟩,⟨by omega,hpi⟩,?_⟩
        have hiS1 : i ∉ S1:=fun h=>hne (by rw [hS]; simp [h])
        have hm:=ih _ hmem
        rw [ht] at hm
        refine callO_intro (hm _ vk S1 (k1 + 3) (hK.frame fun j hj=>by rw [getD_set_ne' (fun e=>hiS1 (by rw [e]; exact hj))]) ((List.nodup_append.1 (List.nodup_append.1 hnd).2.1).1) (by omega) b1) ?_
        rintro r A3 ⟨rfl,hl3,hK3,hf3⟩
        simp only [zW,zX,zD,builtinA,isLeaf,const1,Nat.reduceAdd,Nat.reduceMul,Nat.reduceSub,Nat.reduceLT,Nat.reduceLeDiff,Nat.reduceEqDiff,Nat.reduceBEq,Nat.reduceBNe,reduceIte,reduceCtorEq,Int.reduceToNat,Int.reduceLT,Int.reduceLE,Int.reduceEq,Int.reduceNe,Int.reduceNeg,ustrA,ti3,ti9,ti34,ti36,ca79,ca80,cf,Tryz.results80,hi1,LoopK_eq]
        have hms:=markL_snoc hp2 k
        rw [ht,hk1,markT] at hms
        have hd1:=(List.nodup_append.1 hnd).2.2
        have hd2:=(List.nodup_append.1 (List.nodup_append.1 hnd).2.1).2.2
        have fL : ∀ j ∈ SL,A3.getD j .dead = A'.getD j .dead:=fun j hj=>by
          rw [hf3 j (fun h=>hd1 j hj j (by simp [h]) rfl),getD_set_ne' (fun e=>hne (by rw [hS,e]; simp [hj]))]
        have fR : ∀ j ∈ S2,A3.getD j .dead = A'.getD j .dead:=fun j hj=>by
          rw [hf3 j (fun h=>hd2 j h j hj rfl),getD_set_ne' (fun e=>hne (by rw [hS,e]; simp [hj]))]
        refine ⟨⟨p + 1,rl ++ [[.int .i64 k1,.str (mtx (k1 + 1)),.str (mtx (k1 + 2)),vk]],rr',SL ++ S1,S2,by omega,?_,?_,?_,?_,?_,hR'.frame fR,by rw [hS]; simp,fun j hj=>?_⟩,?_⟩
        · rw [hms]; rfl
        · rw [hl3]; simpa using hl
        · rw [hf3 i hiS1,getD_set_self hil']; simp
        · simp [hrl]
        · rw [hms]
          refine (hL.frame fL).append ?_
          rw [OwnR]
          refine ⟨_,_,S1,[],rfl,by simp,?_,by simp [OwnR]⟩
          rw [ownT_mk]
          exact ⟨vk,rfl,hK3⟩
        · have hj1 : j ≠ i:=fun e=>hj (by simp [e])
          have hj2 : j ∉ S1:=fun h=>hj (by rw [hS]; simp [h])
          rw [hf3 j hj2,getD_set_ne' (Ne.symm hj1)]
          exact hfr j hj
        · simp only [intOf]; omega
      · have hp2 : p = ks.length:=by simp at h2; omega
        subst hp2
        simp only [zW,zX,zD,builtinA,isLeaf,const1,Nat.reduceAdd,Nat.reduceMul,Nat.reduceSub,Nat.reduceLT,Nat.reduceLeDiff,Nat.reduceEqDiff,Nat.reduceBEq,Nat.reduceBNe,reduceIte,reduceCtorEq,Int.reduceToNat,Int.reduceLT,Int.reduceLE,Int.reduceEq,Int.reduceNe,Int.reduceNeg,ustrA,ti3,ti9,ti34,ti36,ca79,ca80,cf,Tryz.results80]
        rw [List.take_length] at hL
        rw [List.drop_length,OwnR] at hRr
        obtain ⟨rfl,rfl⟩:=hRr
        simp only [List.append_nil] at hb' hS
        exact ⟨hl,.inr (.inr ⟨i,rl,S',rfl,rfl,hb',by rw [hS]; exact hL⟩),hfr⟩
theorem markS : ∀ (t : Ty),t.Ok → MarkS t.kids:=by
  intro t
  induction t using Ty.ind with
  | h k m n ks ih =>
    intro hO
    obtain ⟨_,_,h3,h4⟩:=hO
    exact laws_markTypeS ks h3 fun t ht=>ih t ht (h4 t ht)
def HeldS (ks : List Ty) : Prop:=∀ (A : List Box) (k : Int),0 ≤ k → k + 3 * counts ks ≤ 2 ^ 50 →
  ACalls Tryz.prog 81 [.slice (encs (markL ks k).1),.int .i64 k] A (fun r A'=>r = .int .i64 (markL ks k).2 ∧ A' = A)
set_option maxRecDepth 100000 in
theorem laws_heldTypeS (ks : List Ty) (hks : ks.length < 2 ^ 63) (ih : ∀ t ∈ ks,HeldS t.kids) : HeldS ks:=by
  intro A k h0 h1
  have hlen : (encs (markL ks k).1).length = ks.length:=by rw [encs_length,markL_length]
  refine acalls_enter (cf:=cf 51 [0,1,4,5,9,18,28,38,49]) foll Tryz.func81 Tryz.ntmps81 (by simp [cf]) ?_
  simp only [Tryz.f81,EnterK_some,zW,zX,zD,builtinA,isLeaf,const1,Nat.reduceAdd,Nat.reduceMul,Nat.reduceSub,Nat.reduceLT,Nat.reduceLeDiff,Nat.reduceEqDiff,Nat.reduceBEq,Nat.reduceBNe,reduceIte,reduceCtorEq,Int.reduceToNat,Int.reduceLT,Int.reduceLE,Int.reduceEq,Int.reduceNe,Int.reduceNeg,ustrA,ti3,ti9,ti34,ti36,ca79,ca81,cf,Tryz.results81]
  refine aloop_intro [0,1,5] (fun e A'=>∃ (p : Nat),p ≤ ks.length ∧ e = [(0,.slice (encs (markL ks k).1)),(1,.int .i64 (markL (ks.take p) k).2),(5,.int .i64 p)] ∧ A' = A) (fun e _=>ks.length - (intOf (Abs.look 5 e)).toNat) ?_ ?_
  · refine ⟨0,by omega,?_,rfl⟩
    simp only [zW,zX,zD,builtinA,isLeaf,const1,Nat.reduceAdd,Nat.reduceMul,Nat.reduceSub,Nat.reduceLT,Nat.reduceLeDiff,Nat.reduceEqDiff,Nat.reduceBEq,Nat.reduceBNe,reduceIte,reduceCtorEq,Int.reduceToNat,Int.reduceLT,Int.reduceLE,Int.reduceEq,Int.reduceNe,Int.reduceNeg,ustrA,ti3,ti9,ti34,ti36,ca79,ca81,cf,Tryz.results81]
    simp [markL]
  · rintro e A' ⟨p,hp,rfl,rfl⟩
    simp only [zW,zX,zD,builtinA,isLeaf,const1,Nat.reduceAdd,Nat.reduceMul,Nat.reduceSub,Nat.reduceLT,Nat.reduceLeDiff,Nat.reduceEqDiff,Nat.reduceBEq,Nat.reduceBNe,reduceIte,reduceCtorEq,Int.reduceToNat,Int.reduceLT,Int.reduceLE,Int.reduceEq,Int.reduceNe,Int.reduceNeg,ustrA,ti3,ti9,ti34,ti36,ca79,ca81,cf,Tryz.results81,hlen]
    refine condK_intro (fun h2=>?_) (fun h2=>?_)
    · have hp2 : p < ks.length:=by simpa using h2
      have hmem:=getD_mem hp2
      have hmk:=markL_next (ks.take p) k
      have hct:=counts_take hp2
      have hcl:=counts_le ks (p + 1)
      have hel:=encs_getD (l:=(markL ks k).1) (i:=p) (by rw [markL_length]; exact hp2)
      have hms:=markL_snoc hp2 k
      rw [markL_getD hp2] at hel
      obtain ⟨kk,m,n,kks,ht⟩ : ∃ kk m n kks,ks.getD p ty0 = .mk kk m n kks:=by cases ks.getD p ty0; exact ⟨_,_,_,_,rfl⟩
      have hm:=ih _ hmem
      rw [ht] at hct hel hms hm
      simp only [count] at hct
      generalize hk1 : (markL (ks.take p) k).2 = k1 at *
      simp only [markT,Ty.kids] at hel hms hm
      rw [enc4] at hel
      have b0 : 0 ≤ k1:=by omega
      have b1 : k1 + 3 + 3 * counts kks ≤ 2 ^ 50:=by omega
      have hmn:=markL_next kks (k1 + 3)
      have w1 : IntKind.i64.wrap (k1 + 1) = k1 + 1:=wrap64 (by omega) (by omega)
      have w2 : IntKind.i64.wrap (k1 + 1 + 1) = k1 + 2:=by rw [wrap64 (by omega) (by omega)]; omega
      have w3 : IntKind.i64.wrap (k1 + 2 + 1) = k1 + 3:=by rw [wrap64 (by omega) (by omega)]; omega
      have hi1 : IntKind.i64.wrap ((p : Int) + 1) = ((p + 1 : Nat) : Int):=by rw [wrap64 (by omega) (by omega)]; rfl
      have hpi : (p : Int) < (ks.length : Int):=by omega
      have d0 : ∀ x : Int,decide (¬ x = x) = false:=fun x=>by simp
      have d1 : ∀ x : List UInt8,decide (¬ x = x) = false:=fun x=>by simp
      simp only [zW,zX,zD,builtinA,isLeaf,const1,Nat.reduceAdd,Nat.reduceMul,Nat.reduceSub,Nat.reduceLT,Nat.reduceLeDiff,Nat.reduceEqDiff,Nat.reduceBEq,Nat.reduceBNe,reduceIte,reduceCtorEq,Int.reduceToNat,Int.reduceLT,Int.reduceLE,Int.reduceEq,Int.reduceNe,Int.reduceNeg,ustrA,ti3,ti9,ti34,ti36,ca79,ca81,cf,Tryz.results81,hel,hlen,w1,w2,w3]
      refine ⟨⟨by omega,hpi⟩,.inl ⟨by kernel_rfl,by kernel_rfl,⟨by omega,hpi⟩,?_⟩⟩
      refine callD_intro (by simp only [zW,zX,zD,builtinA,isLeaf,const1,Nat.reduceAdd,Nat.reduceMul,Nat.reduceSub,Nat.reduceLT,Nat.reduceLeDiff,Nat.reduceEqDiff,Nat.reduceBEq,Nat.reduceBNe,reduceIte,reduceCtorEq,Int.reduceToNat,Int.reduceLT,Int.reduceLE,Int.reduceEq,Int.reduceNe,Int.reduceNeg,ustrA,Option.map_some] <;> rfl) (laws_markText (k1 + 1) (by omega) _) ?_ rfl
      simp only [zW,zX,zD,builtinA,isLeaf,const1,Nat.reduceAdd,Nat.reduceMul,Nat.reduceSub,Nat.reduceLT,Nat.reduceLeDiff,Nat.reduceEqDiff,Nat.reduceBEq,Nat.reduceBNe,reduceIte,reduceCtorEq,Int.reduceToNat,Int.reduceLT,Int.reduceLE,Int.reduceEq,Int.reduceNe,Int.reduceNeg,ustrA,ti3,ti9,ti34,ti36,ca79,ca81,cf,Tryz.results81,hel,hlen,w1,w2,w3]
      refine .inl ⟨by kernel_rfl,by kernel_rfl,⟨by omega,hpi⟩,?_⟩
      refine callD_intro (by simp only [zW,zX,zD,builtinA,isLeaf,const1,Nat.reduceAdd,Nat.reduceMul,Nat.reduceSub,Nat.reduceLT,Nat.reduceLeDiff,Nat.reduceEqDiff,Nat.reduceBEq,Nat.reduceBNe,reduceIte,reduceCtorEq,Int.reduceToNat,Int.reduceLT,Int.reduceLE,Int.reduceEq,Int.reduceNe,Int.reduceNeg,ustrA,Option.map_some] <;> rfl) (laws_markText (k1 + 2) (by omega) _) ?_ rfl
      simp only [zW,zX,zD,builtinA,isLeaf,const1,Nat.reduceAdd,Nat.reduceMul,Nat.reduceSub,Nat.reduceLT,Nat.reduceLeDiff,Nat.reduceEqDiff,Nat.reduceBEq,Nat.reduceBNe,reduceIte,reduceCtorEq,Int.reduceToNat,Int.reduceLT,Int.reduceLE,Int.reduceEq,Int.reduceNe,Int.reduceNeg,ustrA,ti3,ti9,ti34,ti36,ca79,ca81,cf,Tryz.results81,hel,hlen,w1,w2,w3]
      refine ⟨⟨by omega,hpi⟩,?_⟩
      refine callK_intro (by simp only [zW,zX,zD,builtinA,isLeaf,const1,Nat.reduceAdd,Nat.reduceMul,Nat.reduceSub,Nat.reduceLT,Nat.reduceLeDiff,Nat.reduceEqDiff,Nat.reduceBEq,Nat.reduceBNe,reduceIte,reduceCtorEq,Int.reduceToNat,Int.reduceLT,Int.reduceLE,Int.reduceEq,Int.reduceNe,Int.reduceNeg,ustrA,Option.map_some]; rfl) (hm _ (k1 + 3) (by omega) b1) ?_ rfl; rintro v A' ⟨rfl,rfl⟩
      have hge : decide ((markL kks (k1 + 3)).2 < 0) = false:=by rw [hmn]; exact decide_eq_false (by omega)
      simp only [zW,zX,zD,builtinA,isLeaf,const1,Nat.reduceAdd,Nat.reduceMul,Nat.reduceSub,Nat.reduceLT,Nat.reduceLeDiff,Nat.reduceEqDiff,Nat.reduceBEq,Nat.reduceBNe,reduceIte,reduceCtorEq,Int.reduceToNat,Int.reduceLT,Int.reduceLE,Int.reduceEq,Int.reduceNe,Int.reduceNeg,ustrA,ti3,ti9,ti34,ti36,ca79,ca81,cf,Tryz.results81,hge,hi1,LoopK_eq]
      refine ⟨⟨p + 1,by omega,?_⟩,?_⟩
      · rw [hms]
      · simp only [intOf]; omega
    · have hp2 : p = ks.length:=by simp at h2; omega
      subst hp2
      simp only [zW,zX,zD,builtinA,isLeaf,const1,Nat.reduceAdd,Nat.reduceMul,Nat.reduceSub,Nat.reduceLT,Nat.reduceLeDiff,Nat.reduceEqDiff,Nat.reduceBEq,Nat.reduceBNe,reduceIte,reduceCtorEq,Int.reduceToNat,Int.reduceLT,Int.reduceLE,Int.reduceEq,Int.reduceNe,Int.reduceNeg,ustrA,ti3,ti9,ti34,ti36,ca79,ca81,cf,Tryz.results81,List.take_length]
theorem heldS : ∀ (t : Ty),t.Ok → HeldS t.kids:=by
  intro t
  induction t using Ty.ind with
  | h k m n ks ih =>
    intro hO
    obtain ⟨_,_,h3,h4⟩:=hO
    exact laws_heldTypeS ks h3 fun t ht=>ih t ht (h4 t ht)
theorem borrow0 {P : Program} {f : FuncId} {args args' : List AV} {A : List Box} {x : AV} (hv : Views A args args') (hx : ifree x = true) (h : ∀ A,ACalls P f args' A (fun v A'=>v = x ∧ A' = A)) : ACalls P f args A (fun v A'=>v = x ∧ A' = A) :=
  ACalls.borrow hv ((h _).mono fun v A' ⟨h1,h2⟩=>⟨[],by rw [h2,List.append_nil],by rw [h1]; exact hx,by simp,h1,by simp⟩)
end Go.Proofs.YtijlnkfiadajhaaGreat
