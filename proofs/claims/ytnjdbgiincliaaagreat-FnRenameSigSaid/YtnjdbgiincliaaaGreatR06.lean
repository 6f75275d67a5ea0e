/- SigRead, SigPure, SigBase, Binds. -/
import Derived.Test.YtnjdbgiincliaaaGreatR05
import Derived.Test.YtnjdbgiincliaaaGreatAbsW3
/- The program's reading of signatures. -/
set_option linter.unusedVariables false
set_option linter.unusedSimpArgs false
namespace Go.Proofs.YtnjdbgiincliaaaGreat
open Go.Abs
inductive VI where
  | ab (n : List UInt8)
  | al (n : List UInt8) (v : VT)
  | va (n : List UInt8) (v : VT)
def viT : VI → TypeId
  | .ab _=>354
  | .al _ _=>356
  | .va _ _=>357
def viX : VI → AV
  | .ab n=>.agg [.str n]
  | .al n v=>.agg [.str n,.iface (vT v) (vX v)]
  | .va n v=>.agg [.str n,.iface (vT v) (vX v)]
abbrev Ky:=Bool × List UInt8
def viK : VI → Ky
  | .ab n=>(false,n)
  | .al n _=>(false,n)
  | .va n _=>(true,n)
def allI (p : Nm → Bool) : VI → Bool
  | .ab _=>true
  | .al _ v=>allV p v
  | .va _ v=>allV p v
def kE (q : Ky) : List AV:=[.bool q.1,.str q.2]
def esK (ks : List Ky) : List (AV × AV):=ks.map fun q=>(.agg (kE q),.bool true)
abbrev KI : List (Nat × TK):=[(0,.bool),(1,.str)]
theorem kE_eq (x y : Ky) : eqK KI (kE x) (kE y) = some (decide (x = y)):=by
  have : decide (x = y) = (decide (x.1 = y.1) && (decide (x.2 = y.2) && true)):=by
    rw [Bool.eq_iff_iff]
    simp [Prod.ext_iff]
  rw [this]
  simp [KI,eqK,kE,c1A]
  congr 1
theorem find_k (q : Ky) : ∀ (ks : List Ky) (n : Nat),∃ r,findA KI (kE q) (esK ks) n = some r ∧ lkV r (.bool false) = .bool (decide (q ∈ ks)) ∧ (r = none ↔ q ∉ ks)
  | [],n=>⟨none,rfl,by simp [lkV],by simp⟩
  | p :: ks,n=>by
    obtain ⟨r,h1,h2,h3⟩:=find_k q ks (n + 1)
    simp only [esK,List.map_cons,findA]
    rw [if_pos (show (kE p).length = (kE q).length from rfl),kE_eq]
    by_cases h : q = p
    · subst h
      simp only [decide_true]
      exact ⟨_,rfl,by simp [lkV],by simp⟩
    · simp only [decide_eq_false h]
      refine ⟨r,h1,?_,?_⟩
      · rw [h2]; simp [h]
      · rw [h3]; simp [h]
def StM (i6 i3 im : Nat) (ks : List Ky) (b : Bool) (A : List Box) : Prop :=
  A.getD i6 .dead = .cells [.bool b] ∧ A.getD i3 .dead = .cells [.map im] ∧ A.getD im .dead = .mapb (esK ks) ∧ i6 ≠ i3 ∧ i6 ≠ im ∧ i6 < A.length ∧ i3 < A.length ∧ im < A.length
theorem StM.app {i6 i3 im : Nat} {ks : List Ky} {b : Bool} {A : List Box} (h : StM i6 i3 im ks b A) (B : List Box) : StM i6 i3 im ks b (A ++ B):=by
  obtain ⟨h1,h2,h3,h4,h5,h6,h7,h8⟩:=h
  exact ⟨by rw [Abs.getD_append_left h6]; exact h1,by rw [Abs.getD_append_left h7]; exact h2,by rw [Abs.getD_append_left h8]; exact h3,h4,h5,by simp; omega,by simp; omega,by simp; omega⟩
def okN (ks : List Ky) (p : Nm) : Bool:=!decide (p.1 = []) || decide ((false,p.2) ∈ ks)
def visF (i6 i3 : Nat) : AV:=.func (.func 252) [] [.ptr i6 0,.ptr i3 0]
set_option maxRecDepth 100000 in
theorem vis_ok (i6 i3 im : Nat) (ks : List Ky) (b : Bool) (A : List Box) (p : Nm) (h : StM i6 i3 im ks b A) :
    ACalls Tryz.prog 252 [.agg [.str p.1,.str p.2],.ptr i6 0,.ptr i3 0] A (fun r A'=>StM i6 i3 im ks (b && okN ks p) A' ∧ FrK i6 A A'):=by
  have h':=h.app [.cells [.str p.1,.str p.2]]
  obtain ⟨h1,h2,h3,h4,h5,h6,h7,h8⟩:=h'
  obtain ⟨r,f1,f2,f3⟩:=find_k (false,p.2) ks 0
  simp only [kE] at f1
  have fin : ∀ c : Bool,StM i6 i3 im ks c ((A ++ [Box.cells [.str p.1,.str p.2]]).set i6 (.cells [.bool c])) ∧ FrK i6 A ((A ++ [Box.cells [.str p.1,.str p.2]]).set i6 (.cells [.bool c])):=fun c=>by
    refine ⟨⟨getD_set_self h6,by rw [getD_set_ne' h4]; exact h2,by rw [getD_set_ne' h5]; exact h3,h4,h5,by simpa using h6,by simpa using h7,by simpa using h8⟩,by simp,fun k hk hi=>by rw [getD_set_ne' (Ne.symm hi),Abs.getD_append_left hk]⟩
  cases b with
  | false =>
    refine acalls_enterK (cf:=cf 17 [0,1,2,3]) foll Tryz.func252 Tryz.ntmps252 (by simp [cf]) ?_
    simp only [Tryz.f252,EnterK_some,zW,zX,zD,builtinA,isLeaf,const1,ustrA,simprocAttr,ti4,ti9,ti180,ti358,ti360,mi358,cf,Tryz.results252]
    simp only [zW,zX,zD,builtinA,isLeaf,const1,ustrA,simprocAttr,ti4,ti9,ti180,ti358,ti360,mi358,cf,Tryz.results252,h1,h2,h3]
    exact fin false
  | true =>
    by_cases hm : p.1 = []
    · have hok : okN ks p = decide ((false,p.2) ∈ ks):=by simp [okN,hm]
      rw [hok,Bool.true_and]
      rcases r with _ | ⟨q,w⟩
      · have f4 : decide ((false,p.2) ∈ ks) = false:=decide_eq_false (f3.mp rfl)
        rw [f4]
        refine acalls_enterK (cf:=cf 17 [0,1,2,3]) foll Tryz.func252 Tryz.ntmps252 (by simp [cf]) ?_
        simp only [Tryz.f252,EnterK_some,zW,zX,zD,builtinA,isLeaf,const1,ustrA,simprocAttr,ti4,ti9,ti180,ti358,ti360,mi358,cf,Tryz.results252]
        simp only [zW,zX,zD,builtinA,isLeaf,const1,ustrA,simprocAttr,ti4,ti9,ti180,ti358,ti360,mi358,cf,Tryz.results252,h1,h2,h3,decide_eq_true hm,f1]
        exact fin false
      · have f4 : w = .bool (decide ((false,p.2) ∈ ks)):=f2
        subst f4
        refine acalls_enterK (cf:=cf 17 [0,1,2,3]) foll Tryz.func252 Tryz.ntmps252 (by simp [cf]) ?_
        simp only [Tryz.f252,EnterK_some,zW,zX,zD,builtinA,isLeaf,const1,ustrA,simprocAttr,ti4,ti9,ti180,ti358,ti360,mi358,cf,Tryz.results252]
        simp only [zW,zX,zD,builtinA,isLeaf,const1,ustrA,simprocAttr,ti4,ti9,ti180,ti358,ti360,mi358,cf,Tryz.results252,h1,h2,h3,decide_eq_true hm,f1]
        exact fin _
    · have hok : okN ks p = true:=by simp [okN,hm]
      rw [hok,Bool.true_and]
      refine acalls_enterK (cf:=cf 17 [0,1,2,3]) foll Tryz.func252 Tryz.ntmps252 (by simp [cf]) ?_
      simp only [Tryz.f252,EnterK_some,zW,zX,zD,builtinA,isLeaf,const1,ustrA,simprocAttr,ti4,ti9,ti180,ti358,ti360,mi358,cf,Tryz.results252]
      simp only [zW,zX,zD,builtinA,isLeaf,const1,ustrA,simprocAttr,ti4,ti9,ti180,ti358,ti360,mi358,cf,Tryz.results252,h1,h2,h3,decide_eq_false hm]
      exact fin true
def EachM (v : VT) : Prop:=∀ (i6 i3 im : Nat) (ks : List Ky) (b : Bool) (A : List Box),StM i6 i3 im ks b A →
  ACalls Tryz.prog ((pickF 429 436 358) v) [vX v,visF i6 i3] A (fun r A'=>StM i6 i3 im ks (b && allV (okN ks) v) A' ∧ FrK i6 A A')
set_option maxRecDepth 100000 in
theorem num_each : EachM .num:=fun i6 i3 im ks b A h=>by
  show ACalls Tryz.prog 429 _ _ _
  rw [vX]
  refine acalls_enterK (cf:=cf 4 [0]) foll Tryz.func429 Tryz.ntmps429 (by simp [cf]) ?_
  simp only [Tryz.f429,EnterK_some,zW,zX,zD,builtinA,isLeaf,const1,ustrA,simprocAttr,ti369,cf,Tryz.results429]
  simp only [allV,Bool.and_true]
  exact ⟨h.app _,FrK.app _ _ _⟩
set_option maxRecDepth 100000 in
theorem name_each (m k : List UInt8) : EachM (.nm m k):=fun i6 i3 im ks b A h=>by
  show ACalls Tryz.prog 358 _ _ _
  rw [vX,visF]
  refine acalls_enterK (cf:=cf 7 [0,1,2]) foll Tryz.func358 Tryz.ntmps358 (by simp [cf]) ?_
  simp only [Tryz.f358,EnterK_some,zW,zX,zD,builtinA,isLeaf,const1,ustrA,simprocAttr,ti180,cf,Tryz.results358]
  refine wpO_callv _ _ _ _ _ _ _ _ _ _ _ _ _ _ _ ?_
  simp only [zW,zX,zD,builtinA,isLeaf,const1,ustrA,simprocAttr,ti180,cf,Tryz.results358]
  refine ⟨by kernel_rfl,?_⟩
  refine callK_intro (by simp only [zW,zX,zD,builtinA,isLeaf,const1,ustrA,simprocAttr,List.nil_append,List.append_nil,List.cons_append] <;> rfl) (vis_ok i6 i3 im ks b _ (m,k) (h.app _)) ?_ rfl
  rintro r A' ⟨h1,h2⟩
  simp only [zW,zX,zD,builtinA,isLeaf,const1,ustrA,simprocAttr,ti180,cf,Tryz.results358]
  simp only [allV]
  exact ⟨h1,(FrK.app _ _ _).trans h2⟩
set_option maxRecDepth 100000 in
theorem fun_each (a b : VT) (ha : EachM a) (hb : EachM b) : EachM (.fn a b):=fun i6 i3 im ks c A h=>by
  show ACalls Tryz.prog 436 _ _ _
  rw [vX,visF]
  have hbx : ∀ A',FrK i6 (A ++ [Box.cells [.iface (vT a) (vX a),.iface (vT b) (vX b)]]) A' → A'.getD A.length .dead = .cells [.iface (vT a) (vX a),.iface (vT b) (vX b)]:=fun A' hf=>by
    have:=h.2.2.2.2.2.1
    rw [hf.2 A.length (by simp) (by omega),Abs.getD_append_right (by omega)]; simp
  refine acalls_enterK (cf:=cf 12 [0,1,2]) foll Tryz.func436 Tryz.ntmps436 (by simp [cf]) ?_
  simp only [Tryz.f436,EnterK_some,zW,zX,zD,builtinA,isLeaf,const1,ustrA,simprocAttr,ti175,ti422,cf,Tryz.results436]
  refine wpO_invoke _ _ _ _ _ _ _ _ _ _ _ _ _ _ _ _ ?_
  simp only [zW,zX,zD,builtinA,isLeaf,const1,ustrA,simprocAttr,ti175,ti422,cf,Tryz.results436]
  refine meth_invK (met3 (by kernel_rfl) (by kernel_rfl) (by kernel_rfl) (by kernel_rfl) (by kernel_rfl) (by kernel_rfl)) (ha i6 i3 im ks c _ (h.app _)) rfl (fun _=>rfl) ?_
  rintro r A1 ⟨h1,f1⟩
  have b1:=hbx A1 f1
  simp only [zW,zX,zD,builtinA,isLeaf,const1,ustrA,simprocAttr,ti175,ti422,cf,Tryz.results436,b1]
  refine wpO_invoke _ _ _ _ _ _ _ _ _ _ _ _ _ _ _ _ ?_
  simp only [zW,zX,zD,builtinA,isLeaf,const1,ustrA,simprocAttr,ti175,ti422,cf,Tryz.results436]
  refine meth_invK (met3 (by kernel_rfl) (by kernel_rfl) (by kernel_rfl) (by kernel_rfl) (by kernel_rfl) (by kernel_rfl)) (hb i6 i3 im ks _ _ h1) rfl (fun _=>rfl) ?_
  rintro r A2 ⟨h2,f2⟩
  simp only [zW,zX,zD,builtinA,isLeaf,const1,ustrA,simprocAttr,ti175,ti422,cf,Tryz.results436]
  rw [allV,← Bool.and_assoc]
  exact ⟨h2,(FrK.app _ _ _).trans (f1.trans f2)⟩
theorem eachM : ∀ v,EachM v
  | .num=>num_each
  | .nm m k=>name_each m k
  | .fn a b=>fun_each a b (eachM a) (eachM b)
theorem frzC_viX (x : VI) (A : List Box) : frzC (viX x) A = some (viX x,A):=by
  cases x with
  | ab n=>rfl
  | al n v=>cases v <;> rfl
  | va n v=>cases v <;> rfl
def pickI (x y z : FuncId) : VI → FuncId
  | .ab _=>x
  | .al _ _=>y
  | .va _ _=>z
structure MetI (name : String) (gs : VI → FuncId) : Prop where
  find : ∀ v,methA Tryz.prog (viT v) name = some (gs v)
  call : ∀ v,callable Tryz.prog (gs v) = true
theorem metI3 {name : String} {x y z : FuncId} (h1 : methA Tryz.prog 354 name = some x) (h2 : methA Tryz.prog 356 name = some y) (h3 : methA Tryz.prog 357 name = some z)
    (c1 : callable Tryz.prog x = true) (c2 : callable Tryz.prog y = true) (c3 : callable Tryz.prog z = true) : MetI name (pickI x y z) :=
  ⟨fun v=>match v with
    | .ab _=>h1
    | .al _ _=>h2
    | .va _ _=>h3,
   fun v=>match v with
    | .ab _=>c1
    | .al _ _=>c2
    | .va _ _=>c3⟩
theorem methI_invK {own ow : FuncId → Bool} {name : String} {gs : VI → FuncId} {v : VI} {args args' : List AV} {A A1 : List Box} {R : AV → List Box → Prop} {N : Nat} {ops : Array Oper} {Q : Env → List Box → Prop} {rest : List Oper} {d : Option Tmp} {e : Env}
    (hm : MetI name gs) (h : ACalls Tryz.prog (gs v) (viX v :: args') A1 R) (hf : frzs args A = some (args',A1)) (ho : ∀ g,own g = false)
    (hk : ∀ r A',R r A' → wpO Tryz.prog ow N ops Q rest (putA N d r e) A') : InvK Tryz.prog own name (.iface (viT v) (viX v)) args A (ContO Tryz.prog ow N ops Q rest d e):=by
  have h1:=hm.find v
  have h2:=hm.call v
  generalize gs v = g at h h1 h2
  refine ⟨g,h1,h2,callK_intro (args':=viX v :: args') (A1:=A1) ?_ h hk (ho g)⟩
  simp only [frzs,frzC_viX,hf]
theorem methI_invD {own : FuncId → Bool} {name : String} {gs : VI → FuncId} {v : VI} {args args' : List AV} {A : List Box} {x : AV} {N : Nat} {ops : Array Oper} {Q : Env → Prop} {rest : List Oper} {d : Option Tmp} {e : Env}
    (hm : MetI name gs) (h : ACalls Tryz.prog (gs v) (viX v :: args') A (fun v' A'=>v' = x ∧ A' = A)) (hf : frzs args A = some (args',A)) (ho : ∀ g,own g = false)
    (hk : wpD Tryz.prog own N ops A Q rest (putA N d x e)) : InvD Tryz.prog own name (.iface (viT v) (viX v)) args A N ops Q rest d e:=by
  have h1:=hm.find v
  have h2:=hm.call v
  generalize gs v = g at h h1 h2
  refine ⟨g,h1,h2,callD_intro (args':=viX v :: args') ?_ h hk (ho g)⟩
  simp only [frzs,frzC_viX,hf]
set_option maxRecDepth 100000 in
theorem ab_key (n : List UInt8) (A : List Box) : ACalls Tryz.prog 405 [viX (.ab n)] A (fun r A'=>r = .agg (kE (viK (.ab n))) ∧ A' = A):=by
  rw [viX]
  refine acalls_enter (cf:=cf 6 [0,1,2]) foll Tryz.func405 Tryz.ntmps405 (by simp [cf]) ?_
  simp only [Tryz.f405,EnterK_some,zW,zX,zD,builtinA,isLeaf,const1,ustrA,simprocAttr,ti9,ti354,ti360,cf,Tryz.results405]
  rfl
set_option maxRecDepth 100000 in
theorem al_key (n : List UInt8) (v : VT) (A : List Box) : ACalls Tryz.prog 412 [viX (.al n v)] A (fun r A'=>r = .agg (kE (viK (.al n v))) ∧ A' = A):=by
  rw [viX]
  refine acalls_enter (cf:=cf 6 [0,1,2]) foll Tryz.func412 Tryz.ntmps412 (by simp [cf]) ?_
  simp only [Tryz.f412,EnterK_some,zW,zX,zD,builtinA,isLeaf,const1,ustrA,simprocAttr,ti9,ti356,ti360,cf,Tryz.results412]
  rfl
set_option maxRecDepth 100000 in
theorem va_key (n : List UInt8) (v : VT) (A : List Box) : ACalls Tryz.prog 421 [viX (.va n v)] A (fun r A'=>r = .agg (kE (viK (.va n v))) ∧ A' = A):=by
  rw [viX]
  refine acalls_enter (cf:=cf 6 [0,1,2]) foll Tryz.func421 Tryz.ntmps421 (by simp [cf]) ?_
  simp only [Tryz.f421,EnterK_some,zW,zX,zD,builtinA,isLeaf,const1,ustrA,simprocAttr,ti9,ti357,ti360,cf,Tryz.results421]
  rfl
theorem keyI (x : VI) (A : List Box) : ACalls Tryz.prog ((pickI 405 412 421) x) [viX x] A (fun r A'=>r = .agg (kE (viK x)) ∧ A' = A):=by
  cases x with
  | ab n=>exact ab_key n A
  | al n v=>exact al_key n v A
  | va n v=>exact va_key n v A
def EachI (x : VI) : Prop:=∀ (i6 i3 im : Nat) (ks : List Ky) (b : Bool) (A : List Box),StM i6 i3 im ks b A →
  ACalls Tryz.prog ((pickI 404 411 420) x) [viX x,visF i6 i3] A (fun r A'=>StM i6 i3 im ks (b && allI (okN ks) x) A' ∧ FrK i6 A A')
set_option maxRecDepth 100000 in
theorem ab_each (n : List UInt8) : EachI (.ab n):=fun i6 i3 im ks b A h=>by
  show ACalls Tryz.prog 404 _ _ _
  rw [viX]
  refine acalls_enterK (cf:=cf 4 [0]) foll Tryz.func404 Tryz.ntmps404 (by simp [cf]) ?_
  simp only [Tryz.f404,EnterK_some,zW,zX,zD,builtinA,isLeaf,const1,ustrA,simprocAttr,ti354,cf,Tryz.results404]
  simp only [allI,Bool.and_true]
  exact ⟨h.app _,FrK.app _ _ _⟩
set_option maxRecDepth 100000 in
theorem al_each (n : List UInt8) (v : VT) : EachI (.al n v):=fun i6 i3 im ks b A h=>by
  show ACalls Tryz.prog 411 _ _ _
  rw [viX,visF]
  refine acalls_enterK (cf:=cf 8 [0,1,2]) foll Tryz.func411 Tryz.ntmps411 (by simp [cf]) ?_
  simp only [Tryz.f411,EnterK_some,zW,zX,zD,builtinA,isLeaf,const1,ustrA,simprocAttr,ti175,ti356,cf,Tryz.results411]
  refine wpO_invoke _ _ _ _ _ _ _ _ _ _ _ _ _ _ _ _ ?_
  simp only [zW,zX,zD,builtinA,isLeaf,const1,ustrA,simprocAttr,ti175,ti356,cf,Tryz.results411]
  refine meth_invK (met3 (by kernel_rfl) (by kernel_rfl) (by kernel_rfl) (by kernel_rfl) (by kernel_rfl) (by kernel_rfl)) (eachM v i6 i3 im ks b _ (h.app _)) rfl (fun _=>rfl) ?_
  rintro r A1 ⟨h1,f1⟩
  simp only [zW,zX,zD,builtinA,isLeaf,const1,ustrA,simprocAttr,ti175,ti356,cf,Tryz.results411]
  simp only [allI]
  exact ⟨h1,(FrK.app _ _ _).trans f1⟩
set_option maxRecDepth 100000 in
theorem va_each (n : List UInt8) (v : VT) : EachI (.va n v):=fun i6 i3 im ks b A h=>by
  show ACalls Tryz.prog 420 _ _ _
  rw [viX,visF]
  refine acalls_enterK (cf:=cf 8 [0,1,2]) foll Tryz.func420 Tryz.ntmps420 (by simp [cf]) ?_
  simp only [Tryz.f420,EnterK_some,zW,zX,zD,builtinA,isLeaf,const1,ustrA,simprocAttr,ti175,ti357,cf,Tryz.results420]
  refine wpO_invoke _ _ _ _ _ _ _ _ _ _ _ _ _ _ _ _ ?_
  simp only [zW,zX,zD,builtinA,isLeaf,const1,ustrA,simprocAttr,ti175,ti357,cf,Tryz.results420]
  refine meth_invK (met3 (by kernel_rfl) (by kernel_rfl) (by kernel_rfl) (by kernel_rfl) (by kernel_rfl) (by kernel_rfl)) (eachM v i6 i3 im ks b _ (h.app _)) rfl (fun _=>rfl) ?_
  rintro r A1 ⟨h1,f1⟩
  simp only [zW,zX,zD,builtinA,isLeaf,const1,ustrA,simprocAttr,ti175,ti357,cf,Tryz.results420]
  simp only [allI]
  exact ⟨h1,(FrK.app _ _ _).trans f1⟩
theorem eachI (x : VI) : EachI x:=by
  cases x with
  | ab n=>exact ab_each n
  | al n v=>exact al_each n v
  | va n v=>exact va_each n v
theorem methI_invE {own : FuncId → Bool} {name : String} {gs : VI → FuncId} {v : VI} {args : List AV} {x : AV} {N : Nat} {ops : Array Oper} {T : Ranks} {As : Nat → List Box} {Q : Env → Prop} {k : Nat} {rest : List Oper} {d : Option Tmp} {e : Env}
    (hm : MetI name gs) (h : ACalls Tryz.prog (gs v) (viX v :: args) (As (T.lo k)) (fun v' A'=>v' = x ∧ A' = As (T.next k (T.lo k)))) (hr : T.lo k = T.hi k)
    (hk : wpG Tryz.prog own N ops T As Q (k + 1) rest (putA N d x e)) : InvE Tryz.prog own N ops T As Q k name (.iface (viT v) (viX v)) args rest d e :=
  ⟨gs v,hm.find v,hm.call v,callEO_intro h hk hr⟩
theorem wpD_look (P : Program) (own : FuncId → Bool) (N : Nat) (ops : Array Oper) (Q : Env → Prop) (rest : List Oper) (e : Env) (A : List Box) (d : Option Tmp) (ty : TypeId) (pos : String) (af : Array Edge) (t : TypeId) (x y : Operand) (b : Bool) :
    wpD P own N ops A Q (⟨d,.lookup t x y b,ty,pos,af,none⟩ :: rest) e = StepK (astep P (.lookup t x y b) [evA e x,evA e y] A) (ContD P own N ops A Q rest d e):=by
  rw [wpD_step _ _ _ _ _ _ _ _ _ _ _ _ rfl]; rfl
theorem wpG_upd (P : Program) (own : FuncId → Bool) (N : Nat) (ops : Array Oper) (T : Ranks) (As : Nat → List Box) (Q : Env → Prop) (k : Nat) (rest : List Oper) (e : Env) (d : Option Tmp) (ty : TypeId) (pos : String) (af : Array Edge) (t : TypeId) (x y z : Operand) :
    wpG P own N ops T As Q k (⟨d,.mapUpdate t x y z,ty,pos,af,none⟩ :: rest) e = StepK (astep P (.mapUpdate t x y z) [evA e x,evA e y,evA e z] (As (T.lo k))) (ContE P own N ops T As Q k rest d e (.mapUpdate t x y z) [evA e x,evA e y,evA e z]):=by
  rw [wpG_step _ _ _ _ _ _ _ _ _ _ _ _ _ _ rfl]; rfl
def vi0 : VI:=.ab []
def stepB (zs : List VI) (y : VI) : Bool:=allI (okN (zs.map viK)) y && !decide (viK y ∈ zs.map viK)
def ordB (ys : List VI) : Bool:=(List.range ys.length).all fun i=>stepB (ys.take i) (ys.getD i vi0)
def vRow (y : VI) : List AV:=[.iface (viT y) (viX y)]
def vRows (ys : List VI) : List (List AV):=ys.map vRow
theorem vRows_length (ys : List VI) : (vRows ys).length = ys.length:=by simp [vRows]
theorem vRows_getD {ys : List VI} {i : Nat} (h : i < ys.length) : (vRows ys).getD i [] = vRow (ys.getD i vi0):=by simp [vRows,List.getD,h]
theorem keys_take {ys : List VI} {i : Nat} (h : i < ys.length) : (ys.take (i + 1)).map viK = (ys.take i).map viK ++ [viK (ys.getD i vi0)]:=by
  rw [List.take_add_one,List.map_append]
  simp [List.getD,h]
theorem ordB_no {ys : List VI} {i : Nat} (hi : i < ys.length) (h : stepB (ys.take i) (ys.getD i vi0) = false) : ordB ys = false:=by
  unfold ordB
  rw [List.all_eq_false]
  exact ⟨i,List.mem_range.mpr hi,by rw [h]; simp⟩
theorem ordB_yes {ys : List VI} (h : ∀ k,k < ys.length → stepB (ys.take k) (ys.getD k vi0) = true) : ordB ys = true:=by
  unfold ordB
  rw [List.all_eq_true]
  intro k hk
  exact h k (List.mem_range.mp hk)
theorem upd_none (ks : List Ky) (q : Ky) (A : List Box) : updA none (kE q) (.bool true) (esK ks) = esK (ks ++ [q]):=by
  simp [updA,esK]
theorem frk_split {A B A1 : List Box} {x y z : Box} {i3 im : Nat} {ks : List Ky} {b : Bool} (hs : StM (A.length + (B.length + 1 + 1)) i3 im ks b A1) (hf : FrK (A.length + (B.length + 1 + 1)) (A ++ x :: y :: (B ++ [z])) A1) :
    ∃ B',A1 = A ++ x :: y :: B' ∧ B'.getD B.length .dead = .cells [.bool b]:=by
  have hl:=hf.1
  simp at hl
  have ht : A1.take (A.length + 2) = A ++ [x,y]:=take_of_getD (by omega) (by simp) fun k hk=>by
    rw [hf.2 k (by simp; omega) (by omega)]
    rw [show A ++ x :: y :: (B ++ [z]) = (A ++ [x,y]) ++ (B ++ [z]) by simp,Abs.getD_append_left (by simp; omega)]
  refine ⟨A1.drop (A.length + 2),?_,?_⟩
  · rw [show A ++ x :: y :: A1.drop (A.length + 2) = (A ++ [x,y]) ++ A1.drop (A.length + 2) by simp,← ht,List.take_append_drop]
  · have:=hs.1
    simp only [List.getD,List.getElem?_drop] at this ⊢
    rw [show A.length + 2 + B.length = A.length + (B.length + 1 + 1) by omega]
    exact this
set_option maxRecDepth 100000 in
theorem impl_inOrder (ys : List VI) (hy : ys.length ≤ 1000) (A : List Box) : ACalls Tryz.prog 182 [.slice (vRows ys)] A (fun r A'=>r = .bool (ordB ys) ∧ A' = A):=by
  refine acalls_enter (cf:=cf 29 [0,2,3,5,6,8,9,10,11,24]) foll Tryz.func182 Tryz.ntmps182 (by simp [cf]) ?_
  simp only [Tryz.f182,EnterK_some,zW,zX,zD,builtinA,isLeaf,const1,ustrA,simprocAttr,ti3,ti4,ti140,ti158,ti358,mi358,cf,Tryz.results182]
  refine aloop_intro [3,8,9,10] (fun e A'=>∃ i B,i ≤ ys.length ∧ (∀ k,k < i → stepB (ys.take k) (ys.getD k vi0) = true) ∧ e = [(3,.ptr (A.length + 1) 0),(8,.slice (vRows ys)),(9,.int .i64 ys.length),(10,.int .i64 i)] ∧ A' = A ++ (.mapb (esK ((ys.take i).map viK)) :: .cells [.map A.length] :: B)) (fun e _=>ys.length - (intOf (Abs.look 10 e)).toNat) ?_ ?_
  · simp only [zW,zX,zD,builtinA,isLeaf,const1,ustrA,simprocAttr,ti3,ti4,ti140,ti158,ti358,mi358,cf,Tryz.results182,vRows_length]
    exact ⟨0,[],by omega,fun k hk=>by omega,rfl,by simp [esK]⟩
  · rintro e A' ⟨i,B,hi,hq,rfl,rfl⟩
    by_cases hlt : i < ys.length
    · have d1 : decide ((i : Int) < (ys.length : Int)) = true:=by simp; omega
      have hlt' : 0 ≤ (i : Int) ∧ (i : Int) < (ys.length : Int):=by omega
      have hg:=vRows_getD hlt
      have hkt:=keys_take hlt
      have hi1 : IntKind.i64.wrap ((i : Int) + 1) = ((i + 1 : Nat) : Int):=by rw [wrap64 (by omega) (by omega)]; rfl
      have hno:=@ordB_no ys i hlt
      have hste : stepB (ys.take i) (ys.getD i vi0) = (allI (okN ((ys.take i).map viK)) (ys.getD i vi0) && !decide (viK (ys.getD i vi0) ∈ (ys.take i).map viK)):=rfl
      generalize hyv : ys.getD i vi0 = y at *
      generalize hks : (ys.take i).map viK = ks at *
      rw [vRow] at hg
      simp only [zW,zX,zD,builtinA,isLeaf,const1,ustrA,simprocAttr,ti3,ti4,ti140,ti158,ti358,mi358,cf,Tryz.results182,vRows_length,d1,hg]
      refine ⟨hlt',?_⟩
      refine wpO_invoke _ _ _ _ _ _ _ _ _ _ _ _ _ _ _ _ ?_
      simp only [zW,zX,zD,builtinA,isLeaf,const1,ustrA,simprocAttr,ti3,ti4,ti140,ti158,ti358,mi358,cf,Tryz.results182]
      have hst : StM (A.length + (B.length + 1 + 1)) (A.length + 1) A.length ks true (A ++ Box.mapb (esK ks) :: Box.cells [AV.map A.length] :: (B ++ [Box.cells [AV.bool true]])) :=
        ⟨by simp,by simp,by simp,by omega,by omega,by simp,by simp,by simp⟩
      refine methI_invK (metI3 (by kernel_rfl) (by kernel_rfl) (by kernel_rfl) (by kernel_rfl) (by kernel_rfl) (by kernel_rfl)) (eachI y _ _ _ _ _ _ hst) rfl (fun _=>rfl) ?_
      rintro r A1 ⟨h1,f1⟩
      obtain ⟨B',rfl,hb⟩:=frk_split h1 f1
      rw [Bool.true_and] at hb
      cases ha : allI (okN ks) y with
      | false =>
        rw [ha] at hb
        rw [ha,Bool.false_and] at hste
        simp only [zW,zX,zD,builtinA,isLeaf,const1,ustrA,simprocAttr,ti3,ti4,ti140,ti158,ti358,mi358,cf,Tryz.results182,hb]
        refine .inl ⟨by kernel_rfl,by kernel_rfl,?_⟩
        rw [hno hste]
      | true =>
        rw [ha] at hb
        rw [ha,Bool.true_and] at hste
        obtain ⟨r,e1,e2,e3⟩:=find_k (viK y) ks 0
        by_cases hmem : viK y ∈ ks
        · rw [decide_eq_true hmem,Bool.not_true] at hste
          rcases r with _ | ⟨q,w⟩
          · exact absurd hmem (e3.mp rfl)
          · have f4 : w = .bool (decide (viK y ∈ ks)):=e2
            rw [decide_eq_true hmem] at f4
            subst f4
            simp only [zW,zX,zD,builtinA,isLeaf,const1,ustrA,simprocAttr,ti3,ti4,ti140,ti158,ti358,mi358,cf,Tryz.results182,hb]
            refine .inl ⟨by kernel_rfl,by kernel_rfl,?_⟩
            refine wpD_invoke _ _ _ _ _ _ _ _ _ _ _ _ _ _ _ _ ?_
            simp only [zW,zX,zD,builtinA,isLeaf,const1,ustrA,simprocAttr,ti3,ti4,ti140,ti158,ti358,mi358,cf,Tryz.results182]
            refine methI_invD (metI3 (by kernel_rfl) (by kernel_rfl) (by kernel_rfl) (by kernel_rfl) (by kernel_rfl) (by kernel_rfl)) (keyI y _) rfl (fun _=>rfl) ?_
            simp only [zW,zX,zD,builtinA,isLeaf,const1,ustrA,simprocAttr,ti3,ti4,ti140,ti158,ti358,mi358,cf,Tryz.results182,wpD_look,e1]
            refine ⟨⟨rfl,rfl⟩,?_⟩
            rw [hno hste]
        · rw [decide_eq_false hmem,Bool.not_false] at hste
          rcases r with _ | ⟨q,w⟩
          · simp only [zW,zX,zD,builtinA,isLeaf,const1,ustrA,simprocAttr,ti3,ti4,ti140,ti158,ti358,mi358,cf,Tryz.results182,hb]
            refine .inl ⟨by kernel_rfl,by kernel_rfl,?_⟩
            refine wpD_invoke _ _ _ _ _ _ _ _ _ _ _ _ _ _ _ _ ?_
            simp only [zW,zX,zD,builtinA,isLeaf,const1,ustrA,simprocAttr,ti3,ti4,ti140,ti158,ti358,mi358,cf,Tryz.results182]
            refine methI_invD (metI3 (by kernel_rfl) (by kernel_rfl) (by kernel_rfl) (by kernel_rfl) (by kernel_rfl) (by kernel_rfl)) (keyI y _) rfl (fun _=>rfl) ?_
            simp only [zW,zX,zD,builtinA,isLeaf,const1,ustrA,simprocAttr,ti3,ti4,ti140,ti158,ti358,mi358,cf,Tryz.results182,wpD_look,e1]
            refine ⟨⟨rfl,rfl⟩,?_⟩
            refine .inr (drawE_intro [(false,0,1),(false,0,0),(true,0,0),(true,1,1)] [A ++ (.mapb (esK ks) :: .cells [.map A.length] :: B'),A ++ (.mapb (esK ks) :: .cells [.map A.length] :: B'),A ++ (.mapb (esK (ks ++ [viK y])) :: .cells [.map A.length] :: B')] 2 rfl (by kernel_rfl) (by kernel_rfl) (by kernel_rfl) (by kernel_rfl) (by kernel_rfl) (by kernel_rfl) ?_)
            simp only [zW,zX,zD,builtinA,isLeaf,const1,ustrA,simprocAttr,ti3,ti4,ti140,ti158,ti358,mi358,cf,Tryz.results182]
            refine wpG_invoke _ _ _ _ _ _ _ _ _ _ _ _ _ _ _ _ _ _ ?_
            simp only [zW,zX,zD,builtinA,isLeaf,const1,ustrA,simprocAttr,ti3,ti4,ti140,ti158,ti358,mi358,cf,Tryz.results182]
            refine methI_invE (metI3 (by kernel_rfl) (by kernel_rfl) (by kernel_rfl) (by kernel_rfl) (by kernel_rfl) (by kernel_rfl)) (keyI y _) rfl ?_
            simp only [zW,zX,zD,builtinA,isLeaf,const1,ustrA,simprocAttr,ti3,ti4,ti140,ti158,ti358,mi358,cf,Tryz.results182,wpG_upd,e1,upd_none]
            refine ⟨⟨rfl,rfl⟩,by simp [esK],?_⟩
            simp only [zW,zX,zD,builtinA,isLeaf,const1,ustrA,simprocAttr,ti3,ti4,ti140,ti158,ti358,mi358,cf,Tryz.results182,hi1,LoopK_eq]
            refine ⟨⟨i + 1,B',by omega,fun k hk=>?_,rfl,by rw [hkt]⟩,?_⟩
            · rcases Nat.lt_succ_iff_lt_or_eq.mp hk with h | rfl
              · exact hq k h
              · rw [hyv]; exact hste
            · simp only [intOf]; omega
          · exact absurd hmem (fun h=>nomatch e3.mpr (by simp [h] at e3))
    · have d1 : decide ((i : Int) < (ys.length : Int)) = false:=by simp; omega
      have e : i = ys.length:=by omega
      subst e
      simp only [zW,zX,zD,builtinA,isLeaf,const1,ustrA,simprocAttr,ti3,ti4,ti140,ti158,ti358,mi358,cf,Tryz.results182,vRows_length,d1]
      rw [ordB_yes hq]
noncomputable def itemOk (x : SigI) : Bool:=localB x.name && (if x.kind = 1 then decide (x.typ = ty0) else if x.kind = 2 ∨ x.kind = 3 then validB x.typ else false)
def ItemOf (x : SigI) : VI → Prop
  | .ab n=>x.name = n ∧ x.kind = 1 ∧ x.typ = ty0
  | .al n v=>x.name = n ∧ x.kind = 2 ∧ x.typ = toTy v ∧ VOk v
  | .va n v=>x.name = n ∧ x.kind = 3 ∧ x.typ = toTy v ∧ VOk v
set_option maxRecDepth 100000 in
theorem impl_readItem (x : SigI) (hx : x.Ok) (hz : sz x.typ ≤ 1048576) (A : List Box) : ACalls Tryz.prog 181 [.agg (sE x)] A (fun r A'=>((∃ y,localB x.name = true ∧ ItemOf x y ∧ r = .tuple [.iface (viT y) (viX y),.bool true]) ∨ (itemOk x = false ∧ ∃ c,r = .tuple [c,.bool false])) ∧ A' = A):=by
  have hsx : sE x = .int .i64 x.kind :: .str x.name :: enc x.typ:=rfl
  rw [hsx]
  refine acalls_enter (cf:=cf 45 [0,1,2,3,4,5,9,12,28,29,37]) foll Tryz.func181 Tryz.ntmps181 (by simp [cf]) ?_
  simp only [Tryz.f181,EnterK_some,zW,zX,zD,builtinA,isLeaf,const1,ustrA,simprocAttr,ti3,ti9,ti36,ti69,ti354,ti356,ti357,ca111,ca250,ca251,cf,Tryz.results181]
  refine ⟨by omega,?_⟩
  refine callK_intro (by simp only [zW,zX,zD,builtinA,isLeaf,const1,ustrA,simprocAttr,Option.map_some]; rfl) (impl_LocalName x.name _) ?_ rfl; rintro v A' ⟨rfl,rfl⟩
  cases hl : localB x.name with
  | false =>
    simp only [zW,zX,zD,builtinA,isLeaf,const1,ustrA,simprocAttr,ti3,ti9,ti36,ti69,ti354,ti356,ti357,ca111,ca250,ca251,cf,Tryz.results181]
    exact .inr ⟨by simp [itemOk,hl],_,rfl⟩
  | true =>
    simp only [zW,zX,zD,builtinA,isLeaf,const1,ustrA,simprocAttr,ti3,ti9,ti36,ti69,ti354,ti356,ti357,ca111,ca250,ca251,cf,Tryz.results181]
    by_cases k1 : x.kind = 1
    · have hts : ∀ A,ACalls Tryz.prog 251 [.agg (enc x.typ),.agg (enc ty0)] A (fun r A'=>r = .bool (decide (x.typ = ty0)) ∧ A' = A):=fun A=>impl_TypeSame0 x.typ A
      simp only [zW,zX,zD,builtinA,isLeaf,const1,ustrA,simprocAttr,ti3,ti9,ti36,ti69,ti354,ti356,ti357,ca111,ca250,ca251,cf,Tryz.results181,decide_eq_true k1,enc_take,enc_length]
      refine .inl ⟨by kernel_rfl,by kernel_rfl,?_⟩
      refine callD_intro (by simp only [zW,zX,zD,builtinA,isLeaf,const1,ustrA,simprocAttr,frzL_enc,Option.map_some] <;> rfl) (hts _) ?_ rfl
      simp only [zW,zX,zD,builtinA,isLeaf,const1,ustrA,simprocAttr,ti3,ti9,ti36,ti69,ti354,ti356,ti357,ca111,ca250,ca251,cf,Tryz.results181]
      by_cases ht : x.typ = ty0
      · rw [decide_eq_true ht]
        exact .inl ⟨.ab x.name,⟨rfl,k1,ht⟩,rfl⟩
      · rw [decide_eq_false ht]
        exact .inr ⟨by simp [itemOk,k1,ht],_,rfl⟩
    · simp only [zW,zX,zD,builtinA,isLeaf,const1,ustrA,simprocAttr,ti3,ti9,ti36,ti69,ti354,ti356,ti357,ca111,ca250,ca251,cf,Tryz.results181,decide_eq_false k1,enc_take,enc_length]
      refine callK_intro (by simp only [zW,zX,zD,builtinA,isLeaf,const1,ustrA,simprocAttr,frzL_enc,Option.map_some]; rfl) (impl_readType x.typ _) ?_ rfl
      rintro r A' ⟨h,rfl⟩
      rcases h with ⟨v,hv,hvo,rfl⟩ | ⟨hv,rfl⟩
      · by_cases k2 : x.kind = 2
        · simp only [zW,zX,zD,builtinA,isLeaf,const1,ustrA,simprocAttr,ti3,ti9,ti36,ti69,ti354,ti356,ti357,ca111,ca250,ca251,cf,Tryz.results181,decide_eq_true k2]
          exact ⟨by omega,by omega,.inl ⟨.al x.name v,⟨rfl,k2,hv,hvo⟩,rfl⟩⟩
        · by_cases k3 : x.kind = 3
          · simp only [zW,zX,zD,builtinA,isLeaf,const1,ustrA,simprocAttr,ti3,ti9,ti36,ti69,ti354,ti356,ti357,ca111,ca250,ca251,cf,Tryz.results181,decide_eq_false k2,decide_eq_true k3]
            exact ⟨by omega,by omega,.inl ⟨.va x.name v,⟨rfl,k3,hv,hvo⟩,rfl⟩⟩
          · simp only [zW,zX,zD,builtinA,isLeaf,const1,ustrA,simprocAttr,ti3,ti9,ti36,ti69,ti354,ti356,ti357,ca111,ca250,ca251,cf,Tryz.results181,decide_eq_false k2,decide_eq_false k3]
            exact ⟨by omega,.inr ⟨by simp [itemOk,k1,k2,k3],_,rfl⟩⟩
      · by_cases k2 : x.kind = 2
        · simp only [zW,zX,zD,builtinA,isLeaf,const1,ustrA,simprocAttr,ti3,ti9,ti36,ti69,ti354,ti356,ti357,ca111,ca250,ca251,cf,Tryz.results181,decide_eq_true k2]
          exact ⟨by omega,by omega,.inr ⟨by simp [itemOk,k2,hv],_,rfl⟩⟩
        · by_cases k3 : x.kind = 3
          · simp only [zW,zX,zD,builtinA,isLeaf,const1,ustrA,simprocAttr,ti3,ti9,ti36,ti69,ti354,ti356,ti357,ca111,ca250,ca251,cf,Tryz.results181,decide_eq_false k2,decide_eq_true k3]
            exact ⟨by omega,by omega,.inr ⟨by simp [itemOk,k3,hv],_,rfl⟩⟩
          · simp only [zW,zX,zD,builtinA,isLeaf,const1,ustrA,simprocAttr,ti3,ti9,ti36,ti69,ti354,ti356,ti357,ca111,ca250,ca251,cf,Tryz.results181,decide_eq_false k2,decide_eq_false k3]
            exact ⟨by omega,.inr ⟨by simp [itemOk,k1,k2,k3],_,rfl⟩⟩
def ReadsTo (s : List SigI) (ys : List VI) : Prop:=ys.length = s.length ∧ ∀ i,i < s.length → localB (s.getD i si0).name = true ∧ ItemOf (s.getD i si0) (ys.getD i vi0)
theorem viX_leaf (y : VI) : isLeaf (AV.iface (viT y) (viX y)) = true:=by
  cases y with
  | ab n=>rfl
  | al n v=>cases v <;> rfl
  | va n v=>cases v <;> rfl
theorem vRows_leaf (ys : List VI) : ∀ r ∈ vRows ys,r.length = 1 ∧ ∀ v ∈ r,isLeaf v = true:=by
  intro r hr
  obtain ⟨y,_,rfl⟩:=List.mem_map.mp hr
  refine ⟨rfl,fun v hv=>?_⟩
  simp only [vRow,List.mem_singleton] at hv
  subst hv
  exact viX_leaf y
theorem vRows_view (ys : List VI) (A : List Box) : ∀ k j,k < (vRows ys).length → j < 1 → View A (Abs.rowAt (vRows ys) k j) (Abs.rowAt (vRows ys) k j):=by
  intro k j hk hj
  have : j = 0:=by omega
  subst this
  refine .leaf _ ?_
  rw [vRows_length] at hk
  simp only [Abs.rowAt,vRows_getD hk,vRow]
  exact viX_leaf _
theorem vRow_step {ys : List VI} {n : Nat} (y : VI) (h : ys.length < n) : (vRows ys ++ List.replicate (n - ys.length) [AV.nili]).set ys.length (AV.iface (viT y) (viX y) :: List.drop 1 ((vRows ys ++ List.replicate (n - ys.length) [AV.nili]).getD ys.length [])) = vRows (ys ++ [y]) ++ List.replicate (n - (ys.length + 1)) [AV.nili]:=by
  obtain ⟨m,rfl⟩ : ∃ m,n = ys.length + (m + 1):=⟨n - ys.length - 1,by omega⟩
  have e1 : ys.length + (m + 1) - ys.length = m + 1:=by omega
  have e2 : ys.length + (m + 1) - (ys.length + 1) = m:=by omega
  rw [e1,e2,List.replicate_succ]
  have hl:=vRows_length ys
  rw [Abs.getD_append_right (by omega),List.set_append_right _ _ (by omega),hl]
  simp [vRows,vRow]
set_option maxRecDepth 100000 in
theorem impl_readEach (s : List SigI) (hs : s.length ≤ 1048576) (ho : ∀ x ∈ s,x.Ok ∧ sz x.typ ≤ 1048576) (A : List Box) : ACalls Tryz.prog 180 [.slice (sEs s),.int .i64 8,.func (.func 181) [] []] A (fun r A'=>∃ B,A' = A ++ B ∧
    ((∃ ys j,s.length ≤ 8 ∧ ReadsTo s ys ∧ r = .tuple [.own (A.length + j),.bool true] ∧ j < B.length ∧ B.getD j .dead = .row 1 (vRows ys) 0) ∨ ((8 < s.length ∨ ∃ x ∈ s,itemOk x = false) ∧ r = .tuple [.nils,.bool false]))):=by
  by_cases h8 : s.length ≤ 8
  · have d1 : decide ((s.length : Int) > 8) = false:=by simp; omega
    have d1' : decide ((8 : Int) < (s.length : Int)) = false:=by simp; omega
    refine acalls_enterK (cf:=cf 41 [0,1,2,6,7,8,9,10,11,12,16,20,21,22,23,34]) foll Tryz.func180 Tryz.ntmps180 (by simp [cf]) ?_
    simp only [Tryz.f180,EnterK_some,zW,zX,zD,builtinA,isLeaf,const1,ustrA,simprocAttr,ti3,ti50,ti69,ti139,ti158,cf,Tryz.results180]
    simp only [zW,zX,zD,builtinA,isLeaf,const1,ustrA,simprocAttr,ti3,ti50,ti69,ti139,ti158,cf,Tryz.results180,sEs_length,d1,d1']
    refine ⟨⟨by omega,by omega,by omega⟩,?_⟩
    refine aloop_intro [2,8,20,21,22] (fun e A'=>∃ i ys B,i ≤ s.length ∧ ys.length = i ∧ (∀ k,k < i → localB (s.getD k si0).name = true ∧ ItemOf (s.getD k si0) (ys.getD k vi0)) ∧ e = [(2,.func (.func 181) [] []),(8,.own A.length),(20,.slice (sEs s)),(21,.int .i64 s.length),(22,.int .i64 i)] ∧ A' = A ++ (.row 1 (vRows ys ++ List.replicate (s.length - i) [.nili]) 0 :: B)) (fun e _=>s.length - (intOf (Abs.look 22 e)).toNat) ?_ ?_
    · simp only [zW,zX,zD,builtinA,isLeaf,const1,ustrA,simprocAttr,ti3,ti50,ti69,ti139,ti158,cf,Tryz.results180]
      exact ⟨0,[],[],by omega,rfl,fun k hk=>by omega,rfl,by simp [vRows]⟩
    · rintro e A' ⟨i,ys,B,hi,hyl,hq,rfl,rfl⟩
      by_cases hlt : i < s.length
      · have d2 : decide ((i : Int) < (s.length : Int)) = true:=by simp; omega
        have hlt' : 0 ≤ (i : Int) ∧ (i : Int) < (s.length : Int):=by omega
        have hg:=sEs_getD hlt
        have hmem:=si_mem hlt
        have hi1 : IntKind.i64.wrap ((i : Int) + 1) = ((i + 1 : Nat) : Int):=by rw [wrap64 (by omega) (by omega)]; rfl
        have hri:=fun A=>impl_readItem (s.getD i si0) (ho _ hmem).1 (ho _ hmem).2 A
        generalize hx : s.getD i si0 = x at *
        simp only [zW,zX,zD,builtinA,isLeaf,const1,ustrA,simprocAttr,ti3,ti50,ti69,ti139,ti158,cf,Tryz.results180,sEs_length,d2,hg,sE_length,sE_take]
        refine ⟨hlt',?_⟩
        refine wpO_callv _ _ _ _ _ _ _ _ _ _ _ _ _ _ _ ?_
        simp only [zW,zX,zD,builtinA,isLeaf,const1,ustrA,simprocAttr,ti3,ti50,ti69,ti139,ti158,cf,Tryz.results180]
        refine ⟨by kernel_rfl,?_⟩
        refine callK_intro (by simp only [zW,zX,zD,builtinA,isLeaf,const1,ustrA,simprocAttr,frzL_sE,Option.map_some,List.nil_append,List.append_nil]; rfl) (hri _) ?_ rfl
        rintro r A' ⟨h,rfl⟩
        rcases h with ⟨y,hln,hit,rfl⟩ | ⟨hbad,c,rfl⟩
        · have hst:=vRow_step (ys:=ys) (n:=s.length) y (by omega)
          have hlen : (vRows ys).length + (List.replicate (s.length - i) [AV.nili]).length = s.length:=by simp [vRows_length]; omega
          subst hyl
          simp only [zW,zX,zD,builtinA,isLeaf,const1,ustrA,simprocAttr,ti3,ti50,ti69,ti139,ti158,cf,Tryz.results180,hlen,vRows_length,hst,hi1,LoopK_eq]
          refine ⟨⟨by omega,by simp; omega⟩,⟨by omega,by simp; omega,fun v hv=>?_⟩,⟨ys.length + 1,ys ++ [y],_,by omega,by simp,fun k hk=>?_,rfl,rfl⟩,?_⟩
          · simp only [List.mem_singleton] at hv
            subst hv
            rfl
          · rcases Nat.lt_succ_iff_lt_or_eq.mp hk with h | rfl
            · have : (ys ++ [y]).getD k vi0 = ys.getD k vi0:=by simp [List.getD,List.getElem?_append_left h]
              rw [this]
              exact hq k h
            · rw [hx]
              have : (ys ++ [y]).getD ys.length vi0 = y:=by simp [List.getD]
              rw [this]
              exact ⟨hln,hit⟩
          · simp only [intOf]; omega
        · simp only [zW,zX,zD,builtinA,isLeaf,const1,ustrA,simprocAttr,ti3,ti50,ti69,ti139,ti158,cf,Tryz.results180]
          exact ⟨_,rfl,.inr (.inr ⟨x,hmem,hbad⟩)⟩
      · have d2 : decide ((i : Int) < (s.length : Int)) = false:=by simp; omega
        have e : ys.length = s.length:=by omega
        subst hyl
        have hz : List.replicate (s.length - ys.length) [AV.nili] = []:=by rw [e]; simp
        rw [hz,List.append_nil]
        simp only [zW,zX,zD,builtinA,isLeaf,const1,ustrA,simprocAttr,ti3,ti50,ti69,ti139,ti158,cf,Tryz.results180,sEs_length,d2]
        exact ⟨_,rfl,.inl ⟨ys,0,h8,⟨e,fun k hk=>hq k (by omega)⟩,rfl,by simp,rfl⟩⟩
  · have d1 : decide ((s.length : Int) > 8) = true:=by simp; omega
    have d1' : decide ((8 : Int) < (s.length : Int)) = true:=by simp; omega
    refine acalls_enterK (cf:=cf 41 [0,1,2,6,7,8,9,10,11,12,16,20,21,22,23,34]) foll Tryz.func180 Tryz.ntmps180 (by simp [cf]) ?_
    simp only [Tryz.f180,EnterK_some,zW,zX,zD,builtinA,isLeaf,const1,ustrA,simprocAttr,ti3,ti50,ti69,ti139,ti158,cf,Tryz.results180]
    simp only [zW,zX,zD,builtinA,isLeaf,const1,ustrA,simprocAttr,ti3,ti50,ti69,ti139,ti158,cf,Tryz.results180,sEs_length,d1,d1']
    exact ⟨[],by simp,.inr (.inl (by omega))⟩
set_option maxRecDepth 100000 in
theorem impl_readSig (s : List SigI) (hs : s.length ≤ 1048576) (ho : ∀ x ∈ s,x.Ok ∧ sz x.typ ≤ 1048576) (A : List Box) : ACalls Tryz.prog 91 [.slice (sEs s)] A (fun r A' =>
    ((∃ ys,s.length ≤ 8 ∧ ReadsTo s ys ∧ r = .tuple [.slice (vRows ys),.bool (ordB ys)]) ∨ ((8 < s.length ∨ ∃ x ∈ s,itemOk x = false) ∧ r = .tuple [.slice [],.bool false])) ∧ A' = A):=by
  have hre:=impl_readEach s hs ho A
  refine acalls_enter (cf:=cf 17 [0,2,3,4,5]) foll Tryz.func91 Tryz.ntmps91 (by simp [cf]) ?_
  simp only [Tryz.f91,EnterK_some,zW,zX,zD,builtinA,isLeaf,const1,ustrA,simprocAttr,ca180,ca182,cf,Tryz.results91]
  refine callO_intro hre ?_
  rintro r A' ⟨B,rfl,⟨ys,j,h8,hrt,rfl,hj,hg⟩ | ⟨hbad,rfl⟩⟩
  · have hg2 : (A ++ B).getD (A.length + j) .dead = .row 1 (vRows ys) 0:=by rw [Abs.getD_append_right (by omega),Nat.add_sub_cancel_left]; exact hg
    simp only [zW,zX,zD,builtinA,isLeaf,const1,ustrA,simprocAttr,ca180,ca182,cf,Tryz.results91]
    refine callO_intro (borrowI (.cons (.row (A.length + j) 1 0 (vRows ys) (vRows ys) hg2 rfl (vRows_leaf ys) (vRows_view ys _)) .nil) rfl (fun A=>impl_inOrder ys (by have:=hrt.1; omega) A)) ?_
    rintro r A' ⟨rfl,rfl⟩
    simp only [zW,zX,zD,builtinA,isLeaf,const1,ustrA,simprocAttr,ca180,ca182,cf,Tryz.results91,hg2]
    exact .inl ⟨ys,h8,hrt,rfl⟩
  · simp only [zW,zX,zD,builtinA,isLeaf,const1,ustrA,simprocAttr,ca180,ca182,cf,Tryz.results91]
    exact .inr hbad
end Go.Proofs.YtnjdbgiincliaaaGreat
/- What the two sides' readings of a signature have in common. -/
set_option linter.unusedVariables false
set_option linter.unusedSimpArgs false
namespace Go.Proofs.YtnjdbgiincliaaaGreat
open Go.Abs
theorem itemOf_isT {x : SigI} {y : VI} (h : ItemOf x y) (k : List UInt8) : (isTB x && decide (x.name = k)) = decide ((false,k) = viK y):=by
  rw [Bool.eq_iff_iff]
  cases y with
  | ab n=>obtain ⟨h1,h2,h3⟩:=h; simp [isTB,h1,h2,viK,eq_comm]
  | al n v=>obtain ⟨h1,h2,h3⟩:=h; simp [isTB,h1,h2,viK,eq_comm]
  | va n v=>obtain ⟨h1,h2,h3⟩:=h; simp [isTB,h1,h2,viK]
theorem itemOf_same {x x' : SigI} {y y' : VI} (h : ItemOf x y) (h' : ItemOf x' y') : sameK x x' = decide (viK y = viK y'):=by
  rw [Bool.eq_iff_iff]
  cases y <;> cases y' <;> (obtain ⟨h1,h2,_⟩:=h; obtain ⟨h3,h4,_⟩:=h'; simp [sameK,isTB,h1,h2,h3,h4,viK,eq_comm])
theorem hasT_keys {s : List SigI} {ys : List VI} (h : ReadsTo s ys) (k : List UInt8) : ∀ i,i ≤ s.length → hasT (s.take i) k = decide ((false,k) ∈ (ys.take i).map viK)
  | 0,_=>by simp [hasT]
  | i + 1,hi=>by
    have hy : i < ys.length:=by have:=h.1; omega
    rw [hasT_take (by omega),keys_take hy,hasT_keys h k i (by omega),itemOf_isT (h.2 i (by omega)).2 k]
    rw [Bool.eq_iff_iff]; simp
theorem dup_keys {s : List SigI} {ys : List VI} (h : ReadsTo s ys) {x : SigI} {y : VI} (hx : ItemOf x y) : ∀ i,i ≤ s.length → dupB (s.take i) x = decide (viK y ∈ (ys.take i).map viK)
  | 0,_=>by simp [dupB]
  | i + 1,hi=>by
    have hy : i < ys.length:=by have:=h.1; omega
    have e : dupB (s.take (i + 1)) x = (dupB (s.take i) x || sameK x (s.getD i si0)):=by rw [si_take (by omega)]; simp [dupB]
    rw [e,keys_take hy,dup_keys h hx i (by omega),itemOf_same hx (h.2 i (by omega)).2]
    rw [Bool.eq_iff_iff]; simp
theorem step_eq {s : List SigI} {ys : List VI} (h : ReadsTo s ys) {i : Nat} (hi : i < s.length) : itemB (s.take i) (s.getD i si0) = stepB (ys.take i) (ys.getD i vi0):=by
  obtain ⟨hl,hit⟩:=h.2 i hi
  have hk : knN (s.take i) = okN ((ys.take i).map viK):=by
    funext p
    rw [knN,okN,hasT_keys h p.2 i (by omega)]
  rw [itemB,stepB,hl,dup_keys h hit i (by omega),Bool.true_and,Bool.and_comm]
  congr 1
  generalize s.getD i si0 = x at *
  generalize ys.getD i vi0 = y at *
  cases y with
  | ab n=>obtain ⟨h1,h2,h3⟩:=hit; simp [typB,h2,h3,allI]
  | al n v=>obtain ⟨h1,h2,h3,h4⟩:=hit; rw [typB,if_neg (by omega),if_pos (.inl h2),h3,validB_toTy h4,knT_toTy,hk,allI,Bool.true_and]
  | va n v=>obtain ⟨h1,h2,h3,h4⟩:=hit; rw [typB,if_neg (by omega),if_pos (.inr h2),h3,validB_toTy h4,knT_toTy,hk,allI,Bool.true_and]
theorem sigB_reads {s : List SigI} {ys : List VI} (h8 : s.length ≤ 8) (h : ReadsTo s ys) : sigB s = ordB ys:=by
  rw [sigB,ordB,h.1,decide_eq_true h8,Bool.true_and,Bool.eq_iff_iff,List.all_eq_true,List.all_eq_true]
  constructor
  · intro k i hi
    rw [← step_eq h (List.mem_range.mp hi)]; exact k i hi
  · intro k i hi
    rw [step_eq h (List.mem_range.mp hi)]; exact k i hi
theorem sigB_bad {s : List SigI} (h : 8 < s.length ∨ ∃ x ∈ s,itemOk x = false) : sigB s = false:=by
  rcases h with h | ⟨x,hx,hb⟩
  · rw [sigB,decide_eq_false (by omega),Bool.false_and]
  · obtain ⟨i,hi,rfl⟩:=List.getElem_of_mem hx
    refine sigB_no hi ?_
    have e : s.getD i si0 = s[i]:=by simp [List.getD,hi]
    rw [e]
    generalize s[i] = x at hb
    rw [itemOk] at hb
    rw [itemB,typB]
    by_cases k1 : x.kind = 1
    · rw [if_pos k1] at hb ⊢
      cases hl : localB x.name with
      | false=>rfl
      | true=>rw [hl,Bool.true_and] at hb; rw [hb]; simp
    · rw [if_neg k1] at hb ⊢
      by_cases k2 : x.kind = 2 ∨ x.kind = 3
      · rw [if_pos k2] at hb ⊢
        cases hl : localB x.name with
        | false=>rfl
        | true=>rw [hl,Bool.true_and] at hb; rw [hb]; simp
      · rw [if_neg k2]; simp
end Go.Proofs.YtnjdbgiincliaaaGreat
/- Signatures: what both sides' texts share. -/
set_option linter.unusedVariables false
set_option linter.unusedSimpArgs false
namespace Go.Proofs.YtnjdbgiincliaaaGreat
open Go.Abs
def meanI : VI → VT
  | .ab n=>.nm [] n
  | .al _ v=>v
  | .va _ v=>v
def siOf : VI → SigI
  | .ab n=>⟨1,n,ty0⟩
  | .al n v=>⟨2,n,toTy v⟩
  | .va n v=>⟨3,n,toTy v⟩
theorem itemOf_si {x : SigI} {y : VI} (h : ItemOf x y) : x = siOf y:=by
  obtain ⟨k,n,t⟩:=x
  cases y <;> simp only [ItemOf] at h
  · obtain ⟨rfl,rfl,rfl⟩:=h; rfl
  · obtain ⟨rfl,rfl,rfl,_⟩:=h; rfl
  · obtain ⟨rfl,rfl,rfl,_⟩:=h; rfl
theorem itemOf_of {y : VI} (h : VOk (meanI y)) : ItemOf (siOf y) y:=by
  cases y with
  | ab n=>exact ⟨rfl,rfl,rfl⟩
  | al n v=>exact ⟨rfl,rfl,rfl,h⟩
  | va n v=>exact ⟨rfl,rfl,rfl,h⟩
theorem readsTo_si {s : List SigI} {ys : List VI} (h : ReadsTo s ys) : s = ys.map siOf:=by
  refine List.ext_getElem (by simp [h.1]) fun i h1 h2=>?_
  have:=itemOf_si (h.2 i h1).2
  have hy : i < ys.length:=by have:=h.1; omega
  simpa [List.getD,h1,hy] using this
theorem siOf_name (y : VI) : (siOf y).name = (viK y).2:=by cases y <;> rfl
theorem okI_ty {w : VT} (h : VOk w) (k : Int) {n : List UInt8} (hn : n.length < 2 ^ 63) : (⟨k,n,toTy w⟩ : SigI).Ok ∧ sz (toTy w) ≤ 1048576:=by
  have:=sz_toTyS _ h.ok
  have:=h.cnt
  exact ⟨⟨hn,ok_toTyS _ h.ok⟩,by omega⟩
theorem siOf_ok {y : VI} (h : VOk (meanI y)) (hn : (viK y).2.length < 2 ^ 63) : (siOf y).Ok ∧ sz (siOf y).typ ≤ 1048576:=by
  cases y with
  | ab n=>exact ⟨⟨hn,by show ty0.Ok; rw [ty0]; exact .mk (by simp) (by simp) (by simp) (by simp)⟩,by simp [siOf,ty0,sz,szs]⟩
  | al n v=>exact okI_ty h 2 hn
  | va n v=>exact okI_ty h 3 hn
theorem sEs_set (s : List SigI) (k : Nat) (x : SigI) : (sEs s).set k (sE x) = sEs (s.set k x):=by
  simp only [sEs,List.map_set]
theorem mean_ok {x : SigI} {y : VI} (hl : localB x.name = true) (h : ItemOf x y) : VOk (meanI y):=by
  cases y with
  | ab n=>exact ⟨by simp only [meanI,okV,nmB]; rw [← h.1,hl]; simp,by simp [meanI,dep],by simp [meanI,cnt]⟩
  | al n v=>exact h.2.2.2
  | va n v=>exact h.2.2.2
set_option maxRecDepth 100000 in
theorem spec_l2Copy (s : List SigI) (hl : s.length ≤ 1048576) (hz : ∀ x ∈ s,sz x.typ ≤ 1048576) (A : List Box) : ACalls Tryz.prog 118 [.slice (sEs s)] A (fun r A'=>∃ B j,A' = A ++ B ∧ r = .own (A.length + j) ∧ j < B.length ∧ B.getD j .dead = .row 6 (sEs s) 0):=by
  refine acalls_enterK (cf:=cf 33 [0,2,3,4,9]) foll Tryz.func118 Tryz.ntmps118 (by simp [cf]) ?_
  simp only [Tryz.f118,EnterK_some,zW,zX,zD,builtinA,isLeaf,const1,ustrA,simprocAttr,ti3,ti9,ti36,ti50,ti69,ca204,cf,Tryz.results118]
  refine aloop_intro [0,3,4] (fun e A'=>∃ i j B,i ≤ s.length ∧ e = [(0,.slice (sEs s)),(3,.own (A.length + j)),(4,.int .i64 i)] ∧ A' = A ++ B ∧ j < B.length ∧ B.getD j .dead = .row 6 (sEs (s.take i)) 0) (fun e _=>s.length - (intOf (Abs.look 4 e)).toNat) ?_ ?_
  · simp only [zW,zX,zD,builtinA,isLeaf,const1,ustrA,simprocAttr,ti3,ti9,ti36,ti50,ti69,ca204,cf,Tryz.results118]
    exact ⟨0,0,[.row 6 [] 0],by omega,rfl,rfl,by simp,rfl⟩
  · rintro e A' ⟨i,j,B,hi,rfl,rfl,hj,hg⟩
    simp only [zW,zX,zD,builtinA,isLeaf,const1,ustrA,simprocAttr,ti3,ti9,ti36,ti50,ti69,ca204,cf,Tryz.results118,sEs_length]
    refine condK_intro (fun h2=>?_) (fun h2=>?_)
    · have hi2 : i < s.length:=by simpa using h2
      have he:=sEs_getD hi2
      have hmm : s.getD i si0 ∈ s:=by simp [List.getD,hi2]
      have hi1 : IntKind.i64.wrap ((i : Int) + 1) = ((i + 1 : Nat) : Int):=by rw [wrap64 (by omega) (by omega)]; rfl
      have hsn : sEs (s.take i) ++ [sE (s.getD i si0)] = sEs (s.take (i + 1)):=by
        rw [sEs,sEs,List.take_add_one,List.map_append]
        simp [List.getD,hi2]
      have pi : (0 : Int) ≤ (i : Int) ∧ (i : Int) < (s.length : Int):=⟨by omega,by omega⟩
      generalize hx : s.getD i si0 = x at *
      simp only [sE] at he hsn
      have hl6 : ∀ (k : Int) (n : List UInt8) (t : Ty),(AV.int .i64 k :: .str n :: enc t).length = 6:=fun k n t=>by simp [enc_length]
      simp only [wpc_skip,AThen_normal,wpc_block,wpc_seq,wpc_drawn]
      refine .inr (drawE_intro [(false,0,2),(false,0,1),(false,0,1),(false,0,1),(false,0,1),(false,0,1),(false,0,1),(false,0,1),(false,0,1),(false,0,1),(false,0,1),(false,0,0),(false,0,0),(false,0,0),(false,0,0),(false,0,0),(true,0,0),(false,1,1),(true,1,1),(true,2,2),(false,3,3)] [A ++ B,A ++ B,A ++ (B ++ [.row 6 [(.int .i64 x.kind :: .str x.name :: enc x.typ)] 0]),A ++ (B.set j .dead ++ [.row 6 [(.int .i64 x.kind :: .str x.name :: enc x.typ)] 0,.row 6 (sEs (s.take i) ++ [(.int .i64 x.kind :: .str x.name :: enc x.typ)]) 0])] 3 rfl (by kernel_rfl) (by kernel_rfl) (by kernel_rfl) (by kernel_rfl) (by kernel_rfl) (by kernel_rfl) ?_)
      simp only [zW,zX,zD,builtinA,isLeaf,const1,ustrA,simprocAttr,ti3,ti9,ti36,ti50,ti69,ca204,cf,Tryz.results118,he,hj,hg,enc_length,enc_take,sb_drop,frzL_enc,sb_closed,Option.map_some,sEs_length]
      refine ⟨pi,pi,pi,pi,pi,?_⟩
      refine callE_intro (by simp only [zW,zX,zD,builtinA,isLeaf,const1,ustrA,simprocAttr,enc_length,enc_take,sb_drop,frzL_enc,sb_closed,Option.map_some] <;> rfl) (spec_l1Copy0 x.typ (hz x hmm) _) ?_ rfl rfl
      simp only [zW,zX,zD,builtinA,isLeaf,const1,ustrA,simprocAttr,ti3,ti9,ti36,ti50,ti69,ca204,cf,Tryz.results118,he,hj,hg,enc_length,enc_take,sb_drop,frzL_enc,sb_closed,Option.map_some,sEs_length,hl6]
      simp only [zW,zX,zD,builtinA,isLeaf,const1,ustrA,simprocAttr,ti3,ti9,ti36,ti50,ti69,ca204,cf,Tryz.results118,hi1,LoopK_eq]
      refine ⟨fun v hv=>sE_leaf x v hv,⟨fun r hr=>by rw [List.mem_singleton.1 hr]; exact hl6 _ _ _,by rw [List.length_take]; omega⟩,⟨i + 1,B.length + 1,B.set j .dead ++ [.row 6 [(.int .i64 x.kind :: .str x.name :: enc x.typ)] 0,.row 6 (sEs (s.take i) ++ [(.int .i64 x.kind :: .str x.name :: enc x.typ)]) 0],by omega,rfl,rfl,by simp,?_⟩,?_⟩
      · rw [getD_sapp,hsn]; rfl
      · simp only [intOf]
        omega
    · have : i = s.length:=by simp at h2; omega
      subst this
      rw [List.take_length] at hg
      simp only [zW,zX,zD,builtinA,isLeaf,const1,ustrA,simprocAttr,ti3,ti9,ti36,ti50,ti69,ca204,cf,Tryz.results118,hg,hj]
      exact ⟨B,j,rfl,rfl,hj,hg⟩
theorem itemOk_of {x : SigI} (h : itemOk x = true) : localB x.name = true ∧ ∃ y,ItemOf x y:=by
  rw [itemOk,Bool.and_eq_true] at h
  refine ⟨h.1,?_⟩
  have h2:=h.2
  by_cases k1 : x.kind = 1
  · rw [if_pos k1] at h2
    exact ⟨.ab x.name,rfl,k1,of_decide_eq_true h2⟩
  · rw [if_neg k1] at h2
    by_cases k2 : x.kind = 2 ∨ x.kind = 3
    · rw [if_pos k2] at h2
      rcases valid_cases x.typ with ⟨v,hv,hv2⟩ | hv
      · rcases k2 with k2 | k2
        · exact ⟨.al x.name v,rfl,k2,hv,hv2⟩
        · exact ⟨.va x.name v,rfl,k2,hv,hv2⟩
      · rw [hv] at h2; cases h2
    · rw [if_neg k2] at h2; cases h2
open Classical in
theorem reads_or (s : List SigI) : (∃ x ∈ s,itemOk x = false) ∨ ∃ ys,ReadsTo s ys:=by
  by_cases h : ∃ x ∈ s,itemOk x = false
  · exact .inl h
  · have h' : ∀ x ∈ s,itemOk x = true:=fun x hx=>by
      cases hc : itemOk x with
      | true=>rfl
      | false=>exact absurd ⟨x,hx,hc⟩ h
    refine .inr ⟨s.map fun x=>if hx : ∃ y,ItemOf x y then hx.choose else vi0,by simp,fun i hi=>?_⟩
    have hm:=si_mem hi
    obtain ⟨h1,h2⟩:=itemOk_of (h' _ hm)
    refine ⟨h1,?_⟩
    have e : (s.map fun x=>if hx : ∃ y,ItemOf x y then hx.choose else vi0).getD i vi0 = if hx : ∃ y,ItemOf (s.getD i si0) y then hx.choose else vi0:=by
      simp [List.getD,hi]
    rw [e,dif_pos h2]
    exact h2.choose_spec
theorem sigB_yes {s : List SigI} (h : sigB s = true) : ∃ ys,s.length ≤ 8 ∧ ReadsTo s ys ∧ ordB ys = true:=by
  have h8 : s.length ≤ 8:=by
    rcases Nat.lt_or_ge 8 s.length with h1 | h1
    · rw [sigB_bad (.inl h1)] at h; cases h
    · exact h1
  rcases reads_or s with hb | ⟨ys,hr⟩
  · rw [sigB_bad (.inr hb)] at h; cases h
  · exact ⟨ys,h8,hr,by rw [← sigB_reads h8 hr]; exact h⟩
end Go.Proofs.YtnjdbgiincliaaaGreat
/- Bindings as data, and what the laws' helpers do with lists of them. -/
set_option linter.unusedVariables false
set_option linter.unusedSimpArgs false
namespace Go.Proofs.YtnjdbgiincliaaaGreat
open Go.Abs
structure BdI where
  mod : List UInt8
  name : List UInt8
  typ : Ty
def bd0 : BdI:=⟨[],[],ty0⟩
def bE (x : BdI) : List AV:=[.str x.mod,.str x.name,.int .i64 x.typ.kind,.str x.typ.mod,.str x.typ.name,.slice (encs x.typ.kids)]
def BdI.Ok (x : BdI) : Prop:=x.mod.length < 2 ^ 63 ∧ x.name.length < 2 ^ 63 ∧ x.typ.Ok
def zbd : List AV:=[.str [],.str [],.int .i64 0,.str [],.str [],.slice []]
end Go.Proofs.YtnjdbgiincliaaaGreat
