/- SigRead, SortK. -/
import Derived.Test.YtnjdbgiincliaaaGreatM04
import Derived.Test.YtnjdbgiincliaaaGreatAbsW3
import Derived.Shelf.SlIter.Nil
import Derived.StringKeys
import Derived.WideShapes
/- The program's reading of signatures. -/
set_option linter.unusedVariables false
set_option linter.unusedSimpArgs false
namespace Go.Proofs.YtnjdbgiincliaaaGreat
open Go.Abs
inductive VI where
  | ab (n : List UInt8)
  | al (n : List UInt8) (v : VT)
  | va (n : List UInt8) (v : VT)
def viT : VI → TypeId
  | .ab _=>354
  | .al _ _=>356
  | .va _ _=>357
def viX : VI → AV
  | .ab n=>.agg [.str n]
  | .al n v=>.agg [.str n,.iface (vT v) (vX v)]
  | .va n v=>.agg [.str n,.iface (vT v) (vX v)]
abbrev Ky:=Bool × List UInt8
def viK : VI → Ky
  | .ab n=>(false,n)
  | .al n _=>(false,n)
  | .va n _=>(true,n)
def allI (p : Nm → Bool) : VI → Bool
  | .ab _=>true
  | .al _ v=>allV p v
  | .va _ v=>allV p v
def kE (q : Ky) : List AV:=[.bool q.1,.str q.2]
def esK (ks : List Ky) : List (AV × AV):=ks.map fun q=>(.agg (kE q),.bool true)
abbrev KI : List (Nat × TK):=[(0,.bool),(1,.str)]
theorem kE_eq (x y : Ky) : eqK KI (kE x) (kE y) = some (decide (x = y)):=by
  have : decide (x = y) = (decide (x.1 = y.1) && (decide (x.2 = y.2) && true)):=by
    rw [Bool.eq_iff_iff]
    simp [Prod.ext_iff]
  rw [this]
  simp [KI,eqK,kE,c1A]
  congr 1
theorem find_k (q : Ky) : ∀ (ks : List Ky) (n : Nat),∃ r,findA KI (kE q) (esK ks) n = some r ∧ lkV r (.bool false) = .bool (decide (q ∈ ks)) ∧ (r = none ↔ q ∉ ks)
  | [],n=>⟨none,rfl,by simp [lkV],by simp⟩
  | p :: ks,n=>by
    obtain ⟨r,h1,h2,h3⟩:=find_k q ks (n + 1)
    simp only [esK,List.map_cons,findA]
    rw [if_pos (show (kE p).length = (kE q).length from rfl),kE_eq]
    by_cases h : q = p
    · subst h
      simp only [decide_true]
      exact ⟨_,rfl,by simp [lkV],by simp⟩
    · simp only [decide_eq_false h]
      refine ⟨r,h1,?_,?_⟩
      · rw [h2]; simp [h]
      · rw [h3]; simp [h]
def StM (i6 i3 im : Nat) (ks : List Ky) (b : Bool) (A : List Box) : Prop :=
  A.getD i6 .dead = .cells [.bool b] ∧ A.getD i3 .dead = .cells [.map im] ∧ A.getD im .dead = .mapb (esK ks) ∧ i6 ≠ i3 ∧ i6 ≠ im ∧ i6 < A.length ∧ i3 < A.length ∧ im < A.length
theorem StM.app {i6 i3 im : Nat} {ks : List Ky} {b : Bool} {A : List Box} (h : StM i6 i3 im ks b A) (B : List Box) : StM i6 i3 im ks b (A ++ B):=by
  obtain ⟨h1,h2,h3,h4,h5,h6,h7,h8⟩:=h
  exact ⟨by rw [Abs.getD_append_left h6]; exact h1,by rw [Abs.getD_append_left h7]; exact h2,by rw [Abs.getD_append_left h8]; exact h3,h4,h5,by simp; omega,by simp; omega,by simp; omega⟩
def okN (ks : List Ky) (p : Nm) : Bool:=!decide (p.1 = []) || decide ((false,p.2) ∈ ks)
def visF (i6 i3 : Nat) : AV:=.func (.func 252) [] [.ptr i6 0,.ptr i3 0]
set_option maxRecDepth 100000 in
theorem vis_ok (i6 i3 im : Nat) (ks : List Ky) (b : Bool) (A : List Box) (p : Nm) (h : StM i6 i3 im ks b A) :
    ACalls Tryz.prog 252 [.agg [.str p.1,.str p.2],.ptr i6 0,.ptr i3 0] A (fun r A'=>StM i6 i3 im ks (b && okN ks p) A' ∧ FrK i6 A A'):=by
  have h':=h.app [.cells [.str p.1,.str p.2]]
  obtain ⟨h1,h2,h3,h4,h5,h6,h7,h8⟩:=h'
  obtain ⟨r,f1,f2,f3⟩:=find_k (false,p.2) ks 0
  simp only [kE] at f1
  have fin : ∀ c : Bool,StM i6 i3 im ks c ((A ++ [Box.cells [.str p.1,.str p.2]]).set i6 (.cells [.bool c])) ∧ FrK i6 A ((A ++ [Box.cells [.str p.1,.str p.2]]).set i6 (.cells [.bool c])):=fun c=>by
    refine ⟨⟨getD_set_self h6,by rw [getD_set_ne' h4]; exact h2,by rw [getD_set_ne' h5]; exact h3,h4,h5,by simpa using h6,by simpa using h7,by simpa using h8⟩,by simp,fun k hk hi=>by rw [getD_set_ne' (Ne.symm hi),Abs.getD_append_left hk]⟩
  cases b with
  | false =>
    refine acalls_enterK (cf:=cf 17 [0,1,2,3]) foll Tryz.func252 Tryz.ntmps252 (by simp [cf]) ?_
    simp only [Tryz.f252,EnterK_some,zW,zX,zD,builtinA,isLeaf,const1,ustrA,simprocAttr,ti4,ti9,ti180,ti358,ti360,mi358,cf,Tryz.results252]
    simp only [zW,zX,zD,builtinA,isLeaf,const1,ustrA,simprocAttr,ti4,ti9,ti180,ti358,ti360,mi358,cf,Tryz.results252,h1,h2,h3]
    exact fin false
  | true =>
    by_cases hm : p.1 = []
    · have hok : okN ks p = decide ((false,p.2) ∈ ks):=by simp [okN,hm]
      rw [hok,Bool.true_and]
      rcases r with _ | ⟨q,w⟩
      · have f4 : decide ((false,p.2) ∈ ks) = false:=decide_eq_false (f3.mp rfl)
        rw [f4]
        refine acalls_enterK (cf:=cf 17 [0,1,2,3]) foll Tryz.func252 Tryz.ntmps252 (by simp [cf]) ?_
        simp only [Tryz.f252,EnterK_some,zW,zX,zD,builtinA,isLeaf,const1,ustrA,simprocAttr,ti4,ti9,ti180,ti358,ti360,mi358,cf,Tryz.results252]
        simp only [zW,zX,zD,builtinA,isLeaf,const1,ustrA,simprocAttr,ti4,ti9,ti180,ti358,ti360,mi358,cf,Tryz.results252,h1,h2,h3,decide_eq_true hm,f1]
        exact fin false
      · have f4 : w = .bool (decide ((false,p.2) ∈ ks)):=f2
        subst f4
        refine acalls_enterK (cf:=cf 17 [0,1,2,3]) foll Tryz.func252 Tryz.ntmps252 (by simp [cf]) ?_
        simp only [Tryz.f252,EnterK_some,zW,zX,zD,builtinA,isLeaf,const1,ustrA,simprocAttr,ti4,ti9,ti180,ti358,ti360,mi358,cf,Tryz.results252]
        simp only [zW,zX,zD,builtinA,isLeaf,const1,ustrA,simprocAttr,ti4,ti9,ti180,ti358,ti360,mi358,cf,Tryz.results252,h1,h2,h3,decide_eq_true hm,f1]
        exact fin _
    · have hok : okN ks p = true:=by simp [okN,hm]
      rw [hok,Bool.true_and]
      refine acalls_enterK (cf:=cf 17 [0,1,2,3]) foll Tryz.func252 Tryz.ntmps252 (by simp [cf]) ?_
      simp only [Tryz.f252,EnterK_some,zW,zX,zD,builtinA,isLeaf,const1,ustrA,simprocAttr,ti4,ti9,ti180,ti358,ti360,mi358,cf,Tryz.results252]
      simp only [zW,zX,zD,builtinA,isLeaf,const1,ustrA,simprocAttr,ti4,ti9,ti180,ti358,ti360,mi358,cf,Tryz.results252,h1,h2,h3,decide_eq_false hm]
      exact fin true
def EachM (v : VT) : Prop:=∀ (i6 i3 im : Nat) (ks : List Ky) (b : Bool) (A : List Box),StM i6 i3 im ks b A →
  ACalls Tryz.prog ((pickF 429 436 358) v) [vX v,visF i6 i3] A (fun r A'=>StM i6 i3 im ks (b && allV (okN ks) v) A' ∧ FrK i6 A A')
set_option maxRecDepth 100000 in
theorem num_each : EachM .num:=fun i6 i3 im ks b A h=>by
  show ACalls Tryz.prog 429 _ _ _
  rw [vX]
  refine acalls_enterK (cf:=cf 4 [0]) foll Tryz.func429 Tryz.ntmps429 (by simp [cf]) ?_
  simp only [Tryz.f429,EnterK_some,zW,zX,zD,builtinA,isLeaf,const1,ustrA,simprocAttr,ti369,cf,Tryz.results429]
  simp only [allV,Bool.and_true]
  exact ⟨h.app _,FrK.app _ _ _⟩
set_option maxRecDepth 100000 in
theorem name_each (m k : List UInt8) : EachM (.nm m k):=fun i6 i3 im ks b A h=>by
  show ACalls Tryz.prog 358 _ _ _
  rw [vX,visF]
  refine acalls_enterK (cf:=cf 7 [0,1,2]) foll Tryz.func358 Tryz.ntmps358 (by simp [cf]) ?_
  simp only [Tryz.f358,EnterK_some,zW,zX,zD,builtinA,isLeaf,const1,ustrA,simprocAttr,ti180,cf,Tryz.results358]
  refine wpO_callv _ _ _ _ _ _ _ _ _ _ _ _ _ _ _ ?_
  simp only [zW,zX,zD,builtinA,isLeaf,const1,ustrA,simprocAttr,ti180,cf,Tryz.results358]
  refine ⟨by kernel_rfl,?_⟩
  refine callK_intro (by simp only [zW,zX,zD,builtinA,isLeaf,const1,ustrA,simprocAttr,List.nil_append,List.append_nil,List.cons_append] <;> rfl) (vis_ok i6 i3 im ks b _ (m,k) (h.app _)) ?_ rfl
  rintro r A' ⟨h1,h2⟩
  simp only [zW,zX,zD,builtinA,isLeaf,const1,ustrA,simprocAttr,ti180,cf,Tryz.results358]
  simp only [allV]
  exact ⟨h1,(FrK.app _ _ _).trans h2⟩
set_option maxRecDepth 100000 in
theorem fun_each (a b : VT) (ha : EachM a) (hb : EachM b) : EachM (.fn a b):=fun i6 i3 im ks c A h=>by
  show ACalls Tryz.prog 436 _ _ _
  rw [vX,visF]
  have hbx : ∀ A',FrK i6 (A ++ [Box.cells [.iface (vT a) (vX a),.iface (vT b) (vX b)]]) A' → A'.getD A.length .dead = .cells [.iface (vT a) (vX a),.iface (vT b) (vX b)]:=fun A' hf=>by
    have:=h.2.2.2.2.2.1
    rw [hf.2 A.length (by simp) (by omega),Abs.getD_append_right (by omega)]; simp
  refine acalls_enterK (cf:=cf 12 [0,1,2]) foll Tryz.func436 Tryz.ntmps436 (by simp [cf]) ?_
  simp only [Tryz.f436,EnterK_some,zW,zX,zD,builtinA,isLeaf,const1,ustrA,simprocAttr,ti175,ti422,cf,Tryz.results436]
  refine wpO_invoke _ _ _ _ _ _ _ _ _ _ _ _ _ _ _ _ ?_
  simp only [zW,zX,zD,builtinA,isLeaf,const1,ustrA,simprocAttr,ti175,ti422,cf,Tryz.results436]
  refine meth_invK (met3 (by kernel_rfl) (by kernel_rfl) (by kernel_rfl) (by kernel_rfl) (by kernel_rfl) (by kernel_rfl)) (ha i6 i3 im ks c _ (h.app _)) rfl (fun _=>rfl) ?_
  rintro r A1 ⟨h1,f1⟩
  have b1:=hbx A1 f1
  simp only [zW,zX,zD,builtinA,isLeaf,const1,ustrA,simprocAttr,ti175,ti422,cf,Tryz.results436,b1]
  refine wpO_invoke _ _ _ _ _ _ _ _ _ _ _ _ _ _ _ _ ?_
  simp only [zW,zX,zD,builtinA,isLeaf,const1,ustrA,simprocAttr,ti175,ti422,cf,Tryz.results436]
  refine meth_invK (met3 (by kernel_rfl) (by kernel_rfl) (by kernel_rfl) (by kernel_rfl) (by kernel_rfl) (by kernel_rfl)) (hb i6 i3 im ks _ _ h1) rfl (fun _=>rfl) ?_
  rintro r A2 ⟨h2,f2⟩
  simp only [zW,zX,zD,builtinA,isLeaf,const1,ustrA,simprocAttr,ti175,ti422,cf,Tryz.results436]
  rw [allV,← Bool.and_assoc]
  exact ⟨h2,(FrK.app _ _ _).trans (f1.trans f2)⟩
theorem eachM : ∀ v,EachM v
  | .num=>num_each
  | .nm m k=>name_each m k
  | .fn a b=>fun_each a b (eachM a) (eachM b)
theorem frzC_viX (x : VI) (A : List Box) : frzC (viX x) A = some (viX x,A):=by
  cases x with
  | ab n=>rfl
  | al n v=>cases v <;> rfl
  | va n v=>cases v <;> rfl
def pickI (x y z : FuncId) : VI → FuncId
  | .ab _=>x
  | .al _ _=>y
  | .va _ _=>z
structure MetI (name : String) (gs : VI → FuncId) : Prop where
  find : ∀ v,methA Tryz.prog (viT v) name = some (gs v)
  call : ∀ v,callable Tryz.prog (gs v) = true
theorem metI3 {name : String} {x y z : FuncId} (h1 : methA Tryz.prog 354 name = some x) (h2 : methA Tryz.prog 356 name = some y) (h3 : methA Tryz.prog 357 name = some z)
    (c1 : callable Tryz.prog x = true) (c2 : callable Tryz.prog y = true) (c3 : callable Tryz.prog z = true) : MetI name (pickI x y z) :=
  ⟨fun v=>match v with
    | .ab _=>h1
    | .al _ _=>h2
    | .va _ _=>h3,
   fun v=>match v with
    | .ab _=>c1
    | .al _ _=>c2
    | .va _ _=>c3⟩
theorem methI_invK {own ow : FuncId → Bool} {name : String} {gs : VI → FuncId} {v : VI} {args args' : List AV} {A A1 : List Box} {R : AV → List Box → Prop} {N : Nat} {ops : Array Oper} {Q : Env → List Box → Prop} {rest : List Oper} {d : Option Tmp} {e : Env}
    (hm : MetI name gs) (h : ACalls Tryz.prog (gs v) (viX v :: args') A1 R) (hf : frzs args A = some (args',A1)) (ho : ∀ g,own g = false)
    (hk : ∀ r A',R r A' → wpO Tryz.prog ow N ops Q rest (putA N d r e) A') : InvK Tryz.prog own name (.iface (viT v) (viX v)) args A (ContO Tryz.prog ow N ops Q rest d e):=by
  have h1:=hm.find v
  have h2:=hm.call v
  generalize gs v = g at h h1 h2
  refine ⟨g,h1,h2,callK_intro (args':=viX v :: args') (A1:=A1) ?_ h hk (ho g)⟩
  simp only [frzs,frzC_viX,hf]
theorem methI_invD {own : FuncId → Bool} {name : String} {gs : VI → FuncId} {v : VI} {args args' : List AV} {A : List Box} {x : AV} {N : Nat} {ops : Array Oper} {Q : Env → Prop} {rest : List Oper} {d : Option Tmp} {e : Env}
    (hm : MetI name gs) (h : ACalls Tryz.prog (gs v) (viX v :: args') A (fun v' A'=>v' = x ∧ A' = A)) (hf : frzs args A = some (args',A)) (ho : ∀ g,own g = false)
    (hk : wpD Tryz.prog own N ops A Q rest (putA N d x e)) : InvD Tryz.prog own name (.iface (viT v) (viX v)) args A N ops Q rest d e:=by
  have h1:=hm.find v
  have h2:=hm.call v
  generalize gs v = g at h h1 h2
  refine ⟨g,h1,h2,callD_intro (args':=viX v :: args') ?_ h hk (ho g)⟩
  simp only [frzs,frzC_viX,hf]
set_option maxRecDepth 100000 in
theorem ab_key (n : List UInt8) (A : List Box) : ACalls Tryz.prog 405 [viX (.ab n)] A (fun r A'=>r = .agg (kE (viK (.ab n))) ∧ A' = A):=by
  rw [viX]
  refine acalls_enter (cf:=cf 6 [0,1,2]) foll Tryz.func405 Tryz.ntmps405 (by simp [cf]) ?_
  simp only [Tryz.f405,EnterK_some,zW,zX,zD,builtinA,isLeaf,const1,ustrA,simprocAttr,ti9,ti354,ti360,cf,Tryz.results405]
  rfl
set_option maxRecDepth 100000 in
theorem al_key (n : List UInt8) (v : VT) (A : List Box) : ACalls Tryz.prog 412 [viX (.al n v)] A (fun r A'=>r = .agg (kE (viK (.al n v))) ∧ A' = A):=by
  rw [viX]
  refine acalls_enter (cf:=cf 6 [0,1,2]) foll Tryz.func412 Tryz.ntmps412 (by simp [cf]) ?_
  simp only [Tryz.f412,EnterK_some,zW,zX,zD,builtinA,isLeaf,const1,ustrA,simprocAttr,ti9,ti356,ti360,cf,Tryz.results412]
  rfl
set_option maxRecDepth 100000 in
theorem va_key (n : List UInt8) (v : VT) (A : List Box) : ACalls Tryz.prog 421 [viX (.va n v)] A (fun r A'=>r = .agg (kE (viK (.va n v))) ∧ A' = A):=by
  rw [viX]
  refine acalls_enter (cf:=cf 6 [0,1,2]) foll Tryz.func421 Tryz.ntmps421 (by simp [cf]) ?_
  simp only [Tryz.f421,EnterK_some,zW,zX,zD,builtinA,isLeaf,const1,ustrA,simprocAttr,ti9,ti357,ti360,cf,Tryz.results421]
  rfl
theorem keyI (x : VI) (A : List Box) : ACalls Tryz.prog ((pickI 405 412 421) x) [viX x] A (fun r A'=>r = .agg (kE (viK x)) ∧ A' = A):=by
  cases x with
  | ab n=>exact ab_key n A
  | al n v=>exact al_key n v A
  | va n v=>exact va_key n v A
def EachI (x : VI) : Prop:=∀ (i6 i3 im : Nat) (ks : List Ky) (b : Bool) (A : List Box),StM i6 i3 im ks b A →
  ACalls Tryz.prog ((pickI 404 411 420) x) [viX x,visF i6 i3] A (fun r A'=>StM i6 i3 im ks (b && allI (okN ks) x) A' ∧ FrK i6 A A')
set_option maxRecDepth 100000 in
theorem ab_each (n : List UInt8) : EachI (.ab n):=fun i6 i3 im ks b A h=>by
  show ACalls Tryz.prog 404 _ _ _
  rw [viX]
  refine acalls_enterK (cf:=cf 4 [0]) foll Tryz.func404 Tryz.ntmps404 (by simp [cf]) ?_
  simp only [Tryz.f404,EnterK_some,zW,zX,zD,builtinA,isLeaf,const1,ustrA,simprocAttr,ti354,cf,Tryz.results404]
  simp only [allI,Bool.and_true]
  exact ⟨h.app _,FrK.app _ _ _⟩
set_option maxRecDepth 100000 in
theorem al_each (n : List UInt8) (v : VT) : EachI (.al n v):=fun i6 i3 im ks b A h=>by
  show ACalls Tryz.prog 411 _ _ _
  rw [viX,visF]
  refine acalls_enterK (cf:=cf 8 [0,1,2]) foll Tryz.func411 Tryz.ntmps411 (by simp [cf]) ?_
  simp only [Tryz.f411,EnterK_some,zW,zX,zD,builtinA,isLeaf,const1,ustrA,simprocAttr,ti175,ti356,cf,Tryz.results411]
  refine wpO_invoke _ _ _ _ _ _ _ _ _ _ _ _ _ _ _ _ ?_
  simp only [zW,zX,zD,builtinA,isLeaf,const1,ustrA,simprocAttr,ti175,ti356,cf,Tryz.results411]
  refine meth_invK (met3 (by kernel_rfl) (by kernel_rfl) (by kernel_rfl) (by kernel_rfl) (by kernel_rfl) (by kernel_rfl)) (eachM v i6 i3 im ks b _ (h.app _)) rfl (fun _=>rfl) ?_
  rintro r A1 ⟨h1,f1⟩
  simp only [zW,zX,zD,builtinA,isLeaf,const1,ustrA,simprocAttr,ti175,ti356,cf,Tryz.results411]
  simp only [allI]
  exact ⟨h1,(FrK.app _ _ _).trans f1⟩
set_option maxRecDepth 100000 in
theorem va_each (n : List UInt8) (v : VT) : EachI (.va n v):=fun i6 i3 im ks b A h=>by
  show ACalls Tryz.prog 420 _ _ _
  rw [viX,visF]
  refine acalls_enterK (cf:=cf 8 [0,1,2]) foll Tryz.func420 Tryz.ntmps420 (by simp [cf]) ?_
  simp only [Tryz.f420,EnterK_some,zW,zX,zD,builtinA,isLeaf,const1,ustrA,simprocAttr,ti175,ti357,cf,Tryz.results420]
  refine wpO_invoke _ _ _ _ _ _ _ _ _ _ _ _ _ _ _ _ ?_
  simp only [zW,zX,zD,builtinA,isLeaf,const1,ustrA,simprocAttr,ti175,ti357,cf,Tryz.results420]
  refine meth_invK (met3 (by kernel_rfl) (by kernel_rfl) (by kernel_rfl) (by kernel_rfl) (by kernel_rfl) (by kernel_rfl)) (eachM v i6 i3 im ks b _ (h.app _)) rfl (fun _=>rfl) ?_
  rintro r A1 ⟨h1,f1⟩
  simp only [zW,zX,zD,builtinA,isLeaf,const1,ustrA,simprocAttr,ti175,ti357,cf,Tryz.results420]
  simp only [allI]
  exact ⟨h1,(FrK.app _ _ _).trans f1⟩
theorem eachI (x : VI) : EachI x:=by
  cases x with
  | ab n=>exact ab_each n
  | al n v=>exact al_each n v
  | va n v=>exact va_each n v
theorem methI_invE {own : FuncId → Bool} {name : String} {gs : VI → FuncId} {v : VI} {args : List AV} {x : AV} {N : Nat} {ops : Array Oper} {T : Ranks} {As : Nat → List Box} {Q : Env → Prop} {k : Nat} {rest : List Oper} {d : Option Tmp} {e : Env}
    (hm : MetI name gs) (h : ACalls Tryz.prog (gs v) (viX v :: args) (As (T.lo k)) (fun v' A'=>v' = x ∧ A' = As (T.next k (T.lo k)))) (hr : T.lo k = T.hi k)
    (hk : wpG Tryz.prog own N ops T As Q (k + 1) rest (putA N d x e)) : InvE Tryz.prog own N ops T As Q k name (.iface (viT v) (viX v)) args rest d e :=
  ⟨gs v,hm.find v,hm.call v,callEO_intro h hk hr⟩
theorem wpD_look (P : Program) (own : FuncId → Bool) (N : Nat) (ops : Array Oper) (Q : Env → Prop) (rest : List Oper) (e : Env) (A : List Box) (d : Option Tmp) (ty : TypeId) (pos : String) (af : Array Edge) (t : TypeId) (x y : Operand) (b : Bool) :
    wpD P own N ops A Q (⟨d,.lookup t x y b,ty,pos,af,none⟩ :: rest) e = StepK (astep P (.lookup t x y b) [evA e x,evA e y] A) (ContD P own N ops A Q rest d e):=by
  rw [wpD_step _ _ _ _ _ _ _ _ _ _ _ _ rfl]; rfl
theorem wpG_upd (P : Program) (own : FuncId → Bool) (N : Nat) (ops : Array Oper) (T : Ranks) (As : Nat → List Box) (Q : Env → Prop) (k : Nat) (rest : List Oper) (e : Env) (d : Option Tmp) (ty : TypeId) (pos : String) (af : Array Edge) (t : TypeId) (x y z : Operand) :
    wpG P own N ops T As Q k (⟨d,.mapUpdate t x y z,ty,pos,af,none⟩ :: rest) e = StepK (astep P (.mapUpdate t x y z) [evA e x,evA e y,evA e z] (As (T.lo k))) (ContE P own N ops T As Q k rest d e (.mapUpdate t x y z) [evA e x,evA e y,evA e z]):=by
  rw [wpG_step _ _ _ _ _ _ _ _ _ _ _ _ _ _ rfl]; rfl
def vi0 : VI:=.ab []
def stepB (zs : List VI) (y : VI) : Bool:=allI (okN (zs.map viK)) y && !decide (viK y ∈ zs.map viK)
def ordB (ys : List VI) : Bool:=(List.range ys.length).all fun i=>stepB (ys.take i) (ys.getD i vi0)
def vRow (y : VI) : List AV:=[.iface (viT y) (viX y)]
def vRows (ys : List VI) : List (List AV):=ys.map vRow
theorem vRows_length (ys : List VI) : (vRows ys).length = ys.length:=by simp [vRows]
theorem vRows_getD {ys : List VI} {i : Nat} (h : i < ys.length) : (vRows ys).getD i [] = vRow (ys.getD i vi0):=by simp [vRows,List.getD,h]
theorem keys_take {ys : List VI} {i : Nat} (h : i < ys.length) : (ys.take (i + 1)).map viK = (ys.take i).map viK ++ [viK (ys.getD i vi0)]:=by
  rw [List.take_add_one,List.map_append]
  simp [List.getD,h]
theorem ordB_no {ys : List VI} {i : Nat} (hi : i < ys.length) (h : stepB (ys.take i) (ys.getD i vi0) = false) : ordB ys = false:=by
  unfold ordB
  rw [List.all_eq_false]
  exact ⟨i,List.mem_range.mpr hi,by rw [h]; simp⟩
theorem ordB_yes {ys : List VI} (h : ∀ k,k < ys.length → stepB (ys.take k) (ys.getD k vi0) = true) : ordB ys = true:=by
  unfold ordB
  rw [List.all_eq_true]
  intro k hk
  exact h k (List.mem_range.mp hk)
theorem upd_none (ks : List Ky) (q : Ky) (A : List Box) : updA none (kE q) (.bool true) (esK ks) = esK (ks ++ [q]):=by
  simp [updA,esK]
theorem frk_split {A B A1 : List Box} {x y z : Box} {i3 im : Nat} {ks : List Ky} {b : Bool} (hs : StM (A.length + (B.length + 1 + 1)) i3 im ks b A1) (hf : FrK (A.length + (B.length + 1 + 1)) (A ++ x :: y :: (B ++ [z])) A1) :
    ∃ B',A1 = A ++ x :: y :: B' ∧ B'.getD B.length .dead = .cells [.bool b]:=by
  have hl:=hf.1
  simp at hl
  have ht : A1.take (A.length + 2) = A ++ [x,y]:=take_of_getD (by omega) (by simp) fun k hk=>by
    rw [hf.2 k (by simp; omega) (by omega)]
    rw [show A ++ x :: y :: (B ++ [z]) = (A ++ [x,y]) ++ (B ++ [z]) by simp,Abs.getD_append_left (by simp; omega)]
  refine ⟨A1.drop (A.length + 2),?_,?_⟩
  · rw [show A ++ x :: y :: A1.drop (A.length + 2) = (A ++ [x,y]) ++ A1.drop (A.length + 2) by simp,← ht,List.take_append_drop]
  · have:=hs.1
    simp only [List.getD,List.getElem?_drop] at this ⊢
    rw [show A.length + 2 + B.length = A.length + (B.length + 1 + 1) by omega]
    exact this
set_option maxRecDepth 100000 in
theorem impl_inOrder (ys : List VI) (hy : ys.length ≤ 1000) (A : List Box) : ACalls Tryz.prog 182 [.slice (vRows ys)] A (fun r A'=>r = .bool (ordB ys) ∧ A' = A):=by
  refine acalls_enter (cf:=cf 29 [0,2,3,5,6,8,9,10,11,24]) foll Tryz.func182 Tryz.ntmps182 (by simp [cf]) ?_
  simp only [Tryz.f182,EnterK_some,zW,zX,zD,builtinA,isLeaf,const1,ustrA,simprocAttr,ti3,ti4,ti140,ti158,ti358,mi358,cf,Tryz.results182]
  refine aloop_intro [3,8,9,10] (fun e A'=>∃ i B,i ≤ ys.length ∧ (∀ k,k < i → stepB (ys.take k) (ys.getD k vi0) = true) ∧ e = [(3,.ptr (A.length + 1) 0),(8,.slice (vRows ys)),(9,.int .i64 ys.length),(10,.int .i64 i)] ∧ A' = A ++ (.mapb (esK ((ys.take i).map viK)) :: .cells [.map A.length] :: B)) (fun e _=>ys.length - (intOf (Abs.look 10 e)).toNat) ?_ ?_
  · simp only [zW,zX,zD,builtinA,isLeaf,const1,ustrA,simprocAttr,ti3,ti4,ti140,ti158,ti358,mi358,cf,Tryz.results182,vRows_length]
    exact ⟨0,[],by omega,fun k hk=>by omega,rfl,by simp [esK]⟩
  · rintro e A' ⟨i,B,hi,hq,rfl,rfl⟩
    by_cases hlt : i < ys.length
    · have d1 : decide ((i : Int) < (ys.length : Int)) = true:=by simp; omega
      have hlt' : 0 ≤ (i : Int) ∧ (i : Int) < (ys.length : Int):=by omega
      have hg:=vRows_getD hlt
      have hkt:=keys_take hlt
      have hi1 : IntKind.i64.wrap ((i : Int) + 1) = ((i + 1 : Nat) : Int):=by rw [wrap64 (by omega) (by omega)]; rfl
      have hno:=@ordB_no ys i hlt
      have hste : stepB (ys.take i) (ys.getD i vi0) = (allI (okN ((ys.take i).map viK)) (ys.getD i vi0) && !decide (viK (ys.getD i vi0) ∈ (ys.take i).map viK)):=rfl
      generalize hyv : ys.getD i vi0 = y at *
      generalize hks : (ys.take i).map viK = ks at *
      rw [vRow] at hg
      simp only [zW,zX,zD,builtinA,isLeaf,const1,ustrA,simprocAttr,ti3,ti4,ti140,ti158,ti358,mi358,cf,Tryz.results182,vRows_length,d1,hg]
      refine ⟨hlt',?_⟩
      refine wpO_invoke _ _ _ _ _ _ _ _ _ _ _ _ _ _ _ _ ?_
      simp only [zW,zX,zD,builtinA,isLeaf,const1,ustrA,simprocAttr,ti3,ti4,ti140,ti158,ti358,mi358,cf,Tryz.results182]
      have hst : StM (A.length + (B.length + 1 + 1)) (A.length + 1) A.length ks true (A ++ Box.mapb (esK ks) :: Box.cells [AV.map A.length] :: (B ++ [Box.cells [AV.bool true]])) :=
        ⟨by simp,by simp,by simp,by omega,by omega,by simp,by simp,by simp⟩
      refine methI_invK (metI3 (by kernel_rfl) (by kernel_rfl) (by kernel_rfl) (by kernel_rfl) (by kernel_rfl) (by kernel_rfl)) (eachI y _ _ _ _ _ _ hst) rfl (fun _=>rfl) ?_
      rintro r A1 ⟨h1,f1⟩
      obtain ⟨B',rfl,hb⟩:=frk_split h1 f1
      rw [Bool.true_and] at hb
      cases ha : allI (okN ks) y with
      | false =>
        rw [ha] at hb
        rw [ha,Bool.false_and] at hste
        simp only [zW,zX,zD,builtinA,isLeaf,const1,ustrA,simprocAttr,ti3,ti4,ti140,ti158,ti358,mi358,cf,Tryz.results182,hb]
        refine .inl ⟨by kernel_rfl,by kernel_rfl,?_⟩
        rw [hno hste]
      | true =>
        rw [ha] at hb
        rw [ha,Bool.true_and] at hste
        obtain ⟨r,e1,e2,e3⟩:=find_k (viK y) ks 0
        by_cases hmem : viK y ∈ ks
        · rw [decide_eq_true hmem,Bool.not_true] at hste
          rcases r with _ | ⟨q,w⟩
          · exact absurd hmem (e3.mp rfl)
          · have f4 : w = .bool (decide (viK y ∈ ks)):=e2
            rw [decide_eq_true hmem] at f4
            subst f4
            simp only [zW,zX,zD,builtinA,isLeaf,const1,ustrA,simprocAttr,ti3,ti4,ti140,ti158,ti358,mi358,cf,Tryz.results182,hb]
            refine .inl ⟨by kernel_rfl,by kernel_rfl,?_⟩
            refine wpD_invoke _ _ _ _ _ _ _ _ _ _ _ _ _ _ _ _ ?_
            simp only [zW,zX,zD,builtinA,isLeaf,const1,ustrA,simprocAttr,ti3,ti4,ti140,ti158,ti358,mi358,cf,Tryz.results182]
            refine methI_invD (metI3 (by kernel_rfl) (by kernel_rfl) (by kernel_rfl) (by kernel_rfl) (by kernel_rfl) (by kernel_rfl)) (keyI y _) rfl (fun _=>rfl) ?_
            simp only [zW,zX,zD,builtinA,isLeaf,const1,ustrA,simprocAttr,ti3,ti4,ti140,ti158,ti358,mi358,cf,Tryz.results182,wpD_look,e1]
            refine ⟨⟨rfl,rfl⟩,?_⟩
            rw [hno hste]
        · rw [decide_eq_false hmem,Bool.not_false] at hste
          rcases r with _ | ⟨q,w⟩
          · simp only [zW,zX,zD,builtinA,isLeaf,const1,ustrA,simprocAttr,ti3,ti4,ti140,ti158,ti358,mi358,cf,Tryz.results182,hb]
            refine .inl ⟨by kernel_rfl,by kernel_rfl,?_⟩
            refine wpD_invoke _ _ _ _ _ _ _ _ _ _ _ _ _ _ _ _ ?_
            simp only [zW,zX,zD,builtinA,isLeaf,const1,ustrA,simprocAttr,ti3,ti4,ti140,ti158,ti358,mi358,cf,Tryz.results182]
            refine methI_invD (metI3 (by kernel_rfl) (by kernel_rfl) (by kernel_rfl) (by kernel_rfl) (by kernel_rfl) (by kernel_rfl)) (keyI y _) rfl (fun _=>rfl) ?_
            simp only [zW,zX,zD,builtinA,isLeaf,const1,ustrA,simprocAttr,ti3,ti4,ti140,ti158,ti358,mi358,cf,Tryz.results182,wpD_look,e1]
            refine ⟨⟨rfl,rfl⟩,?_⟩
            refine .inr (drawE_intro [(false,0,1),(false,0,0),(true,0,0),(true,1,1)] [A ++ (.mapb (esK ks) :: .cells [.map A.length] :: B'),A ++ (.mapb (esK ks) :: .cells [.map A.length] :: B'),A ++ (.mapb (esK (ks ++ [viK y])) :: .cells [.map A.length] :: B')] 2 rfl (by kernel_rfl) (by kernel_rfl) (by kernel_rfl) (by kernel_rfl) (by kernel_rfl) (by kernel_rfl) ?_)
            simp only [zW,zX,zD,builtinA,isLeaf,const1,ustrA,simprocAttr,ti3,ti4,ti140,ti158,ti358,mi358,cf,Tryz.results182]
            refine wpG_invoke _ _ _ _ _ _ _ _ _ _ _ _ _ _ _ _ _ _ ?_
            simp only [zW,zX,zD,builtinA,isLeaf,const1,ustrA,simprocAttr,ti3,ti4,ti140,ti158,ti358,mi358,cf,Tryz.results182]
            refine methI_invE (metI3 (by kernel_rfl) (by kernel_rfl) (by kernel_rfl) (by kernel_rfl) (by kernel_rfl) (by kernel_rfl)) (keyI y _) rfl ?_
            simp only [zW,zX,zD,builtinA,isLeaf,const1,ustrA,simprocAttr,ti3,ti4,ti140,ti158,ti358,mi358,cf,Tryz.results182,wpG_upd,e1,upd_none]
            refine ⟨⟨rfl,rfl⟩,by simp [esK],?_⟩
            simp only [zW,zX,zD,builtinA,isLeaf,const1,ustrA,simprocAttr,ti3,ti4,ti140,ti158,ti358,mi358,cf,Tryz.results182,hi1,LoopK_eq]
            refine ⟨⟨i + 1,B',by omega,fun k hk=>?_,rfl,by rw [hkt]⟩,?_⟩
            · rcases Nat.lt_succ_iff_lt_or_eq.mp hk with h | rfl
              · exact hq k h
              · rw [hyv]; exact hste
            · simp only [intOf]; omega
          · exact absurd hmem (fun h=>nomatch e3.mpr (by simp [h] at e3))
    · have d1 : decide ((i : Int) < (ys.length : Int)) = false:=by simp; omega
      have e : i = ys.length:=by omega
      subst e
      simp only [zW,zX,zD,builtinA,isLeaf,const1,ustrA,simprocAttr,ti3,ti4,ti140,ti158,ti358,mi358,cf,Tryz.results182,vRows_length,d1]
      rw [ordB_yes hq]
noncomputable def itemOk (x : SigI) : Bool:=localB x.name && (if x.kind = 1 then decide (x.typ = ty0) else if x.kind = 2 ∨ x.kind = 3 then validB x.typ else false)
def ItemOf (x : SigI) : VI → Prop
  | .ab n=>x.name = n ∧ x.kind = 1 ∧ x.typ = ty0
  | .al n v=>x.name = n ∧ x.kind = 2 ∧ x.typ = toTy v ∧ VOk v
  | .va n v=>x.name = n ∧ x.kind = 3 ∧ x.typ = toTy v ∧ VOk v
set_option maxRecDepth 100000 in
theorem impl_readItem (x : SigI) (hx : x.Ok) (hz : sz x.typ ≤ 1048576) (A : List Box) : ACalls Tryz.prog 181 [.agg (sE x)] A (fun r A'=>((∃ y,localB x.name = true ∧ ItemOf x y ∧ r = .tuple [.iface (viT y) (viX y),.bool true]) ∨ (itemOk x = false ∧ ∃ c,r = .tuple [c,.bool false])) ∧ A' = A):=by
  have hsx : sE x = .int .i64 x.kind :: .str x.name :: enc x.typ:=rfl
  rw [hsx]
  refine acalls_enter (cf:=cf 45 [0,1,2,3,4,5,9,12,28,29,37]) foll Tryz.func181 Tryz.ntmps181 (by simp [cf]) ?_
  simp only [Tryz.f181,EnterK_some,zW,zX,zD,builtinA,isLeaf,const1,ustrA,simprocAttr,ti3,ti9,ti36,ti69,ti354,ti356,ti357,ca111,ca250,ca251,cf,Tryz.results181]
  refine ⟨by omega,?_⟩
  refine callK_intro (by simp only [zW,zX,zD,builtinA,isLeaf,const1,ustrA,simprocAttr,Option.map_some]; rfl) (impl_LocalName x.name _) ?_ rfl; rintro v A' ⟨rfl,rfl⟩
  cases hl : localB x.name with
  | false =>
    simp only [zW,zX,zD,builtinA,isLeaf,const1,ustrA,simprocAttr,ti3,ti9,ti36,ti69,ti354,ti356,ti357,ca111,ca250,ca251,cf,Tryz.results181]
    exact .inr ⟨by simp [itemOk,hl],_,rfl⟩
  | true =>
    simp only [zW,zX,zD,builtinA,isLeaf,const1,ustrA,simprocAttr,ti3,ti9,ti36,ti69,ti354,ti356,ti357,ca111,ca250,ca251,cf,Tryz.results181]
    by_cases k1 : x.kind = 1
    · have hts : ∀ A,ACalls Tryz.prog 251 [.agg (enc x.typ),.agg (enc ty0)] A (fun r A'=>r = .bool (decide (x.typ = ty0)) ∧ A' = A):=fun A=>impl_TypeSame0 x.typ A
      simp only [zW,zX,zD,builtinA,isLeaf,const1,ustrA,simprocAttr,ti3,ti9,ti36,ti69,ti354,ti356,ti357,ca111,ca250,ca251,cf,Tryz.results181,decide_eq_true k1,enc_take,enc_length]
      refine .inl ⟨by kernel_rfl,by kernel_rfl,?_⟩
      refine callD_intro (by simp only [zW,zX,zD,builtinA,isLeaf,const1,ustrA,simprocAttr,frzL_enc,Option.map_some] <;> rfl) (hts _) ?_ rfl
      simp only [zW,zX,zD,builtinA,isLeaf,const1,ustrA,simprocAttr,ti3,ti9,ti36,ti69,ti354,ti356,ti357,ca111,ca250,ca251,cf,Tryz.results181]
      by_cases ht : x.typ = ty0
      · rw [decide_eq_true ht]
        exact .inl ⟨.ab x.name,⟨rfl,k1,ht⟩,rfl⟩
      · rw [decide_eq_false ht]
        exact .inr ⟨by simp [itemOk,k1,ht],_,rfl⟩
    · simp only [zW,zX,zD,builtinA,isLeaf,const1,ustrA,simprocAttr,ti3,ti9,ti36,ti69,ti354,ti356,ti357,ca111,ca250,ca251,cf,Tryz.results181,decide_eq_false k1,enc_take,enc_length]
      refine callK_intro (by simp only [zW,zX,zD,builtinA,isLeaf,const1,ustrA,simprocAttr,frzL_enc,Option.map_some]; rfl) (impl_readType x.typ _) ?_ rfl
      rintro r A' ⟨h,rfl⟩
      rcases h with ⟨v,hv,hvo,rfl⟩ | ⟨hv,rfl⟩
      · by_cases k2 : x.kind = 2
        · simp only [zW,zX,zD,builtinA,isLeaf,const1,ustrA,simprocAttr,ti3,ti9,ti36,ti69,ti354,ti356,ti357,ca111,ca250,ca251,cf,Tryz.results181,decide_eq_true k2]
          exact ⟨by omega,by omega,.inl ⟨.al x.name v,⟨rfl,k2,hv,hvo⟩,rfl⟩⟩
        · by_cases k3 : x.kind = 3
          · simp only [zW,zX,zD,builtinA,isLeaf,const1,ustrA,simprocAttr,ti3,ti9,ti36,ti69,ti354,ti356,ti357,ca111,ca250,ca251,cf,Tryz.results181,decide_eq_false k2,decide_eq_true k3]
            exact ⟨by omega,by omega,.inl ⟨.va x.name v,⟨rfl,k3,hv,hvo⟩,rfl⟩⟩
          · simp only [zW,zX,zD,builtinA,isLeaf,const1,ustrA,simprocAttr,ti3,ti9,ti36,ti69,ti354,ti356,ti357,ca111,ca250,ca251,cf,Tryz.results181,decide_eq_false k2,decide_eq_false k3]
            exact ⟨by omega,.inr ⟨by simp [itemOk,k1,k2,k3],_,rfl⟩⟩
      · by_cases k2 : x.kind = 2
        · simp only [zW,zX,zD,builtinA,isLeaf,const1,ustrA,simprocAttr,ti3,ti9,ti36,ti69,ti354,ti356,ti357,ca111,ca250,ca251,cf,Tryz.results181,decide_eq_true k2]
          exact ⟨by omega,by omega,.inr ⟨by simp [itemOk,k2,hv],_,rfl⟩⟩
        · by_cases k3 : x.kind = 3
          · simp only [zW,zX,zD,builtinA,isLeaf,const1,ustrA,simprocAttr,ti3,ti9,ti36,ti69,ti354,ti356,ti357,ca111,ca250,ca251,cf,Tryz.results181,decide_eq_false k2,decide_eq_true k3]
            exact ⟨by omega,by omega,.inr ⟨by simp [itemOk,k3,hv],_,rfl⟩⟩
          · simp only [zW,zX,zD,builtinA,isLeaf,const1,ustrA,simprocAttr,ti3,ti9,ti36,ti69,ti354,ti356,ti357,ca111,ca250,ca251,cf,Tryz.results181,decide_eq_false k2,decide_eq_false k3]
            exact ⟨by omega,.inr ⟨by simp [itemOk,k1,k2,k3],_,rfl⟩⟩
def ReadsTo (s : List SigI) (ys : List VI) : Prop:=ys.length = s.length ∧ ∀ i,i < s.length → localB (s.getD i si0).name = true ∧ ItemOf (s.getD i si0) (ys.getD i vi0)
theorem viX_leaf (y : VI) : isLeaf (AV.iface (viT y) (viX y)) = true:=by
  cases y with
  | ab n=>rfl
  | al n v=>cases v <;> rfl
  | va n v=>cases v <;> rfl
theorem vRows_leaf (ys : List VI) : ∀ r ∈ vRows ys,r.length = 1 ∧ ∀ v ∈ r,isLeaf v = true:=by
  intro r hr
  obtain ⟨y,_,rfl⟩:=List.mem_map.mp hr
  refine ⟨rfl,fun v hv=>?_⟩
  simp only [vRow,List.mem_singleton] at hv
  subst hv
  exact viX_leaf y
theorem vRows_view (ys : List VI) (A : List Box) : ∀ k j,k < (vRows ys).length → j < 1 → View A (Abs.rowAt (vRows ys) k j) (Abs.rowAt (vRows ys) k j):=by
  intro k j hk hj
  have : j = 0:=by omega
  subst this
  refine .leaf _ ?_
  rw [vRows_length] at hk
  simp only [Abs.rowAt,vRows_getD hk,vRow]
  exact viX_leaf _
theorem vRow_step {ys : List VI} {n : Nat} (y : VI) (h : ys.length < n) : (vRows ys ++ List.replicate (n - ys.length) [AV.nili]).set ys.length (AV.iface (viT y) (viX y) :: List.drop 1 ((vRows ys ++ List.replicate (n - ys.length) [AV.nili]).getD ys.length [])) = vRows (ys ++ [y]) ++ List.replicate (n - (ys.length + 1)) [AV.nili]:=by
  obtain ⟨m,rfl⟩ : ∃ m,n = ys.length + (m + 1):=⟨n - ys.length - 1,by omega⟩
  have e1 : ys.length + (m + 1) - ys.length = m + 1:=by omega
  have e2 : ys.length + (m + 1) - (ys.length + 1) = m:=by omega
  rw [e1,e2,List.replicate_succ]
  have hl:=vRows_length ys
  rw [Abs.getD_append_right (by omega),List.set_append_right _ _ (by omega),hl]
  simp [vRows,vRow]
set_option maxRecDepth 100000 in
theorem impl_readEach (s : List SigI) (hs : s.length ≤ 1048576) (ho : ∀ x ∈ s,x.Ok ∧ sz x.typ ≤ 1048576) (A : List Box) : ACalls Tryz.prog 180 [.slice (sEs s),.int .i64 8,.func (.func 181) [] []] A (fun r A'=>∃ B,A' = A ++ B ∧
    ((∃ ys j,s.length ≤ 8 ∧ ReadsTo s ys ∧ r = .tuple [.own (A.length + j),.bool true] ∧ j < B.length ∧ B.getD j .dead = .row 1 (vRows ys) 0) ∨ ((8 < s.length ∨ ∃ x ∈ s,itemOk x = false) ∧ r = .tuple [.nils,.bool false]))):=by
  by_cases h8 : s.length ≤ 8
  · have d1 : decide ((s.length : Int) > 8) = false:=by simp; omega
    have d1' : decide ((8 : Int) < (s.length : Int)) = false:=by simp; omega
    refine acalls_enterK (cf:=cf 41 [0,1,2,6,7,8,9,10,11,12,16,20,21,22,23,34]) foll Tryz.func180 Tryz.ntmps180 (by simp [cf]) ?_
    simp only [Tryz.f180,EnterK_some,zW,zX,zD,builtinA,isLeaf,const1,ustrA,simprocAttr,ti3,ti50,ti69,ti139,ti158,cf,Tryz.results180]
    simp only [zW,zX,zD,builtinA,isLeaf,const1,ustrA,simprocAttr,ti3,ti50,ti69,ti139,ti158,cf,Tryz.results180,sEs_length,d1,d1']
    refine ⟨⟨by omega,by omega,by omega⟩,?_⟩
    refine aloop_intro [2,8,20,21,22] (fun e A'=>∃ i ys B,i ≤ s.length ∧ ys.length = i ∧ (∀ k,k < i → localB (s.getD k si0).name = true ∧ ItemOf (s.getD k si0) (ys.getD k vi0)) ∧ e = [(2,.func (.func 181) [] []),(8,.own A.length),(20,.slice (sEs s)),(21,.int .i64 s.length),(22,.int .i64 i)] ∧ A' = A ++ (.row 1 (vRows ys ++ List.replicate (s.length - i) [.nili]) 0 :: B)) (fun e _=>s.length - (intOf (Abs.look 22 e)).toNat) ?_ ?_
    · simp only [zW,zX,zD,builtinA,isLeaf,const1,ustrA,simprocAttr,ti3,ti50,ti69,ti139,ti158,cf,Tryz.results180]
      exact ⟨0,[],[],by omega,rfl,fun k hk=>by omega,rfl,by simp [vRows]⟩
    · rintro e A' ⟨i,ys,B,hi,hyl,hq,rfl,rfl⟩
      by_cases hlt : i < s.length
      · have d2 : decide ((i : Int) < (s.length : Int)) = true:=by simp; omega
        have hlt' : 0 ≤ (i : Int) ∧ (i : Int) < (s.length : Int):=by omega
        have hg:=sEs_getD hlt
        have hmem:=si_mem hlt
        have hi1 : IntKind.i64.wrap ((i : Int) + 1) = ((i + 1 : Nat) : Int):=by rw [wrap64 (by omega) (by omega)]; rfl
        have hri:=fun A=>impl_readItem (s.getD i si0) (ho _ hmem).1 (ho _ hmem).2 A
        generalize hx : s.getD i si0 = x at *
        simp only [zW,zX,zD,builtinA,isLeaf,const1,ustrA,simprocAttr,ti3,ti50,ti69,ti139,ti158,cf,Tryz.results180,sEs_length,d2,hg,sE_length,sE_take]
        refine ⟨hlt',?_⟩
        refine wpO_callv _ _ _ _ _ _ _ _ _ _ _ _ _ _ _ ?_
        simp only [zW,zX,zD,builtinA,isLeaf,const1,ustrA,simprocAttr,ti3,ti50,ti69,ti139,ti158,cf,Tryz.results180]
        refine ⟨by kernel_rfl,?_⟩
        refine callK_intro (by simp only [zW,zX,zD,builtinA,isLeaf,const1,ustrA,simprocAttr,frzL_sE,Option.map_some,List.nil_append,List.append_nil]; rfl) (hri _) ?_ rfl
        rintro r A' ⟨h,rfl⟩
        rcases h with ⟨y,hln,hit,rfl⟩ | ⟨hbad,c,rfl⟩
        · have hst:=vRow_step (ys:=ys) (n:=s.length) y (by omega)
          have hlen : (vRows ys).length + (List.replicate (s.length - i) [AV.nili]).length = s.length:=by simp [vRows_length]; omega
          subst hyl
          simp only [zW,zX,zD,builtinA,isLeaf,const1,ustrA,simprocAttr,ti3,ti50,ti69,ti139,ti158,cf,Tryz.results180,hlen,vRows_length,hst,hi1,LoopK_eq]
          refine ⟨⟨by omega,by simp; omega⟩,⟨by omega,by simp; omega,fun v hv=>?_⟩,⟨ys.length + 1,ys ++ [y],_,by omega,by simp,fun k hk=>?_,rfl,rfl⟩,?_⟩
          · simp only [List.mem_singleton] at hv
            subst hv
            rfl
          · rcases Nat.lt_succ_iff_lt_or_eq.mp hk with h | rfl
            · have : (ys ++ [y]).getD k vi0 = ys.getD k vi0:=by simp [List.getD,List.getElem?_append_left h]
              rw [this]
              exact hq k h
            · rw [hx]
              have : (ys ++ [y]).getD ys.length vi0 = y:=by simp [List.getD]
              rw [this]
              exact ⟨hln,hit⟩
          · simp only [intOf]; omega
        · simp only [zW,zX,zD,builtinA,isLeaf,const1,ustrA,simprocAttr,ti3,ti50,ti69,ti139,ti158,cf,Tryz.results180]
          exact ⟨_,rfl,.inr (.inr ⟨x,hmem,hbad⟩)⟩
      · have d2 : decide ((i : Int) < (s.length : Int)) = false:=by simp; omega
        have e : ys.length = s.length:=by omega
        subst hyl
        have hz : List.replicate (s.length - ys.length) [AV.nili] = []:=by rw [e]; simp
        rw [hz,List.append_nil]
        simp only [zW,zX,zD,builtinA,isLeaf,const1,ustrA,simprocAttr,ti3,ti50,ti69,ti139,ti158,cf,Tryz.results180,sEs_length,d2]
        exact ⟨_,rfl,.inl ⟨ys,0,h8,⟨e,fun k hk=>hq k (by omega)⟩,rfl,by simp,rfl⟩⟩
  · have d1 : decide ((s.length : Int) > 8) = true:=by simp; omega
    have d1' : decide ((8 : Int) < (s.length : Int)) = true:=by simp; omega
    refine acalls_enterK (cf:=cf 41 [0,1,2,6,7,8,9,10,11,12,16,20,21,22,23,34]) foll Tryz.func180 Tryz.ntmps180 (by simp [cf]) ?_
    simp only [Tryz.f180,EnterK_some,zW,zX,zD,builtinA,isLeaf,const1,ustrA,simprocAttr,ti3,ti50,ti69,ti139,ti158,cf,Tryz.results180]
    simp only [zW,zX,zD,builtinA,isLeaf,const1,ustrA,simprocAttr,ti3,ti50,ti69,ti139,ti158,cf,Tryz.results180,sEs_length,d1,d1']
    exact ⟨[],by simp,.inr (.inl (by omega))⟩
set_option maxRecDepth 100000 in
theorem impl_readSig (s : List SigI) (hs : s.length ≤ 1048576) (ho : ∀ x ∈ s,x.Ok ∧ sz x.typ ≤ 1048576) (A : List Box) : ACalls Tryz.prog 91 [.slice (sEs s)] A (fun r A' =>
    ((∃ ys,s.length ≤ 8 ∧ ReadsTo s ys ∧ r = .tuple [.slice (vRows ys),.bool (ordB ys)]) ∨ ((8 < s.length ∨ ∃ x ∈ s,itemOk x = false) ∧ r = .tuple [.slice [],.bool false])) ∧ A' = A):=by
  have hre:=impl_readEach s hs ho A
  refine acalls_enter (cf:=cf 17 [0,2,3,4,5]) foll Tryz.func91 Tryz.ntmps91 (by simp [cf]) ?_
  simp only [Tryz.f91,EnterK_some,zW,zX,zD,builtinA,isLeaf,const1,ustrA,simprocAttr,ca180,ca182,cf,Tryz.results91]
  refine callO_intro hre ?_
  rintro r A' ⟨B,rfl,⟨ys,j,h8,hrt,rfl,hj,hg⟩ | ⟨hbad,rfl⟩⟩
  · have hg2 : (A ++ B).getD (A.length + j) .dead = .row 1 (vRows ys) 0:=by rw [Abs.getD_append_right (by omega),Nat.add_sub_cancel_left]; exact hg
    simp only [zW,zX,zD,builtinA,isLeaf,const1,ustrA,simprocAttr,ca180,ca182,cf,Tryz.results91]
    refine callO_intro (borrowI (.cons (.row (A.length + j) 1 0 (vRows ys) (vRows ys) hg2 rfl (vRows_leaf ys) (vRows_view ys _)) .nil) rfl (fun A=>impl_inOrder ys (by have:=hrt.1; omega) A)) ?_
    rintro r A' ⟨rfl,rfl⟩
    simp only [zW,zX,zD,builtinA,isLeaf,const1,ustrA,simprocAttr,ca180,ca182,cf,Tryz.results91,hg2]
    exact .inl ⟨ys,h8,hrt,rfl⟩
  · simp only [zW,zX,zD,builtinA,isLeaf,const1,ustrA,simprocAttr,ca180,ca182,cf,Tryz.results91]
    exact .inr hbad
end Go.Proofs.YtnjdbgiincliaaaGreat
/- The sorted keys of a map, on abstract runs. -/
set_option linter.unusedVariables false
set_option linter.unusedSimpArgs false
namespace Go.Abs
open Go.RowKit Go.Maps
def srt (ks : List (List UInt8)) : List (List UInt8):=ks.mergeSort (fun x y=>decide (x ≤ y))
def setK (ks : List (List UInt8)) : List (AV × AV):=ks.map fun q=>(.str q,.bool true)
theorem Kept.of_below {w w' : World} (h : Below w.heap.size w w') : Kept (fun _=>False) w w':=⟨h.os,h.tape,h.output,h.size,fun b hb _=>h.block b hb⟩
theorem HRel.grown {G : Ghost} {A : List Box} {w w' : World} {base : Nat} (h : HRel G A w base) (hk : Kept (fun _=>False) w w') : HRel G A w' base ∧ Ext G w G w':=by
  have e : Ext G w G w':=⟨Nat.le_refl _,fun _ _ x=>x,fun x o hx=>cell?_congr (hk.block x (h.imm x o hx) (fun f=>f)) o,fun _ _=>⟨rfl,rfl,rfl,rfl,rfl⟩,fun x o hx f=>hk.fz (h.imm x o hx) (fun f=>f) f⟩
  exact ⟨⟨h.n,fun i hi=>by
      by_cases hl : (A.getD i .dead).live = true
      · exact (h.box i hi).mono e (by rw [h.n]; exact hi) (fun li=>hk.block _ (h.bnd i hi li).2 (fun f=>f)) (fun _ _ x=>x)
      · exact (h.box i hi).mono e (by rw [h.n]; exact hi) (fun li=>absurd li hl) (fun _ _ x=>x),
    h.sep,fun i hi li=>⟨(h.bnd i hi li).1,Nat.lt_of_lt_of_le (h.bnd i hi li).2 hk.size⟩,fun b o x=>Nat.lt_of_lt_of_le (h.imm b o x) hk.size,Nat.le_trans h.low hk.size,h.gv.block fun b hb=>hk.block b (by have:=h.low; omega) (fun f=>f)⟩,e⟩
theorem HRel.pushAt {G : Ghost} {A : List Box} {w w' : World} {base g : Nat} (h : HRel G A w base) (bx : Box) (off len cap sz : Nat)
    (hk : Kept (fun _=>False) w w') (hg : w.heap.size ≤ g) (hs : g < w'.heap.size)
    (hb : Ext G w (G.add g off len cap sz) w' → BoxOk (G.add g off len cap sz) w' G.n bx) :
    HRel (G.add g off len cap sz) (A ++ [bx]) w' base ∧ Ext G w (G.add g off len cap sz) w':=by
  have e : Ext G w (G.add g off len cap sz) w':=Ghost.add_ext _ _ _ _ _ (fun x o hx=>cell?_congr (hk.block x (h.imm x o hx) (fun f=>f)) o) fun x o hx f=>hk.fz (h.imm x o hx) (fun f=>f) f
  have hn:=h.n
  have hblk : ∀ i,i < A.length → (G.add g off len cap sz).blk i = G.blk i:=fun i hi=>(e.ids i (by omega)).1
  have hnew : (G.add g off len cap sz).blk A.length = g:=by simp [Ghost.add,hn]
  refine ⟨⟨by simp [Ghost.add,hn],fun i hi=>?_,fun i j hi hj hne li lj=>?_,fun i hi li=>?_,fun b o x=>Nat.lt_of_lt_of_le (h.imm b o x) hk.size,Nat.le_trans h.low hk.size,h.gv.block fun b hb=>hk.block b (by have:=h.low; omega) (fun f=>f)⟩,e⟩
  · simp only [List.length_append,List.length_singleton] at hi
    by_cases hlt : i < A.length
    · rw [getD_append_left hlt]
      exact (h.box i hlt).mono e (by omega) (fun li=>hk.block _ (h.bnd i hlt li).2 (fun f=>f)) (fun _ _ x=>x)
    · obtain rfl : i = A.length:=by omega
      have : (A ++ [bx]).getD A.length Box.dead = bx:=by simp [List.getD]
      rw [this,← hn]; exact hb e
  · simp only [List.length_append,List.length_singleton] at hi hj
    by_cases hil : i < A.length
    · rw [getD_append_left hil] at li
      by_cases hjl : j < A.length
      · rw [getD_append_left hjl] at lj
        rw [hblk i hil,hblk j hjl]; exact h.sep i j hil hjl hne li lj
      · obtain rfl : j = A.length:=by omega
        rw [hblk i hil,hnew]; have:=(h.bnd i hil li).2; omega
    · obtain rfl : i = A.length:=by omega
      have hjl : j < A.length:=by omega
      rw [getD_append_left hjl] at lj
      rw [hblk j hjl,hnew]; have:=(h.bnd j hjl lj).2; omega
  · simp only [List.length_append,List.length_singleton] at hi
    by_cases hil : i < A.length
    · rw [getD_append_left hil] at li
      rw [hblk i hil]; have:=h.bnd i hil li; exact ⟨this.1,Nat.lt_of_lt_of_le this.2 hk.size⟩
    · obtain rfl : i = A.length:=by omega
      rw [hnew]; exact ⟨Nat.le_trans h.low hg,hs⟩
def setR : Value → Option (DataW Unit × List MemPlace):=fun _=>some (.lit (.bool true),[])
theorem set_owns {P : Program} {K : TypeId} (hK : P.underlying K = some .string) {G : Ghost} {A : List Box} {w : World} {base i : Nat} {ks : List (List UInt8)} (hn : ks.Nodup) (hl : ks.length ≤ 1000) (hq : ∀ q ∈ ks,q.length ≤ 1000)
    (h : HRel G A w base) (hi : i < G.n) (hA : A.getD i .dead = .mapb (setK ks)) :
    ∃ D : DataW Unit,w.ownsMap P K setR (G.blk i) ks.length D ∧ (strKeys D).Perm ks ∧ Maps.size D = ks.length:=by
  obtain ⟨m,cl,g1,g2,g3,g4⟩:=mapAt h hi hA
  have hml : m.toList.length = ks.length:=by have:=g2.1; simpa [setK] using this
  have hkey : ∀ j (hj : j < ks.length),(m.toList.getD j default).key = Go.Proofs.encStr (ks.getD j []):=fun j hj=>by
    have h1:=(g2.2 j (by simpa [setK] using hj)).1
    have e : ((setK ks).getD j (.bot,.bot)).1 = .str (ks.getD j []):=by simp [setK,List.getD,hj]
    rw [e] at h1
    generalize (m.toList.getD j default).key = v at *
    cases h1
    rfl
  have hkeys : m.toList.map (·.key) = ks.map Go.Proofs.encStr:=by
    refine List.ext_getElem (by simpa using hml) fun j h1 h2=>?_
    have hj : j < ks.length:=by simpa using h2
    have hjm : j < m.toList.length:=by omega
    have:=hkey j hj
    simp only [List.getD,List.getElem?_eq_getElem hjm,List.getElem?_eq_getElem hj,Option.getD_some] at this
    simpa using this
  have hrd : ∀ x ∈ m.toList,∃ q ∈ ks,Go.WideElems.rd P K setR x = some (.string q,.lit (.bool true)) ∧ x.key = Go.Proofs.encStr q:=fun x hx=>by
    have : x.key ∈ m.toList.map (·.key):=List.mem_map.2 ⟨x,hx,rfl⟩
    rw [hkeys] at this
    obtain ⟨q,hq1,e⟩:=List.mem_map.1 this
    refine ⟨q,hq1,?_,e.symm⟩
    have hkk : keyOf P K x.key = some (.string q):=by
      rw [← e]
      have hs : (ByteArray.mk q.toArray).size ≤ maxLen:=by
        have:=hq q hq1
        show q.toArray.size ≤ maxLen
        have hm : maxLen = 2 ^ 63 - 1:=rfl
        simp; omega
      have:=Go.WideMaps.keyOf_string_mk (P:=P) (k:=K) hK hs
      simpa [Go.Proofs.encStr] using this
    simp [Go.WideElems.rd,hkk,setR]
  have hnd : (m.toList.map (·.key)).Nodup:=by
    rw [hkeys]
    exact List.Pairwise.map _ (fun a b hne e=>hne (encStr_inj e)) hn
  have F : Go.WideElems.Fit P K setR m cl := ⟨by have hm : maxLen = 2 ^ 63 - 1 := rfl; have : m.size = ks.length := by simpa using hml
                                                 omega,⟨g4.1,g4.2,hnd⟩,fun x hx=>by obtain ⟨q,_,h,_⟩:=hrd x hx; exact ⟨_,h⟩⟩
  have hms : m.size = ks.length:=by simpa using hml
  refine ⟨_,⟨m,cl,g1,F,by omega,rfl⟩,?_,?_⟩
  · have hp:=Go.WideShapes.sorted_perm (m.toList.map (Go.WideElems.rg P K setR))
    have hx : (m.toList.map (Go.WideElems.rg P K setR)).map (fun p=>strOf p.1) = ks:=by
      have e1 : (m.toList.map (Go.WideElems.rg P K setR)).map (fun p=>strOf p.1) = (m.toList.map (·.key)).map (fun v=>match v with | .string s=>s.data.toList | _=>[]):=by
        rw [List.map_map,List.map_map]
        refine List.map_congr_left fun x hx=>?_
        obtain ⟨q,_,h1,h2⟩:=hrd x hx
        simp only [Function.comp,Go.WideElems.rg_of h1,h2]
        simp [Go.Proofs.encStr,strOf]
      rw [e1,hkeys,List.map_map]
      conv=>rhs; rw [← List.map_id ks]
      refine List.map_congr_left fun q _=>?_
      simp [Go.Proofs.encStr]
    have:=hp.map (fun p=>strOf p.1)
    rw [hx] at this
    exact this
  · show (List.foldr DataW.insert [] _).length = _
    rw [length_sorted]; simp [hms]
theorem sorted_of {P : Program} {f K : Nat} (hK : P.underlying K = some .string)
    (hS : ∀ (b nn : Nat) (D0 : DataW Unit) (R : Value → Option (DataW Unit × List MemPlace)) (w : World),w.ownsMap P K R b nn D0 → Maps.size D0 ≤ maxLen → Maps.size D0 * 16 ≤ 140737488355328 →
      Calls P f #[.map (some b)] w fun e w'=>∃ (v : Value) (ss : List (List UInt8)),e = .returned v ∧ ss.Perm (strKeys D0) ∧ w'.ownsRow w.heap.size K 1 v ss.length ((ss.mergeSort (fun x y=>decide (x ≤ y))).map Go.Proofs.encStr) ∧ (v = .slice none 0 0 ↔ ss = []) ∧ Below w.heap.size w w')
    (i : Nat) (ks : List (List UInt8)) (hn : ks.Nodup) (hl : ks.length ≤ 1000) (hq : ∀ q ∈ ks,q.length ≤ 1000) (A : List Box) (hA : A.getD i .dead = .mapb (setK ks)) :
    ACalls P f [.map i] A (fun r A'=>(ks = [] ∧ r = .nils ∧ A' = A) ∨ (ks ≠ [] ∧ r = .own A.length ∧ A' = A ++ [.row 1 ((srt ks).map fun s=>[AV.str s]) 0])):=by
  intro G w base xs hH hx
  obtain ⟨v,hxs,hv⟩:=hx.one
  obtain ⟨xl⟩:=xs
  simp only at hxs
  subst hxs
  cases hv with
  | map i hi =>
    obtain ⟨D,hD,hp,hsz⟩:=set_owns hK hn hl hq hH hi hA
    have hm : maxLen = 2 ^ 63 - 1:=rfl
    refine (hS (G.blk i) ks.length D setR w hD (by omega) (by omega)).mono ?_
    rintro e w' ⟨v,ss,rfl,hperm,hrow,hnil,hb⟩
    have hpk:=hperm.trans hp
    have hk:=Kept.of_below hb
    have hbb : Below base w w':=hk.below (fun b f=>f.elim) hH.low
    rcases hrow.2 with ⟨rfl,hz⟩ | ⟨g,cap,cur,rfl,hbase,hgb,r1,r2,r3,r4⟩
    · have hss:=hnil.1 rfl
      subst hss
      have hks : ks = []:=hpk.symm.eq_nil
      obtain ⟨q1,q2⟩:=hH.grown hk
      exact ⟨_,.nils,A,G,rfl,.inl ⟨hks,rfl,rfl⟩,.nils,q1,q2,hbb⟩
    · have hsn : ss ≠ []:=fun e=>by
        have:=hnil.2 e
        cases this
      have hkn : ks ≠ []:=fun e=>hsn (by rw [e] at hpk; exact hpk.eq_nil)
      have hsrt : ss.mergeSort (fun x y=>decide (x ≤ y)) = srt ks:=mergeSort_of_perm hpk
      have hlen : ss.length = ks.length:=hpk.length_eq
      have hsl : (srt ks).length = ks.length:=by simp [srt]
      rw [hsrt] at r4
      have hgl : g < w'.heap.size:=(Array.getElem?_eq_some_iff.1 hgb).1
      have hp:=hH.pushAt (g:=g) (.row 1 ((srt ks).map fun s=>[AV.str s]) 0) 0 ss.length cap 1 hk hbase hgl fun e'=>by
        have hb' : (G.add g 0 ss.length cap 1).blk G.n = g:=by simp [Ghost.add]
        have ho : (G.add g 0 ss.length cap 1).off G.n = 0:=by simp [Ghost.add]
        have hcp : (G.add g 0 ss.length cap 1).cap G.n = cap:=by simp [Ghost.add]
        refine ⟨cur,K,by rw [hb']; exact hgb,trivial,by simp [Ghost.add,hsl,hlen],by rw [hcp]; simp [hsl]; omega,by simp [Ghost.add],by rw [ho,hcp]; omega,Nat.zero_le _,fun r hr=>?_,fun k j hk' hj=>?_,fun o _ hh=>?_⟩
        · obtain ⟨s,_,rfl⟩:=List.mem_map.1 hr
          exact ⟨rfl,fun v hv=>by rw [List.mem_singleton.1 hv]; rfl⟩
        · obtain rfl : j = 0:=by omega
          have hk2 : k < (srt ks).length:=by simpa using hk'
          have e1 : rowAt ((srt ks).map fun s=>[AV.str s]) k 0 = .str ((srt ks).getD k []):=by simp [rowAt,List.getD,hk2]
          have e2 : cur.getD (0 + (k * 1 + 0)) undef = Go.Proofs.encStr ((srt ks).getD k []):=by
            have h1 : (cur.toList.take (ss.length * 1))[k]? = ((srt ks).map Go.Proofs.encStr)[k]?:=by rw [r4]
            rw [List.getElem?_take_of_lt (by omega),Array.getElem?_toList,List.getElem?_map,List.getElem?_eq_getElem hk2] at h1
            simp only [Nat.mul_one,Nat.add_zero,Nat.zero_add,Array.getD_eq_getD_getElem?,h1]
            simp [List.getD,hk2]
          rw [ho,e1,e2]
          exact .str _
        · rw [hb'] at hh
          exact absurd (hH.imm _ _ hh) (by omega)
      refine ⟨_,.own A.length,_,_,rfl,.inr ⟨hkn,rfl,rfl⟩,?_,hp.1,hp.2,hbb⟩
      have:=RV.own (G:=G.add g 0 ss.length cap 1) (w:=w') A.length (by simp [Ghost.add,hH.n])
      simpa [Ghost.add,hH.n] using this
end Go.Abs
