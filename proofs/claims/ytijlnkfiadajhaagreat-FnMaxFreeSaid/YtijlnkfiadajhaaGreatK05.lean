/- ExWalk, Draw. -/
import Derived.Test.YtijlnkfiadajhaaGreatK04
import Derived.Test.YtijlnkfiadajhaaGreatAbsW3
/- The program's walk through an expression, and MaxFree. -/
set_option linter.unusedVariables false
set_option linter.unusedSimpArgs false
namespace Go.Proofs.YtijlnkfiadajhaaGreat
open Go.Abs
theorem frzC_vxE (x : VE) (A : List Box) : frzC (vxE x) A = some (vxE x,A):=by cases x <;> rfl
def pickE (f1 f2 f3 f4 f5 f6 f7 : FuncId) : VE → FuncId
  | .var _=>f1
  | .num _=>f2
  | .nm _ _=>f3
  | .fn _ _=>f4
  | .app _ _=>f5
  | .add _ _=>f6
  | .ite _ _ _=>f7
structure MetE (name : String) (gs : VE → FuncId) : Prop where
  find : ∀ v,methA Tryz.prog (vtE v) name = some (gs v)
  call : ∀ v,callable Tryz.prog (gs v) = true
theorem metE7 {name : String} {f1 f2 f3 f4 f5 f6 f7 : FuncId}
    (h1 : methA Tryz.prog 253 name = some f1) (h2 : methA Tryz.prog 401 name = some f2) (h3 : methA Tryz.prog 171 name = some f3) (h4 : methA Tryz.prog 264 name = some f4)
    (h5 : methA Tryz.prog 404 name = some f5) (h6 : methA Tryz.prog 406 name = some f6) (h7 : methA Tryz.prog 408 name = some f7)
    (c1 : callable Tryz.prog f1 = true) (c2 : callable Tryz.prog f2 = true) (c3 : callable Tryz.prog f3 = true) (c4 : callable Tryz.prog f4 = true) (c5 : callable Tryz.prog f5 = true) (c6 : callable Tryz.prog f6 = true) (c7 : callable Tryz.prog f7 = true) : MetE name (pickE f1 f2 f3 f4 f5 f6 f7) :=
  ⟨fun v=>match v with
    | .var _=>h1
    | .num _=>h2
    | .nm _ _=>h3
    | .fn _ _=>h4
    | .app _ _=>h5
    | .add _ _=>h6
    | .ite _ _ _=>h7,
   fun v=>match v with
    | .var _=>c1
    | .num _=>c2
    | .nm _ _=>c3
    | .fn _ _=>c4
    | .app _ _=>c5
    | .add _ _=>c6
    | .ite _ _ _=>c7⟩
theorem methE_invK {own ow : FuncId → Bool} {name : String} {gs : VE → FuncId} {v : VE} {args args' : List AV} {A A1 : List Box} {R : AV → List Box → Prop} {N : Nat} {ops : Array Oper} {Q : Env → List Box → Prop} {rest : List Oper} {d : Option Tmp} {e : Env}
    (hm : MetE name gs) (h : ACalls Tryz.prog (gs v) (vxE v :: args') A1 R) (hf : frzs args A = some (args',A1)) (ho : ∀ g,own g = false)
    (hk : ∀ r A',R r A' → wpO Tryz.prog ow N ops Q rest (putA N d r e) A') : InvK Tryz.prog own name (.iface (vtE v) (vxE v)) args A (ContO Tryz.prog ow N ops Q rest d e):=by
  have h1:=hm.find v
  have h2:=hm.call v
  generalize gs v = g at h h1 h2
  refine ⟨g,h1,h2,callK_intro (args':=vxE v :: args') (A1:=A1) ?_ h hk (ho g)⟩
  simp only [frzs,frzC_vxE,hf]
def OpsM (v : VE) : Prop:=∀ A,ACalls Tryz.prog ((pickE 364 437 353 382 442 448 309) v) [vxE v] A (fun r A'=>r = .slice (rowsV (kidsE v)) ∧ A' = A)
set_option maxRecDepth 100000 in
theorem var_ops (i : Int) : OpsM (.var i):=fun A=>by
  show ACalls Tryz.prog 364 _ _ _
  rw [vxE]
  refine acalls_enter (cf:=cf 3 [0,2]) foll Tryz.func364 Tryz.ntmps364 (by simp [cf]) ?_
  simp only [Tryz.f364,EnterK_some,zW,zX,zD,builtinA,isLeaf,const1,ustrA,simprocAttr,ti253,cf,Tryz.results364]
  try simp [rowsV,kidsE]
set_option maxRecDepth 100000 in
theorem num_ops (i : Int) : OpsM (.num i):=fun A=>by
  show ACalls Tryz.prog 437 _ _ _
  rw [vxE]
  refine acalls_enter (cf:=cf 3 [0,2]) foll Tryz.func437 Tryz.ntmps437 (by simp [cf]) ?_
  simp only [Tryz.f437,EnterK_some,zW,zX,zD,builtinA,isLeaf,const1,ustrA,simprocAttr,ti401,cf,Tryz.results437]
  try simp [rowsV,kidsE]
set_option maxRecDepth 100000 in
theorem nm_ops (m n : List UInt8) : OpsM (.nm m n):=fun A=>by
  show ACalls Tryz.prog 353 _ _ _
  rw [vxE]
  refine acalls_enter (cf:=cf 3 [0,2]) foll Tryz.func353 Tryz.ntmps353 (by simp [cf]) ?_
  simp only [Tryz.f353,EnterK_some,zW,zX,zD,builtinA,isLeaf,const1,ustrA,simprocAttr,ti171,cf,Tryz.results353]
  try simp [rowsV,kidsE]
set_option maxRecDepth 100000 in
theorem fn_ops (t : VT) (b : VE) : OpsM (.fn t b):=fun A=>by
  show ACalls Tryz.prog 382 _ _ _
  rw [vxE]
  refine acalls_enter (cf:=cf 6 [0,1,2]) foll Tryz.func382 Tryz.ntmps382 (by simp [cf]) ?_
  simp only [Tryz.f382,EnterK_some,zW,zX,zD,builtinA,isLeaf,const1,ustrA,simprocAttr,ti101,ti259,ti264,cf,Tryz.results382]
  try simp [rowsV,kidsE,ifE]
set_option maxRecDepth 100000 in
theorem app_ops (a b : VE) : OpsM (.app a b):=fun A=>by
  show ACalls Tryz.prog 442 _ _ _
  rw [vxE]
  refine acalls_enter (cf:=cf 8 [0,1,2]) foll Tryz.func442 Tryz.ntmps442 (by simp [cf]) ?_
  simp only [Tryz.f442,EnterK_some,zW,zX,zD,builtinA,isLeaf,const1,ustrA,simprocAttr,ti101,ti259,ti404,cf,Tryz.results442]
  try simp [rowsV,kidsE,ifE]
set_option maxRecDepth 100000 in
theorem add_ops (a b : VE) : OpsM (.add a b):=fun A=>by
  show ACalls Tryz.prog 448 _ _ _
  rw [vxE]
  refine acalls_enter (cf:=cf 8 [0,1,2]) foll Tryz.func448 Tryz.ntmps448 (by simp [cf]) ?_
  simp only [Tryz.f448,EnterK_some,zW,zX,zD,builtinA,isLeaf,const1,ustrA,simprocAttr,ti101,ti259,ti406,cf,Tryz.results448]
  try simp [rowsV,kidsE,ifE]
set_option maxRecDepth 100000 in
theorem ite_ops (c a b : VE) : OpsM (.ite c a b):=fun A=>by
  show ACalls Tryz.prog 309 _ _ _
  rw [vxE]
  refine acalls_enter (cf:=cf 10 [0,1,2]) foll Tryz.func309 Tryz.ntmps309 (by simp [cf]) ?_
  simp only [Tryz.f309,EnterK_some,zW,zX,zD,builtinA,isLeaf,const1,ustrA,simprocAttr,ti101,ti259,ti408,cf,Tryz.results309]
  try simp [rowsV,kidsE,ifE]
theorem opsM (v : VE) : OpsM v:=by
  cases v with
  | var i=>exact var_ops i
  | num i=>exact num_ops i
  | nm m n=>exact nm_ops m n
  | fn t b=>exact fn_ops t b
  | app a b=>exact app_ops a b
  | add a b=>exact add_ops a b
  | ite c a b=>exact ite_ops c a b
section
variable {σ : Type} (f : VE → Int → σ → σ)
def walkF : VE → Int → σ → σ
  | .var i,d,s=>f (.var i) d s
  | .num i,d,s=>f (.num i) d s
  | .nm m n,d,s=>f (.nm m n) d s
  | .fn t b,d,s=>walkF b (d + 1) (f (.fn t b) d s)
  | .app a b,d,s=>walkF b d (walkF a d (f (.app a b) d s))
  | .add a b,d,s=>walkF b d (walkF a d (f (.add a b) d s))
  | .ite c a b,d,s=>walkF b d (walkF a d (walkF c d (f (.ite c a b) d s)))
def walkI (v : VE) (d : Int) (s : σ) (i : Nat) : σ:=((kidsE v).take i).foldl (fun s k=>walkF f k (inE v d) s) (f v d s)
theorem walkI_zero (v : VE) (d : Int) (s : σ) : walkI f v d s 0 = f v d s:=by simp [walkI]
theorem walkI_all (v : VE) (d : Int) (s : σ) : walkI f v d s (kidsE v).length = walkF f v d s:=by
  cases v <;> simp [walkI,kidsE,walkF,inE,kindE]
theorem walkI_succ {v : VE} {d : Int} {s : σ} {i : Nat} (h : i < (kidsE v).length) : walkI f v d s (i + 1) = walkF f ((kidsE v).getD i ve0) (inE v d) (walkI f v d s i):=by
  have e : (kidsE v).take (i + 1) = (kidsE v).take i ++ [(kidsE v).getD i ve0]:=by rw [List.take_add_one]; simp [List.getD,h]
  unfold walkI
  rw [e,List.foldl_append]
  rfl
end
theorem rowsV_getD {vs : List VE} {i : Nat} (h : i < vs.length) : (rowsV vs).getD i [] = [ifE (vs.getD i ve0)]:=by simp [rowsV,List.getD,h]
theorem assert_fn (v : VE) : ∃ a b,∀ A,assertA 264 [.nili,.nili] (.iface (vtE v) (vxE v)) A = some (True,.tuple [.agg [a,b],.bool (decide (kindE v = 4))],A):=by
  cases v <;> exact ⟨_,_,fun _=>rfl⟩
def VisM {σ : Type} (I : σ → List Box → Prop) (f : VE → Int → σ → σ) (g : FuncId) (cap : List AV) : Prop :=
  ∀ (v : VE) (d : Int) (s : σ) (A : List Box),okE v → 0 ≤ d → d ≤ 1000 → I s A → ACalls Tryz.prog g (ifE v :: .int .i64 d :: cap) A (fun _ A'=>I (f v d s) A')
set_option maxRecDepth 100000 in
set_option maxHeartbeats 1000000 in
theorem impl_walk {σ : Type} (I : σ → List Box → Prop) (hI : ∀ s A L,I s A → I s (A ++ L)) (f : VE → Int → σ → σ) (g : FuncId) (hg : callable Tryz.prog g = true) (cap : List AV) (hv : VisM I f g cap) (v : VE) :
    ∀ (d : Int) (s : σ) (A : List Box),okE v → 0 ≤ d → d + depE v ≤ 1000 → I s A → ACalls Tryz.prog 155 [ifE v,.int .i64 d,.func (.func g) [] cap] A (fun _ A'=>I (walkF f v d s) A'):=by
  induction v using VE.indK with
  | h v ih =>
    intro d s A ho h0 h1 hs
    have hdp:=depE_pos v
    have hvis:=hv v d s A ho h0 (by omega) hs
    have hw : IntKind.i64.wrap (d + 1) = d + 1:=wrap64 (by omega) (by omega)
    have hl:=rowsV_length (kidsE v)
    have hk3:=kidsE_le v
    obtain ⟨ca,cb,has⟩:=assert_fn v
    rw [ifE] at hvis ⊢
    refine acalls_enterK (cf:=cf 34 [0,1,2,7,9,19,23,24,25,26]) foll Tryz.func155 Tryz.ntmps155 (by simp [cf]) ?_
    simp only [Tryz.f155,EnterK_some,zW,zX,zD,builtinA,isLeaf,const1,ustrA,simprocAttr,ti3,ti101,ti259,ti264,ca155,za264,cf,Tryz.results155]
    refine wpO_callv _ _ _ _ _ _ _ _ _ _ _ _ _ _ _ ?_
    simp only [zW,zX,zD,builtinA,isLeaf,const1,ustrA,simprocAttr,ti3,ti101,ti259,ti264,ca155,za264,cf,Tryz.results155,List.nil_append]
    refine ⟨hg,callO_intro (by simpa using hvis) ?_⟩
    rintro r A1 hI1
    have hI2:=hI _ _ [.cells [ca,cb]] hI1
    have go : ∀ (e : Env),True:=fun _=>trivial
    by_cases k4 : kindE v = 4
    · have hin : inE v d = d + 1:=by rw [inE,if_pos k4]
      simp only [zW,zX,zD,builtinA,isLeaf,const1,ustrA,simprocAttr,ti3,ti101,ti259,ti264,ca155,za264,cf,Tryz.results155,wpO_typeAssert,has,decide_eq_true k4,hw]
      refine wpO_invoke _ _ _ _ _ _ _ _ _ _ _ _ _ _ _ _ ?_
      simp only [zW,zX,zD,builtinA,isLeaf,const1,ustrA,simprocAttr,ti3,ti101,ti259,ti264,ca155,za264,cf,Tryz.results155]
      refine methE_invK (metE7 (by kernel_rfl) (by kernel_rfl) (by kernel_rfl) (by kernel_rfl) (by kernel_rfl) (by kernel_rfl) (by kernel_rfl) (by kernel_rfl) (by kernel_rfl) (by kernel_rfl) (by kernel_rfl) (by kernel_rfl) (by kernel_rfl) (by kernel_rfl)) (opsM v _) rfl (fun _=>rfl) ?_
      rintro r A2 ⟨rfl,rfl⟩
      simp only [zW,zX,zD,builtinA,isLeaf,const1,ustrA,simprocAttr,ti3,ti101,ti259,ti264,ca155,za264,cf,Tryz.results155,hl]
      refine aloop_intro [1,2,23,24,25] (fun e A'=>∃ j,j ≤ (kidsE v).length ∧ e = [(1,.int .i64 (inE v d)),(2,.func (.func g) [] cap),(23,.slice (rowsV (kidsE v))),(24,.int .i64 ((kidsE v).length : Nat)),(25,.int .i64 (j : Nat))] ∧ I (walkI f v d s j) A') (fun e _=>(kidsE v).length - (intOf (Abs.look 25 e)).toNat) ?_ ?_
      · exact ⟨0,by omega,by rw [hin]; rfl,by rw [walkI_zero]; exact hI2⟩
      · rintro e A3 ⟨j,hj,rfl,hI3⟩
        by_cases hlt : j < (kidsE v).length
        · have dl : decide ((j : Int) < ((kidsE v).length : Nat)) = true:=decide_eq_true (by omega)
          have hgt:=rowsV_getD hlt
          have hm:=kid_mem hlt
          have hdk:=depE_kid hm
          have hi1 : IntKind.i64.wrap ((j : Int) + 1) = ((j + 1 : Nat) : Int):=by rw [wrap64 (by omega) (by omega)]; rfl
          have hrec:=ih _ hm (inE v d) (walkI f v d s j) A3 (okE_kid ho hm) (by rw [hin]; omega) (by rw [hin]; omega) hI3
          rw [← walkI_succ f hlt] at hrec
          rw [ifE] at hgt hrec
          simp only [zW,zX,zD,builtinA,isLeaf,const1,ustrA,simprocAttr,ti3,ti101,ti259,ti264,ca155,za264,cf,Tryz.results155,hl,dl,hgt]
          refine ⟨⟨by omega,by omega⟩,callO_intro hrec ?_⟩
          rintro r A4 hI4
          simp only [zW,zX,zD,builtinA,isLeaf,const1,ustrA,simprocAttr,ti3,ti101,ti259,ti264,ca155,za264,cf,Tryz.results155,hi1,LoopK_eq]
          refine ⟨⟨j + 1,by omega,rfl,hI4⟩,?_⟩
          simp only [intOf]
          omega
        · have dl : decide ((j : Int) < ((kidsE v).length : Nat)) = false:=decide_eq_false (by omega)
          have : j = (kidsE v).length:=by omega
          subst this
          rw [walkI_all] at hI3
          simp only [zW,zX,zD,builtinA,isLeaf,const1,ustrA,simprocAttr,ti3,ti101,ti259,ti264,ca155,za264,cf,Tryz.results155,hl,dl]
          exact hI3
    · have hin : inE v d = d:=by rw [inE,if_neg k4]
      simp only [zW,zX,zD,builtinA,isLeaf,const1,ustrA,simprocAttr,ti3,ti101,ti259,ti264,ca155,za264,cf,Tryz.results155,wpO_typeAssert,has,decide_eq_false k4,hw]
      refine wpO_invoke _ _ _ _ _ _ _ _ _ _ _ _ _ _ _ _ ?_
      simp only [zW,zX,zD,builtinA,isLeaf,const1,ustrA,simprocAttr,ti3,ti101,ti259,ti264,ca155,za264,cf,Tryz.results155]
      refine methE_invK (metE7 (by kernel_rfl) (by kernel_rfl) (by kernel_rfl) (by kernel_rfl) (by kernel_rfl) (by kernel_rfl) (by kernel_rfl) (by kernel_rfl) (by kernel_rfl) (by kernel_rfl) (by kernel_rfl) (by kernel_rfl) (by kernel_rfl) (by kernel_rfl)) (opsM v _) rfl (fun _=>rfl) ?_
      rintro r A2 ⟨rfl,rfl⟩
      simp only [zW,zX,zD,builtinA,isLeaf,const1,ustrA,simprocAttr,ti3,ti101,ti259,ti264,ca155,za264,cf,Tryz.results155,hl]
      refine aloop_intro [1,2,23,24,25] (fun e A'=>∃ j,j ≤ (kidsE v).length ∧ e = [(1,.int .i64 (inE v d)),(2,.func (.func g) [] cap),(23,.slice (rowsV (kidsE v))),(24,.int .i64 ((kidsE v).length : Nat)),(25,.int .i64 (j : Nat))] ∧ I (walkI f v d s j) A') (fun e _=>(kidsE v).length - (intOf (Abs.look 25 e)).toNat) ?_ ?_
      · exact ⟨0,by omega,by rw [hin]; rfl,by rw [walkI_zero]; exact hI2⟩
      · rintro e A3 ⟨j,hj,rfl,hI3⟩
        by_cases hlt : j < (kidsE v).length
        · have dl : decide ((j : Int) < ((kidsE v).length : Nat)) = true:=decide_eq_true (by omega)
          have hgt:=rowsV_getD hlt
          have hm:=kid_mem hlt
          have hdk:=depE_kid hm
          have hi1 : IntKind.i64.wrap ((j : Int) + 1) = ((j + 1 : Nat) : Int):=by rw [wrap64 (by omega) (by omega)]; rfl
          have hrec:=ih _ hm (inE v d) (walkI f v d s j) A3 (okE_kid ho hm) (by rw [hin]; omega) (by rw [hin]; omega) hI3
          rw [← walkI_succ f hlt] at hrec
          rw [ifE] at hgt hrec
          simp only [zW,zX,zD,builtinA,isLeaf,const1,ustrA,simprocAttr,ti3,ti101,ti259,ti264,ca155,za264,cf,Tryz.results155,hl,dl,hgt]
          refine ⟨⟨by omega,by omega⟩,callO_intro hrec ?_⟩
          rintro r A4 hI4
          simp only [zW,zX,zD,builtinA,isLeaf,const1,ustrA,simprocAttr,ti3,ti101,ti259,ti264,ca155,za264,cf,Tryz.results155,hi1,LoopK_eq]
          refine ⟨⟨j + 1,by omega,rfl,hI4⟩,?_⟩
          simp only [intOf]
          omega
        · have dl : decide ((j : Int) < ((kidsE v).length : Nat)) = false:=decide_eq_false (by omega)
          have : j = (kidsE v).length:=by omega
          subst this
          rw [walkI_all] at hI3
          simp only [zW,zX,zD,builtinA,isLeaf,const1,ustrA,simprocAttr,ti3,ti101,ti259,ti264,ca155,za264,cf,Tryz.results155,hl,dl]
          exact hI3
def maxF (v : VE) (d m : Int) : Int:=if kindE v = 1 then (if nE v + 1 - d > m then nE v + 1 - d else m) else m
theorem walk_max : ∀ (v : VE) (d m : Int),okE v → 0 ≤ d → 0 ≤ m → walkF maxF v d m = max m (mostE v d)
  | .var i,d,m,h,hd,hm=>by
    simp only [okE] at h
    have e : walkF maxF (.var i) d m = if i + 1 - d > m then i + 1 - d else m:=by rw [walkF,maxF,if_pos (show kindE (.var i) = 1 from rfl)]; rfl
    rw [e,mostE]
    by_cases h1 : d ≤ i
    · rw [if_pos h1]
      by_cases h2 : i + 1 - d > m
      · rw [if_pos h2]; omega
      · rw [if_neg h2]; omega
    · rw [if_neg h1]
      by_cases h2 : i + 1 - d > m
      · rw [if_pos h2]; omega
      · rw [if_neg h2]; omega
  | .num _,d,m,h,hd,hm=>by simp [walkF,maxF,kindE,mostE]; omega
  | .nm _ _,d,m,h,hd,hm=>by simp [walkF,maxF,kindE,mostE]; omega
  | .fn t b,d,m,h,hd,hm=>by
    have e : maxF (.fn t b) d m = m:=by simp [maxF,kindE]
    rw [walkF,e,walk_max b (d + 1) m h.2 (by omega) hm,mostE]
    have:=mostE_le b (d + 1) h.2 (by omega); omega
  | .app a b,d,m,h,hd,hm=>by
    have e : maxF (.app a b) d m = m:=by simp [maxF,kindE]
    have ha:=mostE_le a d h.1 hd
    rw [walkF,e,walk_max a d m h.1 hd hm,walk_max b d _ h.2 hd (by omega),mostE]
    have:=mostE_le b d h.2 hd; omega
  | .add a b,d,m,h,hd,hm=>by
    have e : maxF (.add a b) d m = m:=by simp [maxF,kindE]
    have ha:=mostE_le a d h.1 hd
    rw [walkF,e,walk_max a d m h.1 hd hm,walk_max b d _ h.2 hd (by omega),mostE]
    have:=mostE_le b d h.2 hd; omega
  | .ite c a b,d,m,h,hd,hm=>by
    have e : maxF (.ite c a b) d m = m:=by simp [maxF,kindE]
    have hc:=mostE_le c d h.1 hd
    have ha:=mostE_le a d h.2.1 hd
    rw [walkF,e,walk_max c d m h.1 hd hm,walk_max a d _ h.2.1 hd (by omega),walk_max b d _ h.2.2 hd (by omega),mostE]
    have:=mostE_le b d h.2.2 hd; omega
theorem assert_var (v : VE) (A : List Box) : assertA 253 [.int .i64 0] (.iface (vtE v) (vxE v)) A = some (True,.tuple [.agg [.int .i64 (if kindE v = 1 then nE v else 0)],.bool (decide (kindE v = 1))],A):=by
  cases v <;> rfl
def MaxI (i : Nat) (A0 : List Box) (m : Int) (A : List Box) : Prop:=i < A.length ∧ A.getD i .dead = .cells [.int .i64 m] ∧ A.take i = A0 ∧ 0 ≤ m ∧ m ≤ 200
theorem MaxI.app {i : Nat} {A0 : List Box} (m : Int) (A L : List Box) (h : MaxI i A0 m A) : MaxI i A0 m (A ++ L) :=
  ⟨by have:=h.1; simp; omega,by rw [Abs.getD_append_left h.1]; exact h.2.1,by rw [List.take_append_of_le_length (by have:=h.1; omega)]; exact h.2.2.1,h.2.2.2⟩
theorem MaxI.set {i : Nat} {A0 : List Box} {m : Int} {A : List Box} (h : MaxI i A0 m A) (m' : Int) (h0 : 0 ≤ m') (h1 : m' ≤ 200) : MaxI i A0 m' (A.set i (.cells [.int .i64 m'])) :=
  ⟨by simpa using h.1,getD_set1 h.1,by rw [List.take_set_of_le (Nat.le_refl _)]; exact h.2.2.1,h0,h1⟩
set_option maxRecDepth 100000 in
theorem max_vis (i : Nat) (A0 : List Box) : VisM (MaxI i A0) maxF 156 [.ptr i 0]:=by
  intro v d m A ho h0 h1 hI
  have hn:=nE_ok ho
  have hI2:=hI.app _ _ [.cells [.int .i64 (if kindE v = 1 then nE v else 0)]]
  obtain ⟨hi,hg,_,hm0,hm1⟩:=hI
  have hgA:=hI2.2.1
  have hw1 : IntKind.i64.wrap (nE v + 1) = nE v + 1:=wrap64 (by omega) (by omega)
  have hw2 : IntKind.i64.wrap (nE v + 1 - d) = nE v + 1 - d:=wrap64 (by omega) (by omega)
  have has:=assert_var v
  rw [ifE]
  by_cases k1 : kindE v = 1
  · simp only [if_pos k1] at has hI2 hgA
    have hf : maxF v d m = if nE v + 1 - d > m then nE v + 1 - d else m:=by rw [maxF,if_pos k1]
    have hs:=hI2.set (maxF v d m) (by rw [hf]; split <;> omega) (by rw [hf]; split <;> omega)
    rw [hf] at hs ⊢
    refine acalls_enterK (cf:=cf 20 [0,1,2,5,6,12]) foll Tryz.func156 Tryz.ntmps156 (by simp [cf]) ?_
    simp only [Tryz.f156,EnterK_some,zW,zX,zD,builtinA,isLeaf,const1,ustrA,simprocAttr,ti3,ti101,ti253,za253,cf,Tryz.results156]
    simp only [zW,zX,zD,builtinA,isLeaf,const1,ustrA,simprocAttr,ti3,ti101,ti253,za253,cf,Tryz.results156,wpO_typeAssert,has,decide_eq_true k1,hgA,hw1,hw2]
    exact hs
  · simp only [if_neg k1] at has hI2 hgA
    have hf : maxF v d m = m:=by rw [maxF,if_neg k1]
    rw [hf]
    refine acalls_enterK (cf:=cf 20 [0,1,2,5,6,12]) foll Tryz.func156 Tryz.ntmps156 (by simp [cf]) ?_
    simp only [Tryz.f156,EnterK_some,zW,zX,zD,builtinA,isLeaf,const1,ustrA,simprocAttr,ti3,ti101,ti253,za253,cf,Tryz.results156]
    simp only [zW,zX,zD,builtinA,isLeaf,const1,ustrA,simprocAttr,ti3,ti101,ti253,za253,cf,Tryz.results156,wpO_typeAssert,has,decide_eq_false k1,hgA,hw1,hw2]
    exact hI2
theorem outer_take {A A' : List Box} (h : A'.take A.length = A) (hl : A.length ≤ A'.length) : Outer A A' :=
  ⟨hl,fun i hi=>.inl (by
    have : A.getD i .dead = (A'.take A.length).getD i .dead:=by rw [h]
    rw [this]
    simp [List.getD,List.getElem?_take,hi])⟩
set_option maxRecDepth 100000 in
theorem impl_maxFree (v : VE) (ho : okE v) (hd : depE v ≤ 900) (A : List Box) : ACalls Tryz.prog 90 [ifE v] A (fun r A'=>r = .int .i64 (mostE v 0) ∧ A' = A):=by
  have hI : MaxI A.length A 0 (A ++ [.cells [.int .i64 0]]):=⟨by simp,by rw [Abs.getD_append_right (by omega)]; simp,by simp,by omega,by omega⟩
  have hwk:=impl_walk (MaxI A.length A) (fun s A L h=>h.app _ _ _) maxF 156 (by kernel_rfl) [.ptr A.length 0] (max_vis A.length A) v 0 0 _ ho (by omega) (by omega) hI
  have hm:=mostE_le v 0 ho (by omega)
  rw [walk_max v 0 0 ho (by omega) (by omega),show max 0 (mostE v 0) = mostE v 0 by omega] at hwk
  rw [ifE] at hwk ⊢
  refine acalls_enter (cf:=cf 8 [0,2,3]) foll Tryz.func90 Tryz.ntmps90 (by simp [cf]) ?_
  simp only [Tryz.f90,EnterK_some,zW,zX,zD,builtinA,isLeaf,const1,ustrA,simprocAttr,ti3,ca155,cf,Tryz.results90]
  refine callO_intro hwk ?_
  rintro r A1 ⟨h1,h2,h3,_⟩
  have ho1:=outer_take h3 (by omega)
  simp only [zW,zX,zD,builtinA,isLeaf,const1,ustrA,simprocAttr,ti3,ca155,cf,Tryz.results90,h2]
  exact ⟨ho1,h3⟩
set_option maxRecDepth 100000 in
theorem impl_MaxFree (x : Ex) (hx : szX x ≤ 1048576) (A : List Box) : ACalls Tryz.prog 49 [.agg (encX x)] A (fun r A'=>((∃ v,x = toX v ∧ EOk v ∧ r = .int .i64 (mostE v 0)) ∨ (validX x = false ∧ r = .int .i64 (-1))) ∧ A' = A):=by
  refine acalls_enter (cf:=cf 14 [0,1,2,3,4,11]) foll Tryz.func49 Tryz.ntmps49 (by simp [cf]) ?_
  simp only [Tryz.f49,EnterK_some,zW,zX,zD,builtinA,isLeaf,const1,ustrA,simprocAttr,ti39,ca89,ca90,cf,Tryz.results49]
  simp only [zW,zX,zD,builtinA,isLeaf,const1,ustrA,simprocAttr,ti39,ca89,ca90,cf,Tryz.results49,encX_length,encX_take]
  refine callK_intro (by simp only [zW,zX,zD,builtinA,isLeaf,const1,ustrA,simprocAttr,frzL_encX,Option.map_some] <;> rfl) (impl_readExpr x hx _) ?_ rfl
  rintro r A' ⟨⟨v,rfl,hv,rfl⟩ | ⟨hv,w,rfl⟩,rfl⟩
  · rw [ifE]
    have hmf:=fun A=>impl_maxFree v hv.ok (by have:=hv.dep; omega) A
    rw [ifE] at hmf
    simp only [zW,zX,zD,builtinA,isLeaf,const1,ustrA,simprocAttr,ti39,ca89,ca90,cf,Tryz.results49]
    refine callK_intro (by simp only [zW,zX,zD,builtinA,isLeaf,const1,ustrA,simprocAttr] <;> rfl) (hmf _) ?_ rfl
    rintro r A' ⟨rfl,rfl⟩
    simp only [zW,zX,zD,builtinA,isLeaf,const1,ustrA,simprocAttr,ti39,ca89,ca90,cf,Tryz.results49]
    exact .inl ⟨v,rfl,hv,rfl⟩
  · simp only [zW,zX,zD,builtinA,isLeaf,const1,ustrA,simprocAttr,ti39,ca89,ca90,cf,Tryz.results49]
    exact .inr hv
set_option maxRecDepth 100000 in
theorem spec_MaxFree (x : Ex) (hx : x.Ok) (hc : szX x ≤ 1048576) (A : List Box) : ACalls Tryz.prog 50 [.agg (encX x)] A (fun r A'=>((∃ v,x = toX v ∧ EOk v ∧ r = .int .i64 (mostE v 0)) ∨ (validX x = false ∧ r = .int .i64 (-1))) ∧ A' = A):=by
  refine acalls_enter (cf:=cf 8 [0,1,2,5]) foll Tryz.func50 Tryz.ntmps50 (by simp [cf]) ?_
  simp only [Tryz.f50,EnterK_some,zW,zX,zD,builtinA,isLeaf,const1,ustrA,simprocAttr,ti39,ca58,ca84,cf,Tryz.results50]
  simp only [zW,zX,zD,builtinA,isLeaf,const1,ustrA,simprocAttr,ti39,ca58,ca84,cf,Tryz.results50,encX_length,encX_take]
  refine callK_intro (by simp only [zW,zX,zD,builtinA,isLeaf,const1,ustrA,simprocAttr,frzL_encX,Option.map_some] <;> rfl) (spec_ExprValid x hx hc _) ?_ rfl
  rintro r A' ⟨rfl,rfl⟩
  rcases validX_cases x with ⟨v,rfl,hv⟩ | h
  · rw [validX_toX hv]
    simp only [zW,zX,zD,builtinA,isLeaf,const1,ustrA,simprocAttr,ti39,ca58,ca84,cf,Tryz.results50,encX_length,encX_take]
    refine callK_intro (by simp only [zW,zX,zD,builtinA,isLeaf,const1,ustrA,simprocAttr,frzL_encX,Option.map_some] <;> rfl) (spec_l4Most v 0 _ hv.ok (by omega) (by have:=hv.dep; omega)) ?_ rfl
    rintro r A' ⟨rfl,rfl⟩
    simp only [zW,zX,zD,builtinA,isLeaf,const1,ustrA,simprocAttr,ti39,ca58,ca84,cf,Tryz.results50]
    exact ⟨v,rfl,hv,rfl⟩
  · rw [h]
    simp only [zW,zX,zD,builtinA,isLeaf,const1,ustrA,simprocAttr,ti39,ca58,ca84,cf,Tryz.results50]
end Go.Proofs.YtijlnkfiadajhaaGreat
/- The source of the drawn arguments. -/
set_option linter.unusedVariables false
set_option linter.unusedSimpArgs false
namespace Go.Proofs.YtijlnkfiadajhaaGreat
open Go.Abs
def Rd (bs : List UInt8) (p : Nat) : Box:=.cells [.aslice (byteRows bs),.int .i64 p]
theorem rd_closed (n : Nat) (bs : List UInt8) (p : Nat) : boxClosed n (Rd bs p) = true:=rfl
theorem byteRows_length (bs : List UInt8) : (byteRows bs).length = bs.length:=by simp [byteRows]
theorem byteRows_getD {bs : List UInt8} {i : Nat} (h : i < bs.length) : (byteRows bs).getD i [] = [.int .u8 ((bs.getD i 0).toNat : Nat)]:=by simp [byteRows,List.getD,h]
theorem byte_lt (b : UInt8) : (b.toNat : Int) < 256:=by have:=b.toNat_lt; omega
theorem xor_wrap {X : Nat} (h : X < 2 ^ 62) : 0 ≤ IntKind.i64.wrap ((BitVec.ofInt IntKind.i64.bits (X : Int) ^^^ BitVec.ofInt IntKind.i64.bits (IntKind.i64.wrap ((X : Int).tdiv 64))).toNat : Int):=by
  have h1 : ((X : Int).tdiv 64) = ((X / 64 : Nat) : Int):=rfl
  have h2 : X / 64 < 2 ^ 62:=by omega
  have h4 : IntKind.i64.wrap ((X / 64 : Nat) : Int) = ((X / 64 : Nat) : Int):=wrap64 (by omega) (by omega)
  rw [h1,h4]
  show 0 ≤ IntKind.i64.wrap ((BitVec.ofInt 64 (X : Int) ^^^ BitVec.ofInt 64 ((X / 64 : Nat) : Int)).toNat : Int)
  have e1 : (BitVec.ofInt 64 (X : Int)).toNat = X:=by rw [BitVec.toNat_ofInt]; omega
  have e2 : (BitVec.ofInt 64 ((X / 64 : Nat) : Int)).toNat = X / 64:=by rw [BitVec.toNat_ofInt]; omega
  rw [BitVec.toNat_xor,e1,e2]
  have h3:=Nat.xor_lt_two_pow h h2
  rw [wrap64 (by omega) (by omega)]
  omega
set_option maxRecDepth 100000 in
theorem spec_l17Open (bs : List UInt8) (A : List Box) : ACalls Tryz.prog 110 [.aslice (byteRows bs)] A (fun r A'=>∃ bs',bs'.length ≤ 2000 ∧ r = .ptr A.length 0 ∧ A' = A ++ [Rd bs' 0]):=by
  refine acalls_enterK (cf:=cf 11 [0,2,5]) foll Tryz.func110 Tryz.ntmps110 (by simp [cf]) ?_
  simp only [Tryz.f110,EnterK_some,zW,zX,zD,builtinA,isLeaf,const1,ustrA,simprocAttr,ti3,ti5,ti77,ti273,cf,Tryz.results110]
  refine condK_intro (fun h=>?_) (fun h=>?_)
  · simp [byteRows_length] at h
    simp only [zW,zX,zD,builtinA,isLeaf,const1,ustrA,simprocAttr,ti3,ti5,ti77,ti273,cf,Tryz.results110]
    refine ⟨⟨by simp [byteRows],by rw [byteRows_length]; omega⟩,bs.take 2000,(by rw [List.length_take]; omega),by simp [Rd,byteRows,List.map_take]⟩
  · have h' : bs.length ≤ 2000:=by simp [byteRows_length] at h; omega
    simp only [zW,zX,zD,builtinA,isLeaf,const1,ustrA,simprocAttr,ti3,ti5,ti77,ti273,cf,Tryz.results110]
    exact ⟨bs,h',rfl⟩
set_option maxRecDepth 100000 in
theorem spec_pick (bs : List UInt8) (p : Nat) (n : Int) (i : Nat) (A : List Box) (hi : i < A.length) (hA : A.getD i .dead = Rd bs p) (hp : p < 2 ^ 40) (hn : n < 2 ^ 40) :
    ACalls Tryz.prog 122 [.ptr i 0,.int .i64 n] A (fun r A'=>∃ j : Int,r = .int .i64 j ∧ 0 ≤ j ∧ (1 ≤ n → j < n) ∧ A' = A.set i (Rd bs (p + 1))):=by
  rw [Rd] at hA
  have hp1 : IntKind.i64.wrap ((p : Int) + 1) = ((p + 1 : Nat) : Int):=by rw [wrap64 (by omega) (by omega)]; rfl
  refine acalls_enter (cf:=cf 99 [0,1,4,5,6,24,36]) foll Tryz.func122 Tryz.ntmps122 (by simp [cf]) ?_
  simp only [Tryz.f122,EnterK_some,zW,zX,zD,builtinA,isLeaf,const1,ustrA,simprocAttr,ti3,ti5,ti77,ti273,cf,Tryz.results122]
  simp only [zW,zX,zD,builtinA,isLeaf,const1,ustrA,simprocAttr,ti3,ti5,ti77,ti273,cf,Tryz.results122,hA,hi,hp1]
  have hout : Outer A (A.set i (.cells [.aslice (byteRows bs),.int .i64 ((p + 1 : Nat) : Int)])):=outer_set0 A i _ rfl
  by_cases hn1 : n < 1
  · have e1 : decide (n < 1) = true:=decide_eq_true hn1
    simp only [zW,zX,zD,builtinA,isLeaf,const1,ustrA,simprocAttr,ti3,ti5,ti77,ti273,cf,Tryz.results122,hA,hi,hp1,e1]
    exact ⟨hout,0,rfl,by omega,by omega,rfl⟩
  · have e1 : decide (n < 1) = false:=decide_eq_false hn1
    simp only [zW,zX,zD,builtinA,isLeaf,const1,ustrA,simprocAttr,ti3,ti5,ti77,ti273,cf,Tryz.results122,hA,hi,hp1,e1,byteRows_length]
    by_cases hb : bs.length = 0
    · have e2 : decide ((bs.length : Int) = 0) = true:=decide_eq_true (by omega)
      simp only [zW,zX,zD,builtinA,isLeaf,const1,ustrA,simprocAttr,ti3,ti5,ti77,ti273,cf,Tryz.results122,hA,hi,hp1,e1,e2,byteRows_length]
      exact ⟨hout,0,rfl,by omega,by omega,rfl⟩
    · have e2 : decide ((bs.length : Int) = 0) = false:=decide_eq_false (by omega)
      have hp2 : IntKind.i64.wrap (((p + 1 : Nat) : Int) - 1) = (p : Int):=by rw [wrap64 (by omega) (by omega)]; omega
      simp only [zW,zX,zD,builtinA,isLeaf,const1,ustrA,simprocAttr,ti3,ti5,ti77,ti273,cf,Tryz.results122,hA,hi,hp1,hp2,e1,e2,byteRows_length]
      by_cases hk : p < bs.length
      · have e3 : decide ((p : Int) < bs.length) = true:=decide_eq_true (by omega)
        simp only [zW,zX,zD,builtinA,isLeaf,const1,ustrA,simprocAttr,ti3,ti5,ti77,ti273,cf,Tryz.results122,hA,hi,hp1,hp2,e1,e2,e3,byteRows_length,byteRows_getD hk]
        have hb0:=byte_lt (bs.getD p 0)
        rw [wrap64 (by omega) (by omega)]
        have hr0:=Int.tmod_nonneg n (show (0 : Int) ≤ ((bs.getD p 0).toNat : Nat) by omega)
        have hr1:=Int.tmod_lt_of_pos (((bs.getD p 0).toNat : Nat) : Int) (show (0 : Int) < n by omega)
        exact ⟨by omega,by omega,hout,_,rfl,hr0,fun _=>hr1,rfl⟩
      · have e3 : decide ((p : Int) < bs.length) = false:=decide_eq_false (by omega)
        simp only [zW,zX,zD,builtinA,isLeaf,const1,ustrA,simprocAttr,ti3,ti5,ti77,ti273,cf,Tryz.results122,hA,hi,hp1,hp2,e1,e2,e3,byteRows_length]
        refine .inl ⟨by kernel_rfl,by kernel_rfl,?_⟩
        obtain ⟨L,hL⟩ : ∃ L,L = bs.length:=⟨_,rfl⟩
        have hL0 : 0 < L:=by omega
        have hm0 : p % L < L:=Nat.mod_lt _ hL0
        have hm1 : (p * 7 + 3) % L < L:=Nat.mod_lt _ hL0
        have hq : p / L ≤ p:=Nat.div_le_self _ _
        obtain ⟨b0,hb0⟩ : ∃ b0 : Nat,b0 = (bs.getD (p % L) 0).toNat:=⟨_,rfl⟩
        obtain ⟨b1,hb1⟩ : ∃ b1 : Nat,b1 = (bs.getD ((p * 7 + 3) % L) 0).toNat:=⟨_,rfl⟩
        have hb0l : b0 < 256:=by rw [hb0]; exact (bs.getD (p % L) 0).toNat_lt
        have hb1l : b1 < 256:=by rw [hb1]; exact (bs.getD ((p * 7 + 3) % L) 0).toNat_lt
        have g0 : (byteRows bs).getD (p % L) [] = [.int .u8 (b0 : Int)]:=by rw [byteRows_getD (by omega),hb0]
        have g1 : (byteRows bs).getD ((p * 7 + 3) % L) [] = [.int .u8 (b1 : Int)]:=by rw [byteRows_getD (by omega),hb1]
        obtain ⟨q,hqd⟩ : ∃ q,q = p / L:=⟨_,rfl⟩
        have t0 : ((p : Int)).tmod (L : Int) = ((p % L : Nat) : Int):=rfl
        have t1 : (((p * 7 + 3 : Nat)) : Int).tmod (L : Int) = (((p * 7 + 3) % L : Nat) : Int):=rfl
        have t2 : ((p : Int)).tdiv (L : Int) = (q : Int):=by rw [hqd]; rfl
        have w0 : IntKind.i64.wrap (b0 : Int) = b0:=wrap64 (by omega) (by omega)
        have w1 : IntKind.i64.wrap ((b0 : Int) * 131) = ((b0 * 131 : Nat) : Int):=by rw [wrap64 (by omega) (by omega)]; omega
        have w2 : IntKind.i64.wrap (b1 : Int) = b1:=wrap64 (by omega) (by omega)
        have w3 : IntKind.i64.wrap ((b1 : Int) * 1117) = ((b1 * 1117 : Nat) : Int):=by rw [wrap64 (by omega) (by omega)]; omega
        have w4 : IntKind.i64.wrap ((p : Int) * 7) = ((p * 7 : Nat) : Int):=by rw [wrap64 (by omega) (by omega)]; omega
        have w5 : IntKind.i64.wrap (((p * 7 : Nat) : Int) + 3) = ((p * 7 + 3 : Nat) : Int):=by rw [wrap64 (by omega) (by omega)]; omega
        have w6 : IntKind.i64.wrap (((b0 * 131 : Nat) : Int) + ((b1 * 1117 : Nat) : Int)) = ((b0 * 131 + b1 * 1117 : Nat) : Int):=by rw [wrap64 (by omega) (by omega)]; omega
        have w7 : IntKind.i64.wrap ((p : Int) * 29) = ((p * 29 : Nat) : Int):=by rw [wrap64 (by omega) (by omega)]; omega
        have w8 : IntKind.i64.wrap (((b0 * 131 + b1 * 1117 : Nat) : Int) + ((p * 29 : Nat) : Int)) = ((b0 * 131 + b1 * 1117 + p * 29 : Nat) : Int):=by rw [wrap64 (by omega) (by omega)]; omega
        have w9 : IntKind.i64.wrap (q : Int) = q:=wrap64 (by omega) (by omega)
        have wa : IntKind.i64.wrap ((q : Int) * 53) = ((q * 53 : Nat) : Int):=by rw [wrap64 (by omega) (by omega)]; omega
        have wb : IntKind.i64.wrap (((b0 * 131 + b1 * 1117 + p * 29 : Nat) : Int) + ((q * 53 : Nat) : Int)) = ((b0 * 131 + b1 * 1117 + p * 29 + q * 53 : Nat) : Int):=by rw [wrap64 (by omega) (by omega)]; omega
        rw [← hL]
        simp only [zW,zX,zD,builtinA,isLeaf,const1,ustrA,simprocAttr,ti3,ti5,ti77,ti273,cf,Tryz.results122,hA,hi,hp1,hp2,e1,e2,e3,byteRows_length,← hL,t0,t1,t2,w0,w1,w2,w3,w4,w5,w6,w7,w8,w9,wa,wb,g0,g1]
        obtain ⟨X,hX⟩ : ∃ X,X = b0 * 131 + b1 * 1117 + p * 29 + q * 53:=⟨_,rfl⟩
        have hXl : X < 2 ^ 62:=by omega
        rw [← hX]
        have hx:=xor_wrap hXl
        refine ⟨by omega,⟨by omega,by omega⟩,by omega,⟨by omega,by omega⟩,by omega,by omega,hout,_,rfl,Int.tmod_nonneg n hx,fun _=>Int.tmod_lt_of_pos _ (by omega),rfl⟩
set_option maxRecDepth 100000 in
theorem spec_of (bs : List UInt8) (p : Nat) (l : List (List UInt8)) (i : Nat) (A : List Box) (hi : i < A.length) (hA : A.getD i .dead = Rd bs p) (hp : p < 2 ^ 40) (hl : 0 < l.length ∧ l.length < 1000) :
    ACalls Tryz.prog 113 [.ptr i 0,.slice (l.map fun s=>[.str s])] A (fun r A'=>∃ s,r = .str s ∧ s ∈ l ∧ A' = A.set i (Rd bs (p + 1))):=by
  have hll : (l.map fun s=>[AV.str s]).length = l.length:=by simp
  refine acalls_enter (cf:=cf 12 [0,1,4]) foll Tryz.func113 Tryz.ntmps113 (by simp [cf]) ?_
  simp only [Tryz.f113,EnterK_some,zW,zX,zD,builtinA,isLeaf,const1,ustrA,simprocAttr,ti9,ti80,ca122,cf,Tryz.results113]
  simp only [hll]
  refine callK_intro (by simp only [zW,zX,zD,builtinA,isLeaf,const1,ustrA,simprocAttr]; rfl) (spec_pick bs p _ i _ hi hA hp (by omega)) ?_ rfl
  rintro v A' ⟨j,rfl,h0,h1,rfl⟩
  obtain ⟨k,rfl⟩:=Int.eq_ofNat_of_zero_le h0
  have hk : k < l.length:=by have:=h1 (by omega); omega
  have hg : (l.map fun s=>[AV.str s]).getD k [] = [.str (l.getD k [])]:=by simp [List.getD,hk]
  simp only [zW,zX,zD,builtinA,isLeaf,const1,ustrA,simprocAttr,ti9,ti80,ca122,cf,Tryz.results113,hi,hll,hg]
  exact ⟨⟨by omega,by omega⟩,outer_set0 A i _ (rd_closed _ _ _),_,rfl,Abs.getD_mem hk⟩
set_option maxRecDepth 100000 in
theorem spec_num (bs : List UInt8) (p : Nat) (l : List Int) (i : Nat) (A : List Box) (hi : i < A.length) (hA : A.getD i .dead = Rd bs p) (hp : p < 2 ^ 40) (hl : 0 < l.length ∧ l.length < 1000) :
    ACalls Tryz.prog 166 [.ptr i 0,.slice (l.map fun s=>[.int .i64 s])] A (fun r A'=>∃ s,r = .int .i64 s ∧ s ∈ l ∧ A' = A.set i (Rd bs (p + 1))):=by
  have hll : (l.map fun s=>[AV.int .i64 s]).length = l.length:=by simp
  refine acalls_enter (cf:=cf 12 [0,1,4]) foll Tryz.func166 Tryz.ntmps166 (by simp [cf]) ?_
  simp only [Tryz.f166,EnterK_some,zW,zX,zD,builtinA,isLeaf,const1,ustrA,simprocAttr,ti3,ti276,ca122,cf,Tryz.results166]
  simp only [hll]
  refine callK_intro (by simp only [zW,zX,zD,builtinA,isLeaf,const1,ustrA,simprocAttr]; rfl) (spec_pick bs p _ i _ hi hA hp (by omega)) ?_ rfl
  rintro v A' ⟨j,rfl,h0,h1,rfl⟩
  obtain ⟨k,rfl⟩:=Int.eq_ofNat_of_zero_le h0
  have hk : k < l.length:=by have:=h1 (by omega); omega
  have hg : (l.map fun s=>[AV.int .i64 s]).getD k [] = [.int .i64 (l.getD k 0)]:=by simp [List.getD,hk]
  simp only [zW,zX,zD,builtinA,isLeaf,const1,ustrA,simprocAttr,ti3,ti276,ca122,cf,Tryz.results166,hi,hll,hg]
  exact ⟨⟨by omega,by omega⟩,outer_set0 A i _ (rd_closed _ _ _),_,rfl,Abs.getD_mem hk⟩
end Go.Proofs.YtijlnkfiadajhaaGreat
