/- ExRead3, ExWalk, EachG, StScope. -/
import Derived.Test.YtnjdbgiincliaaaGreatK14
import Derived.Test.YtnjdbgiincliaaaGreatAbsW3
/- The program's reading of expressions: nodes. -/
set_option linter.unusedVariables false
set_option linter.unusedSimpArgs false
namespace Go.Proofs.YtnjdbgiincliaaaGreat
open Go.Abs
theorem skz_of {T : Ranks} {As : Nat → List Box} {k : Nat} (h : T.eff k = false) : SkZ T As k:=fun c _ _=>by simp [Ranks.next,h]
set_option maxRecDepth 100000 in
set_option maxHeartbeats 2000000 in
theorem impl_nodeX (k i : Int) (m n : List UInt8) (t : Ty) (ks : List Ex) (hks : ks.length ≤ 1048576) (hk : ∀ x ∈ ks,NodeX x) : NodeX (.mk k i m n t ks):=by
  intro ir c d A hir hgc h0 h1 h2 h3
  have hfin : ∀ c' L,Outer A (A.set ir (.cells [.int .i64 c']) ++ L):=fun c' L=>outer_set A L ir _ rfl
  have hen:=impl_enter ir c d (A ++ [.cells [.ptr ir 0],.cells (encX (.mk k i m n t ks)),.cells [.int .i64 d]]) (by simp; omega) (by rw [Abs.getD_append_left hir]; exact hgc) h0 (by omega)
  rw [set_app hir] at hen
  rw [encX] at hen ⊢
  rw [readX]
  generalize hg : (decide (c + 1 ≤ 400) && decide (d ≤ 40)) = g at *
  refine acalls_enter (cf:=cf 46 [0,1,2,3,4,5,6,7,8,9,20,40]) foll Tryz.func227 Tryz.ntmps227 (by simp [cf]) ?_
  simp only [Tryz.f227,EnterK_some,zW,zX,zD,builtinA,isLeaf,const1,ustrA,simprocAttr,ti3,ti37,ti39,ti122,ti329,ti335,ti398,ca275,ca276,ca277,ca278,ca280,cf,Tryz.results227]
  refine .inr (drawE_intro [(false,0,0),(false,0,0),(false,0,0),(false,0,0),(true,0,0),(false,1,1),(false,1,1),(false,1,1),(false,1,1),(false,1,1),(false,1,1)] [A ++ [.cells [.ptr ir 0],.cells [.int .i64 k,.int .i64 i,.str m,.str n,.int .i64 t.kind,.str t.mod,.str t.name,.slice (encs t.kids),.slice (encXs ks)],.cells [.int .i64 d]],A.set ir (.cells [.int .i64 (c + 1)]) ++ [.cells [.ptr ir 0],.cells [.int .i64 k,.int .i64 i,.str m,.str n,.int .i64 t.kind,.str t.mod,.str t.name,.slice (encs t.kids),.slice (encXs ks)],.cells [.int .i64 d]]] 1 rfl (by kernel_rfl) (by kernel_rfl) (by kernel_rfl) (by kernel_rfl) (by kernel_rfl) (by kernel_rfl) ?_)
  simp only [zW,zX,zD,builtinA,isLeaf,const1,ustrA,simprocAttr,ti3,ti37,ti39,ti122,ti329,ti335,ti398,ca275,ca276,ca277,ca278,ca280,cf,Tryz.results227]
  refine callE_intro (by simp only [zW,zX,zD,builtinA,isLeaf,const1,ustrA,simprocAttr] <;> rfl) hen ?_ rfl rfl
  cases g with
  | false =>
    rw [if_pos (by simp)]
    simp only [zW,zX,zD,builtinA,isLeaf,const1,ustrA,simprocAttr,ti3,ti37,ti39,ti122,ti329,ti335,ti398,ca275,ca276,ca277,ca278,ca280,cf,Tryz.results227]
    exact ⟨skz_of rfl,skz_of rfl,skz_of rfl,hfin _ _⟩
  | true =>
    simp only [Bool.and_eq_true,decide_eq_true_eq] at hg
    simp only [zW,zX,zD,builtinA,isLeaf,const1,ustrA,simprocAttr,ti3,ti37,ti39,ti122,ti329,ti335,ti398,ca275,ca276,ca277,ca278,ca280,cf,Tryz.results227]
    refine callEN_intro (fun A=>by simp only [zW,zX,zD,builtinA,isLeaf,const1,ustrA,simprocAttr,Option.map_some] <;> rfl) (fun A=>impl_unusedAreZero k i m n t _ A) ?_ rfl rfl
    cases hz : zeroX k i m n t with
    | false =>
      rw [if_pos (by simp)]
      simp only [zW,zX,zD,builtinA,isLeaf,const1,ustrA,simprocAttr,ti3,ti37,ti39,ti122,ti329,ti335,ti398,ca275,ca276,ca277,ca278,ca280,cf,Tryz.results227]
      exact hfin _ _
    | true =>
      rw [if_neg (by simp)]
      have hfe : (if opc k < ks.length then (((AV.nili,none),c + 1) : (AV × Option VE) × Int) else fin k i m n t (readXs ks (d + 1) (c + 1))) = fin k i m n t (eachX ks (opc k) (d + 1) (c + 1)):=by
        unfold eachX
        split <;> rfl
      rw [hfe]
      have hrd : RdSt ir A.length (A.length + 2) (c + 1) d (A.set ir (.cells [.int .i64 (c + 1)]) ++ [.cells [.ptr ir 0],.cells [.int .i64 k,.int .i64 i,.str m,.str n,.int .i64 t.kind,.str t.mod,.str t.name,.slice (encs t.kids),.slice (encXs ks)],.cells [.int .i64 d]]):=by
        refine ⟨by simp; omega,by simp,by simp,by omega,by omega,?_,?_,?_⟩
        · rw [Abs.getD_append_left (by simpa)]; exact getD_set1 hir
        · rw [Abs.getD_append_right (by simp)]; simp
        · rw [Abs.getD_append_right (by simp)]; simp
      have hre:=impl_readEachX ks hks hk (opc k) ir A.length (A.length + 2) (c + 1) d _ hrd (by omega) hg.1 (by omega) hg.2
      generalize hq : eachX ks (opc k) (d + 1) (c + 1) = q at *
      obtain ⟨o,cc⟩:=q
      simp only at hre
      rw [set_set_app hir] at hre
      simp only [zW,zX,zD,builtinA,isLeaf,const1,ustrA,simprocAttr,ti3,ti37,ti39,ti122,ti329,ti335,ti398,ca275,ca276,ca277,ca278,ca280,cf,Tryz.results227]
      refine .inr (drawE_intro [(false,0,0),(false,0,0),(false,0,0),(false,0,0),(false,0,0),(false,0,0),(true,0,0),(false,1,1),(false,1,1),(false,1,1),(false,1,1),(false,1,1)] [A.set ir (.cells [.int .i64 (c + 1)]) ++ [.cells [.ptr ir 0],.cells [.int .i64 k,.int .i64 i,.str m,.str n,.int .i64 t.kind,.str t.mod,.str t.name,.slice (encs t.kids),.slice (encXs ks)],.cells [.int .i64 d]],A.set ir (.cells [.int .i64 cc]) ++ [.cells [.ptr ir 0],.cells [.int .i64 k,.int .i64 i,.str m,.str n,.int .i64 t.kind,.str t.mod,.str t.name,.slice (encs t.kids),.slice (encXs ks)],.cells [.int .i64 d]]] 1 rfl (by kernel_rfl) (by kernel_rfl) (by kernel_rfl) (by kernel_rfl) (by kernel_rfl) (by kernel_rfl) ?_)
      simp only [zW,zX,zD,builtinA,isLeaf,const1,ustrA,simprocAttr,ti3,ti37,ti39,ti122,ti329,ti335,ti398,ca275,ca276,ca277,ca278,ca280,cf,Tryz.results227,wpG_makeFunc]
      refine callEN_intro (fun A=>by simp only [zW,zX,zD,builtinA,isLeaf,const1,ustrA,simprocAttr,Option.map_some] <;> rfl) (fun A=>impl_operandCount k A) ?_ rfl rfl
      simp only [zW,zX,zD,builtinA,isLeaf,const1,ustrA,simprocAttr,ti3,ti37,ti39,ti122,ti329,ti335,ti398,ca275,ca276,ca277,ca278,ca280,cf,Tryz.results227,wpG_makeFunc,List.cons_append,List.nil_append,List.map_cons,List.map_nil]
      refine callEO_intro hre ?_ rfl
      cases o with
      | none =>
        simp only [zW,zX,zD,builtinA,isLeaf,const1,ustrA,simprocAttr,ti3,ti37,ti39,ti122,ti329,ti335,ti398,ca275,ca276,ca277,ca278,ca280,cf,Tryz.results227,outX,fin]
        exact hfin _ _
      | some vs =>
        have hlv:=rowsV_length vs
        simp only [zW,zX,zD,builtinA,isLeaf,const1,ustrA,simprocAttr,ti3,ti37,ti39,ti122,ti329,ti335,ti398,ca275,ca276,ca277,ca278,ca280,cf,Tryz.results227,outX,fin,hlv]
        refine callK_intro (by simp only [zW,zX,zD,builtinA,isLeaf,const1,ustrA,simprocAttr,Option.map_some] <;> rfl) (impl_operandCount k _) ?_ rfl
        rintro r A' ⟨rfl,rfl⟩
        by_cases he : (vs.length : Int) = opc k
        · have hrh:=fun A=>impl_readHead k i m n t (encXs ks) vs he A
          have hv:=headX_val k i m n t vs
          rw [if_pos he]
          generalize hqq : headX k i m n t vs = qq at *
          obtain ⟨v,o⟩:=qq
          simp only at hv hrh ⊢
          simp only [zW,zX,zD,builtinA,isLeaf,const1,ustrA,simprocAttr,ti3,ti37,ti39,ti122,ti329,ti335,ti398,ca275,ca276,ca277,ca278,ca280,cf,Tryz.results227,decide_eq_true he,hlv]
          refine callK_intro (by simp only [zW,zX,zD,builtinA,isLeaf,const1,ustrA,simprocAttr,Option.map_some] <;> rfl) (hrh _) ?_ rfl
          rintro r A' ⟨rfl,rfl⟩
          rcases hv with rfl | ⟨T,y,rfl⟩
          · simp only [zW,zX,zD,builtinA,isLeaf,const1,ustrA,simprocAttr,ti3,ti37,ti39,ti122,ti329,ti335,ti398,ca275,ca276,ca277,ca278,ca280,cf,Tryz.results227]
            exact hfin _ _
          · simp only [zW,zX,zD,builtinA,isLeaf,const1,ustrA,simprocAttr,ti3,ti37,ti39,ti122,ti329,ti335,ti398,ca275,ca276,ca277,ca278,ca280,cf,Tryz.results227]
            exact hfin _ _
        · rw [if_neg he]
          simp only [zW,zX,zD,builtinA,isLeaf,const1,ustrA,simprocAttr,ti3,ti37,ti39,ti122,ti329,ti335,ti398,ca275,ca276,ca277,ca278,ca280,cf,Tryz.results227,decide_eq_false he,hlv]
          exact hfin _ _
theorem nodeX (x : Ex) (hx : szX x ≤ 1048576) : NodeX x:=by
  induction x using Ex.ind with
  | h k i m n t ks ih =>
    rw [szX] at hx
    exact impl_nodeX k i m n t ks (by omega) fun y hy=>ih y hy (by have:=szXs_mem hy; omega)
set_option maxRecDepth 100000 in
theorem impl_readExpr2 (x : Ex) (hx : szX x ≤ 1048576) (A : List Box) :
    ACalls Tryz.prog 143 [.agg (encX x)] A (fun r A'=>((∃ v,x = toX v ∧ EOk v ∧ r = .tuple [ifE v,.bool true]) ∨ (validX x = false ∧ ∃ w,(w = .nili ∨ ∃ T y,w = .iface T y) ∧ r = .tuple [w,.bool false])) ∧ A' = A):=by
  have hn:=nodeX x hx (A.length + 1) 0 1 (A ++ [.cells (encX x),.cells [.int .i64 0]]) (by simp) (by rw [Abs.getD_append_right (by simp)]; simp) (by omega) (by omega) (by omega) (by omega)
  have hv:=readX_val x 1 0
  have hof:=readX_of x 1 0
  have hbad : (readX x 1 0).1.2 = none → validX x = false:=fun h=>by
    rcases validX_cases x with ⟨u,hxu,hu⟩ | h'
    · rw [hxu,readX_toX u 1 0 hu.ok (by have:=hu.dep; omega) (by omega) (by have:=hu.cnt; omega)] at h; cases h
    · exact h'
  have hset : ∀ Y,(A ++ [Box.cells (encX x),.cells [.int .i64 0]]).set (A.length + 1) Y = A ++ [.cells (encX x),Y]:=fun Y=>by
    rw [List.set_append_right _ _ (by omega)]; simp
  rw [hset] at hn
  generalize hq : readX x 1 0 = q at *
  obtain ⟨⟨w,o⟩,c'⟩:=q
  simp only at hn hv hof hbad
  have fin : ((∃ v,x = toX v ∧ EOk v ∧ AV.tuple [w,.bool o.isSome] = .tuple [ifE v,.bool true]) ∨ (validX x = false ∧ ∃ w',(w' = .nili ∨ ∃ T y,w' = .iface T y) ∧ AV.tuple [w,.bool o.isSome] = .tuple [w',.bool false])):=by
    cases o with
    | none=>exact .inr ⟨hbad rfl,w,hv,rfl⟩
    | some v =>
      obtain ⟨a1,a2,a3,a4,a5⟩:=hof v (by omega) rfl
      simp only [Prod.mk.injEq] at a5
      exact .inl ⟨v,a1,⟨a2,by omega,by omega⟩,by rw [a5.1.1]; rfl⟩
  rcases hv with rfl | ⟨T,y,rfl⟩
  · refine acalls_enter (cf:=cf 10 [0,1,2,3,4]) foll Tryz.func143 Tryz.ntmps143 (by simp [cf]) ?_
    simp only [Tryz.f143,EnterK_some,zW,zX,zD,builtinA,isLeaf,const1,ustrA,simprocAttr,ti39,ti329,ca227,cf,Tryz.results143]
    simp only [zW,zX,zD,builtinA,isLeaf,const1,ustrA,simprocAttr,ti39,ti329,ca227,cf,Tryz.results143,encX_length,encX_take]
    refine callK_intro (by simp only [zW,zX,zD,builtinA,isLeaf,const1,ustrA,simprocAttr,frzL_encX,Option.map_some] <;> rfl) (hn) ?_ rfl
    rintro r A' ⟨rfl,rfl⟩
    simp only [zW,zX,zD,builtinA,isLeaf,const1,ustrA,simprocAttr,ti39,ti329,ca227,cf,Tryz.results143]
    exact fin
  · refine acalls_enter (cf:=cf 10 [0,1,2,3,4]) foll Tryz.func143 Tryz.ntmps143 (by simp [cf]) ?_
    simp only [Tryz.f143,EnterK_some,zW,zX,zD,builtinA,isLeaf,const1,ustrA,simprocAttr,ti39,ti329,ca227,cf,Tryz.results143]
    simp only [zW,zX,zD,builtinA,isLeaf,const1,ustrA,simprocAttr,ti39,ti329,ca227,cf,Tryz.results143,encX_length,encX_take]
    refine callK_intro (by simp only [zW,zX,zD,builtinA,isLeaf,const1,ustrA,simprocAttr,frzL_encX,Option.map_some] <;> rfl) (hn) ?_ rfl
    rintro r A' ⟨rfl,rfl⟩
    simp only [zW,zX,zD,builtinA,isLeaf,const1,ustrA,simprocAttr,ti39,ti329,ca227,cf,Tryz.results143]
    exact fin
end Go.Proofs.YtnjdbgiincliaaaGreat
/- The program's walk through an expression, and MaxFree. -/
set_option linter.unusedVariables false
set_option linter.unusedSimpArgs false
namespace Go.Proofs.YtnjdbgiincliaaaGreat
open Go.Abs
theorem frzC_vxE (x : VE) (A : List Box) : frzC (vxE x) A = some (vxE x,A):=by cases x <;> rfl
def pickE (f1 f2 f3 f4 f5 f6 f7 : FuncId) : VE → FuncId
  | .var _=>f1
  | .num _=>f2
  | .nm _ _=>f3
  | .fn _ _=>f4
  | .app _ _=>f5
  | .add _ _=>f6
  | .ite _ _ _=>f7
structure MetE (name : String) (gs : VE → FuncId) : Prop where
  find : ∀ v,methA Tryz.prog (vtE v) name = some (gs v)
  call : ∀ v,callable Tryz.prog (gs v) = true
theorem metE7 {name : String} {f1 f2 f3 f4 f5 f6 f7 : FuncId}
    (h1 : methA Tryz.prog 345 name = some f1) (h2 : methA Tryz.prog 439 name = some f2) (h3 : methA Tryz.prog 222 name = some f3) (h4 : methA Tryz.prog 333 name = some f4)
    (h5 : methA Tryz.prog 441 name = some f5) (h6 : methA Tryz.prog 443 name = some f6) (h7 : methA Tryz.prog 445 name = some f7)
    (c1 : callable Tryz.prog f1 = true) (c2 : callable Tryz.prog f2 = true) (c3 : callable Tryz.prog f3 = true) (c4 : callable Tryz.prog f4 = true) (c5 : callable Tryz.prog f5 = true) (c6 : callable Tryz.prog f6 = true) (c7 : callable Tryz.prog f7 = true) : MetE name (pickE f1 f2 f3 f4 f5 f6 f7) :=
  ⟨fun v=>match v with
    | .var _=>h1
    | .num _=>h2
    | .nm _ _=>h3
    | .fn _ _=>h4
    | .app _ _=>h5
    | .add _ _=>h6
    | .ite _ _ _=>h7,
   fun v=>match v with
    | .var _=>c1
    | .num _=>c2
    | .nm _ _=>c3
    | .fn _ _=>c4
    | .app _ _=>c5
    | .add _ _=>c6
    | .ite _ _ _=>c7⟩
theorem methE_invK {own ow : FuncId → Bool} {name : String} {gs : VE → FuncId} {v : VE} {args args' : List AV} {A A1 : List Box} {R : AV → List Box → Prop} {N : Nat} {ops : Array Oper} {Q : Env → List Box → Prop} {rest : List Oper} {d : Option Tmp} {e : Env}
    (hm : MetE name gs) (h : ACalls Tryz.prog (gs v) (vxE v :: args') A1 R) (hf : frzs args A = some (args',A1)) (ho : ∀ g,own g = false)
    (hk : ∀ r A',R r A' → wpO Tryz.prog ow N ops Q rest (putA N d r e) A') : InvK Tryz.prog own name (.iface (vtE v) (vxE v)) args A (ContO Tryz.prog ow N ops Q rest d e):=by
  have h1:=hm.find v
  have h2:=hm.call v
  generalize gs v = g at h h1 h2
  refine ⟨g,h1,h2,callK_intro (args':=vxE v :: args') (A1:=A1) ?_ h hk (ho g)⟩
  simp only [frzs,frzC_vxE,hf]
def OpsM (v : VE) : Prop:=∀ A,ACalls Tryz.prog ((pickE 400 460 369 394 465 470 475) v) [vxE v] A (fun r A'=>r = .slice (rowsV (kidsE v)) ∧ A' = A)
set_option maxRecDepth 100000 in
theorem var_ops (i : Int) : OpsM (.var i):=fun A=>by
  show ACalls Tryz.prog 400 _ _ _
  rw [vxE]
  refine acalls_enter (cf:=cf 3 [0,2]) foll Tryz.func400 Tryz.ntmps400 (by simp [cf]) ?_
  simp only [Tryz.f400,EnterK_some,zW,zX,zD,builtinA,isLeaf,const1,ustrA,simprocAttr,ti345,cf,Tryz.results400]
  try simp [rowsV,kidsE]
set_option maxRecDepth 100000 in
theorem num_ops (i : Int) : OpsM (.num i):=fun A=>by
  show ACalls Tryz.prog 460 _ _ _
  rw [vxE]
  refine acalls_enter (cf:=cf 3 [0,2]) foll Tryz.func460 Tryz.ntmps460 (by simp [cf]) ?_
  simp only [Tryz.f460,EnterK_some,zW,zX,zD,builtinA,isLeaf,const1,ustrA,simprocAttr,ti439,cf,Tryz.results460]
  try simp [rowsV,kidsE]
set_option maxRecDepth 100000 in
theorem nm_ops (m n : List UInt8) : OpsM (.nm m n):=fun A=>by
  show ACalls Tryz.prog 369 _ _ _
  rw [vxE]
  refine acalls_enter (cf:=cf 3 [0,2]) foll Tryz.func369 Tryz.ntmps369 (by simp [cf]) ?_
  simp only [Tryz.f369,EnterK_some,zW,zX,zD,builtinA,isLeaf,const1,ustrA,simprocAttr,ti222,cf,Tryz.results369]
  try simp [rowsV,kidsE]
set_option maxRecDepth 100000 in
theorem fn_ops (t : VT) (b : VE) : OpsM (.fn t b):=fun A=>by
  show ACalls Tryz.prog 394 _ _ _
  rw [vxE]
  refine acalls_enter (cf:=cf 6 [0,1,2]) foll Tryz.func394 Tryz.ntmps394 (by simp [cf]) ?_
  simp only [Tryz.f394,EnterK_some,zW,zX,zD,builtinA,isLeaf,const1,ustrA,simprocAttr,ti122,ti333,ti335,cf,Tryz.results394]
  try simp [rowsV,kidsE,ifE]
set_option maxRecDepth 100000 in
theorem app_ops (a b : VE) : OpsM (.app a b):=fun A=>by
  show ACalls Tryz.prog 465 _ _ _
  rw [vxE]
  refine acalls_enter (cf:=cf 8 [0,1,2]) foll Tryz.func465 Tryz.ntmps465 (by simp [cf]) ?_
  simp only [Tryz.f465,EnterK_some,zW,zX,zD,builtinA,isLeaf,const1,ustrA,simprocAttr,ti122,ti335,ti441,cf,Tryz.results465]
  try simp [rowsV,kidsE,ifE]
set_option maxRecDepth 100000 in
theorem add_ops (a b : VE) : OpsM (.add a b):=fun A=>by
  show ACalls Tryz.prog 470 _ _ _
  rw [vxE]
  refine acalls_enter (cf:=cf 8 [0,1,2]) foll Tryz.func470 Tryz.ntmps470 (by simp [cf]) ?_
  simp only [Tryz.f470,EnterK_some,zW,zX,zD,builtinA,isLeaf,const1,ustrA,simprocAttr,ti122,ti335,ti443,cf,Tryz.results470]
  try simp [rowsV,kidsE,ifE]
set_option maxRecDepth 100000 in
theorem ite_ops (c a b : VE) : OpsM (.ite c a b):=fun A=>by
  show ACalls Tryz.prog 475 _ _ _
  rw [vxE]
  refine acalls_enter (cf:=cf 10 [0,1,2]) foll Tryz.func475 Tryz.ntmps475 (by simp [cf]) ?_
  simp only [Tryz.f475,EnterK_some,zW,zX,zD,builtinA,isLeaf,const1,ustrA,simprocAttr,ti122,ti335,ti445,cf,Tryz.results475]
  try simp [rowsV,kidsE,ifE]
theorem opsM (v : VE) : OpsM v:=by
  cases v with
  | var i=>exact var_ops i
  | num i=>exact num_ops i
  | nm m n=>exact nm_ops m n
  | fn t b=>exact fn_ops t b
  | app a b=>exact app_ops a b
  | add a b=>exact add_ops a b
  | ite c a b=>exact ite_ops c a b
section
variable {σ : Type} (f : VE → Int → σ → σ)
def walkF : VE → Int → σ → σ
  | .var i,d,s=>f (.var i) d s
  | .num i,d,s=>f (.num i) d s
  | .nm m n,d,s=>f (.nm m n) d s
  | .fn t b,d,s=>walkF b (d + 1) (f (.fn t b) d s)
  | .app a b,d,s=>walkF b d (walkF a d (f (.app a b) d s))
  | .add a b,d,s=>walkF b d (walkF a d (f (.add a b) d s))
  | .ite c a b,d,s=>walkF b d (walkF a d (walkF c d (f (.ite c a b) d s)))
def walkI (v : VE) (d : Int) (s : σ) (i : Nat) : σ:=((kidsE v).take i).foldl (fun s k=>walkF f k (inE v d) s) (f v d s)
theorem walkI_zero (v : VE) (d : Int) (s : σ) : walkI f v d s 0 = f v d s:=by simp [walkI]
theorem walkI_all (v : VE) (d : Int) (s : σ) : walkI f v d s (kidsE v).length = walkF f v d s:=by
  cases v <;> simp [walkI,kidsE,walkF,inE,kindE]
theorem walkI_succ {v : VE} {d : Int} {s : σ} {i : Nat} (h : i < (kidsE v).length) : walkI f v d s (i + 1) = walkF f ((kidsE v).getD i ve0) (inE v d) (walkI f v d s i):=by
  have e : (kidsE v).take (i + 1) = (kidsE v).take i ++ [(kidsE v).getD i ve0]:=by rw [List.take_add_one]; simp [List.getD,h]
  unfold walkI
  rw [e,List.foldl_append]
  rfl
end
theorem rowsV_getD {vs : List VE} {i : Nat} (h : i < vs.length) : (rowsV vs).getD i [] = [ifE (vs.getD i ve0)]:=by simp [rowsV,List.getD,h]
theorem assert_fn (v : VE) : ∃ a b,∀ A,assertA 333 [.nili,.nili] (.iface (vtE v) (vxE v)) A = some (True,.tuple [.agg [a,b],.bool (decide (kindE v = 4))],A):=by
  cases v <;> exact ⟨_,_,fun _=>rfl⟩
def VisM {σ : Type} (I : σ → List Box → Prop) (f : VE → Int → σ → σ) (g : FuncId) (cap : List AV) : Prop :=
  ∀ (v : VE) (d : Int) (s : σ) (A : List Box),okE v → 0 ≤ d → d ≤ 1000 → I s A → ACalls Tryz.prog g (ifE v :: .int .i64 d :: cap) A (fun _ A'=>I (f v d s) A')
set_option maxRecDepth 100000 in
set_option maxHeartbeats 1000000 in
theorem impl_walk {σ : Type} (I : σ → List Box → Prop) (hI : ∀ s A L,I s A → I s (A ++ L)) (f : VE → Int → σ → σ) (g : FuncId) (hg : callable Tryz.prog g = true) (cap : List AV) (hv : VisM I f g cap) (v : VE) :
    ∀ (d : Int) (s : σ) (A : List Box),okE v → 0 ≤ d → d + depE v ≤ 1000 → I s A → ACalls Tryz.prog 147 [ifE v,.int .i64 d,.func (.func g) [] cap] A (fun _ A'=>I (walkF f v d s) A'):=by
  induction v using VE.indK with
  | h v ih =>
    intro d s A ho h0 h1 hs
    have hdp:=depE_pos v
    have hvis:=hv v d s A ho h0 (by omega) hs
    have hw : IntKind.i64.wrap (d + 1) = d + 1:=wrap64 (by omega) (by omega)
    have hl:=rowsV_length (kidsE v)
    have hk3:=kidsE_le v
    obtain ⟨ca,cb,has⟩:=assert_fn v
    rw [ifE] at hvis ⊢
    refine acalls_enterK (cf:=cf 34 [0,1,2,7,9,19,23,24,25,26]) foll Tryz.func147 Tryz.ntmps147 (by simp [cf]) ?_
    simp only [Tryz.f147,EnterK_some,zW,zX,zD,builtinA,isLeaf,const1,ustrA,simprocAttr,ti3,ti122,ti333,ti335,ca147,za333,cf,Tryz.results147]
    refine wpO_callv _ _ _ _ _ _ _ _ _ _ _ _ _ _ _ ?_
    simp only [zW,zX,zD,builtinA,isLeaf,const1,ustrA,simprocAttr,ti3,ti122,ti333,ti335,ca147,za333,cf,Tryz.results147,List.nil_append]
    refine ⟨hg,callO_intro (by simpa using hvis) ?_⟩
    rintro r A1 hI1
    have hI2:=hI _ _ [.cells [ca,cb]] hI1
    have go : ∀ (e : Env),True:=fun _=>trivial
    by_cases k4 : kindE v = 4
    · have hin : inE v d = d + 1:=by rw [inE,if_pos k4]
      simp only [zW,zX,zD,builtinA,isLeaf,const1,ustrA,simprocAttr,ti3,ti122,ti333,ti335,ca147,za333,cf,Tryz.results147,wpO_typeAssert,has,decide_eq_true k4,hw]
      refine wpO_invoke _ _ _ _ _ _ _ _ _ _ _ _ _ _ _ _ ?_
      simp only [zW,zX,zD,builtinA,isLeaf,const1,ustrA,simprocAttr,ti3,ti122,ti333,ti335,ca147,za333,cf,Tryz.results147]
      refine methE_invK (metE7 (by kernel_rfl) (by kernel_rfl) (by kernel_rfl) (by kernel_rfl) (by kernel_rfl) (by kernel_rfl) (by kernel_rfl) (by kernel_rfl) (by kernel_rfl) (by kernel_rfl) (by kernel_rfl) (by kernel_rfl) (by kernel_rfl) (by kernel_rfl)) (opsM v _) rfl (fun _=>rfl) ?_
      rintro r A2 ⟨rfl,rfl⟩
      simp only [zW,zX,zD,builtinA,isLeaf,const1,ustrA,simprocAttr,ti3,ti122,ti333,ti335,ca147,za333,cf,Tryz.results147,hl]
      refine aloop_intro [1,2,23,24,25] (fun e A'=>∃ j,j ≤ (kidsE v).length ∧ e = [(1,.int .i64 (inE v d)),(2,.func (.func g) [] cap),(23,.slice (rowsV (kidsE v))),(24,.int .i64 ((kidsE v).length : Nat)),(25,.int .i64 (j : Nat))] ∧ I (walkI f v d s j) A') (fun e _=>(kidsE v).length - (intOf (Abs.look 25 e)).toNat) ?_ ?_
      · exact ⟨0,by omega,by rw [hin]; rfl,by rw [walkI_zero]; exact hI2⟩
      · rintro e A3 ⟨j,hj,rfl,hI3⟩
        by_cases hlt : j < (kidsE v).length
        · have dl : decide ((j : Int) < ((kidsE v).length : Nat)) = true:=decide_eq_true (by omega)
          have hgt:=rowsV_getD hlt
          have hm:=kid_mem hlt
          have hdk:=depE_kid hm
          have hi1 : IntKind.i64.wrap ((j : Int) + 1) = ((j + 1 : Nat) : Int):=by rw [wrap64 (by omega) (by omega)]; rfl
          have hrec:=ih _ hm (inE v d) (walkI f v d s j) A3 (okE_kid ho hm) (by rw [hin]; omega) (by rw [hin]; omega) hI3
          rw [← walkI_succ f hlt] at hrec
          rw [ifE] at hgt hrec
          simp only [zW,zX,zD,builtinA,isLeaf,const1,ustrA,simprocAttr,ti3,ti122,ti333,ti335,ca147,za333,cf,Tryz.results147,hl,dl,hgt]
          refine ⟨⟨by omega,by omega⟩,callO_intro hrec ?_⟩
          rintro r A4 hI4
          simp only [zW,zX,zD,builtinA,isLeaf,const1,ustrA,simprocAttr,ti3,ti122,ti333,ti335,ca147,za333,cf,Tryz.results147,hi1,LoopK_eq]
          refine ⟨⟨j + 1,by omega,rfl,hI4⟩,?_⟩
          simp only [intOf]
          omega
        · have dl : decide ((j : Int) < ((kidsE v).length : Nat)) = false:=decide_eq_false (by omega)
          have : j = (kidsE v).length:=by omega
          subst this
          rw [walkI_all] at hI3
          simp only [zW,zX,zD,builtinA,isLeaf,const1,ustrA,simprocAttr,ti3,ti122,ti333,ti335,ca147,za333,cf,Tryz.results147,hl,dl]
          exact hI3
    · have hin : inE v d = d:=by rw [inE,if_neg k4]
      simp only [zW,zX,zD,builtinA,isLeaf,const1,ustrA,simprocAttr,ti3,ti122,ti333,ti335,ca147,za333,cf,Tryz.results147,wpO_typeAssert,has,decide_eq_false k4,hw]
      refine wpO_invoke _ _ _ _ _ _ _ _ _ _ _ _ _ _ _ _ ?_
      simp only [zW,zX,zD,builtinA,isLeaf,const1,ustrA,simprocAttr,ti3,ti122,ti333,ti335,ca147,za333,cf,Tryz.results147]
      refine methE_invK (metE7 (by kernel_rfl) (by kernel_rfl) (by kernel_rfl) (by kernel_rfl) (by kernel_rfl) (by kernel_rfl) (by kernel_rfl) (by kernel_rfl) (by kernel_rfl) (by kernel_rfl) (by kernel_rfl) (by kernel_rfl) (by kernel_rfl) (by kernel_rfl)) (opsM v _) rfl (fun _=>rfl) ?_
      rintro r A2 ⟨rfl,rfl⟩
      simp only [zW,zX,zD,builtinA,isLeaf,const1,ustrA,simprocAttr,ti3,ti122,ti333,ti335,ca147,za333,cf,Tryz.results147,hl]
      refine aloop_intro [1,2,23,24,25] (fun e A'=>∃ j,j ≤ (kidsE v).length ∧ e = [(1,.int .i64 (inE v d)),(2,.func (.func g) [] cap),(23,.slice (rowsV (kidsE v))),(24,.int .i64 ((kidsE v).length : Nat)),(25,.int .i64 (j : Nat))] ∧ I (walkI f v d s j) A') (fun e _=>(kidsE v).length - (intOf (Abs.look 25 e)).toNat) ?_ ?_
      · exact ⟨0,by omega,by rw [hin]; rfl,by rw [walkI_zero]; exact hI2⟩
      · rintro e A3 ⟨j,hj,rfl,hI3⟩
        by_cases hlt : j < (kidsE v).length
        · have dl : decide ((j : Int) < ((kidsE v).length : Nat)) = true:=decide_eq_true (by omega)
          have hgt:=rowsV_getD hlt
          have hm:=kid_mem hlt
          have hdk:=depE_kid hm
          have hi1 : IntKind.i64.wrap ((j : Int) + 1) = ((j + 1 : Nat) : Int):=by rw [wrap64 (by omega) (by omega)]; rfl
          have hrec:=ih _ hm (inE v d) (walkI f v d s j) A3 (okE_kid ho hm) (by rw [hin]; omega) (by rw [hin]; omega) hI3
          rw [← walkI_succ f hlt] at hrec
          rw [ifE] at hgt hrec
          simp only [zW,zX,zD,builtinA,isLeaf,const1,ustrA,simprocAttr,ti3,ti122,ti333,ti335,ca147,za333,cf,Tryz.results147,hl,dl,hgt]
          refine ⟨⟨by omega,by omega⟩,callO_intro hrec ?_⟩
          rintro r A4 hI4
          simp only [zW,zX,zD,builtinA,isLeaf,const1,ustrA,simprocAttr,ti3,ti122,ti333,ti335,ca147,za333,cf,Tryz.results147,hi1,LoopK_eq]
          refine ⟨⟨j + 1,by omega,rfl,hI4⟩,?_⟩
          simp only [intOf]
          omega
        · have dl : decide ((j : Int) < ((kidsE v).length : Nat)) = false:=decide_eq_false (by omega)
          have : j = (kidsE v).length:=by omega
          subst this
          rw [walkI_all] at hI3
          simp only [zW,zX,zD,builtinA,isLeaf,const1,ustrA,simprocAttr,ti3,ti122,ti333,ti335,ca147,za333,cf,Tryz.results147,hl,dl]
          exact hI3
def maxF (v : VE) (d m : Int) : Int:=if kindE v = 1 then (if nE v + 1 - d > m then nE v + 1 - d else m) else m
theorem walk_max : ∀ (v : VE) (d m : Int),okE v → 0 ≤ d → 0 ≤ m → walkF maxF v d m = max m (mostE v d)
  | .var i,d,m,h,hd,hm=>by
    simp only [okE] at h
    have e : walkF maxF (.var i) d m = if i + 1 - d > m then i + 1 - d else m:=by rw [walkF,maxF,if_pos (show kindE (.var i) = 1 from rfl)]; rfl
    rw [e,mostE]
    by_cases h1 : d ≤ i
    · rw [if_pos h1]
      by_cases h2 : i + 1 - d > m
      · rw [if_pos h2]; omega
      · rw [if_neg h2]; omega
    · rw [if_neg h1]
      by_cases h2 : i + 1 - d > m
      · rw [if_pos h2]; omega
      · rw [if_neg h2]; omega
  | .num _,d,m,h,hd,hm=>by simp [walkF,maxF,kindE,mostE]; omega
  | .nm _ _,d,m,h,hd,hm=>by simp [walkF,maxF,kindE,mostE]; omega
  | .fn t b,d,m,h,hd,hm=>by
    have e : maxF (.fn t b) d m = m:=by simp [maxF,kindE]
    rw [walkF,e,walk_max b (d + 1) m h.2 (by omega) hm,mostE]
    have:=mostE_le b (d + 1) h.2 (by omega); omega
  | .app a b,d,m,h,hd,hm=>by
    have e : maxF (.app a b) d m = m:=by simp [maxF,kindE]
    have ha:=mostE_le a d h.1 hd
    rw [walkF,e,walk_max a d m h.1 hd hm,walk_max b d _ h.2 hd (by omega),mostE]
    have:=mostE_le b d h.2 hd; omega
  | .add a b,d,m,h,hd,hm=>by
    have e : maxF (.add a b) d m = m:=by simp [maxF,kindE]
    have ha:=mostE_le a d h.1 hd
    rw [walkF,e,walk_max a d m h.1 hd hm,walk_max b d _ h.2 hd (by omega),mostE]
    have:=mostE_le b d h.2 hd; omega
  | .ite c a b,d,m,h,hd,hm=>by
    have e : maxF (.ite c a b) d m = m:=by simp [maxF,kindE]
    have hc:=mostE_le c d h.1 hd
    have ha:=mostE_le a d h.2.1 hd
    rw [walkF,e,walk_max c d m h.1 hd hm,walk_max a d _ h.2.1 hd (by omega),walk_max b d _ h.2.2 hd (by omega),mostE]
    have:=mostE_le b d h.2.2 hd; omega
theorem assert_var (v : VE) (A : List Box) : assertA 345 [.int .i64 0] (.iface (vtE v) (vxE v)) A = some (True,.tuple [.agg [.int .i64 (if kindE v = 1 then nE v else 0)],.bool (decide (kindE v = 1))],A):=by
  cases v <;> rfl
def MaxI (i : Nat) (A0 : List Box) (m : Int) (A : List Box) : Prop:=i < A.length ∧ A.getD i .dead = .cells [.int .i64 m] ∧ A.take i = A0 ∧ 0 ≤ m ∧ m ≤ 200
theorem MaxI.app {i : Nat} {A0 : List Box} (m : Int) (A L : List Box) (h : MaxI i A0 m A) : MaxI i A0 m (A ++ L) :=
  ⟨by have:=h.1; simp; omega,by rw [Abs.getD_append_left h.1]; exact h.2.1,by rw [List.take_append_of_le_length (by have:=h.1; omega)]; exact h.2.2.1,h.2.2.2⟩
theorem MaxI.set {i : Nat} {A0 : List Box} {m : Int} {A : List Box} (h : MaxI i A0 m A) (m' : Int) (h0 : 0 ≤ m') (h1 : m' ≤ 200) : MaxI i A0 m' (A.set i (.cells [.int .i64 m'])) :=
  ⟨by simpa using h.1,getD_set1 h.1,by rw [List.take_set_of_le (Nat.le_refl _)]; exact h.2.2.1,h0,h1⟩
set_option maxRecDepth 100000 in
theorem max_vis (i : Nat) (A0 : List Box) : VisM (MaxI i A0) maxF 236 [.ptr i 0]:=by
  intro v d m A ho h0 h1 hI
  have hn:=nE_ok ho
  have hI2:=hI.app _ _ [.cells [.int .i64 (if kindE v = 1 then nE v else 0)]]
  obtain ⟨hi,hg,_,hm0,hm1⟩:=hI
  have hgA:=hI2.2.1
  have hw1 : IntKind.i64.wrap (nE v + 1) = nE v + 1:=wrap64 (by omega) (by omega)
  have hw2 : IntKind.i64.wrap (nE v + 1 - d) = nE v + 1 - d:=wrap64 (by omega) (by omega)
  have has:=assert_var v
  rw [ifE]
  by_cases k1 : kindE v = 1
  · simp only [if_pos k1] at has hI2 hgA
    have hf : maxF v d m = if nE v + 1 - d > m then nE v + 1 - d else m:=by rw [maxF,if_pos k1]
    have hs:=hI2.set (maxF v d m) (by rw [hf]; split <;> omega) (by rw [hf]; split <;> omega)
    rw [hf] at hs ⊢
    refine acalls_enterK (cf:=cf 20 [0,1,2,5,6,12]) foll Tryz.func236 Tryz.ntmps236 (by simp [cf]) ?_
    simp only [Tryz.f236,EnterK_some,zW,zX,zD,builtinA,isLeaf,const1,ustrA,simprocAttr,ti3,ti122,ti345,za345,cf,Tryz.results236]
    simp only [zW,zX,zD,builtinA,isLeaf,const1,ustrA,simprocAttr,ti3,ti122,ti345,za345,cf,Tryz.results236,wpO_typeAssert,has,decide_eq_true k1,hgA,hw1,hw2]
    exact hs
  · simp only [if_neg k1] at has hI2 hgA
    have hf : maxF v d m = m:=by rw [maxF,if_neg k1]
    rw [hf]
    refine acalls_enterK (cf:=cf 20 [0,1,2,5,6,12]) foll Tryz.func236 Tryz.ntmps236 (by simp [cf]) ?_
    simp only [Tryz.f236,EnterK_some,zW,zX,zD,builtinA,isLeaf,const1,ustrA,simprocAttr,ti3,ti122,ti345,za345,cf,Tryz.results236]
    simp only [zW,zX,zD,builtinA,isLeaf,const1,ustrA,simprocAttr,ti3,ti122,ti345,za345,cf,Tryz.results236,wpO_typeAssert,has,decide_eq_false k1,hgA,hw1,hw2]
    exact hI2
theorem outer_take {A A' : List Box} (h : A'.take A.length = A) (hl : A.length ≤ A'.length) : Outer A A' :=
  ⟨hl,fun i hi=>.inl (by
    have : A.getD i .dead = (A'.take A.length).getD i .dead:=by rw [h]
    rw [this]
    simp [List.getD,List.getElem?_take,hi])⟩
set_option maxRecDepth 100000 in
theorem impl_maxFree (v : VE) (ho : okE v) (hd : depE v ≤ 900) (A : List Box) : ACalls Tryz.prog 158 [ifE v] A (fun r A'=>r = .int .i64 (mostE v 0) ∧ A' = A):=by
  have hI : MaxI A.length A 0 (A ++ [.cells [.int .i64 0]]):=⟨by simp,by rw [Abs.getD_append_right (by omega)]; simp,by simp,by omega,by omega⟩
  have hwk:=impl_walk (MaxI A.length A) (fun s A L h=>h.app _ _ _) maxF 236 (by kernel_rfl) [.ptr A.length 0] (max_vis A.length A) v 0 0 _ ho (by omega) (by omega) hI
  have hm:=mostE_le v 0 ho (by omega)
  rw [walk_max v 0 0 ho (by omega) (by omega),show max 0 (mostE v 0) = mostE v 0 by omega] at hwk
  rw [ifE] at hwk ⊢
  refine acalls_enter (cf:=cf 8 [0,2,3]) foll Tryz.func158 Tryz.ntmps158 (by simp [cf]) ?_
  simp only [Tryz.f158,EnterK_some,zW,zX,zD,builtinA,isLeaf,const1,ustrA,simprocAttr,ti3,ca147,cf,Tryz.results158]
  refine callO_intro hwk ?_
  rintro r A1 ⟨h1,h2,h3,_⟩
  have ho1:=outer_take h3 (by omega)
  simp only [zW,zX,zD,builtinA,isLeaf,const1,ustrA,simprocAttr,ti3,ca147,cf,Tryz.results158,h2]
  exact ⟨ho1,h3⟩
end Go.Proofs.YtnjdbgiincliaaaGreat
/- The program's walk over the names of a type, for any visit. -/
set_option linter.unusedVariables false
set_option linter.unusedSimpArgs false
namespace Go.Proofs.YtnjdbgiincliaaaGreat
open Go.Abs
section
variable {σ : Type}
def foldV (f : Nm → σ → σ) : VT → σ → σ
  | .num,s=>s
  | .nm m k,s=>f (m,k) s
  | .fn a b,s=>foldV f b (foldV f a s)
structure Vis (sz : σ → Nat) (I : σ → List Box → Prop) (F : List Box → List Box → Prop) (f : Nm → σ → σ) (g : FuncId) (cap : List AV) : Prop where
  call : callable Tryz.prog g = true
  vis : ∀ (p : Nm) (s : σ) (A : List Box),nmB p.1 p.2 = true → sz s ≤ 1000 → I s A → ACalls Tryz.prog g (.agg [.str p.1,.str p.2] :: cap) A (fun _ A'=>I (f p s) A' ∧ F A A')
  app : ∀ (s : σ) (A B : List Box),I s A → I s (A ++ B) ∧ F A (A ++ B)
  grow : ∀ p s,sz (f p s) ≤ sz s + 1
  trans : ∀ A B C : List Box,F A B → F B C → F A C
  box : ∀ (s : σ) (A A' : List Box) (c : Box),I s A → F (A ++ [c]) A' → A'.getD A.length .dead = c
theorem foldV_sz {sz : σ → Nat} {I : σ → List Box → Prop} {F : List Box → List Box → Prop} {f : Nm → σ → σ} {g : FuncId} {cap : List AV} (hv : Vis sz I F f g cap) : ∀ (v : VT) (s : σ),sz (foldV f v s) ≤ sz s + cnt v
  | .num,s=>by simp [foldV]
  | .nm m k,s=>by simp only [foldV,cnt]; exact hv.grow _ _
  | .fn a b,s=>by have h1:=foldV_sz hv a s; have h2:=foldV_sz hv b (foldV f a s); simp only [foldV,cnt]; omega
def EachG (sz : σ → Nat) (I : σ → List Box → Prop) (F : List Box → List Box → Prop) (f : Nm → σ → σ) (g : FuncId) (cap : List AV) (v : VT) : Prop :=
  ∀ (s : σ) (A : List Box),okV v = true → sz s + cnt v ≤ 1000 → I s A → ACalls Tryz.prog ((pickF 429 436 358) v) [vX v,.func (.func g) [] cap] A (fun _ A'=>I (foldV f v s) A' ∧ F A A')
set_option maxRecDepth 100000 in
theorem numG {sz : σ → Nat} {I : σ → List Box → Prop} {F : List Box → List Box → Prop} {f : Nm → σ → σ} {g : FuncId} {cap : List AV} (hv : Vis sz I F f g cap) : EachG sz I F f g cap .num:=fun s A ho hz h=>by
  show ACalls Tryz.prog 429 _ _ _
  rw [vX]
  refine acalls_enterK (cf:=cf 4 [0]) foll Tryz.func429 Tryz.ntmps429 (by simp [cf]) ?_
  simp only [Tryz.f429,EnterK_some,zW,zX,zD,builtinA,isLeaf,const1,ustrA,simprocAttr,ti369,cf,Tryz.results429]
  exact hv.app _ _ _ h
set_option maxRecDepth 100000 in
theorem nameG {sz : σ → Nat} {I : σ → List Box → Prop} {F : List Box → List Box → Prop} {f : Nm → σ → σ} {g : FuncId} {cap : List AV} (hv : Vis sz I F f g cap) (m k : List UInt8) : EachG sz I F f g cap (.nm m k):=fun s A ho hz h=>by
  show ACalls Tryz.prog 358 _ _ _
  rw [vX]
  have hc:=hv.call
  obtain ⟨h1,f1⟩:=hv.app _ _ [.cells [.str m,.str k]] h
  simp only [cnt] at hz
  have hvv:=hv.vis (m,k) s _ ho (by omega) h1
  refine acalls_enterK (cf:=cf 7 [0,1,2]) foll Tryz.func358 Tryz.ntmps358 (by simp [cf]) ?_
  simp only [Tryz.f358,EnterK_some,zW,zX,zD,builtinA,isLeaf,const1,ustrA,simprocAttr,ti180,cf,Tryz.results358]
  refine wpO_callv _ _ _ _ _ _ _ _ _ _ _ _ _ _ _ ?_
  simp only [zW,zX,zD,builtinA,isLeaf,const1,ustrA,simprocAttr,ti180,cf,Tryz.results358]
  refine ⟨hc,callO_intro (by simpa using hvv) ?_⟩
  rintro r A' ⟨h2,f2⟩
  simp only [zW,zX,zD,builtinA,isLeaf,const1,ustrA,simprocAttr,ti180,cf,Tryz.results358]
  exact ⟨h2,hv.trans _ _ _ f1 f2⟩
set_option maxRecDepth 100000 in
theorem funG {sz : σ → Nat} {I : σ → List Box → Prop} {F : List Box → List Box → Prop} {f : Nm → σ → σ} {g : FuncId} {cap : List AV} (hv : Vis sz I F f g cap) (a b : VT) (ha : EachG sz I F f g cap a) (hb : EachG sz I F f g cap b) : EachG sz I F f g cap (.fn a b):=fun s A ho hz h=>by
  show ACalls Tryz.prog 436 _ _ _
  rw [vX]
  simp only [okV,Bool.and_eq_true] at ho
  simp only [cnt] at hz
  obtain ⟨h1,f1⟩:=hv.app _ _ [.cells [.iface (vT a) (vX a),.iface (vT b) (vX b)]] h
  refine acalls_enterK (cf:=cf 12 [0,1,2]) foll Tryz.func436 Tryz.ntmps436 (by simp [cf]) ?_
  simp only [Tryz.f436,EnterK_some,zW,zX,zD,builtinA,isLeaf,const1,ustrA,simprocAttr,ti175,ti422,cf,Tryz.results436]
  refine wpO_invoke _ _ _ _ _ _ _ _ _ _ _ _ _ _ _ _ ?_
  simp only [zW,zX,zD,builtinA,isLeaf,const1,ustrA,simprocAttr,ti175,ti422,cf,Tryz.results436]
  refine meth_invK (met3 (by kernel_rfl) (by kernel_rfl) (by kernel_rfl) (by kernel_rfl) (by kernel_rfl) (by kernel_rfl)) (ha s _ ho.1 (by omega) h1) rfl (fun _=>rfl) ?_
  rintro r A1 ⟨h2,f2⟩
  have b1:=hv.box _ _ _ _ h f2
  simp only [zW,zX,zD,builtinA,isLeaf,const1,ustrA,simprocAttr,ti175,ti422,cf,Tryz.results436,b1]
  refine wpO_invoke _ _ _ _ _ _ _ _ _ _ _ _ _ _ _ _ ?_
  simp only [zW,zX,zD,builtinA,isLeaf,const1,ustrA,simprocAttr,ti175,ti422,cf,Tryz.results436]
  refine meth_invK (met3 (by kernel_rfl) (by kernel_rfl) (by kernel_rfl) (by kernel_rfl) (by kernel_rfl) (by kernel_rfl)) (hb _ _ ho.2 (by have:=foldV_sz hv a s; omega) h2) rfl (fun _=>rfl) ?_
  rintro r A2 ⟨h3,f3⟩
  simp only [zW,zX,zD,builtinA,isLeaf,const1,ustrA,simprocAttr,ti175,ti422,cf,Tryz.results436]
  exact ⟨h3,hv.trans _ _ _ f1 (hv.trans _ _ _ f2 f3)⟩
theorem eachG {sz : σ → Nat} {I : σ → List Box → Prop} {F : List Box → List Box → Prop} {f : Nm → σ → σ} {g : FuncId} {cap : List AV} (hv : Vis sz I F f g cap) : ∀ v,EachG sz I F f g cap v
  | .num=>numG hv
  | .nm m k=>nameG hv m k
  | .fn a b=>funG hv a b (eachG hv a) (eachG hv b)
end
end Go.Proofs.YtnjdbgiincliaaaGreat
/- What a structure's definitions know: the program's sets of names. -/
set_option linter.unusedVariables false
set_option linter.unusedSimpArgs false
namespace Go.Proofs.YtnjdbgiincliaaaGreat
open Go.Abs
def esN (ks : List (List UInt8)) : List (AV × AV):=ks.map fun q=>(.str q,.bool true)
theorem find_n (q : List UInt8) : ∀ (ks : List (List UInt8)) (n : Nat),∃ r,findS q (esN ks) n = some r ∧ lkV r (.bool false) = .bool (decide (q ∈ ks)) ∧ (r = none ↔ q ∉ ks) ∧ (∀ p,r = some p → ∃ j,p.1 = n + j ∧ j < ks.length)
  | [],n=>⟨none,rfl,by simp [lkV],by simp,by simp⟩
  | p :: ks,n=>by
    obtain ⟨r,h1,h2,h3,h4⟩:=find_n q ks (n + 1)
    simp only [esN,List.map_cons,findS]
    by_cases h : q = p
    · rw [if_pos h]
      exact ⟨_,rfl,by simp [lkV,h],by simp [h],fun p hp=>by cases hp; exact ⟨0,by simp,by simp⟩⟩
    · rw [if_neg h]
      refine ⟨r,h1,?_,?_,fun p hp=>?_⟩
      · rw [h2]; simp [h]
      · rw [h3]; simp [h]
      · obtain ⟨j,hj,hl⟩:=h4 p hp
        exact ⟨j + 1,by omega,by simpa using hl⟩
theorem upd_n {q : List UInt8} {ks : List (List UInt8)} {r : Option (Nat × AV)} (h : findS q (esN ks) 0 = some r) : ∃ ks',updS r q (.bool true) (esN ks) = esN ks' ∧ (q ∉ ks → ks' = ks ++ [q]):=by
  obtain ⟨r',h1,h2,h3,h4⟩:=find_n q ks 0
  rw [h] at h1
  cases h1
  cases r with
  | none=>exact ⟨ks ++ [q],by simp [updS,esN],fun _=>rfl⟩
  | some p =>
    refine ⟨ks.set p.1 q,by simp [updS,esN,List.map_set],fun hq=>?_⟩
    have:=h3.2 hq
    cases this
theorem esN_closed (n : Nat) (ks : List (List UInt8)) : boxClosed n (.mapb (esN ks)) = true:=by
  simp only [boxClosed,esN,List.all_map,List.all_eq_true]
  intro q hq
  rfl
theorem frk_out {A B A1 : List Box} {i : Nat} (h : FrK i (A ++ B) A1) (hi : A.length ≤ i) : Outer A A1 ∧ A1.take A.length = A:=by
  have hg : ∀ k,k < A.length → A1.getD k .dead = A.getD k .dead:=fun k hk=>by
    rw [h.2 k (by simp; omega) (by omega),Abs.getD_append_left hk]
  have hl : A.length ≤ A1.length:=by have:=h.1; simp at this; omega
  exact ⟨⟨hl,fun k hk=>.inl (hg k hk)⟩,take_of_getD hl rfl hg⟩
set_option maxRecDepth 100000 in
theorem impl_define (a : Nat) (ks : List (List UInt8)) (q : List UInt8) (A : List Box) (ha : a < A.length) (hA : A.getD a .dead = .mapb (esN ks)) :
    ACalls Tryz.prog 244 [.map a,.str q] A (fun r A'=>r = .bool (!decide (q ∈ ks)) ∧ ∃ ks',A' = A.set a (.mapb (esN ks')) ∧ (q ∉ ks → ks' = ks ++ [q])):=by
  obtain ⟨r,f1,f2,f3,_⟩:=find_n q ks 0
  obtain ⟨ks',u1,u2⟩:=upd_n f1
  refine acalls_enter (cf:=cf 13 [0,1,4,5]) foll Tryz.func244 Tryz.ntmps244 (by simp [cf]) ?_
  simp only [Tryz.f244,EnterK_some,zW,zX,zD,builtinA,isLeaf,const1,ustrA,simprocAttr,ti143,mi143,cf,Tryz.results244]
  simp only [zW,zX,zD,builtinA,isLeaf,const1,ustrA,simprocAttr,ti143,mi143,cf,Tryz.results244,hA,f1,f2,u1]
  exact ⟨outer_set0 A a _ (esN_closed _ _),ks',rfl,u2⟩
def okS (ks : List (List UInt8)) (p : Nm) : Bool:=!decide (p.1 = []) || decide (p.2 ∈ ks)
def StT (i5 i2 a b : Nat) (ks : List (List UInt8)) (c : Bool) (A : List Box) : Prop :=
  A.getD i5 .dead = .cells [.bool c] ∧ A.getD i2 .dead = .cells [.map a,.map b] ∧ A.getD a .dead = .mapb (esN ks) ∧ i5 ≠ i2 ∧ i5 ≠ a ∧ i5 < A.length ∧ i2 < A.length ∧ a < A.length
theorem StT.app {i5 i2 a b : Nat} {ks : List (List UInt8)} {c : Bool} {A : List Box} (h : StT i5 i2 a b ks c A) (B : List Box) : StT i5 i2 a b ks c (A ++ B):=by
  obtain ⟨h1,h2,h3,h4,h5,h6,h7,h8⟩:=h
  exact ⟨by rw [Abs.getD_append_left h6]; exact h1,by rw [Abs.getD_append_left h7]; exact h2,by rw [Abs.getD_append_left h8]; exact h3,h4,h5,by simp; omega,by simp; omega,by simp; omega⟩
def visS (ks : List (List UInt8)) (p : Nm) (c : Bool) : Bool:=c && okS ks p
set_option maxRecDepth 100000 in
theorem visS_ok (i5 i2 a b : Nat) (ks : List (List UInt8)) (c : Bool) (A : List Box) (p : Nm) (h : StT i5 i2 a b ks c A) :
    ACalls Tryz.prog 448 [.agg [.str p.1,.str p.2],.ptr i5 0,.ptr i2 0] A (fun r A'=>StT i5 i2 a b ks (visS ks p c) A' ∧ FrK i5 A A'):=by
  have h':=h.app [.cells [.str p.1,.str p.2]]
  obtain ⟨h1,h2,h3,h4,h5,h6,h7,h8⟩:=h'
  obtain ⟨r,f1,f2,f3,_⟩:=find_n p.2 ks 0
  have fin : ∀ d : Bool,StT i5 i2 a b ks d ((A ++ [Box.cells [.str p.1,.str p.2]]).set i5 (.cells [.bool d])) ∧ FrK i5 A ((A ++ [Box.cells [.str p.1,.str p.2]]).set i5 (.cells [.bool d])):=fun d=>by
    refine ⟨⟨getD_set_self h6,by rw [getD_set_ne' h4]; exact h2,by rw [getD_set_ne' h5]; exact h3,h4,h5,by simpa using h6,by simpa using h7,by simpa using h8⟩,by simp,fun k hk hi=>by rw [getD_set_ne' (Ne.symm hi),Abs.getD_append_left hk]⟩
  cases c with
  | false =>
    refine acalls_enterK (cf:=cf 17 [0,1,2,3]) foll Tryz.func448 Tryz.ntmps448 (by simp [cf]) ?_
    simp only [Tryz.f448,EnterK_some,zW,zX,zD,builtinA,isLeaf,const1,ustrA,simprocAttr,ti4,ti9,ti143,ti180,ti434,mi143,cf,Tryz.results448]
    simp only [zW,zX,zD,builtinA,isLeaf,const1,ustrA,simprocAttr,ti4,ti9,ti143,ti180,ti434,mi143,cf,Tryz.results448,h1,h2,h3]
    exact fin false
  | true =>
    by_cases hm : p.1 = []
    · have hok : visS ks p true = decide (p.2 ∈ ks):=by simp [visS,okS,hm]
      rw [hok]
      refine acalls_enterK (cf:=cf 17 [0,1,2,3]) foll Tryz.func448 Tryz.ntmps448 (by simp [cf]) ?_
      simp only [Tryz.f448,EnterK_some,zW,zX,zD,builtinA,isLeaf,const1,ustrA,simprocAttr,ti4,ti9,ti143,ti180,ti434,mi143,cf,Tryz.results448]
      simp only [zW,zX,zD,builtinA,isLeaf,const1,ustrA,simprocAttr,ti4,ti9,ti143,ti180,ti434,mi143,cf,Tryz.results448,h1,h2,h3,decide_eq_true hm,f1,f2]
      exact fin _
    · have hok : visS ks p true = true:=by simp [visS,okS,hm]
      rw [hok]
      refine acalls_enterK (cf:=cf 17 [0,1,2,3]) foll Tryz.func448 Tryz.ntmps448 (by simp [cf]) ?_
      simp only [Tryz.f448,EnterK_some,zW,zX,zD,builtinA,isLeaf,const1,ustrA,simprocAttr,ti4,ti9,ti143,ti180,ti434,mi143,cf,Tryz.results448]
      simp only [zW,zX,zD,builtinA,isLeaf,const1,ustrA,simprocAttr,ti4,ti9,ti143,ti180,ti434,mi143,cf,Tryz.results448,h1,h2,h3,decide_eq_false hm]
      exact fin true
theorem foldS (ks : List (List UInt8)) : ∀ (v : VT) (c : Bool),foldV (visS ks) v c = (c && allV (okS ks) v)
  | .num,c=>by simp [foldV,allV]
  | .nm m k,c=>by simp [foldV,allV,visS]
  | .fn a b,c=>by rw [foldV,foldS ks a,foldS ks b,allV,Bool.and_assoc]
theorem visT (i5 i2 a b : Nat) (ks : List (List UInt8)) : Vis (fun _=>0) (StT i5 i2 a b ks) (FrK i5) (visS ks) 448 [.ptr i5 0,.ptr i2 0] where
  call:=by kernel_rfl
  vis:=fun p c A _ _ h=>visS_ok i5 i2 a b ks c A p h
  app:=fun c A B h=>⟨h.app B,FrK.app _ _ _⟩
  grow:=fun p c=>by omega
  trans:=fun A B C h k=>h.trans k
  box:=fun c A A' d h f=>by
    have:=h.2.2.2.2.2.1
    rw [f.2 A.length (by simp) (by omega),Abs.getD_append_right (by omega)]; simp
set_option maxRecDepth 100000 in
theorem impl_knowsTypesOf (a b : Nat) (ks : List (List UInt8)) (v : VT) (hv : VOk v) (A : List Box) (ha : a < A.length) (hA : A.getD a .dead = .mapb (esN ks)) :
    ACalls Tryz.prog 447 [.agg [.map a,.map b],.iface (vT v) (vX v)] A (fun r A'=>r = .bool (allV (okS ks) v) ∧ A' = A):=by
  have hst : StT (A.length + 1) A.length a b ks true (A ++ [.cells [.map a,.map b],.cells [.bool true]]) :=
    ⟨by rw [Abs.getD_append_right (by omega)]; simp,by rw [Abs.getD_append_right (by omega)]; simp,by rw [Abs.getD_append_left ha]; exact hA,by omega,by omega,by simp,by simp,by simp; omega⟩
  have hea:=eachG (visT (A.length + 1) A.length a b ks) v true (A ++ [.cells [.map a,.map b],.cells [.bool true]]) hv.1 (by show 0 + cnt v ≤ 1000; have:=hv.cnt; omega) hst
  rw [foldS,Bool.true_and] at hea
  refine acalls_enter (cf:=cf 10 [0,1,2,4,5]) foll Tryz.func447 Tryz.ntmps447 (by simp [cf]) ?_
  simp only [Tryz.f447,EnterK_some,zW,zX,zD,builtinA,isLeaf,const1,ustrA,simprocAttr,ti4,ti434,cf,Tryz.results447]
  refine wpO_invoke _ _ _ _ _ _ _ _ _ _ _ _ _ _ _ _ ?_
  simp only [zW,zX,zD,builtinA,isLeaf,const1,ustrA,simprocAttr,ti4,ti434,cf,Tryz.results447]
  refine meth_invK (met3 (by kernel_rfl) (by kernel_rfl) (by kernel_rfl) (by kernel_rfl) (by kernel_rfl) (by kernel_rfl)) hea rfl (fun _=>rfl) ?_
  rintro r A1 ⟨h1,f1⟩
  have hb:=h1.1
  simp only [zW,zX,zD,builtinA,isLeaf,const1,ustrA,simprocAttr,ti4,ti434,cf,Tryz.results447,hb]
  exact frk_out f1 (by omega)
def StN (i5 i2 a b : Nat) (ks vs : List (List UInt8)) (c : Bool) (A : List Box) : Prop :=
  StT i5 i2 a b ks c A ∧ A.getD b .dead = .mapb (esN vs) ∧ i5 ≠ b ∧ b < A.length
theorem StN.app {i5 i2 a b : Nat} {ks vs : List (List UInt8)} {c : Bool} {A : List Box} (h : StN i5 i2 a b ks vs c A) (B : List Box) : StN i5 i2 a b ks vs c (A ++ B):=by
  obtain ⟨h1,h2,h3,h4⟩:=h
  exact ⟨h1.app B,by rw [Abs.getD_append_left h4]; exact h2,h3,by simp; omega⟩
theorem StN.set {i5 i2 a b : Nat} {ks vs : List (List UInt8)} {c : Bool} {A : List Box} (h : StN i5 i2 a b ks vs c A) (d : Bool) : StN i5 i2 a b ks vs d (A.set i5 (.cells [.bool d])):=by
  obtain ⟨⟨h1,h2,h3,h4,h5,h6,h7,h8⟩,h9,h10,h11⟩:=h
  exact ⟨⟨getD_set_self h6,by rw [getD_set_ne' h4]; exact h2,by rw [getD_set_ne' h5]; exact h3,h4,h5,by simpa using h6,by simpa using h7,by simpa using h8⟩,by rw [getD_set_ne' h10]; exact h9,h10,by simpa using h11⟩
def nodeB (ks vs : List (List UInt8)) : VE → Bool
  | .nm m n=>okS vs (m,n)
  | .fn t _=>allV (okS ks) t
  | _=>true
def visN (ks vs : List (List UInt8)) (v : VE) (d : Int) (c : Bool) : Bool:=c && nodeB ks vs v
theorem assert_nm (v : VE) (A : List Box) : assertA 222 [.str [],.str []] (.iface (vtE v) (vxE v)) A = some (True,.tuple [.agg [.str (if kindE v = 3 then modE v else []),.str (if kindE v = 3 then nameE v else [])],.bool (decide (kindE v = 3))],A):=by
  cases v <;> rfl
theorem nodeB_other {v : VE} (h3 : kindE v ≠ 3) (h4 : kindE v ≠ 4) (ks vs : List (List UInt8)) : nodeB ks vs v = true:=by
  cases v <;> simp_all [nodeB,kindE]
set_option maxRecDepth 100000 in
theorem visN_fr (i5 i2 a b : Nat) (ks vs : List (List UInt8)) (A0 : List Box) : VisM (fun c A=>StN i5 i2 a b ks vs c A ∧ FrK i5 A0 A) (visN ks vs) 458 [.ptr i5 0,.ptr i2 0]:=by
  intro v d c A ho h0 h1 ⟨hI,hF⟩
  have fr : ∀ (L : List Box) (X : Box),FrK i5 A0 ((A ++ L).set i5 X):=fun L X=>hF.trans ⟨by simp,fun k hk hi=>by rw [getD_set_ne' (Ne.symm hi),Abs.getD_append_left hk]⟩
  have has:=assert_nm v
  rw [ifE]
  by_cases k3 : kindE v = 3
  · obtain ⟨m,n,rfl⟩:=kind3 k3
    have hI2:=hI.app [.cells [.str m,.str n]]
    have hI2':=hI2
    obtain ⟨⟨g1,g2,g3,g4,g5,g6,g7,g8⟩,g9,g10,g11⟩:=hI2'
    obtain ⟨r,f1,f2,f3,_⟩:=find_n n vs 0
    simp only [if_pos k3] at has
    have hm' : modE (.nm m n) = m:=rfl
    have hn' : nameE (.nm m n) = n:=rfl
    rw [hm',hn'] at has
    cases c with
    | false =>
      refine acalls_enterK (cf:=cf 35 [0,2,3,6,7,8,10,11,26,27]) foll Tryz.func458 Tryz.ntmps458 (by simp [cf]) ?_
      simp only [Tryz.f458,EnterK_some,zW,zX,zD,builtinA,isLeaf,const1,ustrA,simprocAttr,ti4,ti9,ti122,ti143,ti175,ti222,ti333,ti434,ca447,mi143,za222,za333,cf,Tryz.results458]
      simp only [zW,zX,zD,builtinA,isLeaf,const1,ustrA,simprocAttr,ti4,ti9,ti122,ti143,ti175,ti222,ti333,ti434,ca447,mi143,za222,za333,cf,Tryz.results458,wpO_typeAssert,has,decide_eq_true k3,g1,g2,g3,g9]
      exact ⟨hI2.set false,fr _ _⟩
    | true =>
      by_cases hm : m = []
      · have hok : visN ks vs (.nm m n) d true = decide (n ∈ vs):=by simp [visN,nodeB,okS,hm]
        rw [hok]
        refine acalls_enterK (cf:=cf 35 [0,2,3,6,7,8,10,11,26,27]) foll Tryz.func458 Tryz.ntmps458 (by simp [cf]) ?_
        simp only [Tryz.f458,EnterK_some,zW,zX,zD,builtinA,isLeaf,const1,ustrA,simprocAttr,ti4,ti9,ti122,ti143,ti175,ti222,ti333,ti434,ca447,mi143,za222,za333,cf,Tryz.results458]
        simp only [zW,zX,zD,builtinA,isLeaf,const1,ustrA,simprocAttr,ti4,ti9,ti122,ti143,ti175,ti222,ti333,ti434,ca447,mi143,za222,za333,cf,Tryz.results458,wpO_typeAssert,has,decide_eq_true k3,g1,g2,g3,g9,decide_eq_true hm,f1,f2]
        exact ⟨hI2.set _,fr _ _⟩
      · have hok : visN ks vs (.nm m n) d true = true:=by simp [visN,nodeB,okS,hm]
        rw [hok]
        refine acalls_enterK (cf:=cf 35 [0,2,3,6,7,8,10,11,26,27]) foll Tryz.func458 Tryz.ntmps458 (by simp [cf]) ?_
        simp only [Tryz.f458,EnterK_some,zW,zX,zD,builtinA,isLeaf,const1,ustrA,simprocAttr,ti4,ti9,ti122,ti143,ti175,ti222,ti333,ti434,ca447,mi143,za222,za333,cf,Tryz.results458]
        simp only [zW,zX,zD,builtinA,isLeaf,const1,ustrA,simprocAttr,ti4,ti9,ti122,ti143,ti175,ti222,ti333,ti434,ca447,mi143,za222,za333,cf,Tryz.results458,wpO_typeAssert,has,decide_eq_true k3,g1,g2,g3,g9,decide_eq_false hm]
        exact ⟨hI2.set true,fr _ _⟩
  · by_cases k4 : kindE v = 4
    · obtain ⟨t,bd,rfl⟩:=kind4 k4
      have hI2:=hI.app [.cells [.iface (vT t) (vX t),ifE bd]]
      have hI2':=hI2
      obtain ⟨⟨g1,g2,g3,g4,g5,g6,g7,g8⟩,g9,g10,g11⟩:=hI2'
      have hk:=impl_knowsTypesOf a b ks t ho.1 _ g8 g3
      have hd1:=hI2.set false
      have hd2:=hI2.set (allV (okS ks) t)
      rw [ifE] at hI2 g1 g2 g3 g9 hk hd1 hd2
      rw [vxE]
      have hs1 : ∀ A,assertA 222 [.str [],.str []] (.iface (vtE (.fn t bd)) (.agg [.iface (vT t) (vX t),.iface (vtE bd) (vxE bd)])) A = some (True,.tuple [.agg [.str [],.str []],.bool false],A):=fun _=>rfl
      have hs2 : ∀ A,assertA 333 [.nili,.nili] (.iface (vtE (.fn t bd)) (.agg [.iface (vT t) (vX t),.iface (vtE bd) (vxE bd)])) A = some (True,.tuple [.agg [.iface (vT t) (vX t),.iface (vtE bd) (vxE bd)],.bool true],A):=fun _=>rfl
      cases c with
      | false =>
        refine acalls_enterK (cf:=cf 35 [0,2,3,6,7,8,10,11,26,27]) foll Tryz.func458 Tryz.ntmps458 (by simp [cf]) ?_
        simp only [Tryz.f458,EnterK_some,zW,zX,zD,builtinA,isLeaf,const1,ustrA,simprocAttr,ti4,ti9,ti122,ti143,ti175,ti222,ti333,ti434,ca447,mi143,za222,za333,cf,Tryz.results458]
        simp only [zW,zX,zD,builtinA,isLeaf,const1,ustrA,simprocAttr,ti4,ti9,ti122,ti143,ti175,ti222,ti333,ti434,ca447,mi143,za222,za333,cf,Tryz.results458,wpO_typeAssert,hs1,hs2,g1,g2,g3,g9]
        exact ⟨hd1,fr _ _⟩
      | true =>
        refine acalls_enterK (cf:=cf 35 [0,2,3,6,7,8,10,11,26,27]) foll Tryz.func458 Tryz.ntmps458 (by simp [cf]) ?_
        simp only [Tryz.f458,EnterK_some,zW,zX,zD,builtinA,isLeaf,const1,ustrA,simprocAttr,ti4,ti9,ti122,ti143,ti175,ti222,ti333,ti434,ca447,mi143,za222,za333,cf,Tryz.results458]
        simp only [zW,zX,zD,builtinA,isLeaf,const1,ustrA,simprocAttr,ti4,ti9,ti122,ti143,ti175,ti222,ti333,ti434,ca447,mi143,za222,za333,cf,Tryz.results458,wpO_typeAssert,hs1,hs2,g1,g2,g3,g9]
        refine callO_intro hk ?_
        rintro r A' ⟨rfl,rfl⟩
        simp only [zW,zX,zD,builtinA,isLeaf,const1,ustrA,simprocAttr,ti4,ti9,ti122,ti143,ti175,ti222,ti333,ti434,ca447,mi143,za222,za333,cf,Tryz.results458,g1]
        exact ⟨hd2,fr _ _⟩
    · have hok : visN ks vs v d c = c:=by simp [visN,nodeB_other k3 k4]
      obtain ⟨fa,fb,hfn⟩:=assert_fn v
      rw [hok]
      refine acalls_enterK (cf:=cf 35 [0,2,3,6,7,8,10,11,26,27]) foll Tryz.func458 Tryz.ntmps458 (by simp [cf]) ?_
      simp only [Tryz.f458,EnterK_some,zW,zX,zD,builtinA,isLeaf,const1,ustrA,simprocAttr,ti4,ti9,ti122,ti143,ti175,ti222,ti333,ti434,ca447,mi143,za222,za333,cf,Tryz.results458]
      simp only [zW,zX,zD,builtinA,isLeaf,const1,ustrA,simprocAttr,ti4,ti9,ti122,ti143,ti175,ti222,ti333,ti434,ca447,mi143,za222,za333,cf,Tryz.results458,wpO_typeAssert,has,hfn,decide_eq_false k3,decide_eq_false k4]
      exact ⟨hI,hF⟩
theorem walkN (ks vs : List (List UInt8)) : ∀ (v : VE) (d : Int) (c : Bool),walkF (visN ks vs) v d c = (c && allE (okS vs) (okS ks) v)
  | .var _,d,c=>by simp [walkF,visN,nodeB,allE]
  | .num _,d,c=>by simp [walkF,visN,nodeB,allE]
  | .nm m n,d,c=>by simp [walkF,visN,nodeB,allE]
  | .fn t b,d,c=>by rw [walkF,walkN ks vs b]; simp [visN,nodeB,allE,Bool.and_assoc]
  | .app a b,d,c=>by rw [walkF,walkN ks vs b,walkN ks vs a]; simp [visN,nodeB,allE,Bool.and_assoc]
  | .add a b,d,c=>by rw [walkF,walkN ks vs b,walkN ks vs a]; simp [visN,nodeB,allE,Bool.and_assoc]
  | .ite x a b,d,c=>by rw [walkF,walkN ks vs b,walkN ks vs a,walkN ks vs x]; simp [visN,nodeB,allE,Bool.and_assoc]
set_option maxRecDepth 100000 in
theorem impl_knowsNamesOf (a b : Nat) (ks vs : List (List UInt8)) (v : VE) (hv : EOk v) (A : List Box) (ha : a < A.length) (hA : A.getD a .dead = .mapb (esN ks)) (hb : b < A.length) (hB : A.getD b .dead = .mapb (esN vs)) :
    ACalls Tryz.prog 457 [.agg [.map a,.map b],ifE v] A (fun r A'=>r = .bool (allE (okS vs) (okS ks) v) ∧ A' = A):=by
  have hst : StN (A.length + 1) A.length a b ks vs true (A ++ [.cells [.map a,.map b],.cells [.bool true]]) :=
    ⟨⟨by rw [Abs.getD_append_right (by omega)]; simp,by rw [Abs.getD_append_right (by omega)]; simp,by rw [Abs.getD_append_left ha]; exact hA,by omega,by omega,by simp,by simp,by simp; omega⟩,by rw [Abs.getD_append_left hb]; exact hB,by omega,by simp; omega⟩
  have hwk:=impl_walk (fun c A1=>StN (A.length + 1) A.length a b ks vs c A1 ∧ FrK (A.length + 1) (A ++ [.cells [.map a,.map b],.cells [.bool true]]) A1) (fun s A1 L h=>⟨h.1.app L,h.2.trans (FrK.app _ _ _)⟩) (visN ks vs) 458 (by kernel_rfl) [.ptr (A.length + 1) 0,.ptr A.length 0] (visN_fr _ _ _ _ _ _ _) v 0 true _ hv.ok (by omega) (by have:=hv.dep; omega) ⟨hst,FrK.refl _ _⟩
  rw [walkN,Bool.true_and] at hwk
  rw [ifE] at hwk ⊢
  refine acalls_enter (cf:=cf 10 [0,1,2,4,5]) foll Tryz.func457 Tryz.ntmps457 (by simp [cf]) ?_
  simp only [Tryz.f457,EnterK_some,zW,zX,zD,builtinA,isLeaf,const1,ustrA,simprocAttr,ti4,ti434,ca147,cf,Tryz.results457]
  refine callO_intro hwk ?_
  rintro r A1 ⟨h1,f1⟩
  have hb:=h1.1.1
  simp only [zW,zX,zD,builtinA,isLeaf,const1,ustrA,simprocAttr,ti4,ti434,ca147,cf,Tryz.results457,hb]
  exact frk_out f1 (by omega)
set_option maxRecDepth 100000 in
theorem impl_allows (a b : Nat) (ks vs : List (List UInt8)) (v : VE) (hv : EOk v) (A : List Box) (ha : a < A.length) (hA : A.getD a .dead = .mapb (esN ks)) (hb : b < A.length) (hB : A.getD b .dead = .mapb (esN vs)) :
    ACalls Tryz.prog 455 [.agg [.map a,.map b],ifE v] A (fun r A'=>r = .bool (decide (mostE v 0 = 0) && allE (okS vs) (okS ks) v) ∧ A' = A):=by
  have hmf:=fun A=>impl_maxFree v hv.ok (by have:=hv.dep; omega) A
  have hkn:=impl_knowsNamesOf a b ks vs v hv (A ++ [.cells [.map a,.map b]]) (by simp; omega) (by rw [Abs.getD_append_left ha]; exact hA) (by simp; omega) (by rw [Abs.getD_append_left hb]; exact hB)
  rw [ifE] at hmf hkn ⊢
  refine acalls_enter (cf:=cf 13 [0,1,2,4]) foll Tryz.func455 Tryz.ntmps455 (by simp [cf]) ?_
  simp only [Tryz.f455,EnterK_some,zW,zX,zD,builtinA,isLeaf,const1,ustrA,simprocAttr,ti3,ti434,ca158,ca457,cf,Tryz.results455]
  refine callO_intro (hmf _) ?_
  rintro r A1 ⟨rfl,rfl⟩
  by_cases h0 : mostE v 0 = 0
  · simp only [zW,zX,zD,builtinA,isLeaf,const1,ustrA,simprocAttr,ti3,ti434,ca158,ca457,cf,Tryz.results455,decide_eq_true h0]
    refine callO_intro hkn ?_
    rintro r A1 ⟨rfl,rfl⟩
    simp only [zW,zX,zD,builtinA,isLeaf,const1,ustrA,simprocAttr,ti3,ti434,ca158,ca457,cf,Tryz.results455]
  · simp only [zW,zX,zD,builtinA,isLeaf,const1,ustrA,simprocAttr,ti3,ti434,ca158,ca457,cf,Tryz.results455,decide_eq_false h0]
end Go.Proofs.YtnjdbgiincliaaaGreat
