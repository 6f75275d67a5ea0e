/- SigFT, ValSame, AsM, MatchI, Laid. -/
import Derived.Test.YtejbjgmgdbcddaaGreatDoorJ14
import Derived.Test.YtejbjgmgdbcddaaGreatDoorAbsW3
import Derived.Test.YtejbjgmgdbcddaaGreatDoorRows
import Derived.WalkKit
import Derived.LaidEql
import Derived.RowKitTokens
import Derived.Test.YtejbjgmgdbcddaaGreatDoorCards
import Derived.Test.YtejbjgmgdbcddaaGreatDoorTie
import Derived.ChangeSame
import Derived.ChangeVars
import Derived.JoinedOf
import Derived.LaidLaws
import Derived.LaidHandle
import Derived.Stop.Joined
import Derived.SevenTiedAt
/- The program's FindType and FindVal. -/
set_option linter.unusedVariables false
set_option linter.unusedSimpArgs false
namespace Go.Proofs.YtejbjgmgdbcddaaGreatDoor
open Go.Abs
theorem subOut_none {A A' : List Box} {b b2 : Box} {r : AV} (h : SubOut (A ++ [b]) none r A') : SubOut A none r (A'.set A.length b2):=by
  obtain ⟨h1,h2,h3⟩:=h
  refine ⟨h1,by simp at h2 ⊢; omega,fun i hi=>?_⟩
  rw [List.getD_eq_getElem?_getD,List.getElem?_set_ne (by omega),← List.getD_eq_getElem?_getD,h3 i (by simp; omega),Abs.getD_append_left hi]
theorem subOut_some {A A' : List Box} {b b2 : Box} {r : AV} {v : VT} (h : SubOut (A ++ [b]) (some v) r A') : SubOut A (some v) r (A'.set A.length b2):=by
  obtain ⟨cs,S,h1,h2,h3,h4,h5,h6⟩:=h
  refine ⟨cs,S,h1,h2.frame fun i hi=>?_,h3,fun i hi=>by have:=h4 i hi; simp at this; omega,by simp at h5 ⊢; omega,fun i hi=>?_⟩
  · have:=h4 i hi
    simp at this
    rw [List.getD_eq_getElem?_getD,List.getElem?_set_ne (by omega),← List.getD_eq_getElem?_getD]
  · rw [List.getD_eq_getElem?_getD,List.getElem?_set_ne (by omega),← List.getD_eq_getElem?_getD,h6 i (by simp; omega),Abs.getD_append_left hi]
theorem subOut_box {A A' : List Box} {b : Box} {r : AV} : ∀ {o : Option VT},SubOut (A ++ [b]) o r A' → A.length < A'.length ∧ A'.getD A.length .dead = b ∧ ∃ k m n w f,r = .tuple [.agg [.int .i64 k,.str m,.str n,w],.bool f]
  | none,⟨h1,h2,h3⟩=>⟨by simp at h2; omega,by rw [h3 _ (by simp)]; simp [List.getD_eq_getElem?_getD],_,_,_,_,_,h1⟩
  | some v,⟨cs,S,h1,h2,h3,h4,h5,h6⟩=>by
    refine ⟨by simp at h5; omega,by rw [h6 _ (by simp)]; simp [List.getD_eq_getElem?_getD],?_⟩
    cases ht : toTy v with
    | mk k m n ks =>
      rw [ht] at h2
      obtain ⟨w,rfl,_⟩:=ownT_mk.1 h2
      exact ⟨_,_,_,_,_,h1⟩
theorem subOut_set {A A' : List Box} {b b2 : Box} {r : AV} {o : Option VT} (h : SubOut (A ++ [b]) o r A') : SubOut A o r (A'.set A.length b2):=by
  cases o with
  | none=>exact subOut_none h
  | some v=>exact subOut_some h
set_option maxRecDepth 100000 in
theorem impl_FindType (s : List SigI) (hs : s.length ≤ 1048576) (ho : ∀ x ∈ s,x.Ok ∧ sz x.typ ≤ 1048576) (n : List UInt8) (A : List Box) : ACalls Tryz.prog 11 [.slice (sEs s),.str n] A (fun r A'=>∃ o,MeanIs s (false,n) o ∧ SubOut A o r A'):=by
  have hf:=impl_findMeaning s hs ho (false,n)
  simp only [kE] at hf
  refine acalls_enterK (cf:=cf 12 [0,1,4,5]) foll Tryz.func11 Tryz.ntmps11 (by simp [cf]) ?_
  simp only [Tryz.f11,EnterK_some,zW,zX,zD,builtinA,isLeaf,const1,ustrA,simprocAttr,ti32,ti48,ca31,cf,Tryz.results11]
  refine callO_intro (hf _) ?_
  rintro r A' ⟨o,hm,ho2⟩
  obtain ⟨hl,hb,k,m,n2,w,f,rfl⟩:=subOut_box ho2
  have hS : ∀ b2,SubOut A o _ (A'.set A.length b2):=fun b2=>subOut_set ho2
  simp only [zW,zX,zD,builtinA,isLeaf,const1,ustrA,simprocAttr,ti32,ti48,ca31,cf,Tryz.results11,hb,hl]
  exact ⟨o,hm,hS _⟩
set_option maxRecDepth 100000 in
theorem impl_FindVal (s : List SigI) (hs : s.length ≤ 1048576) (ho : ∀ x ∈ s,x.Ok ∧ sz x.typ ≤ 1048576) (n : List UInt8) (A : List Box) : ACalls Tryz.prog 16 [.slice (sEs s),.str n] A (fun r A'=>∃ o,MeanIs s (true,n) o ∧ SubOut A o r A'):=by
  have hf:=impl_findMeaning s hs ho (true,n)
  simp only [kE] at hf
  refine acalls_enterK (cf:=cf 12 [0,1,4,5]) foll Tryz.func16 Tryz.ntmps16 (by simp [cf]) ?_
  simp only [Tryz.f16,EnterK_some,zW,zX,zD,builtinA,isLeaf,const1,ustrA,simprocAttr,ti32,ti48,ca31,cf,Tryz.results16]
  refine callO_intro (hf _) ?_
  rintro r A' ⟨o,hm,ho2⟩
  obtain ⟨hl,hb,k,m,n2,w,f,rfl⟩:=subOut_box ho2
  have hS : ∀ b2,SubOut A o _ (A'.set A.length b2):=fun b2=>subOut_set ho2
  simp only [zW,zX,zD,builtinA,isLeaf,const1,ustrA,simprocAttr,ti32,ti48,ca31,cf,Tryz.results16,hb,hl]
  exact ⟨o,hm,hS _⟩
end Go.Proofs.YtejbjgmgdbcddaaGreatDoor
/- Whether two types are equal, by the program's method. -/
set_option linter.unusedVariables false
set_option linter.unusedSimpArgs false
namespace Go.Proofs.YtejbjgmgdbcddaaGreatDoor
open Go.Abs
open Classical in
def SmM (v w : VT) : Prop:=∀ A,ACalls Tryz.prog ((pickF 180 187 150) v) [vX v,.iface (vT w) (vX w)] A (fun r A'=>r = .bool (decide (v = w)) ∧ A' = A)
set_option maxRecDepth 100000 in
theorem num_same (w : VT) : SmM .num w:=fun A=>by
  cases w with
  | num =>
    show ACalls Tryz.prog 180 [.agg [],.iface 199 (.agg [])] A _
    refine acalls_enter (cf:=cf 13 [0,1,4,6]) foll Tryz.func180 Tryz.ntmps180 (by simp [cf]) ?_
    simp only [Tryz.f180,EnterK_some,zW,zX,zD,builtinA,isLeaf,const1,ustrA,simprocAttr,ti99,ti199,za199,cf,Tryz.results180]
    simp only [zW,zX,zD,builtinA,isLeaf,const1,ustrA,simprocAttr,ti99,ti199,za199,cf,Tryz.results180,wpO_typeAssert,assert_yes]
  | nm a b =>
    show ACalls Tryz.prog 180 [.agg [],.iface 144 (.agg [.str a,.str b])] A _
    have has:=fun A=>assert_no [] 144 199 (.agg [.str a,.str b]) rfl (A:=A)
    refine acalls_enter (cf:=cf 13 [0,1,4,6]) foll Tryz.func180 Tryz.ntmps180 (by simp [cf]) ?_
    simp only [Tryz.f180,EnterK_some,zW,zX,zD,builtinA,isLeaf,const1,ustrA,simprocAttr,ti99,ti199,za199,cf,Tryz.results180]
    simp only [zW,zX,zD,builtinA,isLeaf,const1,ustrA,simprocAttr,ti99,ti199,za199,cf,Tryz.results180,wpO_typeAssert,has]
  | fn a b =>
    show ACalls Tryz.prog 180 [.agg [],.iface 202 (.agg [.iface (vT a) (vX a),.iface (vT b) (vX b)])] A _
    have has:=fun A=>assert_no [] 202 199 (.agg [.iface (vT a) (vX a),.iface (vT b) (vX b)]) rfl (A:=A)
    refine acalls_enter (cf:=cf 13 [0,1,4,6]) foll Tryz.func180 Tryz.ntmps180 (by simp [cf]) ?_
    simp only [Tryz.f180,EnterK_some,zW,zX,zD,builtinA,isLeaf,const1,ustrA,simprocAttr,ti99,ti199,za199,cf,Tryz.results180]
    simp only [zW,zX,zD,builtinA,isLeaf,const1,ustrA,simprocAttr,ti99,ti199,za199,cf,Tryz.results180,wpO_typeAssert,has]
set_option maxRecDepth 100000 in
theorem name_same (a b : List UInt8) (w : VT) : SmM (.nm a b) w:=fun A=>by
  cases w with
  | num =>
    show ACalls Tryz.prog 150 [.agg [.str a,.str b],.iface 199 (.agg [])] A _
    have has:=fun A=>assert_no [.str [],.str []] 199 144 (.agg []) rfl (A:=A)
    refine acalls_enter (cf:=cf 18 [0,1,2,4,5,6]) foll Tryz.func150 Tryz.ntmps150 (by simp [cf]) ?_
    simp only [Tryz.f150,EnterK_some,zW,zX,zD,builtinA,isLeaf,const1,ustrA,simprocAttr,ti99,ti144,ks144,za144,cf,Tryz.results150]
    simp only [zW,zX,zD,builtinA,isLeaf,const1,ustrA,simprocAttr,ti99,ti144,ks144,za144,cf,Tryz.results150,wpO_typeAssert,has]
  | nm c d =>
    show ACalls Tryz.prog 150 [.agg [.str a,.str b],.iface 144 (.agg [.str c,.str d])] A _
    refine acalls_enter (cf:=cf 18 [0,1,2,4,5,6]) foll Tryz.func150 Tryz.ntmps150 (by simp [cf]) ?_
    simp only [Tryz.f150,EnterK_some,zW,zX,zD,builtinA,isLeaf,const1,ustrA,simprocAttr,ti99,ti144,ks144,za144,cf,Tryz.results150]
    simp only [zW,zX,zD,builtinA,isLeaf,const1,ustrA,simprocAttr,ti99,ti144,ks144,za144,cf,Tryz.results150,wpO_typeAssert,assert_yes]
    simp
  | fn c d =>
    show ACalls Tryz.prog 150 [.agg [.str a,.str b],.iface 202 (.agg [.iface (vT c) (vX c),.iface (vT d) (vX d)])] A _
    have has:=fun A=>assert_no [.str [],.str []] 202 144 (.agg [.iface (vT c) (vX c),.iface (vT d) (vX d)]) rfl (A:=A)
    refine acalls_enter (cf:=cf 18 [0,1,2,4,5,6]) foll Tryz.func150 Tryz.ntmps150 (by simp [cf]) ?_
    simp only [Tryz.f150,EnterK_some,zW,zX,zD,builtinA,isLeaf,const1,ustrA,simprocAttr,ti99,ti144,ks144,za144,cf,Tryz.results150]
    simp only [zW,zX,zD,builtinA,isLeaf,const1,ustrA,simprocAttr,ti99,ti144,ks144,za144,cf,Tryz.results150,wpO_typeAssert,has]
open Classical in
set_option maxRecDepth 100000 in
theorem fun_same (a b : VT) (ha : ∀ w,SmM a w) (hb : ∀ w,SmM b w) (w : VT) : SmM (.fn a b) w:=fun A=>by
  cases w with
  | num =>
    show ACalls Tryz.prog 187 [.agg [.iface (vT a) (vX a),.iface (vT b) (vX b)],.iface 199 (.agg [])] A _
    have has:=fun A=>assert_no [.nili,.nili] 199 202 (.agg []) rfl (A:=A)
    refine acalls_enter (cf:=cf 27 [0,1,2,4,5,6]) foll Tryz.func187 Tryz.ntmps187 (by simp [cf]) ?_
    simp only [Tryz.f187,EnterK_some,zW,zX,zD,builtinA,isLeaf,const1,ustrA,simprocAttr,ti99,ti202,za202,cf,Tryz.results187]
    simp only [zW,zX,zD,builtinA,isLeaf,const1,ustrA,simprocAttr,ti99,ti202,za202,cf,Tryz.results187,wpO_typeAssert,has]
  | nm c d =>
    show ACalls Tryz.prog 187 [.agg [.iface (vT a) (vX a),.iface (vT b) (vX b)],.iface 144 (.agg [.str c,.str d])] A _
    have has:=fun A=>assert_no [.nili,.nili] 144 202 (.agg [.str c,.str d]) rfl (A:=A)
    refine acalls_enter (cf:=cf 27 [0,1,2,4,5,6]) foll Tryz.func187 Tryz.ntmps187 (by simp [cf]) ?_
    simp only [Tryz.f187,EnterK_some,zW,zX,zD,builtinA,isLeaf,const1,ustrA,simprocAttr,ti99,ti202,za202,cf,Tryz.results187]
    simp only [zW,zX,zD,builtinA,isLeaf,const1,ustrA,simprocAttr,ti99,ti202,za202,cf,Tryz.results187,wpO_typeAssert,has]
  | fn c d =>
    show ACalls Tryz.prog 187 [.agg [.iface (vT a) (vX a),.iface (vT b) (vX b)],.iface 202 (.agg [.iface (vT c) (vX c),.iface (vT d) (vX d)])] A _
    refine acalls_enter (cf:=cf 27 [0,1,2,4,5,6]) foll Tryz.func187 Tryz.ntmps187 (by simp [cf]) ?_
    simp only [Tryz.f187,EnterK_some,zW,zX,zD,builtinA,isLeaf,const1,ustrA,simprocAttr,ti99,ti202,za202,cf,Tryz.results187]
    simp only [zW,zX,zD,builtinA,isLeaf,const1,ustrA,simprocAttr,ti99,ti202,za202,cf,Tryz.results187,wpO_typeAssert,assert_yes]
    refine wpO_invoke _ _ _ _ _ _ _ _ _ _ _ _ _ _ _ _ ?_
    simp only [zW,zX,zD,builtinA,isLeaf,const1,ustrA,simprocAttr,ti99,ti202,za202,cf,Tryz.results187]
    refine meth_invK (met3 (by kernel_rfl) (by kernel_rfl) (by kernel_rfl) (by kernel_rfl) (by kernel_rfl) (by kernel_rfl)) (ha c _) rfl (fun _=>rfl) ?_
    rintro r A' ⟨rfl,rfl⟩
    by_cases h1 : a = c
    · rw [decide_eq_true h1]
      simp only [zW,zX,zD,builtinA,isLeaf,const1,ustrA,simprocAttr,ti99,ti202,za202,cf,Tryz.results187]
      refine wpO_invoke _ _ _ _ _ _ _ _ _ _ _ _ _ _ _ _ ?_
      simp only [zW,zX,zD,builtinA,isLeaf,const1,ustrA,simprocAttr,ti99,ti202,za202,cf,Tryz.results187]
      refine meth_invK (met3 (by kernel_rfl) (by kernel_rfl) (by kernel_rfl) (by kernel_rfl) (by kernel_rfl) (by kernel_rfl)) (hb d _) rfl (fun _=>rfl) ?_
      rintro r A' ⟨rfl,rfl⟩
      simp only [zW,zX,zD,builtinA,isLeaf,const1,ustrA,simprocAttr,ti99,ti202,za202,cf,Tryz.results187]
      simp [h1]
    · rw [decide_eq_false h1]
      simp only [zW,zX,zD,builtinA,isLeaf,const1,ustrA,simprocAttr,ti99,ti202,za202,cf,Tryz.results187]
      simp [h1]
theorem smM : ∀ v w : VT,SmM v w
  | .num,w=>num_same w
  | .nm a b,w=>name_same a b w
  | .fn a b,w=>fun_same a b (smM a) (smM b) w
end Go.Proofs.YtejbjgmgdbcddaaGreatDoor
/- errors.As where the target is the program's own error type and the error is of that type, or nil: Go's own text is walked, on the memory itself. -/
set_option linter.unusedVariables false
set_option linter.unusedSimpArgs false
namespace Go.Proofs.YtejbjgmgdbcddaaGreatDoor
open Go.Abs Go.RowKit Go.Extern
def hT (t : Nat) : Value:=.pointer (some ⟨1,t,none⟩)
def tT (t : Nat) : Value:=.iface 150 (.agg #[hT t])
def vT' (t : Nat) (a : Addr) (fl : Int) : Value:=.agg #[hT t,.pointer (some a),.int .u64 fl]
theorem as_valueOfP (t : Addr) (w : World) : (ReflectliteValue.unpack (.iface 80 (.pointer (some t)))).run Tryz.prog w = .ok (vT' 80 ⟨w.heap.size,0,none⟩ 150) (w.alloc (.cells #[.pointer (some t)] 80)):=by kernel_rfl
theorem as_type (a : Addr) (w : World) : (ReflectliteValue.methodAny (ReflectliteValue.valueError "reflectlite.Value.Type" 0) (fun t _ _ _=>ReflectliteType.toType t) #[vT' 80 a 150]).run Tryz.prog w = .ok (tT 80) w:=by kernel_rfl
theorem as_mKind (h : Value) (w : World) : (Go.method 342 150 (.agg #[h]) "Kind").run Tryz.prog w = .ok (129,h) w:=by kernel_rfl
theorem as_kindP (w : World) : ((ReflectliteType.abiMethod fun t=>(fun a : Nat=>Value.int IntKind.u8 (a : Int)) <$> Rtype.kind t) #[hT 80]).run Tryz.prog w = .ok (.int .u8 22) w:=by kernel_rfl
theorem as_kindT (w : World) : ((ReflectliteType.abiMethod fun t=>(fun a : Nat=>Value.int IntKind.u8 (a : Int)) <$> Rtype.kind t) #[hT 75]).run Tryz.prog w = .ok (.int .u8 25) w:=by kernel_rfl
theorem as_rlm (z : Sem Value) (f : TypeId → Addr → Nat → Nat → Sem Value) (v : Value) :
    ReflectliteValue.method z f #[v] = (do match ← ReflectliteValue.parts v with | none=>z | some (t,a,fl)=>f t a fl (fl % 32)):=rfl
theorem as_partsP (a : Addr) (w : World) : (ReflectliteValue.parts (vT' 80 a 150)).run Tryz.prog w = .ok (some (80,a,150)) w:=by kernel_rfl
theorem as_isNil (a p : Addr) (W : World) (ha : W.cell? a = some (.pointer (some p))) :
    (ReflectliteValue.method (ReflectliteValue.valueError "reflectlite.Value.IsNil" 0) ReflectliteValue.isNil #[vT' 80 a 150]).run Tryz.prog W = .ok (.bool false) W:=by
  rw [as_rlm]
  simp only [Sem.run_bind,as_partsP,Result.andThen]
  simp [ReflectliteValue.isNil,loadVar,isAgg,underlying,Tryz.underlying80,ha,Result.andThen]
theorem as_mElem (h : Value) (w : World) : (Go.method 342 150 (.agg #[h]) "Elem").run Tryz.prog w = .ok (156,.agg #[h]) w:=by kernel_rfl
theorem as_mImpl (h : Value) (w : World) : (Go.method 342 150 (.agg #[h]) "Implements").run Tryz.prog w = .ok (157,.agg #[h]) w:=by kernel_rfl
theorem as_mAsg (h : Value) (w : World) : (Go.method 342 150 (.agg #[h]) "AssignableTo").run Tryz.prog w = .ok (154,.agg #[h]) w:=by kernel_rfl
theorem as_elem (w : World) : (ReflectliteType.method ReflectliteType.elem #[.agg #[hT 80]]).run Tryz.prog w = .ok (tT 75) w:=by kernel_rfl
theorem as_impl (w : World) : (ReflectliteType.relation "Implements" ReflectliteType.implements_ #[.agg #[hT 75],tT 78]).run Tryz.prog w = .ok (.bool true) w:=by kernel_rfl
theorem as_typeOf (v : Value) (w : World) : (ReflectliteType.typeOf #[.iface 75 v]).run Tryz.prog w = .ok (tT 75) w:=by kernel_rfl
theorem as_asg (w : World) : (ReflectliteType.relation "AssignableTo" ReflectliteType.assignableTo #[.agg #[hT 75],tT 75]).run Tryz.prog w = .ok (.bool true) w:=by kernel_rfl
theorem as_valueOfT (x0 x1 x2 x3 : Value) (w : World) : (ReflectliteValue.unpack (.iface 75 (.agg #[x0,x1,x2,x3]))).run Tryz.prog w = .ok (vT' 75 ⟨w.heap.size,0,none⟩ 153) (w.alloc (.cells #[x0,x1,x2,x3] 75)):=by kernel_rfl
theorem as_elemOf (w : World) : (Rtype.elem? 80).run Tryz.prog w = .ok (some 75) w:=by kernel_rfl
theorem as_mk (p : Addr) (w : World) : (ReflectliteValue.mk 75 p ReflectliteValue.flagAddr).run Tryz.prog w = .ok (vT' 75 p 409) w:=by kernel_rfl
theorem as_elemV (a p : Addr) (W : World) (ha : W.cell? a = some (.pointer (some p))) :
    (ReflectliteValue.method (ReflectliteValue.valueError "reflectlite.Value.Elem" 0) ReflectliteValue.elem #[vT' 80 a 150]).run Tryz.prog W = .ok (vT' 75 p 409) W:=by
  rw [as_rlm]
  simp only [Sem.run_bind,as_partsP,Result.andThen]
  simp [ReflectliteValue.elem,loadVar,isAgg,underlying,Tryz.underlying80,ha,Result.andThen,as_elemOf,as_mk]
theorem as_rls (v x : Value) : ReflectliteValue.set #[v,x] = (do
    let (some (dst,a,fl),some (src,b,_)):=(← ReflectliteValue.parts v,← ReflectliteValue.parts x)
      | unsupported (.noEntry "extern/(internal/reflectlite.Value).Set.zeroValue")
    if fl / ReflectliteValue.flagAddr % 2 == 0 then unsupported (.noEntry "extern/(internal/reflectlite.Value).Set.unaddressable")
    let val ← loadVar src b
    if ← Rtype.directlyAssignable dst src then storeVar dst a val
    else if ← Rtype.implements dst src then
      if (← Rtype.kind src) == 20 then
        match val with
        | .nilIface=>unsupported (.noEntry "extern/reflectlite: a nil value of one interface type handed on as a value of another")
        | _=>storeVar dst a val
      else storeVar dst a (.iface src val)
    else panicString ("reflectlite.Set: value of type " ++ (← Rtype.spelt src) ++ " is not assignable to type " ++ (← Rtype.spelt dst))
    pure (.tuple #[])):=rfl
theorem as_partsA (a : Addr) (w : World) : (ReflectliteValue.parts (vT' 75 a 409)).run Tryz.prog w = .ok (some (75,a,409)) w:=by kernel_rfl
theorem as_partsT (a : Addr) (w : World) : (ReflectliteValue.parts (vT' 75 a 153)).run Tryz.prog w = .ok (some (75,a,153)) w:=by kernel_rfl
theorem as_direct (w : World) : (Rtype.directlyAssignable 75 75).run Tryz.prog w = .ok true w:=by kernel_rfl
theorem as_size (w : World) : (sizeOf 75).run Tryz.prog w = .ok 4 w:=by kernel_rfl
theorem as_set (ta : Addr) (b : Nat) (x0 x1 x2 x3 : Value) (W W' : World) (hb : W.heap[b]? = some (.cells #[x0,x1,x2,x3] 75 (0,0))) (hs : (storeVar 75 ta (.agg #[x0,x1,x2,x3])).run Tryz.prog W = .ok () W') :
    (ReflectliteValue.set #[vT' 75 ta 409,vT' 75 ⟨b,0,none⟩ 153]).run Tryz.prog W = .ok (.tuple #[]) W':=by
  have hl : (loadVar 75 ⟨b,0,none⟩).run Tryz.prog W = .ok (.agg #[x0,x1,x2,x3]) W:=by
    simp [loadVar,isAgg,underlying,Tryz.underlying75,Result.andThen,as_size,loadCells,loadCellsFrom,World.cell?,hb,Addr.add]
  rw [as_rls]
  simp only [Sem.run_bind,as_partsA,as_partsT,Result.andThen]
  simp [ReflectliteValue.flagAddr,hl,Result.andThen,as_direct,hs]
theorem as_alive {w : World} {a : Addr} {v : Value} (h : w.cell? a = some v) : a.block < w.heap.size:=by
  rcases Nat.lt_or_ge a.block w.heap.size with h1 | h1
  · exact h1
  · simp [World.cell?,Array.getElem?_eq_none h1] at h
set_option maxRecDepth 100000 in
set_option maxHeartbeats 4000000 in
theorem as_go (t a : Addr) (x0 x1 x2 x3 : Value) (w W' : World) (ha : w.cell? a = some (.pointer (some t)))
    (hs : (storeVar 75 t (.agg #[x0,x1,x2,x3])).run Tryz.prog ((w.alloc (.cells #[hT 80,.pointer (some a),.int .u64 150] 106)).alloc (.cells #[x0,x1,x2,x3] 75)) = .ok () W') :
    Calls Tryz.prog 58 #[.iface 75 (.agg #[x0,x1,x2,x3]),.iface 80 (.pointer (some t)),vT' 80 a 150,tT 75] w fun e w'=>e = .returned (.bool true) ∧ w' = W':=by
  have h6:=@run_callFunc_extern Tryz.prog 55 _ (fun args=>ReflectliteValue.unpack (args.getD 0 (.tuple #[]))) Tryz.func55 (by kernel_rfl) (by kernel_rfl) (by kernel_rfl) (by kernel_rfl)
  have h10:=@run_callFunc_extern Tryz.prog 85 _ ReflectliteType.typeOf Tryz.func85 (by kernel_rfl) (by kernel_rfl) (by kernel_rfl) (by kernel_rfl)
  have h35:=@run_callFunc_extern Tryz.prog 154 _ (ReflectliteType.relation "AssignableTo" ReflectliteType.assignableTo) Tryz.func154 (by kernel_rfl) (by kernel_rfl) (by kernel_rfl) (by kernel_rfl)
  have h11:=@run_callFunc_extern Tryz.prog 86 _ (ReflectliteValue.method (ReflectliteValue.valueError "reflectlite.Value.Elem" 0) ReflectliteValue.elem) Tryz.func86 (by kernel_rfl) (by kernel_rfl) (by kernel_rfl) (by kernel_rfl)
  have h12:=@run_callFunc_extern Tryz.prog 87 _ ReflectliteValue.set Tryz.func87 (by kernel_rfl) (by kernel_rfl) (by kernel_rfl) (by kernel_rfl)
  have tO:=as_typeOf
  have mA:=as_mAsg
  have aT:=as_asg
  have vO:=as_valueOfT
  have hal:=as_alive ha
  have el:=as_elemV a t (w.alloc (.cells #[hT 80,.pointer (some a),.int .u64 150] 106)) (by rw [World.cell?_alloc_lt _ _ a hal]; exact ha)
  have st:=as_set t (w.heap.size + 1) x0 x1 x2 x3 _ W' (by rw [show ∀ o o' : Obj,((w.alloc o).alloc o').heap = (w.heap.push o).push o' from fun _ _=>rfl,show w.heap.size + 1 = (w.heap.push _).size from (Array.size_push _).symm]; exact Array.getElem?_push_size) hs
  simp only [vT',tT,hT] at *
  go_enter Tryz.func58,Tryz.ntmps58
  go_wp2
  refine wp_loop_rounds 1 ?_
  rw [rounds_succ]
  go_wp2
  go_ret
  exact ⟨rfl,rfl⟩
set_option maxRecDepth 100000 in
set_option maxHeartbeats 4000000 in
theorem as_hit (t : Addr) (x0 x1 x2 x3 : Value) (w W' : World) (hg : w.cell? ⟨0,0,none⟩ = some (tT 78))
    (hs : (storeVar 75 t (.agg #[x0,x1,x2,x3])).run Tryz.prog ((((w.alloc (.cells #[.pointer (some t)] 80)).alloc (.cells #[hT 80,.pointer (some ⟨w.heap.size,0,none⟩),.int .u64 150] 106)).alloc (.cells #[hT 80,.pointer (some ⟨w.heap.size,0,none⟩),.int .u64 150] 106)).alloc (.cells #[x0,x1,x2,x3] 75)) = .ok () W') :
    Calls Tryz.prog 33 #[.iface 75 (.agg #[x0,x1,x2,x3]),.iface 80 (.pointer (some t))] w fun e w'=>e = .returned (.bool true) ∧ w' = W':=by
  have h6:=@run_callFunc_extern Tryz.prog 55 _ (fun args=>ReflectliteValue.unpack (args.getD 0 (.tuple #[]))) Tryz.func55 (by kernel_rfl) (by kernel_rfl) (by kernel_rfl) (by kernel_rfl)
  have h7:=@run_callFunc_extern Tryz.prog 56 _ (ReflectliteValue.methodAny (ReflectliteValue.valueError "reflectlite.Value.Type" 0) (fun t _ _ _=>ReflectliteType.toType t)) Tryz.func56 (by kernel_rfl) (by kernel_rfl) (by kernel_rfl) (by kernel_rfl)
  have h8:=@run_callFunc_extern Tryz.prog 57 _ (ReflectliteValue.method (ReflectliteValue.valueError "reflectlite.Value.IsNil" 0) ReflectliteValue.isNil) Tryz.func57 (by kernel_rfl) (by kernel_rfl) (by kernel_rfl) (by kernel_rfl)
  have h27:=@run_callFunc_extern Tryz.prog 129 _ (ReflectliteType.abiMethod fun t=>do pure (.int .u8 (← Rtype.kind t))) Tryz.func129 (by kernel_rfl) (by kernel_rfl) (by kernel_rfl) (by kernel_rfl)
  have h37:=@run_callFunc_extern Tryz.prog 156 _ (ReflectliteType.method ReflectliteType.elem) Tryz.func156 (by kernel_rfl) (by kernel_rfl) (by kernel_rfl) (by kernel_rfl)
  have h38:=@run_callFunc_extern Tryz.prog 157 _ (ReflectliteType.relation "Implements" ReflectliteType.implements_) Tryz.func157 (by kernel_rfl) (by kernel_rfl) (by kernel_rfl) (by kernel_rfl)
  have f6:=as_valueOfP
  have f7:=as_type
  have mK:=as_mKind
  have mE:=as_mElem
  have mI:=as_mImpl
  have k27:=as_kindP
  have k25:=as_kindT
  have e27:=as_elem
  have i25:=as_impl
  have hlt : 0 < w.heap.size:=as_alive hg
  have hp : ∀ o,((w.alloc (.cells #[.pointer (some t)] 80)).alloc o).cell? ⟨w.heap.size,0,none⟩ = some (.pointer (some t)):=fun o=>by
    rw [World.cell?_alloc_lt _ _ ⟨w.heap.size,0,none⟩ (by simp)]; simp
  have n8:=as_isNil ⟨w.heap.size,0,none⟩ t ((w.alloc (.cells #[.pointer (some t)] 80)).alloc (.cells #[hT 80,.pointer (some ⟨w.heap.size,0,none⟩),.int .u64 150] 106)) (hp _)
  have hg2 : ((w.alloc (.cells #[.pointer (some t)] 80)).alloc (.cells #[hT 80,.pointer (some ⟨w.heap.size,0,none⟩),.int .u64 150] 106)).cell? ⟨0,0,none⟩ = some (tT 78):=by
    rw [World.cell?_alloc_lt _ _ ⟨0,0,none⟩ (by simp),World.cell?_alloc_lt _ _ ⟨0,0,none⟩ hlt]; exact hg
  have go:=as_go t ⟨w.heap.size,0,none⟩ x0 x1 x2 x3 _ W' (hp _) hs
  clear hs
  simp only [vT',tT,hT] at *
  go_enter Tryz.func33,Tryz.ntmps33
  go_wp2_with (go_at_call 58; refine go.mono ?_; rintro e w' ⟨rfl,rfl⟩)
  go_ret
  exact ⟨rfl,rfl⟩
theorem hrel_skip {G : Ghost} {A : List Box} {w w' : World} {base : Nat} (h : HRel G A w base) (hk : Kept (fun _=>False) w w') : HRel G A w' base ∧ Ext G w G w':=by
  have e : Ext G w G w':=⟨Nat.le_refl _,fun _ _ x=>x,fun x o hx=>cell?_congr (hk.block x (h.imm x o hx) (fun f=>f)) o,fun _ _=>⟨rfl,rfl,rfl,rfl,rfl⟩,fun x o hx f=>hk.fz (h.imm x o hx) (fun f=>f) f⟩
  exact ⟨⟨h.n,fun i hi=>(h.box i hi).mono e (by rw [h.n]; exact hi) (fun hl=>hk.block _ (h.bnd i hi hl).2 (fun f=>f)) (fun _ _ x=>x),h.sep,fun i hi hl=>⟨(h.bnd i hi hl).1,Nat.lt_of_lt_of_le (h.bnd i hi hl).2 hk.size⟩,fun b o x=>Nat.lt_of_lt_of_le (h.imm b o x) hk.size,Nat.le_trans h.low hk.size,h.gv.block fun b hb=>hk.block b (by have:=h.low; omega) (fun f=>f)⟩,e⟩
theorem hrel_skip1 {G : Ghost} {A : List Box} {w : World} {base : Nat} (h : HRel G A w base) (o : Obj) : HRel G A (w.alloc o) base ∧ Ext G w G (w.alloc o) ∧ Below base w (w.alloc o) :=
  have k:=hrel_skip h (kept_alloc (w:=w) (o:=o))
  ⟨k.1,k.2,kept_alloc.below (fun _ f=>f.elim) h.low⟩
set_option maxRecDepth 100000 in
theorem As_hit (A : List Box) (i : Nat) (y0 y1 y2 y3 : AV) (us : List AV) (hi : i < A.length) (hb : A.getD i .dead = .cells us) (hu : us.length = 4) :
    ACalls Tryz.prog 33 [.iface 75 (.agg [y0,y1,y2,y3]),.ifp 80 i 0] A (fun r A'=>r = .bool true ∧ A' = A.set i (.cells [y0,y1,y2,y3])):=by
  intro G w base xs h hx
  obtain ⟨x,y,hxy,h1,h2⟩:=RL.two hx
  obtain ⟨xs⟩:=xs
  simp only at hxy
  subst hxy
  cases h1 with
  | iface _ _ x hv h1 =>
  cases h2 with
  | ifp _ _ _ hin =>
  have h1':=h1
  cases h1 with
  | agg _ x hs hc h1 =>
  obtain ⟨x⟩:=x
  match x,hs with
  | [x0,x1,x2,x3],_ =>
  have hg:=(h.gv _ rfl).2
  obtain ⟨k1,e1,b1⟩:=hrel_skip1 h (.cells #[.pointer (some ⟨G.blk i,0,none⟩)] 80)
  obtain ⟨k2,e2,b2⟩:=hrel_skip1 k1 (.cells #[hT 80,.pointer (some ⟨w.heap.size,0,none⟩),.int .u64 150] 106)
  obtain ⟨k3,e3,b3⟩:=hrel_skip1 k2 (.cells #[hT 80,.pointer (some ⟨w.heap.size,0,none⟩),.int .u64 150] 106)
  obtain ⟨k4,e4,b4⟩:=hrel_skip1 k3 (.cells #[x0,x1,x2,x3] 75)
  have e:=(((e1.trans e2).trans e3).trans e4)
  obtain ⟨w',G',q1,q2,q3,q4⟩:=store_ok (A:=A) (A':=A.set i (.cells [y0,y1,y2,y3])) (p:=.ptr i 0) (c:=0 + 4 ≤ us.length) ti75 (vs:=[y0,y1,y2,y3]) (v:=.agg [y0,y1,y2,y3]) (y:=.agg #[x0,x1,x2,x3]) rfl rfl (by simp only [storeA,hb]; simp [hu,List.drop_eq_nil_of_le (Nat.le_of_eq hu)]) (by omega) k4 (.ptr i 0 hin) (h1'.mono e)
  refine (as_hit ⟨G.blk i,0,none⟩ x0 x1 x2 x3 w w' hg q1).mono ?_
  rintro ev w'' ⟨rfl,rfl⟩
  exact ⟨_,_,_,G',rfl,⟨rfl,rfl⟩,.bool true,q2,e.trans q3,(((b1.trans b2).trans b3).trans b4).trans q4⟩
theorem As_nil (A : List Box) (v : AV) : ACalls Tryz.prog 33 [.nili,v] A (fun r A'=>r = .bool false ∧ A' = A):=by
  intro G w base xs h hx
  obtain ⟨x,y,hxy,h1,h2⟩:=RL.two hx
  obtain ⟨xs⟩:=xs
  simp only at hxy
  subst hxy
  cases h1
  have : Calls Tryz.prog 33 #[.nilIface,y] w fun e w'=>e = .returned (.bool false) ∧ w' = w:=by
    go_enter Tryz.func33,Tryz.ntmps33
    go_wp2
    go_ret
    exact ⟨rfl,rfl⟩
  refine this.mono ?_
  rintro ev w'' ⟨rfl,rfl⟩
  exact ⟨_,_,A,G,rfl,⟨rfl,rfl⟩,.bool false,h,Ext.refl _ _,Below.refl _ _⟩
end Go.Proofs.YtejbjgmgdbcddaaGreatDoor
/- The program's matching of signatures. -/
set_option linter.unusedVariables false
set_option linter.unusedSimpArgs false
namespace Go.Proofs.YtejbjgmgdbcddaaGreatDoor
open Go.Abs
theorem set_same {A : List Box} {i : Nat} {b : Box} (h : A.getD i .dead = b) (hi : i < A.length) : A.set i b = A:=by
  subst h
  refine List.ext_getElem (by simp) fun k h1 h2=>?_
  rw [List.getElem_set]
  split
  · rename_i e; subst e; simp [List.getD,hi]
  · rfl
theorem metQ {name : String} {gs : VT → FuncId} (h : Met name gs) (v : VT) : methP Tryz.prog (vT v) name:=by unfold methP; rw [h.find v]; rfl
theorem wpG_mapUpdate (P : Program) (own : FuncId → Bool) (N : Nat) (ops : Array Oper) (T : Ranks) (As : Nat → List Box) (Q : Env → Prop) (k : Nat) (rest : List Oper) (e : Env) (d : Option Tmp) (ty : TypeId) (pos : String) (af : Array Edge) (t : TypeId) (x y z : Operand) :
    wpG P own N ops T As Q k (⟨d,.mapUpdate t x y z,ty,pos,af,none⟩ :: rest) e = StepK (astep P (.mapUpdate t x y z) [evA e x,evA e y,evA e z] (As (T.lo k))) (ContE P own N ops T As Q k rest d e (.mapUpdate t x y z) [evA e x,evA e y,evA e z]):=by
  rw [wpG_step _ _ _ _ _ _ _ _ _ _ _ _ _ _ rfl]; rfl
open Classical in
set_option maxRecDepth 100000 in
set_option maxHeartbeats 4000000 in
theorem impl_visit (a : List SigI) (hs : List VI) (hra : RdN a (some hs)) (y : VI) (hy : VOk (meanI y)) (m : List (BNm × VT)) (hm : ∀ x ∈ m,VOk x.2) (hnew : ∀ n,y = .ab n → lookB ([],n) m = none) (j im : Nat) (A : List Box) (hj : j < A.length) (him : im < A.length)
    (hgj : A.getD j .dead = .cells [.slice (vRows hs),.map im]) (hgm : A.getD im .dead = .mapb (esB m)) :
    ACalls Tryz.prog 59 [.ptr j 0,.iface (viT y) (viX y)] A (fun r A'=>r = .int .i64 (visC hs m y) ∧ ∃ B,A' = A.set im (.mapb (esB (visS hs m y))) ++ B):=by
  have hh:=rdN_vok hra
  have hfind : ∀ q A,ACalls Tryz.prog 54 [.slice (vRows hs),.agg (kE q)] A (fun r A'=>r = findR (findF hs q) ∧ A' = A):=fun q A=>(impl_findSig hs (by omega) q A).mono fun r A' h=>by
    obtain ⟨o,h1,h2,h3⟩:=h
    rw [findO_one hra h1 (findF_is hs q)] at h2
    exact ⟨h2,h3⟩
  refine acalls_enterK (cf:=cf 59 [0,1,4,5,6,7,8,9,10,23,29,48,52,56]) foll Tryz.func59 Tryz.ntmps59 (by simp [cf]) ?_
  simp only [Tryz.f59,EnterK_some,zW,zX,zD,builtinA,isLeaf,const1,ustrA,simprocAttr,ti4,ti9,ti44,ti48,ti51,ti53,ti116,ti118,ti144,ca54,ca81,mi116,za53,cf,Tryz.results59]
  refine wpO_invoke _ _ _ _ _ _ _ _ _ _ _ _ _ _ _ _ ?_
  simp only [zW,zX,zD,builtinA,isLeaf,const1,ustrA,simprocAttr,ti4,ti9,ti44,ti48,ti51,ti53,ti116,ti118,ti144,ca54,ca81,mi116,za53,cf,Tryz.results59]
  refine methI_invK (metI3 (by kernel_rfl) (by kernel_rfl) (by kernel_rfl) (by kernel_rfl) (by kernel_rfl) (by kernel_rfl)) (keyI y _) rfl (fun _=>rfl) ?_
  rintro r A' ⟨rfl,hA⟩
  have hA:=hA.symm
  subst hA
  have hgj1 : ∀ X,(A ++ X).getD j .dead = .cells [.slice (vRows hs),.map im]:=fun X=>by rw [Abs.getD_append_left hj]; exact hgj
  have hgm1 : ∀ X,(A ++ X).getD im .dead = .mapb (esB m):=fun X=>by rw [Abs.getD_append_left him]; exact hgm
  simp only [kE]
  simp only [zW,zX,zD,builtinA,isLeaf,const1,ustrA,simprocAttr,ti4,ti9,ti44,ti48,ti51,ti53,ti116,ti118,ti144,ca54,ca81,mi116,za53,cf,Tryz.results59]
  refine .inl ⟨by kernel_rfl,by kernel_rfl,?_⟩
  have hf0:=hfind (viK y)
  simp only [kE] at hf0
  simp only [zW,zX,zD,builtinA,isLeaf,const1,ustrA,simprocAttr,ti4,ti9,ti44,ti48,ti51,ti53,ti116,ti118,ti144,ca54,ca81,mi116,za53,cf,Tryz.results59,hgj1]
  refine callD_intro (by simp only [zW,zX,zD,builtinA,isLeaf,const1,ustrA,simprocAttr,Option.map_some] <;> rfl) (hf0 _) ?_ rfl
  cases hf : findF hs (viK y) with
  | none =>
    simp only [findR]
    simp only [zW,zX,zD,builtinA,isLeaf,const1,ustrA,simprocAttr,ti4,ti9,ti44,ti48,ti51,ti53,ti116,ti118,ti144,ca54,ca81,mi116,za53,cf,Tryz.results59]
    refine ⟨by simp [visC,hf],[.cells (kE (viK y))],?_⟩
    simp only [visS,hf]
    rw [set_same hgm him]; rfl
  | some f =>
    simp only [findR]
    simp only [zW,zX,zD,builtinA,isLeaf,const1,ustrA,simprocAttr,ti4,ti9,ti44,ti48,ti51,ti53,ti116,ti118,ti144,ca54,ca81,mi116,za53,cf,Tryz.results59]
    cases y with
    | ab n =>
      simp only [viT,viX]
      simp only [zW,zX,zD,builtinA,isLeaf,const1,ustrA,simprocAttr,ti4,ti9,ti44,ti48,ti51,ti53,ti116,ti118,ti144,ca54,ca81,mi116,za53,cf,Tryz.results59,wpO_typeAssert,assert_yes]
      have h0 : lookB ([],n) m = none:=hnew n rfl
      obtain ⟨f1,f2⟩ : findA KB (bkE ([],n)) (esB m) 0 = some none ∧ lookB ([],n) m = none:=by
        rcases find_b ([],n) m 0 with h | ⟨j',v',h1,h2⟩
        · exact h
        · rw [h0] at h2; cases h2
      simp only [bkE] at f1
      have hes:=esB_app m ([],n) f
      have hgx : ∀ X,(A ++ (Box.cells [.bool (viK (.ab n)).1,.str (viK (.ab n)).2] :: .cells [.str n] :: X)).getD (A.length + 1) .dead = .cells [.str n]:=fun X=>by rw [Abs.getD_append_right (by omega),show A.length + 1 - A.length = 1 by omega]; rfl
      have hsx : ∀ X b,(A ++ X).set im b = A.set im b ++ X:=fun X b=>by rw [List.set_append_left _ _ him]
      refine .inr (drawE_intro [(false,0,0),(false,0,0),(false,0,0),(false,0,0),(false,0,0),(false,0,0),(false,0,0),(false,0,0),(true,0,0)] [A ++ [.cells [.bool (viK (.ab n)).1,.str (viK (.ab n)).2],.cells [.str n]],A.set im (.mapb (esB (m ++ [(([],n),f)]))) ++ [.cells [.bool (viK (.ab n)).1,.str (viK (.ab n)).2],.cells [.str n]]] 1 rfl (by kernel_rfl) (by kernel_rfl) (by kernel_rfl) (by kernel_rfl) (by kernel_rfl) (by kernel_rfl) ?_)
      simp only [zW,zX,zD,builtinA,isLeaf,const1,ustrA,simprocAttr,ti4,ti9,ti44,ti48,ti51,ti53,ti116,ti118,ti144,ca54,ca81,mi116,za53,cf,Tryz.results59,wpG_mapUpdate,hgj1,hgm1,hgx,hsx,f1,hes]
      exact ⟨by simp [visC,hf],_,by simp only [visS,hf]; rfl⟩
    | al n v =>
      simp only [viT,viX]
      have has:=fun A=>assert_no [.str []] 168 53 (.agg [.str n,.iface (vT v) (vX v)]) rfl (A:=A)
      have hv : VOk v:=hy
      have hb:=sub_ok m hm v hv.ok
      have hd:=hv.dep
      have hc:=hv.cnt
      have hd : dep v ≤ 8:=hd
      have hc : cnt v ≤ 63:=hc
      have hW:=fun A=>impl_withinLimits2 (subV m v) (by omega) (by omega) A
      simp only [zW,zX,zD,builtinA,isLeaf,const1,ustrA,simprocAttr,ti4,ti9,ti44,ti48,ti51,ti53,ti116,ti118,ti144,ca54,ca81,mi116,za53,cf,Tryz.results59,wpO_typeAssert,has]
      refine .inl ⟨by kernel_rfl,by kernel_rfl,?_⟩
      refine wpD_invoke _ _ _ _ _ _ _ _ _ _ _ _ _ _ _ _ ?_
      simp only [zW,zX,zD,builtinA,isLeaf,const1,ustrA,simprocAttr,ti4,ti9,ti44,ti48,ti51,ti53,ti116,ti118,ti144,ca54,ca81,mi116,za53,cf,Tryz.results59]
      refine methI_invD (metI3 (by kernel_rfl) (by kernel_rfl) (by kernel_rfl) (by kernel_rfl) (by kernel_rfl) (by kernel_rfl)) (meanIf (.al n v) _) rfl (fun _=>rfl) ?_
      have hS:=subM m v (A ++ [.cells [.bool (viK (.al n v)).1,.str (viK (.al n v)).2],.cells [.str []]]) im (by simp; omega) (hgm1 _)
      simp only [meanI]
      simp only [zW,zX,zD,builtinA,isLeaf,const1,ustrA,simprocAttr,ti4,ti9,ti44,ti48,ti51,ti53,ti116,ti118,ti144,ca54,ca81,mi116,za53,cf,Tryz.results59,hgj1,wpD_makeFunc,notNil,List.take_succ_cons,List.take_zero,List.drop_succ_cons,List.drop_zero,List.nil_append,List.cons_append,List.append_nil,List.map_cons,List.map_nil,List.size_toArray,List.length_nil,List.length_cons]
      refine ⟨metQ (gs:=(pickF 181 188 151)) (met3 (by kernel_rfl) (by kernel_rfl) (by kernel_rfl) (by kernel_rfl) (by kernel_rfl) (by kernel_rfl)) _,?_⟩
      refine wpD_invoke _ _ _ _ _ _ _ _ _ _ _ _ _ _ _ _ ?_
      simp only [zW,zX,zD,builtinA,isLeaf,const1,ustrA,simprocAttr,ti4,ti9,ti44,ti48,ti51,ti53,ti116,ti118,ti144,ca54,ca81,mi116,za53,cf,Tryz.results59]
      refine meth_invD (met3 (by kernel_rfl) (by kernel_rfl) (by kernel_rfl) (by kernel_rfl) (by kernel_rfl) (by kernel_rfl)) hS rfl (fun _=>rfl) ?_
      simp only [zW,zX,zD,builtinA,isLeaf,const1,ustrA,simprocAttr,ti4,ti9,ti44,ti48,ti51,ti53,ti116,ti118,ti144,ca54,ca81,mi116,za53,cf,Tryz.results59]
      refine wpO_invoke _ _ _ _ _ _ _ _ _ _ _ _ _ _ _ _ ?_
      simp only [zW,zX,zD,builtinA,isLeaf,const1,ustrA,simprocAttr,ti4,ti9,ti44,ti48,ti51,ti53,ti116,ti118,ti144,ca54,ca81,mi116,za53,cf,Tryz.results59]
      refine meth_invK (met3 (by kernel_rfl) (by kernel_rfl) (by kernel_rfl) (by kernel_rfl) (by kernel_rfl) (by kernel_rfl)) (smM (subV m v) f _) rfl (fun _=>rfl) ?_
      rintro r A' ⟨rfl,rfl⟩
      by_cases h1 : subV m v = f
      · rw [decide_eq_true h1]
        simp only [zW,zX,zD,builtinA,isLeaf,const1,ustrA,simprocAttr,ti4,ti9,ti44,ti48,ti51,ti53,ti116,ti118,ti144,ca54,ca81,mi116,za53,cf,Tryz.results59]
        exact ⟨by simp [visC,hf,h1],_,by simp only [visS,hf]; rw [set_same hgm him]⟩
      · rw [decide_eq_false h1]
        simp only [zW,zX,zD,builtinA,isLeaf,const1,ustrA,simprocAttr,ti4,ti9,ti44,ti48,ti51,ti53,ti116,ti118,ti144,ca54,ca81,mi116,za53,cf,Tryz.results59]
        refine callO_intro (hW _) ?_
        rintro r A' ⟨rfl,hA⟩
        have hA:=hA.symm
        subst hA
        rw [show (decide (dep (subV m v) ≤ 8) && decide (cnt (subV m v) ≤ 63)) = fitI (.al [] (subV m v)) from rfl]
        cases h2 : fitI (.al [] (subV m v)) with
        | false =>
          simp only [zW,zX,zD,builtinA,isLeaf,const1,ustrA,simprocAttr,ti4,ti9,ti44,ti48,ti51,ti53,ti116,ti118,ti144,ca54,ca81,mi116,za53,cf,Tryz.results59]
          exact ⟨by simp [visC,hf,h1,h2],_,by simp only [visS,hf]; rw [set_same hgm him]⟩
        | true =>
          simp only [zW,zX,zD,builtinA,isLeaf,const1,ustrA,simprocAttr,ti4,ti9,ti44,ti48,ti51,ti53,ti116,ti118,ti144,ca54,ca81,mi116,za53,cf,Tryz.results59]
          have hgx : ∀ X,(A ++ (Box.cells [.bool (viK (.al n v)).1,.str (viK (.al n v)).2] :: X)).getD A.length .dead = .cells [.bool (viK (.al n v)).1,.str (viK (.al n v)).2]:=fun X=>by rw [Abs.getD_append_right (Nat.le_refl _)]; simp
          simp only [zW,zX,zD,builtinA,isLeaf,const1,ustrA,simprocAttr,ti4,ti9,ti44,ti48,ti51,ti53,ti116,ti118,ti144,ca54,ca81,mi116,za53,cf,Tryz.results59,hgx,show (viK (.al n v)).1 = false from rfl]
          exact ⟨by simp [visC,hf,h1,h2],_,by simp only [visS,hf]; rw [set_same hgm him]⟩
    | va n v =>
      simp only [viT,viX]
      have has:=fun A=>assert_no [.str []] 169 53 (.agg [.str n,.iface (vT v) (vX v)]) rfl (A:=A)
      have hv : VOk v:=hy
      have hb:=sub_ok m hm v hv.ok
      have hd:=hv.dep
      have hc:=hv.cnt
      have hd : dep v ≤ 8:=hd
      have hc : cnt v ≤ 63:=hc
      have hW:=fun A=>impl_withinLimits2 (subV m v) (by omega) (by omega) A
      simp only [zW,zX,zD,builtinA,isLeaf,const1,ustrA,simprocAttr,ti4,ti9,ti44,ti48,ti51,ti53,ti116,ti118,ti144,ca54,ca81,mi116,za53,cf,Tryz.results59,wpO_typeAssert,has]
      refine .inl ⟨by kernel_rfl,by kernel_rfl,?_⟩
      refine wpD_invoke _ _ _ _ _ _ _ _ _ _ _ _ _ _ _ _ ?_
      simp only [zW,zX,zD,builtinA,isLeaf,const1,ustrA,simprocAttr,ti4,ti9,ti44,ti48,ti51,ti53,ti116,ti118,ti144,ca54,ca81,mi116,za53,cf,Tryz.results59]
      refine methI_invD (metI3 (by kernel_rfl) (by kernel_rfl) (by kernel_rfl) (by kernel_rfl) (by kernel_rfl) (by kernel_rfl)) (meanIf (.va n v) _) rfl (fun _=>rfl) ?_
      have hS:=subM m v (A ++ [.cells [.bool (viK (.va n v)).1,.str (viK (.va n v)).2],.cells [.str []]]) im (by simp; omega) (hgm1 _)
      simp only [meanI]
      simp only [zW,zX,zD,builtinA,isLeaf,const1,ustrA,simprocAttr,ti4,ti9,ti44,ti48,ti51,ti53,ti116,ti118,ti144,ca54,ca81,mi116,za53,cf,Tryz.results59,hgj1,wpD_makeFunc,notNil,List.take_succ_cons,List.take_zero,List.drop_succ_cons,List.drop_zero,List.nil_append,List.cons_append,List.append_nil,List.map_cons,List.map_nil,List.size_toArray,List.length_nil,List.length_cons]
      refine ⟨metQ (gs:=(pickF 181 188 151)) (met3 (by kernel_rfl) (by kernel_rfl) (by kernel_rfl) (by kernel_rfl) (by kernel_rfl) (by kernel_rfl)) _,?_⟩
      refine wpD_invoke _ _ _ _ _ _ _ _ _ _ _ _ _ _ _ _ ?_
      simp only [zW,zX,zD,builtinA,isLeaf,const1,ustrA,simprocAttr,ti4,ti9,ti44,ti48,ti51,ti53,ti116,ti118,ti144,ca54,ca81,mi116,za53,cf,Tryz.results59]
      refine meth_invD (met3 (by kernel_rfl) (by kernel_rfl) (by kernel_rfl) (by kernel_rfl) (by kernel_rfl) (by kernel_rfl)) hS rfl (fun _=>rfl) ?_
      simp only [zW,zX,zD,builtinA,isLeaf,const1,ustrA,simprocAttr,ti4,ti9,ti44,ti48,ti51,ti53,ti116,ti118,ti144,ca54,ca81,mi116,za53,cf,Tryz.results59]
      refine wpO_invoke _ _ _ _ _ _ _ _ _ _ _ _ _ _ _ _ ?_
      simp only [zW,zX,zD,builtinA,isLeaf,const1,ustrA,simprocAttr,ti4,ti9,ti44,ti48,ti51,ti53,ti116,ti118,ti144,ca54,ca81,mi116,za53,cf,Tryz.results59]
      refine meth_invK (met3 (by kernel_rfl) (by kernel_rfl) (by kernel_rfl) (by kernel_rfl) (by kernel_rfl) (by kernel_rfl)) (smM (subV m v) f _) rfl (fun _=>rfl) ?_
      rintro r A' ⟨rfl,rfl⟩
      by_cases h1 : subV m v = f
      · rw [decide_eq_true h1]
        simp only [zW,zX,zD,builtinA,isLeaf,const1,ustrA,simprocAttr,ti4,ti9,ti44,ti48,ti51,ti53,ti116,ti118,ti144,ca54,ca81,mi116,za53,cf,Tryz.results59]
        exact ⟨by simp [visC,hf,h1],_,by simp only [visS,hf]; rw [set_same hgm him]⟩
      · rw [decide_eq_false h1]
        simp only [zW,zX,zD,builtinA,isLeaf,const1,ustrA,simprocAttr,ti4,ti9,ti44,ti48,ti51,ti53,ti116,ti118,ti144,ca54,ca81,mi116,za53,cf,Tryz.results59]
        refine callO_intro (hW _) ?_
        rintro r A' ⟨rfl,hA⟩
        have hA:=hA.symm
        subst hA
        rw [show (decide (dep (subV m v) ≤ 8) && decide (cnt (subV m v) ≤ 63)) = fitI (.al [] (subV m v)) from rfl]
        cases h2 : fitI (.al [] (subV m v)) with
        | false =>
          simp only [zW,zX,zD,builtinA,isLeaf,const1,ustrA,simprocAttr,ti4,ti9,ti44,ti48,ti51,ti53,ti116,ti118,ti144,ca54,ca81,mi116,za53,cf,Tryz.results59]
          exact ⟨by simp [visC,hf,h1,h2],_,by simp only [visS,hf]; rw [set_same hgm him]⟩
        | true =>
          simp only [zW,zX,zD,builtinA,isLeaf,const1,ustrA,simprocAttr,ti4,ti9,ti44,ti48,ti51,ti53,ti116,ti118,ti144,ca54,ca81,mi116,za53,cf,Tryz.results59]
          have hgx : ∀ X,(A ++ (Box.cells [.bool (viK (.va n v)).1,.str (viK (.va n v)).2] :: X)).getD A.length .dead = .cells [.bool (viK (.va n v)).1,.str (viK (.va n v)).2]:=fun X=>by rw [Abs.getD_append_right (Nat.le_refl _)]; simp
          simp only [zW,zX,zD,builtinA,isLeaf,const1,ustrA,simprocAttr,ti4,ti9,ti44,ti48,ti51,ti53,ti116,ti118,ti144,ca54,ca81,mi116,za53,cf,Tryz.results59,hgx,show (viK (.va n v)).1 = true from rfl]
          exact ⟨by simp [visC,hf,h1,h2],_,by simp only [visS,hf]; rw [set_same hgm him]⟩
def offR : Option (Nat × Ky × Int) → AV
  | none=>.nili
  | some x=>.iface 75 (.agg [.int .i64 (x.1 : Nat),.bool x.2.1.1,.str x.2.1.2,.int .i64 x.2.2])
theorem rdN_ord {s : List SigI} {ws : List VI} (h : RdN s (some ws)) : ordB ws = true:=by
  obtain ⟨ys,h8,hr,hord,hn⟩:=h
  rw [(normL_fit hn).2]; exact ordB_norm hord
theorem knownB_new {hs ws : List VI} (ho : ordB ws = true) {i : Nat} (hi : i < ws.length) {n : List UInt8} (hy : ws.getD i vi0 = .ab n) : lookB ([],n) (knownB hs (ws.take i)) = none:=by
  refine lookB_none fun x hx e=>?_
  have h1:=(knownB_names hs _ x hx).2
  rw [e] at h1
  obtain ⟨z,hz,hzk⟩:=List.mem_map.1 h1
  obtain ⟨b,hb,rfl⟩:=List.mem_iff_getElem.1 hz
  simp only [List.length_take] at hb
  have hne:=ordB_ne ho (i:=b) (j:=i) (by omega) hi
  apply hne
  have e1 : ws.getD b vi0 = (ws.take i)[b]'(by simp; omega):=by simp [List.getD,show b < ws.length by omega]
  rw [e1,hzk,hy]; rfl
set_option maxRecDepth 100000 in
set_option maxHeartbeats 4000000 in
theorem impl_offers (a b : List SigI) (hs ws : List VI) (hra : RdN a (some hs)) (hrb : RdN b (some ws)) (A : List Box) :
    ACalls Tryz.prog 34 [.slice (vRows hs),.slice (vRows ws)] A (fun r A'=>r = offR (offC hs [] ws 0) ∧ ∃ B,A' = A ++ B):=by
  have hho:=rdN_vok hra
  have hwo:=rdN_vok hrb
  have hord:=rdN_ord hrb
  refine acalls_enterK (cf:=cf 30 [0,1,4,5,6,7,8,12,13,14,15,22]) foll Tryz.func34 Tryz.ntmps34 (by simp [cf]) ?_
  simp only [Tryz.f34,EnterK_some,zW,zX,zD,builtinA,isLeaf,const1,ustrA,simprocAttr,ti3,ti44,ti51,ti75,ti116,ti118,ca59,cf,Tryz.results34]
  simp only [zW,zX,zD,builtinA,isLeaf,const1,ustrA,simprocAttr,ti3,ti44,ti51,ti75,ti116,ti118,ca59,cf,Tryz.results34,vRows_length]
  refine aloop_intro [5,12,13,14] (fun e A'=>∃ i B,i ≤ ws.length ∧ (∀ k,k < i → visC hs (knownB hs (ws.take k)) (ws.getD k vi0) = 0) ∧ e = [(5,.ptr (A.length + 1) 0),(12,.slice (vRows ws)),(13,.int .i64 ws.length),(14,.int .i64 i)] ∧ A' = A ++ (.mapb (esB (knownB hs (ws.take i))) :: .cells [.slice (vRows hs),.map A.length] :: B)) (fun e _=>ws.length - (intOf (Abs.look 14 e)).toNat) ?_ ?_
  · simp only [zW,zX,zD,builtinA,isLeaf,const1,ustrA,simprocAttr,ti3,ti44,ti51,ti75,ti116,ti118,ca59,cf,Tryz.results34,vRows_length]
    exact ⟨0,[],by omega,fun k hk=>by omega,rfl,by simp [knownB,esB]⟩
  · rintro e A' ⟨i,B,hi,hk,rfl,rfl⟩
    by_cases hlt : i < ws.length
    · have d2 : decide ((i : Int) < (ws.length : Int)) = true:=by simp; omega
      have hlt' : 0 ≤ (i : Int) ∧ (i : Int) < (ws.length : Int):=by omega
      have hg:=vRows_getD hlt
      have hi1 : IntKind.i64.wrap ((i : Int) + 1) = ((i + 1 : Nat) : Int):=by rw [wrap64 (by omega) (by omega)]; rfl
      have hfrom:=offC_from hs ws _ i rfl (by omega) hk
      rw [vi_drop hlt,offC] at hfrom
      have hkn:=knownB_visS hs (ws.take i) (ws.getD i vi0)
      have hlen:=knownB_len hs (ws.take i)
      have hvis:=impl_visit a hs hra (ws.getD i vi0) (hwo.2 i hlt) (knownB hs (ws.take i)) (knownB_ok hho.2 _) (fun n hy=>knownB_new hord hlt hy) (A.length + 1) A.length (A ++ (.mapb (esB (knownB hs (ws.take i))) :: .cells [.slice (vRows hs),.map A.length] :: B)) (by simp) (by simp) (by rw [Abs.getD_append_right (by omega),show A.length + 1 - A.length = 1 by omega]; rfl) (by rw [Abs.getD_append_right (Nat.le_refl _)]; simp)
      have htk : ws.take (i + 1) = ws.take i ++ [ws.getD i vi0]:=by rw [List.take_add_one]; simp [List.getD,hlt]
      rw [← htk] at hkn
      generalize hyv : ws.getD i vi0 = y at *
      rw [vRow] at hg
      simp only [zW,zX,zD,builtinA,isLeaf,const1,ustrA,simprocAttr,ti3,ti44,ti51,ti75,ti116,ti118,ca59,cf,Tryz.results34,vRows_length,d2,hg]
      refine ⟨hlt',?_⟩
      refine callO_intro hvis ?_
      rintro r A' ⟨rfl,B',rfl⟩
      have hset : ∀ (X Y : Box) (rest : List Box),(A ++ X :: rest).set A.length Y = A ++ Y :: rest:=fun X Y rest=>by simp [List.set_append]
      rw [hset,← hkn]
      by_cases hc : visC hs (knownB hs (ws.take i)) y = 0
      · have hnx : ∀ k,k < i + 1 → visC hs (knownB hs (ws.take k)) (ws.getD k vi0) = 0:=fun k h=>by
          rcases Nat.lt_succ_iff_lt_or_eq.mp h with h1 | rfl
          · exact hk k h1
          · rw [hyv]; exact hc
        simp only [zW,zX,zD,builtinA,isLeaf,const1,ustrA,simprocAttr,ti3,ti44,ti51,ti75,ti116,ti118,ca59,cf,Tryz.results34,hc,hi1,LoopK_eq]
        refine ⟨⟨i + 1,B ++ B',by omega,hnx,rfl,by simp⟩,?_⟩
        simp only [intOf]; omega
      · rw [if_neg hc] at hfrom
        generalize visC hs (knownB hs (ws.take i)) y = c at *
        simp only [zW,zX,zD,builtinA,isLeaf,const1,ustrA,simprocAttr,ti3,ti44,ti51,ti75,ti116,ti118,ca59,cf,Tryz.results34,decide_eq_false hc,Bool.not_false]
        refine wpO_invoke _ _ _ _ _ _ _ _ _ _ _ _ _ _ _ _ ?_
        simp only [zW,zX,zD,builtinA,isLeaf,const1,ustrA,simprocAttr,ti3,ti44,ti51,ti75,ti116,ti118,ca59,cf,Tryz.results34]
        refine methI_invK (metI3 (by kernel_rfl) (by kernel_rfl) (by kernel_rfl) (by kernel_rfl) (by kernel_rfl) (by kernel_rfl)) (keyI y _) rfl (fun _=>rfl) ?_
        rintro r A' ⟨rfl,rfl⟩
        simp only [kE]
        simp only [zW,zX,zD,builtinA,isLeaf,const1,ustrA,simprocAttr,ti3,ti44,ti51,ti75,ti116,ti118,ca59,cf,Tryz.results34]
        rw [hfrom]
        exact ⟨rfl,_,rfl⟩
    · have d2 : decide ((i : Int) < (ws.length : Int)) = false:=by simp; omega
      have e : i = ws.length:=by omega
      subst e
      rw [offC_from hs ws _ ws.length rfl (Nat.le_refl _) hk,List.drop_length,offC]
      simp only [zW,zX,zD,builtinA,isLeaf,const1,ustrA,simprocAttr,ti3,ti44,ti51,ti75,ti116,ti118,ca59,cf,Tryz.results34,vRows_length,d2]
      exact ⟨rfl,_,rfl⟩
theorem frz_two {A B : List Box} {j k s1 s2 : Nat} {r1 r2 : List (List AV)} (hj : j < B.length) (hk : k < B.length) (h1 : B.getD j .dead = .row 1 r1 s1) (h2 : B.getD k .dead = .row 1 r2 s2) :
    ∃ C,frzs [.own (A.length + j),.own (A.length + k)] (A ++ B) = some ([.slice r1,.slice r2],A ++ C) ∧ C.length = B.length ∧ ∀ n,n ≠ j → n ≠ k → C.getD n .dead = B.getD n .dead:=by
  have g1 : (A ++ B).getD (A.length + j) .dead = .row 1 r1 s1:=by rw [Abs.getD_append_right (by omega),show A.length + j - A.length = j by omega]; exact h1
  have e1 : ∀ X : Box,(A ++ B).set (A.length + j) X = A ++ B.set j X:=fun X=>by simp [List.set_append]
  have e2 : ∀ (C : List Box) (X : Box),(A ++ C).set (A.length + k) X = A ++ C.set k X:=fun C X=>by simp [List.set_append]
  have g2 : ∃ s,(A ++ B.set j (.row 1 r1 r1.length)).getD (A.length + k) .dead = .row 1 r2 s:=by
    rw [Abs.getD_append_right (by omega),show A.length + k - A.length = k by omega]
    by_cases h : j = k
    · subst h
      rw [h1] at h2
      injection h2 with _ h3 _
      rw [getD_set_self hj,h3]; exact ⟨_,rfl⟩
    · rw [getD_set_ne' h]; exact ⟨_,h2⟩
  obtain ⟨s,g2⟩:=g2
  refine ⟨(B.set j (.row 1 r1 r1.length)).set k (.row 1 r2 r2.length),?_,by simp,fun n n1 n2=>by rw [getD_set_ne' (Ne.symm n2),getD_set_ne' (Ne.symm n1)]⟩
  simp only [frzs,frzC,frz1,g1,e1,g2,e2]
set_option maxRecDepth 100000 in
set_option maxHeartbeats 4000000 in
theorem impl_MatchSig (a b : List SigI) (ha : a.length ≤ 1048576) (hoa : ∀ x ∈ a,x.Ok ∧ sz x.typ ≤ 1048576) (hb : b.length ≤ 1048576) (hob : ∀ x ∈ b,x.Ok ∧ sz x.typ ≤ 1048576) (A : List Box) :
    ACalls Tryz.prog 12 [.slice (sEs a),.slice (sEs b)] A (fun r A'=>∃ c p,MtIs a b c p ∧ r = .int .i64 c ∧ A' = A):=by
  refine acalls_enter (cf:=cf 26 [0,1,4,5,6,7,8,17,23]) foll Tryz.func12 Tryz.ntmps12 (by simp [cf]) ?_
  simp only [Tryz.f12,EnterK_some,zW,zX,zD,builtinA,isLeaf,const1,ustrA,simprocAttr,ti3,ti75,ti80,ca32,ca33,ca34,cf,Tryz.results12]
  refine callO_intro (impl_readMatch a b ha hoa hb hob _) ?_
  rintro r A' ⟨B,rfl,⟨hs,ws,j,k,hra,hrb,rfl,hj,hk,gj,gk⟩ | ⟨c,hc,hn,rfl⟩⟩
  · simp only [zW,zX,zD,builtinA,isLeaf,const1,ustrA,simprocAttr,ti3,ti75,ti80,ca32,ca33,ca34,cf,Tryz.results12]
    obtain ⟨C,f1,f2,f3⟩:=frz_two (A:=A) (B:=B ++ [.cells [.int .i64 0,.bool false,.str [],.int .i64 0]]) (j:=j) (k:=k) (by simp; omega) (by simp; omega) (by rw [Abs.getD_append_left hj]; exact gj) (by rw [Abs.getD_append_left hk]; exact gk)
    refine callK_intro f1 (impl_offers a b hs ws hra hrb _) ?_ rfl
    rintro r A' ⟨rfl,D,rfl⟩
    have hM : MtIs a b (mcO (offC hs [] ws 0)) (mpO (offC hs [] ws 0)):=.inl ⟨hs,ws,hra,hrb,rfl,rfl⟩
    have hcl:=offC_code hs ws [] 0
    have hbx : (A ++ (C ++ D)).getD (A.length + B.length) .dead = .cells [.int .i64 0,.bool false,.str [],.int .i64 0]:=by
      simp only [List.length_append,List.length_singleton] at f2
      rw [Abs.getD_append_right (by omega),show A.length + B.length - A.length = B.length by omega,Abs.getD_append_left (by omega),f3 _ (by omega) (by omega),Abs.getD_append_right (Nat.le_refl _)]; simp
    cases ho : offC hs [] ws 0 with
    | none =>
      simp only [offR]
      simp only [zW,zX,zD,builtinA,isLeaf,const1,ustrA,simprocAttr,ti3,ti75,ti80,ca32,ca33,ca34,cf,Tryz.results12]
      refine callO_intro (As_nil _ _) ?_
      rintro r A' ⟨rfl,rfl⟩
      simp only [zW,zX,zD,builtinA,isLeaf,const1,ustrA,simprocAttr,ti3,ti75,ti80,ca32,ca33,ca34,cf,Tryz.results12]
      rw [ho] at hM
      exact ⟨_,_,hM,rfl⟩
    | some x =>
      obtain ⟨i,⟨q1,q2⟩,c⟩:=x
      have hil : A.length + B.length < (A ++ (C ++ D)).length:=by simp at f2 ⊢; omega
      have hA:=As_hit (A ++ (C ++ D)) (A.length + B.length) (.int .i64 (i : Nat)) (.bool q1) (.str q2) (.int .i64 c) _ hil hbx rfl
      have hsx : ∀ X : Box,(A ++ (C ++ D)).set (A.length + B.length) X = A ++ (C ++ D).set B.length X:=fun X=>by simp [List.set_append]
      have hgx : ∀ X : Box,(A ++ (C ++ D).set B.length X).getD (A.length + B.length) .dead = X:=fun X=>by
        rw [← hsx,getD_set_self hil]
      rw [hsx] at hA
      simp only [offR]
      simp only [zW,zX,zD,builtinA,isLeaf,const1,ustrA,simprocAttr,ti3,ti75,ti80,ca32,ca33,ca34,cf,Tryz.results12]
      refine callO_intro hA ?_
      rintro r A' ⟨rfl,rfl⟩
      rw [ho] at hM
      simp only [zW,zX,zD,builtinA,isLeaf,const1,ustrA,simprocAttr,ti3,ti75,ti80,ca32,ca33,ca34,cf,Tryz.results12,hgx]
      exact ⟨_,_,hM,rfl⟩
  · have hc0 : decide (c = 0) = false:=decide_eq_false (by rcases hc with ⟨h,_⟩ | ⟨h,_⟩ <;> omega)
    have hM : MtIs a b c (0,false):=.inr ⟨hn,rfl,by
      rcases hc with ⟨h,h1⟩ | ⟨h,h1,h2⟩
      · rw [h]; rcases h1 with h1 | h1 <;> simp [h1]
      · rw [h]; simp [h1,h2]⟩
    simp only [zW,zX,zD,builtinA,isLeaf,const1,ustrA,simprocAttr,ti3,ti75,ti80,ca32,ca33,ca34,cf,Tryz.results12,hc0,Bool.not_false]
    exact ⟨_,_,hM,rfl⟩
theorem impl_MatchSigF {a b : List SigI} {c : Int} {p : Nat × Bool} (hM : MtIs a b c p) (ha : a.length ≤ 1048576) (hoa : ∀ x ∈ a,x.Ok ∧ sz x.typ ≤ 1048576) (hb : b.length ≤ 1048576) (hob : ∀ x ∈ b,x.Ok ∧ sz x.typ ≤ 1048576) (A : List Box) :
    ACalls Tryz.prog 12 [.slice (sEs a),.slice (sEs b)] A (fun r A'=>r = .int .i64 c ∧ A' = A) :=
  (impl_MatchSig a b ha hoa hb hob A).mono fun r A' h=>by
    obtain ⟨c',p',h1,h2,h3⟩:=h
    rw [(mtIs_one h1 hM).1] at h2
    exact ⟨h2,h3⟩
end Go.Proofs.YtejbjgmgdbcddaaGreatDoor
/- What the row's condition on the library's one laid variable gives a walk, and a world that meets it. -/
set_option linter.unusedVariables false
set_option linter.unusedSimpArgs false
namespace Go.Proofs.YtejbjgmgdbcddaaGreatDoor
open Go.Abs Go.RowKit Go.ChangeShapes Go.WideShapes
abbrev laidL : List (String × DataW Unit):=[("errors.errorType", Rows.laid_errors_errorType)]
theorem laid_et : Tryz.prog.globalNamed "errors.errorType" = some 0:=by kernel_rfl
theorem laid_rt : (Tryz.prog.cutTypes.find? (·.1 == "internal/reflectlite.rtype")).map (·.2) = some 150:=by kernel_rfl
theorem laid_one : ((List.range 242).filter fun t=>Tryz.prog.rowNamed t [101,114,114,111,114]) = [78]:=by kernel_rfl
theorem laid_size : Tryz.prog.types.size = 242:=by kernel_rfl
theorem gv_of_laid {W : World} (h : laidMetH Tryz.prog laidL W) : GV W W.heap.size:=by
  have h' : laidMet Tryz.prog [] W ∧ handlesMet Tryz.prog laidL W:=h
  obtain ⟨name,u,ty,e1,e2,e3,e4,e5⟩:=h'.2 _ (List.mem_singleton.2 rfl)
  have en : name = [101,114,114,111,114]:=(Option.some.inj e1).symm
  subst en
  obtain rfl:=Option.some.inj (laid_rt.symm.trans e2)
  have hm : ty ∈ (List.range 242).filter fun t=>Tryz.prog.rowNamed t [101,114,114,111,114]:=List.mem_filter.2 ⟨List.mem_range.2 (by rw [← laid_size]; exact e3),e4⟩
  rw [laid_one] at hm
  obtain rfl:=List.mem_singleton.1 hm
  have hh : typeHandle Tryz.prog 78 = .pointer (some ⟨1,78,none⟩):=by kernel_rfl
  rw [hh] at e5
  have hc:=World.var?_cell laid_et e5 0
  intro v hv
  cases hv
  have hc2 : W.cell? ⟨0,0,none⟩ = some (.iface 150 (.agg #[.pointer (some ⟨1,78,none⟩)])):=by simpa using hc
  refine ⟨?_,hc2⟩
  rcases Nat.eq_zero_or_pos W.heap.size with h0 | h0
  · simp [World.cell?,h0] at hc2
  · exact h0
noncomputable def laidWorld (os : Os) : World :=
  let w0:=World.holding Tryz.prog os ⟨#[],#[],[]⟩
  { w0 with heap:=w0.heap.modify 0 fun
      | .cells _ t frozen=>.cells #[.iface 150 (.agg #[.pointer (some ⟨1,78,none⟩)])] t frozen
      | o=>o }
theorem laidWorld_met (os : Os) (args : Array Value) : laidMetH Tryz.prog laidL ((laidWorld os).forCall (fun _ _=>0) ⟨#[],args,[]⟩).memory :=
  laidMetH_of_parts (laidMet_nil _ _) (by kernel_rfl)
end Go.Proofs.YtejbjgmgdbcddaaGreatDoor
