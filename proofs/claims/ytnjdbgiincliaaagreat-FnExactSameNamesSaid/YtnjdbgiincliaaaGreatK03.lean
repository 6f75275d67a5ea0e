/- TypesMeth, LawTy, Exprs. -/
import Derived.Test.YtnjdbgiincliaaaGreatK02
import Derived.Test.YtnjdbgiincliaaaGreatAbsW3
/- The methods that measure a valid type, and the functions that read one. -/
set_option linter.unusedVariables false
set_option linter.unusedSimpArgs false
namespace Go.Proofs.YtnjdbgiincliaaaGreat
open Go.Abs
def DepM (v : VT) : Prop:=∀ A,ACalls Tryz.prog ((pickF 428 435 357) v) [vX v] A (fun r A'=>r = .int .i64 (dep v) ∧ A' = A)
def CntM (v : VT) : Prop:=∀ A,ACalls Tryz.prog ((pickF 427 434 356) v) [vX v] A (fun r A'=>r = .int .i64 (cnt v) ∧ A' = A)
set_option maxRecDepth 100000 in
theorem num_depth : DepM .num:=fun A=>by
  show ACalls Tryz.prog 428 _ _ _
  rw [vX]
  refine acalls_enter (cf:=cf 3 [0,2]) foll Tryz.func428 Tryz.ntmps428 (by simp [cf]) ?_
  simp only [Tryz.f428,EnterK_some,zW,zX,zD,builtinA,isLeaf,const1,ustrA,simprocAttr,ti369,cf,Tryz.results428]
  simp [dep]
set_option maxRecDepth 100000 in
theorem name_depth (m n : List UInt8) : DepM (.nm m n):=fun A=>by
  show ACalls Tryz.prog 357 _ _ _
  rw [vX]
  refine acalls_enter (cf:=cf 3 [0,2]) foll Tryz.func357 Tryz.ntmps357 (by simp [cf]) ?_
  simp only [Tryz.f357,EnterK_some,zW,zX,zD,builtinA,isLeaf,const1,ustrA,simprocAttr,ti180,cf,Tryz.results357]
  simp [dep]
set_option maxRecDepth 100000 in
theorem num_count : CntM .num:=fun A=>by
  show ACalls Tryz.prog 427 _ _ _
  rw [vX]
  refine acalls_enter (cf:=cf 3 [0,2]) foll Tryz.func427 Tryz.ntmps427 (by simp [cf]) ?_
  simp only [Tryz.f427,EnterK_some,zW,zX,zD,builtinA,isLeaf,const1,ustrA,simprocAttr,ti369,cf,Tryz.results427]
  simp [cnt]
set_option maxRecDepth 100000 in
theorem name_count (m n : List UInt8) : CntM (.nm m n):=fun A=>by
  show ACalls Tryz.prog 356 _ _ _
  rw [vX]
  refine acalls_enter (cf:=cf 3 [0,2]) foll Tryz.func356 Tryz.ntmps356 (by simp [cf]) ?_
  simp only [Tryz.f356,EnterK_some,zW,zX,zD,builtinA,isLeaf,const1,ustrA,simprocAttr,ti180,cf,Tryz.results356]
  simp [cnt]
set_option maxRecDepth 100000 in
theorem fun_depth (a b : VT) (ha : DepM a) (hb : DepM b) (hd : dep a < 1000 ∧ dep b < 1000) : DepM (.fn a b):=fun A=>by
  show ACalls Tryz.prog 435 _ _ _
  rw [vX]
  refine acalls_enter (cf:=cf 11 [0,1,2]) foll Tryz.func435 Tryz.ntmps435 (by simp [cf]) ?_
  simp only [Tryz.f435,EnterK_some,zW,zX,zD,builtinA,isLeaf,const1,ustrA,simprocAttr,ti3,ti175,ti422,cf,Tryz.results435]
  refine .inl ⟨by kernel_rfl,by kernel_rfl,?_⟩
  refine wpD_invoke _ _ _ _ _ _ _ _ _ _ _ _ _ _ _ _ ?_
  simp only [zW,zX,zD,builtinA,isLeaf,const1,ustrA,simprocAttr,ti3,ti175,ti422,cf,Tryz.results435]
  refine meth_invD (met3 (by kernel_rfl) (by kernel_rfl) (by kernel_rfl) (by kernel_rfl) (by kernel_rfl) (by kernel_rfl)) (ha _) rfl (fun _=>rfl) ?_
  simp only [zW,zX,zD,builtinA,isLeaf,const1,ustrA,simprocAttr,ti3,ti175,ti422,cf,Tryz.results435]
  refine wpD_invoke _ _ _ _ _ _ _ _ _ _ _ _ _ _ _ _ ?_
  simp only [zW,zX,zD,builtinA,isLeaf,const1,ustrA,simprocAttr,ti3,ti175,ti422,cf,Tryz.results435]
  refine meth_invD (met3 (by kernel_rfl) (by kernel_rfl) (by kernel_rfl) (by kernel_rfl) (by kernel_rfl) (by kernel_rfl)) (hb _) rfl (fun _=>rfl) ?_
  simp only [zW,zX,zD,builtinA,isLeaf,const1,ustrA,simprocAttr,ti3,ti175,ti422,cf,Tryz.results435]
  rw [wrap64 (by split <;> omega) (by split <;> omega),dep]
  congr 1
  split <;> omega
set_option maxRecDepth 100000 in
theorem fun_count (a b : VT) (ha : CntM a) (hb : CntM b) (hd : cnt a < 100000 ∧ cnt b < 100000) : CntM (.fn a b):=fun A=>by
  show ACalls Tryz.prog 434 _ _ _
  rw [vX]
  refine acalls_enter (cf:=cf 11 [0,1,2]) foll Tryz.func434 Tryz.ntmps434 (by simp [cf]) ?_
  simp only [Tryz.f434,EnterK_some,zW,zX,zD,builtinA,isLeaf,const1,ustrA,simprocAttr,ti3,ti175,ti422,cf,Tryz.results434]
  refine .inl ⟨by kernel_rfl,by kernel_rfl,?_⟩
  refine wpD_invoke _ _ _ _ _ _ _ _ _ _ _ _ _ _ _ _ ?_
  simp only [zW,zX,zD,builtinA,isLeaf,const1,ustrA,simprocAttr,ti3,ti175,ti422,cf,Tryz.results434]
  refine meth_invD (met3 (by kernel_rfl) (by kernel_rfl) (by kernel_rfl) (by kernel_rfl) (by kernel_rfl) (by kernel_rfl)) (ha _) rfl (fun _=>rfl) ?_
  simp only [zW,zX,zD,builtinA,isLeaf,const1,ustrA,simprocAttr,ti3,ti175,ti422,cf,Tryz.results434]
  refine wpD_invoke _ _ _ _ _ _ _ _ _ _ _ _ _ _ _ _ ?_
  simp only [zW,zX,zD,builtinA,isLeaf,const1,ustrA,simprocAttr,ti3,ti175,ti422,cf,Tryz.results434]
  refine meth_invD (met3 (by kernel_rfl) (by kernel_rfl) (by kernel_rfl) (by kernel_rfl) (by kernel_rfl) (by kernel_rfl)) (hb _) rfl (fun _=>rfl) ?_
  simp only [zW,zX,zD,builtinA,isLeaf,const1,ustrA,simprocAttr,ti3,ti175,ti422,cf,Tryz.results434]
  have h1 : IntKind.i64.wrap (1 + (cnt a : Int)) = 1 + cnt a:=wrap64 (by omega) (by omega)
  rw [h1,wrap64 (by omega) (by omega),cnt]
  congr 1
theorem depM : ∀ v,dep v ≤ 9 → DepM v
  | .num,_=>num_depth
  | .nm m n,_=>name_depth m n
  | .fn a b,h=>by
    rw [dep] at h
    exact fun_depth a b (depM a (by omega)) (depM b (by omega)) (by omega)
theorem cntM : ∀ v,cnt v < 100000 → CntM v
  | .num,_=>num_count
  | .nm m n,_=>name_count m n
  | .fn a b,h=>by
    rw [cnt] at h
    exact fun_count a b (cntM a (by omega)) (cntM b (by omega)) (by omega)
set_option maxRecDepth 100000 in
theorem impl_withinLimits (v : VT) (hd : dep v ≤ 9) (A : List Box) : ACalls Tryz.prog 199 [.iface (vT v) (vX v)] A (fun r A'=>r = .bool (decide (dep v ≤ 8) && decide (cnt v ≤ 63)) ∧ A' = A):=by
  have hc:=cnt_lt hd
  refine acalls_enter (cf:=cf 11 [0,2]) foll Tryz.func199 Tryz.ntmps199 (by simp [cf]) ?_
  simp only [Tryz.f199,EnterK_some,zW,zX,zD,builtinA,isLeaf,const1,ustrA,simprocAttr,ti3,cf,Tryz.results199]
  refine wpO_invoke _ _ _ _ _ _ _ _ _ _ _ _ _ _ _ _ ?_
  simp only [zW,zX,zD,builtinA,isLeaf,const1,ustrA,simprocAttr,ti3,cf,Tryz.results199]
  refine meth_invK (met3 (by kernel_rfl) (by kernel_rfl) (by kernel_rfl) (by kernel_rfl) (by kernel_rfl) (by kernel_rfl)) (depM v hd _) rfl (fun _=>rfl) ?_
  rintro v A' ⟨rfl,rfl⟩
  simp only [zW,zX,zD,builtinA,isLeaf,const1,ustrA,simprocAttr,ti3,cf,Tryz.results199]
  by_cases h8 : dep v ≤ 8
  · have e8 : decide ((dep v : Int) ≤ 8) = true:=decide_eq_true (by omega)
    rw [decide_eq_true h8]
    simp only [zW,zX,zD,builtinA,isLeaf,const1,ustrA,simprocAttr,ti3,cf,Tryz.results199,e8]
    refine wpO_invoke _ _ _ _ _ _ _ _ _ _ _ _ _ _ _ _ ?_
    simp only [zW,zX,zD,builtinA,isLeaf,const1,ustrA,simprocAttr,ti3,cf,Tryz.results199]
    refine meth_invK (met3 (by kernel_rfl) (by kernel_rfl) (by kernel_rfl) (by kernel_rfl) (by kernel_rfl) (by kernel_rfl)) (cntM v (by omega) _) rfl (fun _=>rfl) ?_
    rintro v A' ⟨rfl,rfl⟩
    simp only [zW,zX,zD,builtinA,isLeaf,const1,ustrA,simprocAttr,ti3,cf,Tryz.results199]
    simp
    omega
  · have e8 : decide ((dep v : Int) ≤ 8) = false:=decide_eq_false (by omega)
    rw [decide_eq_false h8]
    simp only [zW,zX,zD,builtinA,isLeaf,const1,ustrA,simprocAttr,ti3,cf,Tryz.results199,e8]
set_option maxRecDepth 100000 in
theorem impl_readType (τ : Ty) (A : List Box) : ACalls Tryz.prog 111 [.agg (enc τ)] A (fun r A'=>((∃ v,τ = toTy v ∧ VOk v ∧ r = .tuple [.iface (vT v) (vX v),.bool true]) ∨ (validB τ = false ∧ r = .tuple [.nili,.bool false])) ∧ A' = A):=by
  refine acalls_enter (cf:=cf 19 [0,1,2,3,4,5,17]) foll Tryz.func111 Tryz.ntmps111 (by simp [cf]) ?_
  simp only [Tryz.f111,EnterK_some,zW,zX,zD,builtinA,isLeaf,const1,ustrA,simprocAttr,ti36,ca198,ca199,cf,Tryz.results111]
  simp only [enc_take]
  refine ⟨by rw [enc_length]; omega,?_⟩
  refine callK_intro (by simp only [zW,zX,zD,builtinA,isLeaf,const1,ustrA,simprocAttr,frzL_enc,Option.map_some]; rfl) (impl_readNode τ _ _ (by omega) (by omega)) ?_ rfl; rintro v A' ⟨rfl,rfl⟩
  cases hr : (readO τ 1).2 with
  | false =>
    have hv : validB τ = false:=by
      rcases valid_cases τ with ⟨v,rfl,hv⟩ | h
      · have:=hv.dep
        rw [readO_toTy v 1 hv.ok (by omega)] at hr
        cases hr
      · exact h
    simp only [zW,zX,zD,builtinA,isLeaf,const1,ustrA,simprocAttr,ti36,ca198,ca199,cf,Tryz.results111]
    exact .inr hv
  | true =>
    obtain ⟨v,rfl,hv,hd⟩:=readO_of τ 1 hr
    have hro:=readO_toTy v 1 hv hd
    have hcl:=cnt_lt (v:=v) (k:=9) (by omega)
    rw [hro]
    simp only [ifA]
    simp only [zW,zX,zD,builtinA,isLeaf,const1,ustrA,simprocAttr,ti36,ca198,ca199,cf,Tryz.results111]
    refine callK_intro (by simp only [zW,zX,zD,builtinA,isLeaf,const1,ustrA,simprocAttr]; rfl) (impl_withinLimits v (by omega) _) ?_ rfl; rintro v A' ⟨rfl,rfl⟩
    by_cases hc : cnt v ≤ 63
    · have h8 : dep v ≤ 8:=by omega
      rw [decide_eq_true hc,decide_eq_true h8]
      simp only [zW,zX,zD,builtinA,isLeaf,const1,ustrA,simprocAttr,ti36,ca198,ca199,cf,Tryz.results111]
      exact .inl ⟨v,rfl,⟨hv,h8,hc⟩,rfl⟩
    · have hn : validB (toTy v) = false:=by
        rw [validB,count_toTy,decide_eq_false hc,Bool.and_false]
      rw [decide_eq_false hc]
      simp only [zW,zX,zD,builtinA,isLeaf,const1,ustrA,simprocAttr,ti36,ca198,ca199,cf,Tryz.results111]
      exact .inr hn
end Go.Proofs.YtnjdbgiincliaaaGreat
/- From a law's argument of the recursive type to a tree. -/
set_option linter.unusedVariables false
set_option linter.unusedSimpArgs false
namespace Go.Proofs.YtnjdbgiincliaaaGreat
open Go.Abs Go.RowKit Go.ChangeShapes Go.WideShapes Go.ChangeAt Go.ChangeMaps
theorem cells_int {P : Program} {t : TypeId} {k : IntKind} {cz : List AV} (hu : P.underlying t = some (.int k)) (h : Cells P t cz) : ∃ n,cz = [.int k n]:=by
  cases h with
  | int h1 h2=>rw [hu] at h1; injection h1 with h1; injection h1 with h1; subst h1; exact ⟨_,rfl⟩
  | bool h1=>rw [hu] at h1; injection h1 with h1; cases h1
  | str h1=>rw [hu] at h1; injection h1 with h1; cases h1
  | slice h1=>rw [hu] at h1; injection h1 with h1; cases h1
  | struct h1=>rw [hu] at h1; injection h1 with h1; cases h1
theorem cells_str {P : Program} {t : TypeId} {cz : List AV} (hu : P.underlying t = some .string) (h : Cells P t cz) : ∃ s,cz = [.str s] ∧ s.length ≤ maxLen:=by
  cases h with
  | int h1 h2=>rw [hu] at h1; injection h1 with h1; cases h1
  | bool h1=>rw [hu] at h1; injection h1 with h1; cases h1
  | str h1 h2=>exact ⟨_,rfl,h2⟩
  | slice h1=>rw [hu] at h1; injection h1 with h1; cases h1
  | struct h1=>rw [hu] at h1; injection h1 with h1; cases h1
theorem list_enc {α : Type} {f : α → List AV} {Q : α → Prop} : ∀ {rows : List (List AV)},(∀ r ∈ rows,∃ x,r = f x ∧ Q x) → ∃ l : List α,rows = l.map f ∧ l.length = rows.length ∧ ∀ x ∈ l,Q x
  | [],_=>⟨[],rfl,rfl,by simp⟩
  | r :: rows,h=>by
    obtain ⟨x,hx,hq⟩:=h r (by simp)
    obtain ⟨l,h1,h2,h3⟩:=list_enc (rows:=rows) fun r hr=>h r (by simp [hr])
    exact ⟨x :: l,by simp [hx,h1],by simp [h2],by simpa using ⟨hq,h3⟩⟩
theorem four {α : Type} {l : List α} (h : l.length = 4) : ∃ a b c d,l = [a,b,c,d]:=by
  match l,h with
  | [a,b,c,d],_=>exact ⟨a,b,c,d,rfl⟩
theorem c3 : Tryz.prog.cellsOf 3 = 1:=by kernel_rfl
theorem c9 : Tryz.prog.cellsOf 9 = 1:=by kernel_rfl
theorem cS : Tryz.prog.cellsOf 23 = 1:=by kernel_rfl
theorem cT : Tryz.prog.cellsOf 25 = 4:=by kernel_rfl
theorem ty_of {t : TypeId} {cz : List AV} (h : Cells Tryz.prog t cz) :
    (t = 25 → ∃ τ,cz = encA τ ∧ τ.Ok) ∧ (t = 23 → ∃ ks,cz = [.aslice (encAs ks)] ∧ ks.length < 2 ^ 63 ∧ ∀ k ∈ ks,k.Ok):=by
  induction h with
  | int h1 h2=>exact ⟨fun e=>(by subst e; rw [Tryz.underlying25] at h1; injection h1 with h1; cases h1),fun e=>(by subst e; rw [Tryz.underlying23] at h1; injection h1 with h1; cases h1)⟩
  | bool h1=>exact ⟨fun e=>(by subst e; rw [Tryz.underlying25] at h1; injection h1 with h1; cases h1),fun e=>(by subst e; rw [Tryz.underlying23] at h1; injection h1 with h1; cases h1)⟩
  | str h1=>exact ⟨fun e=>(by subst e; rw [Tryz.underlying25] at h1; injection h1 with h1; cases h1),fun e=>(by subst e; rw [Tryz.underlying23] at h1; injection h1 with h1; cases h1)⟩
  | slice h1 h2 h3 ih =>
    refine ⟨fun e=>(by subst e; rw [Tryz.underlying25] at h1; injection h1 with h1; cases h1),fun e=>?_⟩
    subst e
    rw [Tryz.underlying23] at h1
    injection h1 with h1
    injection h1 with h1
    obtain ⟨ks,k1,k2,k3⟩:=list_enc (f:=encA) (Q:=Ty.Ok) fun r hr=>(ih r hr).1 h1.symm
    have hm : maxLen = 2 ^ 63 - 1:=rfl
    refine ⟨ks,by rw [encAs_map,k1],?_,k3⟩
    rw [k2]
    omega
  | @struct t fs cs h1 h2 h3 ih =>
    refine ⟨fun e=>?_,fun e=>(by subst e; rw [Tryz.underlying23] at h1; injection h1 with h1; cases h1)⟩
    subst e
    rw [Tryz.underlying25] at h1
    injection h1 with h1
    injection h1 with h1
    subst h1
    rw [cT] at h2
    obtain ⟨a,b,c,d,rfl⟩:=four h2
    simp only [List.mem_cons,List.not_mem_nil,or_false,forall_eq_or_imp,forall_eq,c3,c9,cS,List.drop_zero,List.drop_succ_cons,List.take_succ_cons,List.take_zero] at h3 ih
    obtain ⟨n,e1⟩:=cells_int Tryz.underlying3 h3.1
    obtain ⟨m,e2,l2⟩:=cells_str Tryz.underlying9 h3.2.1
    obtain ⟨s,e3,l3⟩:=cells_str Tryz.underlying9 h3.2.2.1
    obtain ⟨ks,e4,l4,l5⟩:=ih.2.2.2.2 trivial
    injection e1 with e1; injection e2 with e2; injection e3 with e3; injection e4 with e4
    subst e1; subst e2; subst e3; subst e4
    have hm : maxLen = 2 ^ 63 - 1:=rfl
    exact ⟨.mk n m s ks,rfl,.mk (by omega) (by omega) l4 l5⟩
section
variable {H : Type} {enc' : TypeId × Value → H} {W : World}
theorem opened_agg {P : Program} {t : TypeId} {xs : Array Value} {cz : List AV} (h : Opened P W t xs.toList cz) : RV (Abs.start W) W (.agg cz) (.agg xs):=by
  have hl : xs.size = cz.length:=by rw [h.len]; simp
  refine .agg cz xs hl (fun x hx=>?_) (fun i hi=>?_)
  · obtain ⟨i,hi,rfl⟩:=Array.mem_iff_getElem.1 hx
    have:=h.rel i (by omega)
    have e : xs.toList.getD i undef = xs[i]:=by simp [List.getD,hi]
    rw [e] at this
    exact this.cell (leaf_cell (h.leaf _ (Abs.getD_mem (l:=cz) (by omega))))
  · have:=h.rel i hi
    have e : xs.toList.getD i undef = xs.getD i undef:=by
      have : i < xs.size:=by omega
      simp [List.getD,Array.getD,this]
    rwa [e] at this
end
end Go.Proofs.YtnjdbgiincliaaaGreat
/- Expressions as trees, and what the laws' helpers do with them. -/
set_option linter.unusedVariables false
set_option linter.unusedSimpArgs false
namespace Go.Proofs.YtnjdbgiincliaaaGreat
open Go.Abs
inductive Ex where
  | mk (kind n : Int) (mod name : List UInt8) (arg : Ty) (kids : List Ex)
theorem Ex.ind {M : Ex → Prop} (h : ∀ k i m n t ks,(∀ x ∈ ks,M x) → M (.mk k i m n t ks)) : ∀ x,M x
  | .mk k i m n t ks=>h k i m n t ks fun x hx=>Ex.ind h x
termination_by x=>SizeOf.sizeOf x
decreasing_by
  have:=List.sizeOf_lt_of_mem hx
  simp only [Ex.mk.sizeOf_spec]
  omega
theorem encT4 (t : Ty) : enc t = [.int .i64 t.kind,.str t.mod,.str t.name,.slice (encs t.kids)]:=by cases t; rw [enc]; rfl
theorem encTA4 (t : Ty) : encA t = [.int .i64 t.kind,.str t.mod,.str t.name,.aslice (encAs t.kids)]:=by cases t; rw [encA]; rfl
mutual
def encX : Ex → List AV
  | .mk k i m n t ks=>[.int .i64 k,.int .i64 i,.str m,.str n,.int .i64 t.kind,.str t.mod,.str t.name,.slice (encs t.kids),.slice (encXs ks)]
def encXs : List Ex → List (List AV)
  | []=>[]
  | x :: l=>encX x :: encXs l
end
mutual
def encXA : Ex → List AV
  | .mk k i m n t ks=>[.int .i64 k,.int .i64 i,.str m,.str n,.int .i64 t.kind,.str t.mod,.str t.name,.aslice (encAs t.kids),.aslice (encXAs ks)]
def encXAs : List Ex → List (List AV)
  | []=>[]
  | x :: l=>encXA x :: encXAs l
end
mutual
def szX : Ex → Nat
  | .mk _ _ m n t ks=>m.length + n.length + sz t + (ks.length + szXs ks)
def szXs : List Ex → Nat
  | []=>0
  | x :: l=>szX x + szXs l
end
inductive Ex.Ok : Ex → Prop
  | mk {k i : Int} {m n : List UInt8} {t : Ty} {ks : List Ex} : m.length < 2 ^ 63 → n.length < 2 ^ 63 → t.Ok → ks.length < 2 ^ 63 → (∀ x ∈ ks,Ex.Ok x) → Ex.Ok (.mk k i m n t ks)
def ex0 : Ex:=.mk 0 0 [] [] ty0 []
def zex : List AV:=[.int .i64 0,.int .i64 0,.str [],.str [],.int .i64 0,.str [],.str [],.slice [],.slice []]
theorem encXs_map : ∀ l,encXs l = l.map encX
  | []=>rfl
  | t :: l=>by rw [encXs,encXs_map l]; rfl
theorem encXs_length (l : List Ex) : (encXs l).length = l.length:=by rw [encXs_map]; simp
theorem encXs_getD {l : List Ex} {i : Nat} (h : i < l.length) : (encXs l).getD i [] = encX (l.getD i ex0):=by
  rw [encXs_map]; simp [List.getD,h]
theorem encX_length (t : Ex) : (encX t).length = 9:=by cases t; rw [encX]; rfl
theorem encX_take (t : Ex) : List.take 9 (encX t) = encX t:=by cases t; rw [encX]; rfl
theorem xrow_step {l : List Ex} {i : Nat} (h : i < l.length) : (encXs (l.take i) ++ List.replicate (l.length - i) zex).set i (encX (l.getD i ex0) ++ List.drop 9 ((encXs (l.take i) ++ List.replicate (l.length - i) zex).getD i [])) = encXs (l.take (i + 1)) ++ List.replicate (l.length - (i + 1)) zex:=by
  have e1 : (encXs (l.take i)).length = i:=by rw [encXs_length]; simp; omega
  have e2 : List.drop 9 ((encXs (l.take i) ++ List.replicate (l.length - i) zex).getD i []) = []:=by
    have e3 : l.length - i = (l.length - (i + 1)) + 1:=by omega
    rw [List.getD,List.getElem?_append_right (by omega),e1,Nat.sub_self,e3,List.replicate_succ]
    rfl
  have e4 : l.length - i = (l.length - (i + 1)) + 1:=by omega
  rw [e2,List.append_nil,List.set_append_right _ _ (by omega),e1,Nat.sub_self,e4,List.replicate_succ,List.set_cons_zero]
  rw [encXs_map,encXs_map,List.take_add_one,List.map_append,List.append_assoc]
  simp [List.getD,h]
theorem encX_leaf (t : Ex) : ∀ v ∈ encX t,isLeaf v = true:=by cases t; rw [encX]; simp [isLeaf]
theorem frzL_encX (t : Ex) (A : List Box) : frzL (encX t) A = some (encX t,A):=by cases t; rw [encX]; rfl
theorem encXAs_map : ∀ l,encXAs l = l.map encXA
  | []=>rfl
  | t :: l=>by rw [encXAs,encXAs_map l]; rfl
theorem encXAs_length (l : List Ex) : (encXAs l).length = l.length:=by rw [encXAs_map]; simp
theorem encXAs_getD {l : List Ex} {i : Nat} (h : i < l.length) : (encXAs l).getD i [] = encXA (l.getD i ex0):=by
  rw [encXAs_map]; simp [List.getD,h]
theorem encXA_length (t : Ex) : (encXA t).length = 9:=by cases t; rw [encXA]; rfl
theorem encXA_take (t : Ex) : List.take 9 (encXA t) = encXA t:=by cases t; rw [encXA]; rfl
theorem frzL_encXA (t : Ex) (A : List Box) : frzL (encXA t) A = some (encXA t,A):=by cases t; rw [encXA]; rfl
theorem ex_mem {l : List Ex} {i : Nat} (h : i < l.length) : l.getD i ex0 ∈ l:=by simp [List.getD,h]
theorem ex_take {l : List Ex} {i : Nat} (h : i < l.length) : l.take (i + 1) = l.take i ++ [l.getD i ex0]:=by
  rw [List.take_add_one]; simp [List.getD,h]
theorem szXs_take {l : List Ex} {i : Nat} (h : i < l.length) : szXs (l.take (i + 1)) = szXs (l.take i) + szX (l.getD i ex0):=by
  induction l generalizing i with
  | nil=>simp at h
  | cons t l ih =>
    cases i with
    | zero=>simp [szXs,List.getD]
    | succ i =>
      have:=ih (i:=i) (by simpa using h)
      simp only [List.take_succ_cons,szXs,List.getD_cons_succ] at this ⊢
      omega
theorem szXs_le (l : List Ex) : ∀ i,szXs (l.take i) ≤ szXs l:=by
  induction l with
  | nil=>intro i; simp [szXs]
  | cons t l ih =>
    intro i
    cases i with
    | zero=>simp [szXs]
    | succ i=>simp only [List.take_succ_cons,szXs]; have:=ih i; omega
theorem szXs_mem {t : Ex} {l : List Ex} (h : t ∈ l) : szX t ≤ szXs l:=by
  induction l with
  | nil=>simp at h
  | cons u l ih =>
    rw [szXs]
    rcases List.mem_cons.1 h with rfl | h
    · omega
    · have:=ih h; omega
def SzX (x : Ex) : Prop:=∀ (l : Int) (A : List Box),0 ≤ l → l ≤ 1048576 → ACalls Tryz.prog 56 [.agg (encXA x),.int .i64 l] A (fun v A'=>v = .int .i64 (left l (szX x)) ∧ A' = A)
set_option maxRecDepth 100000 in
theorem laws_szExprS (ks : List Ex) (hl : ks.length < 2 ^ 63) (hk : ∀ t ∈ ks,SzX t) (l : Int) (A : List Box) (h0 : 0 ≤ l) (h1 : l ≤ 1048576) :
    ACalls Tryz.prog 139 [.aslice (encXAs ks),.int .i64 l] A (fun v A'=>v = .int .i64 (left l (ks.length + szXs ks)) ∧ A' = A):=by
  have hw : IntKind.i64.wrap (l - ↑(encXAs ks).length) = l - ks.length:=by rw [encXAs_length]; exact wrap64 (by omega) (by omega)
  refine acalls_enter (cf:=cf 27 [0,1,4,5,11,15,25]) foll Tryz.func139 Tryz.ntmps139 (by simp [cf]) ?_
  simp only [Tryz.f139,EnterK_some,zW,zX,zD,builtinA,isLeaf,const1,ustrA,simprocAttr,ti3,ti26,ti28,ca56,cf,Tryz.results139]
  rw [hw]
  refine condK_intro (fun h=>?_) (fun h=>?_)
  · simp only [zW,zX,zD,builtinA,isLeaf,const1,ustrA,simprocAttr,ti3,ti26,ti28,ca56,cf,Tryz.results139]
    have : ¬ ((ks.length + szXs ks : Nat) : Int) ≤ l:=by simp at h; omega
    rw [left,if_neg this]
  · simp only [zW,zX,zD,builtinA,isLeaf,const1,ustrA,simprocAttr,ti3,ti26,ti28,ca56,cf,Tryz.results139]
    refine aloop_intro [0,1,5] (fun e A'=>∃ i,i ≤ ks.length ∧ ((ks.length + szXs (ks.take i) : Nat) : Int) ≤ l ∧ e = [(0,.aslice (encXAs ks)),(1,.int .i64 (l - (ks.length + szXs (ks.take i) : Nat))),(5,.int .i64 i)] ∧ A' = A) (fun e _=>ks.length - (intOf (Abs.look 5 e)).toNat) ?_ ?_
    · refine ⟨0,by omega,?_,?_,rfl⟩
      · simp at h; simp [szXs]; omega
      · simp only [zW,zX,zD,builtinA,isLeaf,const1,ustrA,simprocAttr,ti3,ti26,ti28,ca56,cf,Tryz.results139]
        simp [szXs]
    · rintro e A' ⟨i,hi,hle,rfl,rfl⟩
      simp only [zW,zX,zD,builtinA,isLeaf,const1,ustrA,simprocAttr,ti3,ti26,ti28,ca56,cf,Tryz.results139]
      refine condK_intro (fun h2=>?_) (fun h2=>?_)
      · have hi2 : i < ks.length:=by simp [encXAs_length] at h2; exact h2
        have he:=encXAs_getD hi2
        have hm:=ex_mem hi2
        have hs:=szXs_take hi2
        simp only [zW,zX,zD,builtinA,isLeaf,const1,ustrA,simprocAttr,ti3,ti26,ti28,ca56,cf,Tryz.results139,he,encXA_length,encXA_take,encXAs_length]
        refine ⟨⟨by omega,by omega⟩,?_⟩
        refine callK_intro (by simp only [zW,zX,zD,builtinA,isLeaf,const1,ustrA,simprocAttr,frzL_encXA,Option.map_some]; rfl) (hk _ hm _ _ (by omega) (by omega)) ?_ rfl; rintro v A' ⟨rfl,rfl⟩
        by_cases hf : ((ks.length + szXs (ks.take (i + 1)) : Nat) : Int) ≤ l
        · have hv : left (l - ((ks.length + szXs (ks.take i) : Nat) : Int)) (szX (ks.getD i ex0)) = l - ((ks.length + szXs (ks.take (i + 1)) : Nat) : Int):=by
            rw [left,if_pos (by omega)]; omega
          have hn : decide (l - ((ks.length + szXs (ks.take (i + 1)) : Nat) : Int) < 0) = false:=by simp only [decide_eq_false_iff_not]; omega
          have hi1 : IntKind.i64.wrap ((i : Int) + 1) = ((i + 1 : Nat) : Int):=by rw [wrap64 (by omega) (by omega)]; rfl
          rw [hv]
          simp only [zW,zX,zD,builtinA,isLeaf,const1,ustrA,simprocAttr,ti3,ti26,ti28,ca56,cf,Tryz.results139,hn,hi1,LoopK_eq,encXAs_length]
          refine ⟨⟨i + 1,by omega,hf,rfl⟩,?_⟩
          simp only [intOf]
          omega
        · have hv : left (l - ((ks.length + szXs (ks.take i) : Nat) : Int)) (szX (ks.getD i ex0)) = -1:=by
            rw [left,if_neg (by omega)]
          have hz:=szXs_le ks (i + 1)
          rw [hv,left,if_neg (by omega)]
          simp only [zW,zX,zD,builtinA,isLeaf,const1,ustrA,simprocAttr,ti3,ti26,ti28,ca56,cf,Tryz.results139]
      · simp only [zW,zX,zD,builtinA,isLeaf,const1,ustrA,simprocAttr,ti3,ti26,ti28,ca56,cf,Tryz.results139]
        have : i = ks.length:=by simp [encXAs_length] at h2; omega
        subst this
        rw [List.take_length] at hle ⊢
        rw [left,if_pos hle]
set_option maxRecDepth 100000 in
theorem laws_szExpr (x : Ex) (hx : x.Ok) : SzX x:=by
  induction x using Ex.ind with
  | h k i m n t ks ih =>
    obtain ⟨hm,hn,ht,hks,hok⟩:=hx
    intro l A h0 h1
    have hw : IntKind.i64.wrap (l - ↑m.length) = l - m.length:=wrap64 (by omega) (by omega)
    have hst:=fun l A=>laws_szType t ht l A
    rw [encTA4] at hst
    have hsx : szX (.mk k i m n t ks) = m.length + n.length + sz t + (ks.length + szXs ks):=by rw [szX]
    rw [hsx,encXA]
    refine acalls_enter (cf:=cf 32 [0,1,2,4,11,18,24,30]) foll Tryz.func56 Tryz.ntmps56 (by simp [cf]) ?_
    simp only [Tryz.f56,EnterK_some,zW,zX,zD,builtinA,isLeaf,const1,ustrA,simprocAttr,ti3,ti9,ti25,ti26,ti28,ca138,ca139,cf,Tryz.results56]
    rw [hw]
    refine condK_intro (fun h=>?_) (fun h=>?_)
    · simp only [zW,zX,zD,builtinA,isLeaf,const1,ustrA,simprocAttr,ti3,ti9,ti25,ti26,ti28,ca138,ca139,cf,Tryz.results56]
      rw [left,if_neg (by simp at h; omega)]
    · have hw2 : IntKind.i64.wrap (l - ↑m.length - ↑n.length) = l - ↑m.length - ↑n.length:=by simp at h; exact wrap64 (by omega) (by omega)
      simp only [zW,zX,zD,builtinA,isLeaf,const1,ustrA,simprocAttr,ti3,ti9,ti25,ti26,ti28,ca138,ca139,cf,Tryz.results56,hw2]
      refine condK_intro (fun h2=>?_) (fun h2=>?_)
      · simp only [zW,zX,zD,builtinA,isLeaf,const1,ustrA,simprocAttr,ti3,ti9,ti25,ti26,ti28,ca138,ca139,cf,Tryz.results56]
        rw [left,if_neg (by simp at h2; omega)]
      · simp only [decide_eq_false_iff_not] at h h2
        simp only [zW,zX,zD,builtinA,isLeaf,const1,ustrA,simprocAttr,ti3,ti9,ti25,ti26,ti28,ca138,ca139,cf,Tryz.results56]
        refine callK_intro (by simp only [zW,zX,zD,builtinA,isLeaf,const1,ustrA,simprocAttr,Option.map_some]; rfl) (hst _ _ (by omega) (by omega)) ?_ rfl; rintro v A' ⟨rfl,rfl⟩
        by_cases hf : ((m.length + n.length + sz t : Nat) : Int) ≤ l
        · have hv : left (l - ↑m.length - ↑n.length) (sz t) = l - (m.length + n.length + sz t : Nat):=by
            rw [left,if_pos (by omega)]; omega
          have hn : decide (l - (m.length + n.length + sz t : Nat) < 0) = false:=by simp only [decide_eq_false_iff_not]; omega
          rw [hv]
          simp only [zW,zX,zD,builtinA,isLeaf,const1,ustrA,simprocAttr,ti3,ti9,ti25,ti26,ti28,ca138,ca139,cf,Tryz.results56,hn]
          refine callK_intro (by simp only [zW,zX,zD,builtinA,isLeaf,const1,ustrA,simprocAttr,Option.map_some]; rfl) (laws_szExprS ks (by omega) (fun t ht=>ih t ht (hok t ht)) _ _ (by omega) (by omega)) ?_ rfl; rintro v A' ⟨rfl,rfl⟩
          by_cases hg : ((m.length + n.length + sz t + (ks.length + szXs ks) : Nat) : Int) ≤ l
          · have hv : left (l - (m.length + n.length + sz t : Nat)) (ks.length + szXs ks) = l - (m.length + n.length + sz t + (ks.length + szXs ks) : Nat):=by
              rw [left,if_pos (by omega)]; omega
            have hn : decide (l - (m.length + n.length + sz t + (ks.length + szXs ks) : Nat) < 0) = false:=by simp only [decide_eq_false_iff_not]; omega
            rw [hv,left,if_pos hg]
            simp only [zW,zX,zD,builtinA,isLeaf,const1,ustrA,simprocAttr,ti3,ti9,ti25,ti26,ti28,ca138,ca139,cf,Tryz.results56,hn]
          · have hv : left (l - (m.length + n.length + sz t : Nat)) (ks.length + szXs ks) = -1:=by
              rw [left,if_neg (by omega)]
            rw [hv,left,if_neg hg]
            simp only [zW,zX,zD,builtinA,isLeaf,const1,ustrA,simprocAttr,ti3,ti9,ti25,ti26,ti28,ca138,ca139,cf,Tryz.results56]
        · have hv : left (l - ↑m.length - ↑n.length) (sz t) = -1:=by
            rw [left,if_neg (by omega)]
          rw [hv,left,if_neg (by omega)]
          simp only [zW,zX,zD,builtinA,isLeaf,const1,ustrA,simprocAttr,ti3,ti9,ti25,ti26,ti28,ca138,ca139,cf,Tryz.results56]
set_option maxRecDepth 100000 in
theorem laws_toExprS (ks : List Ex) (hl : ks.length ≤ 1048576) (hk : ∀ t ∈ ks,∀ A,ACalls Tryz.prog 58 [.agg (encXA t)] A (fun v A'=>v = .agg (encX t) ∧ A' = A)) (A : List Box) :
    ACalls Tryz.prog 142 [.aslice (encXAs ks)] A (fun v A'=>v = .slice (encXs ks) ∧ A' = A):=by
  have hl2 : ((encXAs ks).length : Int) ≤ 1048576:=by rw [encXAs_length]; omega
  refine acalls_enter (cf:=cf 23 [0,2,3,4,11]) foll Tryz.func142 Tryz.ntmps142 (by simp [cf]) ?_
  simp only [Tryz.f142,EnterK_some,zW,zX,zD,builtinA,isLeaf,const1,ustrA,simprocAttr,ti3,ti26,ti28,ti37,ti39,ca58,cf,Tryz.results142]
  refine ⟨⟨by omega,by omega,by omega⟩,?_⟩
  refine aloop_intro [0,3,4] (fun e A'=>∃ i,i ≤ ks.length ∧ e = [(0,.aslice (encXAs ks)),(3,.own A.length),(4,.int .i64 i)] ∧ A' = A ++ [.row 9 (encXs (ks.take i) ++ List.replicate (ks.length - i) zex) 0]) (fun e _=>ks.length - (intOf (Abs.look 4 e)).toNat) ?_ ?_
  · simp only [zW,zX,zD,builtinA,isLeaf,const1,ustrA,simprocAttr,ti3,ti26,ti28,ti37,ti39,ca58,cf,Tryz.results142]
    exact ⟨0,by omega,rfl,by rw [encXAs_length]; simp [encXs,zex]⟩
  · rintro e A' ⟨i,hi,rfl,rfl⟩
    simp only [zW,zX,zD,builtinA,isLeaf,const1,ustrA,simprocAttr,ti3,ti26,ti28,ti37,ti39,ca58,cf,Tryz.results142,encXAs_length]
    refine condK_intro (fun h2=>?_) (fun h2=>?_)
    · have hi2 : i < ks.length:=by simpa using h2
      have he:=encXAs_getD hi2
      have hm:=ex_mem hi2
      simp only [zW,zX,zD,builtinA,isLeaf,const1,ustrA,simprocAttr,ti3,ti26,ti28,ti37,ti39,ca58,cf,Tryz.results142,he,encXA_length,encXA_take,encXAs_length]
      refine ⟨⟨by omega,by omega⟩,?_⟩
      refine callK_intro (by simp only [zW,zX,zD,builtinA,isLeaf,const1,ustrA,simprocAttr,frzL_encXA,Option.map_some]; rfl) (hk _ hm _) ?_ rfl; rintro v A' ⟨rfl,rfl⟩
      have hi1 : IntKind.i64.wrap ((i : Int) + 1) = ((i + 1 : Nat) : Int):=by rw [wrap64 (by omega) (by omega)]; rfl
      simp only [zW,zX,zD,builtinA,isLeaf,const1,ustrA,simprocAttr,ti3,ti26,ti28,ti37,ti39,ca58,cf,Tryz.results142,encX_length,frzL_encX,xrow_step hi2,hi1,LoopK_eq]
      have hlen : (encXs (List.take i ks)).length + (List.replicate (ks.length - i) zex).length = ks.length:=by
        simp [encXs_length]; omega
      rw [hlen]
      refine ⟨⟨by omega,by omega⟩,⟨by omega,by omega,fun v hv=>encX_leaf _ v hv⟩,⟨i + 1,by omega,rfl,rfl⟩,?_⟩
      simp only [intOf]
      omega
    · simp only [zW,zX,zD,builtinA,isLeaf,const1,ustrA,simprocAttr,ti3,ti26,ti28,ti37,ti39,ca58,cf,Tryz.results142]
      have : i = ks.length:=by simp at h2; omega
      subst this
      simp [List.take_length]
set_option maxRecDepth 100000 in
theorem laws_toExpr (x : Ex) (hx : szX x ≤ 1048576) : ∀ A,ACalls Tryz.prog 58 [.agg (encXA x)] A (fun v A'=>v = .agg (encX x) ∧ A' = A):=by
  induction x using Ex.ind with
  | h k i m n t ks ih =>
    intro A
    have hsx : szX (.mk k i m n t ks) = m.length + n.length + sz t + (ks.length + szXs ks):=by rw [szX]
    rw [hsx] at hx
    have htt:=fun A=>laws_toType t (by omega) A
    rw [encTA4,encT4] at htt
    have h1 : ks.length ≤ 1048576:=by omega
    have h2 : ∀ t ∈ ks,szX t ≤ 1048576:=fun t ht=>by have:=szXs_mem ht; omega
    rw [encXA,encX]
    refine acalls_enter (cf:=cf 25 [0,1,2,3]) foll Tryz.func58 Tryz.ntmps58 (by simp [cf]) ?_
    simp only [Tryz.f58,EnterK_some,zW,zX,zD,builtinA,isLeaf,const1,ustrA,simprocAttr,ti3,ti9,ti25,ti26,ti28,ti36,ti37,ti39,ca141,ca142,cf,Tryz.results58]
    refine callK_intro (by simp only [zW,zX,zD,builtinA,isLeaf,const1,ustrA,simprocAttr,Option.map_some]; rfl) (htt _) ?_ rfl; rintro v A' ⟨rfl,rfl⟩
    simp only [zW,zX,zD,builtinA,isLeaf,const1,ustrA,simprocAttr,ti3,ti9,ti25,ti26,ti28,ti36,ti37,ti39,ca141,ca142,cf,Tryz.results58]
    refine callK_intro (by simp only [zW,zX,zD,builtinA,isLeaf,const1,ustrA,simprocAttr,Option.map_some]; rfl) (laws_toExprS ks h1 (fun t ht=>ih t ht (h2 t ht)) _) ?_ rfl; rintro v A' ⟨rfl,rfl⟩
    simp only [zW,zX,zD,builtinA,isLeaf,const1,ustrA,simprocAttr,ti3,ti9,ti25,ti26,ti28,ti36,ti37,ti39,ca141,ca142,cf,Tryz.results58]
set_option maxRecDepth 100000 in
theorem laws_eqExprS (ks : List Ex) (hl : ks.length < 2 ^ 63) (hk : ∀ t ∈ ks,∀ A,ACalls Tryz.prog 61 [.agg (encX t),.agg (encX t)] A (fun v A'=>v = .bool true ∧ A' = A)) (A : List Box) :
    ACalls Tryz.prog 60 [.slice (encXs ks),.slice (encXs ks)] A (fun v A'=>v = .bool true ∧ A' = A):=by
  refine acalls_enter (cf:=cf 27 [0,1,4,5,10,14,26]) foll Tryz.func60 Tryz.ntmps60 (by simp [cf]) ?_
  simp only [Tryz.f60,EnterK_some,zW,zX,zD,builtinA,isLeaf,const1,ustrA,simprocAttr,ti3,ti37,ti39,ca61,cf,Tryz.results60]
  refine aloop_intro [0,1,5] (fun e A'=>∃ i,i ≤ ks.length ∧ e = [(0,.slice (encXs ks)),(1,.slice (encXs ks)),(5,.int .i64 i)] ∧ A' = A) (fun e _=>ks.length - (intOf (Abs.look 5 e)).toNat) ?_ ?_
  · simp only [zW,zX,zD,builtinA,isLeaf,const1,ustrA,simprocAttr,ti3,ti37,ti39,ca61,cf,Tryz.results60]
    exact ⟨0,by omega,rfl⟩
  · rintro e A' ⟨i,hi,rfl,rfl⟩
    simp only [zW,zX,zD,builtinA,isLeaf,const1,ustrA,simprocAttr,ti3,ti37,ti39,ca61,cf,Tryz.results60,encXs_length]
    refine condK_intro (fun h2=>?_) (fun h2=>?_)
    · have hi2 : i < ks.length:=by simpa using h2
      have he:=encXs_getD hi2
      have hm:=ex_mem hi2
      have hi1 : IntKind.i64.wrap ((i : Int) + 1) = ((i + 1 : Nat) : Int):=by rw [wrap64 (by omega) (by omega)]; rfl
      simp only [zW,zX,zD,builtinA,isLeaf,const1,ustrA,simprocAttr,ti3,ti37,ti39,ca61,cf,Tryz.results60,he,encX_length,encX_take,encXs_length]
      refine .inl ⟨by kernel_rfl,by kernel_rfl,⟨by omega,by omega⟩,⟨by omega,by omega⟩,?_⟩
      refine callD_intro (by simp only [zW,zX,zD,builtinA,isLeaf,const1,ustrA,simprocAttr,frzL_encX,Option.map_some] <;> rfl) (hk _ hm _) ?_ rfl
      simp only [zW,zX,zD,builtinA,isLeaf,const1,ustrA,simprocAttr,ti3,ti37,ti39,ca61,cf,Tryz.results60,hi1,LoopK_eq]
      refine ⟨⟨i + 1,by omega,rfl⟩,?_⟩
      simp only [intOf]
      omega
    · simp only [zW,zX,zD,builtinA,isLeaf,const1,ustrA,simprocAttr,ti3,ti37,ti39,ca61,cf,Tryz.results60]
set_option maxRecDepth 100000 in
theorem laws_eqExpr (x : Ex) (hx : x.Ok) : ∀ A,ACalls Tryz.prog 61 [.agg (encX x),.agg (encX x)] A (fun v A'=>v = .bool true ∧ A' = A):=by
  induction x using Ex.ind with
  | h k i m n t ks ih =>
    intro A
    obtain ⟨hm,hn,ht,hks,hok⟩:=hx
    have het:=fun A=>laws_eqType t ht A
    rw [encT4] at het
    rw [encX]
    refine acalls_enter (cf:=cf 37 [0,1,2,3,4,9,14,19,24,30,36]) foll Tryz.func61 Tryz.ntmps61 (by simp [cf]) ?_
    simp only [Tryz.f61,EnterK_some,zW,zX,zD,builtinA,isLeaf,const1,ustrA,simprocAttr,ti3,ti9,ti36,ti37,ti39,ca60,ca149,cf,Tryz.results61]
    refine callK_intro (by simp only [zW,zX,zD,builtinA,isLeaf,const1,ustrA,simprocAttr,Option.map_some]; rfl) (het _) ?_ rfl; rintro v A' ⟨rfl,rfl⟩
    simp only [zW,zX,zD,builtinA,isLeaf,const1,ustrA,simprocAttr,ti3,ti9,ti36,ti37,ti39,ca60,ca149,cf,Tryz.results61]
    refine callK_intro (by simp only [zW,zX,zD,builtinA,isLeaf,const1,ustrA,simprocAttr,Option.map_some]; rfl) (laws_eqExprS ks (by omega) (fun t ht=>ih t ht (hok t ht)) _) ?_ rfl; rintro v A' ⟨rfl,rfl⟩
    simp only [zW,zX,zD,builtinA,isLeaf,const1,ustrA,simprocAttr,ti3,ti9,ti36,ti37,ti39,ca60,ca149,cf,Tryz.results61]
end Go.Proofs.YtnjdbgiincliaaaGreat
