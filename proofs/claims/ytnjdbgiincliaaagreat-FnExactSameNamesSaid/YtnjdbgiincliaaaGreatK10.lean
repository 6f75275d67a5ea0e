/- StVal, StNm, StKn. -/
import Derived.Test.YtnjdbgiincliaaaGreatK09
import Derived.Test.YtnjdbgiincliaaaGreatAbsW3
/- The model's StructValid. -/
set_option linter.unusedVariables false
set_option linter.unusedSimpArgs false
namespace Go.Proofs.YtnjdbgiincliaaaGreat
open Go.Abs
def isD (k : Int) (n : List UInt8) (x : ItI) : Bool:=decide (x.kind = k) && decide (x.name = n)
def hasD (s : List ItI) (k : Int) (n : List UInt8) : Bool:=s.any (isD k n)
def kT (s : List ItI) (p : Nm) : Bool:=!decide (p.1 = []) || hasD s 1 p.2
def kV (s : List ItI) (p : Nm) : Bool:=!decide (p.1 = []) || hasD s 2 p.2
theorem hasD_take {s : List ItI} {i : Nat} (h : i < s.length) (k : Int) (n : List UInt8) : hasD (s.take (i + 1)) k n = (hasD (s.take i) k n || isD k n (s.getD i itm0)):=by
  rw [it_take h]; simp [hasD]
set_option maxRecDepth 100000 in
theorem spec_l4Before (s : List ItI) (hs : s.length ≤ 1048576) (k : Int) (n : List UInt8) (A : List Box) : ACalls Tryz.prog 293 [.slice (iEs s),.int .i64 k,.str n] A (fun r A'=>r = .bool (hasD s k n) ∧ A' = A):=by
  refine acalls_enter (cf:=cf 30 [0,1,2,6,7,11,29]) foll Tryz.func293 Tryz.ntmps293 (by simp [cf]) ?_
  simp only [Tryz.f293,EnterK_some,zW,zX,zD,builtinA,isLeaf,const1,ustrA,simprocAttr,ti3,ti9,ti78,ti304,cf,Tryz.results293]
  refine aloop_intro [0,1,2,7] (fun e A'=>∃ i,i ≤ s.length ∧ hasD (s.take i) k n = false ∧ e = [(0,.slice (iEs s)),(1,.int .i64 k),(2,.str n),(7,.int .i64 (i : Nat))] ∧ A' = A) (fun e _=>s.length - (intOf (Abs.look 7 e)).toNat) ?_ ?_
  · simp only [zW,zX,zD,builtinA,isLeaf,const1,ustrA,simprocAttr,ti3,ti9,ti78,ti304,cf,Tryz.results293]
    exact ⟨0,by omega,by simp [hasD],rfl⟩
  · rintro e A' ⟨i,hi,hq,rfl,rfl⟩
    simp only [zW,zX,zD,builtinA,isLeaf,const1,ustrA,simprocAttr,ti3,ti9,ti78,ti304,cf,Tryz.results293,iEs_length]
    refine condK_intro (fun h2=>?_) (fun h2=>?_)
    · have hi2 : i < s.length:=by simp at h2; omega
      have hg:=iEs_getD hi2
      have htk:=hasD_take hi2 k n
      have hmem:=it_mem hi2
      have hi1 : IntKind.i64.wrap ((i : Int) + 1) = ((i + 1 : Nat) : Int):=by rw [wrap64 (by omega) (by omega)]; rfl
      generalize s.getD i itm0 = x at *
      have pi : (0 : Int) ≤ (i : Int) ∧ (i : Int) < (s.length : Int):=⟨by omega,by omega⟩
      rw [hq,Bool.false_or] at htk
      simp only [iE] at hg
      simp only [zW,zX,zD,builtinA,isLeaf,const1,ustrA,simprocAttr,ti3,ti9,ti78,ti304,cf,Tryz.results293,hg,iEs_length]
      refine ⟨pi,?_⟩
      by_cases h1 : x.kind = k
      · by_cases h3 : x.name = n
        · have hh : hasD s k n = true:=List.any_eq_true.mpr ⟨x,hmem,by simp [isD,h1,h3]⟩
          simp only [zW,zX,zD,builtinA,isLeaf,const1,ustrA,simprocAttr,ti3,ti9,ti78,ti304,cf,Tryz.results293,decide_eq_true h1,decide_eq_true h3,hg,iEs_length]
          exact ⟨pi,by rw [hh]⟩
        · have hd : isD k n x = false:=by simp [isD,h3]
          rw [hd] at htk
          simp only [zW,zX,zD,builtinA,isLeaf,const1,ustrA,simprocAttr,ti3,ti9,ti78,ti304,cf,Tryz.results293,decide_eq_true h1,decide_eq_false h3,hg,iEs_length,hi1,LoopK_eq]
          refine ⟨pi,⟨i + 1,by omega,htk,rfl⟩,?_⟩
          simp only [intOf]; omega
      · have hd : isD k n x = false:=by simp [isD,h1]
        rw [hd] at htk
        simp only [zW,zX,zD,builtinA,isLeaf,const1,ustrA,simprocAttr,ti3,ti9,ti78,ti304,cf,Tryz.results293,decide_eq_false h1,hi1,LoopK_eq]
        refine ⟨⟨i + 1,by omega,htk,rfl⟩,?_⟩
        simp only [intOf]; omega
    · have hi2 : i = s.length:=by simp at h2; omega
      subst hi2
      rw [List.take_length] at hq
      simp only [zW,zX,zD,builtinA,isLeaf,const1,ustrA,simprocAttr,ti3,ti9,ti78,ti304,cf,Tryz.results293]
      rw [hq]
theorem fr_out {r r' : AV} {A B A' : List Box} (hF : FrN r r' (A ++ B) A') (hr : ∀ k,r ≠ .own k) : Outer A A' ∧ A'.take A.length = A:=by
  have hg : ∀ k,k < A.length → A'.getD k .dead = A.getD k .dead:=fun k hk=>by
    rw [hF.2.2 k (by simp; omega) (hr k),Abs.getD_append_left hk]
  have hle : A.length ≤ A'.length:=by have:=hF.1; simp at this; omega
  refine ⟨⟨hle,fun i hi=>.inl (hg i hi)⟩,List.ext_getElem? fun k=>?_⟩
  by_cases hk : k < A.length
  · have:=hg k hk
    simp only [List.getD] at this
    have e1 : k < A'.length:=by omega
    simp only [List.getElem?_take,hk,if_true]
    simpa [hk,e1] using this
  · simp [List.getElem?_take,hk]
set_option maxRecDepth 100000 in
theorem spec_l4KnownType (s : List ItI) (hs : s.length ≤ 1048576) (v : VT) (hv : okV v = true) (hc : cnt v ≤ 100) (A : List Box) : ACalls Tryz.prog 295 [.slice (iEs s),.agg (enc (toTy v))] A (fun r A'=>r = .bool (allV (kT s) v) ∧ A' = A):=by
  have hall:=nmsV_all (kT s) v []
  simp only [List.all_nil,Bool.true_and] at hall
  have hlen:=nmsV_len v []
  simp only [List.length_nil,Nat.zero_add] at hlen
  refine acalls_enter (cf:=cf 31 [0,1,3,4,5,6,12,30]) foll Tryz.func295 Tryz.ntmps295 (by simp [cf]) ?_
  simp only [Tryz.f295,EnterK_some,zW,zX,zD,builtinA,isLeaf,const1,ustrA,simprocAttr,ti3,ti9,ti34,ti36,ca179,ca293,cf,Tryz.results295]
  simp only [zW,zX,zD,builtinA,isLeaf,const1,ustrA,simprocAttr,ti3,ti9,ti34,ti36,ca179,ca293,cf,Tryz.results295,enc_length,enc_take]
  refine callO_intro (namesT v _ [] .nils hv (by simp; omega) (fun p hp=>by simp at hp) (.inl ⟨rfl,rfl⟩)) ?_
  rintro r A' ⟨hO,hF⟩
  have hgo:=fr_out hF (fun k h=>nomatch h)
  rw [← hall]
  rcases hO with ⟨rfl,hns⟩ | ⟨j,rfl,hj,hA⟩
  · rw [hns]
    simp only [zW,zX,zD,builtinA,isLeaf,const1,ustrA,simprocAttr,ti3,ti9,ti34,ti36,ca179,ca293,cf,Tryz.results295]
    refine aloop_intro [0,5,6] (fun e B=>e = [(0,.slice (iEs s)),(5,.nils),(6,.int .i64 0)] ∧ B = A') (fun e _=>0) ?_ ?_
    · simp only [zW,zX,zD,builtinA,isLeaf,const1,ustrA,simprocAttr,ti3,ti9,ti34,ti36,ca179,ca293,cf,Tryz.results295]
    · rintro e B ⟨rfl,rfl⟩
      simp only [zW,zX,zD,builtinA,isLeaf,const1,ustrA,simprocAttr,ti3,ti9,ti34,ti36,ca179,ca293,cf,Tryz.results295]
      exact hgo
  · generalize hns : nmsV [] v = ns at *
    simp only [zW,zX,zD,builtinA,isLeaf,const1,ustrA,simprocAttr,ti3,ti9,ti34,ti36,ca179,ca293,cf,Tryz.results295]
    refine aloop_intro [0,5,6] (fun e B=>∃ i,i ≤ ns.length ∧ (ns.take i).all (kT s) = true ∧ e = [(0,.slice (iEs s)),(5,.own j),(6,.int .i64 (i : Nat))] ∧ B = A') (fun e _=>ns.length - (intOf (Abs.look 6 e)).toNat) ?_ ?_
    · simp only [zW,zX,zD,builtinA,isLeaf,const1,ustrA,simprocAttr,ti3,ti9,ti34,ti36,ca179,ca293,cf,Tryz.results295]
      exact ⟨0,by omega,by simp,rfl⟩
    · rintro e B ⟨i,hi,hq,rfl,rfl⟩
      simp only [zW,zX,zD,builtinA,isLeaf,const1,ustrA,simprocAttr,ti3,ti9,ti34,ti36,ca179,ca293,cf,Tryz.results295,hA,nrows_length]
      refine condK_intro (fun h2=>?_) (fun h2=>?_)
      · have hi2 : i < ns.length:=by simp at h2; omega
        have hg:=nrows_getD hi2
        have htk : ns.take (i + 1) = ns.take i ++ [ns.getD i ([],[])]:=by rw [List.take_add_one]; simp [List.getD,hi2]
        have hi1 : IntKind.i64.wrap ((i : Int) + 1) = ((i + 1 : Nat) : Int):=by rw [wrap64 (by omega) (by omega)]; rfl
        have hno : kT s (ns.getD i ([],[])) = false → ns.all (kT s) = false:=fun hk=>by
          rw [List.all_eq_false]
          exact ⟨ns.getD i ([],[]),by simp [List.getD,hi2],by rw [hk]; decide⟩
        have hkp : kT s (ns.getD i ([],[])) = (!decide ((ns.getD i ([],[])).1 = []) || hasD s 1 (ns.getD i ([],[])).2):=rfl
        generalize hp : ns.getD i ([],[]) = p at *
        have pi : (0 : Int) ≤ (i : Int) ∧ (i : Int) < (ns.length : Int):=⟨by omega,by omega⟩
        have next : kT s p = true → (∃ i',i' ≤ ns.length ∧ (ns.take i').all (kT s) = true ∧ [(0,AV.slice (iEs s)),(5,AV.own j),(6,AV.int .i64 ((i + 1 : Nat) : Int))] = [(0,.slice (iEs s)),(5,.own j),(6,.int .i64 (i' : Nat))]):=fun hk=>⟨i + 1,by omega,by rw [htk]; simp [hq,hk],rfl⟩
        by_cases hm : p.1 = []
        · rw [decide_eq_true hm,Bool.not_true,Bool.false_or] at hkp
          simp only [zW,zX,zD,builtinA,isLeaf,const1,ustrA,simprocAttr,ti3,ti9,ti34,ti36,ca179,ca293,cf,Tryz.results295,decide_eq_true hm,hA,hg,nrows_length]
          refine ⟨pi,pi,?_⟩
          refine callK_intro (by simp only [zW,zX,zD,builtinA,isLeaf,const1,ustrA,simprocAttr,Option.map_some]; rfl) (spec_l4Before s hs 1 p.2 _) ?_ rfl; rintro v A' ⟨rfl,rfl⟩
          rw [← hkp]
          cases hk : kT s p with
          | true =>
            simp only [zW,zX,zD,builtinA,isLeaf,const1,ustrA,simprocAttr,ti3,ti9,ti34,ti36,ca179,ca293,cf,Tryz.results295,hi1,LoopK_eq]
            refine ⟨next hk,?_⟩
            simp only [intOf]; omega
          | false =>
            simp only [zW,zX,zD,builtinA,isLeaf,const1,ustrA,simprocAttr,ti3,ti9,ti34,ti36,ca179,ca293,cf,Tryz.results295]
            rw [hno hk]
            exact ⟨hgo.1,rfl,hgo.2⟩
        · rw [decide_eq_false hm,Bool.not_false,Bool.true_or] at hkp
          simp only [zW,zX,zD,builtinA,isLeaf,const1,ustrA,simprocAttr,ti3,ti9,ti34,ti36,ca179,ca293,cf,Tryz.results295,decide_eq_false hm,hA,hg,nrows_length,hi1,LoopK_eq]
          refine ⟨pi,next hkp,?_⟩
          simp only [intOf]; omega
      · have hi2 : i = ns.length:=by simp at h2; omega
        subst hi2
        rw [List.take_length] at hq
        simp only [zW,zX,zD,builtinA,isLeaf,const1,ustrA,simprocAttr,ti3,ti9,ti34,ti36,ca179,ca293,cf,Tryz.results295]
        exact ⟨hgo.1,by rw [hq],hgo.2⟩
end Go.Proofs.YtnjdbgiincliaaaGreat
/- The model's lists of the names and types in an expression. -/
set_option linter.unusedVariables false
set_option linter.unusedSimpArgs false
namespace Go.Proofs.YtnjdbgiincliaaaGreat
open Go.Abs
def xrow (p : Nm) : List AV:=[.int .i64 3,.int .i64 0,.str p.1,.str p.2,.int .i64 0,.str [],.str [],.slice [],.slice []]
def xrows (ns : List Nm) : List (List AV):=ns.map xrow
theorem xrows_length (ns : List Nm) : (xrows ns).length = ns.length:=by simp [xrows]
theorem xrows_getD {ns : List Nm} {i : Nat} (h : i < ns.length) : (xrows ns).getD i [] = [.int .i64 3,.int .i64 0,.str (ns.getD i ([],[])).1,.str (ns.getD i ([],[])).2,.int .i64 0,.str [],.str [],.slice [],.slice []]:=by
  simp [xrows,List.getD,h,xrow]
def OwnX (A : List Box) (ns : List Nm) (r : AV) : Prop :=
  (r = .nils ∧ ns = []) ∨ ∃ j,r = .own j ∧ j < A.length ∧ A.getD j .dead = .row 9 (xrows ns) 0
theorem OwnX.app {A : List Box} {ns : List Nm} {r : AV} (h : OwnX A ns r) (B : List Box) : OwnX (A ++ B) ns r:=by
  rcases h with h | ⟨j,h1,h2,h3⟩
  · exact .inl h
  · exact .inr ⟨j,h1,by simp; omega,by rw [Abs.getD_append_left h2]; exact h3⟩
noncomputable def nmsE : List Nm → VE → List Nm
  | ns,.var _=>ns
  | ns,.num _=>ns
  | ns,.nm m n=>addN ns (m,n)
  | ns,.fn _ b=>nmsE ns b
  | ns,.app a b=>nmsE (nmsE ns a) b
  | ns,.add a b=>nmsE (nmsE ns a) b
  | ns,.ite c a b=>nmsE (nmsE (nmsE ns c) a) b
theorem nmsE_len : ∀ (v : VE) (ns : List Nm),(nmsE ns v).length ≤ ns.length + cntE v
  | .var _,ns=>by simp [nmsE]
  | .num _,ns=>by simp [nmsE]
  | .nm m n,ns=>by simp only [nmsE,cntE]; exact addN_len _ _
  | .fn _ b,ns=>by have:=nmsE_len b ns; simp only [nmsE,cntE]; omega
  | .app a b,ns=>by have:=nmsE_len a ns; have:=nmsE_len b (nmsE ns a); simp only [nmsE,cntE]; omega
  | .add a b,ns=>by have:=nmsE_len a ns; have:=nmsE_len b (nmsE ns a); simp only [nmsE,cntE]; omega
  | .ite c a b,ns=>by have:=nmsE_len c ns; have:=nmsE_len a (nmsE ns c); have:=nmsE_len b (nmsE (nmsE ns c) a); simp only [nmsE,cntE]; omega
noncomputable def nmsK (ns : List Nm) (v : VE) (j : Nat) : List Nm:=((kidsE v).take j).foldl nmsE ns
theorem nmsK_zero (ns : List Nm) (v : VE) : nmsK ns v 0 = ns:=by simp [nmsK]
theorem nmsK_succ {ns : List Nm} {v : VE} {j : Nat} (h : j < (kidsE v).length) : nmsK ns v (j + 1) = nmsE (nmsK ns v j) ((kidsE v).getD j ve0):=by
  have e : (kidsE v).take (j + 1) = (kidsE v).take j ++ [(kidsE v).getD j ve0]:=by rw [List.take_add_one]; simp [List.getD,h]
  unfold nmsK
  rw [e,List.foldl_append]
  rfl
theorem nmsK_all {v : VE} (ns : List Nm) (h : kindE v ≠ 3) : nmsK ns v (kidsE v).length = nmsE ns v:=by
  cases v <;> simp_all [nmsK,kidsE,nmsE,kindE]
def cntK (v : VE) (j : Nat) : Nat:=(((kidsE v).take j).map cntE).sum
theorem cntK_succ {v : VE} {j : Nat} (h : j < (kidsE v).length) : cntK v (j + 1) = cntK v j + cntE ((kidsE v).getD j ve0):=by
  have e : (kidsE v).take (j + 1) = (kidsE v).take j ++ [(kidsE v).getD j ve0]:=by rw [List.take_add_one]; simp [List.getD,h]
  unfold cntK
  rw [e]; simp
theorem cntK_le (v : VE) : ∀ j,j ≤ (kidsE v).length → cntK v j + 1 ≤ cntE v:=by
  intro j hj
  cases v <;> simp only [kidsE,List.length_nil,List.length_cons] at hj
  · have : j = 0:=by omega
    subst this; simp [cntK,cntE,kidsE]
  · have : j = 0:=by omega
    subst this; simp [cntK,cntE,kidsE]
  · have : j = 0:=by omega
    subst this; simp [cntK,cntE,kidsE]
  · rcases j with _ | _ | j <;> simp [cntK,cntE,kidsE] <;> omega
  · rcases j with _ | _ | _ | j <;> simp [cntK,cntE,kidsE] <;> omega
  · rcases j with _ | _ | _ | j <;> simp [cntK,cntE,kidsE] <;> omega
  · rcases j with _ | _ | _ | _ | j <;> simp [cntK,cntE,kidsE] <;> omega
theorem nmsK_len (ns : List Nm) (v : VE) : ∀ j,j ≤ (kidsE v).length → (nmsK ns v j).length ≤ ns.length + cntK v j
  | 0,_=>by simp [nmsK,cntK]
  | j + 1,h=>by
    have h1:=nmsK_len ns v j (by omega)
    rw [nmsK_succ (by omega),cntK_succ (by omega)]
    have:=nmsE_len ((kidsE v).getD j ve0) (nmsK ns v j)
    omega
theorem kind3 {v : VE} (h : kindE v = 3) : ∃ m n,v = .nm m n:=by
  cases v <;> simp [kindE] at h
  exact ⟨_,_,rfl⟩
theorem xcell_leaf (m n : List UInt8) : ∀ v ∈ [AV.int .i64 3,.int .i64 0,.str m,.str n,.int .i64 0,.str [],.str [],.slice [],.slice []],isLeaf v = true:=by simp [isLeaf]
theorem xrow_nine (m n : List UInt8) : ∀ r ∈ [[AV.int .i64 3,.int .i64 0,.str m,.str n,.int .i64 0,.str [],.str [],.slice [],.slice []]],r.length = 9:=by simp
def NamE (v : VE) : Prop:=∀ (A : List Box) (ns : List Nm) (r0 : AV),okE v → ns.length + cntE v ≤ 2000 → OwnX A ns r0 → ACalls Tryz.prog 140 [r0,.agg (encX (toX v))] A (fun r A'=>OwnX A' (nmsE ns v) r ∧ FrN r0 r A A')
set_option maxRecDepth 100000 in
theorem namE_nm (m n : List UInt8) : NamE (.nm m n):=fun A ns r0 hv hl hO=>by
  have hd3 : decide ((3 : Int) = 3) = true:=rfl
  simp only [cntE] at hl
  have he0 : encs ty0.kids = []:=rfl
  rw [toX,encX]
  simp only [encXs,he0]
  rcases hO with ⟨rfl,rfl⟩ | ⟨j,rfl,hj,hA⟩
  · refine acalls_enterK (cf:=cf 58 [0,1,3,4,5,6,9,13,33,47]) foll Tryz.func140 Tryz.ntmps140 (by simp [cf]) ?_
    simp only [Tryz.f140,EnterK_some,zW,zX,zD,builtinA,isLeaf,const1,ustrA,simprocAttr,ti3,ti9,ti37,ti39,ca140,cf,Tryz.results140]
    refine aloop_intro [0,3,5] (fun e A'=>e = [(0,.nils),(3,.ptr A.length 0),(5,.int .i64 0)] ∧ A' = A ++ [.cells [.int .i64 3,.int .i64 0,.str m,.str n,.int .i64 ty0.kind,.str ty0.mod,.str ty0.name,.slice [],.slice []]]) (fun e _=>0) ?_ ?_
    · simp only [zW,zX,zD,builtinA,isLeaf,const1,ustrA,simprocAttr,ti3,ti9,ti37,ti39,ca140,cf,Tryz.results140]
    · rintro e A' ⟨rfl,rfl⟩
      simp only [zW,zX,zD,builtinA,isLeaf,const1,ustrA,simprocAttr,ti3,ti9,ti37,ti39,ca140,cf,Tryz.results140]
      have e : nmsE [] (.nm m n) = [(m,n)]:=by simp [nmsE,addN]
      refine ⟨xcell_leaf m n,xrow_nine m n,.inr ⟨A.length + 2,rfl,by simp,?_⟩,⟨by simp,.inr ⟨_,rfl,by omega⟩,fun x hx _=>Abs.getD_append_left hx⟩⟩
      rw [Abs.getD_append_right (by omega),e,show A.length + 2 - A.length = 2 by omega]
      rfl
  · refine acalls_enterK (cf:=cf 58 [0,1,3,4,5,6,9,13,33,47]) foll Tryz.func140 Tryz.ntmps140 (by simp [cf]) ?_
    simp only [Tryz.f140,EnterK_some,zW,zX,zD,builtinA,isLeaf,const1,ustrA,simprocAttr,ti3,ti9,ti37,ti39,ca140,cf,Tryz.results140]
    have hb : ∀ B,(A ++ B).getD j .dead = .row 9 (xrows ns) 0:=fun B=>by rw [Abs.getD_append_left hj]; exact hA
    refine aloop_intro [0,3,5] (fun e A'=>∃ i,i ≤ ns.length ∧ (m,n) ∉ ns.take i ∧ e = [(0,.own j),(3,.ptr A.length 0),(5,.int .i64 i)] ∧ A' = A ++ [.cells [.int .i64 3,.int .i64 0,.str m,.str n,.int .i64 ty0.kind,.str ty0.mod,.str ty0.name,.slice [],.slice []]]) (fun e _=>ns.length - (intOf (Abs.look 5 e)).toNat) ?_ ?_
    · simp only [zW,zX,zD,builtinA,isLeaf,const1,ustrA,simprocAttr,ti3,ti9,ti37,ti39,ca140,cf,Tryz.results140]
      exact ⟨0,by omega,by simp,rfl⟩
    · rintro e A' ⟨i,hi,hq,rfl,rfl⟩
      simp only [zW,zX,zD,builtinA,isLeaf,const1,ustrA,simprocAttr,ti3,ti9,ti37,ti39,ca140,cf,Tryz.results140,hb,xrows_length]
      refine condK_intro (fun h2=>?_) (fun h2=>?_)
      · have hi2 : i < ns.length:=by simpa using h2
        have hg:=xrows_getD hi2
        have hi1 : IntKind.i64.wrap ((i : Int) + 1) = ((i + 1 : Nat) : Int):=by rw [wrap64 (by omega) (by omega)]; rfl
        have htk : ns.take (i + 1) = ns.take i ++ [ns.getD i ([],[])]:=by rw [List.take_add_one]; simp [List.getD,hi2]
        have hmem : ns.getD i ([],[]) ∈ ns:=by simp [List.getD,hi2]
        generalize ns.getD i ([],[]) = p at *
        have pi : (0 : Int) ≤ (i : Int) ∧ (i : Int) < (ns.length : Int):=⟨by omega,by omega⟩
        have next : p ≠ (m,n) → (m,n) ∉ ns.take (i + 1):=fun h=>by
          rw [htk]; simp only [List.mem_append,List.mem_singleton,not_or]; exact ⟨hq,fun e=>h e.symm⟩
        by_cases h1 : p.1 = m
        · by_cases h3 : p.2 = n
          · have e : nmsE ns (.nm m n) = ns:=by rw [nmsE,addN,if_pos (by rw [← h1,← h3]; exact hmem)]
            simp only [zW,zX,zD,builtinA,isLeaf,const1,ustrA,simprocAttr,ti3,ti9,ti37,ti39,ca140,cf,Tryz.results140,hb,hg,xrows_length,decide_eq_true h1,decide_eq_true h3]
            refine .inl ⟨by kernel_rfl,by kernel_rfl,pi,pi,?_⟩
            rw [e]
            exact ⟨.inr ⟨j,rfl,by simp; omega,hb _⟩,FrN.app _ _ _⟩
          · simp only [zW,zX,zD,builtinA,isLeaf,const1,ustrA,simprocAttr,ti3,ti9,ti37,ti39,ca140,cf,Tryz.results140,hb,hg,xrows_length,decide_eq_true h1,decide_eq_false h3,hi1,LoopK_eq]
            refine .inl ⟨by kernel_rfl,by kernel_rfl,pi,pi,⟨i + 1,by omega,next (fun e=>h3 (by rw [e])),rfl⟩,?_⟩
            simp only [intOf]; omega
        · simp only [zW,zX,zD,builtinA,isLeaf,const1,ustrA,simprocAttr,ti3,ti9,ti37,ti39,ca140,cf,Tryz.results140,hb,hg,xrows_length,decide_eq_false h1,hi1,LoopK_eq]
          refine .inl ⟨by kernel_rfl,by kernel_rfl,pi,⟨i + 1,by omega,next (fun e=>h1 (by rw [e])),rfl⟩,?_⟩
          simp only [intOf]; omega
      · have hi2 : i = ns.length:=by simp at h2; omega
        subst hi2
        rw [List.take_length] at hq
        have e : nmsE ns (.nm m n) = ns ++ [(m,n)]:=by rw [nmsE,addN,if_neg hq]
        have hb2 : ∀ B C : List Box,((A ++ B) ++ C).getD j .dead = .row 9 (xrows ns) 0:=fun B C=>by rw [List.append_assoc]; exact hb _
        simp only [zW,zX,zD,builtinA,isLeaf,const1,ustrA,simprocAttr,ti3,ti9,ti37,ti39,ca140,cf,Tryz.results140,hb,hb2]
        have hjn : ∀ k,j ≠ A.length + k:=fun k=>by omega
        refine ⟨xcell_leaf m n,⟨xrow_nine m n,by rw [xrows_length]; omega⟩,.inr ⟨A.length + 2,rfl,by simp,?_⟩,⟨by simp; omega,.inr ⟨_,rfl,by omega⟩,fun x hx hne=>?_⟩⟩
        · rw [Abs.getD_append_right (by simp),e]
          simp [xrows,xrow]
        · have hxj : j ≠ x:=fun e=>hne (by rw [e])
          rw [Abs.getD_append_left (by simp; omega),getD_set_ne' hxj,Abs.getD_append_left hx]
theorem OwnX.fresh {A : List Box} {ns : List Nm} {r : AV} (h : OwnX A ns r) : r ≠ .own A.length:=by
  intro e
  rcases h with ⟨rfl,_⟩ | ⟨j,rfl,hj,_⟩
  · cases e
  · injection e with e; omega
theorem FrN.keep {r r' : AV} {A A' : List Box} {i : Nat} {b : Box} (h : FrN r r' A A') (hi : i < A.length) (hb : A.getD i .dead = b) (hr : r ≠ .own i) : i < A'.length ∧ A'.getD i .dead = b ∧ r' ≠ .own i:=by
  refine ⟨Nat.lt_of_lt_of_le hi h.1,by rw [h.2.2 _ hi hr]; exact hb,?_⟩
  rcases h.2.1 with rfl | ⟨j,rfl,hj⟩
  · exact hr
  · intro e; injection e with e; omega
set_option maxRecDepth 100000 in
theorem namE_of (v : VE) (h3 : kindE v ≠ 3) (ih : ∀ k ∈ kidsE v,NamE k) : NamE v:=fun A ns r0 hv hl hO=>by
  have hrl:=rowsE_length v
  have hk3:=kidsE_le v
  rw [encX_node]
  generalize hcs : [AV.int .i64 (kindE v),.int .i64 (nE v),.str (modE v),.str (nameE v),.int .i64 (argE v).kind,.str (argE v).mod,.str (argE v).name,.slice (encs (argE v).kids),.slice (rowsE v)] = cs
  have hO0:=hO.app [.cells cs]
  have hF0:=FrN.app r0 A [.cells cs]
  have hne0:=hO.fresh
  have hb0 : (A ++ [Box.cells cs]).getD A.length .dead = .cells cs:=by simp
  subst hcs
  refine acalls_enterK (cf:=cf 58 [0,1,3,4,5,6,9,13,33,47]) foll Tryz.func140 Tryz.ntmps140 (by simp [cf]) ?_
  simp only [Tryz.f140,EnterK_some,zW,zX,zD,builtinA,isLeaf,const1,ustrA,simprocAttr,ti3,ti9,ti37,ti39,ca140,cf,Tryz.results140]
  simp only [zW,zX,zD,builtinA,isLeaf,const1,ustrA,simprocAttr,ti3,ti9,ti37,ti39,ca140,cf,Tryz.results140,decide_eq_false h3]
  refine aloop_intro [0,3,6] (fun e A'=>∃ i r,i ≤ (kidsE v).length ∧ e = [(0,r),(3,.ptr A.length 0),(6,.int .i64 (i : Nat))] ∧ OwnX A' (nmsK ns v i) r ∧ FrN r0 r A A' ∧ A.length < A'.length ∧
    A'.getD A.length .dead = .cells [.int .i64 (kindE v),.int .i64 (nE v),.str (modE v),.str (nameE v),.int .i64 (argE v).kind,.str (argE v).mod,.str (argE v).name,.slice (encs (argE v).kids),.slice (rowsE v)] ∧ r ≠ .own A.length) (fun e _=>(kidsE v).length - (intOf (Abs.look 6 e)).toNat) ?_ ?_
  · simp only [zW,zX,zD,builtinA,isLeaf,const1,ustrA,simprocAttr,ti3,ti9,ti37,ti39,ca140,cf,Tryz.results140]
    refine ⟨0,r0,by omega,rfl,by rw [nmsK_zero]; exact hO0,hF0,?_⟩
    first | exact hne0 | exact ⟨by simp,hne0⟩ | exact ⟨hb0,hne0⟩ | exact ⟨by simp,hb0,hne0⟩
  · rintro e A' ⟨i,r,hi,rfl,hO',hF,hlt,hbx,hne⟩
    by_cases hlt2 : i < (kidsE v).length
    · have dl : decide ((i : Int) < ((kidsE v).length : Nat)) = true:=decide_eq_true (by omega)
      have hg:=rowsE_getD hlt2
      have hm:=kid_mem hlt2
      have hi1 : IntKind.i64.wrap ((i : Int) + 1) = ((i + 1 : Nat) : Int):=by rw [wrap64 (by omega) (by omega)]; rfl
      have hln:=nmsK_len ns v i hi
      have hc1:=cntK_succ hlt2
      have hc2:=cntK_le v (i + 1) hlt2
      have hrec:=ih _ hm A' (nmsK ns v i) r (okE_kid hv hm) (by omega) hO'
      rw [← nmsK_succ hlt2] at hrec
      simp only [zW,zX,zD,builtinA,isLeaf,const1,ustrA,simprocAttr,ti3,ti9,ti37,ti39,ca140,cf,Tryz.results140,hbx,hrl,dl,hg,encX_length,encX_take]
      refine ⟨⟨by omega,by omega⟩,?_⟩
      refine callO_intro hrec ?_
      rintro r' A2 ⟨hO2,hf2⟩
      obtain ⟨k1,k2,k3⟩:=hf2.keep hlt hbx hne
      simp only [zW,zX,zD,builtinA,isLeaf,const1,ustrA,simprocAttr,ti3,ti9,ti37,ti39,ca140,cf,Tryz.results140,hi1,LoopK_eq]
      refine ⟨⟨i + 1,r',by omega,rfl,hO2,hF.trans hf2,k1,k2,k3⟩,?_⟩
      simp only [intOf]; omega
    · have dl : decide ((i : Int) < ((kidsE v).length : Nat)) = false:=decide_eq_false (by omega)
      have e : i = (kidsE v).length:=by omega
      subst e
      rw [nmsK_all ns h3] at hO'
      simp only [zW,zX,zD,builtinA,isLeaf,const1,ustrA,simprocAttr,ti3,ti9,ti37,ti39,ca140,cf,Tryz.results140,hbx,hrl,dl]
      exact ⟨hO',hF⟩
theorem namE (v : VE) : NamE v:=by
  induction v using VE.indK with
  | h v ih =>
    by_cases h3 : kindE v = 3
    · obtain ⟨m,n,rfl⟩:=kind3 h3
      exact namE_nm m n
    · exact namE_of v h3 ih
def trow (v : VT) : List AV:=enc (toTy v)
def trows (ts : List VT) : List (List AV):=ts.map trow
theorem trows_length (ts : List VT) : (trows ts).length = ts.length:=by simp [trows]
theorem trows_getD {ts : List VT} {i : Nat} (h : i < ts.length) : (trows ts).getD i [] = enc (toTy (ts.getD i .num)):=by
  simp [trows,List.getD,h,trow]
def OwnT (A : List Box) (ts : List VT) (r : AV) : Prop :=
  (r = .nils ∧ ts = []) ∨ ∃ j,r = .own j ∧ j < A.length ∧ A.getD j .dead = .row 4 (trows ts) 0
theorem OwnT.app {A : List Box} {ts : List VT} {r : AV} (h : OwnT A ts r) (B : List Box) : OwnT (A ++ B) ts r:=by
  rcases h with h | ⟨j,h1,h2,h3⟩
  · exact .inl h
  · exact .inr ⟨j,h1,by simp; omega,by rw [Abs.getD_append_left h2]; exact h3⟩
theorem OwnT.fresh {A : List Box} {ts : List VT} {r : AV} (h : OwnT A ts r) : r ≠ .own A.length:=by
  intro e
  rcases h with ⟨rfl,_⟩ | ⟨j,rfl,hj,_⟩
  · cases e
  · injection e with e; omega
def tysE : List VT → VE → List VT
  | ts,.var _=>ts
  | ts,.num _=>ts
  | ts,.nm _ _=>ts
  | ts,.fn t b=>tysE (ts ++ [t]) b
  | ts,.app a b=>tysE (tysE ts a) b
  | ts,.add a b=>tysE (tysE ts a) b
  | ts,.ite c a b=>tysE (tysE (tysE ts c) a) b
theorem tysE_len : ∀ (v : VE) (ts : List VT),(tysE ts v).length ≤ ts.length + cntE v
  | .var _,ts=>by simp [tysE]
  | .num _,ts=>by simp [tysE]
  | .nm m n,ts=>by simp [tysE]
  | .fn t b,ts=>by have:=tysE_len b (ts ++ [t]); simp only [tysE,cntE,List.length_append,List.length_singleton] at this ⊢; omega
  | .app a b,ts=>by have:=tysE_len a ts; have:=tysE_len b (tysE ts a); simp only [tysE,cntE]; omega
  | .add a b,ts=>by have:=tysE_len a ts; have:=tysE_len b (tysE ts a); simp only [tysE,cntE]; omega
  | .ite c a b,ts=>by have:=tysE_len c ts; have:=tysE_len a (tysE ts c); have:=tysE_len b (tysE (tysE ts c) a); simp only [tysE,cntE]; omega
def tys0 (ts : List VT) : VE → List VT
  | .fn t _=>ts ++ [t]
  | _=>ts
def tysK (ts : List VT) (v : VE) (j : Nat) : List VT:=((kidsE v).take j).foldl tysE (tys0 ts v)
theorem tysK_zero (ts : List VT) (v : VE) : tysK ts v 0 = tys0 ts v:=by simp [tysK]
theorem tysK_succ {ts : List VT} {v : VE} {j : Nat} (h : j < (kidsE v).length) : tysK ts v (j + 1) = tysE (tysK ts v j) ((kidsE v).getD j ve0):=by
  have e : (kidsE v).take (j + 1) = (kidsE v).take j ++ [(kidsE v).getD j ve0]:=by rw [List.take_add_one]; simp [List.getD,h]
  unfold tysK
  rw [e,List.foldl_append]
  rfl
theorem tysK_all (v : VE) (ts : List VT) : tysK ts v (kidsE v).length = tysE ts v:=by
  cases v <;> simp [tysK,kidsE,tysE,tys0]
theorem tys0_len (ts : List VT) (v : VE) : (tys0 ts v).length ≤ ts.length + 1:=by
  cases v <;> simp [tys0]
theorem tysK_len (ts : List VT) (v : VE) : ∀ j,j ≤ (kidsE v).length → (tysK ts v j).length ≤ ts.length + 1 + cntK v j
  | 0,_=>by rw [tysK_zero]; have:=tys0_len ts v; simp [cntK]; omega
  | j + 1,h=>by
    have h1:=tysK_len ts v j (by omega)
    rw [tysK_succ (by omega),cntK_succ (by omega)]
    have:=tysE_len ((kidsE v).getD j ve0) (tysK ts v j)
    omega
def TysE (v : VE) : Prop:=∀ (A : List Box) (ts : List VT) (r0 : AV),ts.length + cntE v ≤ 2000 → OwnT A ts r0 → ACalls Tryz.prog 212 [r0,.agg (encX (toX v))] A (fun r A'=>OwnT A' (tysE ts v) r ∧ FrN r0 r A A')
theorem kind4 {v : VE} (h : kindE v = 4) : ∃ t b,v = .fn t b:=by
  cases v <;> simp [kindE] at h
  exact ⟨_,_,rfl⟩
theorem tys0_no {v : VE} (h : kindE v ≠ 4) (ts : List VT) : tys0 ts v = ts:=by
  cases v <;> simp_all [tys0,kindE]
def TyI (v : VE) (ts : List VT) (r0 : AV) (A : List Box) (i : Nat) (r : AV) (A' : List Box) : Prop :=
  OwnT A' (tysK ts v i) r ∧ FrN r0 r A A' ∧ A.length < A'.length ∧
    A'.getD A.length .dead = .cells [.int .i64 (kindE v),.int .i64 (nE v),.str (modE v),.str (nameE v),.int .i64 (argE v).kind,.str (argE v).mod,.str (argE v).name,.slice (encs (argE v).kids),.slice (rowsE v)] ∧ r ≠ .own A.length
theorem four_leaf (a : Int) (b c : List UInt8) (d : List (List AV)) : ∀ v ∈ [AV.int .i64 a,.str b,.str c,.slice d],isLeaf v = true:=by simp [isLeaf]
theorem four_row (a : Int) (b c : List UInt8) (d : List (List AV)) : ∀ r ∈ [[AV.int .i64 a,.str b,.str c,.slice d]],r.length = 4:=by simp
set_option maxRecDepth 100000 in
theorem tysE_of (v : VE) (ih : ∀ k ∈ kidsE v,TysE k) : TysE v:=fun A ts r0 hl hO=>by
  have hrl:=rowsE_length v
  have hk3:=kidsE_le v
  have hne0:=hO.fresh
  have hcp:=cntE_pos v
  rw [encX_node]
  rcases Decidable.em (kindE v = 4) with h4 | h4
  · obtain ⟨t,b,hvt⟩:=kind4 h4
    have h0 : tysK ts v 0 = ts ++ [t]:=by rw [tysK_zero,hvt]; rfl
    have hat : [AV.int .i64 (argE v).kind,.str (argE v).mod,.str (argE v).name,.slice (encs (argE v).kids)] = trow t:=by
      rw [hvt]; exact (encT4 (toTy t)).symm
    rcases hO with ⟨rfl,rfl⟩ | ⟨j,rfl,hj,hA⟩
    · refine acalls_enterK (cf:=cf 29 [0,1,3,4,5,8,18]) foll Tryz.func212 Tryz.ntmps212 (by simp [cf]) ?_
      simp only [Tryz.f212,EnterK_some,zW,zX,zD,builtinA,isLeaf,const1,ustrA,simprocAttr,ti3,ti34,ti36,ti37,ti39,ca212,cf,Tryz.results212]
      simp only [zW,zX,zD,builtinA,isLeaf,const1,ustrA,simprocAttr,ti3,ti34,ti36,ti37,ti39,ca212,cf,Tryz.results212,decide_eq_true h4]
      refine ⟨four_leaf _ _ _ _,four_row _ _ _ _,?_⟩
      have hI : TyI v [] .nils A 0 (.own (A.length + 2)) (A ++ [.cells [.int .i64 (kindE v),.int .i64 (nE v),.str (modE v),.str (nameE v),.int .i64 (argE v).kind,.str (argE v).mod,.str (argE v).name,.slice (encs (argE v).kids),.slice (rowsE v)],.row 4 [[.int .i64 (argE v).kind,.str (argE v).mod,.str (argE v).name,.slice (encs (argE v).kids)]] 0,.row 4 [[.int .i64 (argE v).kind,.str (argE v).mod,.str (argE v).name,.slice (encs (argE v).kids)]] 0]):=by
        refine ⟨.inr ⟨A.length + 2,rfl,by simp,?_⟩,⟨by simp,.inr ⟨_,rfl,by omega⟩,fun x hx _=>Abs.getD_append_left hx⟩,by simp,?_,fun e=>by injection e with e; omega⟩
        · rw [Abs.getD_append_right (by omega),h0,show A.length + 2 - A.length = 2 by omega]
          simp only [List.nil_append,trows,List.map_cons,List.map_nil,← hat]
          rfl
        · rw [Abs.getD_append_right (by omega)]; simp
      refine aloop_intro [0,3,5] (fun e A'=>∃ i r,i ≤ (kidsE v).length ∧ e = [(0,r),(3,.ptr A.length 0),(5,.int .i64 (i : Nat))] ∧ TyI v [] .nils A i r A') (fun e _=>(kidsE v).length - (intOf (Abs.look 5 e)).toNat) ?_ ?_
      · exact ⟨0,_,by omega,rfl,hI⟩
      · rintro e A' ⟨i,r,hi,rfl,hO',hF,hlt,hbx,hne⟩
        by_cases hlt2 : i < (kidsE v).length
        · have dl : decide ((i : Int) < ((kidsE v).length : Nat)) = true:=decide_eq_true (by omega)
          have hg:=rowsE_getD hlt2
          have hm:=kid_mem hlt2
          have hi1 : IntKind.i64.wrap ((i : Int) + 1) = ((i + 1 : Nat) : Int):=by rw [wrap64 (by omega) (by omega)]; rfl
          have hln:=tysK_len [] v i hi
          have hc1:=cntK_succ hlt2
          have hc2:=cntK_le v (i + 1) hlt2
          have hrec:=ih _ hm A' (tysK [] v i) r (by omega) hO'
          rw [← tysK_succ hlt2] at hrec
          simp only [zW,zX,zD,builtinA,isLeaf,const1,ustrA,simprocAttr,ti3,ti34,ti36,ti37,ti39,ca212,cf,Tryz.results212,hbx,hrl,dl,hg,encX_length,encX_take]
          refine ⟨⟨by omega,by omega⟩,?_⟩
          refine callO_intro hrec ?_
          rintro r' A2 ⟨hO2,hf2⟩
          obtain ⟨k1,k2,k3⟩:=hf2.keep hlt hbx hne
          simp only [zW,zX,zD,builtinA,isLeaf,const1,ustrA,simprocAttr,ti3,ti34,ti36,ti37,ti39,ca212,cf,Tryz.results212,hi1,LoopK_eq]
          refine ⟨⟨i + 1,r',by omega,rfl,hO2,hF.trans hf2,k1,k2,k3⟩,?_⟩
          simp only [intOf]; omega
        · have dl : decide ((i : Int) < ((kidsE v).length : Nat)) = false:=decide_eq_false (by omega)
          have e : i = (kidsE v).length:=by omega
          subst e
          rw [tysK_all v []] at hO'
          simp only [zW,zX,zD,builtinA,isLeaf,const1,ustrA,simprocAttr,ti3,ti34,ti36,ti37,ti39,ca212,cf,Tryz.results212,hbx,hrl,dl]
          exact ⟨hO',hF⟩
    · have hb : ∀ B,(A ++ B).getD j .dead = .row 4 (trows ts) 0:=fun B=>by rw [Abs.getD_append_left hj]; exact hA
      refine acalls_enterK (cf:=cf 29 [0,1,3,4,5,8,18]) foll Tryz.func212 Tryz.ntmps212 (by simp [cf]) ?_
      simp only [Tryz.f212,EnterK_some,zW,zX,zD,builtinA,isLeaf,const1,ustrA,simprocAttr,ti3,ti34,ti36,ti37,ti39,ca212,cf,Tryz.results212]
      simp only [zW,zX,zD,builtinA,isLeaf,const1,ustrA,simprocAttr,ti3,ti34,ti36,ti37,ti39,ca212,cf,Tryz.results212,decide_eq_true h4,hb]
      refine ⟨four_leaf _ _ _ _,⟨four_row _ _ _ _,by rw [trows_length]; omega⟩,?_⟩
      have hI : TyI v ts (.own j) A 0 (.own (A.length + 2)) ((A ++ [Box.cells [.int .i64 (kindE v),.int .i64 (nE v),.str (modE v),.str (nameE v),.int .i64 (argE v).kind,.str (argE v).mod,.str (argE v).name,.slice (encs (argE v).kids),.slice (rowsE v)],Box.row 4 [[.int .i64 (argE v).kind,.str (argE v).mod,.str (argE v).name,.slice (encs (argE v).kids)]] 0]).set j .dead ++ [Box.row 4 (trows ts ++ [[.int .i64 (argE v).kind,.str (argE v).mod,.str (argE v).name,.slice (encs (argE v).kids)]]) 0]):=by
        refine ⟨.inr ⟨A.length + 2,rfl,by simp,?_⟩,⟨by simp; omega,.inr ⟨_,rfl,by omega⟩,fun x hx hne=>?_⟩,by simp; omega,?_,fun e=>by injection e with e; omega⟩
        · rw [Abs.getD_append_right (by simp),h0]
          simp only [trows,List.map_append,List.map_cons,List.map_nil,← hat]
          simp
        · have hxj : j ≠ x:=fun e=>hne (by rw [e])
          rw [Abs.getD_append_left (by simp; omega),getD_set_ne' hxj,Abs.getD_append_left hx]
        · rw [Abs.getD_append_left (by simp),getD_set_ne' (by omega),Abs.getD_append_right (by omega)]; simp
      refine aloop_intro [0,3,5] (fun e A'=>∃ i r,i ≤ (kidsE v).length ∧ e = [(0,r),(3,.ptr A.length 0),(5,.int .i64 (i : Nat))] ∧ TyI v ts (.own j) A i r A') (fun e _=>(kidsE v).length - (intOf (Abs.look 5 e)).toNat) ?_ ?_
      · exact ⟨0,_,by omega,rfl,hI⟩
      · rintro e A' ⟨i,r,hi,rfl,hO',hF,hlt,hbx,hne⟩
        by_cases hlt2 : i < (kidsE v).length
        · have dl : decide ((i : Int) < ((kidsE v).length : Nat)) = true:=decide_eq_true (by omega)
          have hg:=rowsE_getD hlt2
          have hm:=kid_mem hlt2
          have hi1 : IntKind.i64.wrap ((i : Int) + 1) = ((i + 1 : Nat) : Int):=by rw [wrap64 (by omega) (by omega)]; rfl
          have hln:=tysK_len ts v i hi
          have hc1:=cntK_succ hlt2
          have hc2:=cntK_le v (i + 1) hlt2
          have hrec:=ih _ hm A' (tysK ts v i) r (by omega) hO'
          rw [← tysK_succ hlt2] at hrec
          simp only [zW,zX,zD,builtinA,isLeaf,const1,ustrA,simprocAttr,ti3,ti34,ti36,ti37,ti39,ca212,cf,Tryz.results212,hbx,hrl,dl,hg,encX_length,encX_take]
          refine ⟨⟨by omega,by omega⟩,?_⟩
          refine callO_intro hrec ?_
          rintro r' A2 ⟨hO2,hf2⟩
          obtain ⟨k1,k2,k3⟩:=hf2.keep hlt hbx hne
          simp only [zW,zX,zD,builtinA,isLeaf,const1,ustrA,simprocAttr,ti3,ti34,ti36,ti37,ti39,ca212,cf,Tryz.results212,hi1,LoopK_eq]
          refine ⟨⟨i + 1,r',by omega,rfl,hO2,hF.trans hf2,k1,k2,k3⟩,?_⟩
          simp only [intOf]; omega
        · have dl : decide ((i : Int) < ((kidsE v).length : Nat)) = false:=decide_eq_false (by omega)
          have e : i = (kidsE v).length:=by omega
          subst e
          rw [tysK_all v ts] at hO'
          simp only [zW,zX,zD,builtinA,isLeaf,const1,ustrA,simprocAttr,ti3,ti34,ti36,ti37,ti39,ca212,cf,Tryz.results212,hbx,hrl,dl]
          exact ⟨hO',hF⟩
  · have h0 : tysK ts v 0 = ts:=by rw [tysK_zero]; exact tys0_no h4 ts
    have hI : TyI v ts r0 A 0 r0 (A ++ [.cells [.int .i64 (kindE v),.int .i64 (nE v),.str (modE v),.str (nameE v),.int .i64 (argE v).kind,.str (argE v).mod,.str (argE v).name,.slice (encs (argE v).kids),.slice (rowsE v)]]):=⟨by rw [h0]; exact hO.app _,FrN.app _ _ _,by simp,by rw [Abs.getD_append_right (by omega)]; simp,hne0⟩
    refine acalls_enterK (cf:=cf 29 [0,1,3,4,5,8,18]) foll Tryz.func212 Tryz.ntmps212 (by simp [cf]) ?_
    simp only [Tryz.f212,EnterK_some,zW,zX,zD,builtinA,isLeaf,const1,ustrA,simprocAttr,ti3,ti34,ti36,ti37,ti39,ca212,cf,Tryz.results212]
    simp only [zW,zX,zD,builtinA,isLeaf,const1,ustrA,simprocAttr,ti3,ti34,ti36,ti37,ti39,ca212,cf,Tryz.results212,decide_eq_false h4]
    refine aloop_intro [0,3,5] (fun e A'=>∃ i r,i ≤ (kidsE v).length ∧ e = [(0,r),(3,.ptr A.length 0),(5,.int .i64 (i : Nat))] ∧ TyI v ts r0 A i r A') (fun e _=>(kidsE v).length - (intOf (Abs.look 5 e)).toNat) ?_ ?_
    · exact ⟨0,_,by omega,rfl,hI⟩
    · rintro e A' ⟨i,r,hi,rfl,hO',hF,hlt,hbx,hne⟩
      by_cases hlt2 : i < (kidsE v).length
      · have dl : decide ((i : Int) < ((kidsE v).length : Nat)) = true:=decide_eq_true (by omega)
        have hg:=rowsE_getD hlt2
        have hm:=kid_mem hlt2
        have hi1 : IntKind.i64.wrap ((i : Int) + 1) = ((i + 1 : Nat) : Int):=by rw [wrap64 (by omega) (by omega)]; rfl
        have hln:=tysK_len ts v i hi
        have hc1:=cntK_succ hlt2
        have hc2:=cntK_le v (i + 1) hlt2
        have hrec:=ih _ hm A' (tysK ts v i) r (by omega) hO'
        rw [← tysK_succ hlt2] at hrec
        simp only [zW,zX,zD,builtinA,isLeaf,const1,ustrA,simprocAttr,ti3,ti34,ti36,ti37,ti39,ca212,cf,Tryz.results212,hbx,hrl,dl,hg,encX_length,encX_take]
        refine ⟨⟨by omega,by omega⟩,?_⟩
        refine callO_intro hrec ?_
        rintro r' A2 ⟨hO2,hf2⟩
        obtain ⟨k1,k2,k3⟩:=hf2.keep hlt hbx hne
        simp only [zW,zX,zD,builtinA,isLeaf,const1,ustrA,simprocAttr,ti3,ti34,ti36,ti37,ti39,ca212,cf,Tryz.results212,hi1,LoopK_eq]
        refine ⟨⟨i + 1,r',by omega,rfl,hO2,hF.trans hf2,k1,k2,k3⟩,?_⟩
        simp only [intOf]; omega
      · have dl : decide ((i : Int) < ((kidsE v).length : Nat)) = false:=decide_eq_false (by omega)
        have e : i = (kidsE v).length:=by omega
        subst e
        rw [tysK_all v ts] at hO'
        simp only [zW,zX,zD,builtinA,isLeaf,const1,ustrA,simprocAttr,ti3,ti34,ti36,ti37,ti39,ca212,cf,Tryz.results212,hbx,hrl,dl]
        exact ⟨hO',hF⟩
theorem tysE' (v : VE) : TysE v:=by
  induction v using VE.indK with
  | h v ih=>exact tysE_of v ih
def allE (pn pt : Nm → Bool) : VE → Bool
  | .var _=>true
  | .num _=>true
  | .nm m n=>pn (m,n)
  | .fn t b=>allV pt t && allE pn pt b
  | .app a b=>allE pn pt a && allE pn pt b
  | .add a b=>allE pn pt a && allE pn pt b
  | .ite c a b=>(allE pn pt c && allE pn pt a) && allE pn pt b
def allN (pn : Nm → Bool) (v : VE) : Bool:=allE pn (fun _=>true) v
def allT (pt : Nm → Bool) (v : VE) : Bool:=allE (fun _=>true) pt v
theorem allV_tt : ∀ v,allV (fun _=>true) v = true
  | .num=>rfl
  | .nm _ _=>rfl
  | .fn a b=>by simp [allV,allV_tt a,allV_tt b]
theorem allE_split (pn pt : Nm → Bool) : ∀ v,allE pn pt v = (allN pn v && allT pt v)
  | .var _=>rfl
  | .num _=>rfl
  | .nm m n=>by simp [allE,allN,allT]
  | .fn t b=>by
    have:=allE_split pn pt b
    simp only [allN,allT] at this
    simp only [allE,allN,allT,this,allV_tt,Bool.true_and]
    cases allV pt t <;> cases allE pn (fun _=>true) b <;> rfl
  | .app a b=>by
    have ha:=allE_split pn pt a
    have hb:=allE_split pn pt b
    simp only [allN,allT] at ha hb
    simp only [allE,allN,allT,ha,hb]
    cases allE pn (fun _=>true) a <;> cases allE pn (fun _=>true) b <;> cases allE (fun _=>true) pt a <;> rfl
  | .add a b=>by
    have ha:=allE_split pn pt a
    have hb:=allE_split pn pt b
    simp only [allN,allT] at ha hb
    simp only [allE,allN,allT,ha,hb]
    cases allE pn (fun _=>true) a <;> cases allE pn (fun _=>true) b <;> cases allE (fun _=>true) pt a <;> rfl
  | .ite c a b=>by
    have hc:=allE_split pn pt c
    have ha:=allE_split pn pt a
    have hb:=allE_split pn pt b
    simp only [allN,allT] at ha hb hc
    simp only [allE,allN,allT,ha,hb,hc]
    cases allE pn (fun _=>true) c <;> cases allE pn (fun _=>true) a <;> cases allE pn (fun _=>true) b <;> cases allE (fun _=>true) pt a <;> cases allE (fun _=>true) pt c <;> rfl
theorem nmsE_all (p : Nm → Bool) : ∀ (v : VE) (ns : List Nm),(nmsE ns v).all p = (ns.all p && allN p v)
  | .var _,ns=>by simp [nmsE,allN,allE]
  | .num _,ns=>by simp [nmsE,allN,allE]
  | .nm m n,ns=>by simp only [nmsE,allN,allE]; exact addN_all p ns (m,n)
  | .fn t b,ns=>by have:=nmsE_all p b ns; simp only [allN] at this; simp only [nmsE,allN,allE,this,allV_tt,Bool.true_and]
  | .app a b,ns=>by
    have ha:=nmsE_all p a ns; have hb:=nmsE_all p b (nmsE ns a)
    simp only [allN] at ha hb; simp only [nmsE,allN,allE,ha,hb,Bool.and_assoc]
  | .add a b,ns=>by
    have ha:=nmsE_all p a ns; have hb:=nmsE_all p b (nmsE ns a)
    simp only [allN] at ha hb; simp only [nmsE,allN,allE,ha,hb,Bool.and_assoc]
  | .ite c a b,ns=>by
    have hc:=nmsE_all p c ns; have ha:=nmsE_all p a (nmsE ns c); have hb:=nmsE_all p b (nmsE (nmsE ns c) a)
    simp only [allN] at ha hb hc; simp only [nmsE,allN,allE,ha,hb,hc,Bool.and_assoc]
theorem tysE_all (p : Nm → Bool) : ∀ (v : VE) (ts : List VT),(tysE ts v).all (allV p) = (ts.all (allV p) && allT p v)
  | .var _,ts=>by simp [tysE,allT,allE]
  | .num _,ts=>by simp [tysE,allT,allE]
  | .nm m n,ts=>by simp [tysE,allT,allE]
  | .fn t b,ts=>by have:=tysE_all p b (ts ++ [t]); simp only [allT] at this; simp [tysE,allT,allE,this,Bool.and_assoc]
  | .app a b,ts=>by
    have ha:=tysE_all p a ts; have hb:=tysE_all p b (tysE ts a)
    simp only [allT] at ha hb; simp only [tysE,allT,allE,ha,hb,Bool.and_assoc]
  | .add a b,ts=>by
    have ha:=tysE_all p a ts; have hb:=tysE_all p b (tysE ts a)
    simp only [allT] at ha hb; simp only [tysE,allT,allE,ha,hb,Bool.and_assoc]
  | .ite c a b,ts=>by
    have hc:=tysE_all p c ts; have ha:=tysE_all p a (tysE ts c); have hb:=tysE_all p b (tysE (tysE ts c) a)
    simp only [allT] at ha hb hc; simp only [tysE,allT,allE,ha,hb,hc,Bool.and_assoc]
theorem tysE_ok : ∀ (v : VE) (ts : List VT),okE v → (∀ t ∈ ts,VOk t) → ∀ t ∈ tysE ts v,VOk t
  | .var _,ts,_,h=>h
  | .num _,ts,_,h=>h
  | .nm _ _,ts,_,h=>h
  | .fn t b,ts,ho,h=>tysE_ok b _ ho.2 fun u hu=>by
    rcases List.mem_append.1 hu with hu | hu
    · exact h u hu
    · rw [List.mem_singleton.1 hu]; exact ho.1
  | .app a b,ts,ho,h=>tysE_ok b _ ho.2 (tysE_ok a _ ho.1 h)
  | .add a b,ts,ho,h=>tysE_ok b _ ho.2 (tysE_ok a _ ho.1 h)
  | .ite c a b,ts,ho,h=>tysE_ok b _ ho.2.2 (tysE_ok a _ ho.2.1 (tysE_ok c _ ho.1 h))
end Go.Proofs.YtnjdbgiincliaaaGreat
/- The model's StructValid: definitions. -/
set_option linter.unusedVariables false
set_option linter.unusedSimpArgs false
namespace Go.Proofs.YtnjdbgiincliaaaGreat
open Go.Abs
theorem FrN.trans2 {r1 r2 : AV} {A B C : List Box} (h : FrN .nils r1 A B) (k : FrN .nils r2 B C) : FrN .nils r2 A C:=by
  refine ⟨Nat.le_trans h.1 k.1,?_,fun x hx hr=>?_⟩
  · rcases k.2.1 with h2 | ⟨j,h2,hj⟩
    · exact .inl h2
    · exact .inr ⟨j,h2,Nat.le_trans h.1 hj⟩
  · rw [k.2.2 x (Nat.lt_of_lt_of_le hx h.1) hr,h.2.2 x hx hr]
set_option maxRecDepth 100000 in
set_option maxHeartbeats 1000000 in
theorem spec_l4Known (s : List ItI) (hs : s.length ≤ 1048576) (v : VE) (hv : EOk v) (A : List Box) : ACalls Tryz.prog 296 [.slice (iEs s),.agg (encX (toX v))] A (fun r A'=>r = .bool (allE (kV s) (kT s) v) ∧ A' = A):=by
  have hall:=nmsE_all (kV s) v []
  have hall2:=tysE_all (kT s) v []
  simp only [List.all_nil,Bool.true_and] at hall hall2
  have hlen:=nmsE_len v []
  have hlen2:=tysE_len v []
  simp only [List.length_nil,Nat.zero_add] at hlen hlen2
  have htok:=tysE_ok v [] hv.ok (fun t ht=>by simp at ht)
  have hcnt:=hv.cnt
  rw [allE_split,← hall,← hall2]
  refine acalls_enter (cf:=cf 48 [0,1,3,4,5,6,7,8,14,32,38,47]) foll Tryz.func296 Tryz.ntmps296 (by simp [cf]) ?_
  simp only [Tryz.f296,EnterK_some,zW,zX,zD,builtinA,isLeaf,const1,ustrA,simprocAttr,ti3,ti9,ti34,ti36,ti37,ti39,ca140,ca212,ca293,ca295,cf,Tryz.results296]
  simp only [zW,zX,zD,builtinA,isLeaf,const1,ustrA,simprocAttr,ti3,ti9,ti34,ti36,ti37,ti39,ca140,ca212,ca293,ca295,cf,Tryz.results296,encX_length,encX_take]
  refine callO_intro (namE v _ [] .nils hv.ok (by simp; omega) (.inl ⟨rfl,rfl⟩)) ?_
  rintro r A1 ⟨hO,hF⟩
  obtain ⟨hl1,hb1,_⟩:=hF.keep (i:=A.length) (b:=.cells (encX (toX v))) (by simp) (by simp) (fun e=>nomatch e)
  rcases hO with ⟨rfl,hns⟩ | ⟨j,rfl,hj,hA⟩
  · rw [hns,show ([] : List Nm).all (kV s) = true from rfl,Bool.true_and]
    simp only [zW,zX,zD,builtinA,isLeaf,const1,ustrA,simprocAttr,ti3,ti9,ti34,ti36,ti37,ti39,ca140,ca212,ca293,ca295,cf,Tryz.results296]
    refine aloop_intro [0,3,5,6] (fun e B=>e = [(0,.slice (iEs s)),(3,.ptr A.length 0),(5,.nils),(6,.int .i64 0)] ∧ B = A1) (fun e _=>0) ?_ ?_
    · simp only [zW,zX,zD,builtinA,isLeaf,const1,ustrA,simprocAttr,ti3,ti9,ti34,ti36,ti37,ti39,ca140,ca212,ca293,ca295,cf,Tryz.results296]
    · rintro e B ⟨rfl,rfl⟩
      simp only [zW,zX,zD,builtinA,isLeaf,const1,ustrA,simprocAttr,ti3,ti9,ti34,ti36,ti37,ti39,ca140,ca212,ca293,ca295,cf,Tryz.results296,hb1,encX_length,encX_take]
      refine callO_intro (tysE' v _ [] .nils (by simp; omega) (.inl ⟨rfl,rfl⟩)) ?_
      rintro r2 A2 ⟨hO2,hF2⟩
      have hgo:=fr_out (hF.trans2 hF2) (fun k h=>nomatch h)
      rcases hO2 with ⟨rfl,hts⟩ | ⟨j2,rfl,hj2,hA2⟩
      · rw [hts]
        simp only [zW,zX,zD,builtinA,isLeaf,const1,ustrA,simprocAttr,ti3,ti9,ti34,ti36,ti37,ti39,ca140,ca212,ca293,ca295,cf,Tryz.results296]
        refine aloop_intro [0,7,8] (fun e C=>e = [(0,.slice (iEs s)),(7,.nils),(8,.int .i64 0)] ∧ C = A2) (fun e _=>0) ?_ ?_
        · simp only [zW,zX,zD,builtinA,isLeaf,const1,ustrA,simprocAttr,ti3,ti9,ti34,ti36,ti37,ti39,ca140,ca212,ca293,ca295,cf,Tryz.results296]
        · rintro e C ⟨rfl,rfl⟩
          simp only [zW,zX,zD,builtinA,isLeaf,const1,ustrA,simprocAttr,ti3,ti9,ti34,ti36,ti37,ti39,ca140,ca212,ca293,ca295,cf,Tryz.results296]
          exact hgo
      · generalize hts : tysE [] v = ts at *
        skip
        simp only [zW,zX,zD,builtinA,isLeaf,const1,ustrA,simprocAttr,ti3,ti9,ti34,ti36,ti37,ti39,ca140,ca212,ca293,ca295,cf,Tryz.results296]
        refine aloop_intro [0,7,8] (fun e C=>∃ i,i ≤ ts.length ∧ (ts.take i).all (allV (kT s)) = true ∧ e = [(0,.slice (iEs s)),(7,.own j2),(8,.int .i64 (i : Nat))] ∧ C = A2) (fun e _=>ts.length - (intOf (Abs.look 8 e)).toNat) ?_ ?_
        · simp only [zW,zX,zD,builtinA,isLeaf,const1,ustrA,simprocAttr,ti3,ti9,ti34,ti36,ti37,ti39,ca140,ca212,ca293,ca295,cf,Tryz.results296]
          exact ⟨0,by omega,by simp,rfl⟩
        · rintro e C ⟨i,hi,hq,rfl,rfl⟩
          simp only [zW,zX,zD,builtinA,isLeaf,const1,ustrA,simprocAttr,ti3,ti9,ti34,ti36,ti37,ti39,ca140,ca212,ca293,ca295,cf,Tryz.results296,hA2,trows_length]
          refine condK_intro (fun h2=>?_) (fun h2=>?_)
          · have hi2 : i < ts.length:=by simp at h2; omega
            have hg:=trows_getD hi2
            have htk : ts.take (i + 1) = ts.take i ++ [ts.getD i .num]:=by rw [List.take_add_one]; simp [List.getD,hi2]
            have hi1 : IntKind.i64.wrap ((i : Int) + 1) = ((i + 1 : Nat) : Int):=by rw [wrap64 (by omega) (by omega)]; rfl
            have hmem : ts.getD i .num ∈ ts:=by simp [List.getD,hi2]
            generalize ts.getD i .num = t at *
            have hto:=htok _ hmem
            have pi : (0 : Int) ≤ (i : Int) ∧ (i : Int) < (ts.length : Int):=⟨by omega,by omega⟩
            have hno : allV (kT s) t = false → ts.all (allV (kT s)) = false:=fun hk=>by
              rw [List.all_eq_false]
              exact ⟨t,hmem,by rw [hk]; decide⟩
            simp only [zW,zX,zD,builtinA,isLeaf,const1,ustrA,simprocAttr,ti3,ti9,ti34,ti36,ti37,ti39,ca140,ca212,ca293,ca295,cf,Tryz.results296,hA2,hg,trows_length,enc_length,enc_take]
            refine ⟨pi,?_⟩
            refine callK_intro (by simp only [zW,zX,zD,builtinA,isLeaf,const1,ustrA,simprocAttr,frzL_enc,Option.map_some]; rfl) (spec_l4KnownType s hs t hto.1 (by have:=hto.cnt; omega) _) ?_ rfl; rintro v A' ⟨rfl,rfl⟩
            cases hk : allV (kT s) t with
            | true =>
              simp only [zW,zX,zD,builtinA,isLeaf,const1,ustrA,simprocAttr,ti3,ti9,ti34,ti36,ti37,ti39,ca140,ca212,ca293,ca295,cf,Tryz.results296,hi1,LoopK_eq]
              refine ⟨⟨i + 1,by omega,by rw [htk]; simp [hq,hk],rfl⟩,?_⟩
              simp only [intOf]; omega
            | false =>
              simp only [zW,zX,zD,builtinA,isLeaf,const1,ustrA,simprocAttr,ti3,ti9,ti34,ti36,ti37,ti39,ca140,ca212,ca293,ca295,cf,Tryz.results296]
              exact ⟨hgo.1,by rw [hno hk],hgo.2⟩
          · have hi2 : i = ts.length:=by simp at h2; omega
            subst hi2
            rw [List.take_length] at hq
            simp only [zW,zX,zD,builtinA,isLeaf,const1,ustrA,simprocAttr,ti3,ti9,ti34,ti36,ti37,ti39,ca140,ca212,ca293,ca295,cf,Tryz.results296]
            exact ⟨hgo.1,by rw [hq],hgo.2⟩
  · generalize hns : nmsE [] v = ns at *
    simp only [zW,zX,zD,builtinA,isLeaf,const1,ustrA,simprocAttr,ti3,ti9,ti34,ti36,ti37,ti39,ca140,ca212,ca293,ca295,cf,Tryz.results296]
    refine aloop_intro [0,3,5,6] (fun e B=>∃ i,i ≤ ns.length ∧ (ns.take i).all (kV s) = true ∧ e = [(0,.slice (iEs s)),(3,.ptr A.length 0),(5,.own j),(6,.int .i64 (i : Nat))] ∧ B = A1) (fun e _=>ns.length - (intOf (Abs.look 6 e)).toNat) ?_ ?_
    · simp only [zW,zX,zD,builtinA,isLeaf,const1,ustrA,simprocAttr,ti3,ti9,ti34,ti36,ti37,ti39,ca140,ca212,ca293,ca295,cf,Tryz.results296]
      exact ⟨0,by omega,by simp,rfl⟩
    · rintro e B ⟨i,hi,hq,rfl,rfl⟩
      simp only [zW,zX,zD,builtinA,isLeaf,const1,ustrA,simprocAttr,ti3,ti9,ti34,ti36,ti37,ti39,ca140,ca212,ca293,ca295,cf,Tryz.results296,hA,xrows_length]
      refine condK_intro (fun h2=>?_) (fun h2=>?_)
      · have hi2 : i < ns.length:=by simp at h2; omega
        have hg:=xrows_getD hi2
        have htk : ns.take (i + 1) = ns.take i ++ [ns.getD i ([],[])]:=by rw [List.take_add_one]; simp [List.getD,hi2]
        have hi1 : IntKind.i64.wrap ((i : Int) + 1) = ((i + 1 : Nat) : Int):=by rw [wrap64 (by omega) (by omega)]; rfl
        have hno : kV s (ns.getD i ([],[])) = false → ns.all (kV s) = false:=fun hk=>by
          rw [List.all_eq_false]
          exact ⟨ns.getD i ([],[]),by simp [List.getD,hi2],by rw [hk]; decide⟩
        have hkp : kV s (ns.getD i ([],[])) = (!decide ((ns.getD i ([],[])).1 = []) || hasD s 2 (ns.getD i ([],[])).2):=rfl
        generalize hp : ns.getD i ([],[]) = p at *
        have pi : (0 : Int) ≤ (i : Int) ∧ (i : Int) < (ns.length : Int):=⟨by omega,by omega⟩
        have next : kV s p = true → (∃ i',i' ≤ ns.length ∧ (ns.take i').all (kV s) = true ∧ [(0,AV.slice (iEs s)),(3,AV.ptr A.length 0),(5,AV.own j),(6,AV.int .i64 ((i + 1 : Nat) : Int))] = [(0,.slice (iEs s)),(3,.ptr A.length 0),(5,.own j),(6,.int .i64 (i' : Nat))]):=fun hk=>⟨i + 1,by omega,by rw [htk]; simp [hq,hk],rfl⟩
        have hgo:=fr_out hF (fun k h=>nomatch h)
        by_cases hm : p.1 = []
        · rw [decide_eq_true hm,Bool.not_true,Bool.false_or] at hkp
          simp only [zW,zX,zD,builtinA,isLeaf,const1,ustrA,simprocAttr,ti3,ti9,ti34,ti36,ti37,ti39,ca140,ca212,ca293,ca295,cf,Tryz.results296,decide_eq_true hm,hA,hg,xrows_length]
          refine ⟨pi,pi,?_⟩
          refine callK_intro (by simp only [zW,zX,zD,builtinA,isLeaf,const1,ustrA,simprocAttr,Option.map_some]; rfl) (spec_l4Before s hs 2 p.2 _) ?_ rfl; rintro v A' ⟨rfl,rfl⟩
          rw [← hkp]
          cases hk : kV s p with
          | true =>
            simp only [zW,zX,zD,builtinA,isLeaf,const1,ustrA,simprocAttr,ti3,ti9,ti34,ti36,ti37,ti39,ca140,ca212,ca293,ca295,cf,Tryz.results296,hi1,LoopK_eq]
            refine ⟨next hk,?_⟩
            simp only [intOf]; omega
          | false =>
            simp only [zW,zX,zD,builtinA,isLeaf,const1,ustrA,simprocAttr,ti3,ti9,ti34,ti36,ti37,ti39,ca140,ca212,ca293,ca295,cf,Tryz.results296]
            rw [hno hk]
            exact ⟨hgo.1,rfl,hgo.2⟩
        · rw [decide_eq_false hm,Bool.not_false,Bool.true_or] at hkp
          simp only [zW,zX,zD,builtinA,isLeaf,const1,ustrA,simprocAttr,ti3,ti9,ti34,ti36,ti37,ti39,ca140,ca212,ca293,ca295,cf,Tryz.results296,decide_eq_false hm,hA,hg,xrows_length,hi1,LoopK_eq]
          refine ⟨pi,next hkp,?_⟩
          simp only [intOf]; omega
      · have hi2 : i = ns.length:=by simp at h2; omega
        subst hi2
        rw [List.take_length] at hq
        simp only [zW,zX,zD,builtinA,isLeaf,const1,ustrA,simprocAttr,ti3,ti9,ti34,ti36,ti37,ti39,ca140,ca212,ca293,ca295,cf,Tryz.results296,hb1,encX_length,encX_take]
        refine callO_intro (tysE' v _ [] .nils (by simp; omega) (.inl ⟨rfl,rfl⟩)) ?_
        rintro r2 A2 ⟨hO2,hF2⟩
        have hgo:=fr_out (hF.trans2 hF2) (fun k h=>nomatch h)
        rcases hO2 with ⟨rfl,hts⟩ | ⟨j2,rfl,hj2,hA2⟩
        · rw [hq,Bool.true_and,hts]
          simp only [zW,zX,zD,builtinA,isLeaf,const1,ustrA,simprocAttr,ti3,ti9,ti34,ti36,ti37,ti39,ca140,ca212,ca293,ca295,cf,Tryz.results296]
          refine aloop_intro [0,7,8] (fun e C=>e = [(0,.slice (iEs s)),(7,.nils),(8,.int .i64 0)] ∧ C = A2) (fun e _=>0) ?_ ?_
          · simp only [zW,zX,zD,builtinA,isLeaf,const1,ustrA,simprocAttr,ti3,ti9,ti34,ti36,ti37,ti39,ca140,ca212,ca293,ca295,cf,Tryz.results296]
          · rintro e C ⟨rfl,rfl⟩
            simp only [zW,zX,zD,builtinA,isLeaf,const1,ustrA,simprocAttr,ti3,ti9,ti34,ti36,ti37,ti39,ca140,ca212,ca293,ca295,cf,Tryz.results296]
            exact hgo
        · generalize hts : tysE [] v = ts at *
          rw [hq,Bool.true_and]
          simp only [zW,zX,zD,builtinA,isLeaf,const1,ustrA,simprocAttr,ti3,ti9,ti34,ti36,ti37,ti39,ca140,ca212,ca293,ca295,cf,Tryz.results296]
          refine aloop_intro [0,7,8] (fun e C=>∃ i,i ≤ ts.length ∧ (ts.take i).all (allV (kT s)) = true ∧ e = [(0,.slice (iEs s)),(7,.own j2),(8,.int .i64 (i : Nat))] ∧ C = A2) (fun e _=>ts.length - (intOf (Abs.look 8 e)).toNat) ?_ ?_
          · simp only [zW,zX,zD,builtinA,isLeaf,const1,ustrA,simprocAttr,ti3,ti9,ti34,ti36,ti37,ti39,ca140,ca212,ca293,ca295,cf,Tryz.results296]
            exact ⟨0,by omega,by simp,rfl⟩
          · rintro e C ⟨i,hi,hq,rfl,rfl⟩
            simp only [zW,zX,zD,builtinA,isLeaf,const1,ustrA,simprocAttr,ti3,ti9,ti34,ti36,ti37,ti39,ca140,ca212,ca293,ca295,cf,Tryz.results296,hA2,trows_length]
            refine condK_intro (fun h2=>?_) (fun h2=>?_)
            · have hi2 : i < ts.length:=by simp at h2; omega
              have hg:=trows_getD hi2
              have htk : ts.take (i + 1) = ts.take i ++ [ts.getD i .num]:=by rw [List.take_add_one]; simp [List.getD,hi2]
              have hi1 : IntKind.i64.wrap ((i : Int) + 1) = ((i + 1 : Nat) : Int):=by rw [wrap64 (by omega) (by omega)]; rfl
              have hmem : ts.getD i .num ∈ ts:=by simp [List.getD,hi2]
              generalize ts.getD i .num = t at *
              have hto:=htok _ hmem
              have pi : (0 : Int) ≤ (i : Int) ∧ (i : Int) < (ts.length : Int):=⟨by omega,by omega⟩
              have hno : allV (kT s) t = false → ts.all (allV (kT s)) = false:=fun hk=>by
                rw [List.all_eq_false]
                exact ⟨t,hmem,by rw [hk]; decide⟩
              simp only [zW,zX,zD,builtinA,isLeaf,const1,ustrA,simprocAttr,ti3,ti9,ti34,ti36,ti37,ti39,ca140,ca212,ca293,ca295,cf,Tryz.results296,hA2,hg,trows_length,enc_length,enc_take]
              refine ⟨pi,?_⟩
              refine callK_intro (by simp only [zW,zX,zD,builtinA,isLeaf,const1,ustrA,simprocAttr,frzL_enc,Option.map_some]; rfl) (spec_l4KnownType s hs t hto.1 (by have:=hto.cnt; omega) _) ?_ rfl; rintro v A' ⟨rfl,rfl⟩
              cases hk : allV (kT s) t with
              | true =>
                simp only [zW,zX,zD,builtinA,isLeaf,const1,ustrA,simprocAttr,ti3,ti9,ti34,ti36,ti37,ti39,ca140,ca212,ca293,ca295,cf,Tryz.results296,hi1,LoopK_eq]
                refine ⟨⟨i + 1,by omega,by rw [htk]; simp [hq,hk],rfl⟩,?_⟩
                simp only [intOf]; omega
              | false =>
                simp only [zW,zX,zD,builtinA,isLeaf,const1,ustrA,simprocAttr,ti3,ti9,ti34,ti36,ti37,ti39,ca140,ca212,ca293,ca295,cf,Tryz.results296]
                exact ⟨hgo.1,by rw [hno hk],hgo.2⟩
            · have hi2 : i = ts.length:=by simp at h2; omega
              subst hi2
              rw [List.take_length] at hq
              simp only [zW,zX,zD,builtinA,isLeaf,const1,ustrA,simprocAttr,ti3,ti9,ti34,ti36,ti37,ti39,ca140,ca212,ca293,ca295,cf,Tryz.results296]
              exact ⟨hgo.1,by rw [hq],hgo.2⟩
end Go.Proofs.YtnjdbgiincliaaaGreat
