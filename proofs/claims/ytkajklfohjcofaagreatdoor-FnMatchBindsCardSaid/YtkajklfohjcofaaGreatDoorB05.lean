/- OwnPlain, SubI. -/
import Derived.Test.YtkajklfohjcofaaGreatDoorB04
import Derived.Test.YtkajklfohjcofaaGreatDoorAbsW3
/- What the program's method plain makes: a type that is owned. -/
set_option linter.unusedVariables false
set_option linter.unusedSimpArgs false
namespace Go.Proofs.YtkajklfohjcofaaGreatDoor
open Go.Abs
def isFn : VT → Bool
  | .fn _ _=>true
  | _=>false
def plen : VT → Nat
  | .fn a b=>3 + plen a + plen b
  | _=>2
def prow : VT → Nat → Bool → List AV
  | .num,n,nest=>[.int .i64 1,.str [],.str [],bif nest then .nils else .slice []]
  | .nm m k,n,nest=>[.int .i64 3,.str m,.str k,bif nest then .nils else .slice []]
  | .fn a b,n,nest=>[.int .i64 2,.str [],.str [],.own (n + (2 + plen a + plen b))]
def pbox : VT → Nat → List Box
  | .num,n=>[.cells [],.cells [.int .i64 1,.str [],.str [],.nils]]
  | .nm m k,n=>[.cells [.str m,.str k],.cells [.int .i64 3,.str m,.str k,.nils]]
  | .fn a b,n=>.cells [.iface (vT a) (vX a),.iface (vT b) (vX b)] :: .cells [.int .i64 2,.str [],.str [],.own (n + (2 + plen a + plen b))] :: (pbox a (n + 2) ++ (pbox b (n + 2 + plen a) ++
      [.gr none 4 [prow a (n + 2) (isFn a || isFn b),prow b (n + 2 + plen a) (isFn a || isFn b)]]))
def pidx : VT → Nat → List Nat
  | .fn a b,n=>(n + (2 + plen a + plen b)) :: (pidx a (n + 2) ++ pidx b (n + 2 + plen a))
  | _,_=>[]
theorem pbox_length : ∀ v n,(pbox v n).length = plen v
  | .num,n=>rfl
  | .nm _ _,n=>rfl
  | .fn a b,n=>by simp [pbox,plen,pbox_length a,pbox_length b]; omega
theorem pidx_in : ∀ v n,∀ i ∈ pidx v n,n ≤ i ∧ i < n + plen v
  | .num,n=>by simp [pidx]
  | .nm _ _,n=>by simp [pidx]
  | .fn a b,n=>by
    intro i hi
    simp only [pidx,List.mem_cons,List.mem_append] at hi
    simp only [plen]
    rcases hi with rfl | hi | hi
    · omega
    · have:=pidx_in a _ i hi; omega
    · have:=pidx_in b _ i hi; omega
theorem pidx_nodup : ∀ v n,(pidx v n).Nodup
  | .num,n=>by simp [pidx]
  | .nm _ _,n=>by simp [pidx]
  | .fn a b,n=>by
    simp only [pidx,List.nodup_cons,List.mem_append,not_or]
    refine ⟨⟨fun h=>?_,fun h=>?_⟩,List.nodup_append.2 ⟨pidx_nodup a _,pidx_nodup b _,fun x hx y hy=>?_⟩⟩
    · have:=pidx_in a _ _ h; omega
    · have:=pidx_in b _ _ h; omega
    · have:=pidx_in a _ _ hx; have:=pidx_in b _ _ hy; omega
theorem prow_length (v : VT) (n : Nat) (b : Bool) : (prow v n b).length = 4:=by cases v <;> rfl
theorem prow_leaf (v : VT) (n : Nat) (h : isFn v = false) : ∀ x ∈ prow v n false,isLeaf x = true:=by
  cases v with
  | num=>simp [prow,isLeaf]
  | nm=>simp [prow,isLeaf]
  | fn=>cases h
theorem prow_elem (v : VT) (n : Nat) (b : Bool) : ∀ x ∈ prow v n b,isElem x = true:=by
  cases v <;> cases b <;> simp [prow,isElem,isLeaf]
theorem tail_app (A : List Box) (x y : Box) (P Q : List Box) (z : Box) : A ++ x :: y :: (P ++ (Q ++ [z])) = (A ++ x :: y :: (P ++ Q)) ++ [z]:=by simp
theorem pbox_top (x y : VT) (n : Nat) (B C : List Box) (h : B.length = n) : (B ++ pbox (.fn x y) n ++ C).getD (n + (2 + plen x + plen y)) .dead = .gr none 4 [prow x (n + 2) (isFn x || isFn y),prow y (n + 2 + plen x) (isFn x || isFn y)]:=by
  have hl:=pbox_length (.fn x y) n
  simp only [plen] at hl
  rw [Abs.getD_append_left (by rw [List.length_append]; omega),Abs.getD_append_right (by omega),h,show n + (2 + plen x + plen y) - n = (plen x + plen y) + 1 + 1 by omega]
  simp only [pbox,List.getD_cons_succ]
  rw [Abs.getD_append_right (by rw [pbox_length]; omega),pbox_length,show plen x + plen y - plen x = plen y by omega,Abs.getD_append_right (by rw [pbox_length]; omega),pbox_length,Nat.sub_self]
  rfl
theorem own_plain : ∀ (v : VT) (n : Nat) (nest : Bool) (L : List Box),(∀ k,k < plen v → L.getD (n + k) .dead = (pbox v n).getD k .dead) → OwnT L (toTy v) (prow v n nest) (pidx v n)
  | .num,n,nest,L,h=>by
    rw [toTy,ownT_mk]
    cases nest
    · exact ⟨.slice [],rfl,.inr (.inl ⟨rfl,rfl,rfl⟩)⟩
    · exact ⟨.nils,rfl,.inl ⟨rfl,rfl,rfl⟩⟩
  | .nm m k,n,nest,L,h=>by
    rw [toTy,ownT_mk]
    cases nest
    · exact ⟨.slice [],rfl,.inr (.inl ⟨rfl,rfl,rfl⟩)⟩
    · exact ⟨.nils,rfl,.inl ⟨rfl,rfl,rfl⟩⟩
  | .fn a b,n,nest,L,h=>by
    rw [toTy,ownT_mk]
    have ha:=own_plain a (n + 2) (isFn a || isFn b) L fun k hk=>by
      have:=h (2 + k) (by simp [plen]; omega)
      rw [show n + 2 + k = n + (2 + k) by omega,this]
      simp only [pbox]
      rw [show 2 + k = k + 1 + 1 by omega,List.getD_cons_succ,List.getD_cons_succ,Abs.getD_append_left (by rw [pbox_length]; exact hk)]
    have hb:=own_plain b (n + 2 + plen a) (isFn a || isFn b) L fun k hk=>by
      have:=h (2 + plen a + k) (by simp [plen]; omega)
      rw [show n + 2 + plen a + k = n + (2 + plen a + k) by omega,this]
      simp only [pbox]
      rw [show 2 + plen a + k = (plen a + k) + 1 + 1 by omega,List.getD_cons_succ,List.getD_cons_succ,Abs.getD_append_right (by rw [pbox_length]; omega),pbox_length,
        show plen a + k - plen a = k by omega,Abs.getD_append_left (by rw [pbox_length]; exact hk)]
    refine ⟨.own (n + (2 + plen a + plen b)),rfl,.inr (.inr ⟨_,[prow a (n + 2) (isFn a || isFn b),prow b (n + 2 + plen a) (isFn a || isFn b)],_,rfl,rfl,?_,?_⟩)⟩
    · rw [h (2 + plen a + plen b) (by rw [plen]; omega)]
      simp only [pbox]
      rw [show 2 + plen a + plen b = (plen a + plen b) + 1 + 1 by omega,List.getD_cons_succ,List.getD_cons_succ,Abs.getD_append_right (by rw [pbox_length]; omega),pbox_length,
        show plen a + plen b - plen a = plen b by omega,Abs.getD_append_right (by rw [pbox_length]; omega),pbox_length,Nat.sub_self]
      rfl
    · rw [OwnR]
      refine ⟨_,_,_,_,rfl,rfl,ha,?_⟩
      rw [OwnR]
      exact ⟨_,_,pidx b (n + 2 + plen a),[],rfl,by simp,hb,by simp [OwnR]⟩
theorem meth_invE {own : FuncId → Bool} {name : String} {gs : VT → FuncId} {v : VT} {args : List AV} {x : AV} {N : Nat} {ops : Array Oper} {T : Ranks} {As : Nat → List Box} {Q : Env → Prop} {k : Nat} {rest : List Oper} {d : Option Tmp} {e : Env}
    (hm : Met name gs) (h : ACalls Tryz.prog (gs v) (vX v :: args) (As (T.lo k)) (fun v' A'=>v' = x ∧ A' = As (T.next k (T.lo k)))) (hr : T.lo k = T.hi k)
    (hk : wpG Tryz.prog own N ops T As Q (k + 1) rest (putA N d x e)) : InvE Tryz.prog own N ops T As Q k name (.iface (vT v) (vX v)) args rest d e :=
  ⟨gs v,hm.find v,hm.call v,callEO_intro h hk hr⟩
def PlainM (v : VT) : Prop:=∀ A,ACalls Tryz.prog ((pickF 210 217 180) v) [vX v] A (fun r A'=>r = .agg (prow v A.length true) ∧ A' = A ++ pbox v A.length)
set_option maxRecDepth 100000 in
theorem num_plain : PlainM .num:=fun A=>by
  show ACalls Tryz.prog 210 _ _ _
  rw [vX]
  refine acalls_enterK (cf:=cf 4 [0,2]) foll Tryz.func210 Tryz.ntmps210 (by simp [cf]) ?_
  simp only [Tryz.f210,EnterK_some,zW,zX,zD,builtinA,isLeaf,const1,ustrA,simprocAttr,ti45,ti207,cf,Tryz.results210]
  exact ⟨rfl,rfl⟩
set_option maxRecDepth 100000 in
theorem name_plain (m k : List UInt8) : PlainM (.nm m k):=fun A=>by
  show ACalls Tryz.prog 180 _ _ _
  rw [vX]
  refine acalls_enterK (cf:=cf 8 [0,1,2]) foll Tryz.func180 Tryz.ntmps180 (by simp [cf]) ?_
  simp only [Tryz.f180,EnterK_some,zW,zX,zD,builtinA,isLeaf,const1,ustrA,simprocAttr,ti9,ti45,ti154,cf,Tryz.results180]
  exact ⟨rfl,rfl⟩
set_option maxRecDepth 100000 in
theorem fun_plain (a b : VT) (ha : PlainM a) (hb : PlainM b) : PlainM (.fn a b):=fun A=>by
  show ACalls Tryz.prog 217 _ _ _
  rw [vX]
  refine ACalls.grow ?_
  have ea : (pbox a (A.length + 2)).length = plen a:=pbox_length _ _
  have eb : (pbox b (A.length + 2 + plen a)).length = plen b:=pbox_length _ _
  have ca : ACalls Tryz.prog ((pickF 210 217 180) a) [vX a] (A ++ [Box.cells [.iface (vT a) (vX a),.iface (vT b) (vX b)],Box.cells [.int .i64 0,.str [],.str [],.nils]]) (fun r A'=>r = .agg (prow a (A.length + 2) true) ∧ A' = A ++ (Box.cells [.iface (vT a) (vX a),.iface (vT b) (vX b)] :: Box.cells [.int .i64 0,.str [],.str [],.nils] :: pbox a (A.length + 2))):=by
    have:=ha (A ++ [Box.cells [.iface (vT a) (vX a),.iface (vT b) (vX b)],Box.cells [.int .i64 0,.str [],.str [],.nils]])
    simpa using this
  have cb : ACalls Tryz.prog ((pickF 210 217 180) b) [vX b] (A ++ (Box.cells [.iface (vT a) (vX a),.iface (vT b) (vX b)] :: Box.cells [.int .i64 0,.str [],.str [],.nils] :: pbox a (A.length + 2))) (fun r A'=>r = .agg (prow b (A.length + 2 + plen a) true) ∧ A' = A ++ (Box.cells [.iface (vT a) (vX a),.iface (vT b) (vX b)] :: Box.cells [.int .i64 0,.str [],.str [],.nils] :: (pbox a (A.length + 2) ++ pbox b (A.length + 2 + plen a)))):=by
    have:=hb (A ++ (Box.cells [.iface (vT a) (vX a),.iface (vT b) (vX b)] :: Box.cells [.int .i64 0,.str [],.str [],.nils] :: pbox a (A.length + 2)))
    have hl : (A ++ (Box.cells [.iface (vT a) (vX a),.iface (vT b) (vX b)] :: Box.cells [.int .i64 0,.str [],.str [],.nils] :: pbox a (A.length + 2))).length = A.length + 2 + plen a:=by simp [ea]; omega
    rw [hl] at this
    simpa using this
  have hl2 : (A ++ (Box.cells [.iface (vT a) (vX a),.iface (vT b) (vX b)] :: Box.cells [.int .i64 0,.str [],.str [],.nils] :: (pbox a (A.length + 2) ++ pbox b (A.length + 2 + plen a)))).length = A.length + (2 + plen a + plen b):=by simp [ea,eb]; omega
  cases hf : (isFn a || isFn b) with
  | false =>
    have fz : ∀ B,frzs [.agg (prow a (A.length + 2) true),.agg (prow b (A.length + 2 + plen a) true)] B = some ([.agg (prow a (A.length + 2) false),.agg (prow b (A.length + 2 + plen a) false)],B):=by
      intro B
      cases a <;> cases b <;> simp [isFn] at hf <;> rfl
    have la : (prow a (A.length + 2) false).length = 4:=prow_length _ _ _
    have lb : (prow b (A.length + 2 + plen a) false).length = 4:=prow_length _ _ _
    refine acalls_enterK (cf:=cf 11 [0,1,2]) foll Tryz.func217 Tryz.ntmps217 (by simp [cf]) ?_
    simp only [Tryz.f217,EnterK_some,zW,zX,zD,builtinA,isLeaf,const1,ustrA,simprocAttr,ti43,ti45,ti92,ti218,cf,Tryz.results217]
    refine .inr (drawE_intro [(false,0,0),(false,0,0),(true,0,0),(false,0,1),(false,0,1),(true,1,1),(true,2,2),(false,3,3),(true,3,3)] [A ++ [Box.cells [.iface (vT a) (vX a),.iface (vT b) (vX b)],Box.cells [.int .i64 0,.str [],.str [],.nils]],A ++ (Box.cells [.iface (vT a) (vX a),.iface (vT b) (vX b)] :: Box.cells [.int .i64 0,.str [],.str [],.nils] :: pbox a (A.length + 2)),A ++ (Box.cells [.iface (vT a) (vX a),.iface (vT b) (vX b)] :: Box.cells [.int .i64 0,.str [],.str [],.nils] :: (pbox a (A.length + 2) ++ pbox b (A.length + 2 + plen a))),A ++ (Box.cells [.iface (vT a) (vX a),.iface (vT b) (vX b)] :: Box.cells [.int .i64 0,.str [],.str [],.nils] :: (pbox a (A.length + 2) ++ (pbox b (A.length + 2 + plen a) ++ [.row 4 [prow a (A.length + 2) false,prow b (A.length + 2 + plen a) false] 0]))),A ++ (Box.cells [.iface (vT a) (vX a),.iface (vT b) (vX b)] :: Box.cells [.int .i64 2,.str [],.str [],.own (A.length + (2 + plen a + plen b))] :: (pbox a (A.length + 2) ++ (pbox b (A.length + 2 + plen a) ++ [.row 4 [prow a (A.length + 2) false,prow b (A.length + 2 + plen a) false] 0])))] 4 rfl (by kernel_rfl) (by kernel_rfl) (by kernel_rfl) (by kernel_rfl) (by kernel_rfl) (by kernel_rfl) ?_)
    simp only [zW,zX,zD,builtinA,isLeaf,const1,ustrA,simprocAttr,ti43,ti45,ti92,ti218,cf,Tryz.results217]
    refine wpG_invoke _ _ _ _ _ _ _ _ _ _ _ _ _ _ _ _ _ _ ?_
    simp only [zW,zX,zD,builtinA,isLeaf,const1,ustrA,simprocAttr,ti43,ti45,ti92,ti218,cf,Tryz.results217]
    refine meth_invE (met3 (by kernel_rfl) (by kernel_rfl) (by kernel_rfl) (by kernel_rfl) (by kernel_rfl) (by kernel_rfl)) ca rfl ?_
    simp only [zW,zX,zD,builtinA,isLeaf,const1,ustrA,simprocAttr,ti43,ti45,ti92,ti218,cf,Tryz.results217]
    refine wpG_invoke _ _ _ _ _ _ _ _ _ _ _ _ _ _ _ _ _ _ ?_
    simp only [zW,zX,zD,builtinA,isLeaf,const1,ustrA,simprocAttr,ti43,ti45,ti92,ti218,cf,Tryz.results217]
    refine meth_invE (met3 (by kernel_rfl) (by kernel_rfl) (by kernel_rfl) (by kernel_rfl) (by kernel_rfl) (by kernel_rfl)) cb rfl ?_
    simp only [zW,zX,zD,builtinA,isLeaf,const1,ustrA,simprocAttr,ti43,ti45,ti92,ti218,cf,Tryz.results217,fz,la,lb,hl2]
    refine ⟨⟨prow_leaf a _ (by simp at hf; exact hf.1),prow_leaf b _ (by simp at hf; exact hf.2)⟩,.inr ⟨A.length + (2 + plen a + plen b),4,[prow a (A.length + 2) false,prow b (A.length + 2 + plen a) false],?_,rfl,?_⟩⟩
    · rw [tail_app A _ _ (pbox a (A.length + 2)) (pbox b (A.length + 2 + plen a)) _,Abs.getD_append_right (by simp [ea,eb]; omega)]
      simp [ea,eb]
      rw [show A.length + (2 + plen a + plen b) - (A.length + (plen a + plen b + 1 + 1)) = 0 by omega]
      rfl
    · rw [tail_app A _ _ (pbox a (A.length + 2)) (pbox b (A.length + 2 + plen a)) _,List.set_append_right _ _ (by simp [ea,eb]; omega)]
      simp [ea,eb]
      rw [show A.length + (2 + plen a + plen b) - (A.length + (plen a + plen b + 1 + 1)) = 0 by omega]
      simp [pbox,hf]
  | true =>
    have fz : frzs [.agg (prow a (A.length + 2) true),.agg (prow b (A.length + 2 + plen a) true)] (A ++ (Box.cells [.iface (vT a) (vX a),.iface (vT b) (vX b)] :: Box.cells [.int .i64 0,.str [],.str [],.nils] :: (pbox a (A.length + 2) ++ pbox b (A.length + 2 + plen a)))) = none:=by
      have hb2 : ∀ B C : List Box,B.length = A.length + 2 + plen a → isFn b = true → frzC (.agg (prow b (A.length + 2 + plen a) true)) (B ++ pbox b (A.length + 2 + plen a) ++ C) = none:=fun B C hB h=>by
        cases b with
        | num=>cases h
        | nm=>cases h
        | fn x y =>
          have hg : (B ++ pbox (.fn x y) (A.length + 2 + plen a) ++ C).getD (A.length + 2 + plen a + (2 + plen x + plen y)) .dead = .gr none 4 [prow x (A.length + 2 + plen a + 2) (isFn x || isFn y),prow y (A.length + 2 + plen a + 2 + plen x) (isFn x || isFn y)]:=pbox_top _ _ _ _ _ hB
          simp only [prow,frzC,frzL,frz1,hg]
          rfl
      have ha2 : ∀ B C : List Box,B.length = A.length + 2 → frzC (.agg (prow a (A.length + 2) true)) (B ++ pbox a (A.length + 2) ++ C) = if isFn a = true then none else some (.agg (prow a (A.length + 2) false),(B ++ pbox a (A.length + 2) ++ C)):=fun B C hB=>by
        cases a with
        | num=>rfl
        | nm=>rfl
        | fn x y =>
          have hg : (B ++ pbox (.fn x y) (A.length + 2) ++ C).getD (A.length + 2 + (2 + plen x + plen y)) .dead = .gr none 4 [prow x (A.length + 2 + 2) (isFn x || isFn y),prow y (A.length + 2 + 2 + plen x) (isFn x || isFn y)]:=pbox_top _ _ _ _ _ hB
          simp only [prow,frzC,frzL,frz1,hg]
          rfl
      have e1 : (A ++ (Box.cells [.iface (vT a) (vX a),.iface (vT b) (vX b)] :: Box.cells [.int .i64 0,.str [],.str [],.nils] :: (pbox a (A.length + 2) ++ pbox b (A.length + 2 + plen a)))) = (A ++ [Box.cells [.iface (vT a) (vX a),.iface (vT b) (vX b)],Box.cells [.int .i64 0,.str [],.str [],.nils]]) ++ pbox a (A.length + 2) ++ pbox b (A.length + 2 + plen a):=by simp
      rw [e1]
      simp only [frzs]
      rw [ha2 _ _ (by simp)]
      by_cases h : isFn a = true
      · rw [if_pos h]
      · rw [if_neg h]
        have hb1 : isFn b = true:=by simp [h] at hf; exact hf
        have:=hb2 ((A ++ [Box.cells [.iface (vT a) (vX a),.iface (vT b) (vX b)],Box.cells [.int .i64 0,.str [],.str [],.nils]]) ++ pbox a (A.length + 2)) [] (by simp [ea]; omega) hb1
        rw [List.append_nil] at this
        simp only [this]
    have la : (prow a (A.length + 2) true).length = 4:=prow_length _ _ _
    have lb : (prow b (A.length + 2 + plen a) true).length = 4:=prow_length _ _ _
    refine acalls_enterK (cf:=cf 11 [0,1,2]) foll Tryz.func217 Tryz.ntmps217 (by simp [cf]) ?_
    simp only [Tryz.f217,EnterK_some,zW,zX,zD,builtinA,isLeaf,const1,ustrA,simprocAttr,ti43,ti45,ti92,ti218,cf,Tryz.results217]
    refine .inr (drawE_intro [(false,0,0),(false,0,0),(true,0,0),(false,0,1),(false,0,1),(true,1,1),(true,2,2),(false,3,3),(true,3,3)] [A ++ [Box.cells [.iface (vT a) (vX a),.iface (vT b) (vX b)],Box.cells [.int .i64 0,.str [],.str [],.nils]],A ++ (Box.cells [.iface (vT a) (vX a),.iface (vT b) (vX b)] :: Box.cells [.int .i64 0,.str [],.str [],.nils] :: pbox a (A.length + 2)),A ++ (Box.cells [.iface (vT a) (vX a),.iface (vT b) (vX b)] :: Box.cells [.int .i64 0,.str [],.str [],.nils] :: (pbox a (A.length + 2) ++ pbox b (A.length + 2 + plen a))),A ++ (Box.cells [.iface (vT a) (vX a),.iface (vT b) (vX b)] :: Box.cells [.int .i64 0,.str [],.str [],.nils] :: (pbox a (A.length + 2) ++ (pbox b (A.length + 2 + plen a) ++ [.gr none 4 [prow a (A.length + 2) true,prow b (A.length + 2 + plen a) true]]))),A ++ (Box.cells [.iface (vT a) (vX a),.iface (vT b) (vX b)] :: Box.cells [.int .i64 2,.str [],.str [],.own (A.length + (2 + plen a + plen b))] :: (pbox a (A.length + 2) ++ (pbox b (A.length + 2 + plen a) ++ [.gr none 4 [prow a (A.length + 2) true,prow b (A.length + 2 + plen a) true]])))] 4 rfl (by kernel_rfl) (by kernel_rfl) (by kernel_rfl) (by kernel_rfl) (by kernel_rfl) (by kernel_rfl) ?_)
    simp only [zW,zX,zD,builtinA,isLeaf,const1,ustrA,simprocAttr,ti43,ti45,ti92,ti218,cf,Tryz.results217]
    refine wpG_invoke _ _ _ _ _ _ _ _ _ _ _ _ _ _ _ _ _ _ ?_
    simp only [zW,zX,zD,builtinA,isLeaf,const1,ustrA,simprocAttr,ti43,ti45,ti92,ti218,cf,Tryz.results217]
    refine meth_invE (met3 (by kernel_rfl) (by kernel_rfl) (by kernel_rfl) (by kernel_rfl) (by kernel_rfl) (by kernel_rfl)) ca rfl ?_
    simp only [zW,zX,zD,builtinA,isLeaf,const1,ustrA,simprocAttr,ti43,ti45,ti92,ti218,cf,Tryz.results217]
    refine wpG_invoke _ _ _ _ _ _ _ _ _ _ _ _ _ _ _ _ _ _ ?_
    simp only [zW,zX,zD,builtinA,isLeaf,const1,ustrA,simprocAttr,ti43,ti45,ti92,ti218,cf,Tryz.results217]
    refine meth_invE (met3 (by kernel_rfl) (by kernel_rfl) (by kernel_rfl) (by kernel_rfl) (by kernel_rfl) (by kernel_rfl)) cb rfl ?_
    simp only [zW,zX,zD,builtinA,isLeaf,const1,ustrA,simprocAttr,ti43,ti45,ti92,ti218,cf,Tryz.results217,fz,la,lb,hl2]
    refine ⟨⟨prow_elem a _ _,prow_elem b _ _⟩,.inl ⟨rfl,?_⟩⟩
    simp [pbox,hf]
theorem plainM : ∀ v,PlainM v
  | .num=>num_plain
  | .nm m k=>name_plain m k
  | .fn a b=>fun_plain a b (plainM a) (plainM b)
end Go.Proofs.YtkajklfohjcofaaGreatDoor
/- The program's SubstType: what it hands back is memory of its own. -/
set_option linter.unusedVariables false
set_option linter.unusedSimpArgs false
namespace Go.Proofs.YtkajklfohjcofaaGreatDoor
open Go.Abs
abbrev BNm:=List UInt8 × List UInt8
def bkE (p : BNm) : List AV:=[.str p.1,.str p.2]
def lookB (p : BNm) : List (BNm × VT) → Option VT
  | []=>none
  | (q,v) :: m=>if p = q then some v else lookB p m
def subV (m : List (BNm × VT)) : VT → VT
  | .num=>.num
  | .nm a b=>(lookB (a,b) m).getD (.nm a b)
  | .fn a b=>.fn (subV m a) (subV m b)
def esB (m : List (BNm × VT)) : List (AV × AV):=m.map fun q=>(.agg (bkE q.1),.iface (vT q.2) (vX q.2))
abbrev KB : List (Nat × TK):=[(0,.str),(1,.str)]
theorem bkE_eq (x y : BNm) : eqK KB (bkE x) (bkE y) = some (decide (x = y)):=by
  have : decide (x = y) = (decide (x.1 = y.1) && (decide (x.2 = y.2) && true)):=by
    rw [Bool.eq_iff_iff]
    simp [Prod.ext_iff]
  rw [this]
  simp [KB,eqK,bkE,c1A]
  try congr 1
theorem find_b (q : BNm) : ∀ (m : List (BNm × VT)) (n : Nat),(findA KB (bkE q) (esB m) n = some none ∧ lookB q m = none) ∨ ∃ j v,findA KB (bkE q) (esB m) n = some (some (j,.iface (vT v) (vX v))) ∧ lookB q m = some v
  | [],n=>.inl ⟨rfl,rfl⟩
  | (p,v) :: m,n=>by
    simp only [esB,List.map_cons,findA]
    rw [if_pos (show (bkE p).length = (bkE q).length from rfl),bkE_eq]
    by_cases h : q = p
    · subst h
      simp only [decide_true,lookB,if_true]
      exact .inr ⟨_,_,rfl,rfl⟩
    · simp only [decide_eq_false h,lookB,if_neg h]
      exact find_b q m (n + 1)
theorem esB_app (m : List (BNm × VT)) (p : BNm) (v : VT) : esB m ++ [(.agg [.str p.1,.str p.2],.iface (vT v) (vX v))] = esB (m ++ [(p,v)]):=by simp [esB,bkE]
def SubM (m : List (BNm × VT)) (v : VT) : Prop:=∀ A i,i < A.length → A.getD i .dead = .mapb (esB m) → ACalls Tryz.prog ((pickF 212 219 182) v) [vX v,.map i] A (fun r A'=>r = .iface (vT (subV m v)) (vX (subV m v)) ∧ A' = A)
theorem num_sub (m : List (BNm × VT)) : SubM m .num:=fun A i hi hA=>by
  show ACalls Tryz.prog 212 _ _ _
  rw [vX]
  refine acalls_enter (cf:=cf 7 [0,4]) foll Tryz.func212 Tryz.ntmps212 (by simp [cf]) ?_
  simp only [Tryz.f212,EnterK_some,zW,zX,zD,builtinA,isLeaf,const1,ustrA,simprocAttr,ti207,cf,Tryz.results212]
  try rfl
set_option maxRecDepth 100000 in
theorem name_sub (m : List (BNm × VT)) (a b : List UInt8) : SubM m (.nm a b):=fun A i hi hA=>by
  show ACalls Tryz.prog 182 _ _ _
  rw [vX]
  have g1 : ∀ B : List Box,(A ++ B).getD i .dead = .mapb (esB m):=fun B=>by rw [Abs.getD_append_left hi]; exact hA
  rcases find_b (a,b) m 0 with ⟨h1,h2⟩ | ⟨j,v,h1,h2⟩
  · simp only [bkE] at h1
    rw [subV,h2]
    refine acalls_enter (cf:=cf 17 [0,1,2,4,5,6,13]) foll Tryz.func182 Tryz.ntmps182 (by simp [cf]) ?_
    simp only [Tryz.f182,EnterK_some,zW,zX,zD,builtinA,isLeaf,const1,ustrA,simprocAttr,ti102,ti154,mi102,cf,Tryz.results182]
    simp only [zW,zX,zD,builtinA,isLeaf,const1,ustrA,simprocAttr,ti102,ti154,mi102,cf,Tryz.results182,g1,h1]
    rfl
  · simp only [bkE] at h1
    rw [subV,h2]
    refine acalls_enter (cf:=cf 17 [0,1,2,4,5,6,13]) foll Tryz.func182 Tryz.ntmps182 (by simp [cf]) ?_
    simp only [Tryz.f182,EnterK_some,zW,zX,zD,builtinA,isLeaf,const1,ustrA,simprocAttr,ti102,ti154,mi102,cf,Tryz.results182]
    simp only [zW,zX,zD,builtinA,isLeaf,const1,ustrA,simprocAttr,ti102,ti154,mi102,cf,Tryz.results182,g1,h1]
set_option maxRecDepth 100000 in
theorem fun_sub (m : List (BNm × VT)) (a b : VT) (ha : SubM m a) (hb : SubM m b) : SubM m (.fn a b):=fun A i hi hA=>by
  show ACalls Tryz.prog 219 _ _ _
  rw [vX]
  have g1 : ∀ B : List Box,(A ++ B).getD i .dead = .mapb (esB m):=fun B=>by rw [Abs.getD_append_left hi]; exact hA
  refine acalls_enter (cf:=cf 15 [0,1,2,4]) foll Tryz.func219 Tryz.ntmps219 (by simp [cf]) ?_
  simp only [Tryz.f219,EnterK_some,zW,zX,zD,builtinA,isLeaf,const1,ustrA,simprocAttr,ti92,ti218,cf,Tryz.results219]
  refine .inl ⟨by kernel_rfl,by kernel_rfl,?_⟩
  refine wpD_invoke _ _ _ _ _ _ _ _ _ _ _ _ _ _ _ _ ?_
  simp only [zW,zX,zD,builtinA,isLeaf,const1,ustrA,simprocAttr,ti92,ti218,cf,Tryz.results219]
  refine meth_invD (met3 (by kernel_rfl) (by kernel_rfl) (by kernel_rfl) (by kernel_rfl) (by kernel_rfl) (by kernel_rfl)) (ha _ i (by simp; omega) (g1 _)) rfl (fun _=>rfl) ?_
  simp only [zW,zX,zD,builtinA,isLeaf,const1,ustrA,simprocAttr,ti92,ti218,cf,Tryz.results219]
  refine wpD_invoke _ _ _ _ _ _ _ _ _ _ _ _ _ _ _ _ ?_
  simp only [zW,zX,zD,builtinA,isLeaf,const1,ustrA,simprocAttr,ti92,ti218,cf,Tryz.results219]
  refine meth_invD (met3 (by kernel_rfl) (by kernel_rfl) (by kernel_rfl) (by kernel_rfl) (by kernel_rfl) (by kernel_rfl)) (hb _ i (by simp; omega) (g1 _)) rfl (fun _=>rfl) ?_
  simp only [zW,zX,zD,builtinA,isLeaf,const1,ustrA,simprocAttr,ti92,ti218,cf,Tryz.results219]
  try rfl
theorem subM (m : List (BNm × VT)) : ∀ v,SubM m v
  | .num=>num_sub m
  | .nm a b=>name_sub m a b
  | .fn a b=>fun_sub m a b (subM m a) (subM m b)
end Go.Proofs.YtkajklfohjcofaaGreatDoor
namespace Go.Proofs.YtkajklfohjcofaaGreatDoor
open Go.Abs
def addB (m : List (BNm × VT)) (p : BNm) (v : VT) : List (BNm × VT) :=
  match lookB p m with
  | some _=>m
  | none=>m ++ [(p,v)]
def foldB (bd : List (BNm × VT)) : List (BNm × VT):=bd.foldl (fun m q=>addB m q.1 q.2) []
def ofB (q : BNm × VT) : BdI:=⟨q.1.1,q.1.2,toTy q.2⟩
def okQ (q : BNm × VT) : Prop:=VOk q.2 ∧ nmB q.1.1 q.1.2 = true
def badB (b : BdI) : Prop:=validB b.typ = false ∨ nmB b.mod b.name = false
theorem foldB_snoc (bd : List (BNm × VT)) (q : BNm × VT) : foldB (bd ++ [q]) = addB (foldB bd) q.1 q.2:=by simp [foldB]
theorem takeB {bs : List BdI} {i : Nat} {bd : List (BNm × VT)} {b : BdI} {v : VT} (h : i < bs.length) (hb : bs.getD i bd0 = b) (ht : b.typ = toTy v) (hbd : bs.take i = bd.map ofB) : bs.take (i + 1) = (bd ++ [((b.mod,b.name),v)]).map ofB:=by
  rw [bd_take h,hbd,hb,List.map_append]
  obtain ⟨m,n,t⟩:=b
  have ht' : t = toTy v:=ht
  subst ht'
  rfl
set_option maxRecDepth 100000 in
theorem impl_readBinds (bs : List BdI) (hl : bs.length ≤ 1048576) (hk : ∀ b ∈ bs,b.Ok) (A : List Box) : ACalls Tryz.prog 69 [.slice (bEs bs)] A (fun r A' =>
    (∃ bd B,bs = bd.map ofB ∧ (∀ q ∈ bd,okQ q) ∧ r = .tuple [.map A.length,.bool true] ∧ A' = A ++ .mapb (esB (foldB bd)) :: B) ∨ ((∃ b ∈ bs,badB b) ∧ ∃ x B,r = .tuple [x,.bool false] ∧ A' = A ++ B)):=by
  refine acalls_enterK (cf:=cf 53 [0,2,3,4,6,7,8,9,11,13,14,15,16,39,47]) foll Tryz.func69 Tryz.ntmps69 (by simp [cf]) ?_
  simp only [Tryz.f69,EnterK_some,zW,zX,zD,builtinA,isLeaf,const1,ustrA,simprocAttr,ti3,ti9,ti39,ti45,ti98,ti102,ti154,ca68,ca105,mi102,cf,Tryz.results69]
  simp only [zW,zX,zD,builtinA,isLeaf,const1,ustrA,simprocAttr,ti3,ti9,ti39,ti45,ti98,ti102,ti154,ca68,ca105,mi102,cf,Tryz.results69,bEs_length]
  refine aloop_intro [4,13,14,15] (fun e A'=>∃ i bd B,i ≤ bs.length ∧ bs.take i = bd.map ofB ∧ (∀ q ∈ bd,okQ q) ∧ e = [(4,.map A.length),(13,.slice (bEs bs)),(14,.int .i64 bs.length),(15,.int .i64 i)] ∧ A' = A ++ .mapb (esB (foldB bd)) :: B) (fun e _=>bs.length - (intOf (Abs.look 15 e)).toNat) ?_ ?_
  · simp only [zW,zX,zD,builtinA,isLeaf,const1,ustrA,simprocAttr,ti3,ti9,ti39,ti45,ti98,ti102,ti154,ca68,ca105,mi102,cf,Tryz.results69,bEs_length]
    exact ⟨0,[],[],by omega,rfl,by simp,rfl,rfl⟩
  · rintro e A' ⟨i,bd,B,hi,hbd,hok,rfl,rfl⟩
    simp only [zW,zX,zD,builtinA,isLeaf,const1,ustrA,simprocAttr,ti3,ti9,ti39,ti45,ti98,ti102,ti154,ca68,ca105,mi102,cf,Tryz.results69,bEs_length]
    refine condK_intro (fun h2=>?_) (fun h2=>?_)
    · have hi2 : i < bs.length:=by simpa using h2
      have he:=bEs_getD hi2
      have hm:=bd_mem hi2
      have hkb:=hk _ hm
      have hT:=fun A=>impl_readType (bs.getD i bd0).typ A
      rw [bT4] at hT
      generalize hbi : bs.getD i bd0 = b at *
      have hvn : ∀ A,ACalls Tryz.prog 105 [.str b.mod,.str b.name] A (fun r A'=>r = .bool (nmB b.mod b.name) ∧ A' = A):=fun A=>impl_validName b.mod b.name A
      have hi1 : IntKind.i64.wrap ((i : Int) + 1) = ((i + 1 : Nat) : Int):=by rw [wrap64 (by omega) (by omega)]; rfl
      simp only [zW,zX,zD,builtinA,isLeaf,const1,ustrA,simprocAttr,ti3,ti9,ti39,ti45,ti98,ti102,ti154,ca68,ca105,mi102,cf,Tryz.results69,he,bE_length,bE_take,bEs_length,bE]
      refine ⟨⟨by omega,by omega⟩,?_⟩
      refine callK_intro (by simp only [zW,zX,zD,builtinA,isLeaf,const1,ustrA,simprocAttr]; rfl) (hT _) ?_ rfl
      rintro r A' ⟨⟨v,ht,hv,rfl⟩ | ⟨hv,rfl⟩,rfl⟩
      · simp only [zW,zX,zD,builtinA,isLeaf,const1,ustrA,simprocAttr,ti3,ti9,ti39,ti45,ti98,ti102,ti154,ca68,ca105,mi102,cf,Tryz.results69]
        refine callK_intro (by simp only [zW,zX,zD,builtinA,isLeaf,const1,ustrA,simprocAttr,]; rfl) (hvn _) ?_ rfl; rintro v A' ⟨rfl,rfl⟩
        rcases hn : nmB b.mod b.name with _ | _
        · simp only [zW,zX,zD,builtinA,isLeaf,const1,ustrA,simprocAttr,ti3,ti9,ti39,ti45,ti98,ti102,ti154,ca68,ca105,mi102,cf,Tryz.results69,hn]
          exact .inr ⟨⟨b,hm,.inr hn⟩,_,_,rfl,rfl⟩
        · rcases find_b (b.mod,b.name) (foldB bd) 0 with ⟨f1,f2⟩ | ⟨j,w,f1,f2⟩
          · simp only [bkE] at f1
            have hadd : addB (foldB bd) (b.mod,b.name) v = foldB bd ++ [((b.mod,b.name),v)]:=by rw [addB,f2]
            have hes:=esB_app (foldB bd) (b.mod,b.name) v
            simp only [zW,zX,zD,builtinA,isLeaf,const1,ustrA,simprocAttr,ti3,ti9,ti39,ti45,ti98,ti102,ti154,ca68,ca105,mi102,cf,Tryz.results69,hn,f1,hes,hi1,LoopK_eq]
            refine ⟨⟨i + 1,bd ++ [((b.mod,b.name),v)],B ++ [Box.cells (bE b),.cells [.str b.mod,.str b.name]],by omega,takeB hi2 hbi ht hbd,?_,rfl,?_⟩,?_⟩
            · intro q hq
              rcases List.mem_append.1 hq with hq | hq
              · exact hok q hq
              · rw [List.mem_singleton.1 hq]; exact ⟨hv,hn⟩
            · rw [foldB_snoc,hadd]; rfl
            · simp only [intOf]; omega
          · simp only [bkE] at f1
            have hadd : addB (foldB bd) (b.mod,b.name) v = foldB bd:=by rw [addB,f2]
            simp only [zW,zX,zD,builtinA,isLeaf,const1,ustrA,simprocAttr,ti3,ti9,ti39,ti45,ti98,ti102,ti154,ca68,ca105,mi102,cf,Tryz.results69,hn,f1,hi1,LoopK_eq]
            refine ⟨⟨i + 1,bd ++ [((b.mod,b.name),v)],B ++ [Box.cells (bE b),.cells [.str b.mod,.str b.name]],by omega,takeB hi2 hbi ht hbd,?_,rfl,?_⟩,?_⟩
            · intro q hq
              rcases List.mem_append.1 hq with hq | hq
              · exact hok q hq
              · rw [List.mem_singleton.1 hq]; exact ⟨hv,hn⟩
            · rw [foldB_snoc,hadd]; rfl
            · simp only [intOf]; omega
      · simp only [zW,zX,zD,builtinA,isLeaf,const1,ustrA,simprocAttr,ti3,ti9,ti39,ti45,ti98,ti102,ti154,ca68,ca105,mi102,cf,Tryz.results69]
        exact .inr ⟨⟨b,hm,.inl hv⟩,_,_,rfl,rfl⟩
    · simp only [zW,zX,zD,builtinA,isLeaf,const1,ustrA,simprocAttr,ti3,ti9,ti39,ti45,ti98,ti102,ti154,ca68,ca105,mi102,cf,Tryz.results69]
      have : i = bs.length:=by simp at h2; omega
      subst this
      rw [List.take_length] at hbd
      exact .inl ⟨bd,B,hbd,hok,rfl⟩
end Go.Proofs.YtkajklfohjcofaaGreatDoor
namespace Go.Proofs.YtkajklfohjcofaaGreatDoor
open Go.Abs
theorem lookB_in {p : BNm} {w : VT} : ∀ {m : List (BNm × VT)},lookB p m = some w → (p,w) ∈ m
  | [],h=>by simp [lookB] at h
  | (q,v) :: m,h=>by
    rw [lookB] at h
    by_cases e : p = q
    · rw [if_pos e] at h; cases h; subst e; simp
    · rw [if_neg e] at h; exact List.mem_cons_of_mem _ (lookB_in h)
theorem foldB_in (bd : List (BNm × VT)) : ∀ x ∈ foldB bd,x ∈ bd:=by
  have h : ∀ (l m : List (BNm × VT)),∀ x ∈ l.foldl (fun m q=>addB m q.1 q.2) m,x ∈ m ∨ x ∈ l:=by
    intro l
    induction l with
    | nil=>intro m x hx; exact .inl hx
    | cons q l ih =>
      intro m x hx
      rcases ih _ x hx with h | h
      · have h2 : x ∈ m ∨ x = q:=by
          simp only [addB] at h
          split at h
          · exact .inl h
          · rcases List.mem_append.1 h with h | h
            · exact .inl h
            · exact .inr (List.mem_singleton.1 h)
        rcases h2 with h2 | h2
        · exact .inl h2
        · exact .inr (by rw [h2]; simp)
      · exact .inr (List.mem_cons_of_mem _ h)
  intro x hx
  rcases h bd [] x hx with h | h
  · simp at h
  · exact h
theorem sub_ok (m : List (BNm × VT)) (hm : ∀ x ∈ m,VOk x.2) : ∀ v,okV v = true → okV (subV m v) = true ∧ dep (subV m v) ≤ dep v + 8 ∧ cnt (subV m v) ≤ cnt v * 63
  | .num,h=>⟨rfl,by simp [subV,dep],by simp [subV,cnt]⟩
  | .nm a b,h=>by
    rw [subV]
    rcases hl : lookB (a,b) m with _ | w
    · exact ⟨h,by simp,by simp [cnt]⟩
    · have hw:=hm _ (lookB_in hl)
      refine ⟨hw.ok,?_,?_⟩
      · have h9 : dep w ≤ 8:=hw.dep
        show dep w ≤ _
        omega
      · have h9 : cnt w ≤ 63:=hw.cnt
        show cnt w ≤ _
        simp only [cnt]; omega
  | .fn a b,h=>by
    simp only [okV,Bool.and_eq_true] at h
    obtain ⟨a1,a2,a3⟩:=sub_ok m hm a h.1
    obtain ⟨b1,b2,b3⟩:=sub_ok m hm b h.2
    simp only [subV,okV,dep,cnt,a1,b1,Bool.and_self,true_and]
    exact ⟨by omega,by omega⟩
theorem depM2 : ∀ v,dep v ≤ 900 → DepM v
  | .num,_=>num_depth
  | .nm m n,_=>name_depth m n
  | .fn a b,h=>by
    rw [dep] at h
    exact fun_depth a b (depM2 a (by omega)) (depM2 b (by omega)) (by omega)
set_option maxRecDepth 100000 in
theorem impl_withinLimits2 (v : VT) (hd : dep v ≤ 900) (hc : cnt v < 100000) (A : List Box) : ACalls Tryz.prog 70 [.iface (vT v) (vX v)] A (fun r A'=>r = .bool (decide (dep v ≤ 8) && decide (cnt v ≤ 63)) ∧ A' = A):=by
  refine acalls_enter (cf:=cf 11 [0,2]) foll Tryz.func70 Tryz.ntmps70 (by simp [cf]) ?_
  simp only [Tryz.f70,EnterK_some,zW,zX,zD,builtinA,isLeaf,const1,ustrA,simprocAttr,ti3,cf,Tryz.results70]
  refine wpO_invoke _ _ _ _ _ _ _ _ _ _ _ _ _ _ _ _ ?_
  simp only [zW,zX,zD,builtinA,isLeaf,const1,ustrA,simprocAttr,ti3,cf,Tryz.results70]
  refine meth_invK (met3 (by kernel_rfl) (by kernel_rfl) (by kernel_rfl) (by kernel_rfl) (by kernel_rfl) (by kernel_rfl)) (depM2 v hd _) rfl (fun _=>rfl) ?_
  rintro v A' ⟨rfl,rfl⟩
  simp only [zW,zX,zD,builtinA,isLeaf,const1,ustrA,simprocAttr,ti3,cf,Tryz.results70]
  by_cases h8 : dep v ≤ 8
  · have e8 : decide ((dep v : Int) ≤ 8) = true:=decide_eq_true (by omega)
    rw [decide_eq_true h8]
    simp only [zW,zX,zD,builtinA,isLeaf,const1,ustrA,simprocAttr,ti3,cf,Tryz.results70,e8]
    refine wpO_invoke _ _ _ _ _ _ _ _ _ _ _ _ _ _ _ _ ?_
    simp only [zW,zX,zD,builtinA,isLeaf,const1,ustrA,simprocAttr,ti3,cf,Tryz.results70]
    refine meth_invK (met3 (by kernel_rfl) (by kernel_rfl) (by kernel_rfl) (by kernel_rfl) (by kernel_rfl) (by kernel_rfl)) (cntM v (by omega) _) rfl (fun _=>rfl) ?_
    rintro v A' ⟨rfl,rfl⟩
    simp only [zW,zX,zD,builtinA,isLeaf,const1,ustrA,simprocAttr,ti3,cf,Tryz.results70]
    simp
    omega
  · have e8 : decide ((dep v : Int) ≤ 8) = false:=decide_eq_false (by omega)
    rw [decide_eq_false h8]
    simp only [zW,zX,zD,builtinA,isLeaf,const1,ustrA,simprocAttr,ti3,cf,Tryz.results70,e8]
def SubOut (A : List Box) (o : Option VT) (r : AV) (A' : List Box) : Prop :=
  match o with
  | none=>r = .tuple [.agg [.int .i64 0,.str [],.str [],.nils],.bool false] ∧ A.length ≤ A'.length ∧ ∀ i,i < A.length → A'.getD i .dead = A.getD i .dead
  | some v=>∃ cs S,r = .tuple [.agg cs,.bool true] ∧ OwnT A' (toTy v) cs S ∧ S.Nodup ∧ (∀ i ∈ S,A.length ≤ i) ∧ A.length ≤ A'.length ∧ ∀ i,i < A.length → A'.getD i .dead = A.getD i .dead
def SubIs (τ : Ty) (bs : List BdI) (o : Option VT) : Prop :=
  (∃ v bd,τ = toTy v ∧ VOk v ∧ bs = bd.map ofB ∧ (∀ q ∈ bd,okQ q) ∧ o = (if dep (subV (foldB bd) v) ≤ 8 ∧ cnt (subV (foldB bd) v) ≤ 63 then some (subV (foldB bd) v) else none)) ∨ ((validB τ = false ∨ ∃ b ∈ bs,badB b) ∧ o = none)
set_option maxRecDepth 100000 in
theorem impl_SubstType (τ : Ty) (bs : List BdI) (hl : bs.length ≤ 1048576) (hk : ∀ b ∈ bs,b.Ok) (A : List Box) : ACalls Tryz.prog 35 [.agg (enc τ),.slice (bEs bs)] A (fun r A'=>∃ o,SubIs τ bs o ∧ SubOut A o r A'):=by
  have hz : ∀ B : List Box,SubOut A none (AV.tuple [AV.agg [AV.int IntKind.i64 0,AV.str [],AV.str [],AV.nils],AV.bool false]) (A ++ B):=fun B=>⟨rfl,by simp,fun i hi=>Abs.getD_append_left hi⟩
  refine acalls_enterK (cf:=cf 35 [0,1,2,4,5,6,7,8,9,16,24,31]) foll Tryz.func35 Tryz.ntmps35 (by simp [cf]) ?_
  simp only [Tryz.f35,EnterK_some,zW,zX,zD,builtinA,isLeaf,const1,ustrA,simprocAttr,ti45,ca68,ca69,ca70,cf,Tryz.results35]
  simp only [enc_take]
  refine ⟨by rw [enc_length]; omega,?_⟩
  refine callK_intro (by simp only [zW,zX,zD,builtinA,isLeaf,const1,ustrA,simprocAttr,frzL_enc,Option.map_some]; rfl) (impl_readType τ _) ?_ rfl
  rintro r A' ⟨⟨v,rfl,hv,rfl⟩ | ⟨hv,rfl⟩,rfl⟩
  · simp only [zW,zX,zD,builtinA,isLeaf,const1,ustrA,simprocAttr,ti45,ca68,ca69,ca70,cf,Tryz.results35]
    refine callK_intro (by simp only [zW,zX,zD,builtinA,isLeaf,const1,ustrA,simprocAttr,Option.map_some]; rfl) (impl_readBinds bs hl hk _) ?_ rfl
    rintro r A' (⟨bd,B,rfl,hok,rfl,rfl⟩ | ⟨hb,x,B,rfl,rfl⟩)
    · have hsub:=sub_ok (foldB bd) (fun x hx=>(hok x (foldB_in bd x hx)).1) v hv.ok
      have hvd:=hv.dep
      have hvc:=hv.cnt
      simp only [zW,zX,zD,builtinA,isLeaf,const1,ustrA,simprocAttr,ti45,ca68,ca69,ca70,cf,Tryz.results35]
      refine wpO_invoke _ _ _ _ _ _ _ _ _ _ _ _ _ _ _ _ ?_
      simp only [zW,zX,zD,builtinA,isLeaf,const1,ustrA,simprocAttr,ti45,ca68,ca69,ca70,cf,Tryz.results35]
      refine meth_invK (met3 (by kernel_rfl) (by kernel_rfl) (by kernel_rfl) (by kernel_rfl) (by kernel_rfl) (by kernel_rfl)) (subM (foldB bd) v _ (A.length + 2) (by simp) (by simp [List.getD])) rfl (fun _=>rfl) ?_
      rintro r A' ⟨rfl,rfl⟩
      have his : ∀ o,o = (if dep (subV (foldB bd) v) ≤ 8 ∧ cnt (subV (foldB bd) v) ≤ 63 then some (subV (foldB bd) v) else none) → SubIs (toTy v) (bd.map ofB) o:=fun o h=>.inl ⟨v,bd,rfl,hv,rfl,hok,h⟩
      generalize subV (foldB bd) v = w at *
      simp only [zW,zX,zD,builtinA,isLeaf,const1,ustrA,simprocAttr,ti45,ca68,ca69,ca70,cf,Tryz.results35]
      refine callK_intro (by simp only [zW,zX,zD,builtinA,isLeaf,const1,ustrA,simprocAttr,Option.map_some]; rfl) (impl_withinLimits2 w (by omega) (by omega) _) ?_ rfl; rintro v A' ⟨rfl,rfl⟩
      by_cases hc : dep w ≤ 8 ∧ cnt w ≤ 63
      · rw [if_pos hc] at his
        have hd : (decide (dep w ≤ 8) && decide (cnt w ≤ 63)) = true:=by simp [hc.1,hc.2]
        rw [hd]
        simp only [zW,zX,zD,builtinA,isLeaf,const1,ustrA,simprocAttr,ti45,ca68,ca69,ca70,cf,Tryz.results35]
        refine wpO_invoke _ _ _ _ _ _ _ _ _ _ _ _ _ _ _ _ ?_
        simp only [zW,zX,zD,builtinA,isLeaf,const1,ustrA,simprocAttr,ti45,ca68,ca69,ca70,cf,Tryz.results35]
        refine meth_invK (met3 (by kernel_rfl) (by kernel_rfl) (by kernel_rfl) (by kernel_rfl) (by kernel_rfl) (by kernel_rfl)) (plainM w _) rfl (fun _=>rfl) ?_
        rintro r A' ⟨rfl,rfl⟩
        have hpl : ∀ n,(prow w n true).length = 4:=fun n=>prow_length _ _ _
        simp only [zW,zX,zD,builtinA,isLeaf,const1,ustrA,simprocAttr,ti45,ca68,ca69,ca70,cf,Tryz.results35,hpl]
        refine ⟨some w,his _ rfl,prow w (A.length + (B.length + 1 + 1 + 1)) true,pidx w (A.length + (B.length + 1 + 1 + 1)),by rw [List.take_of_length_le (by rw [hpl]; exact Nat.le_refl _)],own_plain w _ true _ (fun k hk=>?_),pidx_nodup _ _,fun i hi=>by have:=pidx_in _ _ i hi; omega,by simp,fun i hi=>Abs.getD_append_left hi⟩
        rw [Abs.getD_append_right (by omega),show A.length + (B.length + 1 + 1 + 1) + k - A.length = (B.length + k) + 1 + 1 + 1 by omega,List.getD_cons_succ,List.getD_cons_succ,List.getD_cons_succ,Abs.getD_append_right (by omega),show B.length + k - B.length = k by omega]
      · rw [if_neg hc] at his
        have hd : (decide (dep w ≤ 8) && decide (cnt w ≤ 63)) = false:=by
          rw [Bool.eq_false_iff]; intro h; simp only [Bool.and_eq_true,decide_eq_true_eq] at h; exact hc h
        rw [hd]
        simp only [zW,zX,zD,builtinA,isLeaf,const1,ustrA,simprocAttr,ti45,ca68,ca69,ca70,cf,Tryz.results35]
        exact ⟨none,his _ rfl,hz _⟩
    · simp only [zW,zX,zD,builtinA,isLeaf,const1,ustrA,simprocAttr,ti45,ca68,ca69,ca70,cf,Tryz.results35]
      exact ⟨none,.inr ⟨.inr hb,rfl⟩,hz _⟩
  · simp only [zW,zX,zD,builtinA,isLeaf,const1,ustrA,simprocAttr,ti45,ca68,ca69,ca70,cf,Tryz.results35]
    exact ⟨none,.inr ⟨.inl hv,rfl⟩,hz _⟩
end Go.Proofs.YtkajklfohjcofaaGreatDoor
