/- EachG, TyNamesG, OwnFree, SigOutA, OwnBd, SigStr, PreFacts, SigVal, HasM, TxtsM. -/
import Derived.Test.YtnjdbgiincliaaaGreatM13
import Derived.Test.YtnjdbgiincliaaaGreatAbsW3
/- The program's walk over the names of a type, for any visit. -/
set_option linter.unusedVariables false
set_option linter.unusedSimpArgs false
namespace Go.Proofs.YtnjdbgiincliaaaGreat
open Go.Abs
section
variable {σ : Type}
def foldV (f : Nm → σ → σ) : VT → σ → σ
  | .num,s=>s
  | .nm m k,s=>f (m,k) s
  | .fn a b,s=>foldV f b (foldV f a s)
structure Vis (sz : σ → Nat) (I : σ → List Box → Prop) (F : List Box → List Box → Prop) (f : Nm → σ → σ) (g : FuncId) (cap : List AV) : Prop where
  call : callable Tryz.prog g = true
  vis : ∀ (p : Nm) (s : σ) (A : List Box),nmB p.1 p.2 = true → sz s ≤ 1000 → I s A → ACalls Tryz.prog g (.agg [.str p.1,.str p.2] :: cap) A (fun _ A'=>I (f p s) A' ∧ F A A')
  app : ∀ (s : σ) (A B : List Box),I s A → I s (A ++ B) ∧ F A (A ++ B)
  grow : ∀ p s,sz (f p s) ≤ sz s + 1
  trans : ∀ A B C : List Box,F A B → F B C → F A C
  box : ∀ (s : σ) (A A' : List Box) (c : Box),I s A → F (A ++ [c]) A' → A'.getD A.length .dead = c
theorem foldV_sz {sz : σ → Nat} {I : σ → List Box → Prop} {F : List Box → List Box → Prop} {f : Nm → σ → σ} {g : FuncId} {cap : List AV} (hv : Vis sz I F f g cap) : ∀ (v : VT) (s : σ),sz (foldV f v s) ≤ sz s + cnt v
  | .num,s=>by simp [foldV]
  | .nm m k,s=>by simp only [foldV,cnt]; exact hv.grow _ _
  | .fn a b,s=>by have h1:=foldV_sz hv a s; have h2:=foldV_sz hv b (foldV f a s); simp only [foldV,cnt]; omega
def EachG (sz : σ → Nat) (I : σ → List Box → Prop) (F : List Box → List Box → Prop) (f : Nm → σ → σ) (g : FuncId) (cap : List AV) (v : VT) : Prop :=
  ∀ (s : σ) (A : List Box),okV v = true → sz s + cnt v ≤ 1000 → I s A → ACalls Tryz.prog ((pickF 429 436 358) v) [vX v,.func (.func g) [] cap] A (fun _ A'=>I (foldV f v s) A' ∧ F A A')
set_option maxRecDepth 100000 in
theorem numG {sz : σ → Nat} {I : σ → List Box → Prop} {F : List Box → List Box → Prop} {f : Nm → σ → σ} {g : FuncId} {cap : List AV} (hv : Vis sz I F f g cap) : EachG sz I F f g cap .num:=fun s A ho hz h=>by
  show ACalls Tryz.prog 429 _ _ _
  rw [vX]
  refine acalls_enterK (cf:=cf 4 [0]) foll Tryz.func429 Tryz.ntmps429 (by simp [cf]) ?_
  simp only [Tryz.f429,EnterK_some,zW,zX,zD,builtinA,isLeaf,const1,ustrA,simprocAttr,ti369,cf,Tryz.results429]
  exact hv.app _ _ _ h
set_option maxRecDepth 100000 in
theorem nameG {sz : σ → Nat} {I : σ → List Box → Prop} {F : List Box → List Box → Prop} {f : Nm → σ → σ} {g : FuncId} {cap : List AV} (hv : Vis sz I F f g cap) (m k : List UInt8) : EachG sz I F f g cap (.nm m k):=fun s A ho hz h=>by
  show ACalls Tryz.prog 358 _ _ _
  rw [vX]
  have hc:=hv.call
  obtain ⟨h1,f1⟩:=hv.app _ _ [.cells [.str m,.str k]] h
  simp only [cnt] at hz
  have hvv:=hv.vis (m,k) s _ ho (by omega) h1
  refine acalls_enterK (cf:=cf 7 [0,1,2]) foll Tryz.func358 Tryz.ntmps358 (by simp [cf]) ?_
  simp only [Tryz.f358,EnterK_some,zW,zX,zD,builtinA,isLeaf,const1,ustrA,simprocAttr,ti180,cf,Tryz.results358]
  refine wpO_callv _ _ _ _ _ _ _ _ _ _ _ _ _ _ _ ?_
  simp only [zW,zX,zD,builtinA,isLeaf,const1,ustrA,simprocAttr,ti180,cf,Tryz.results358]
  refine ⟨hc,callO_intro (by simpa using hvv) ?_⟩
  rintro r A' ⟨h2,f2⟩
  simp only [zW,zX,zD,builtinA,isLeaf,const1,ustrA,simprocAttr,ti180,cf,Tryz.results358]
  exact ⟨h2,hv.trans _ _ _ f1 f2⟩
set_option maxRecDepth 100000 in
theorem funG {sz : σ → Nat} {I : σ → List Box → Prop} {F : List Box → List Box → Prop} {f : Nm → σ → σ} {g : FuncId} {cap : List AV} (hv : Vis sz I F f g cap) (a b : VT) (ha : EachG sz I F f g cap a) (hb : EachG sz I F f g cap b) : EachG sz I F f g cap (.fn a b):=fun s A ho hz h=>by
  show ACalls Tryz.prog 436 _ _ _
  rw [vX]
  simp only [okV,Bool.and_eq_true] at ho
  simp only [cnt] at hz
  obtain ⟨h1,f1⟩:=hv.app _ _ [.cells [.iface (vT a) (vX a),.iface (vT b) (vX b)]] h
  refine acalls_enterK (cf:=cf 12 [0,1,2]) foll Tryz.func436 Tryz.ntmps436 (by simp [cf]) ?_
  simp only [Tryz.f436,EnterK_some,zW,zX,zD,builtinA,isLeaf,const1,ustrA,simprocAttr,ti175,ti422,cf,Tryz.results436]
  refine wpO_invoke _ _ _ _ _ _ _ _ _ _ _ _ _ _ _ _ ?_
  simp only [zW,zX,zD,builtinA,isLeaf,const1,ustrA,simprocAttr,ti175,ti422,cf,Tryz.results436]
  refine meth_invK (met3 (by kernel_rfl) (by kernel_rfl) (by kernel_rfl) (by kernel_rfl) (by kernel_rfl) (by kernel_rfl)) (ha s _ ho.1 (by omega) h1) rfl (fun _=>rfl) ?_
  rintro r A1 ⟨h2,f2⟩
  have b1:=hv.box _ _ _ _ h f2
  simp only [zW,zX,zD,builtinA,isLeaf,const1,ustrA,simprocAttr,ti175,ti422,cf,Tryz.results436,b1]
  refine wpO_invoke _ _ _ _ _ _ _ _ _ _ _ _ _ _ _ _ ?_
  simp only [zW,zX,zD,builtinA,isLeaf,const1,ustrA,simprocAttr,ti175,ti422,cf,Tryz.results436]
  refine meth_invK (met3 (by kernel_rfl) (by kernel_rfl) (by kernel_rfl) (by kernel_rfl) (by kernel_rfl) (by kernel_rfl)) (hb _ _ ho.2 (by have:=foldV_sz hv a s; omega) h2) rfl (fun _=>rfl) ?_
  rintro r A2 ⟨h3,f3⟩
  simp only [zW,zX,zD,builtinA,isLeaf,const1,ustrA,simprocAttr,ti175,ti422,cf,Tryz.results436]
  exact ⟨h3,hv.trans _ _ _ f1 (hv.trans _ _ _ f2 f3)⟩
theorem eachG {sz : σ → Nat} {I : σ → List Box → Prop} {F : List Box → List Box → Prop} {f : Nm → σ → σ} {g : FuncId} {cap : List AV} (hv : Vis sz I F f g cap) : ∀ v,EachG sz I F f g cap v
  | .num=>numG hv
  | .nm m k=>nameG hv m k
  | .fn a b=>funG hv a b (eachG hv a) (eachG hv b)
end
end Go.Proofs.YtnjdbgiincliaaaGreat
/- The program's TypeNames. -/
set_option linter.unusedVariables false
set_option linter.unusedSimpArgs false
namespace Go.Proofs.YtnjdbgiincliaaaGreat
open Go.Abs
def nmE (p : Nm) : List AV:=[.str p.1,.str p.2]
def esN (ns : List Nm) : List (AV × AV):=ns.map fun p=>(.agg (nmE p),.bool true)
abbrev KN : List (Nat × TK):=[(0,.str),(1,.str)]
theorem nmE_eq (x y : Nm) : eqK KN (nmE x) (nmE y) = some (decide (x = y)):=by
  have : decide (x = y) = (decide (x.1 = y.1) && (decide (x.2 = y.2) && true)):=by
    rw [Bool.eq_iff_iff]
    simp [Prod.ext_iff]
  rw [this]
  simp [KN,eqK,nmE,c1A]
  try congr 1
theorem find_n (q : Nm) : ∀ (ks : List Nm) (n : Nat),∃ r,findA KN (nmE q) (esN ks) n = some r ∧ lkV r (.bool false) = .bool (decide (q ∈ ks)) ∧ (r = none ↔ q ∉ ks)
  | [],n=>⟨none,rfl,by simp [lkV],by simp⟩
  | p :: ks,n=>by
    obtain ⟨r,h1,h2,h3⟩:=find_n q ks (n + 1)
    simp only [esN,List.map_cons,findA]
    rw [if_pos (show (nmE p).length = (nmE q).length from rfl),nmE_eq]
    by_cases h : q = p
    · subst h
      simp only [decide_true]
      exact ⟨_,rfl,by simp [lkV],by simp⟩
    · simp only [decide_eq_false h]
      refine ⟨r,h1,?_,?_⟩
      · rw [h2]; simp [h]
      · rw [h3]; simp [h]
def rowN (A : List Box) (i : Nat) : Nat :=
  match A.getD i .dead with
  | .cells [.own k]=>k
  | _=>i
def FrL (i im : Nat) (A A' : List Box) : Prop:=A.length ≤ A'.length ∧ (rowN A' i = rowN A i ∨ A.length ≤ rowN A' i) ∧ ∀ k,k < A.length → k ≠ i → k ≠ im → k ≠ rowN A i → A'.getD k .dead = A.getD k .dead
theorem FrL.refl (i im : Nat) (A : List Box) : FrL i im A A:=⟨Nat.le_refl _,.inl rfl,fun _ _ _ _ _=>rfl⟩
theorem FrL.trans {i im : Nat} {A B C : List Box} (h : FrL i im A B) (k : FrL i im B C) : FrL i im A C:=by
  obtain ⟨a1,a2,a3⟩:=h
  obtain ⟨b1,b2,b3⟩:=k
  refine ⟨by omega,by omega,fun x hx hi hm hr=>?_⟩
  rw [b3 x (by omega) hi hm (by omega),a3 x hx hi hm hr]
theorem FrL.app {i im : Nat} {A : List Box} (hi : i < A.length) (B : List Box) : FrL i im A (A ++ B):=by
  have e : (A ++ B).getD i .dead = A.getD i .dead:=Abs.getD_append_left hi
  refine ⟨by simp,.inl (by unfold rowN; rw [e]),fun k hk _ _ _=>Abs.getD_append_left hk⟩
structure LstN (n i im : Nat) (ns : List Nm) (A : List Box) : Prop where
  lo : n ≤ i ∧ i < A.length
  ok : nOk ns
  lst : ∃ r,A.getD i .dead = .cells [r] ∧ OwnL A ns r ∧ n ≤ rowN A i ∧ (∀ j,r = .own j → j ≠ i ∧ j ≠ im)
theorem LstN.app {n i im : Nat} {ns : List Nm} {A : List Box} (h : LstN n i im ns A) (B : List Box) : LstN n i im ns (A ++ B):=by
  obtain ⟨⟨l1,l2⟩,ho,r,h1,h2,h3,h4⟩:=h
  refine ⟨⟨l1,by simp; omega⟩,ho,r,by rw [Abs.getD_append_left l2]; exact h1,h2.app B,?_,h4⟩
  unfold rowN at h3 ⊢
  rw [Abs.getD_append_left l2]; exact h3
theorem LstN.row_lt {n i im : Nat} {ns : List Nm} {A : List Box} (h : LstN n i im ns A) : rowN A i < A.length:=by
  obtain ⟨⟨l1,l2⟩,ho,r,h1,h2,h3,h4⟩:=h
  unfold rowN
  rw [h1]
  rcases h2 with ⟨rfl,_⟩ | ⟨j,rfl,hj,_⟩
  · exact l2
  · exact hj
abbrev zrow : List AV:=[.int .i64 0,.str [],.str [],.slice []]
abbrev nty_row (p : Nm) : List AV:=[.int .i64 3,.str p.1,.str p.2,.slice []]
set_option maxRecDepth 100000 in
theorem name_plain0 (m k : List UInt8) (A : List Box) : ACalls Tryz.prog 114 [.agg [.str m,.str k]] A (fun r A'=>r = .agg [.int .i64 3,.str m,.str k,.slice []] ∧ A' = A):=by
  refine acalls_enter (cf:=cf 8 [0,1,2]) foll Tryz.func114 Tryz.ntmps114 (by simp [cf]) ?_
  simp only [Tryz.f114,EnterK_some,zW,zX,zD,builtinA,isLeaf,const1,Nat.reduceAdd,Nat.reduceMul,Nat.reduceSub,Nat.reduceLT,Nat.reduceLeDiff,Nat.reduceEqDiff,Nat.reduceBEq,Nat.reduceBNe,reduceIte,reduceCtorEq,Int.reduceToNat,Int.reduceLT,Int.reduceLE,Int.reduceEq,Int.reduceNe,Int.reduceNeg,ustrA,ti9,ti36,ti180,cf,Tryz.results114]
  try simp
theorem zrow_one : (#[Value.int IntKind.i64 0,Value.string { data:=#[] },Value.string { data:=#[] },Value.slice none 0 0].all fun x=>x.oneCell') = true:=by kernel_rfl
theorem nrows_app (ns : List Nm) (p : Nm) : nrows (ns ++ [p]) = nrows ns ++ [nty_row p]:=by
  simp [nrows,encs_map,nty_enc]
theorem leaf_zrow : ∀ v ∈ zrow,isLeaf v = true:=by simp [isLeaf]
theorem leaf_nrow (p : Nm) : ∀ v ∈ nty_row p,isLeaf v = true:=by simp [isLeaf]
theorem add_fin {n i im : Nat} {ns : List Nm} {A : List Box} {p : Nm} (hok : nOk (ns ++ [p])) (h : LstN n i im ns A) (him : im < A.length) (B : List Box) (hB : B.length = A.length + 2) (hk : ∀ k,k < A.length → k ≠ i → k ≠ rowN A i → B.getD k .dead = A.getD k .dead) :
    LstN n i im (ns ++ [p]) ((B ++ [Box.row 4 (nrows ns ++ [nty_row p]) 0]).set i (.cells [.own (A.length + 2)])) ∧ FrL i im A ((B ++ [Box.row 4 (nrows ns ++ [nty_row p]) 0]).set i (.cells [.own (A.length + 2)])) ∧
      ∀ k,k < A.length → k ≠ i → k ≠ rowN A i → ((B ++ [Box.row 4 (nrows ns ++ [nty_row p]) 0]).set i (.cells [.own (A.length + 2)])).getD k .dead = A.getD k .dead:=by
  obtain ⟨⟨l1,l2⟩,_⟩:=h
  have hil : i < (B ++ [Box.row 4 (nrows ns ++ [nty_row p]) 0]).length:=by simp; omega
  have hgi : ((B ++ [Box.row 4 (nrows ns ++ [nty_row p]) 0]).set i (.cells [.own (A.length + 2)])).getD i .dead = .cells [.own (A.length + 2)]:=getD_set_self hil
  have hrow : rowN ((B ++ [Box.row 4 (nrows ns ++ [nty_row p]) 0]).set i (.cells [.own (A.length + 2)])) i = A.length + 2:=by unfold rowN; rw [hgi]
  have hfr : ∀ k,k < A.length → k ≠ i → k ≠ rowN A i → ((B ++ [Box.row 4 (nrows ns ++ [nty_row p]) 0]).set i (.cells [.own (A.length + 2)])).getD k .dead = A.getD k .dead:=fun k hk1 hk2 hk3=>by
    rw [getD_set_ne' (Ne.symm hk2),Abs.getD_append_left (by omega)]
    exact hk k hk1 hk2 hk3
  refine ⟨⟨⟨l1,by simpa using hil⟩,hok,.own (A.length + 2),hgi,.inr ⟨A.length + 2,rfl,by simp; omega,?_⟩,by rw [hrow]; omega,?_⟩,⟨by simp; omega,by omega,fun k hk1 hk2 _ hk3=>hfr k hk1 hk2 hk3⟩,hfr⟩
  · rw [getD_set_ne' (by omega),Abs.getD_append_right (by omega),nrows_app]
    simp [hB]
  · intro j hj
    injection hj with hj
    omega
set_option maxRecDepth 100000 in
theorem names_add (n i im : Nat) (ns : List Nm) (A : List Box) (p : Nm) (hp : p.1.length ≤ 1 ∧ p.2.length ≤ 1) (hl : ns.length ≤ 1000) (h : LstN n i im ns A) (him : im < A.length) :
    ACalls Tryz.prog 113 [.agg [.str p.1,.str p.2],.ptr i 0] A (fun _ A'=>LstN n i im (ns ++ [p]) A' ∧ FrL i im A A' ∧ ∀ k,k < A.length → k ≠ i → k ≠ rowN A i → A'.getD k .dead = A.getD k .dead):=by
  have hrl:=h.row_lt
  have h0:=h
  obtain ⟨⟨l1,l2⟩,ho,r,h1,h2,h3,h4⟩:=h
  have hok : nOk (ns ++ [p]):=fun q hq=>by
    rcases List.mem_append.1 hq with hq | hq
    · exact ho q hq
    · rw [List.mem_singleton.1 hq]; exact hp
  have hz:=leaf_zrow
  have hn:=leaf_nrow p
  rcases h2 with ⟨rfl,rfl⟩ | ⟨j,rfl,hj,hA⟩
  · have g1 : ∀ B : List Box,(A ++ B).getD i .dead = .cells [.nils]:=fun B=>by rw [Abs.getD_append_left l2]; exact h1
    have fin:=add_fin hok h0 him (A ++ [Box.cells [.str p.1,.str p.2],.row 4 [zrow] 0]) (by simp) (fun k hk _ _=>Abs.getD_append_left hk)
    have e1 : nrows [] ++ [nty_row p] = [nty_row p]:=by simp [nrows,encs]
    rw [e1,List.append_assoc] at fin
    simp only [List.cons_append,List.nil_append] at fin
    have hs1 : ∀ X : Box,((A ++ [Box.cells [.str p.1,.str p.2],.row 4 [zrow] 0,.row 4 [zrow] 0]).set i X).getD (A.length + 2) .dead = .row 4 [zrow] 0:=fun X=>by
      rw [getD_set_ne' (by omega),Abs.getD_append_right (by omega)]; simp
    have hs2 : ∀ X Y : Box,((A ++ [Box.cells [.str p.1,.str p.2],.row 4 [zrow] 0,.row 4 [zrow] 0]).set i X).set (A.length + 2) Y = (A ++ [Box.cells [.str p.1,.str p.2],.row 4 [zrow] 0,Y]).set i X:=fun X Y=>by
      rw [List.set_comm _ _ (by omega),List.set_append_right _ _ (by omega)]; simp
    refine acalls_enterK (cf:=cf 10 [0,1,2]) foll Tryz.func113 Tryz.ntmps113 (by simp [cf]) ?_
    simp only [Tryz.f113,EnterK_some,zW,zX,zD,builtinA,isLeaf,const1,Nat.reduceAdd,Nat.reduceMul,Nat.reduceSub,Nat.reduceLT,Nat.reduceLeDiff,Nat.reduceEqDiff,Nat.reduceBEq,Nat.reduceBNe,reduceIte,reduceCtorEq,Int.reduceToNat,Int.reduceLT,Int.reduceLE,Int.reduceEq,Int.reduceNe,Int.reduceNeg,ustrA,ti34,ti36,ti180,ca114,cf,Tryz.results113]
    refine .inr (drawM_intro [] (.or (.one 6 (.or (.one 7 (.one 8 .done)) (.one 8 (.one 7 .done)))) (.one 8 (.one 6 (.one 7 .done)))) [(false,0,1),(false,0,1),(false,0,1),(false,0,1),(true,0,0),(true,1,1),(false,2,2),(false,2,2),(false,2,2)] [A ++ [Box.cells [.str p.1,.str p.2]],A ++ [Box.cells [.str p.1,.str p.2],.row 4 [zrow] 0],A ++ [Box.cells [.str p.1,.str p.2],.row 4 [zrow] 0,.row 4 [zrow] 0]] 2 6 rfl (by kernel_rfl) (by kernel_rfl) ?_)
    simp only [zW,zX,zD,builtinA,isLeaf,const1,Nat.reduceAdd,Nat.reduceMul,Nat.reduceSub,Nat.reduceLT,Nat.reduceLeDiff,Nat.reduceEqDiff,Nat.reduceBEq,Nat.reduceBNe,reduceIte,reduceCtorEq,Int.reduceToNat,Int.reduceLT,Int.reduceLE,Int.reduceEq,Int.reduceNe,Int.reduceNeg,ustrA,ti34,ti36,ti180,ca114,cf,Tryz.results113,g1,wpMG_nil,List.take_succ_cons,List.take_zero]
    refine callEN_intro (fun A=>by simp only [zW,zX,zD,builtinA,isLeaf,const1,Nat.reduceAdd,Nat.reduceMul,Nat.reduceSub,Nat.reduceLT,Nat.reduceLeDiff,Nat.reduceEqDiff,Nat.reduceBEq,Nat.reduceBNe,reduceIte,reduceCtorEq,Int.reduceToNat,Int.reduceLT,Int.reduceLE,Int.reduceEq,Int.reduceNe,Int.reduceNeg,ustrA,Option.map_some] <;> rfl) (fun A=>name_plain0 p.1 p.2 A) ?_ rfl rfl
    simp only [zW,zX,zD,builtinA,isLeaf,const1,Nat.reduceAdd,Nat.reduceMul,Nat.reduceSub,Nat.reduceLT,Nat.reduceLeDiff,Nat.reduceEqDiff,Nat.reduceBEq,Nat.reduceBNe,reduceIte,reduceCtorEq,Int.reduceToNat,Int.reduceLT,Int.reduceLE,Int.reduceEq,Int.reduceNe,Int.reduceNeg,ustrA,ti34,ti36,ti180,ca114,cf,Tryz.results113,g1,hs1,hs2,zrow_one,if_true,wpY_or_eq,wpY_one_eq,wpY_done_eq,List.take_succ_cons,List.take_zero,List.drop_succ_cons,List.drop_zero]
    exact ⟨fun v hv=>hz v hv,by simp,⟨by omega,by omega⟩,fun v hv=>hn v hv,fin⟩
  · have hij:=(h4 j rfl).1
    have hrj : rowN A i = j:=by unfold rowN; rw [h1]
    have g1 : ∀ B : List Box,(A ++ B).getD i .dead = .cells [.own j]:=fun B=>by rw [Abs.getD_append_left l2]; exact h1
    have gj : ∀ B : List Box,(A ++ B).getD j .dead = .row 4 (nrows ns) 0:=fun B=>by rw [Abs.getD_append_left hj]; exact hA
    have hnl:=nrows_length ns
    have hBl : ((A ++ [Box.cells [.str p.1,.str p.2],.row 4 [zrow] 0]).set j .dead).length = A.length + 2:=by simp
    have fin:=add_fin hok h0 him ((A ++ [Box.cells [.str p.1,.str p.2],.row 4 [zrow] 0]).set j .dead) hBl (fun k hk _ hkj=>by rw [getD_set_ne' (by omega),Abs.getD_append_left hk])
    have hs1 : ∀ X : Box,(((A ++ [Box.cells [.str p.1,.str p.2],.row 4 [zrow] 0]).set j .dead ++ [Box.row 4 (nrows ns ++ [zrow]) 0]).set i X).getD (A.length + 2) .dead = .row 4 (nrows ns ++ [zrow]) 0:=fun X=>by
      rw [getD_set_ne' (by omega),Abs.getD_append_right (by omega)]; simp
    have hs2 : ∀ X Y : Box,(((A ++ [Box.cells [.str p.1,.str p.2],.row 4 [zrow] 0]).set j .dead ++ [Box.row 4 (nrows ns ++ [zrow]) 0]).set i X).set (A.length + 2) Y = ((A ++ [Box.cells [.str p.1,.str p.2],.row 4 [zrow] 0]).set j .dead ++ [Y]).set i X:=fun X Y=>by
      rw [List.set_comm _ _ (by omega),List.set_append_right _ _ (by omega)]; simp
    have hs3 : ((A ++ [Box.cells [.str p.1,.str p.2],.row 4 [zrow] 0]).set j .dead ++ [Box.row 4 (nrows ns ++ [zrow]) 0]).getD (A.length + 2) .dead = .row 4 (nrows ns ++ [zrow]) 0:=by
      rw [Abs.getD_append_right (by omega)]; simp
    have hs4 : ∀ Y : Box,((A ++ [Box.cells [.str p.1,.str p.2],.row 4 [zrow] 0]).set j .dead ++ [Box.row 4 (nrows ns ++ [zrow]) 0]).set (A.length + 2) Y = (A ++ [Box.cells [.str p.1,.str p.2],.row 4 [zrow] 0]).set j .dead ++ [Y]:=fun Y=>by
      rw [List.set_append_right _ _ (by omega)]; simp
    have hs5 : ∀ Y : Box,((A ++ [Box.cells [.str p.1,.str p.2],.row 4 [zrow] 0]).set j .dead ++ [Y]).getD i .dead = .cells [.own j]:=fun Y=>by
      rw [Abs.getD_append_left (by omega),getD_set_ne' hij,Abs.getD_append_left l2]; exact h1
    have hst : ∀ x,(nrows ns ++ [zrow]).set ns.length x = nrows ns ++ [x]:=fun x=>by rw [List.set_append_right _ _ (by omega)]; simp [hnl]
    have hgt : (nrows ns ++ [zrow]).getD ns.length [] = zrow:=by rw [Abs.getD_append_right (by omega)]; simp [hnl]
    have hrl4 : ∀ r ∈ nrows ns,r.length = 4:=fun r hr=>by
      rw [nrows,encs_map] at hr
      obtain ⟨t,_,rfl⟩:=List.mem_map.1 hr
      exact enc_length t
    refine acalls_enterK (cf:=cf 10 [0,1,2]) foll Tryz.func113 Tryz.ntmps113 (by simp [cf]) ?_
    simp only [Tryz.f113,EnterK_some,zW,zX,zD,builtinA,isLeaf,const1,Nat.reduceAdd,Nat.reduceMul,Nat.reduceSub,Nat.reduceLT,Nat.reduceLeDiff,Nat.reduceEqDiff,Nat.reduceBEq,Nat.reduceBNe,reduceIte,reduceCtorEq,Int.reduceToNat,Int.reduceLT,Int.reduceLE,Int.reduceEq,Int.reduceNe,Int.reduceNeg,ustrA,ti34,ti36,ti180,ca114,cf,Tryz.results113]
    refine .inr (drawM_intro [] (.or (.one 6 (.or (.one 7 (.one 8 .done)) (.one 8 (.one 7 .done)))) (.one 8 (.one 6 (.one 7 .done)))) [(false,0,1),(false,0,1),(false,0,1),(false,0,1),(true,0,0),(true,1,1),(false,2,2),(false,2,2),(false,2,2)] [A ++ [Box.cells [.str p.1,.str p.2]],A ++ [Box.cells [.str p.1,.str p.2],.row 4 [zrow] 0],(A ++ [Box.cells [.str p.1,.str p.2],.row 4 [zrow] 0]).set j .dead ++ [.row 4 (nrows ns ++ [zrow]) 0]] 2 6 rfl (by kernel_rfl) (by kernel_rfl) ?_)
    simp only [zW,zX,zD,builtinA,isLeaf,const1,Nat.reduceAdd,Nat.reduceMul,Nat.reduceSub,Nat.reduceLT,Nat.reduceLeDiff,Nat.reduceEqDiff,Nat.reduceBEq,Nat.reduceBNe,reduceIte,reduceCtorEq,Int.reduceToNat,Int.reduceLT,Int.reduceLE,Int.reduceEq,Int.reduceNe,Int.reduceNeg,ustrA,ti34,ti36,ti180,ca114,cf,Tryz.results113,g1,gj,wpMG_nil,List.take_succ_cons,List.take_zero]
    refine callEN_intro (fun A=>by simp only [zW,zX,zD,builtinA,isLeaf,const1,Nat.reduceAdd,Nat.reduceMul,Nat.reduceSub,Nat.reduceLT,Nat.reduceLeDiff,Nat.reduceEqDiff,Nat.reduceBEq,Nat.reduceBNe,reduceIte,reduceCtorEq,Int.reduceToNat,Int.reduceLT,Int.reduceLE,Int.reduceEq,Int.reduceNe,Int.reduceNeg,ustrA,Option.map_some] <;> rfl) (fun A=>name_plain0 p.1 p.2 A) ?_ rfl rfl
    simp only [zW,zX,zD,builtinA,isLeaf,const1,Nat.reduceAdd,Nat.reduceMul,Nat.reduceSub,Nat.reduceLT,Nat.reduceLeDiff,Nat.reduceEqDiff,Nat.reduceBEq,Nat.reduceBNe,reduceIte,reduceCtorEq,Int.reduceToNat,Int.reduceLT,Int.reduceLE,Int.reduceEq,Int.reduceNe,Int.reduceNeg,ustrA,ti34,ti36,ti180,ca114,cf,Tryz.results113,g1,gj,hs1,hs2,hs3,hs4,hs5,hst,hgt,hnl,zrow_one,if_true,wpY_or_eq,wpY_one_eq,wpY_done_eq,List.take_succ_cons,List.take_zero,List.drop_succ_cons,List.drop_zero]
    have h1' : (0 : Int) ≤ (ns.length : Nat) ∧ ((ns.length : Nat) : Int) < ((ns.length + 1 : Nat) : Int):=⟨by omega,by omega⟩
    exact ⟨fun v hv=>hz v hv,⟨by simp,by omega⟩,h1',⟨by omega,by omega,fun v hv=>hn v hv⟩,fin⟩
structure NamI (n i im is iv : Nat) (ns : List Nm) (A : List Box) : Prop where
  lst : LstN n i im ns A
  map : im < A.length ∧ A.getD im .dead = .mapb (esN ns)
  seen : is < A.length ∧ A.getD is .dead = .cells [.map im]
  vis : iv < A.length ∧ A.getD iv .dead = .cells [.func (.func 113) [] [.ptr i 0]]
  ne : i ≠ im ∧ is ≠ i ∧ is ≠ im ∧ iv ≠ i ∧ iv ≠ im ∧ n ≤ im
theorem NamI.app {n i im is iv : Nat} {ns : List Nm} {A : List Box} (h : NamI n i im is iv ns A) (B : List Box) : NamI n i im is iv ns (A ++ B) :=
  ⟨h.lst.app B,⟨by have:=h.map.1; simp; omega,by rw [Abs.getD_append_left h.map.1]; exact h.map.2⟩,⟨by have:=h.seen.1; simp; omega,by rw [Abs.getD_append_left h.seen.1]; exact h.seen.2⟩,
   ⟨by have:=h.vis.1; simp; omega,by rw [Abs.getD_append_left h.vis.1]; exact h.vis.2⟩,h.ne⟩
theorem NamI.row {n i im is iv : Nat} {ns : List Nm} {A : List Box} (h : NamI n i im is iv ns A) : rowN A i ≠ im ∧ rowN A i ≠ is ∧ rowN A i ≠ iv:=by
  obtain ⟨⟨_,_,r,h1,h2,_,_⟩,⟨_,m2⟩,⟨_,s2⟩,⟨_,v2⟩,e1,e2,e3,e4,e5,_⟩:=h
  unfold rowN
  rw [h1]
  rcases h2 with ⟨rfl,_⟩ | ⟨j,rfl,_,hj⟩
  · exact ⟨e1,Ne.symm e2,Ne.symm e4⟩
  · refine ⟨fun e=>?_,fun e=>?_,fun e=>?_⟩
    · have e' : j = im:=e
      rw [e',m2] at hj; cases hj
    · have e' : j = is:=e
      rw [e',s2] at hj; cases hj
    · have e' : j = iv:=e
      rw [e',v2] at hj; cases hj
theorem rowN_set {A : List Box} {i im : Nat} (X : Box) (h : i ≠ im) : rowN (A.set im X) i = rowN A i:=by unfold rowN; rw [getD_set_ne' (Ne.symm h)]
theorem LstN.setm {n i im : Nat} {ns : List Nm} {A : List Box} (h : LstN n i im ns A) (hi : i ≠ im) (hr : rowN A i ≠ im) (X : Box) : LstN n i im ns (A.set im X):=by
  obtain ⟨⟨l1,l2⟩,ho,r,h1,h2,h3,h4⟩:=h
  refine ⟨⟨l1,by simpa using l2⟩,ho,r,by rw [getD_set_ne' (Ne.symm hi)]; exact h1,?_,by rw [rowN_set X hi]; exact h3,h4⟩
  rcases h2 with h2 | ⟨j,rfl,hj,hA⟩
  · exact .inl h2
  · have : j ≠ im:=by unfold rowN at hr; rw [h1] at hr; exact hr
    exact .inr ⟨j,rfl,by simpa using hj,by rw [getD_set_ne' (Ne.symm this)]; exact hA⟩
theorem FrL.setm {i im : Nat} {A : List Box} (hi : i ≠ im) (X : Box) : FrL i im A (A.set im X) :=
  ⟨by simp,.inl (rowN_set X hi),fun k _ _ hm _=>getD_set_ne' (Ne.symm hm)⟩
theorem esN_app (ns : List Nm) (p : Nm) : esN ns ++ [(.agg [.str p.1,.str p.2],.bool true)] = esN (ns ++ [p]):=by simp [esN,nmE]
set_option maxRecDepth 100000 in
theorem once_vis (n i im is iv : Nat) : Vis List.length (NamI n i im is iv) (FrL i im) (fun p ns=>addN ns p) 200 [.ptr is 0,.ptr iv 0] where
  call:=by kernel_rfl
  app:=fun s A B h=>⟨h.app B,FrL.app h.lst.lo.2 B⟩
  grow:=fun p s=>addN_len s p
  trans:=fun A B C h k=>h.trans k
  box:=fun s A A' c h hf=>by
    have h1:=h.lst.lo.2
    have h2:=h.map.1
    have h3:=h.lst.row_lt
    have e : rowN (A ++ [c]) i = rowN A i:=by unfold rowN; rw [Abs.getD_append_left h1]
    rw [hf.2.2 A.length (by simp) (by omega) (by omega) (by rw [e]; omega),Abs.getD_append_right (Nat.le_refl _)]
    simp
  vis:=fun p ns A hp hz h=>by
    have hs:=nm_short hp
    have h1:=h.app [.cells [.str p.1,.str p.2]]
    have f1 : FrL i im A (A ++ [.cells [.str p.1,.str p.2]]):=FrL.app h.lst.lo.2 _
    obtain ⟨r,q1,q2,q3⟩:=find_n p ns 0
    simp only [nmE] at q1
    obtain ⟨s1,s2⟩:=h1.seen
    obtain ⟨m1,m2⟩:=h1.map
    obtain ⟨v1,v2⟩:=h1.vis
    rcases r with _ | ⟨q,w⟩
    · have hnot : p ∉ ns:=q3.mp rfl
      have e : addN ns p = ns ++ [p]:=by unfold addN; rw [if_neg hnot]
      obtain ⟨n1,n2,n3,n4,n5,n6⟩:=h1.ne
      obtain ⟨r1,r2,r3⟩:=h1.row
      have hl2:=h1.lst.setm n1 r1 (.mapb (esN (ns ++ [p])))
      have him2 : im < ((A ++ [Box.cells [.str p.1,.str p.2]]).set im (.mapb (esN (ns ++ [p])))).length:=by simpa using m1
      have hadd:=names_add n i im ns _ p ⟨hs.2,Nat.le_of_eq hs.1⟩ hz hl2 him2
      have b3 : A.length ≠ im:=by have:=h.map.1; omega
      have hgv : ((A ++ [Box.cells [.str p.1,.str p.2]]).set im (.mapb (esN (ns ++ [p])))).getD iv .dead = .cells [.func (.func 113) [] [.ptr i 0]]:=by rw [getD_set_ne' (Ne.symm n5)]; exact v2
      have hgk : ∀ X : Box,((A ++ [Box.cells [.str p.1,.str p.2]]).set im X).getD A.length .dead = .cells [.str p.1,.str p.2]:=fun X=>by rw [getD_set_ne' (Ne.symm b3),Abs.getD_append_right (Nat.le_refl _)]; simp
      have hmu:=esN_app ns p
      rw [e]
      refine acalls_enterK (cf:=cf 13 [0,1,2,3,7]) foll Tryz.func200 Tryz.ntmps200 (by simp [cf]) ?_
      simp only [Tryz.f200,EnterK_some,zW,zX,zD,builtinA,isLeaf,const1,Nat.reduceAdd,Nat.reduceMul,Nat.reduceSub,Nat.reduceLT,Nat.reduceLeDiff,Nat.reduceEqDiff,Nat.reduceBEq,Nat.reduceBNe,reduceIte,reduceCtorEq,Int.reduceToNat,Int.reduceLT,Int.reduceLE,Int.reduceEq,Int.reduceNe,Int.reduceNeg,ustrA,ti146,ti180,ti283,mi283,cf,Tryz.results200]
      simp only [zW,zX,zD,builtinA,isLeaf,const1,Nat.reduceAdd,Nat.reduceMul,Nat.reduceSub,Nat.reduceLT,Nat.reduceLeDiff,Nat.reduceEqDiff,Nat.reduceBEq,Nat.reduceBNe,reduceIte,reduceCtorEq,Int.reduceToNat,Int.reduceLT,Int.reduceLE,Int.reduceEq,Int.reduceNe,Int.reduceNeg,ustrA,ti146,ti180,ti283,mi283,cf,Tryz.results200,s2,m2,q1,hmu,hgv,hgk]
      refine wpO_callv _ _ _ _ _ _ _ _ _ _ _ _ _ _ _ ?_
      simp only [zW,zX,zD,builtinA,isLeaf,const1,Nat.reduceAdd,Nat.reduceMul,Nat.reduceSub,Nat.reduceLT,Nat.reduceLeDiff,Nat.reduceEqDiff,Nat.reduceBEq,Nat.reduceBNe,reduceIte,reduceCtorEq,Int.reduceToNat,Int.reduceLT,Int.reduceLE,Int.reduceEq,Int.reduceNe,Int.reduceNeg,ustrA,ti146,ti180,ti283,mi283,cf,Tryz.results200]
      refine ⟨by kernel_rfl,callO_intro (by simpa only [List.nil_append,List.cons_append] using hadd) ?_⟩
      rintro r A3 ⟨h3,f3,g3⟩
      have hrs : rowN ((A ++ [Box.cells [.str p.1,.str p.2]]).set im (.mapb (esN (ns ++ [p])))) i = rowN (A ++ [Box.cells [.str p.1,.str p.2]]) i:=rowN_set _ n1
      have hlen : ((A ++ [Box.cells [.str p.1,.str p.2]]).set im (.mapb (esN (ns ++ [p])))).length = (A ++ [Box.cells [.str p.1,.str p.2]]).length:=by simp
      have hle:=f3.1
      rw [hlen] at hle g3
      simp only [zW,zX,zD,builtinA,isLeaf,const1,Nat.reduceAdd,Nat.reduceMul,Nat.reduceSub,Nat.reduceLT,Nat.reduceLeDiff,Nat.reduceEqDiff,Nat.reduceBEq,Nat.reduceBNe,reduceIte,reduceCtorEq,Int.reduceToNat,Int.reduceLT,Int.reduceLE,Int.reduceEq,Int.reduceNe,Int.reduceNeg,ustrA,ti146,ti180,ti283,mi283,cf,Tryz.results200]
      refine ⟨⟨h3,⟨by omega,?_⟩,⟨by omega,?_⟩,⟨by omega,?_⟩,h1.ne⟩,f1.trans ((FrL.setm n1 _).trans f3)⟩
      · rw [g3 im m1 (Ne.symm n1) (by rw [hrs]; exact Ne.symm r1),getD_set_self m1]
      · rw [g3 is s1 n2 (by rw [hrs]; exact Ne.symm r2),getD_set_ne' (Ne.symm n3)]; exact s2
      · rw [g3 iv v1 n4 (by rw [hrs]; exact Ne.symm r3),hgv]
    · have hin : decide (p ∈ ns) = true:=by
        rcases hd : decide (p ∈ ns) with _ | _
        · have:=q3.mpr (by simpa using hd); cases this
        · rfl
      have e : addN ns p = ns:=by unfold addN; rw [if_pos (by simpa using hin)]
      have q4 : w = .bool true:=by rw [← hin]; exact q2
      subst q4
      rw [e]
      refine acalls_enterK (cf:=cf 13 [0,1,2,3,7]) foll Tryz.func200 Tryz.ntmps200 (by simp [cf]) ?_
      simp only [Tryz.f200,EnterK_some,zW,zX,zD,builtinA,isLeaf,const1,Nat.reduceAdd,Nat.reduceMul,Nat.reduceSub,Nat.reduceLT,Nat.reduceLeDiff,Nat.reduceEqDiff,Nat.reduceBEq,Nat.reduceBNe,reduceIte,reduceCtorEq,Int.reduceToNat,Int.reduceLT,Int.reduceLE,Int.reduceEq,Int.reduceNe,Int.reduceNeg,ustrA,ti146,ti180,ti283,mi283,cf,Tryz.results200]
      simp only [zW,zX,zD,builtinA,isLeaf,const1,Nat.reduceAdd,Nat.reduceMul,Nat.reduceSub,Nat.reduceLT,Nat.reduceLeDiff,Nat.reduceEqDiff,Nat.reduceBEq,Nat.reduceBNe,reduceIte,reduceCtorEq,Int.reduceToNat,Int.reduceLT,Int.reduceLE,Int.reduceEq,Int.reduceNe,Int.reduceNeg,ustrA,ti146,ti180,ti283,mi283,cf,Tryz.results200,s2,m2,q1]
      exact ⟨h1,f1⟩
theorem fold_nms : ∀ (v : VT) (ns : List Nm),foldV (fun p ns=>addN ns p) v ns = nmsV ns v
  | .num,ns=>rfl
  | .nm m k,ns=>rfl
  | .fn a b,ns=>by rw [foldV,nmsV,fold_nms a,fold_nms b]
set_option maxRecDepth 100000 in
theorem impl_once (A : List Box) (f : FuncId) (i : Nat) : ACalls Tryz.prog 112 [.func (.func f) [] [.ptr i 0]] A (fun r A'=>r = .func (.func 200) [] [.ptr (A.length + 2) 0,.ptr A.length 0] ∧ A' = A ++ [.cells [.func (.func f) [] [.ptr i 0]],.mapb [],.cells [.map (A.length + 1)]]):=by
  refine acalls_enterK (cf:=cf 6 [0,1,2,3]) foll Tryz.func112 Tryz.ntmps112 (by simp [cf]) ?_
  simp only [Tryz.f112,EnterK_some,zW,zX,zD,builtinA,isLeaf,const1,Nat.reduceAdd,Nat.reduceMul,Nat.reduceSub,Nat.reduceLT,Nat.reduceLeDiff,Nat.reduceEqDiff,Nat.reduceBEq,Nat.reduceBNe,reduceIte,reduceCtorEq,Int.reduceToNat,Int.reduceLT,Int.reduceLE,Int.reduceEq,Int.reduceNe,Int.reduceNeg,ustrA,ti146,ti283,cf,Tryz.results112]
  rfl
theorem metP {name : String} {gs : VT → FuncId} (h : Met name gs) (v : VT) : methP Tryz.prog (vT v) name:=by unfold methP; rw [h.find v]; rfl
theorem toTy_inj'N : ∀ {v v' : VT},toTy v = toTy v' → v = v'
  | .num,.num,_=>rfl
  | .num,.nm _ _,h=>by simp [toTy] at h
  | .num,.fn _ _,h=>by simp [toTy] at h
  | .nm _ _,.num,h=>by simp [toTy] at h
  | .nm _ _,.fn _ _,h=>by simp [toTy] at h
  | .fn _ _,.num,h=>by simp [toTy] at h
  | .fn _ _,.nm _ _,h=>by simp [toTy] at h
  | .nm m n,.nm m' n',h=>by simp [toTy] at h; rw [h.1,h.2]
  | .fn a b,.fn a' b',h=>by
    simp [toTy] at h
    rw [toTy_inj'N h.1,toTy_inj'N h.2]
def NmsNew (A : List Box) (ns : List Nm) (r : AV) (A' : List Box) : Prop :=
  ∃ B,A' = A ++ B ∧ ((r = .nils ∧ ns = []) ∨ ∃ j,r = .own j ∧ A.length ≤ j ∧ A'.getD j .dead = .gr none 4 (nrows ns)) ∧ ∀ b ∈ B,ifreeB b = true
theorem nrows_free (ns : List Nm) : (nrows ns).all ifrees = true:=by
  rw [List.all_eq_true]
  intro r hr
  rw [nrows,encs_map,List.map_map] at hr
  obtain ⟨p,_,rfl⟩:=List.mem_map.1 hr
  simp [nty_enc,ifrees,ifree]
theorem nmsNew_of {A A' : List Box} {ns : List Nm} {r : AV} (hl : A.length ≤ A'.length) (hf : ∀ k,k < A.length → A'.getD k .dead = A.getD k .dead)
    (h : (r = .nils ∧ ns = []) ∨ ∃ j,r = .own j ∧ A.length ≤ j ∧ A'.getD j .dead = .gr none 4 (nrows ns)) : ∃ keep,NmsNew A ns r (only keep A'):=by
  have go : ∀ (keep : Nat → Bool),(∀ k,k < A.length → keep k = true) → (∀ k,A.length ≤ k → keep k = true → ifreeB (A'.getD k .dead) = true) →
      ((r = .nils ∧ ns = []) ∨ ∃ j,r = .own j ∧ A.length ≤ j ∧ (only keep A').getD j .dead = .gr none 4 (nrows ns)) → NmsNew A ns r (only keep A'):=fun keep h1 h2 h3=>by
    have e:=split_front (A:=A) (A':=only keep A') (by rw [only_length]; exact hl) (fun k hk=>by rw [only_getD,if_pos (h1 k hk)]; exact hf k hk)
    refine ⟨_,e,h3,fun b hb=>?_⟩
    obtain ⟨i,hi,rfl⟩:=List.mem_iff_getElem.1 hb
    rw [List.getElem_drop]
    have hi2 : A.length + i < (only keep A').length:=by simp at hi; omega
    have e2 : (only keep A')[A.length + i] = (only keep A').getD (A.length + i) .dead:=by simp [List.getD,hi2]
    rw [e2,only_getD]
    split
    · rename_i hk; exact h2 _ (by omega) hk
    · rfl
  rcases h with h | ⟨j,rfl,hj,hb⟩
  · refine ⟨fun k=>decide (k < A.length),go _ (fun k hk=>by simpa using hk) (fun k h1 h2=>by simp at h2; omega) (.inl h)⟩
  · refine ⟨fun k=>decide (k < A.length) || decide (k = j),go _ (fun k hk=>by simp [hk]) (fun k h1 h2=>?_) (.inr ⟨j,rfl,hj,by rw [only_getD,if_pos (by simp)]; exact hb⟩)⟩
    simp at h2
    rcases h2 with h2 | rfl
    · omega
    · rw [hb]; exact nrows_free ns
noncomputable def nmsOf (τ : Ty) : List Nm:=open Classical in if h : ∃ v,τ = toTy v ∧ VOk v then nmsV [] h.choose else []
theorem nmsOf_toTy {v : VT} (hv : VOk v) : nmsOf (toTy v) = nmsV [] v:=by
  have h : ∃ u,toTy v = toTy u ∧ VOk u:=⟨v,rfl,hv⟩
  unfold nmsOf
  rw [dif_pos h]
  have:=h.choose_spec.1
  rw [← toTy_inj'N this]
theorem nmsOf_bad {τ : Ty} (h : validB τ = false) : nmsOf τ = []:=by
  unfold nmsOf
  rw [dif_neg]
  rintro ⟨v,rfl,hv⟩
  rw [validB_toTy hv] at h; cases h
set_option maxRecDepth 100000 in
theorem impl_TypeNames (τ : Ty) (A : List Box) : ACalls Tryz.prog 40 [.agg (enc τ)] A (fun r A'=>NmsNew A (nmsOf τ) r A'):=by
  refine ACalls.only (ACalls.grow ?_)
  refine acalls_enterK (cf:=cf 21 [0,1,2,3,4,5,12]) foll Tryz.func40 Tryz.ntmps40 (by simp [cf]) ?_
  simp only [Tryz.f40,EnterK_some,zW,zX,zD,builtinA,isLeaf,const1,Nat.reduceAdd,Nat.reduceMul,Nat.reduceSub,Nat.reduceLT,Nat.reduceLeDiff,Nat.reduceEqDiff,Nat.reduceBEq,Nat.reduceBNe,reduceIte,reduceCtorEq,Int.reduceToNat,Int.reduceLT,Int.reduceLE,Int.reduceEq,Int.reduceNe,Int.reduceNeg,ustrA,ti34,ti36,ca111,ca112,cf,Tryz.results40]
  simp only [enc_take]
  refine ⟨by rw [enc_length]; omega,?_⟩
  refine callK_intro (by simp only [zW,zX,zD,builtinA,isLeaf,const1,Nat.reduceAdd,Nat.reduceMul,Nat.reduceSub,Nat.reduceLT,Nat.reduceLeDiff,Nat.reduceEqDiff,Nat.reduceBEq,Nat.reduceBNe,reduceIte,reduceCtorEq,Int.reduceToNat,Int.reduceLT,Int.reduceLE,Int.reduceEq,Int.reduceNe,Int.reduceNeg,ustrA,frzL_enc,Option.map_some]; rfl) (impl_readType τ _) ?_ rfl
  rintro r A' ⟨⟨v,rfl,hv,rfl⟩ | ⟨hv,rfl⟩,rfl⟩
  · simp only [zW,zX,zD,builtinA,isLeaf,const1,Nat.reduceAdd,Nat.reduceMul,Nat.reduceSub,Nat.reduceLT,Nat.reduceLeDiff,Nat.reduceEqDiff,Nat.reduceBEq,Nat.reduceBNe,reduceIte,reduceCtorEq,Int.reduceToNat,Int.reduceLT,Int.reduceLE,Int.reduceEq,Int.reduceNe,Int.reduceNeg,ustrA,ti34,ti36,ca111,ca112,cf,Tryz.results40]
    have hon:=impl_once (A ++ [Box.cells (enc (toTy v)),.cells [.nils]]) 113 (A.length + 1)
    have hN : NamI A.length (A.length + 1) (A.length + 3) (A.length + 4) (A.length + 2) [] (A ++ [Box.cells (enc (toTy v)),.cells [.nils],.cells [.func (.func 113) [] [.ptr (A.length + 1) 0]],.mapb [],.cells [.map (A.length + 3)]]):=by
      have g : ∀ k b,([Box.cells (enc (toTy v)),.cells [.nils],.cells [.func (.func 113) [] [.ptr (A.length + 1) 0]],.mapb [],.cells [.map (A.length + 3)]] : List Box).getD k .dead = b → (A ++ [Box.cells (enc (toTy v)),.cells [.nils],.cells [.func (.func 113) [] [.ptr (A.length + 1) 0]],.mapb [],.cells [.map (A.length + 3)]]).getD (A.length + k) .dead = b:=fun k b h=>by
        rw [Abs.getD_append_right (by omega),show A.length + k - A.length = k by omega]; exact h
      refine ⟨⟨⟨by omega,by simp⟩,by intro q hq; simp at hq,.nils,g 1 _ rfl,.inl ⟨rfl,rfl⟩,?_,by simp⟩,⟨by simp,g 3 _ rfl⟩,⟨by simp,g 4 _ rfl⟩,⟨by simp,g 2 _ rfl⟩,by omega,by omega,by omega,by omega,by omega,by omega⟩
      unfold rowN
      rw [g 1 _ rfl]
      simp
    have hea:=eachG (once_vis A.length (A.length + 1) (A.length + 3) (A.length + 4) (A.length + 2)) v [] _ hv.ok (by have:=hv.cnt; simp; omega) hN
    simp only [List.length_append,List.length_cons,List.length_nil,List.append_assoc,List.cons_append,List.nil_append,Nat.add_assoc,Nat.reduceAdd] at hon
    rw [fold_nms] at hea
    refine .inr (drawM_intro [6] .done [(false,0,1),(false,0,0),(true,0,0),(false,0,1),(false,0,1),(false,0,1),(true,1,1)] [A ++ [Box.cells (enc (toTy v)),.cells [.nils]],A ++ [Box.cells (enc (toTy v)),.cells [.nils],.cells [.func (.func 113) [] [.ptr (A.length + 1) 0]],.mapb [],.cells [.map (A.length + 3)]]] 2 7 rfl (by kernel_rfl) (by kernel_rfl) ?_)
    simp only [zW,zX,zD,builtinA,isLeaf,const1,Nat.reduceAdd,Nat.reduceMul,Nat.reduceSub,Nat.reduceLT,Nat.reduceLeDiff,Nat.reduceEqDiff,Nat.reduceBEq,Nat.reduceBNe,reduceIte,reduceCtorEq,Int.reduceToNat,Int.reduceLT,Int.reduceLE,Int.reduceEq,Int.reduceNe,Int.reduceNeg,ustrA,ti34,ti36,ca111,ca112,cf,Tryz.results40,wpMG_cons,wpMG_nil,wpY_done_eq,wpG_makeFunc,List.take_succ_cons,List.take_zero,List.drop_succ_cons,List.drop_zero,List.nil_append,List.map_cons,List.map_nil,List.size_toArray,List.length_nil]
    refine callEO_intro hon ?_ rfl
    simp only [zW,zX,zD,builtinA,isLeaf,const1,Nat.reduceAdd,Nat.reduceMul,Nat.reduceSub,Nat.reduceLT,Nat.reduceLeDiff,Nat.reduceEqDiff,Nat.reduceBEq,Nat.reduceBNe,reduceIte,reduceCtorEq,Int.reduceToNat,Int.reduceLT,Int.reduceLE,Int.reduceEq,Int.reduceNe,Int.reduceNeg,ustrA,ti34,ti36,ca111,ca112,cf,Tryz.results40,wpMG_cons,wpMG_nil,wpY_done_eq,wpG_makeFunc,notNil,List.take_succ_cons,List.take_zero,List.drop_succ_cons,List.drop_zero,List.nil_append,List.cons_append,List.append_nil,List.map_cons,List.map_nil,List.size_toArray,List.length_nil,List.length_cons]
    refine ⟨metP (gs:=(pickF 429 436 358)) (met3 (by kernel_rfl) (by kernel_rfl) (by kernel_rfl) (by kernel_rfl) (by kernel_rfl) (by kernel_rfl)) v,metP (gs:=(pickF 429 436 358)) (met3 (by kernel_rfl) (by kernel_rfl) (by kernel_rfl) (by kernel_rfl) (by kernel_rfl) (by kernel_rfl)) v,?_⟩
    refine wpO_invoke _ _ _ _ _ _ _ _ _ _ _ _ _ _ _ _ ?_
    simp only [zW,zX,zD,builtinA,isLeaf,const1,Nat.reduceAdd,Nat.reduceMul,Nat.reduceSub,Nat.reduceLT,Nat.reduceLeDiff,Nat.reduceEqDiff,Nat.reduceBEq,Nat.reduceBNe,reduceIte,reduceCtorEq,Int.reduceToNat,Int.reduceLT,Int.reduceLE,Int.reduceEq,Int.reduceNe,Int.reduceNeg,ustrA,ti34,ti36,ca111,ca112,cf,Tryz.results40]
    refine meth_invK (met3 (by kernel_rfl) (by kernel_rfl) (by kernel_rfl) (by kernel_rfl) (by kernel_rfl) (by kernel_rfl)) hea rfl (fun _=>rfl) ?_
    rintro r A2 ⟨hN2,hF2⟩
    obtain ⟨⟨l1,l2⟩,ho,r0,k1,k2,k3,k4⟩:=hN2.lst
    have hfr : ∀ k,k < A.length → A2.getD k .dead = A.getD k .dead:=fun k hk=>by
      have e : rowN (A ++ [Box.cells (enc (toTy v)),.cells [.nils],.cells [.func (.func 113) [] [.ptr (A.length + 1) 0]],.mapb [],.cells [.map (A.length + 3)]]) (A.length + 1) = A.length + 1:=by
        unfold rowN
        rw [Abs.getD_append_right (by omega),show A.length + 1 - A.length = 1 by omega]
        rfl
      rw [hF2.2.2 k (by simp; omega) (by omega) (by omega) (by rw [e]; omega),Abs.getD_append_left hk]
    simp only [zW,zX,zD,builtinA,isLeaf,const1,Nat.reduceAdd,Nat.reduceMul,Nat.reduceSub,Nat.reduceLT,Nat.reduceLeDiff,Nat.reduceEqDiff,Nat.reduceBEq,Nat.reduceBNe,reduceIte,reduceCtorEq,Int.reduceToNat,Int.reduceLT,Int.reduceLE,Int.reduceEq,Int.reduceNe,Int.reduceNeg,ustrA,ti34,ti36,ca111,ca112,cf,Tryz.results40]
    refine ⟨[[],[],A2],rfl,?_⟩
    simp only [zW,zX,zD,builtinA,isLeaf,const1,Nat.reduceAdd,Nat.reduceMul,Nat.reduceSub,Nat.reduceLT,Nat.reduceLeDiff,Nat.reduceEqDiff,Nat.reduceBEq,Nat.reduceBNe,reduceIte,reduceCtorEq,Int.reduceToNat,Int.reduceLT,Int.reduceLE,Int.reduceEq,Int.reduceNe,Int.reduceNeg,ustrA,ti34,ti36,ca111,ca112,cf,Tryz.results40,wpMG_nil,wpY_done_eq,List.drop_succ_cons,List.drop_zero,k1]
    have hlen : A.length ≤ A2.length:=by have:=hF2.1; simp at this; omega
    rw [nmsOf_toTy hv]
    rcases k2 with ⟨rfl,hns⟩ | ⟨j,rfl,hj,hA⟩
    · exact .inl (nmsNew_of hlen hfr (.inl ⟨rfl,hns⟩))
    · have hjr : rowN A2 (A.length + 1) = j:=by unfold rowN; rw [k1]
      refine .inr ⟨j,4,nrows (nmsV [] v),hA,nmsNew_of (by simpa using hlen) (fun k hk=>by rw [getD_set_ne' (by omega)]; exact hfr k hk) (.inr ⟨j,rfl,by omega,getD_set_self hj⟩)⟩
  · simp only [zW,zX,zD,builtinA,isLeaf,const1,Nat.reduceAdd,Nat.reduceMul,Nat.reduceSub,Nat.reduceLT,Nat.reduceLeDiff,Nat.reduceEqDiff,Nat.reduceBEq,Nat.reduceBNe,reduceIte,reduceCtorEq,Int.reduceToNat,Int.reduceLT,Int.reduceLE,Int.reduceEq,Int.reduceNe,Int.reduceNeg,ustrA,ti34,ti36,ca111,ca112,cf,Tryz.results40]
    rw [nmsOf_bad hv]
    exact .inl (nmsNew_of (by simp) (fun k hk=>Abs.getD_append_left hk) (.inl ⟨rfl,rfl⟩))
end Go.Proofs.YtnjdbgiincliaaaGreat
/- What is owned holds no place of other memory. -/
set_option linter.unusedVariables false
set_option linter.unusedSimpArgs false
namespace Go.Proofs.YtnjdbgiincliaaaGreat
open Go.Abs
mutual
theorem OwnT.free {A : List Box} : ∀ {t : Ty} {r : List AV} {S : List Nat},OwnT A t r S → ifrees r = true ∧ ∀ i ∈ S,ifreeB (A.getD i .dead) = true
  | .mk k m n ks,r,S,h=>by
    rw [OwnT] at h
    obtain ⟨v,rfl,h⟩:=h
    rcases h with ⟨rfl,_,rfl⟩ | ⟨rfl,_,rfl⟩ | ⟨i,rows,S',rfl,rfl,h3,h4⟩
    · exact ⟨by simp [ifrees,ifree],by simp⟩
    · exact ⟨by simp [ifrees,ifree],by simp⟩
    · refine ⟨by simp [ifrees,ifree],fun j hj=>?_⟩
      have h5:=OwnR.free h4
      rcases List.mem_cons.1 hj with rfl | hj
      · rw [h3]; exact h5.1
      · exact h5.2 j hj
theorem OwnR.free {A : List Box} : ∀ {ks : List Ty} {rows : List (List AV)} {S : List Nat},OwnR A ks rows S → rows.all ifrees = true ∧ ∀ i ∈ S,ifreeB (A.getD i .dead) = true
  | [],rows,S,h=>by rw [OwnR] at h; rw [h.1,h.2]; exact ⟨rfl,by simp⟩
  | t :: ks,rows,S,h=>by
    rw [OwnR] at h
    obtain ⟨r,rows',S1,S2,rfl,rfl,h3,h4⟩:=h
    have a:=OwnT.free h3
    have b:=OwnR.free h4
    refine ⟨by rw [List.all_cons,a.1,b.1]; rfl,fun j hj=>?_⟩
    rcases List.mem_append.1 hj with hj | hj
    · exact a.2 j hj
    · exact b.2 j hj
end
end Go.Proofs.YtnjdbgiincliaaaGreat
/- A signature's answer in memory of its own. -/
set_option linter.unusedVariables false
set_option linter.unusedSimpArgs false
namespace Go.Proofs.YtnjdbgiincliaaaGreat
open Go.Abs
theorem OwnK.free {A : List Box} {ks : List Ty} {v : AV} {S : List Nat} (h : OwnK A ks v S) : ifree v = true ∧ ∀ i ∈ S,ifreeB (A.getD i .dead) = true:=by
  have h2:=OwnT.free (ownT_mk.2 ⟨v,rfl,h⟩ : OwnT A (.mk 0 [] [] ks) _ S)
  simpa [ifrees,ifree] using h2
theorem OwnG.free {A : List Box} : ∀ {xs : List SigI} {rows : List (List AV)} {S : List Nat},OwnG A xs rows S → rows.all ifrees = true ∧ ∀ i ∈ S,ifreeB (A.getD i .dead) = true
  | [],rows,S,h=>by rw [OwnG] at h; rw [h.1,h.2]; exact ⟨rfl,by simp⟩
  | t :: ks,rows,S,h=>by
    rw [OwnG] at h
    obtain ⟨v,rows',S1,S2,rfl,rfl,h3,h4⟩:=h
    have a:=h3.free
    have b:=OwnG.free h4
    refine ⟨by rw [List.all_cons,b.1]; simp [sRow,ifrees,ifree,a.1],fun j hj=>?_⟩
    rcases List.mem_append.1 hj with hj | hj
    · exact a.2 j hj
    · exact b.2 j hj
theorem OwnI.free {A : List Box} {xs : List SigI} {v : AV} {S : List Nat} (h : OwnI A xs v S) : ifree v = true ∧ ∀ i ∈ S,ifreeB (A.getD i .dead) = true:=by
  rcases h with ⟨rfl,_,rfl⟩ | ⟨i,rows,S',rfl,rfl,h3,h4⟩
  · exact ⟨rfl,by simp⟩
  · refine ⟨rfl,fun j hj=>?_⟩
    have h5:=h4.free
    rcases List.mem_cons.1 hj with rfl | hj
    · rw [h3]; exact h5.1
    · exact h5.2 j hj
end Go.Proofs.YtnjdbgiincliaaaGreat
/- Lists of bindings as memory of their own. -/
set_option linter.unusedVariables false
set_option linter.unusedSimpArgs false
namespace Go.Proofs.YtnjdbgiincliaaaGreat
open Go.Abs
def bRow (b : BdI) (v : AV) : List AV:=[.str b.mod,.str b.name,.int .i64 b.typ.kind,.str b.typ.mod,.str b.typ.name,v]
def OwnB (A : List Box) : List BdI → List (List AV) → List Nat → Prop
  | [],rows,S=>rows = [] ∧ S = []
  | b :: bs,rows,S=>∃ v rows' S1 S2,rows = bRow b v :: rows' ∧ S = S1 ++ S2 ∧ OwnK A b.typ.kids v S1 ∧ OwnB A bs rows' S2
theorem OwnB.frame {A A' : List Box} : ∀ {bs : List BdI} {rows : List (List AV)} {S : List Nat},OwnB A bs rows S → (∀ i ∈ S,A'.getD i .dead = A.getD i .dead) → OwnB A' bs rows S
  | [],rows,S,h,hf=>h
  | b :: bs,rows,S,h,hf=>by
    rw [OwnB] at h ⊢
    obtain ⟨v,rows',S1,S2,h1,rfl,h3,h4⟩:=h
    exact ⟨v,rows',S1,S2,h1,rfl,h3.frame fun j hj=>hf j (by simp [hj]),OwnB.frame h4 fun j hj=>hf j (by simp [hj])⟩
theorem OwnB.length {A : List Box} : ∀ {bs : List BdI} {rows : List (List AV)} {S : List Nat},OwnB A bs rows S → rows.length = bs.length
  | [],rows,S,h=>by rw [OwnB] at h; rw [h.1]; rfl
  | b :: bs,rows,S,h=>by
    rw [OwnB] at h
    obtain ⟨v,rows',S1,S2,rfl,h2,h3,h4⟩:=h
    simp [OwnB.length h4]
theorem OwnB.low {A : List Box} : ∀ {bs : List BdI} {rows : List (List AV)} {S : List Nat},OwnB A bs rows S → ∀ i ∈ S,i < A.length
  | [],rows,S,h=>by rw [OwnB] at h; rw [h.2]; simp
  | b :: bs,rows,S,h=>by
    rw [OwnB] at h
    obtain ⟨v,rows',S1,S2,h1,rfl,h3,h4⟩:=h
    intro j hj
    rcases List.mem_append.1 hj with hj | hj
    · exact h3.low j hj
    · exact OwnB.low h4 j hj
theorem OwnB.append {A : List Box} : ∀ {k1 k2 : List BdI} {r1 r2 : List (List AV)} {S1 S2 : List Nat},OwnB A k1 r1 S1 → OwnB A k2 r2 S2 → OwnB A (k1 ++ k2) (r1 ++ r2) (S1 ++ S2)
  | [],k2,r1,r2,S1,S2,h1,h2=>by
    rw [OwnB] at h1
    rw [h1.1,h1.2]; exact h2
  | t :: k1,k2,r1,r2,S1,S2,h1,h2=>by
    rw [OwnB] at h1
    obtain ⟨v,r',T1,T2,rfl,rfl,h3,h4⟩:=h1
    rw [List.cons_append,OwnB]
    exact ⟨v,r' ++ r2,T1,T2 ++ S2,by simp,by simp,h3,OwnB.append h4 h2⟩
theorem OwnB.view {A : List Box} : ∀ {bs : List BdI} {rows : List (List AV)} {S : List Nat},OwnB A bs rows S → ∀ k,k < rows.length → ∀ j,j < 6 → View A ((rows.getD k []).getD j .bot) ((bE (bs.getD k bd0)).getD j .bot)
  | [],rows,S,h=>by rw [OwnB] at h; rw [h.1]; intro k hk; simp at hk
  | b :: bs,rows,S,h=>by
    rw [OwnB] at h
    obtain ⟨v,rows',S1,S2,rfl,h2,h3,h4⟩:=h
    intro k hk j hj
    cases k with
    | zero =>
      have hv:=h3.view
      match j,hj with
      | 0,_=>exact .leaf _ rfl
      | 1,_=>exact .leaf _ rfl
      | 2,_=>exact .leaf _ rfl
      | 3,_=>exact .leaf _ rfl
      | 4,_=>exact .leaf _ rfl
      | 5,_=>exact hv
    | succ k =>
      have:=OwnB.view h4 k (by simpa using hk) j hj
      simpa using this
end Go.Proofs.YtnjdbgiincliaaaGreat
/- Strengthened signatures, by the program and by the model. -/
set_option linter.unusedVariables false
set_option linter.unusedSimpArgs false
namespace Go.Proofs.YtnjdbgiincliaaaGreat
open Go.Abs
theorem ready {s : List SigI} {ys : List VI} (h : ReadsTo s ys) {i : Nat} (hi : i < s.length) : s.getD i si0 = siOf (ys.getD i vi0):=itemOf_si (h.2 i hi).2
end Go.Proofs.YtnjdbgiincliaaaGreat
/- What a name stands for in the first items of a signature. -/
set_option linter.unusedVariables false
set_option linter.unusedSimpArgs false
namespace Go.Proofs.YtnjdbgiincliaaaGreat
open Go.Abs
theorem szIs_bd : ∀ (l : List SigI) (b : Nat),(∀ x ∈ l,szI x ≤ b) → szIs l ≤ l.length * b
  | [],b,_=>by simp [szIs]
  | x :: l,b,h=>by
    have h1:=h x (by simp)
    have h2:=szIs_bd l b fun y hy=>h y (by simp [hy])
    simp only [szIs,List.map_cons,List.sum_cons,List.length_cons] at h2 ⊢
    rw [Nat.succ_mul]; omega
theorem smx_all {s : List SigI} (hs : s.length ≤ 9) (hm : ∀ x ∈ s,SmX x) : (∀ x ∈ s,x.Ok ∧ sz x.typ ≤ 1048576) ∧ s.length + szIs s ≤ 1048576:=by
  refine ⟨fun x hx=>(hm x hx).ok,?_⟩
  have h2:=szIs_bd s 300 fun x hx=>by
    have h3 : x.name.length ≤ 2 ∧ sz x.typ ≤ 200:=hm x hx
    rw [szI]; omega
  omega
end Go.Proofs.YtnjdbgiincliaaaGreat
namespace Go.Proofs.YtnjdbgiincliaaaGreat
open Go.Abs
end Go.Proofs.YtnjdbgiincliaaaGreat
/- The program's SigValid. -/
set_option linter.unusedVariables false
set_option linter.unusedSimpArgs false
namespace Go.Proofs.YtnjdbgiincliaaaGreat
open Go.Abs
set_option maxRecDepth 100000 in
theorem impl_SigValid (s : List SigI) (hs : s.length ≤ 1048576) (ho : ∀ x ∈ s,x.Ok ∧ sz x.typ ≤ 1048576) (A : List Box) : ACalls Tryz.prog 39 [.slice (sEs s)] A (fun r A'=>r = .bool (sigB s) ∧ A' = A):=by
  refine acalls_enter (cf:=cf 11 [0,2,4]) foll Tryz.func39 Tryz.ntmps39 (by simp [cf]) ?_
  simp only [Tryz.f39,EnterK_some,zW,zX,zD,builtinA,isLeaf,const1,ustrA,simprocAttr,ca91,cf,Tryz.results39]
  refine callK_intro (by simp only [zW,zX,zD,builtinA,isLeaf,const1,ustrA,simprocAttr,Option.map_some]; rfl) (impl_readSig s hs ho _) ?_ rfl
  rintro r A' ⟨h,rfl⟩
  rcases h with ⟨ys,h8,hr,rfl⟩ | ⟨hb,rfl⟩
  · simp only [zW,zX,zD,builtinA,isLeaf,const1,ustrA,simprocAttr,ca91,cf,Tryz.results39]
    rw [sigB_reads h8 hr]
  · simp only [zW,zX,zD,builtinA,isLeaf,const1,ustrA,simprocAttr,ca91,cf,Tryz.results39]
    rw [sigB_bad hb]
end Go.Proofs.YtnjdbgiincliaaaGreat
/- The laws' searches among texts; the modules of a signature are few. -/
set_option linter.unusedVariables false
set_option linter.unusedSimpArgs false
namespace Go.Proofs.YtnjdbgiincliaaaGreat
open Go.Abs Go.RowKit
theorem mem_drop_step {l : Nms} {i : Nat} {q : List UInt8} (h : i < l.length) : q ∈ l.drop i ↔ l.getD i [] = q ∨ q ∈ l.drop (i + 1):=by
  have : l.drop i = l.getD i [] :: l.drop (i + 1):=by
    have : l.getD i [] = l[i]:=by simp [List.getD,h]
    rw [this,List.getElem_cons_drop h]
  rw [this,List.mem_cons]
  exact ⟨fun h=>h.imp Eq.symm id,fun h=>h.imp Eq.symm id⟩
set_option maxRecDepth 100000 in
theorem laws_mkHas (l : Nms) (hl : l.length < 2 ^ 63) (q : List UInt8) (A : List Box) : ACalls Tryz.prog 35 [.slice (aEs l),.str q] A (fun v A'=>v = .bool (decide (q ∈ l)) ∧ A' = A):=by
  refine acalls_enter (cf:=cf 18 [0,1,4,5,9,17]) foll Tryz.func35 Tryz.ntmps35 (by simp [cf]) ?_
  simp only [Tryz.f35,EnterK_some,zW,zX,zD,builtinA,isLeaf,const1,ustrA,simprocAttr,ti3,ti9,ti48,cf,Tryz.results35]
  refine aloop_intro [0,1,5] (fun e A'=>∃ i,i ≤ l.length ∧ decide (q ∈ l) = decide (q ∈ l.drop i) ∧ e = [(0,.slice (aEs l)),(1,.str q),(5,.int .i64 (i : Nat))] ∧ A' = A) (fun e _=>l.length - (intOf (Abs.look 5 e)).toNat) ?_ ?_
  · simp only [zW,zX,zD,builtinA,isLeaf,const1,ustrA,simprocAttr,ti3,ti9,ti48,cf,Tryz.results35]
    exact ⟨0,by omega,by simp,rfl⟩
  · rintro e A' ⟨i,hi,hq,rfl,rfl⟩
    by_cases hlt : i < l.length
    · have d1 : decide ((i : Int) < (l.length : Int)) = true:=decide_eq_true (by omega)
      have pi : 0 ≤ (i : Int) ∧ (i : Int) < (l.length : Int):=by omega
      have hg:=aEs_getD hlt
      have hi1 : IntKind.i64.wrap ((i : Int) + 1) = ((i + 1 : Nat) : Int):=by rw [wrap64 (by omega) (by omega)]; rfl
      have hm:=mem_drop_step (q:=q) hlt
      generalize l.getD i [] = x at *
      by_cases hx : x = q
      · have e : decide (q ∈ l.drop i) = true:=decide_eq_true (hm.2 (.inl hx))
        rw [e] at hq
        simp only [zW,zX,zD,builtinA,isLeaf,const1,ustrA,simprocAttr,ti3,ti9,ti48,cf,Tryz.results35,aEs_length,d1,hg,decide_eq_true hx]
        exact ⟨pi,by rw [hq]⟩
      · have e : decide (q ∈ l.drop i) = decide (q ∈ l.drop (i + 1)):=by
          rw [Bool.eq_iff_iff]; simp only [decide_eq_true_eq]
          exact ⟨fun h=>(hm.1 h).resolve_left hx,fun h=>hm.2 (.inr h)⟩
        rw [e] at hq
        simp only [zW,zX,zD,builtinA,isLeaf,const1,ustrA,simprocAttr,ti3,ti9,ti48,cf,Tryz.results35,aEs_length,d1,hg,decide_eq_false hx,hi1,LoopK_eq]
        refine ⟨pi,⟨i + 1,by omega,hq,rfl⟩,?_⟩
        simp only [intOf]; omega
    · have d1 : decide ((i : Int) < (l.length : Int)) = false:=decide_eq_false (by omega)
      have e : l.drop i = []:=List.drop_of_length_le (by omega)
      rw [e] at hq
      simp only [zW,zX,zD,builtinA,isLeaf,const1,ustrA,simprocAttr,ti3,ti9,ti48,cf,Tryz.results35,aEs_length,d1]
      rw [hq]; simp
theorem md_small3 {s : List SigI} {l : Nms} (h : MdIs s l) : l.length ≤ 1000:=by
  rcases h with ⟨ys,h1,h2,_,rfl⟩ | ⟨_,rfl⟩
  · have h3:=(mdIs_of h1).1
    have h4:=insMs_len (mdIs ys) []
    have:=h1.1
    simp [srt] at h4 ⊢
    omega
  · simp
theorem md_ex3 (s : List SigI) : ∃ l,MdIs s l:=by
  cases h : sigB s with
  | true=>obtain ⟨ys,h1,h2,h3⟩:=rd_yes h; exact ⟨_,.inl ⟨ys,h2,h1,h3,rfl⟩⟩
  | false=>exact ⟨[],.inr ⟨h,rfl⟩⟩
end Go.Proofs.YtnjdbgiincliaaaGreat
/- The laws' comparison of texts. -/
set_option linter.unusedVariables false
set_option linter.unusedSimpArgs false
namespace Go.Proofs.YtnjdbgiincliaaaGreat
open Go.Abs Go.RowKit
set_option maxRecDepth 100000 in
theorem laws_mkTexts (ks : Nms) (hl : ks.length < 2 ^ 63) (A : List Box) :
    ACalls Tryz.prog 37 [.slice (aEs ks),.slice (aEs ks)] A (fun v A'=>v = .bool true ∧ A' = A):=by
  refine acalls_enter (cf:=cf 26 [0,1,4,5,10,14,25]) foll Tryz.func37 Tryz.ntmps37 (by simp [cf]) ?_
  simp only [Tryz.f37,EnterK_some,zW,zX,zD,builtinA,isLeaf,const1,ustrA,simprocAttr,ti3,ti9,ti48,cf,Tryz.results37]
  refine aloop_intro [0,1,5] (fun e A'=>∃ i,i ≤ ks.length ∧ e = [(0,.slice (aEs ks)),(1,.slice (aEs ks)),(5,.int .i64 i)] ∧ A' = A) (fun e _=>ks.length - (intOf (Abs.look 5 e)).toNat) ?_ ?_
  · simp only [zW,zX,zD,builtinA,isLeaf,const1,ustrA,simprocAttr,ti3,ti9,ti48,cf,Tryz.results37]
    exact ⟨0,by omega,rfl⟩
  · rintro e A' ⟨i,hi,rfl,rfl⟩
    simp only [zW,zX,zD,builtinA,isLeaf,const1,ustrA,simprocAttr,ti3,ti9,ti48,cf,Tryz.results37,aEs_length]
    refine condK_intro (fun h2=>?_) (fun h2=>?_)
    · have hi2 : i < ks.length:=by simpa using h2
      have he:=aEs_getD hi2
      have hi1 : IntKind.i64.wrap ((i : Int) + 1) = ((i + 1 : Nat) : Int):=by rw [wrap64 (by omega) (by omega)]; rfl
      simp only [zW,zX,zD,builtinA,isLeaf,const1,ustrA,simprocAttr,ti3,ti9,ti48,cf,Tryz.results37,he,aEs_length]
      refine .inl ⟨by kernel_rfl,by kernel_rfl,⟨by omega,by omega⟩,⟨by omega,by omega⟩,?_⟩
      simp only [zW,zX,zD,builtinA,isLeaf,const1,ustrA,simprocAttr,ti3,ti9,ti48,cf,Tryz.results37,hi1,LoopK_eq]
      refine ⟨⟨i + 1,by omega,rfl⟩,?_⟩
      simp only [intOf]
      omega
    · simp only [zW,zX,zD,builtinA,isLeaf,const1,ustrA,simprocAttr,ti3,ti9,ti48,cf,Tryz.results37]
end Go.Proofs.YtnjdbgiincliaaaGreat
