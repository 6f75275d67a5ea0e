/- ExNames, ExNamesI, ExNamesS. -/
import Derived.Test.YtnjdbgiincliaaaGreatX04
import Derived.Test.YtnjdbgiincliaaaGreatAbsW3
/- The names of values in an expression, the program's side: the list is collected by a visit. -/
set_option linter.unusedVariables false
set_option linter.unusedSimpArgs false
namespace Go.Proofs.YtnjdbgiincliaaaGreat
open Go.Abs
abbrev XNm:=List UInt8 × List UInt8
abbrev nx_row (p : XNm) : List AV:=[.int .i64 3,.int .i64 0,.str p.1,.str p.2,.int .i64 0,.str [],.str [],.slice [],.slice []]
def xrowsN (ns : List XNm) : List (List AV):=ns.map nx_row
theorem xrowsN_length (ns : List XNm) : (xrowsN ns).length = ns.length:=by simp [xrowsN]
theorem xrowsN_getD {ns : List XNm} {i : Nat} (h : i < ns.length) : (xrowsN ns).getD i [] = nx_row (ns.getD i ([],[])):=by simp [xrowsN,List.getD,h]
noncomputable def addX (ns : List XNm) (p : XNm) : List XNm:=if p ∈ ns then ns else ns ++ [p]
theorem addX_len (ns : List XNm) (p : XNm) : (addX ns p).length ≤ ns.length + 1:=by unfold addX; split <;> simp
def nOkX (ns : List XNm) : Prop:=∀ p ∈ ns,p.1.length ≤ 1 ∧ p.2.length ≤ 1
theorem nm_shortX {m n : List UInt8} (h : nmB m n = true) : n.length = 1 ∧ m.length ≤ 1:=by
  simp only [nmB,Bool.and_eq_true,Bool.or_eq_true,decide_eq_true_eq] at h
  obtain ⟨h1,h2⟩:=h
  have h3 : n.length = 1:=by simp [localB] at h2; exact h2.1
  rcases h1 with h1 | h1
  · exact ⟨h3,by simp [h1]⟩
  · simp [moduleB] at h1; exact ⟨h3,by omega⟩
def OwnXL (A : List Box) (ns : List XNm) (r : AV) : Prop :=
  (r = .nils ∧ ns = []) ∨ ∃ j,r = .own j ∧ j < A.length ∧ A.getD j .dead = .row 9 (xrowsN ns) 0
theorem OwnXL.app {A : List Box} {ns : List XNm} {r : AV} (h : OwnXL A ns r) (B : List Box) : OwnXL (A ++ B) ns r:=by
  rcases h with h | ⟨j,h1,h2,h3⟩
  · exact .inl h
  · exact .inr ⟨j,h1,by simp; omega,by rw [Abs.getD_append_left h2]; exact h3⟩
structure VisX {σ : Type} (sz : σ → Nat) (I : σ → List Box → Prop) (F : List Box → List Box → Prop) (f : XNm → σ → σ) (g : FuncId) (cap : List AV) : Prop where
  call : callable Tryz.prog g = true
  vis : ∀ (p : XNm) (s : σ) (A : List Box),nmB p.1 p.2 = true → sz s ≤ 100000 → I s A → ACalls Tryz.prog g (.agg [.str p.1,.str p.2] :: cap) A (fun _ A'=>I (f p s) A' ∧ F A A')
  app : ∀ (s : σ) (A B : List Box),I s A → I s (A ++ B) ∧ F A (A ++ B)
  grow : ∀ p s,sz (f p s) ≤ sz s + 1
  trans : ∀ A B C : List Box,F A B → F B C → F A C
  box : ∀ (s : σ) (A A' : List Box) (c : Box),I s A → F (A ++ [c]) A' → A'.getD A.length .dead = c
def xmE (p : XNm) : List AV:=[.str p.1,.str p.2]
def xsN (ns : List XNm) : List (AV × AV):=ns.map fun p=>(.agg (xmE p),.bool true)
abbrev XKN : List (Nat × TK):=[(0,.str),(1,.str)]
theorem xmE_eq (x y : XNm) : eqK XKN (xmE x) (xmE y) = some (decide (x = y)):=by
  have : decide (x = y) = (decide (x.1 = y.1) && (decide (x.2 = y.2) && true)):=by
    rw [Bool.eq_iff_iff]
    simp [Prod.ext_iff]
  rw [this]
  simp [XKN,eqK,xmE,c1A]
  try congr 1
theorem find_xn (q : XNm) : ∀ (ks : List XNm) (n : Nat),∃ r,findA XKN (xmE q) (xsN ks) n = some r ∧ lkV r (.bool false) = .bool (decide (q ∈ ks)) ∧ (r = none ↔ q ∉ ks)
  | [],n=>⟨none,rfl,by simp [lkV],by simp⟩
  | p :: ks,n=>by
    obtain ⟨r,h1,h2,h3⟩:=find_xn q ks (n + 1)
    simp only [xsN,List.map_cons,findA]
    rw [if_pos (show (xmE p).length = (xmE q).length from rfl),xmE_eq]
    by_cases h : q = p
    · subst h
      simp only [decide_true]
      exact ⟨_,rfl,by simp [lkV],by simp⟩
    · simp only [decide_eq_false h]
      refine ⟨r,h1,?_,?_⟩
      · rw [h2]; simp [h]
      · rw [h3]; simp [h]
def rowX (A : List Box) (i : Nat) : Nat :=
  match A.getD i .dead with
  | .cells [.own k]=>k
  | _=>i
def FrX (i im : Nat) (A A' : List Box) : Prop:=A.length ≤ A'.length ∧ (rowX A' i = rowX A i ∨ A.length ≤ rowX A' i) ∧ ∀ k,k < A.length → k ≠ i → k ≠ im → k ≠ rowX A i → A'.getD k .dead = A.getD k .dead
theorem FrX.refl (i im : Nat) (A : List Box) : FrX i im A A:=⟨Nat.le_refl _,.inl rfl,fun _ _ _ _ _=>rfl⟩
theorem FrX.trans {i im : Nat} {A B C : List Box} (h : FrX i im A B) (k : FrX i im B C) : FrX i im A C:=by
  obtain ⟨a1,a2,a3⟩:=h
  obtain ⟨b1,b2,b3⟩:=k
  refine ⟨by omega,by omega,fun x hx hi hm hr=>?_⟩
  rw [b3 x (by omega) hi hm (by omega),a3 x hx hi hm hr]
theorem FrX.app {i im : Nat} {A : List Box} (hi : i < A.length) (B : List Box) : FrX i im A (A ++ B):=by
  have e : (A ++ B).getD i .dead = A.getD i .dead:=Abs.getD_append_left hi
  refine ⟨by simp,.inl (by unfold rowX; rw [e]),fun k hk _ _ _=>Abs.getD_append_left hk⟩
structure LstX (n i im : Nat) (ns : List XNm) (A : List Box) : Prop where
  lo : n ≤ i ∧ i < A.length
  ok : nOkX ns
  lst : ∃ r,A.getD i .dead = .cells [r] ∧ OwnXL A ns r ∧ n ≤ rowX A i ∧ (∀ j,r = .own j → j ≠ i ∧ j ≠ im)
theorem LstX.app {n i im : Nat} {ns : List XNm} {A : List Box} (h : LstX n i im ns A) (B : List Box) : LstX n i im ns (A ++ B):=by
  obtain ⟨⟨l1,l2⟩,ho,r,h1,h2,h3,h4⟩:=h
  refine ⟨⟨l1,by simp; omega⟩,ho,r,by rw [Abs.getD_append_left l2]; exact h1,h2.app B,?_,h4⟩
  unfold rowX at h3 ⊢
  rw [Abs.getD_append_left l2]; exact h3
theorem LstX.row_lt {n i im : Nat} {ns : List XNm} {A : List Box} (h : LstX n i im ns A) : rowX A i < A.length:=by
  obtain ⟨⟨l1,l2⟩,ho,r,h1,h2,h3,h4⟩:=h
  unfold rowX
  rw [h1]
  rcases h2 with ⟨rfl,_⟩ | ⟨j,rfl,hj,_⟩
  · exact l2
  · exact hj
abbrev zrowX : List AV:=[.int .i64 0,.int .i64 0,.str [],.str [],.int .i64 0,.str [],.str [],.slice [],.slice []]
set_option maxRecDepth 100000 in
theorem nmx_plain (m k : List UInt8) (A : List Box) : ACalls Tryz.prog 146 [.agg [.str m,.str k]] A (fun r A'=>r = .agg [.int .i64 3,.int .i64 0,.str m,.str k,.int .i64 0,.str [],.str [],.slice [],.slice []] ∧ A' = A):=by
  refine acalls_enter (cf:=cf 8 [0,1,2]) foll Tryz.func146 Tryz.ntmps146 (by simp [cf]) ?_
  simp only [Tryz.f146,EnterK_some,zW,zX,zD,builtinA,isLeaf,const1,ustrA,simprocAttr,ti9,ti39,ti222,cf,Tryz.results146]
  try simp
theorem zrowX_one : (#[Value.int IntKind.i64 0,Value.int IntKind.i64 0,Value.string { data:=#[] },Value.string { data:=#[] },Value.int IntKind.i64 0,Value.string { data:=#[] },Value.string { data:=#[] },Value.slice none 0 0,Value.slice none 0 0].all fun x=>x.oneCell') = true:=by kernel_rfl
theorem xrowsN_app (ns : List XNm) (p : XNm) : xrowsN (ns ++ [p]) = xrowsN ns ++ [nx_row p]:=by
  simp [xrowsN]
theorem leaf_zrowX : ∀ v ∈ zrowX,isLeaf v = true:=by simp [isLeaf]
theorem leaf_nxrow (p : XNm) : ∀ v ∈ nx_row p,isLeaf v = true:=by simp [isLeaf]
theorem addX_fin {n i im : Nat} {ns : List XNm} {A : List Box} {p : XNm} (hok : nOkX (ns ++ [p])) (h : LstX n i im ns A) (him : im < A.length) (B : List Box) (hB : B.length = A.length + 2) (hk : ∀ k,k < A.length → k ≠ i → k ≠ rowX A i → B.getD k .dead = A.getD k .dead) :
    LstX n i im (ns ++ [p]) ((B ++ [Box.row 9 (xrowsN ns ++ [nx_row p]) 0]).set i (.cells [.own (A.length + 2)])) ∧ FrX i im A ((B ++ [Box.row 9 (xrowsN ns ++ [nx_row p]) 0]).set i (.cells [.own (A.length + 2)])) ∧
      ∀ k,k < A.length → k ≠ i → k ≠ rowX A i → ((B ++ [Box.row 9 (xrowsN ns ++ [nx_row p]) 0]).set i (.cells [.own (A.length + 2)])).getD k .dead = A.getD k .dead:=by
  obtain ⟨⟨l1,l2⟩,_⟩:=h
  have hil : i < (B ++ [Box.row 9 (xrowsN ns ++ [nx_row p]) 0]).length:=by simp; omega
  have hgi : ((B ++ [Box.row 9 (xrowsN ns ++ [nx_row p]) 0]).set i (.cells [.own (A.length + 2)])).getD i .dead = .cells [.own (A.length + 2)]:=getD_set_self hil
  have hrow : rowX ((B ++ [Box.row 9 (xrowsN ns ++ [nx_row p]) 0]).set i (.cells [.own (A.length + 2)])) i = A.length + 2:=by unfold rowX; rw [hgi]
  have hfr : ∀ k,k < A.length → k ≠ i → k ≠ rowX A i → ((B ++ [Box.row 9 (xrowsN ns ++ [nx_row p]) 0]).set i (.cells [.own (A.length + 2)])).getD k .dead = A.getD k .dead:=fun k hk1 hk2 hk3=>by
    rw [getD_set_ne' (Ne.symm hk2),Abs.getD_append_left (by omega)]
    exact hk k hk1 hk2 hk3
  refine ⟨⟨⟨l1,by simpa using hil⟩,hok,.own (A.length + 2),hgi,.inr ⟨A.length + 2,rfl,by simp; omega,?_⟩,by rw [hrow]; omega,?_⟩,⟨by simp; omega,by omega,fun k hk1 hk2 _ hk3=>hfr k hk1 hk2 hk3⟩,hfr⟩
  · rw [getD_set_ne' (by omega),Abs.getD_append_right (by omega),xrowsN_app]
    simp [hB]
  · intro j hj
    injection hj with hj
    omega
set_option maxRecDepth 100000 in
theorem namesX_add (n i im : Nat) (ns : List XNm) (A : List Box) (p : XNm) (hp : p.1.length ≤ 1 ∧ p.2.length ≤ 1) (hl : ns.length ≤ 100000) (h : LstX n i im ns A) (him : im < A.length) :
    ACalls Tryz.prog 145 [.agg [.str p.1,.str p.2],.ptr i 0] A (fun _ A'=>LstX n i im (ns ++ [p]) A' ∧ FrX i im A A' ∧ ∀ k,k < A.length → k ≠ i → k ≠ rowX A i → A'.getD k .dead = A.getD k .dead):=by
  have hrl:=h.row_lt
  have h0:=h
  obtain ⟨⟨l1,l2⟩,ho,r,h1,h2,h3,h4⟩:=h
  have hok : nOkX (ns ++ [p]):=fun q hq=>by
    rcases List.mem_append.1 hq with hq | hq
    · exact ho q hq
    · rw [List.mem_singleton.1 hq]; exact hp
  have hz:=leaf_zrowX
  have hn:=leaf_nxrow p
  rcases h2 with ⟨rfl,rfl⟩ | ⟨j,rfl,hj,hA⟩
  · have g1 : ∀ B : List Box,(A ++ B).getD i .dead = .cells [.nils]:=fun B=>by rw [Abs.getD_append_left l2]; exact h1
    have fin:=addX_fin hok h0 him (A ++ [Box.cells [.str p.1,.str p.2],.row 9 [zrowX] 0]) (by simp) (fun k hk _ _=>Abs.getD_append_left hk)
    have e1 : xrowsN [] ++ [nx_row p] = [nx_row p]:=rfl
    rw [e1,List.append_assoc] at fin
    simp only [List.cons_append,List.nil_append] at fin
    have hs1 : ∀ X : Box,((A ++ [Box.cells [.str p.1,.str p.2],.row 9 [zrowX] 0,.row 9 [zrowX] 0]).set i X).getD (A.length + 2) .dead = .row 9 [zrowX] 0:=fun X=>by
      rw [getD_set_ne' (by omega),Abs.getD_append_right (by omega)]; simp
    have hs2 : ∀ X Y : Box,((A ++ [Box.cells [.str p.1,.str p.2],.row 9 [zrowX] 0,.row 9 [zrowX] 0]).set i X).set (A.length + 2) Y = (A ++ [Box.cells [.str p.1,.str p.2],.row 9 [zrowX] 0,Y]).set i X:=fun X Y=>by
      rw [List.set_comm _ _ (by omega),List.set_append_right _ _ (by omega)]; simp
    refine acalls_enterK (cf:=cf 10 [0,1,2]) foll Tryz.func145 Tryz.ntmps145 (by simp [cf]) ?_
    simp only [Tryz.f145,EnterK_some,zW,zX,zD,builtinA,isLeaf,const1,ustrA,simprocAttr,ti37,ti39,ti222,ca146,cf,Tryz.results145]
    refine .inr (drawM_intro [] (.or (.one 6 (.or (.one 7 (.one 8 .done)) (.one 8 (.one 7 .done)))) (.one 8 (.one 6 (.one 7 .done)))) [(false,0,1),(false,0,1),(false,0,1),(false,0,1),(true,0,0),(true,1,1),(false,2,2),(false,2,2),(false,2,2)] [A ++ [Box.cells [.str p.1,.str p.2]],A ++ [Box.cells [.str p.1,.str p.2],.row 9 [zrowX] 0],A ++ [Box.cells [.str p.1,.str p.2],.row 9 [zrowX] 0,.row 9 [zrowX] 0]] 2 6 rfl (by kernel_rfl) (by kernel_rfl) ?_)
    simp only [zW,zX,zD,builtinA,isLeaf,const1,ustrA,simprocAttr,ti37,ti39,ti222,ca146,cf,Tryz.results145,g1,wpMG_nil,List.take_succ_cons,List.take_zero]
    refine callEN_intro (fun A=>by simp only [zW,zX,zD,builtinA,isLeaf,const1,ustrA,simprocAttr,Option.map_some] <;> rfl) (fun A=>nmx_plain p.1 p.2 A) ?_ rfl rfl
    simp only [zW,zX,zD,builtinA,isLeaf,const1,ustrA,simprocAttr,ti37,ti39,ti222,ca146,cf,Tryz.results145,g1,hs1,hs2,zrowX_one,if_true,wpY_or_eq,wpY_one_eq,wpY_done_eq,List.take_succ_cons,List.take_zero,List.drop_succ_cons,List.drop_zero]
    exact ⟨fun v hv=>hz v hv,by simp,fun v hv=>hn v hv,fin⟩
  · have hij:=(h4 j rfl).1
    have hrj : rowX A i = j:=by unfold rowX; rw [h1]
    have g1 : ∀ B : List Box,(A ++ B).getD i .dead = .cells [.own j]:=fun B=>by rw [Abs.getD_append_left l2]; exact h1
    have gj : ∀ B : List Box,(A ++ B).getD j .dead = .row 9 (xrowsN ns) 0:=fun B=>by rw [Abs.getD_append_left hj]; exact hA
    have hnl:=xrowsN_length ns
    have hBl : ((A ++ [Box.cells [.str p.1,.str p.2],.row 9 [zrowX] 0]).set j .dead).length = A.length + 2:=by simp
    have fin:=addX_fin hok h0 him ((A ++ [Box.cells [.str p.1,.str p.2],.row 9 [zrowX] 0]).set j .dead) hBl (fun k hk _ hkj=>by rw [getD_set_ne' (by omega),Abs.getD_append_left hk])
    have hs1 : ∀ X : Box,(((A ++ [Box.cells [.str p.1,.str p.2],.row 9 [zrowX] 0]).set j .dead ++ [Box.row 9 (xrowsN ns ++ [zrowX]) 0]).set i X).getD (A.length + 2) .dead = .row 9 (xrowsN ns ++ [zrowX]) 0:=fun X=>by
      rw [getD_set_ne' (by omega),Abs.getD_append_right (by omega)]; simp
    have hs2 : ∀ X Y : Box,(((A ++ [Box.cells [.str p.1,.str p.2],.row 9 [zrowX] 0]).set j .dead ++ [Box.row 9 (xrowsN ns ++ [zrowX]) 0]).set i X).set (A.length + 2) Y = ((A ++ [Box.cells [.str p.1,.str p.2],.row 9 [zrowX] 0]).set j .dead ++ [Y]).set i X:=fun X Y=>by
      rw [List.set_comm _ _ (by omega),List.set_append_right _ _ (by omega)]; simp
    have hs3 : ((A ++ [Box.cells [.str p.1,.str p.2],.row 9 [zrowX] 0]).set j .dead ++ [Box.row 9 (xrowsN ns ++ [zrowX]) 0]).getD (A.length + 2) .dead = .row 9 (xrowsN ns ++ [zrowX]) 0:=by
      rw [Abs.getD_append_right (by omega)]; simp
    have hs4 : ∀ Y : Box,((A ++ [Box.cells [.str p.1,.str p.2],.row 9 [zrowX] 0]).set j .dead ++ [Box.row 9 (xrowsN ns ++ [zrowX]) 0]).set (A.length + 2) Y = (A ++ [Box.cells [.str p.1,.str p.2],.row 9 [zrowX] 0]).set j .dead ++ [Y]:=fun Y=>by
      rw [List.set_append_right _ _ (by omega)]; simp
    have hs5 : ∀ Y : Box,((A ++ [Box.cells [.str p.1,.str p.2],.row 9 [zrowX] 0]).set j .dead ++ [Y]).getD i .dead = .cells [.own j]:=fun Y=>by
      rw [Abs.getD_append_left (by omega),getD_set_ne' hij,Abs.getD_append_left l2]; exact h1
    have hst : ∀ x,(xrowsN ns ++ [zrowX]).set ns.length x = xrowsN ns ++ [x]:=fun x=>by rw [List.set_append_right _ _ (by omega)]; simp [hnl]
    have hgt : (xrowsN ns ++ [zrowX]).getD ns.length [] = zrowX:=by rw [Abs.getD_append_right (by omega)]; simp [hnl]
    have hrl4 : ∀ r ∈ xrowsN ns,r.length = 9:=fun r hr=>by
      obtain ⟨t,_,rfl⟩:=List.mem_map.1 hr
      rfl
    refine acalls_enterK (cf:=cf 10 [0,1,2]) foll Tryz.func145 Tryz.ntmps145 (by simp [cf]) ?_
    simp only [Tryz.f145,EnterK_some,zW,zX,zD,builtinA,isLeaf,const1,ustrA,simprocAttr,ti37,ti39,ti222,ca146,cf,Tryz.results145]
    refine .inr (drawM_intro [] (.or (.one 6 (.or (.one 7 (.one 8 .done)) (.one 8 (.one 7 .done)))) (.one 8 (.one 6 (.one 7 .done)))) [(false,0,1),(false,0,1),(false,0,1),(false,0,1),(true,0,0),(true,1,1),(false,2,2),(false,2,2),(false,2,2)] [A ++ [Box.cells [.str p.1,.str p.2]],A ++ [Box.cells [.str p.1,.str p.2],.row 9 [zrowX] 0],(A ++ [Box.cells [.str p.1,.str p.2],.row 9 [zrowX] 0]).set j .dead ++ [.row 9 (xrowsN ns ++ [zrowX]) 0]] 2 6 rfl (by kernel_rfl) (by kernel_rfl) ?_)
    simp only [zW,zX,zD,builtinA,isLeaf,const1,ustrA,simprocAttr,ti37,ti39,ti222,ca146,cf,Tryz.results145,g1,gj,wpMG_nil,List.take_succ_cons,List.take_zero]
    refine callEN_intro (fun A=>by simp only [zW,zX,zD,builtinA,isLeaf,const1,ustrA,simprocAttr,Option.map_some] <;> rfl) (fun A=>nmx_plain p.1 p.2 A) ?_ rfl rfl
    simp only [zW,zX,zD,builtinA,isLeaf,const1,ustrA,simprocAttr,ti37,ti39,ti222,ca146,cf,Tryz.results145,g1,gj,hs1,hs2,hs3,hs4,hs5,hst,hgt,hnl,zrowX_one,if_true,wpY_or_eq,wpY_one_eq,wpY_done_eq,List.take_succ_cons,List.take_zero,List.drop_succ_cons,List.drop_zero]
    have h1' : (0 : Int) ≤ (ns.length : Nat) ∧ ((ns.length : Nat) : Int) < ((ns.length + 1 : Nat) : Int):=⟨by omega,by omega⟩
    exact ⟨fun v hv=>hz v hv,⟨by simp,by omega⟩,h1',⟨by omega,by omega,fun v hv=>hn v hv⟩,fin⟩
structure NamX (n i im is iv : Nat) (ns : List XNm) (A : List Box) : Prop where
  lst : LstX n i im ns A
  map : im < A.length ∧ A.getD im .dead = .mapb (xsN ns)
  seen : is < A.length ∧ A.getD is .dead = .cells [.map im]
  vis : iv < A.length ∧ A.getD iv .dead = .cells [.func (.func 145) [] [.ptr i 0]]
  ne : i ≠ im ∧ is ≠ i ∧ is ≠ im ∧ iv ≠ i ∧ iv ≠ im ∧ n ≤ im
theorem NamX.app {n i im is iv : Nat} {ns : List XNm} {A : List Box} (h : NamX n i im is iv ns A) (B : List Box) : NamX n i im is iv ns (A ++ B) :=
  ⟨h.lst.app B,⟨by have:=h.map.1; simp; omega,by rw [Abs.getD_append_left h.map.1]; exact h.map.2⟩,⟨by have:=h.seen.1; simp; omega,by rw [Abs.getD_append_left h.seen.1]; exact h.seen.2⟩,
   ⟨by have:=h.vis.1; simp; omega,by rw [Abs.getD_append_left h.vis.1]; exact h.vis.2⟩,h.ne⟩
theorem NamX.row {n i im is iv : Nat} {ns : List XNm} {A : List Box} (h : NamX n i im is iv ns A) : rowX A i ≠ im ∧ rowX A i ≠ is ∧ rowX A i ≠ iv:=by
  obtain ⟨⟨_,_,r,h1,h2,_,_⟩,⟨_,m2⟩,⟨_,s2⟩,⟨_,v2⟩,e1,e2,e3,e4,e5,_⟩:=h
  unfold rowX
  rw [h1]
  rcases h2 with ⟨rfl,_⟩ | ⟨j,rfl,_,hj⟩
  · exact ⟨e1,Ne.symm e2,Ne.symm e4⟩
  · refine ⟨fun e=>?_,fun e=>?_,fun e=>?_⟩
    · have e' : j = im:=e
      rw [e',m2] at hj; cases hj
    · have e' : j = is:=e
      rw [e',s2] at hj; cases hj
    · have e' : j = iv:=e
      rw [e',v2] at hj; cases hj
theorem rowX_set {A : List Box} {i im : Nat} (X : Box) (h : i ≠ im) : rowX (A.set im X) i = rowX A i:=by unfold rowX; rw [getD_set_ne' (Ne.symm h)]
theorem LstX.setm {n i im : Nat} {ns : List XNm} {A : List Box} (h : LstX n i im ns A) (hi : i ≠ im) (hr : rowX A i ≠ im) (X : Box) : LstX n i im ns (A.set im X):=by
  obtain ⟨⟨l1,l2⟩,ho,r,h1,h2,h3,h4⟩:=h
  refine ⟨⟨l1,by simpa using l2⟩,ho,r,by rw [getD_set_ne' (Ne.symm hi)]; exact h1,?_,by rw [rowX_set X hi]; exact h3,h4⟩
  rcases h2 with h2 | ⟨j,rfl,hj,hA⟩
  · exact .inl h2
  · have : j ≠ im:=by unfold rowX at hr; rw [h1] at hr; exact hr
    exact .inr ⟨j,rfl,by simpa using hj,by rw [getD_set_ne' (Ne.symm this)]; exact hA⟩
theorem FrX.setm {i im : Nat} {A : List Box} (hi : i ≠ im) (X : Box) : FrX i im A (A.set im X) :=
  ⟨by simp,.inl (rowX_set X hi),fun k _ _ hm _=>getD_set_ne' (Ne.symm hm)⟩
theorem xsN_app (ns : List XNm) (p : XNm) : xsN ns ++ [(.agg [.str p.1,.str p.2],.bool true)] = xsN (ns ++ [p]):=by simp [xsN,xmE]
set_option maxRecDepth 100000 in
theorem onceX_vis (n i im is iv : Nat) : VisX List.length (NamX n i im is iv) (FrX i im) (fun p ns=>addX ns p) 228 [.ptr is 0,.ptr iv 0] where
  call:=by kernel_rfl
  app:=fun s A B h=>⟨h.app B,FrX.app h.lst.lo.2 B⟩
  grow:=fun p s=>addX_len s p
  trans:=fun A B C h k=>h.trans k
  box:=fun s A A' c h hf=>by
    have h1:=h.lst.lo.2
    have h2:=h.map.1
    have h3:=h.lst.row_lt
    have e : rowX (A ++ [c]) i = rowX A i:=by unfold rowX; rw [Abs.getD_append_left h1]
    rw [hf.2.2 A.length (by simp) (by omega) (by omega) (by rw [e]; omega),Abs.getD_append_right (Nat.le_refl _)]
    simp
  vis:=fun p ns A hp hz h=>by
    have hs:=nm_shortX hp
    have h1:=h.app [.cells [.str p.1,.str p.2]]
    have f1 : FrX i im A (A ++ [.cells [.str p.1,.str p.2]]):=FrX.app h.lst.lo.2 _
    obtain ⟨r,q1,q2,q3⟩:=find_xn p ns 0
    simp only [xmE] at q1
    obtain ⟨s1,s2⟩:=h1.seen
    obtain ⟨m1,m2⟩:=h1.map
    obtain ⟨v1,v2⟩:=h1.vis
    rcases r with _ | ⟨q,w⟩
    · have hnot : p ∉ ns:=q3.mp rfl
      have e : addX ns p = ns ++ [p]:=by unfold addX; rw [if_neg hnot]
      obtain ⟨n1,n2,n3,n4,n5,n6⟩:=h1.ne
      obtain ⟨r1,r2,r3⟩:=h1.row
      have hl2:=h1.lst.setm n1 r1 (.mapb (xsN (ns ++ [p])))
      have him2 : im < ((A ++ [Box.cells [.str p.1,.str p.2]]).set im (.mapb (xsN (ns ++ [p])))).length:=by simpa using m1
      have hadd:=namesX_add n i im ns _ p ⟨hs.2,Nat.le_of_eq hs.1⟩ hz hl2 him2
      have b3 : A.length ≠ im:=by have:=h.map.1; omega
      have hgv : ((A ++ [Box.cells [.str p.1,.str p.2]]).set im (.mapb (xsN (ns ++ [p])))).getD iv .dead = .cells [.func (.func 145) [] [.ptr i 0]]:=by rw [getD_set_ne' (Ne.symm n5)]; exact v2
      have hgk : ∀ X : Box,((A ++ [Box.cells [.str p.1,.str p.2]]).set im X).getD A.length .dead = .cells [.str p.1,.str p.2]:=fun X=>by rw [getD_set_ne' (Ne.symm b3),Abs.getD_append_right (Nat.le_refl _)]; simp
      have hmu:=xsN_app ns p
      rw [e]
      refine acalls_enterK (cf:=cf 13 [0,1,2,3,7]) foll Tryz.func228 Tryz.ntmps228 (by simp [cf]) ?_
      simp only [Tryz.f228,EnterK_some,zW,zX,zD,builtinA,isLeaf,const1,ustrA,simprocAttr,ti220,ti222,ti331,mi331,cf,Tryz.results228]
      simp only [zW,zX,zD,builtinA,isLeaf,const1,ustrA,simprocAttr,ti220,ti222,ti331,mi331,cf,Tryz.results228,s2,m2,q1,hmu,hgv,hgk]
      refine wpO_callv _ _ _ _ _ _ _ _ _ _ _ _ _ _ _ ?_
      simp only [zW,zX,zD,builtinA,isLeaf,const1,ustrA,simprocAttr,ti220,ti222,ti331,mi331,cf,Tryz.results228]
      refine ⟨by kernel_rfl,callO_intro (by simpa only [List.nil_append,List.cons_append] using hadd) ?_⟩
      rintro r A3 ⟨h3,f3,g3⟩
      have hrs : rowX ((A ++ [Box.cells [.str p.1,.str p.2]]).set im (.mapb (xsN (ns ++ [p])))) i = rowX (A ++ [Box.cells [.str p.1,.str p.2]]) i:=rowX_set _ n1
      have hlen : ((A ++ [Box.cells [.str p.1,.str p.2]]).set im (.mapb (xsN (ns ++ [p])))).length = (A ++ [Box.cells [.str p.1,.str p.2]]).length:=by simp
      have hle:=f3.1
      rw [hlen] at hle g3
      simp only [zW,zX,zD,builtinA,isLeaf,const1,ustrA,simprocAttr,ti220,ti222,ti331,mi331,cf,Tryz.results228]
      refine ⟨⟨h3,⟨by omega,?_⟩,⟨by omega,?_⟩,⟨by omega,?_⟩,h1.ne⟩,f1.trans ((FrX.setm n1 _).trans f3)⟩
      · rw [g3 im m1 (Ne.symm n1) (by rw [hrs]; exact Ne.symm r1),getD_set_self m1]
      · rw [g3 is s1 n2 (by rw [hrs]; exact Ne.symm r2),getD_set_ne' (Ne.symm n3)]; exact s2
      · rw [g3 iv v1 n4 (by rw [hrs]; exact Ne.symm r3),hgv]
    · have hin : decide (p ∈ ns) = true:=by
        rcases hd : decide (p ∈ ns) with _ | _
        · have:=q3.mpr (by simpa using hd); cases this
        · rfl
      have e : addX ns p = ns:=by unfold addX; rw [if_pos (by simpa using hin)]
      have q4 : w = .bool true:=by rw [← hin]; exact q2
      subst q4
      rw [e]
      refine acalls_enterK (cf:=cf 13 [0,1,2,3,7]) foll Tryz.func228 Tryz.ntmps228 (by simp [cf]) ?_
      simp only [Tryz.f228,EnterK_some,zW,zX,zD,builtinA,isLeaf,const1,ustrA,simprocAttr,ti220,ti222,ti331,mi331,cf,Tryz.results228]
      simp only [zW,zX,zD,builtinA,isLeaf,const1,ustrA,simprocAttr,ti220,ti222,ti331,mi331,cf,Tryz.results228,s2,m2,q1]
      exact ⟨h1,f1⟩
set_option maxRecDepth 100000 in
theorem impl_onceX (A : List Box) (f : FuncId) (i : Nat) : ACalls Tryz.prog 144 [.func (.func f) [] [.ptr i 0]] A (fun r A'=>r = .func (.func 228) [] [.ptr (A.length + 2) 0,.ptr A.length 0] ∧ A' = A ++ [.cells [.func (.func f) [] [.ptr i 0]],.mapb [],.cells [.map (A.length + 1)]]):=by
  refine acalls_enterK (cf:=cf 6 [0,1,2,3]) foll Tryz.func144 Tryz.ntmps144 (by simp [cf]) ?_
  simp only [Tryz.f144,EnterK_some,zW,zX,zD,builtinA,isLeaf,const1,ustrA,simprocAttr,ti220,ti331,cf,Tryz.results144]
  rfl
def NxNew (A : List Box) (ns : List XNm) (r : AV) (A' : List Box) : Prop :=
  ∃ B,A' = A ++ B ∧ ((r = .nils ∧ ns = []) ∨ ∃ j,r = .own j ∧ A.length ≤ j ∧ A'.getD j .dead = .gr none 9 (xrowsN ns)) ∧ ∀ b ∈ B,ifreeB b = true
theorem xrowsN_free (ns : List XNm) : (xrowsN ns).all ifrees = true:=by
  rw [List.all_eq_true]
  intro r hr
  obtain ⟨p,_,rfl⟩:=List.mem_map.1 hr
  simp [ifrees,ifree]
theorem nxNew_of {A A' : List Box} {ns : List XNm} {r : AV} (hl : A.length ≤ A'.length) (hf : ∀ k,k < A.length → A'.getD k .dead = A.getD k .dead)
    (h : (r = .nils ∧ ns = []) ∨ ∃ j,r = .own j ∧ A.length ≤ j ∧ A'.getD j .dead = .gr none 9 (xrowsN ns)) : ∃ keep,NxNew A ns r (only keep A'):=by
  have go : ∀ (keep : Nat → Bool),(∀ k,k < A.length → keep k = true) → (∀ k,A.length ≤ k → keep k = true → ifreeB (A'.getD k .dead) = true) →
      ((r = .nils ∧ ns = []) ∨ ∃ j,r = .own j ∧ A.length ≤ j ∧ (only keep A').getD j .dead = .gr none 9 (xrowsN ns)) → NxNew A ns r (only keep A'):=fun keep h1 h2 h3=>by
    have e:=split_front (A:=A) (A':=only keep A') (by rw [only_length]; exact hl) (fun k hk=>by rw [only_getD,if_pos (h1 k hk)]; exact hf k hk)
    refine ⟨_,e,h3,fun b hb=>?_⟩
    obtain ⟨i,hi,rfl⟩:=List.mem_iff_getElem.1 hb
    rw [List.getElem_drop]
    have hi2 : A.length + i < (only keep A').length:=by simp at hi; omega
    have e2 : (only keep A')[A.length + i] = (only keep A').getD (A.length + i) .dead:=by simp [List.getD,hi2]
    rw [e2,only_getD]
    split
    · rename_i hk; exact h2 _ (by omega) hk
    · rfl
  rcases h with h | ⟨j,rfl,hj,hb⟩
  · refine ⟨fun k=>decide (k < A.length),go _ (fun k hk=>by simpa using hk) (fun k h1 h2=>by simp at h2; omega) (.inl h)⟩
  · refine ⟨fun k=>decide (k < A.length) || decide (k = j),go _ (fun k hk=>by simp [hk]) (fun k h1 h2=>?_) (.inr ⟨j,rfl,hj,by rw [only_getD,if_pos (by simp)]; exact hb⟩)⟩
    simp at h2
    rcases h2 with h2 | rfl
    · omega
    · rw [hb]; exact xrowsN_free ns
end Go.Proofs.YtnjdbgiincliaaaGreat
/- The names of values in an expression: what the program's ExprNames collects. -/
set_option linter.unusedVariables false
set_option linter.unusedSimpArgs false
namespace Go.Proofs.YtnjdbgiincliaaaGreat
open Go.Abs
theorem pigX : ∀ (N : Nat) (l : List Nat),l.Nodup → (∀ x ∈ l,x < N) → l.length ≤ N
  | 0,l,_,h=>by
    cases l with
    | nil=>simp
    | cons a l=>exact absurd (h a (by simp)) (by omega)
  | N + 1,l,hn,h=>by
    by_cases hm : N ∈ l
    · have h1:=pigX N (l.erase N) (hn.erase N) (fun x hx=>by
        have h2:=(hn.mem_erase_iff).1 hx
        have h3:=h x h2.2
        have h4 : x ≠ N:=h2.1
        omega)
      rw [List.length_erase_of_mem hm] at h1
      omega
    · have h1:=pigX N l hn (fun x hx=>by
        have h3:=h x hx
        have h4 : x ≠ N:=fun e=>hm (e ▸ hx)
        omega)
      omega
def codeS : List UInt8 → Nat
  | []=>0
  | b :: _=>b.toNat + 1
theorem codeS_lt (s : List UInt8) : codeS s < 257:=by
  cases s with
  | nil=>simp [codeS]
  | cons b l=>have:=b.toNat_lt; simp only [codeS]; omega
theorem codeS_inj {s t : List UInt8} (hs : s.length ≤ 1) (ht : t.length ≤ 1) (h : codeS s = codeS t) : s = t:=by
  match s,t,hs,ht with
  | [],[],_,_=>rfl
  | [],[b],_,_=>simp [codeS] at h
  | [a],[],_,_=>simp [codeS] at h
  | [a],[b],_,_ =>
    simp only [codeS] at h
    have : a = b:=UInt8.toNat_inj.1 (by omega)
    rw [this]
def codeX (p : XNm) : Nat:=codeS p.1 * 257 + codeS p.2
theorem few_names {ns : List XNm} (hn : ns.Nodup) (hk : nOkX ns) : ns.length ≤ 66049:=by
  have h : (ns.map codeX).Nodup:=by
    rw [List.Nodup,List.pairwise_map]
    refine List.Pairwise.imp_of_mem (fun {a b} ha hb hab e=>hab ?_) hn
    have h1:=codeS_lt a.2
    have h2:=codeS_lt b.2
    simp only [codeX] at e
    have e1 : codeS a.1 = codeS b.1:=by omega
    have e2 : codeS a.2 = codeS b.2:=by omega
    exact Prod.ext (codeS_inj (hk a ha).1 (hk b hb).1 e1) (codeS_inj (hk a ha).2 (hk b hb).2 e2)
  have:=pigX 66049 _ h fun x hx=>by
    obtain ⟨p,_,rfl⟩:=List.mem_map.1 hx
    have h1:=codeS_lt p.1
    have h2:=codeS_lt p.2
    simp only [codeX]
    omega
  simpa using this
theorem addX_nodup {ns : List XNm} (h : ns.Nodup) (p : XNm) : (addX ns p).Nodup:=by
  unfold addX
  split
  · exact h
  · rename_i hp
    rw [List.nodup_append]
    exact ⟨h,by simp,fun a ha b hb e=>hp (by rw [List.mem_singleton.1 hb] at e; exact e ▸ ha)⟩
noncomputable def namF (v : VE) (_ : Int) (ns : List XNm) : List XNm :=
  match v with
  | .nm m k=>addX ns (m,k)
  | _=>ns
noncomputable def nmsE : List XNm → VE → List XNm
  | ns,.var _=>ns
  | ns,.num _=>ns
  | ns,.nm m k=>addX ns (m,k)
  | ns,.fn _ b=>nmsE ns b
  | ns,.app a b=>nmsE (nmsE ns a) b
  | ns,.add a b=>nmsE (nmsE ns a) b
  | ns,.ite c a b=>nmsE (nmsE (nmsE ns c) a) b
theorem walk_nms : ∀ (v : VE) (d : Int) (ns : List XNm),walkF namF v d ns = nmsE ns v
  | .var _,d,ns=>rfl
  | .num _,d,ns=>rfl
  | .nm m k,d,ns=>rfl
  | .fn t b,d,ns=>by rw [walkF,walk_nms b]; rfl
  | .app a b,d,ns=>by rw [walkF,walk_nms b,walk_nms a]; rfl
  | .add a b,d,ns=>by rw [walkF,walk_nms b,walk_nms a]; rfl
  | .ite c a b,d,ns=>by rw [walkF,walk_nms b,walk_nms a,walk_nms c]; rfl
theorem assert_nm (v : VE) (A : List Box) : ∃ a b,assertA 222 [.str [],.str []] (.iface (vtE v) (vxE v)) A = some (True,.tuple [.agg [.str a,.str b],.bool (decide (kindE v = 3))],A) ∧ ∀ m k,v = .nm m k → a = m ∧ b = k:=by
  cases v <;> exact ⟨_,_,rfl,fun m k h=>by cases h <;> exact ⟨rfl,rfl⟩⟩
structure AddI (n i im is iv ia : Nat) (A0 : List Box) (ns : List XNm) (A : List Box) : Prop where
  nam : NamX n i im is iv ns A
  add : ia < A.length ∧ A.getD ia .dead = .cells [.func (.func 228) [] [.ptr is 0,.ptr iv 0]]
  ne : ia ≠ i ∧ ia ≠ im
  nod : ns.Nodup
  low : A.take n = A0 ∧ n ≤ A.length
theorem AddI.app {n i im is iv ia : Nat} {A0 : List Box} {ns : List XNm} {A : List Box} (h : AddI n i im is iv ia A0 ns A) (B : List Box) : AddI n i im is iv ia A0 ns (A ++ B) :=
  ⟨h.nam.app B,⟨by have:=h.add.1; simp; omega,by rw [Abs.getD_append_left h.add.1]; exact h.add.2⟩,h.ne,h.nod,
   by rw [List.take_append_of_le_length h.low.2]; exact h.low.1,by have:=h.low.2; simp; omega⟩
theorem AddI.row {n i im is iv ia : Nat} {A0 : List Box} {ns : List XNm} {A : List Box} (h : AddI n i im is iv ia A0 ns A) : rowX A i ≠ ia ∧ n ≤ rowX A i:=by
  obtain ⟨⟨⟨_,_,r,h1,h2,h3,_⟩,_,_,_,_⟩,⟨_,a2⟩,⟨e1,e2⟩,_⟩:=h
  refine ⟨?_,h3⟩
  unfold rowX
  rw [h1]
  rcases h2 with ⟨rfl,_⟩ | ⟨j,rfl,_,hj⟩
  · exact fun e=>e1 e.symm
  · intro e
    have e' : j = ia:=e
    rw [e',a2] at hj; cases hj
theorem AddI.step {n i im is iv ia : Nat} {A0 : List Box} {ns ns' : List XNm} {A A' : List Box} (h : AddI n i im is iv ia A0 ns A) (hn : NamX n i im is iv ns' A') (hf : FrX i im A A') (hd : ns'.Nodup) : AddI n i im is iv ia A0 ns' A':=by
  obtain ⟨r1,r2⟩:=h.row
  obtain ⟨f1,_,f3⟩:=hf
  obtain ⟨a1,a2⟩:=h.add
  obtain ⟨e1,e2⟩:=h.ne
  have hi:=h.nam.lst.lo.1
  have him:=h.nam.ne.2.2.2.2.2
  have hl:=h.low.2
  refine ⟨hn,⟨by omega,by rw [f3 ia a1 e1 e2 (Ne.symm r1)]; exact a2⟩,h.ne,hd,?_,by omega⟩
  rw [← h.low.1]
  refine List.ext_getElem (by simp; omega) fun k hk1 hk2=>?_
  have hk : k < n:=by simp at hk1; omega
  have e:=f3 k (by omega) (by omega) (by omega) (by omega)
  simpa [List.getD,show k < A'.length by omega,show k < A.length by omega] using e
set_option maxRecDepth 100000 in
theorem nam_vis (n i im is iv ia : Nat) (A0 : List Box) : VisM (AddI n i im is iv ia A0) namF 148 [.ptr ia 0]:=by
  intro v d ns A ho h0 h1 hI
  obtain ⟨a,b,has,hab⟩:=assert_nm v A
  have hI2:=hI.app [.cells [.str a,.str b]]
  have hga:=hI2.add.2
  have hgk : (A ++ [Box.cells [.str a,.str b]]).getD A.length .dead = .cells [.str a,.str b]:=by rw [Abs.getD_append_right (Nat.le_refl _)]; simp
  rw [ifE]
  by_cases k3 : kindE v = 3
  · obtain ⟨m,k,rfl⟩ : ∃ m k,v = .nm m k:=by cases v <;> simp [kindE] at k3; exact ⟨_,_,rfl⟩
    obtain ⟨rfl,rfl⟩:=hab m k rfl
    have hv:=(onceX_vis n i im is iv).vis (a,b) ns _ ho (by have:=few_names hI.nod hI.nam.lst.ok; omega) hI2.nam
    have hnx:=addX_nodup hI.nod (a,b)
    refine acalls_enterK (cf:=cf 16 [0,2,5,6,12]) foll Tryz.func148 Tryz.ntmps148 (by simp [cf]) ?_
    simp only [Tryz.f148,EnterK_some,zW,zX,zD,builtinA,isLeaf,const1,ustrA,simprocAttr,ti122,ti220,ti222,za222,cf,Tryz.results148]
    simp only [zW,zX,zD,builtinA,isLeaf,const1,ustrA,simprocAttr,ti122,ti220,ti222,za222,cf,Tryz.results148,wpO_typeAssert,has,decide_eq_true k3,hga,hgk]
    refine wpO_callv _ _ _ _ _ _ _ _ _ _ _ _ _ _ _ ?_
    simp only [zW,zX,zD,builtinA,isLeaf,const1,ustrA,simprocAttr,ti122,ti220,ti222,za222,cf,Tryz.results148]
    refine ⟨by kernel_rfl,callO_intro (by simpa only [List.nil_append,List.cons_append] using hv) ?_⟩
    rintro r A3 ⟨h3,f3⟩
    simp only [zW,zX,zD,builtinA,isLeaf,const1,ustrA,simprocAttr,ti122,ti220,ti222,za222,cf,Tryz.results148]
    exact hI2.step h3 f3 hnx
  · have hf : namF v d ns = ns:=by cases v <;> first | rfl | exact absurd rfl k3
    rw [hf]
    refine acalls_enterK (cf:=cf 16 [0,2,5,6,12]) foll Tryz.func148 Tryz.ntmps148 (by simp [cf]) ?_
    simp only [Tryz.f148,EnterK_some,zW,zX,zD,builtinA,isLeaf,const1,ustrA,simprocAttr,ti122,ti220,ti222,za222,cf,Tryz.results148]
    simp only [zW,zX,zD,builtinA,isLeaf,const1,ustrA,simprocAttr,ti122,ti220,ti222,za222,cf,Tryz.results148,wpO_typeAssert,has,decide_eq_false k3,hga]
    exact hI2
noncomputable def nmsOfX (x : Ex) : List XNm:=open Classical in if h : ∃ v,x = toX v ∧ EOk v then nmsE [] h.choose else []
theorem nmsOfX_toX {v : VE} (hv : EOk v) : nmsOfX (toX v) = nmsE [] v:=by
  have h : ∃ u,toX v = toX u ∧ EOk u:=⟨v,rfl,hv⟩
  unfold nmsOfX
  rw [dif_pos h]
  have:=h.choose_spec.1
  rw [← toX_inj this]
theorem nmsOfX_bad {x : Ex} (h : validX x = false) : nmsOfX x = []:=by
  unfold nmsOfX
  rw [dif_neg]
  rintro ⟨v,rfl,hv⟩
  rw [validX_toX hv] at h; cases h
set_option maxRecDepth 100000 in
theorem impl_ExprNames (x : Ex) (hx : szX x ≤ 1048576) (A : List Box) : ACalls Tryz.prog 59 [.agg (encX x)] A (fun r A'=>NxNew A (nmsOfX x) r A'):=by
  refine ACalls.only (ACalls.grow ?_)
  refine acalls_enterK (cf:=cf 20 [0,1,2,3,4,5,6,13]) foll Tryz.func59 Tryz.ntmps59 (by simp [cf]) ?_
  simp only [Tryz.f59,EnterK_some,zW,zX,zD,builtinA,isLeaf,const1,ustrA,simprocAttr,ti37,ti39,ti220,ca143,ca144,ca147,cf,Tryz.results59]
  simp only [zW,zX,zD,builtinA,isLeaf,const1,ustrA,simprocAttr,ti37,ti39,ti220,ca143,ca144,ca147,cf,Tryz.results59,encX_length,encX_take]
  refine callK_intro (by simp only [zW,zX,zD,builtinA,isLeaf,const1,ustrA,simprocAttr,frzL_encX,Option.map_some] <;> rfl) (impl_readExpr x hx _) ?_ rfl
  rintro r A' ⟨⟨v,rfl,hv,rfl⟩ | ⟨hv,w,rfl⟩,rfl⟩
  · have hon:=impl_onceX (A ++ [Box.cells (encX (toX v)),.cells [.nils]]) 145 (A.length + 1)
    simp only [List.length_append,List.length_cons,List.length_nil,List.append_assoc,List.cons_append,List.nil_append,Nat.add_assoc,Nat.reduceAdd] at hon
    have hN : AddI A.length (A.length + 1) (A.length + 3) (A.length + 4) (A.length + 2) (A.length + 5) A [] (A ++ [Box.cells (encX (toX v)),.cells [.nils],.cells [.func (.func 145) [] [.ptr (A.length + 1) 0]],.mapb [],.cells [.map (A.length + 3)],.cells [.func (.func 228) [] [.ptr (A.length + 4) 0,.ptr (A.length + 2) 0]]]):=by
      have g : ∀ k b,([Box.cells (encX (toX v)),.cells [.nils],.cells [.func (.func 145) [] [.ptr (A.length + 1) 0]],.mapb [],.cells [.map (A.length + 3)],.cells [.func (.func 228) [] [.ptr (A.length + 4) 0,.ptr (A.length + 2) 0]]] : List Box).getD k .dead = b → (A ++ [Box.cells (encX (toX v)),.cells [.nils],.cells [.func (.func 145) [] [.ptr (A.length + 1) 0]],.mapb [],.cells [.map (A.length + 3)],.cells [.func (.func 228) [] [.ptr (A.length + 4) 0,.ptr (A.length + 2) 0]]]).getD (A.length + k) .dead = b:=fun k b h=>by
        rw [Abs.getD_append_right (by omega),show A.length + k - A.length = k by omega]; exact h
      refine ⟨⟨⟨⟨by omega,by simp⟩,by intro q hq; simp at hq,.nils,g 1 _ rfl,.inl ⟨rfl,rfl⟩,?_,by simp⟩,⟨by simp,g 3 _ rfl⟩,⟨by simp,g 4 _ rfl⟩,⟨by simp,g 2 _ rfl⟩,by omega,by omega,by omega,by omega,by omega,by omega⟩,⟨by simp,g 5 _ rfl⟩,⟨by omega,by omega⟩,by simp,by simp,by simp⟩
      unfold rowX
      rw [g 1 _ rfl]
      simp
    have hwk:=impl_walk (AddI A.length (A.length + 1) (A.length + 3) (A.length + 4) (A.length + 2) (A.length + 5) A) (fun s B L h=>h.app L) namF 148 (by kernel_rfl) [.ptr (A.length + 5) 0] (nam_vis _ _ _ _ _ _ A) v 0 [] _ hv.ok (by omega) (by have:=hv.dep; omega) hN
    rw [walk_nms] at hwk
    rw [ifE] at hwk ⊢
    simp only [zW,zX,zD,builtinA,isLeaf,const1,ustrA,simprocAttr,ti37,ti39,ti220,ca143,ca144,ca147,cf,Tryz.results59]
    refine callO_intro (by simpa only [List.size_toArray,List.length_nil,List.take_zero,List.drop_zero] using hon) ?_
    rintro r A' ⟨rfl,rfl⟩
    simp only [zW,zX,zD,builtinA,isLeaf,const1,ustrA,simprocAttr,ti37,ti39,ti220,ca143,ca144,ca147,cf,Tryz.results59]
    refine callO_intro (by simpa only [List.size_toArray,List.length_nil,List.take_zero,List.drop_zero] using hwk) ?_
    rintro r A2 hA2
    obtain ⟨⟨l1,l2⟩,ho,r0,k1,k2,k3,k4⟩:=hA2.nam.lst
    have hlen:=hA2.low.2
    have hfr : ∀ k,k < A.length → A2.getD k .dead = A.getD k .dead:=fun k hk=>by
      have e : A.getD k .dead = (A2.take A.length).getD k .dead:=by rw [hA2.low.1]
      rw [e]
      simp [List.getD,List.getElem?_take,hk]
    simp only [zW,zX,zD,builtinA,isLeaf,const1,ustrA,simprocAttr,ti37,ti39,ti220,ca143,ca144,ca147,cf,Tryz.results59,k1]
    rw [nmsOfX_toX hv]
    rcases k2 with ⟨rfl,hns⟩ | ⟨j,rfl,hj,hA⟩
    · exact .inl (nxNew_of hlen hfr (.inl ⟨rfl,hns⟩))
    · have hjr : rowX A2 (A.length + 1) = j:=by unfold rowX; rw [k1]
      refine .inr ⟨j,9,xrowsN (nmsE [] v),hA,nxNew_of (by simpa using hlen) (fun k hk=>by rw [getD_set_ne' (by omega)]; exact hfr k hk) (.inr ⟨j,rfl,by omega,getD_set_self hj⟩)⟩
  · simp only [zW,zX,zD,builtinA,isLeaf,const1,ustrA,simprocAttr,ti37,ti39,ti220,ca143,ca144,ca147,cf,Tryz.results59]
    rw [nmsOfX_bad hv]
    exact .inl (nxNew_of (by simp) (fun k hk=>Abs.getD_append_left hk) (.inl ⟨rfl,rfl⟩))
end Go.Proofs.YtnjdbgiincliaaaGreat
/- The model's ExprNames. -/
set_option linter.unusedVariables false
set_option linter.unusedSimpArgs false
namespace Go.Proofs.YtnjdbgiincliaaaGreat
open Go.Abs
def FrNX (r r' : AV) (A A' : List Box) : Prop:=A.length ≤ A'.length ∧ (r' = r ∨ ∃ j,r' = .own j ∧ A.length ≤ j) ∧ ∀ k,k < A.length → r ≠ .own k → A'.getD k .dead = A.getD k .dead
theorem FrNX.trans {r r1 r2 : AV} {A B C : List Box} (h : FrNX r r1 A B) (k : FrNX r1 r2 B C) : FrNX r r2 A C:=by
  obtain ⟨a1,a2,a3⟩:=h
  obtain ⟨b1,b2,b3⟩:=k
  refine ⟨by omega,?_,fun x hx hr=>?_⟩
  · rcases b2 with rfl | ⟨j,rfl,hj⟩
    · exact a2
    · exact .inr ⟨j,rfl,by omega⟩
  · rw [b3 x (by omega) ?_,a3 x hx hr]
    rcases a2 with rfl | ⟨j,rfl,hj⟩
    · exact hr
    · intro e; injection e with e; omega
theorem FrNX.app (r : AV) (A B : List Box) : FrNX r r A (A ++ B):=⟨by simp,.inl rfl,fun k hk _=>Abs.getD_append_left hk⟩
theorem addX_ok {ns : List XNm} {p : XNm} (h : nOkX ns) (hp : p.1.length ≤ 1 ∧ p.2.length ≤ 1) : nOkX (addX ns p):=by
  unfold addX
  split
  · exact h
  · intro q hq
    rcases List.mem_append.1 hq with hq | hq
    · exact h q hq
    · rw [List.mem_singleton.1 hq]; exact hp
theorem nmsE_good : ∀ (v : VE) {ns : List XNm},okE v → ns.Nodup ∧ nOkX ns → (nmsE ns v).Nodup ∧ nOkX (nmsE ns v)
  | .var _,ns,_,h=>h
  | .num _,ns,_,h=>h
  | .nm m k,ns,hv,h=>by have:=nm_shortX hv; exact ⟨addX_nodup h.1 _,addX_ok h.2 ⟨this.2,Nat.le_of_eq this.1⟩⟩
  | .fn _ b,ns,hv,h=>nmsE_good b hv.2 h
  | .app a b,ns,hv,h=>nmsE_good b hv.2 (nmsE_good a hv.1 h)
  | .add a b,ns,hv,h=>nmsE_good b hv.2 (nmsE_good a hv.1 h)
  | .ite c a b,ns,hv,h=>nmsE_good b hv.2.2 (nmsE_good a hv.2.1 (nmsE_good c hv.1 h))
noncomputable def nmsL (ns : List XNm) (l : List VE) : List XNm:=l.foldl nmsE ns
theorem nmsL_all {v : VE} (h : ¬ kindE v = 3) (ns : List XNm) : nmsL ns (kidsE v) = nmsE ns v:=by
  cases v <;> first | rfl | exact absurd rfl h
theorem nmsL_succ {l : List VE} {ns : List XNm} {i : Nat} (h : i < l.length) : nmsL ns (l.take (i + 1)) = nmsE (nmsL ns (l.take i)) (l.getD i ve0):=by
  have e : l.take (i + 1) = l.take i ++ [l.getD i ve0]:=by rw [List.take_add_one]; simp [List.getD,h]
  unfold nmsL
  rw [e,List.foldl_append]
  rfl
theorem nmsL_good : ∀ (l : List VE) {ns : List XNm},(∀ k ∈ l,okE k) → ns.Nodup ∧ nOkX ns → (nmsL ns l).Nodup ∧ nOkX (nmsL ns l)
  | [],ns,_,h=>h
  | v :: l,ns,hv,h=>nmsL_good l (fun k hk=>hv k (.tail _ hk)) (nmsE_good v (hv v (.head _)) h)
def NamesX (v : VE) : Prop:=∀ (A : List Box) (ns : List XNm) (r0 : AV),okE v → ns.Nodup ∧ nOkX ns → OwnXL A ns r0 → ACalls Tryz.prog 140 [r0,.agg (encX (toX v))] A (fun r A'=>OwnXL A' (nmsE ns v) r ∧ FrNX r0 r A A')
set_option maxRecDepth 100000 in
theorem namesX_nm (m k : List UInt8) : NamesX (.nm m k):=fun A ns r0 hv hns hO=>by
  have henc : encX (toX (.nm m k)) = nx_row (m,k):=by rw [encX_node]; rfl
  have hle:=few_names hns.1 hns.2
  rw [henc]
  rcases hO with ⟨rfl,rfl⟩ | ⟨j,rfl,hj,hA⟩
  · refine acalls_enterK (cf:=cf 58 [0,1,3,4,5,6,9,13,33,47]) foll Tryz.func140 Tryz.ntmps140 (by simp [cf]) ?_
    simp only [Tryz.f140,EnterK_some,zW,zX,zD,builtinA,isLeaf,const1,ustrA,simprocAttr,ti3,ti9,ti37,ti39,ca140,cf,Tryz.results140]
    refine aloop_intro [0,3,5] (fun e A'=>e = [(0,.nils),(3,.ptr A.length 0),(5,.int .i64 0)] ∧ A' = A ++ [.cells (nx_row (m,k))]) (fun e _=>0) ?_ ?_
    · simp only [zW,zX,zD,builtinA,isLeaf,const1,ustrA,simprocAttr,ti3,ti9,ti37,ti39,ca140,cf,Tryz.results140]
    · rintro e A' ⟨rfl,rfl⟩
      simp only [zW,zX,zD,builtinA,isLeaf,const1,ustrA,simprocAttr,ti3,ti9,ti37,ti39,ca140,cf,Tryz.results140]
      have e : nmsE [] (.nm m k) = [(m,k)]:=by simp [nmsE,addX]
      refine ⟨by simp,by simp,.inr ⟨A.length + 2,rfl,by simp,?_⟩,⟨by simp,.inr ⟨_,rfl,by omega⟩,fun x hx _=>Abs.getD_append_left hx⟩⟩
      rw [Abs.getD_append_right (by omega),e,show A.length + 2 - A.length = 2 by omega]
      rfl
  · refine acalls_enterK (cf:=cf 58 [0,1,3,4,5,6,9,13,33,47]) foll Tryz.func140 Tryz.ntmps140 (by simp [cf]) ?_
    simp only [Tryz.f140,EnterK_some,zW,zX,zD,builtinA,isLeaf,const1,ustrA,simprocAttr,ti3,ti9,ti37,ti39,ca140,cf,Tryz.results140]
    have hb : ∀ B,(A ++ B).getD j .dead = .row 9 (xrowsN ns) 0:=fun B=>by rw [Abs.getD_append_left hj]; exact hA
    refine aloop_intro [0,3,5] (fun e A'=>∃ i,i ≤ ns.length ∧ (m,k) ∉ ns.take i ∧ e = [(0,.own j),(3,.ptr A.length 0),(5,.int .i64 i)] ∧ A' = A ++ [.cells (nx_row (m,k))]) (fun e _=>ns.length - (intOf (Abs.look 5 e)).toNat) ?_ ?_
    · simp only [zW,zX,zD,builtinA,isLeaf,const1,ustrA,simprocAttr,ti3,ti9,ti37,ti39,ca140,cf,Tryz.results140]
      exact ⟨0,by omega,by simp,rfl⟩
    · rintro e A' ⟨i,hi,hq,rfl,rfl⟩
      simp only [zW,zX,zD,builtinA,isLeaf,const1,ustrA,simprocAttr,ti3,ti9,ti37,ti39,ca140,cf,Tryz.results140,hb,xrowsN_length]
      refine condK_intro (fun h2=>?_) (fun h2=>?_)
      · have hi2 : i < ns.length:=by simpa using h2
        have hg:=xrowsN_getD hi2
        have hi1 : IntKind.i64.wrap ((i : Int) + 1) = ((i + 1 : Nat) : Int):=by rw [wrap64 (by omega) (by omega)]; rfl
        have pi : 0 ≤ (i : Int) ∧ (i : Int) < (ns.length : Int):=by omega
        have htk : ns.take (i + 1) = ns.take i ++ [ns.getD i ([],[])]:=by rw [List.take_add_one]; simp [List.getD,hi2]
        have hmem : ns.getD i ([],[]) ∈ ns:=by simp [List.getD,hi2]
        by_cases he1 : (ns.getD i ([],[])).1 = m
        · by_cases he2 : (ns.getD i ([],[])).2 = k
          · have he : ns.getD i ([],[]) = (m,k):=Prod.ext he1 he2
            have e : nmsE ns (.nm m k) = ns:=by rw [nmsE,addX,if_pos (by rw [← he]; exact hmem)]
            simp only [zW,zX,zD,builtinA,isLeaf,const1,ustrA,simprocAttr,ti3,ti9,ti37,ti39,ca140,cf,Tryz.results140,hb,hg,xrowsN_length,decide_eq_true he1,decide_eq_true he2]
            refine .inl ⟨by kernel_rfl,by kernel_rfl,pi,pi,?_⟩
            rw [e]
            exact ⟨.inr ⟨j,rfl,by simp; omega,hb _⟩,FrNX.app _ _ _⟩
          · have he : ¬ ns.getD i ([],[]) = (m,k):=fun h=>he2 (by rw [h])
            simp only [zW,zX,zD,builtinA,isLeaf,const1,ustrA,simprocAttr,ti3,ti9,ti37,ti39,ca140,cf,Tryz.results140,hb,hg,xrowsN_length,decide_eq_true he1,decide_eq_false he2]
            refine .inl ⟨by kernel_rfl,by kernel_rfl,pi,pi,?_⟩
            simp only [zW,zX,zD,builtinA,isLeaf,const1,ustrA,simprocAttr,ti3,ti9,ti37,ti39,ca140,cf,Tryz.results140,decide_eq_true he1,decide_eq_false he2,hi1,LoopK_eq]
            refine ⟨⟨i + 1,by omega,?_,rfl⟩,?_⟩
            · rw [htk]; simp only [List.mem_append,List.mem_singleton,not_or]; exact ⟨hq,fun h=>he h.symm⟩
            · simp only [intOf]; omega
        · have he : ¬ ns.getD i ([],[]) = (m,k):=fun h=>he1 (by rw [h])
          simp only [zW,zX,zD,builtinA,isLeaf,const1,ustrA,simprocAttr,ti3,ti9,ti37,ti39,ca140,cf,Tryz.results140,hb,hg,xrowsN_length,decide_eq_false he1]
          refine .inl ⟨by kernel_rfl,by kernel_rfl,pi,?_⟩
          simp only [zW,zX,zD,builtinA,isLeaf,const1,ustrA,simprocAttr,ti3,ti9,ti37,ti39,ca140,cf,Tryz.results140,decide_eq_false he1,hi1,LoopK_eq]
          refine ⟨⟨i + 1,by omega,?_,rfl⟩,?_⟩
          · rw [htk]; simp only [List.mem_append,List.mem_singleton,not_or]; exact ⟨hq,fun h=>he h.symm⟩
          · simp only [intOf]; omega
      · have hi2 : i = ns.length:=by simp at h2; omega
        subst hi2
        rw [List.take_length] at hq
        have e : nmsE ns (.nm m k) = ns ++ [(m,k)]:=by rw [nmsE,addX,if_neg hq]
        have hb2 : ∀ B C : List Box,((A ++ B) ++ C).getD j .dead = .row 9 (xrowsN ns) 0:=fun B C=>by rw [List.append_assoc]; exact hb _
        simp only [zW,zX,zD,builtinA,isLeaf,const1,ustrA,simprocAttr,ti3,ti9,ti37,ti39,ca140,cf,Tryz.results140,hb,hb2]
        refine ⟨by simp,⟨by simp,by rw [xrowsN_length]; omega⟩,.inr ⟨A.length + 2,rfl,by simp,?_⟩,⟨by simp; omega,.inr ⟨_,rfl,by omega⟩,fun x hx hne=>?_⟩⟩
        · rw [Abs.getD_append_right (by simp),e]
          simp [xrowsN]
        · have hxj : j ≠ x:=fun e=>hne (by rw [e])
          rw [Abs.getD_append_left (by simp; omega),getD_set_ne' hxj,Abs.getD_append_left hx]
set_option maxRecDepth 100000 in
theorem namesX (v : VE) : NamesX v:=by
  induction v using VE.indK with
  | h v ih =>
    by_cases k3 : kindE v = 3
    · obtain ⟨m,k,rfl⟩ : ∃ m k,v = .nm m k:=by cases v <;> simp [kindE] at k3; exact ⟨_,_,rfl⟩
      exact namesX_nm m k
    intro A ns r0 ho hns hO
    have hl:=rowsE_length v
    have hk3:=kidsE_le v
    rw [encX_node]
    refine acalls_enterK (cf:=cf 58 [0,1,3,4,5,6,9,13,33,47]) foll Tryz.func140 Tryz.ntmps140 (by simp [cf]) ?_
    simp only [Tryz.f140,EnterK_some,zW,zX,zD,builtinA,isLeaf,const1,ustrA,simprocAttr,ti3,ti9,ti37,ti39,ca140,cf,Tryz.results140]
    simp only [zW,zX,zD,builtinA,isLeaf,const1,ustrA,simprocAttr,ti3,ti9,ti37,ti39,ca140,cf,Tryz.results140,decide_eq_false k3]
    refine aloop_intro [0,3,6] (fun e A'=>∃ i r,i ≤ (kidsE v).length ∧ e = [(0,r),(3,.ptr A.length 0),(6,.int .i64 (i : Nat))] ∧ OwnXL A' (nmsL ns ((kidsE v).take i)) r ∧ FrNX r0 r A A' ∧ A.length < A'.length ∧
      A'.getD A.length .dead = .cells (encX (toX v)) ∧ r ≠ .own A.length) (fun e _=>(kidsE v).length - (intOf (Abs.look 6 e)).toNat) ?_ ?_
    · simp only [zW,zX,zD,builtinA,isLeaf,const1,ustrA,simprocAttr,ti3,ti9,ti37,ti39,ca140,cf,Tryz.results140]
      refine ⟨0,r0,by omega,rfl,hO.app _,FrNX.app _ _ _,by simp,?_,?_⟩
      · exact congrArg Box.cells (encX_node v).symm
      · intro e
        rcases hO with ⟨rfl,_⟩ | ⟨j,rfl,hj,_⟩
        · cases e
        · injection e with e; omega
    · rintro e A' ⟨i,r,hi,rfl,hO',hF,hlt,hbx,hne⟩
      rw [encX_node] at hbx
      simp only [zW,zX,zD,builtinA,isLeaf,const1,ustrA,simprocAttr,ti3,ti9,ti37,ti39,ca140,cf,Tryz.results140,hbx,hl]
      refine condK_intro (fun h2=>?_) (fun h2=>?_)
      · have hi2 : i < (kidsE v).length:=by simpa using h2
        have hi1 : IntKind.i64.wrap ((i : Int) + 1) = ((i + 1 : Nat) : Int):=by rw [wrap64 (by omega) (by omega)]; rfl
        have hg:=rowsE_getD hi2
        have hm:=kid_mem hi2
        have hgood:=nmsL_good ((kidsE v).take i) (ns:=ns) (fun k hk=>okE_kid ho (List.mem_of_mem_take hk)) hns
        have hrec:=fun A1=>ih _ hm A1 (nmsL ns ((kidsE v).take i)) r (okE_kid ho hm) hgood
        rw [← nmsL_succ hi2] at hrec
        simp only [zW,zX,zD,builtinA,isLeaf,const1,ustrA,simprocAttr,ti3,ti9,ti37,ti39,ca140,cf,Tryz.results140,hbx,hl,hg,encX_length,encX_take]
        refine ⟨⟨by omega,by omega⟩,callO_intro (hrec _ hO') ?_⟩
        rintro r' A2 ⟨hO2,hf2⟩
        have kp : A.length < A2.length ∧ A2.getD A.length .dead = .cells (encX (toX v)) ∧ r' ≠ .own A.length:=by
          refine ⟨Nat.lt_of_lt_of_le hlt hf2.1,by rw [hf2.2.2 _ hlt hne,hbx,encX_node],?_⟩
          rcases hf2.2.1 with rfl | ⟨j,rfl,hj⟩
          · exact hne
          · intro e; injection e with e; omega
        simp only [zW,zX,zD,builtinA,isLeaf,const1,ustrA,simprocAttr,ti3,ti9,ti37,ti39,ca140,cf,Tryz.results140,hi1,LoopK_eq]
        refine ⟨⟨i + 1,r',by omega,rfl,hO2,hF.trans hf2,kp⟩,?_⟩
        simp only [intOf]; omega
      · have hi2 : i = (kidsE v).length:=by simp at h2; omega
        subst hi2
        rw [List.take_length,nmsL_all k3] at hO'
        simp only [zW,zX,zD,builtinA,isLeaf,const1,ustrA,simprocAttr,ti3,ti9,ti37,ti39,ca140,cf,Tryz.results140]
        exact ⟨hO',hF⟩
set_option maxRecDepth 100000 in
theorem spec_ExprNames (x : Ex) (hx : x.Ok) (hc : szX x ≤ 1048576) (A : List Box) : ACalls Tryz.prog 57 [.agg (encX x)] A (fun r A'=>NxNew A (nmsOfX x) r A'):=by
  refine ACalls.only (ACalls.grow ?_)
  refine acalls_enterK (cf:=cf 10 [0,1,2,5]) foll Tryz.func57 Tryz.ntmps57 (by simp [cf]) ?_
  simp only [Tryz.f57,EnterK_some,zW,zX,zD,builtinA,isLeaf,const1,ustrA,simprocAttr,ti37,ti39,ca80,ca140,cf,Tryz.results57]
  simp only [zW,zX,zD,builtinA,isLeaf,const1,ustrA,simprocAttr,ti37,ti39,ca80,ca140,cf,Tryz.results57,encX_length,encX_take]
  refine callK_intro (by simp only [zW,zX,zD,builtinA,isLeaf,const1,ustrA,simprocAttr,frzL_encX,Option.map_some] <;> rfl) (spec_ExprValid x hx hc _) ?_ rfl
  rintro r A' ⟨rfl,rfl⟩
  rcases validX_cases x with ⟨v,rfl,hv⟩ | h
  · rw [validX_toX hv,nmsOfX_toX hv]
    simp only [zW,zX,zD,builtinA,isLeaf,const1,ustrA,simprocAttr,ti37,ti39,ca80,ca140,cf,Tryz.results57,encX_length,encX_take]
    have hrow : (A ++ [Box.cells (encX (toX v)),Box.row 9 [] 0]).getD (A.length + 1) .dead = .row 9 (xrowsN []) 0:=by
      rw [Abs.getD_append_right (by omega),show A.length + 1 - A.length = 1 by omega]; rfl
    have hO : OwnXL (A ++ [Box.cells (encX (toX v)),Box.row 9 [] 0]) [] (.own (A.length + 1)):=.inr ⟨_,rfl,by simp,hrow⟩
    refine callO_intro (namesX v _ [] _ hv.ok ⟨by simp,by intro q hq; simp at hq⟩ hO) ?_
    rintro r A2 ⟨hO2,hF⟩
    have hlen : A.length ≤ A2.length:=by have:=hF.1; simp at this; omega
    have hfr : ∀ k,k < A.length → A2.getD k .dead = A.getD k .dead:=fun k hk=>by
      rw [hF.2.2 k (by simp; omega) (by intro e; injection e with e; omega),Abs.getD_append_left hk]
    simp only [zW,zX,zD,builtinA,isLeaf,const1,ustrA,simprocAttr,ti37,ti39,ca80,ca140,cf,Tryz.results57]
    rcases hO2 with ⟨rfl,hns⟩ | ⟨j,rfl,hj,hA⟩
    · exact .inl (nxNew_of hlen hfr (.inl ⟨rfl,hns⟩))
    · have hge : A.length ≤ j:=by
        rcases hF.2.1 with e | ⟨j',e,h'⟩
        · injection e with e; omega
        · injection e with e; simp at h'; omega
      refine .inr ⟨j,9,_,hA,nxNew_of (by simpa using hlen) (fun k hk=>by rw [getD_set_ne' (by omega)]; exact hfr k hk) (.inr ⟨j,rfl,hge,getD_set_self hj⟩)⟩
  · rw [h,nmsOfX_bad h]
    simp only [zW,zX,zD,builtinA,isLeaf,const1,ustrA,simprocAttr,ti37,ti39,ca80,ca140,cf,Tryz.results57]
    have hrow : (A ++ [Box.cells (encX x),Box.row 9 [] 0]).getD (A.length + 1) .dead = .row 9 [] 0:=by
      rw [Abs.getD_append_right (by omega),show A.length + 1 - A.length = 1 by omega]; rfl
    have hn0 : xrowsN [] = []:=rfl
    refine .inr ⟨A.length + 1,9,[],hrow,nxNew_of (by simp) (fun k hk=>by rw [getD_set_ne' (by omega),Abs.getD_append_left hk]) (.inr ⟨_,rfl,by omega,by rw [hn0]; exact getD_set_self (by simp)⟩)⟩
end Go.Proofs.YtnjdbgiincliaaaGreat
