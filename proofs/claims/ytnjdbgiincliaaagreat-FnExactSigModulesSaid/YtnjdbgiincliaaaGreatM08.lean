/- OwnNs, Sigs, SigLaw, OwnTo. -/
import Derived.Test.YtnjdbgiincliaaaGreatM07
import Derived.Test.YtnjdbgiincliaaaGreatAbsW3
/- Names that are owned: views, marks, and what a call keeps of new memory. -/
set_option linter.unusedVariables false
set_option linter.unusedSimpArgs false
namespace Go.Proofs.YtnjdbgiincliaaaGreat
open Go.Abs Go.RowKit
theorem HRel.sub {G : Ghost} {A A2 : List Box} {w : World} {base : Nat} (h : HRel G A w base) (hl : A2.length = A.length) (hs : ∀ i,A2.getD i .dead = A.getD i .dead ∨ A2.getD i .dead = .dead) : HRel G A2 w base:=by
  have aux : ∀ k,(A2.getD k .dead).live = true → A2.getD k .dead = A.getD k .dead:=fun k lk=>by
    rcases hs k with h | h
    · exact h
    · rw [h] at lk; cases lk
  refine ⟨by rw [hl]; exact h.n,fun j hj=>?_,fun j k hj hk hne lj lk=>?_,fun j hj lj=>?_,h.imm,h.low,h.gv⟩
  · rcases hs j with e | e
    · rw [e]; exact h.box j (by omega)
    · rw [e]; trivial
  · exact h.sep j k (by omega) (by omega) hne (by rw [← aux j lj]; exact lj) (by rw [← aux k lk]; exact lk)
  · exact h.bnd j (by omega) (by rw [← aux j lj]; exact lj)
theorem ACalls.sub {P : Program} {f : FuncId} {args : List AV} {A : List Box} {R R' : AV → List Box → Prop} (h : ACalls P f args A R)
    (hr : ∀ r A',R r A' → ∃ A2,A2.length = A'.length ∧ (∀ i,A2.getD i .dead = A'.getD i .dead ∨ A2.getD i .dead = .dead) ∧ R' r A2) : ACalls P f args A R' :=
  fun G w base xs h1 h2=>(h G w base xs h1 h2).mono fun e w' ⟨x,v,A',G',a1,a2,a3,a4,a5⟩=>by
    obtain ⟨A2,b1,b2,b3⟩:=hr v A' a2
    exact ⟨x,v,A2,G',a1,b3,a3,HRel.sub a4 b1 b2,a5⟩
def NsOut (A : List Box) (l : Nms) (r : AV) (A' : List Box) : Prop:=∃ n,(l = [] ∧ r = .nils ∧ A' = A ++ List.replicate n .dead) ∨ ∃ j,j < n ∧ r = .own (A.length + j) ∧ A' = A ++ (List.replicate n Box.dead).set j (.row 1 (aEs l) 0)
theorem aEs_ifree (l : Nms) : (aEs l).all ifrees = true:=by
  rw [List.all_eq_true]
  intro r hr
  obtain ⟨s,_,rfl⟩:=List.mem_map.1 hr
  rfl
theorem NsOut.view {f : FuncId} {args args' : List AV} {l : Nms} (h : ∀ A,ACalls Tryz.prog f args' A (NsOut A l)) {A : List Box} (hv : Views A args args') : ACalls Tryz.prog f args A (NsOut A l):=by
  refine ACalls.borrow hv ((h _).mono ?_)
  rintro r A' ⟨n,⟨h1,rfl,rfl⟩ | ⟨j,hj,rfl,rfl⟩⟩
  · refine ⟨_,rfl,rfl,fun b hb=>?_,n,.inl ⟨h1,rfl,rfl⟩⟩
    rw [(List.mem_replicate.1 hb).2]; rfl
  · refine ⟨_,rfl,rfl,fun b hb=>?_,n,.inr ⟨j,hj,by rw [deads_length],rfl⟩⟩
    rcases List.mem_or_eq_of_mem_set hb with hb | rfl
    · rw [(List.mem_replicate.1 hb).2]; rfl
    · simp [ifreeB,aEs_ifree]
def OwnN (A : List Box) (l : Nms) (v : AV) (S : List Nat) : Prop:=(l = [] ∧ v = .nils ∧ S = []) ∨ ∃ j,v = .own j ∧ S = [j] ∧ A.getD j .dead = .row 1 (aEs l) 0
theorem OwnN.frame {A A' : List Box} {l : Nms} {v : AV} {S : List Nat} (h : OwnN A l v S) (hf : ∀ i ∈ S,A'.getD i .dead = A.getD i .dead) : OwnN A' l v S:=by
  rcases h with h | ⟨j,rfl,rfl,hb⟩
  · exact .inl h
  · exact .inr ⟨j,rfl,rfl,by rw [hf j (by simp)]; exact hb⟩
theorem OwnN.low {A : List Box} {l : Nms} {v : AV} {S : List Nat} (h : OwnN A l v S) : ∀ i ∈ S,i < A.length:=by
  rcases h with ⟨_,_,rfl⟩ | ⟨j,rfl,rfl,hb⟩
  · simp
  · intro i hi
    rw [List.mem_singleton.1 hi]
    exact live_lt hb (by simp)
theorem aEs_leaf (l : Nms) : ∀ r ∈ aEs l,r.length = 1 ∧ ∀ v ∈ r,isLeaf v = true:=by
  intro r hr
  obtain ⟨s,_,rfl⟩:=List.mem_map.1 hr
  exact ⟨rfl,fun v hv=>by rw [List.mem_singleton.1 hv]; rfl⟩
theorem OwnN.view {A : List Box} {l : Nms} {v : AV} {S : List Nat} (h : OwnN A l v S) : View A v (.slice (aEs l)):=by
  rcases h with ⟨rfl,rfl,_⟩ | ⟨j,rfl,_,hb⟩
  · exact .nils
  · refine .row j 1 0 (aEs l) (aEs l) hb rfl (aEs_leaf l) fun k i hk hi=>.leaf _ ?_
    have:=aEs_leaf l _ (Abs.getD_mem (d:=[]) hk)
    exact this.2 _ (Abs.getD_mem (by omega))
theorem NsOut.own {A A' : List Box} {l : Nms} {r : AV} (h : NsOut A l r A') : ∃ B S,A' = A ++ B ∧ OwnN A' l r S ∧ ∀ i ∈ S,A.length ≤ i ∧ i < A'.length:=by
  obtain ⟨n,⟨h1,rfl,rfl⟩ | ⟨j,hj,rfl,rfl⟩⟩:=h
  · exact ⟨_,[],rfl,.inl ⟨h1,rfl,rfl⟩,by simp⟩
  · refine ⟨_,[A.length + j],rfl,.inr ⟨_,rfl,rfl,?_⟩,by simp; omega⟩
    rw [Abs.getD_append_right (by omega),Nat.add_sub_cancel_left]
    exact Abs.getD_set_self (by simpa using hj)
theorem ns_out {f : FuncId} {args : List AV} {A : List Box} {l : Nms} (h : ACalls Tryz.prog f args A (fun r A'=>∃ B,A' = A ++ B ∧ ((l = [] ∧ r = .nils) ∨ ∃ j,r = .own (A.length + j) ∧ j < B.length ∧ B.getD j .dead = .row 1 (aEs l) 0))) : ACalls Tryz.prog f args A (NsOut A l):=by
  refine ACalls.sub h fun r A' ⟨B,hA,h⟩=>?_
  subst hA
  have lo : ∀ (C : List Box) i,i < A.length → (A ++ C).getD i .dead = (A ++ B).getD i .dead:=fun C i hi=>by rw [Abs.getD_append_left hi,Abs.getD_append_left hi]
  rcases h with ⟨h1,h2⟩ | ⟨j,rfl,hj,hb⟩
  · refine ⟨A ++ List.replicate B.length .dead,by simp,fun i=>?_,B.length,.inl ⟨h1,h2,rfl⟩⟩
    by_cases hi : i < A.length
    · exact .inl (lo _ i hi)
    · refine .inr ?_
      rw [Abs.getD_append_right (by omega),List.getD_eq_getElem?_getD,List.getElem?_replicate]
      split <;> rfl
  · refine ⟨A ++ (List.replicate B.length Box.dead).set j (.row 1 (aEs l) 0),by simp,fun i=>?_,B.length,.inr ⟨j,hj,rfl,rfl⟩⟩
    by_cases hi : i < A.length
    · exact .inl (lo _ i hi)
    · rw [Abs.getD_append_right (by omega),Abs.getD_append_right (by omega)]
      by_cases hij : j = i - A.length
      · refine .inl ?_
        rw [← hij,hb]
        exact Abs.getD_set_self (by simpa using hj)
      · refine .inr ?_
        rw [Abs.getD_set_ne' hij,List.getD_eq_getElem?_getD,List.getElem?_replicate]
        split <;> rfl
def mkN : Nat → Int → Nms
  | 0,_=>[]
  | n + 1,k=>mkN n k ++ [mtx (k + n)]
theorem mkN_length : ∀ n k,(mkN n k).length = n
  | 0,k=>rfl
  | n + 1,k=>by simp [mkN,mkN_length n k]
theorem mkN_getD : ∀ n k i,i < n → (mkN n k).getD i [] = mtx (k + i)
  | n + 1,k,i,h=>by
    rw [mkN]
    by_cases hi : i < n
    · rw [Abs.getD_append_left (by rw [mkN_length]; exact hi),mkN_getD n k i hi]
    · obtain rfl : i = n:=by omega
      rw [Abs.getD_append_right (by rw [mkN_length]; exact Nat.le_refl _),mkN_length,Nat.sub_self]; rfl
theorem mk_step {l : Nms} {i : Nat} (k : Int) (h : i < l.length) : (aEs (mkN i k) ++ aEs (l.drop i)).set i (AV.str (mtx (k + i)) :: List.drop 1 ((aEs (mkN i k) ++ aEs (l.drop i)).getD i [])) = aEs (mkN (i + 1) k) ++ aEs (l.drop (i + 1)):=by
  have e1 : (aEs (mkN i k)).length = i:=by rw [aEs_length,mkN_length]
  have e2 : aEs (l.drop i) = [.str (l.getD i [])] :: aEs (l.drop (i + 1)):=by
    have : l.drop i = l.getD i [] :: l.drop (i + 1):=by
      have : l.getD i [] = l[i]:=by simp [List.getD,h]
      rw [this,List.getElem_cons_drop h]
    rw [this]; rfl
  rw [e2,Abs.getD_append_right (by omega),e1,Nat.sub_self,List.set_append_right _ _ (by omega),e1,Nat.sub_self]
  simp [mkN,aEs]
set_option maxRecDepth 100000 in
theorem laws_markN (l : Nms) (hl : l.length ≤ 2 ^ 40) (A : List Box) (v : AV) (S : List Nat) (k : Int) (h : OwnN A l v S) (h0 : 0 ≤ k) (h1 : k ≤ 2 ^ 40) :
    ACalls Tryz.prog 29 [v,.int .i64 k] A (fun r A'=>r = .int .i64 (k + l.length) ∧ OwnN A' (mkN l.length k) v S ∧ A'.length = A.length ∧ ∀ j,j ∉ S → A'.getD j .dead = A.getD j .dead):=by
  rcases h with ⟨rfl,rfl,rfl⟩ | ⟨j,rfl,rfl,hb⟩
  · refine acalls_enterK (cf:=cf 20 [0,1,4,5,9]) foll Tryz.func29 Tryz.ntmps29 (by simp [cf]) ?_
    simp only [Tryz.f29,EnterK_some,zW,zX,zD,builtinA,isLeaf,const1,ustrA,simprocAttr,ti3,ti9,ti48,ca96,cf,Tryz.results29]
    refine aloop_intro [0,1,5] (fun e A'=>e = [(0,.nils),(1,.int .i64 k),(5,.int .i64 0)] ∧ A' = A) (fun e _=>0) ?_ ?_
    · simp only [zW,zX,zD,builtinA,isLeaf,const1,ustrA,simprocAttr,ti3,ti9,ti48,ca96,cf,Tryz.results29]
    · rintro e A' ⟨rfl,rfl⟩
      simp only [zW,zX,zD,builtinA,isLeaf,const1,ustrA,simprocAttr,ti3,ti9,ti48,ca96,cf,Tryz.results29]
      exact ⟨by simp,.inl ⟨rfl,rfl,rfl⟩,fun _ _=>trivial⟩
  · have hjl:=live_lt hb (by simp)
    refine acalls_enterK (cf:=cf 20 [0,1,4,5,9]) foll Tryz.func29 Tryz.ntmps29 (by simp [cf]) ?_
    simp only [Tryz.f29,EnterK_some,zW,zX,zD,builtinA,isLeaf,const1,ustrA,simprocAttr,ti3,ti9,ti48,ca96,cf,Tryz.results29]
    refine aloop_intro [0,1,5] (fun e A'=>∃ i,i ≤ l.length ∧ e = [(0,.own j),(1,.int .i64 (k + (i : Nat))),(5,.int .i64 (i : Nat))] ∧ A'.length = A.length ∧ A'.getD j .dead = .row 1 (aEs (mkN i k) ++ aEs (l.drop i)) 0 ∧ ∀ x,x ∉ [j] → A'.getD x .dead = A.getD x .dead) (fun e _=>l.length - (intOf (Abs.look 5 e)).toNat) ?_ ?_
    · simp only [zW,zX,zD,builtinA,isLeaf,const1,ustrA,simprocAttr,ti3,ti9,ti48,ca96,cf,Tryz.results29]
      exact ⟨0,by omega,by simp,by simpa [mkN,aEs] using hb,fun _ _=>trivial⟩
    · rintro e A' ⟨i,hi,rfl,hA,hbb,hfr⟩
      have hln : (aEs (mkN i k)).length + (aEs (l.drop i)).length = l.length:=by rw [aEs_length,aEs_length,mkN_length]; simp; omega
      by_cases hlt : i < l.length
      · have d1 : decide ((i : Int) < (l.length : Int)) = true:=decide_eq_true (by omega)
        have hi1 : IntKind.i64.wrap ((i : Int) + 1) = ((i + 1 : Nat) : Int):=by rw [wrap64 (by omega) (by omega)]; rfl
        have hk1 : IntKind.i64.wrap (k + (i : Int) + 1) = k + ((i + 1 : Nat) : Int):=by rw [wrap64 (by omega) (by omega)]; omega
        have hst:=mk_step (l:=l) (i:=i) k hlt
        simp only [zW,zX,zD,builtinA,isLeaf,const1,ustrA,simprocAttr,ti3,ti9,ti48,ca96,cf,Tryz.results29,hbb,hln,d1]
        refine callK_intro (by simp only [zW,zX,zD,builtinA,isLeaf,const1,ustrA,simprocAttr,Option.map_some]; rfl) (laws_markText (k + (i : Int)) (by omega) _) ?_ rfl; rintro v A' ⟨rfl,rfl⟩
        simp only [zW,zX,zD,builtinA,isLeaf,const1,ustrA,simprocAttr,ti3,ti9,ti48,ca96,cf,Tryz.results29,hbb,hln,hst,hi1,hk1,LoopK_eq]
        refine ⟨⟨by omega,by omega⟩,⟨by omega,by omega,fun v hv=>by rw [List.mem_singleton.1 hv]⟩,⟨i + 1,by omega,rfl,hA,Abs.getD_set_self (by omega),fun x hx=>?_⟩,by simp only [intOf]; omega⟩
        rw [Abs.getD_set_ne' (fun e=>hx (by rw [e]; exact .head _))]
        exact hfr x hx
      · have d1 : decide ((i : Int) < (l.length : Int)) = false:=decide_eq_false (by omega)
        have e : i = l.length:=by omega
        subst e
        simp only [zW,zX,zD,builtinA,isLeaf,const1,ustrA,simprocAttr,ti3,ti9,ti48,ca96,cf,Tryz.results29,hbb,hln,d1]
        refine ⟨.inr ⟨j,rfl,rfl,?_⟩,hA,hfr⟩
        rw [hbb,List.drop_length]; simp [aEs]
set_option maxRecDepth 100000 in
theorem laws_heldN (n : Nat) (hn : n ≤ 2 ^ 40) (k : Int) (h0 : 0 ≤ k) (h1 : k ≤ 2 ^ 40) (A : List Box) : ACalls Tryz.prog 30 [.slice (aEs (mkN n k)),.int .i64 k] A (fun r A'=>r = .int .i64 (k + n) ∧ A' = A):=by
  have hml:=mkN_length n k
  refine acalls_enter (cf:=cf 22 [0,1,4,5,9,18]) foll Tryz.func30 Tryz.ntmps30 (by simp [cf]) ?_
  simp only [Tryz.f30,EnterK_some,zW,zX,zD,builtinA,isLeaf,const1,ustrA,simprocAttr,ti3,ti9,ti48,ca96,cf,Tryz.results30]
  refine aloop_intro [0,1,5] (fun e A'=>∃ i,i ≤ n ∧ e = [(0,.slice (aEs (mkN n k))),(1,.int .i64 (k + (i : Nat))),(5,.int .i64 (i : Nat))] ∧ A' = A) (fun e _=>n - (intOf (Abs.look 5 e)).toNat) ?_ ?_
  · simp only [zW,zX,zD,builtinA,isLeaf,const1,ustrA,simprocAttr,ti3,ti9,ti48,ca96,cf,Tryz.results30]
    exact ⟨0,by omega,by simp⟩
  · rintro e A' ⟨i,hi,rfl,rfl⟩
    by_cases hlt : i < n
    · have d1 : decide ((i : Int) < (n : Int)) = true:=decide_eq_true (by omega)
      have pi : 0 ≤ (i : Int) ∧ (i : Int) < (n : Int):=by omega
      have hg:=aEs_getD (l:=mkN n k) (i:=i) (by omega)
      rw [mkN_getD n k i hlt] at hg
      have hi1 : IntKind.i64.wrap ((i : Int) + 1) = ((i + 1 : Nat) : Int):=by rw [wrap64 (by omega) (by omega)]; rfl
      have hk1 : IntKind.i64.wrap (k + (i : Int) + 1) = k + ((i + 1 : Nat) : Int):=by rw [wrap64 (by omega) (by omega)]; omega
      have hmt:=fun A=>laws_markText (k + (i : Int)) (by omega) A
      generalize mtx (k + (i : Int)) = q at *
      simp only [zW,zX,zD,builtinA,isLeaf,const1,ustrA,simprocAttr,ti3,ti9,ti48,ca96,cf,Tryz.results30,aEs_length,hml,d1,hg]
      refine .inl ⟨by kernel_rfl,by kernel_rfl,pi,?_⟩
      refine callD_intro (by simp only [zW,zX,zD,builtinA,isLeaf,const1,ustrA,simprocAttr,Option.map_some] <;> rfl) (hmt _) ?_ rfl
      simp only [zW,zX,zD,builtinA,isLeaf,const1,ustrA,simprocAttr,ti3,ti9,ti48,ca96,cf,Tryz.results30,hi1,hk1,LoopK_eq]
      refine ⟨⟨i + 1,by omega,rfl⟩,by simp only [intOf]; omega⟩
    · have d1 : decide ((i : Int) < (n : Int)) = false:=decide_eq_false (by omega)
      have e : i = n:=by omega
      subst e
      simp only [zW,zX,zD,builtinA,isLeaf,const1,ustrA,simprocAttr,ti3,ti9,ti48,ca96,cf,Tryz.results30,aEs_length,hml,d1]
end Go.Proofs.YtnjdbgiincliaaaGreat
/- Items of signatures as data, and what the laws' helpers do with lists of them. -/
set_option linter.unusedVariables false
set_option linter.unusedSimpArgs false
namespace Go.Proofs.YtnjdbgiincliaaaGreat
open Go.Abs
set_option maxRecDepth 100000 in
theorem laws_szSigItem (x : SigI) (hx : x.Ok) (l : Int) (A : List Box) (h0 : 0 ≤ l) (h1 : l ≤ 1048576) :
    ACalls Tryz.prog 86 [.agg (sEA x),.int .i64 l] A (fun v A'=>v = .int .i64 (left l (szI x)) ∧ A' = A):=by
  have hw : IntKind.i64.wrap (l - ↑x.name.length) = l - x.name.length:=wrap64 (by have:=hx.1; omega) (by have:=hx.1; omega)
  rw [sEA]
  refine acalls_enter (cf:=cf 19 [0,1,2,4,11,17]) foll Tryz.func86 Tryz.ntmps86 (by simp [cf]) ?_
  simp only [Tryz.f86,EnterK_some,zW,zX,zD,builtinA,isLeaf,const1,ustrA,simprocAttr,ti3,ti9,ti25,ti134,ca138,cf,Tryz.results86]
  rw [hw]
  refine ⟨by omega,condK_intro (fun h=>?_) (fun h=>?_)⟩
  · simp only [zW,zX,zD,builtinA,isLeaf,const1,ustrA,simprocAttr,ti3,ti9,ti25,ti134,ca138,cf,Tryz.results86]
    rw [left,if_neg (by rw [szI]; simp at h; omega)]
  · simp only [decide_eq_false_iff_not] at h
    simp only [zW,zX,zD,builtinA,isLeaf,const1,ustrA,simprocAttr,ti3,ti9,ti25,ti134,ca138,cf,Tryz.results86,encA_length,encA_take]
    refine callK_intro (by simp only [zW,zX,zD,builtinA,isLeaf,const1,ustrA,simprocAttr,frzL_encA,Option.map_some]; rfl) (laws_szType x.typ hx.2 _ _ (by omega) (by omega)) ?_ rfl; rintro v A' ⟨rfl,rfl⟩
    by_cases hf : ((szI x : Nat) : Int) ≤ l
    · have hv : left (l - ↑x.name.length) (sz x.typ) = l - szI x:=by
        rw [szI] at hf ⊢
        rw [left,if_pos (by omega)]; omega
      have hn : decide (l - szI x < 0) = false:=by simp only [decide_eq_false_iff_not]; omega
      rw [hv,left,if_pos hf]
      simp only [zW,zX,zD,builtinA,isLeaf,const1,ustrA,simprocAttr,ti3,ti9,ti25,ti134,ca138,cf,Tryz.results86,hn]
    · have hv : left (l - ↑x.name.length) (sz x.typ) = -1:=by
        rw [szI] at hf
        rw [left,if_neg (by omega)]
      rw [hv,left,if_neg hf]
      simp only [zW,zX,zD,builtinA,isLeaf,const1,ustrA,simprocAttr,ti3,ti9,ti25,ti134,ca138,cf,Tryz.results86]
set_option maxRecDepth 100000 in
theorem laws_szSigItemS (ks : List SigI) (hl : ks.length < 2 ^ 63) (hk : ∀ t ∈ ks,t.Ok) (l : Int) (A : List Box) (h0 : 0 ≤ l) (h1 : l ≤ 1048576) :
    ACalls Tryz.prog 22 [.aslice (sEAs ks),.int .i64 l] A (fun v A'=>v = .int .i64 (left l (ks.length + szIs ks)) ∧ A' = A):=by
  have hw : IntKind.i64.wrap (l - ↑(sEAs ks).length) = l - ks.length:=by rw [sEAs_length]; exact wrap64 (by omega) (by omega)
  refine acalls_enter (cf:=cf 27 [0,1,4,5,11,15,25]) foll Tryz.func22 Tryz.ntmps22 (by simp [cf]) ?_
  simp only [Tryz.f22,EnterK_some,zW,zX,zD,builtinA,isLeaf,const1,ustrA,simprocAttr,ti3,ti46,ti134,ca86,cf,Tryz.results22]
  rw [hw]
  refine condK_intro (fun h=>?_) (fun h=>?_)
  · simp only [zW,zX,zD,builtinA,isLeaf,const1,ustrA,simprocAttr,ti3,ti46,ti134,ca86,cf,Tryz.results22]
    have : ¬ ((ks.length + szIs ks : Nat) : Int) ≤ l:=by simp at h; omega
    rw [left,if_neg this]
  · simp only [zW,zX,zD,builtinA,isLeaf,const1,ustrA,simprocAttr,ti3,ti46,ti134,ca86,cf,Tryz.results22]
    refine aloop_intro [0,1,5] (fun e A'=>∃ i,i ≤ ks.length ∧ ((ks.length + szIs (ks.take i) : Nat) : Int) ≤ l ∧ e = [(0,.aslice (sEAs ks)),(1,.int .i64 (l - (ks.length + szIs (ks.take i) : Nat))),(5,.int .i64 i)] ∧ A' = A) (fun e _=>ks.length - (intOf (Abs.look 5 e)).toNat) ?_ ?_
    · refine ⟨0,by omega,?_,?_,rfl⟩
      · simp at h; simp [szIs]; omega
      · simp only [zW,zX,zD,builtinA,isLeaf,const1,ustrA,simprocAttr,ti3,ti46,ti134,ca86,cf,Tryz.results22]
        simp [szIs]
    · rintro e A' ⟨i,hi,hle,rfl,rfl⟩
      simp only [zW,zX,zD,builtinA,isLeaf,const1,ustrA,simprocAttr,ti3,ti46,ti134,ca86,cf,Tryz.results22]
      refine condK_intro (fun h2=>?_) (fun h2=>?_)
      · have hi2 : i < ks.length:=by simp [sEAs_length] at h2; exact h2
        have he:=sEAs_getD hi2
        have hm:=si_mem hi2
        have hs:=szIs_take hi2
        simp only [zW,zX,zD,builtinA,isLeaf,const1,ustrA,simprocAttr,ti3,ti46,ti134,ca86,cf,Tryz.results22,he,sEA_length,sEA_take,sEAs_length]
        refine ⟨⟨by omega,by omega⟩,?_⟩
        refine callK_intro (by simp only [zW,zX,zD,builtinA,isLeaf,const1,ustrA,simprocAttr,frzL_sEA,Option.map_some]; rfl) (laws_szSigItem _ (hk _ hm) _ _ (by omega) (by omega)) ?_ rfl; rintro v A' ⟨rfl,rfl⟩
        by_cases hf : ((ks.length + szIs (ks.take (i + 1)) : Nat) : Int) ≤ l
        · have hv : left (l - ((ks.length + szIs (ks.take i) : Nat) : Int)) (szI (ks.getD i si0)) = l - ((ks.length + szIs (ks.take (i + 1)) : Nat) : Int):=by
            rw [left,if_pos (by omega)]; omega
          have hn : decide (l - ((ks.length + szIs (ks.take (i + 1)) : Nat) : Int) < 0) = false:=by simp only [decide_eq_false_iff_not]; omega
          have hi1 : IntKind.i64.wrap ((i : Int) + 1) = ((i + 1 : Nat) : Int):=by rw [wrap64 (by omega) (by omega)]; rfl
          rw [hv]
          simp only [zW,zX,zD,builtinA,isLeaf,const1,ustrA,simprocAttr,ti3,ti46,ti134,ca86,cf,Tryz.results22,hn,hi1,LoopK_eq,sEAs_length]
          refine ⟨⟨i + 1,by omega,hf,rfl⟩,?_⟩
          simp only [intOf]
          omega
        · have hv : left (l - ((ks.length + szIs (ks.take i) : Nat) : Int)) (szI (ks.getD i si0)) = -1:=by
            rw [left,if_neg (by omega)]
          have hz:=szIs_le ks (i + 1)
          rw [hv,left,if_neg (by omega)]
          simp only [zW,zX,zD,builtinA,isLeaf,const1,ustrA,simprocAttr,ti3,ti46,ti134,ca86,cf,Tryz.results22]
      · simp only [zW,zX,zD,builtinA,isLeaf,const1,ustrA,simprocAttr,ti3,ti46,ti134,ca86,cf,Tryz.results22]
        have : i = ks.length:=by simp [sEAs_length] at h2; omega
        subst this
        rw [List.take_length] at hle ⊢
        rw [left,if_pos hle]
set_option maxRecDepth 100000 in
theorem laws_toSigItem (x : SigI) (hx : szI x ≤ 1048576) (A : List Box) : ACalls Tryz.prog 90 [.agg (sEA x)] A (fun v A'=>v = .agg (sE x) ∧ A' = A):=by
  have h1 : sz x.typ ≤ 1048576:=by rw [szI] at hx; omega
  rw [sEA,sE]
  refine acalls_enter (cf:=cf 15 [0,1,2,3]) foll Tryz.func90 Tryz.ntmps90 (by simp [cf]) ?_
  simp only [Tryz.f90,EnterK_some,zW,zX,zD,builtinA,isLeaf,const1,ustrA,simprocAttr,ti3,ti9,ti25,ti36,ti69,ti134,ca141,cf,Tryz.results90]
  simp only [zW,zX,zD,builtinA,isLeaf,const1,ustrA,simprocAttr,ti3,ti9,ti25,ti36,ti69,ti134,ca141,cf,Tryz.results90,encA_length,encA_take]
  refine callK_intro (by simp only [zW,zX,zD,builtinA,isLeaf,const1,ustrA,simprocAttr,frzL_encA,Option.map_some]; rfl) (laws_toType x.typ h1 _) ?_ rfl; rintro v A' ⟨rfl,rfl⟩
  simp only [zW,zX,zD,builtinA,isLeaf,const1,ustrA,simprocAttr,ti3,ti9,ti25,ti36,ti69,ti134,ca141,cf,Tryz.results90,enc_length,enc_take,encD,frzL_enc,Option.map_some,encCl,List.all_cons,Bool.and_true,Bool.and_self]
theorem srow_step {l : List SigI} {i : Nat} (h : i < l.length) : (sEs (l.take i) ++ List.replicate (l.length - i) zsi).set i (sE (l.getD i si0) ++ List.drop 6 ((sEs (l.take i) ++ List.replicate (l.length - i) zsi).getD i [])) = sEs (l.take (i + 1)) ++ List.replicate (l.length - (i + 1)) zsi:=by
  have e1 : (sEs (l.take i)).length = i:=by rw [sEs_length]; simp; omega
  have e2 : List.drop 6 ((sEs (l.take i) ++ List.replicate (l.length - i) zsi).getD i []) = []:=by
    have e3 : l.length - i = (l.length - (i + 1)) + 1:=by omega
    rw [List.getD,List.getElem?_append_right (by omega),e1,Nat.sub_self,e3,List.replicate_succ]
    rfl
  have e4 : l.length - i = (l.length - (i + 1)) + 1:=by omega
  rw [e2,List.append_nil,List.set_append_right _ _ (by omega),e1,Nat.sub_self,e4,List.replicate_succ,List.set_cons_zero]
  simp only [sEs]
  rw [List.take_add_one,List.map_append,List.append_assoc]
  simp [List.getD,h]
set_option maxRecDepth 100000 in
theorem laws_toSigItemS (ks : List SigI) (hl : ks.length ≤ 1048576) (hk : szIs ks ≤ 1048576) (A : List Box) :
    ACalls Tryz.prog 24 [.aslice (sEAs ks)] A (fun v A'=>v = .slice (sEs ks) ∧ A' = A):=by
  have hl2 : ((sEAs ks).length : Int) ≤ 1048576:=by rw [sEAs_length]; omega
  refine acalls_enter (cf:=cf 23 [0,2,3,4,11]) foll Tryz.func24 Tryz.ntmps24 (by simp [cf]) ?_
  simp only [Tryz.f24,EnterK_some,zW,zX,zD,builtinA,isLeaf,const1,ustrA,simprocAttr,ti3,ti46,ti50,ti69,ti134,ca90,cf,Tryz.results24]
  refine ⟨⟨by omega,by omega,by omega⟩,?_⟩
  refine aloop_intro [0,3,4] (fun e A'=>∃ i,i ≤ ks.length ∧ e = [(0,.aslice (sEAs ks)),(3,.own A.length),(4,.int .i64 i)] ∧ A' = A ++ [.row 6 (sEs (ks.take i) ++ List.replicate (ks.length - i) zsi) 0]) (fun e _=>ks.length - (intOf (Abs.look 4 e)).toNat) ?_ ?_
  · simp only [zW,zX,zD,builtinA,isLeaf,const1,ustrA,simprocAttr,ti3,ti46,ti50,ti69,ti134,ca90,cf,Tryz.results24]
    exact ⟨0,by omega,rfl,by rw [sEAs_length]; simp [sEs,zsi]⟩
  · rintro e A' ⟨i,hi,rfl,rfl⟩
    simp only [zW,zX,zD,builtinA,isLeaf,const1,ustrA,simprocAttr,ti3,ti46,ti50,ti69,ti134,ca90,cf,Tryz.results24,sEAs_length]
    refine condK_intro (fun h2=>?_) (fun h2=>?_)
    · have hi2 : i < ks.length:=by simpa using h2
      have he:=sEAs_getD hi2
      have hm:=si_mem hi2
      have hzm:=szIs_mem hm
      simp only [zW,zX,zD,builtinA,isLeaf,const1,ustrA,simprocAttr,ti3,ti46,ti50,ti69,ti134,ca90,cf,Tryz.results24,he,sEA_length,sEA_take,sEAs_length]
      refine ⟨⟨by omega,by omega⟩,?_⟩
      refine callK_intro (by simp only [zW,zX,zD,builtinA,isLeaf,const1,ustrA,simprocAttr,frzL_sEA,Option.map_some]; rfl) (laws_toSigItem _ (by omega) _) ?_ rfl; rintro v A' ⟨rfl,rfl⟩
      have hi1 : IntKind.i64.wrap ((i : Int) + 1) = ((i + 1 : Nat) : Int):=by rw [wrap64 (by omega) (by omega)]; rfl
      simp only [zW,zX,zD,builtinA,isLeaf,const1,ustrA,simprocAttr,ti3,ti46,ti50,ti69,ti134,ca90,cf,Tryz.results24,sE_length,frzL_sE,srow_step hi2,hi1,LoopK_eq]
      have hlen : (sEs (List.take i ks)).length + (List.replicate (ks.length - i) zsi).length = ks.length:=by
        simp [sEs_length]; omega
      rw [hlen]
      refine ⟨⟨by omega,by omega⟩,⟨by omega,by omega,fun v hv=>sE_leaf _ v hv⟩,⟨i + 1,by omega,rfl,rfl⟩,?_⟩
      simp only [intOf]
      omega
    · simp only [zW,zX,zD,builtinA,isLeaf,const1,ustrA,simprocAttr,ti3,ti46,ti50,ti69,ti134,ca90,cf,Tryz.results24]
      have : i = ks.length:=by simp at h2; omega
      subst this
      simp [List.take_length]
set_option maxRecDepth 100000 in
theorem laws_eqSigItem (x : SigI) (hx : x.Ok) (A : List Box) : ACalls Tryz.prog 95 [.agg (sE x),.agg (sE x)] A (fun v A'=>v = .bool true ∧ A' = A):=by
  rw [sE]
  refine acalls_enter (cf:=cf 21 [0,1,2,3,4,9,14,20]) foll Tryz.func95 Tryz.ntmps95 (by simp [cf]) ?_
  simp only [Tryz.f95,EnterK_some,zW,zX,zD,builtinA,isLeaf,const1,ustrA,simprocAttr,ti3,ti9,ti36,ti69,ca149,cf,Tryz.results95]
  simp only [zW,zX,zD,builtinA,isLeaf,const1,ustrA,simprocAttr,ti3,ti9,ti36,ti69,ca149,cf,Tryz.results95,enc_length,enc_take]
  refine callK_intro (by simp only [zW,zX,zD,builtinA,isLeaf,const1,ustrA,simprocAttr,frzL_enc,Option.map_some]; rfl) (laws_eqType x.typ hx.2 _) ?_ rfl; rintro v A' ⟨rfl,rfl⟩
  simp only [zW,zX,zD,builtinA,isLeaf,const1,ustrA,simprocAttr,ti3,ti9,ti36,ti69,ca149,cf,Tryz.results95]
set_option maxRecDepth 100000 in
theorem laws_eqSigItemS (ks : List SigI) (hl : ks.length < 2 ^ 63) (hk : ∀ t ∈ ks,t.Ok) (A : List Box) :
    ACalls Tryz.prog 27 [.slice (sEs ks),.slice (sEs ks)] A (fun v A'=>v = .bool true ∧ A' = A):=by
  refine acalls_enter (cf:=cf 27 [0,1,4,5,10,14,26]) foll Tryz.func27 Tryz.ntmps27 (by simp [cf]) ?_
  simp only [Tryz.f27,EnterK_some,zW,zX,zD,builtinA,isLeaf,const1,ustrA,simprocAttr,ti3,ti50,ti69,ca95,cf,Tryz.results27]
  refine aloop_intro [0,1,5] (fun e A'=>∃ i,i ≤ ks.length ∧ e = [(0,.slice (sEs ks)),(1,.slice (sEs ks)),(5,.int .i64 i)] ∧ A' = A) (fun e _=>ks.length - (intOf (Abs.look 5 e)).toNat) ?_ ?_
  · simp only [zW,zX,zD,builtinA,isLeaf,const1,ustrA,simprocAttr,ti3,ti50,ti69,ca95,cf,Tryz.results27]
    exact ⟨0,by omega,rfl⟩
  · rintro e A' ⟨i,hi,rfl,rfl⟩
    simp only [zW,zX,zD,builtinA,isLeaf,const1,ustrA,simprocAttr,ti3,ti50,ti69,ca95,cf,Tryz.results27,sEs_length]
    refine condK_intro (fun h2=>?_) (fun h2=>?_)
    · have hi2 : i < ks.length:=by simpa using h2
      have he:=sEs_getD hi2
      have hm:=si_mem hi2
      have hi1 : IntKind.i64.wrap ((i : Int) + 1) = ((i + 1 : Nat) : Int):=by rw [wrap64 (by omega) (by omega)]; rfl
      simp only [zW,zX,zD,builtinA,isLeaf,const1,ustrA,simprocAttr,ti3,ti50,ti69,ca95,cf,Tryz.results27,he,sE_length,sE_take,sEs_length]
      refine .inl ⟨by kernel_rfl,by kernel_rfl,⟨by omega,by omega⟩,⟨by omega,by omega⟩,?_⟩
      refine callD_intro (by simp only [zW,zX,zD,builtinA,isLeaf,const1,ustrA,simprocAttr,frzL_sE,Option.map_some] <;> rfl) (laws_eqSigItem _ (hk _ hm) _) ?_ rfl
      simp only [zW,zX,zD,builtinA,isLeaf,const1,ustrA,simprocAttr,ti3,ti50,ti69,ca95,cf,Tryz.results27,hi1,LoopK_eq]
      refine ⟨⟨i + 1,by omega,rfl⟩,?_⟩
      simp only [intOf]
      omega
    · simp only [zW,zX,zD,builtinA,isLeaf,const1,ustrA,simprocAttr,ti3,ti50,ti69,ca95,cf,Tryz.results27]
end Go.Proofs.YtnjdbgiincliaaaGreat
/- From a law's argument, a list of items, to data. -/
set_option linter.unusedVariables false
set_option linter.unusedSimpArgs false
namespace Go.Proofs.YtnjdbgiincliaaaGreat
open Go.Abs Go.RowKit Go.ChangeShapes Go.WideShapes Go.ChangeAt Go.ChangeMaps
def SigsOk (l : List SigI) : Prop:=l.length < 2 ^ 63 ∧ ∀ x ∈ l,x.Ok
theorem cI : Tryz.prog.cellsOf 134 = 6:=by kernel_rfl
theorem six {α : Type} {l : List α} (h : l.length = 6) : ∃ a b c d e f,l = [a,b,c,d,e,f]:=by
  match l,h with
  | [a,b,c,d,e,f],_=>exact ⟨a,b,c,d,e,f,rfl⟩
theorem si_of {cz : List AV} (h : Cells Tryz.prog 134 cz) : ∃ x : SigI,cz = sEA x ∧ x.Ok:=by
  generalize ht : 134 = t at h
  cases h with
  | int h1 h2=>subst ht; rw [Tryz.underlying134] at h1; injection h1 with h1; cases h1
  | bool h1=>subst ht; rw [Tryz.underlying134] at h1; injection h1 with h1; cases h1
  | str h1=>subst ht; rw [Tryz.underlying134] at h1; injection h1 with h1; cases h1
  | slice h1 h2 h3=>subst ht; rw [Tryz.underlying134] at h1; injection h1 with h1; cases h1
  | @struct t fs cs h1 h2 h3 =>
    subst ht
    rw [Tryz.underlying134] at h1
    injection h1 with h1
    injection h1 with h1
    subst h1
    rw [cI] at h2
    obtain ⟨a,b,c,d,e,f,rfl⟩:=six h2
    simp only [List.mem_cons,List.not_mem_nil,or_false,forall_eq_or_imp,forall_eq,c3,c9,cS,cT,List.drop_zero,List.drop_succ_cons,List.take_succ_cons,List.take_zero] at h3
    obtain ⟨n,e1⟩:=cells_int Tryz.underlying3 h3.1
    obtain ⟨m,e2,l2⟩:=cells_str Tryz.underlying9 h3.2.1
    obtain ⟨τ,e3,l3⟩:=(ty_of h3.2.2).1 rfl
    injection e1 with e1; injection e2 with e2
    subst e1; subst e2
    have hm : maxLen = 2 ^ 63 - 1:=rfl
    exact ⟨⟨n,m,τ⟩,by simp only [sEA]; rw [← e3],by simp only [SigI.Ok]; exact ⟨by omega,l3⟩⟩
theorem sis_of {cz : List AV} (h : Cells Tryz.prog 46 cz) : ∃ l,cz = [.aslice (sEAs l)] ∧ SigsOk l:=by
  generalize ht : 46 = t at h
  cases h with
  | int h1 h2=>subst ht; rw [Tryz.underlying46] at h1; injection h1 with h1; cases h1
  | bool h1=>subst ht; rw [Tryz.underlying46] at h1; injection h1 with h1; cases h1
  | str h1=>subst ht; rw [Tryz.underlying46] at h1; injection h1 with h1; cases h1
  | slice h1 h2 h3 =>
    subst ht
    rw [Tryz.underlying46] at h1
    injection h1 with h1
    injection h1 with h1
    subst h1
    obtain ⟨ks,k1,k2,k3⟩:=list_enc (f:=sEA) (Q:=SigI.Ok) fun r hr=>si_of (h3 r hr)
    have hm : maxLen = 2 ^ 63 - 1:=rfl
    refine ⟨ks,by rw [sEAs,k1],?_,k3⟩
    rw [k2]; omega
  | @struct t fs cs h1 h2 h3=>subst ht; rw [Tryz.underlying46] at h1; injection h1 with h1; cases h1
theorem plainI : plainB Tryz.prog [46,134,25,23,3,9] = true:=by kernel_rfl
section
variable {H : Type} {enc' : TypeId × Value → H} {W : World}
set_option maxRecDepth 100000 in
theorem rv_sigs {v : Value} {d : DataW H} {p : List MemPlace} {r : Reach} {b0 : Nat} (hval : Value.okWide Tryz.prog W r b0 46 v) (h : DataW.Trod enc' Tryz.prog W 0 (fun _=>true) true 46 v d p) :
    ∃ l : List SigI,SigsOk l ∧ RV (Abs.start W) W (.aslice (sEAs l)) v:=by
  obtain ⟨a,len,cap,rfl⟩:=okWide_slice Tryz.underlying46 hval
  obtain ⟨fuel,hf⟩:=h
  have hmem : 46 ∈ [46,134,25,23,3,9]:=.head _
  obtain ⟨cz,ho⟩:=plain_opened plainI fuel hmem hf
  obtain ⟨l,he,hk⟩:=sis_of ho.typed
  subst he
  refine ⟨l,hk,?_⟩
  have:=ho.rel 0 (by simp)
  simpa [Value.cells,List.getD] using this
end
end Go.Proofs.YtnjdbgiincliaaaGreat
/- A law's argument, a type, as memory of its own. -/
set_option linter.unusedVariables false
set_option linter.unusedSimpArgs false
namespace Go.Proofs.YtnjdbgiincliaaaGreat
open Go.Abs
theorem getD_repl {α : Type} {n i : Nat} {x d : α} (h : i < n) : (List.replicate n x).getD i d = x:=by simp [List.getD,h]
def NewK (A : List Box) (ks : List Ty) (j : Nat) (A' : List Box) : Prop :=
  A.length ≤ A'.length ∧ (∀ k,k < A.length → A'.getD k .dead = A.getD k .dead) ∧ ∃ rows S,A'.getD j .dead = .gr none 4 rows ∧ OwnR A' ks rows S ∧ (j :: S).Nodup ∧ ∀ i ∈ j :: S,A.length ≤ i
def KidsN (ks : List Ty) : Prop:=∀ A,ACalls Tryz.prog 226 [.aslice (encAs ks)] A (fun r A'=>∃ j,r = .own j ∧ NewK A ks j A')
def TypN (t : Ty) : Prop:=∀ A,ACalls Tryz.prog 141 [.agg (encA t)] A (fun r A'=>∃ j,r = .agg [.int .i64 t.kind,.str t.mod,.str t.name,.own j] ∧ NewK A t.kids j A')
set_option maxRecDepth 100000 in
theorem toTypeS_own (ks : List Ty) (hl : ks.length ≤ 1048576) (hk : ∀ t ∈ ks,TypN t) : KidsN ks:=fun A=>by
  have hl2 : ((encAs ks).length : Int) ≤ 1048576:=by rw [encAs_length]; omega
  refine ACalls.grow ?_
  refine acalls_enterK (cf:=cf 23 [0,2,3,4,11]) foll Tryz.func226 Tryz.ntmps226 (by simp [cf]) ?_
  simp only [Tryz.f226,EnterK_some,zW,zX,zD,builtinA,isLeaf,const1,ustrA,simprocAttr,ti3,ti23,ti25,ti34,ti36,ca141,cf,Tryz.results226]
  refine ⟨⟨by omega,by omega,by omega⟩,?_⟩
  refine aloop_intro [0,3,4] (fun e A'=>∃ (p : Nat) (rl : List (List AV)) (SL : List Nat),p ≤ ks.length ∧ e = [(0,.aslice (encAs ks)),(3,.own A.length),(4,.int .i64 p)] ∧ A'.getD A.length .dead = (if p = 0 then .row 4 (List.replicate ks.length zty) 0 else .gr none 4 (rl ++ List.replicate (ks.length - p) zty)) ∧
    rl.length = p ∧ OwnR A' (ks.take p) rl SL ∧ SL.Nodup ∧ (∀ i ∈ SL,A.length < i) ∧ A.length < A'.length ∧ ∀ k,k < A.length → A'.getD k .dead = A.getD k .dead) (fun e _=>ks.length - (intOf (Abs.look 4 e)).toNat) ?_ ?_
  · simp only [zW,zX,zD,builtinA,isLeaf,const1,ustrA,simprocAttr,ti3,ti23,ti25,ti34,ti36,ca141,cf,Tryz.results226]
    refine ⟨0,[],[],by omega,rfl,?_,rfl,by simp [OwnR],by simp,by simp,by simp,fun k hk=>Abs.getD_append_left hk⟩
    rw [if_pos rfl,encAs_length]
    rfl
  · rintro e A' ⟨p,rl,SL,hp,rfl,hb,hrl,hO,hN,hlo,hlt,hfr⟩
    simp only [zW,zX,zD,builtinA,isLeaf,const1,ustrA,simprocAttr,ti3,ti23,ti25,ti34,ti36,ca141,cf,Tryz.results226,encAs_length]
    refine condK_intro (fun h2=>?_) (fun h2=>?_)
    · have hp2 : p < ks.length:=by simpa using h2
      have he:=encAs_getD hp2
      have hm:=getD_mem hp2
      simp only [zW,zX,zD,builtinA,isLeaf,const1,ustrA,simprocAttr,ti3,ti23,ti25,ti34,ti36,ca141,cf,Tryz.results226,he,encA_length,encA_take,encAs_length]
      refine ⟨⟨by omega,by omega⟩,?_⟩
      refine callK_intro (by simp only [zW,zX,zD,builtinA,isLeaf,const1,ustrA,simprocAttr,frzL_encA,Option.map_some] <;> rfl) (hk _ hm _) ?_ rfl
      rintro r A3 ⟨j,rfl,hle,hf3,rows,S,hg,hR,hND,hge⟩
      have hi1 : IntKind.i64.wrap ((p : Int) + 1) = ((p + 1 : Nat) : Int):=by rw [wrap64 (by omega) (by omega)]; rfl
      have hb3 : A3.getD A.length .dead = (if p = 0 then .row 4 (List.replicate ks.length zty) 0 else .gr none 4 (rl ++ List.replicate (ks.length - p) zty)):=by rw [hf3 _ hlt]; exact hb
      have hjA : A.length ≠ j:=fun e=>by have:=hge j (by simp); omega
      generalize ht : ks.getD p ty0 = t at *
      have key : ∀ (n0 : Nat) (z : List (List AV)),n0 = ks.length → z.length = ks.length → z.take p = rl → z.drop p = List.replicate (ks.length - p) zty → z.set p ([.int .i64 t.kind,.str t.mod,.str t.name,.own j]) = (rl ++ [[.int .i64 t.kind,.str t.mod,.str t.name,.own j]]) ++ List.replicate (ks.length - (p + 1)) zty:=fun n0 z h0 h1 h2 h3=>by
        have e1 : z = rl ++ List.replicate (ks.length - p) zty:=by rw [← h2,← h3,List.take_append_drop]
        rw [e1,show ks.length - p = (ks.length - (p + 1)) + 1 by omega,List.replicate_succ,List.set_append_right _ _ (by omega),hrl,Nat.sub_self]
        simp
      have fin : ∀ Z,Z = Box.gr none 4 ((rl ++ [[.int .i64 t.kind,.str t.mod,.str t.name,.own j]]) ++ List.replicate (ks.length - (p + 1)) zty) → ∃ (p' : Nat) (rl' : List (List AV)) (SL' : List Nat),p' ≤ ks.length ∧ [(0,AV.aslice (encAs ks)),(3,.own A.length),(4,.int .i64 ((p + 1 : Nat) : Int))] = [(0,.aslice (encAs ks)),(3,.own A.length),(4,.int .i64 p')] ∧ (A3.set A.length Z).getD A.length .dead = (if p' = 0 then .row 4 (List.replicate ks.length zty) 0 else .gr none 4 (rl' ++ List.replicate (ks.length - p') zty)) ∧
          rl'.length = p' ∧ OwnR (A3.set A.length Z) (ks.take p') rl' SL' ∧ SL'.Nodup ∧ (∀ i ∈ SL',A.length < i) ∧ A.length < (A3.set A.length Z).length ∧ ∀ k,k < A.length → (A3.set A.length Z).getD k .dead = A.getD k .dead:=fun Z hZ=>by
        have hlt3 : A.length < A3.length:=by omega
        have low:=hO.low
        refine ⟨p + 1,rl ++ [[.int .i64 t.kind,.str t.mod,.str t.name,.own j]],SL ++ (j :: S),by omega,rfl,?_,by simp [hrl],?_,?_,?_,by simpa using hlt3,fun k hk=>?_⟩
        · rw [getD_set_self hlt3,if_neg (by omega)]; exact hZ
        · have hts : ks.take (p + 1) = ks.take p ++ [t]:=by rw [← ht]; exact take_snoc ty0 hp2
          rw [hts]
          refine (hO.frame fun i hi=>?_).append ?_
          · have h1:=hlo i hi
            have h2:=low i hi
            rw [getD_set_ne' (by omega),hf3 i h2]
          · rw [OwnR]
            refine ⟨_,[],j :: S,[],rfl,by simp,?_,by simp [OwnR]⟩
            have ht4 : t = .mk t.kind t.mod t.name t.kids:=by cases t; rfl
            rw [ht4,ownT_mk]
            refine ⟨.own j,rfl,.inr (.inr ⟨j,rows,S,rfl,rfl,by rw [getD_set_ne' hjA]; exact hg,hR.frame fun i hi=>?_⟩)⟩
            have:=hge i (by simp [hi])
            rw [getD_set_ne' (by omega)]
        · refine List.nodup_append.2 ⟨hN,hND,fun x hx y hy=>?_⟩
          have:=low x hx
          have:=hge y hy
          omega
        · intro i hi
          rcases List.mem_append.1 hi with hi | hi
          · exact hlo i hi
          · have:=hge i hi; omega
        · rw [getD_set_ne' (by omega),hf3 k (by omega),hfr k hk]
      have hel : ∀ v ∈ [AV.int .i64 t.kind,.str t.mod,.str t.name,.own j],isElem v = true:=by simp [isElem,isLeaf]
      by_cases hp0 : p = 0
      · rw [if_pos hp0] at hb3
        have hz:=key ks.length (List.replicate ks.length zty) rfl (by simp) (by subst hp0; simp at hrl; simp [hrl]) (by subst hp0; simp)
        have hdz : List.drop 4 ((List.replicate ks.length zty).getD p []) = []:=by rw [getD_repl hp2]; rfl
        simp only [zW,zX,zD,builtinA,isLeaf,const1,ustrA,simprocAttr,ti3,ti23,ti25,ti34,ti36,ca141,cf,Tryz.results226,hg,hb3,hz,hdz,hi1,LoopK_eq]
        refine ⟨⟨by omega,by simp; omega⟩,⟨by simp; omega,hel⟩,by simpa only [List.append_assoc,List.cons_append,List.nil_append,List.length_set] using fin _ rfl,?_⟩
        simp only [intOf]; omega
      · rw [if_neg hp0] at hb3
        have hz:=key ks.length (rl ++ List.replicate (ks.length - p) zty) rfl (by simp; omega) (by rw [← hrl]; simp) (by rw [← hrl]; simp)
        have hdz : List.drop 4 ((rl ++ List.replicate (ks.length - p) zty).getD p []) = []:=by
          rw [Abs.getD_append_right (by omega),hrl,Nat.sub_self,getD_repl (by omega)]; rfl
        simp only [zW,zX,zD,builtinA,isLeaf,const1,ustrA,simprocAttr,ti3,ti23,ti25,ti34,ti36,ca141,cf,Tryz.results226,hg,hb3,hz,hdz,hi1,LoopK_eq]
        refine ⟨⟨by omega,by simp; omega⟩,⟨by simp; omega,hel⟩,by simpa only [List.append_assoc,List.cons_append,List.nil_append,List.length_set] using fin _ rfl,?_⟩
        simp only [intOf]; omega
    · have hp2 : p = ks.length:=by simp at h2; omega
      subst hp2
      simp only [zW,zX,zD,builtinA,isLeaf,const1,ustrA,simprocAttr,ti3,ti23,ti25,ti34,ti36,ca141,cf,Tryz.results226]
      rw [List.take_length] at hO
      have low:=hO.low
      have hnd : (A.length :: SL).Nodup:=List.nodup_cons.2 ⟨fun h=>by have:=hlo _ h; omega,hN⟩
      have hge : ∀ i ∈ A.length :: SL,A.length ≤ i:=fun i hi=>by
        rcases List.mem_cons.1 hi with rfl | hi
        · exact Nat.le_refl _
        · have:=hlo i hi; omega
      by_cases h0 : ks.length = 0
      · have hk0 : ks = []:=List.length_eq_zero_iff.1 h0
        rw [if_pos h0,h0] at hb
        refine .inr ⟨A.length,4,[],by rw [hb]; rfl,A.length,rfl,by simp; omega,fun k hk=>by rw [getD_set_ne' (by omega)]; exact hfr k hk,[],[],getD_set_self hlt,by rw [hk0]; simp [OwnR],by simp,by simp⟩
      · rw [if_neg h0] at hb
        refine .inl ⟨A.length,rfl,by omega,hfr,rl,SL,by rw [hb]; simp,hO,hnd,hge⟩
set_option maxRecDepth 100000 in
theorem toType_own (τ : Ty) (hτ : sz τ ≤ 1048576) : TypN τ:=by
  induction τ using Ty.ind with
  | h k m n ks ih =>
    intro A
    rw [encA]
    have h1 : ks.length ≤ 1048576:=by rw [sz] at hτ; omega
    have h2 : ∀ t ∈ ks,sz t ≤ 1048576:=fun t ht=>by rw [sz] at hτ; have:=szs_mem ht; omega
    have hks:=toTypeS_own ks h1 (fun t ht=>ih t ht (h2 t ht))
    refine acalls_enterK (cf:=cf 18 [0,1,2,3]) foll Tryz.func141 Tryz.ntmps141 (by simp [cf]) ?_
    simp only [Tryz.f141,EnterK_some,zW,zX,zD,builtinA,isLeaf,const1,ustrA,simprocAttr,ti3,ti9,ti23,ti25,ti34,ti36,ca226,cf,Tryz.results141]
    refine callK_intro (by simp only [zW,zX,zD,builtinA,isLeaf,const1,ustrA,simprocAttr,Option.map_some] <;> rfl) (hks _) ?_ rfl
    rintro r A' ⟨j,rfl,hle,hf,rows,S,hg,hR,hND,hge⟩
    simp only [List.length_append,List.length_cons,List.length_nil] at hle hf hge
    have gb : ∀ i b,([Box.cells [.int .i64 k,.str m,.str n,.aslice (encAs ks)],.cells [.int .i64 0,.str [],.str [],.nils],.cells [.int .i64 k,.str m,.str n,.nils]] : List Box).getD i .dead = b → i < 3 → A'.getD (A.length + i) .dead = b:=fun i b h hi=>by
      rw [hf _ (by omega),Abs.getD_append_right (by omega),show A.length + i - A.length = i by omega]; exact h
    have g1:=gb 1 _ rfl (by omega)
    have g2:=gb 2 _ rfl (by omega)
    have hl1 : A.length + 1 < A'.length:=by omega
    have hl2 : A.length + 2 < A'.length:=by omega
    have s1 : ∀ X : Box,(A'.set (A.length + 2) X).getD (A.length + 2) .dead = X:=fun X=>getD_set_self hl2
    have s2 : ∀ X : Box,(A'.set (A.length + 2) X).getD (A.length + 1) .dead = .cells [.int .i64 0,.str [],.str [],.nils]:=fun X=>by rw [getD_set_ne' (by omega)]; exact g1
    have s3 : ∀ X Y : Box,((A'.set (A.length + 2) X).set (A.length + 1) Y).getD (A.length + 1) .dead = Y:=fun X Y=>getD_set_self (by simpa using hl1)
    have fin : ∀ X Y : Box,NewK A ks j ((A'.set (A.length + 2) X).set (A.length + 1) Y):=fun X Y=>by
      refine ⟨by simp; omega,fun i hi=>?_,rows,S,?_,hR.frame fun i hi=>?_,hND,fun i hi=>by have:=hge i hi; omega⟩
      · rw [getD_set_ne' (by omega),getD_set_ne' (by omega),hf i (by omega),Abs.getD_append_left hi]
      · have:=hge j (by simp)
        rw [getD_set_ne' (by omega),getD_set_ne' (by omega)]; exact hg
      · have:=hge i (by simp [hi])
        rw [getD_set_ne' (by omega),getD_set_ne' (by omega)]
    simp only [zW,zX,zD,builtinA,isLeaf,const1,ustrA,simprocAttr,ti3,ti9,ti23,ti25,ti34,ti36,ca226,cf,Tryz.results141,g1,g2,s1,s2,s3]
    exact ⟨j,rfl,fin _ _⟩
end Go.Proofs.YtnjdbgiincliaaaGreat
