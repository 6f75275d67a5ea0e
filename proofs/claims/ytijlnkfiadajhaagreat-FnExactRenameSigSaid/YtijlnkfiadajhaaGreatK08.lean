/- SigPl, SigOutA, Binds, SubI, SubT, SigOne, SpSigN, SigRenD, EachG, SigRen. -/
import Derived.Test.YtijlnkfiadajhaaGreatK07
import Derived.Test.YtijlnkfiadajhaaGreatAbsW3
/- What a signature's method plain makes: items that are owned. -/
set_option linter.unusedVariables false
set_option linter.unusedSimpArgs false
namespace Go.Proofs.YtijlnkfiadajhaaGreat
open Go.Abs
def NewS (A : List Box) (x : SigI) (cs : List AV) (A' : List Box) : Prop :=
  A.length ≤ A'.length ∧ (∀ k,k < A.length → A'.getD k .dead = A.getD k .dead) ∧ ∃ v S,cs = sRow x v ∧ OwnK A' x.typ.kids v S ∧ S.Nodup ∧ (∀ i ∈ S,A.length ≤ i) ∧ (v = .nils ∨ ∃ i,v = .own i)
def PlI (y : VI) : Prop:=∀ A,ACalls Tryz.prog ((pickI 416 423 432) y) [viX y] A (fun r A'=>∃ cs,r = .agg cs ∧ NewS A (siOf y) cs A')
theorem prow_row (x : SigI) (w : VT) (h : x.typ = toTy w) (n : Nat) : ∃ v,prow w n true = [.int .i64 x.typ.kind,.str x.typ.mod,.str x.typ.name,v] ∧ (v = .nils ∨ ∃ i,v = .own i):=by
  rw [h]
  cases w with
  | num=>exact ⟨_,rfl,.inl rfl⟩
  | nm m k=>exact ⟨_,rfl,.inl rfl⟩
  | fn a b=>exact ⟨_,rfl,.inr ⟨_,rfl⟩⟩
theorem newS_of {A : List Box} {x : SigI} {w : VT} (h : x.typ = toTy w) {B0 B1 : List Box} {n : Nat} (hn : n = A.length + B0.length) : NewS A x (.int .i64 x.kind :: .str x.name :: prow w n true) (A ++ (B0 ++ (pbox w n ++ B1))):=by
  obtain ⟨v,hv,hv2⟩:=prow_row x w h n
  have ho:=own_plain w n true (A ++ (B0 ++ (pbox w n ++ B1))) fun k hk=>by
    rw [Abs.getD_append_right (by omega),Abs.getD_append_right (by omega),Abs.getD_append_left (by rw [pbox_length]; omega)]
    congr 1; omega
  rw [hv] at ho
  refine ⟨by simp,fun k hk=>Abs.getD_append_left hk,v,pidx w n,by rw [hv]; rfl,?_,pidx_nodup _ _,fun i hi=>by have:=pidx_in _ _ i hi; omega,hv2⟩
  rw [h]
  cases ht : toTy w with
  | mk k m n ks =>
    rw [ht,ownT_mk] at ho
    obtain ⟨v',e,hK⟩:=ho
    simp only [List.cons.injEq,and_true] at e
    rw [e.2.2.2]
    exact hK
set_option maxRecDepth 100000 in
theorem ab_plain (n : List UInt8) : PlI (.ab n):=fun A=>by
  show ACalls Tryz.prog 416 _ _ _
  rw [viX]
  refine acalls_enterK (cf:=cf 6 [0,1,2]) foll Tryz.func416 Tryz.ntmps416 (by simp [cf]) ?_
  simp only [Tryz.f416,EnterK_some,zW,zX,zD,builtinA,isLeaf,const1,ustrA,simprocAttr,ti9,ti129,ti334,cf,Tryz.results416]
  exact ⟨_,rfl,by simp,fun k hk=>Abs.getD_append_left hk,.nils,[],rfl,.inl ⟨rfl,rfl,rfl⟩,by simp,by simp,.inl rfl⟩
set_option maxRecDepth 100000 in
theorem al_plain (n : List UInt8) (v : VT) : PlI (.al n v):=fun A=>by
  show ACalls Tryz.prog 423 _ _ _
  have cv : ACalls Tryz.prog ((pickF 459 484 391) v) [vX v] (A ++ [Box.cells [.str n,.iface (vT v) (vX v)],Box.cells [.int .i64 0,.str [],.int .i64 0,.str [],.str [],.nils]]) (fun r A'=>r = .agg (prow v (A.length + 2) true) ∧ A' = A ++ (Box.cells [.str n,.iface (vT v) (vX v)] :: Box.cells [.int .i64 0,.str [],.int .i64 0,.str [],.str [],.nils] :: pbox v (A.length + 2))):=by
    have:=plainM v (A ++ [Box.cells [.str n,.iface (vT v) (vX v)],Box.cells [.int .i64 0,.str [],.int .i64 0,.str [],.str [],.nils]])
    simpa using this
  have hpl : ∀ n,(prow v n true).length = 4:=fun n=>prow_length _ _ _
  rw [viX]
  refine acalls_enterK (cf:=cf 9 [0,1,2]) foll Tryz.func423 Tryz.ntmps423 (by simp [cf]) ?_
  simp only [Tryz.f423,EnterK_some,zW,zX,zD,builtinA,isLeaf,const1,ustrA,simprocAttr,ti9,ti129,ti262,ti338,cf,Tryz.results423]
  refine .inr (drawE_intro [(false,0,1),(false,0,1),(false,0,0),(false,0,0),(true,0,0),(false,1,1),(true,1,1)] [A ++ [Box.cells [.str n,.iface (vT v) (vX v)],Box.cells [.int .i64 0,.str [],.int .i64 0,.str [],.str [],.nils]],A ++ (Box.cells [.str n,.iface (vT v) (vX v)] :: Box.cells [.int .i64 0,.str [],.int .i64 0,.str [],.str [],.nils] :: pbox v (A.length + 2)),A ++ (Box.cells [.str n,.iface (vT v) (vX v)] :: Box.cells (.int .i64 2 :: .str n :: prow v (A.length + 2) true) :: pbox v (A.length + 2))] 2 rfl (by kernel_rfl) (by kernel_rfl) (by kernel_rfl) (by kernel_rfl) (by kernel_rfl) (by kernel_rfl) ?_)
  simp only [zW,zX,zD,builtinA,isLeaf,const1,ustrA,simprocAttr,ti9,ti129,ti262,ti338,cf,Tryz.results423]
  refine wpG_invoke _ _ _ _ _ _ _ _ _ _ _ _ _ _ _ _ _ _ ?_
  simp only [zW,zX,zD,builtinA,isLeaf,const1,ustrA,simprocAttr,ti9,ti129,ti262,ti338,cf,Tryz.results423]
  refine meth_invE (met3 (by kernel_rfl) (by kernel_rfl) (by kernel_rfl) (by kernel_rfl) (by kernel_rfl) (by kernel_rfl)) cv rfl ?_
  simp only [zW,zX,zD,builtinA,isLeaf,const1,ustrA,simprocAttr,ti9,ti129,ti262,ti338,cf,Tryz.results423,hpl]
  rw [List.take_of_length_le (Nat.le_of_eq (hpl _))]
  have h:=newS_of (A:=A) (x:=siOf (.al n v)) (w:=v) rfl (B0:=[Box.cells [.str n,.iface (vT v) (vX v)],Box.cells (.int .i64 2 :: .str n :: prow v (A.length + 2) true)]) (B1:=[]) (n:=A.length + 2) rfl
  rw [List.append_nil] at h
  exact ⟨_,rfl,h⟩
set_option maxRecDepth 100000 in
theorem va_plain (n : List UInt8) (v : VT) : PlI (.va n v):=fun A=>by
  show ACalls Tryz.prog 432 _ _ _
  have cv : ACalls Tryz.prog ((pickF 459 484 391) v) [vX v] (A ++ [Box.cells [.str n,.iface (vT v) (vX v)],Box.cells [.int .i64 0,.str [],.int .i64 0,.str [],.str [],.nils]]) (fun r A'=>r = .agg (prow v (A.length + 2) true) ∧ A' = A ++ (Box.cells [.str n,.iface (vT v) (vX v)] :: Box.cells [.int .i64 0,.str [],.int .i64 0,.str [],.str [],.nils] :: pbox v (A.length + 2))):=by
    have:=plainM v (A ++ [Box.cells [.str n,.iface (vT v) (vX v)],Box.cells [.int .i64 0,.str [],.int .i64 0,.str [],.str [],.nils]])
    simpa using this
  have hpl : ∀ n,(prow v n true).length = 4:=fun n=>prow_length _ _ _
  rw [viX]
  refine acalls_enterK (cf:=cf 9 [0,1,2]) foll Tryz.func432 Tryz.ntmps432 (by simp [cf]) ?_
  simp only [Tryz.f432,EnterK_some,zW,zX,zD,builtinA,isLeaf,const1,ustrA,simprocAttr,ti9,ti129,ti262,ti339,cf,Tryz.results432]
  refine .inr (drawE_intro [(false,0,1),(false,0,1),(false,0,0),(false,0,0),(true,0,0),(false,1,1),(true,1,1)] [A ++ [Box.cells [.str n,.iface (vT v) (vX v)],Box.cells [.int .i64 0,.str [],.int .i64 0,.str [],.str [],.nils]],A ++ (Box.cells [.str n,.iface (vT v) (vX v)] :: Box.cells [.int .i64 0,.str [],.int .i64 0,.str [],.str [],.nils] :: pbox v (A.length + 2)),A ++ (Box.cells [.str n,.iface (vT v) (vX v)] :: Box.cells (.int .i64 3 :: .str n :: prow v (A.length + 2) true) :: pbox v (A.length + 2))] 2 rfl (by kernel_rfl) (by kernel_rfl) (by kernel_rfl) (by kernel_rfl) (by kernel_rfl) (by kernel_rfl) ?_)
  simp only [zW,zX,zD,builtinA,isLeaf,const1,ustrA,simprocAttr,ti9,ti129,ti262,ti339,cf,Tryz.results432]
  refine wpG_invoke _ _ _ _ _ _ _ _ _ _ _ _ _ _ _ _ _ _ ?_
  simp only [zW,zX,zD,builtinA,isLeaf,const1,ustrA,simprocAttr,ti9,ti129,ti262,ti339,cf,Tryz.results432]
  refine meth_invE (met3 (by kernel_rfl) (by kernel_rfl) (by kernel_rfl) (by kernel_rfl) (by kernel_rfl) (by kernel_rfl)) cv rfl ?_
  simp only [zW,zX,zD,builtinA,isLeaf,const1,ustrA,simprocAttr,ti9,ti129,ti262,ti339,cf,Tryz.results432,hpl]
  rw [List.take_of_length_le (Nat.le_of_eq (hpl _))]
  have h:=newS_of (A:=A) (x:=siOf (.va n v)) (w:=v) rfl (B0:=[Box.cells [.str n,.iface (vT v) (vX v)],Box.cells (.int .i64 3 :: .str n :: prow v (A.length + 2) true)]) (B1:=[]) (n:=A.length + 2) rfl
  rw [List.append_nil] at h
  exact ⟨_,rfl,h⟩
theorem plI : ∀ y,PlI y
  | .ab n=>ab_plain n
  | .al n v=>al_plain n v
  | .va n v=>va_plain n v
set_option maxRecDepth 100000 in
set_option maxHeartbeats 4000000 in
theorem impl_plainItems (ys : List VI) (hl : ys.length ≤ 1000) (A : List Box) : ACalls Tryz.prog 149 [.slice (vRows ys)] A (fun r A'=>∃ j,r = .own j ∧ NewG A (ys.map siOf) j A'):=by
  have hl2 : ((vRows ys).length : Int) ≤ 1000:=by rw [vRows_length]; omega
  refine ACalls.grow ?_
  refine acalls_enterK (cf:=cf 23 [0,2,3,4,5,9,10,11,12]) foll Tryz.func149 Tryz.ntmps149 (by simp [cf]) ?_
  simp only [Tryz.f149,EnterK_some,zW,zX,zD,builtinA,isLeaf,const1,ustrA,simprocAttr,ti3,ti54,ti129,ti131,ti137,cf,Tryz.results149]
  refine ⟨⟨by omega,by omega,by omega⟩,?_⟩
  refine aloop_intro [3,9,10,11] (fun e A'=>∃ (p : Nat) (rl : List (List AV)) (SL : List Nat) (g : Bool),p ≤ ys.length ∧ e = [(3,.own A.length),(9,.slice (vRows ys)),(10,.int .i64 ys.length),(11,.int .i64 p)] ∧ A'.getD A.length .dead = (bif g then .gr none 6 (rl ++ List.replicate (ys.length - p) zsi) else .row 6 (rl ++ List.replicate (ys.length - p) zsi) 0) ∧
    rl.length = p ∧ OwnG A' ((ys.map siOf).take p) rl SL ∧ SL.Nodup ∧ (∀ i ∈ SL,A.length < i) ∧ A.length < A'.length ∧ ∀ k,k < A.length → A'.getD k .dead = A.getD k .dead) (fun e _=>ys.length - (intOf (Abs.look 11 e)).toNat) ?_ ?_
  · simp only [zW,zX,zD,builtinA,isLeaf,const1,ustrA,simprocAttr,ti3,ti54,ti129,ti131,ti137,cf,Tryz.results149,vRows_length]
    refine ⟨0,[],[],false,by omega,rfl,?_,rfl,by simp [OwnG],by simp,by simp,by simp,fun k hk=>Abs.getD_append_left hk⟩
    rfl
  · rintro e A' ⟨p,rl,SL,g,hp,rfl,hb,hrl,hO,hN,hlo,hlt,hfr⟩
    by_cases hp2 : p < ys.length
    · have d2 : decide ((p : Int) < (ys.length : Int)) = true:=by simp; omega
      have he:=vRows_getD hp2
      have hsi : ((ys.map siOf).take p ++ [siOf (ys.getD p vi0)]) = (ys.map siOf).take (p + 1):=by
        rw [List.take_add_one]; simp [List.getD,hp2]
      generalize hyv : ys.getD p vi0 = y at *
      rw [vRow] at he
      simp only [zW,zX,zD,builtinA,isLeaf,const1,ustrA,simprocAttr,ti3,ti54,ti129,ti131,ti137,cf,Tryz.results149,vRows_length,d2,he]
      refine ⟨⟨by omega,by omega⟩,?_⟩
      refine wpO_invoke _ _ _ _ _ _ _ _ _ _ _ _ _ _ _ _ ?_
      simp only [zW,zX,zD,builtinA,isLeaf,const1,ustrA,simprocAttr,ti3,ti54,ti129,ti131,ti137,cf,Tryz.results149]
      refine methI_invK (metI3 (by kernel_rfl) (by kernel_rfl) (by kernel_rfl) (by kernel_rfl) (by kernel_rfl) (by kernel_rfl)) (plI y _) rfl (fun _=>rfl) ?_
      rintro r A3 ⟨cs,rfl,hle,hf3,v,S,rfl,hK,hND,hge,hv⟩
      have hi1 : IntKind.i64.wrap ((p : Int) + 1) = ((p + 1 : Nat) : Int):=by rw [wrap64 (by omega) (by omega)]; rfl
      have hb3 : A3.getD A.length .dead = (bif g then .gr none 6 (rl ++ List.replicate (ys.length - p) zsi) else .row 6 (rl ++ List.replicate (ys.length - p) zsi) 0):=by rw [hf3 _ hlt]; exact hb
      have hz : ∀ v,(rl ++ List.replicate (ys.length - p) zsi).set p (sRow (siOf y) v) = (rl ++ [sRow (siOf y) v]) ++ List.replicate (ys.length - (p + 1)) zsi:=fun v=>by
        rw [show ys.length - p = (ys.length - (p + 1)) + 1 by omega,List.replicate_succ,List.set_append_right _ _ (by omega),hrl,Nat.sub_self]
        simp
      have hlr : (rl ++ List.replicate (ys.length - p) zsi).length = ys.length:=by simp; omega
      have hdz : List.drop 6 ((rl ++ List.replicate (ys.length - p) zsi).getD p []) = []:=by
        rw [Abs.getD_append_right (by omega),hrl,Nat.sub_self,getD_repl (by omega)]; rfl
      have hpr : (0 : Int) ≤ (p : Int) ∧ (p : Int) < ((ys.length : Nat) : Int):=⟨by omega,by omega⟩
      have fin : ∀ (g' : Bool) (v : AV) (Z : Box),OwnK A3 (siOf y).typ.kids v S → Z = (bif g' then Box.gr none 6 ((rl ++ [sRow (siOf y) v]) ++ List.replicate (ys.length - (p + 1)) zsi) else .row 6 ((rl ++ [sRow (siOf y) v]) ++ List.replicate (ys.length - (p + 1)) zsi) 0) → ∃ (p' : Nat) (rl' : List (List AV)) (SL' : List Nat) (g' : Bool),p' ≤ ys.length ∧ [(3,AV.own A.length),(9,.slice (vRows ys)),(10,.int .i64 ys.length),(11,.int .i64 ((p + 1 : Nat) : Int))] = [(3,.own A.length),(9,.slice (vRows ys)),(10,.int .i64 ys.length),(11,.int .i64 p')] ∧ (A3.set A.length Z).getD A.length .dead = (bif g' then .gr none 6 (rl' ++ List.replicate (ys.length - p') zsi) else .row 6 (rl' ++ List.replicate (ys.length - p') zsi) 0) ∧
          rl'.length = p' ∧ OwnG (A3.set A.length Z) ((ys.map siOf).take p') rl' SL' ∧ SL'.Nodup ∧ (∀ i ∈ SL',A.length < i) ∧ A.length < (A3.set A.length Z).length ∧ ∀ k,k < A.length → (A3.set A.length Z).getD k .dead = A.getD k .dead:=fun g' v Z hK hZ=>by
        have hlt3 : A.length < A3.length:=by omega
        have low:=hO.low
        refine ⟨p + 1,rl ++ [sRow (siOf y) v],SL ++ S,g',by omega,rfl,?_,by simp [hrl],?_,?_,?_,by simpa using hlt3,fun k hk=>?_⟩
        · rw [getD_set_self hlt3]; exact hZ
        · rw [← hsi]
          refine (hO.frame fun i hi=>?_).append ?_
          · have h1:=hlo i hi
            have h2:=low i hi
            rw [getD_set_ne' (by omega),hf3 i h2]
          · rw [OwnG]
            refine ⟨v,[],S,[],rfl,by simp,hK.frame fun i hi=>?_,by simp [OwnG]⟩
            have:=hge i hi
            rw [getD_set_ne' (by omega)]
        · refine List.nodup_append.2 ⟨hN,hND,fun x hx y hy=>?_⟩
          have:=low x hx
          have:=hge y hy
          omega
        · intro i hi
          rcases List.mem_append.1 hi with hi | hi
          · exact hlo i hi
          · have:=hge i hi; omega
        · rw [getD_set_ne' (by omega),hf3 k (by omega),hfr k hk]
      have lf : ∀ w ∈ sRow (siOf y) (.slice []),isLeaf w = true:=by simp [sRow,isLeaf]
      have el : ∀ w ∈ sRow (siOf y) (.slice []),isElem w = true:=by simp [sRow,isElem,isLeaf]
      have el2 : ∀ i,∀ w ∈ sRow (siOf y) (.own i),isElem w = true:=by simp [sRow,isElem,isLeaf]
      have mz : ∀ {P : Prop},P → P ∧ ys.length - (intOf (AV.int .i64 ((p + 1 : Nat) : Int))).toNat < ys.length - (intOf (AV.int .i64 (p : Int))).toNat:=fun h=>⟨h,by simp only [intOf]; omega⟩
      rcases hv with rfl | ⟨i,rfl⟩
      · have hK2 : OwnK A3 (siOf y).typ.kids (.slice []) S:=by
          rcases hK with ⟨_,h1,h2⟩ | ⟨h0,_⟩ | ⟨i,_,_,h0,_⟩
          · exact .inr (.inl ⟨rfl,h1,h2⟩)
          · cases h0
          · cases h0
        have fin2:=fun g' Z=>fin g' (.slice []) Z hK2
        have hz2:=hz (.slice [])
        clear fin hz
        simp only [sRow] at hz2 fin2 lf el ⊢
        cases g with
        | false =>
          simp only [cond_false] at hb3
          simp only [zW,zX,zD,builtinA,isLeaf,const1,ustrA,simprocAttr,ti3,ti54,ti129,ti131,ti137,cf,Tryz.results149,hb3,hlr,hz2,hdz,hi1,LoopK_eq]
          exact ⟨hpr,⟨by omega,by omega,fun w hw=>lf w hw⟩,mz (by simpa only [cond_false,cond_true,List.append_assoc,List.cons_append,List.nil_append,List.length_set] using fin2 false _ rfl)⟩
        | true =>
          simp only [cond_true] at hb3
          simp only [zW,zX,zD,builtinA,isLeaf,const1,ustrA,simprocAttr,ti3,ti54,ti129,ti131,ti137,cf,Tryz.results149,hb3,hlr,hz2,hdz,hi1,LoopK_eq]
          exact ⟨hpr,⟨by omega,fun w hw=>el w hw⟩,mz (by simpa only [cond_false,cond_true,List.append_assoc,List.cons_append,List.nil_append,List.length_set] using fin2 true _ rfl)⟩
      · obtain ⟨rws,hg⟩ : ∃ rws,A3.getD i .dead = .gr none 4 rws:=by
          rcases hK with ⟨h0,_⟩ | ⟨h0,_⟩ | ⟨i',rws,_,h0,_,hg,_⟩
          · cases h0
          · cases h0
          · cases h0; exact ⟨rws,hg⟩
        have fin2:=fun g' Z=>fin g' (.own i) Z hK
        have hz2:=hz (.own i)
        clear fin hz
        simp only [sRow] at hz2 fin2 el2 ⊢
        cases g with
        | false =>
          simp only [cond_false] at hb3
          simp only [zW,zX,zD,builtinA,isLeaf,const1,ustrA,simprocAttr,ti3,ti54,ti129,ti131,ti137,cf,Tryz.results149,hb3,hg,hlr,hz2,hdz,hi1,LoopK_eq]
          exact ⟨hpr,⟨by omega,fun w hw=>el2 i w hw⟩,mz (by simpa only [cond_false,cond_true,List.append_assoc,List.cons_append,List.nil_append,List.length_set] using fin2 true _ rfl)⟩
        | true =>
          simp only [cond_true] at hb3
          simp only [zW,zX,zD,builtinA,isLeaf,const1,ustrA,simprocAttr,ti3,ti54,ti129,ti131,ti137,cf,Tryz.results149,hb3,hg,hlr,hz2,hdz,hi1,LoopK_eq]
          exact ⟨hpr,⟨by omega,fun w hw=>el2 i w hw⟩,mz (by simpa only [cond_false,cond_true,List.append_assoc,List.cons_append,List.nil_append,List.length_set] using fin2 true _ rfl)⟩
    · have d2 : decide ((p : Int) < (ys.length : Int)) = false:=by simp; omega
      have e : p = ys.length:=by omega
      subst e
      simp only [zW,zX,zD,builtinA,isLeaf,const1,ustrA,simprocAttr,ti3,ti54,ti129,ti131,ti137,cf,Tryz.results149,d2]
      rw [List.take_of_length_le (by simp)] at hO
      have low:=hO.low
      have hnd : (A.length :: SL).Nodup:=List.nodup_cons.2 ⟨fun h=>by have:=hlo _ h; omega,hN⟩
      have hge : ∀ i ∈ A.length :: SL,A.length ≤ i:=fun i hi=>by
        rcases List.mem_cons.1 hi with rfl | hi
        · exact Nat.le_refl _
        · have:=hlo i hi; omega
      have e0 : rl ++ List.replicate (ys.length - ys.length) zsi = rl:=by simp
      rw [e0] at hb
      cases g with
      | false=>exact .inr ⟨A.length,6,rl,hb,A.length,rfl,by simp; omega,fun k hk=>by rw [getD_set_ne' (by omega)]; exact hfr k hk,rl,SL,getD_set_self hlt,hO.frame fun i hi=>by have:=hlo i hi; rw [getD_set_ne' (by omega)],hnd,hge⟩
      | true=>exact .inl ⟨A.length,rfl,by omega,hfr,rl,SL,hb,hO,hnd,hge⟩
end Go.Proofs.YtijlnkfiadajhaaGreat
/- A signature's answer in memory of its own. -/
set_option linter.unusedVariables false
set_option linter.unusedSimpArgs false
namespace Go.Proofs.YtijlnkfiadajhaaGreat
open Go.Abs
theorem OwnK.free {A : List Box} {ks : List Ty} {v : AV} {S : List Nat} (h : OwnK A ks v S) : ifree v = true ∧ ∀ i ∈ S,ifreeB (A.getD i .dead) = true:=by
  have h2:=OwnT.free (ownT_mk.2 ⟨v,rfl,h⟩ : OwnT A (.mk 0 [] [] ks) _ S)
  simpa [ifrees,ifree] using h2
theorem OwnG.free {A : List Box} : ∀ {xs : List SigI} {rows : List (List AV)} {S : List Nat},OwnG A xs rows S → rows.all ifrees = true ∧ ∀ i ∈ S,ifreeB (A.getD i .dead) = true
  | [],rows,S,h=>by rw [OwnG] at h; rw [h.1,h.2]; exact ⟨rfl,by simp⟩
  | t :: ks,rows,S,h=>by
    rw [OwnG] at h
    obtain ⟨v,rows',S1,S2,rfl,rfl,h3,h4⟩:=h
    have a:=h3.free
    have b:=OwnG.free h4
    refine ⟨by rw [List.all_cons,b.1]; simp [sRow,ifrees,ifree,a.1],fun j hj=>?_⟩
    rcases List.mem_append.1 hj with hj | hj
    · exact a.2 j hj
    · exact b.2 j hj
theorem OwnI.free {A : List Box} {xs : List SigI} {v : AV} {S : List Nat} (h : OwnI A xs v S) : ifree v = true ∧ ∀ i ∈ S,ifreeB (A.getD i .dead) = true:=by
  rcases h with ⟨rfl,_,rfl⟩ | ⟨i,rows,S',rfl,rfl,h3,h4⟩
  · exact ⟨rfl,by simp⟩
  · refine ⟨rfl,fun j hj=>?_⟩
    have h5:=h4.free
    rcases List.mem_cons.1 hj with rfl | hj
    · rw [h3]; exact h5.1
    · exact h5.2 j hj
def SgOut (A : List Box) (xs : List SigI) (ok : Bool) (r : AV) (A' : List Box) : Prop :=
  ∃ v S,r = .tuple [v,.bool ok] ∧ OwnI A' xs v S ∧ S.Nodup ∧ (∀ i ∈ S,A.length ≤ i) ∧ A.length ≤ A'.length ∧ ∀ i,i < A.length → A'.getD i .dead = A.getD i .dead
def SgNew (A : List Box) (xs : List SigI) (ok : Bool) (r : AV) (A' : List Box) : Prop :=
  ∃ B v S,A' = A ++ B ∧ (∀ b ∈ B,ifreeB b = true) ∧ r = .tuple [v,.bool ok] ∧ ifree v = true ∧ OwnI A' xs v S ∧ S.Nodup ∧ ∀ i ∈ S,A.length ≤ i ∧ i < A'.length
theorem sgNew_of {A A' : List Box} {xs : List SigI} {ok : Bool} {r : AV} (h : SgOut A xs ok r A') : ∃ keep,SgNew A xs ok r (only keep A'):=by
  obtain ⟨v,S,rfl,hT,hN,hge,hl,hf⟩:=h
  refine ⟨fun k=>decide (k < A.length) || decide (k ∈ S),?_⟩
  have hfree:=hT.free
  have hlow:=hT.low
  generalize hkp : (fun k=>decide (k < A.length) || decide (k ∈ S)) = keep
  have k1 : ∀ k,k < A.length → keep k = true:=fun k hk=>by rw [← hkp]; simp [hk]
  have k2 : ∀ k,k ∈ S → keep k = true:=fun k hk=>by rw [← hkp]; simp [hk]
  have k3 : ∀ k,A.length ≤ k → keep k = true → k ∈ S:=fun k h1 h2=>by
    rw [← hkp] at h2
    simp at h2
    rcases h2 with h2 | h2
    · omega
    · exact h2
  have e:=split_front (A:=A) (A':=only keep A') (by rw [only_length]; exact hl) (fun k hk=>by rw [only_getD,if_pos (k1 k hk)]; exact hf k hk)
  refine ⟨_,v,S,e,fun b hb=>?_,rfl,hfree.1,hT.frame fun i hi=>by rw [only_getD,if_pos (k2 i hi)],hN,fun i hi=>⟨hge i hi,by rw [only_length]; exact hlow i hi⟩⟩
  obtain ⟨i,hi,rfl⟩:=List.mem_iff_getElem.1 hb
  rw [List.getElem_drop]
  have hi2 : A.length + i < (only keep A').length:=by simp at hi; omega
  have e2 : (only keep A')[A.length + i] = (only keep A').getD (A.length + i) .dead:=by simp [List.getD,hi2]
  rw [e2,only_getD]
  split
  · rename_i hk; exact hfree.2 _ (k3 _ (by omega) hk)
  · rfl
theorem sg_call {f : FuncId} {args : List AV} {xs : List SigI} {ok : Bool} (h : ∀ A,ACalls Tryz.prog f args A (fun r A'=>SgOut A xs ok r A')) (A : List Box) : ACalls Tryz.prog f args A (SgNew A xs ok) :=
  ACalls.only ((h A).mono fun r A' h=>sgNew_of h)
theorem sg_view {f : FuncId} {args args' : List AV} {xs : List SigI} {ok : Bool} (h : ∀ A,ACalls Tryz.prog f args' A (SgNew A xs ok)) {A : List Box} (hv : Views A args args') : ACalls Tryz.prog f args A (SgNew A xs ok):=by
  refine ACalls.borrow hv ((h _).mono ?_)
  rintro r A' ⟨B,v,S,rfl,h1,rfl,h3,h4,h5,h6⟩
  refine ⟨B,rfl,by simp [ifree,ifrees,h3],h1,B,v,S,rfl,h1,rfl,h3,h4.frame fun i hi=>?_,h5,fun i hi=>?_⟩
  · have:=(h6 i hi).1
    rw [deads_length] at this
    rw [Abs.getD_append_right this,Abs.getD_append_right (by rw [deads_length]; exact this),deads_length]
  · have:=h6 i hi
    simp only [List.length_append,deads_length] at this ⊢
    exact this
set_option maxRecDepth 100000 in
theorem impl_plainSig (ys : List VI) (hl : ys.length ≤ 1000) (A : List Box) : ACalls Tryz.prog 77 [.slice (vRows ys)] A (fun r A'=>∃ j,r = .own j ∧ NewG A (ys.map siOf) j A'):=by
  refine acalls_enterK (cf:=cf 5 [0,2]) foll Tryz.func77 Tryz.ntmps77 (by simp [cf]) ?_
  simp only [Tryz.f77,EnterK_some,zW,zX,zD,builtinA,isLeaf,const1,ustrA,simprocAttr,ca149,cf,Tryz.results77]
  refine callO_intro (impl_plainItems ys hl _) ?_
  rintro r A' ⟨j,rfl,h⟩
  simp only [zW,zX,zD,builtinA,isLeaf,const1,ustrA,simprocAttr,ca149,cf,Tryz.results77]
  exact ⟨j,rfl,h⟩
def nrX : Option (List VI) → List SigI
  | some zs=>zs.map siOf
  | none=>[]
theorem itemsX_ok {s : List SigI} (hs : ∀ x ∈ s,x.Ok) {zs : List VI} (h8 : zs.length ≤ 8) (hv : ∀ i,i < zs.length → VOk (meanI (zs.getD i vi0)) ∧ (viK (zs.getD i vi0)).2.length < 2 ^ 63) : (zs.map siOf).length ≤ 8 ∧ (∀ x ∈ zs.map siOf,x.Ok) ∧ totG (zs.map siOf) ≤ 1600:=by
  have key : ∀ x ∈ zs.map siOf,x.Ok ∧ counts x.typ.kids ≤ 64:=fun x hx=>by
    obtain ⟨y,hy,rfl⟩:=List.mem_map.1 hx
    obtain ⟨k,hk,rfl⟩:=List.mem_iff_getElem.1 hy
    have h:=hv k hk
    have e : zs.getD k vi0 = zs[k]:=by simp [List.getD,hk]
    rw [e] at h
    refine ⟨(siOf_ok h.1 h.2).1,?_⟩
    have hc:=h.1.cnt
    generalize zs[k] = y at *
    have hk : ∀ v,counts (toTy v).kids + 1 = cnt v:=fun v=>by
      rw [← count_toTy]; cases toTy v; simp [count,Ty.kids]; omega
    cases y with
    | ab n=>simp [siOf,ty0,Ty.kids,counts]
    | al n v=>have:=hk v; simp only [siOf,meanI] at *; omega
    | va n v=>have:=hk v; simp only [siOf,meanI] at *; omega
  refine ⟨by simpa using h8,fun x hx=>(key x hx).1,?_⟩
  have hb : ∀ l : List SigI,(∀ x ∈ l,counts x.typ.kids ≤ 64) → totG l ≤ 197 * l.length:=by
    intro l
    induction l with
    | nil=>simp [totG]
    | cons x l ih =>
      intro h
      have:=h x (by simp)
      have:=ih fun y hy=>h y (by simp [hy])
      rw [totG,List.length_cons]; omega
  have:=hb _ fun x hx=>(key x hx).2
  simp only [List.length_map] at this
  omega
theorem sg_none (A B : List Box) : SgOut A [] false (.tuple [.nils,.bool false]) (A ++ B):=⟨_,[],rfl,.inl ⟨rfl,rfl,rfl⟩,by simp,by simp,by simp,fun i hi=>Abs.getD_append_left hi⟩
end Go.Proofs.YtijlnkfiadajhaaGreat
/- Bindings as data, and what the laws' helpers do with lists of them. -/
set_option linter.unusedVariables false
set_option linter.unusedSimpArgs false
namespace Go.Proofs.YtijlnkfiadajhaaGreat
open Go.Abs
structure BdI where
  mod : List UInt8
  name : List UInt8
  typ : Ty
def BdI.Ok (x : BdI) : Prop:=x.mod.length < 2 ^ 63 ∧ x.name.length < 2 ^ 63 ∧ x.typ.Ok
def zbd : List AV:=[.str [],.str [],.int .i64 0,.str [],.str [],.slice []]
end Go.Proofs.YtijlnkfiadajhaaGreat
/- The program's SubstType: what it hands back is memory of its own. -/
set_option linter.unusedVariables false
set_option linter.unusedSimpArgs false
namespace Go.Proofs.YtijlnkfiadajhaaGreat
open Go.Abs
abbrev BNm:=List UInt8 × List UInt8
def bkE (p : BNm) : List AV:=[.str p.1,.str p.2]
def lookB (p : BNm) : List (BNm × VT) → Option VT
  | []=>none
  | (q,v) :: m=>if p = q then some v else lookB p m
def subV (m : List (BNm × VT)) : VT → VT
  | .num=>.num
  | .nm a b=>(lookB (a,b) m).getD (.nm a b)
  | .fn a b=>.fn (subV m a) (subV m b)
def esB (m : List (BNm × VT)) : List (AV × AV):=m.map fun q=>(.agg (bkE q.1),.iface (vT q.2) (vX q.2))
abbrev KB : List (Nat × TK):=[(0,.str),(1,.str)]
theorem bkE_eq (x y : BNm) : eqK KB (bkE x) (bkE y) = some (decide (x = y)):=by
  have : decide (x = y) = (decide (x.1 = y.1) && (decide (x.2 = y.2) && true)):=by
    rw [Bool.eq_iff_iff]
    simp [Prod.ext_iff]
  rw [this]
  simp [KB,eqK,bkE,c1A]
  try congr 1
theorem find_b (q : BNm) : ∀ (m : List (BNm × VT)) (n : Nat),(findA KB (bkE q) (esB m) n = some none ∧ lookB q m = none) ∨ ∃ j v,findA KB (bkE q) (esB m) n = some (some (j,.iface (vT v) (vX v))) ∧ lookB q m = some v
  | [],n=>.inl ⟨rfl,rfl⟩
  | (p,v) :: m,n=>by
    simp only [esB,List.map_cons,findA]
    rw [if_pos (show (bkE p).length = (bkE q).length from rfl),bkE_eq]
    by_cases h : q = p
    · subst h
      simp only [decide_true,lookB,if_true]
      exact .inr ⟨_,_,rfl,rfl⟩
    · simp only [decide_eq_false h,lookB,if_neg h]
      exact find_b q m (n + 1)
theorem esB_app (m : List (BNm × VT)) (p : BNm) (v : VT) : esB m ++ [(.agg [.str p.1,.str p.2],.iface (vT v) (vX v))] = esB (m ++ [(p,v)]):=by simp [esB,bkE]
def SubM (m : List (BNm × VT)) (v : VT) : Prop:=∀ A i,i < A.length → A.getD i .dead = .mapb (esB m) → ACalls Tryz.prog ((pickF 461 486 393) v) [vX v,.map i] A (fun r A'=>r = .iface (vT (subV m v)) (vX (subV m v)) ∧ A' = A)
theorem num_sub (m : List (BNm × VT)) : SubM m .num:=fun A i hi hA=>by
  show ACalls Tryz.prog 461 _ _ _
  rw [vX]
  refine acalls_enter (cf:=cf 7 [0,4]) foll Tryz.func461 Tryz.ntmps461 (by simp [cf]) ?_
  simp only [Tryz.f461,EnterK_some,zW,zX,zD,builtinA,isLeaf,const1,ustrA,simprocAttr,ti455,cf,Tryz.results461]
  try rfl
set_option maxRecDepth 100000 in
theorem name_sub (m : List (BNm × VT)) (a b : List UInt8) : SubM m (.nm a b):=fun A i hi hA=>by
  show ACalls Tryz.prog 393 _ _ _
  rw [vX]
  have g1 : ∀ B : List Box,(A ++ B).getD i .dead = .mapb (esB m):=fun B=>by rw [Abs.getD_append_left hi]; exact hA
  rcases find_b (a,b) m 0 with ⟨h1,h2⟩ | ⟨j,v,h1,h2⟩
  · simp only [bkE] at h1
    rw [subV,h2]
    refine acalls_enter (cf:=cf 17 [0,1,2,4,5,6,13]) foll Tryz.func393 Tryz.ntmps393 (by simp [cf]) ?_
    simp only [Tryz.f393,EnterK_some,zW,zX,zD,builtinA,isLeaf,const1,ustrA,simprocAttr,ti282,ti447,mi447,cf,Tryz.results393]
    simp only [zW,zX,zD,builtinA,isLeaf,const1,ustrA,simprocAttr,ti282,ti447,mi447,cf,Tryz.results393,g1,h1]
    rfl
  · simp only [bkE] at h1
    rw [subV,h2]
    refine acalls_enter (cf:=cf 17 [0,1,2,4,5,6,13]) foll Tryz.func393 Tryz.ntmps393 (by simp [cf]) ?_
    simp only [Tryz.f393,EnterK_some,zW,zX,zD,builtinA,isLeaf,const1,ustrA,simprocAttr,ti282,ti447,mi447,cf,Tryz.results393]
    simp only [zW,zX,zD,builtinA,isLeaf,const1,ustrA,simprocAttr,ti282,ti447,mi447,cf,Tryz.results393,g1,h1]
set_option maxRecDepth 100000 in
theorem fun_sub (m : List (BNm × VT)) (a b : VT) (ha : SubM m a) (hb : SubM m b) : SubM m (.fn a b):=fun A i hi hA=>by
  show ACalls Tryz.prog 486 _ _ _
  rw [vX]
  have g1 : ∀ B : List Box,(A ++ B).getD i .dead = .mapb (esB m):=fun B=>by rw [Abs.getD_append_left hi]; exact hA
  refine acalls_enter (cf:=cf 15 [0,1,2,4]) foll Tryz.func486 Tryz.ntmps486 (by simp [cf]) ?_
  simp only [Tryz.f486,EnterK_some,zW,zX,zD,builtinA,isLeaf,const1,ustrA,simprocAttr,ti262,ti490,cf,Tryz.results486]
  refine .inl ⟨by kernel_rfl,by kernel_rfl,?_⟩
  refine wpD_invoke _ _ _ _ _ _ _ _ _ _ _ _ _ _ _ _ ?_
  simp only [zW,zX,zD,builtinA,isLeaf,const1,ustrA,simprocAttr,ti262,ti490,cf,Tryz.results486]
  refine meth_invD (met3 (by kernel_rfl) (by kernel_rfl) (by kernel_rfl) (by kernel_rfl) (by kernel_rfl) (by kernel_rfl)) (ha _ i (by simp; omega) (g1 _)) rfl (fun _=>rfl) ?_
  simp only [zW,zX,zD,builtinA,isLeaf,const1,ustrA,simprocAttr,ti262,ti490,cf,Tryz.results486]
  refine wpD_invoke _ _ _ _ _ _ _ _ _ _ _ _ _ _ _ _ ?_
  simp only [zW,zX,zD,builtinA,isLeaf,const1,ustrA,simprocAttr,ti262,ti490,cf,Tryz.results486]
  refine meth_invD (met3 (by kernel_rfl) (by kernel_rfl) (by kernel_rfl) (by kernel_rfl) (by kernel_rfl) (by kernel_rfl)) (hb _ i (by simp; omega) (g1 _)) rfl (fun _=>rfl) ?_
  simp only [zW,zX,zD,builtinA,isLeaf,const1,ustrA,simprocAttr,ti262,ti490,cf,Tryz.results486]
  try rfl
theorem subM (m : List (BNm × VT)) : ∀ v,SubM m v
  | .num=>num_sub m
  | .nm a b=>name_sub m a b
  | .fn a b=>fun_sub m a b (subM m a) (subM m b)
end Go.Proofs.YtijlnkfiadajhaaGreat
namespace Go.Proofs.YtijlnkfiadajhaaGreat
open Go.Abs
end Go.Proofs.YtijlnkfiadajhaaGreat
namespace Go.Proofs.YtijlnkfiadajhaaGreat
open Go.Abs
theorem lookB_in {p : BNm} {w : VT} : ∀ {m : List (BNm × VT)},lookB p m = some w → (p,w) ∈ m
  | [],h=>by simp [lookB] at h
  | (q,v) :: m,h=>by
    rw [lookB] at h
    by_cases e : p = q
    · rw [if_pos e] at h; cases h; subst e; simp
    · rw [if_neg e] at h; exact List.mem_cons_of_mem _ (lookB_in h)
end Go.Proofs.YtijlnkfiadajhaaGreat
/- The model's SubstType answers as the program's. -/
set_option linter.unusedVariables false
set_option linter.unusedSimpArgs false
namespace Go.Proofs.YtijlnkfiadajhaaGreat
open Go.Abs
end Go.Proofs.YtijlnkfiadajhaaGreat
namespace Go.Proofs.YtijlnkfiadajhaaGreat
open Go.Abs
theorem toTy_injS : ∀ {v v' : VT},toTy v = toTy v' → v = v'
  | .num,.num,_=>rfl
  | .num,.nm _ _,h=>by simp [toTy] at h
  | .num,.fn _ _,h=>by simp [toTy] at h
  | .nm _ _,.num,h=>by simp [toTy] at h
  | .nm _ _,.fn _ _,h=>by simp [toTy] at h
  | .fn _ _,.num,h=>by simp [toTy] at h
  | .fn _ _,.nm _ _,h=>by simp [toTy] at h
  | .nm m n,.nm m' n',h=>by simp [toTy] at h; rw [h.1,h.2]
  | .fn a b,.fn a' b',h=>by
    simp [toTy] at h
    rw [toTy_injS h.1,toTy_injS h.2]
end Go.Proofs.YtijlnkfiadajhaaGreat
/- What a name of a signature stands for is one thing only. -/
set_option linter.unusedVariables false
set_option linter.unusedSimpArgs false
namespace Go.Proofs.YtijlnkfiadajhaaGreat
open Go.Abs
theorem itemOf_one {x : SigI} {y y' : VI} (h : ItemOf x y) (h' : ItemOf x y') : y = y':=by
  cases y <;> cases y' <;> simp only [ItemOf] at h h'
  all_goals first
    | (exfalso; have:=h.2.1; have:=h'.2.1; omega)
    | (rw [← h.1,← h'.1,toTy_injS (h.2.2.1.symm.trans h'.2.2.1)]; done)
    | (rw [← h.1,← h'.1]; done)
theorem vi_ext {ys zs : List VI} (hl : ys.length = zs.length) (h : ∀ i,i < ys.length → ys.getD i vi0 = zs.getD i vi0) : ys = zs:=by
  refine List.ext_getElem hl fun i h1 h2=>?_
  have:=h i h1
  simpa [List.getD,h1,h2] using this
theorem readsTo_one {s : List SigI} {ys zs : List VI} (h : ReadsTo s ys) (h' : ReadsTo s zs) : ys = zs :=
  vi_ext (h.1.trans h'.1.symm) fun i hi=>itemOf_one (h.2 i (h.1 ▸ hi)).2 (h'.2 i (h.1 ▸ hi)).2
end Go.Proofs.YtijlnkfiadajhaaGreat
/- The model's NormalSig. -/
set_option linter.unusedVariables false
set_option linter.unusedSimpArgs false
namespace Go.Proofs.YtijlnkfiadajhaaGreat
open Go.Abs
def sgR (s : List SigI) : AV:=.tuple [.slice (sEs s),.bool true]
def sgN : AV:=.tuple [.slice [],.bool false]
set_option maxRecDepth 100000 in
theorem spec_l2Made (s : List SigI) (hs : s.length ≤ 1048576) (ho : ∀ x ∈ s,x.Ok ∧ sz x.typ ≤ 1048576) (A : List Box) : ACalls Tryz.prog 71 [.slice (sEs s)] A (fun r A'=>r = (if sigB s = true then sgR s else sgN) ∧ A' = A):=by
  refine acalls_enter (cf:=cf 9 [0,2,3,6]) foll Tryz.func71 Tryz.ntmps71 (by simp [cf]) ?_
  simp only [Tryz.f71,EnterK_some,zW,zX,zD,builtinA,isLeaf,const1,ustrA,simprocAttr,ti54,ti129,ca70,cf,Tryz.results71]
  refine callK_intro (by simp only [zW,zX,zD,builtinA,isLeaf,const1,ustrA,simprocAttr,Option.map_some]; rfl) (spec_SigValid s hs ho _) ?_ rfl; rintro v A' ⟨rfl,rfl⟩
  cases hb : sigB s with
  | true =>
    simp only [zW,zX,zD,builtinA,isLeaf,const1,ustrA,simprocAttr,ti54,ti129,ca70,cf,Tryz.results71]
    rfl
  | false =>
    simp only [zW,zX,zD,builtinA,isLeaf,const1,ustrA,simprocAttr,ti54,ti129,ca70,cf,Tryz.results71]
    rfl
def nrR : Option (List VI) → AV
  | some zs=>sgR (zs.map siOf)
  | none=>sgN
end Go.Proofs.YtijlnkfiadajhaaGreat
/- Renamed signatures as data. -/
set_option linter.unusedVariables false
set_option linter.unusedSimpArgs false
namespace Go.Proofs.YtijlnkfiadajhaaGreat
open Go.Abs
def mapT (φ : List UInt8 × List UInt8 → VT) : VT → VT
  | .num=>.num
  | .nm m n=>φ (m,n)
  | .fn a b=>.fn (mapT φ a) (mapT φ b)
def renM (f t m : List UInt8) : List UInt8:=if m = f then t else m
def renP (f t : List UInt8) (p : List UInt8 × List UInt8) : VT:=.nm (renM f t p.1) p.2
def renV (f t : List UInt8) : VT → VT:=mapT (renP f t)
def renI (f t : List UInt8) : VI → VI
  | .ab n=>.ab n
  | .al n v=>.al n (renV f t v)
  | .va n v=>.va n (renV f t v)
theorem renV_dep (f t : List UInt8) : ∀ v,dep (renV f t v) = dep v ∧ cnt (renV f t v) = cnt v
  | .num=>⟨rfl,rfl⟩
  | .nm _ _=>⟨rfl,rfl⟩
  | .fn a b=>by
    have h1:=renV_dep f t a
    have h2:=renV_dep f t b
    simp only [renV,mapT,dep,cnt] at h1 h2 ⊢
    omega
theorem renM_nil {f t m : List UInt8} (hf : f ≠ []) (ht : t ≠ []) : (renM f t m = []) ↔ m = []:=by
  unfold renM
  by_cases h : m = f
  · rw [if_pos h]; subst h; simp [hf,ht]
  · rw [if_neg h]
theorem renV_ok {f t : List UInt8} (ht : moduleB t = true) : ∀ v,okV v = true → okV (renV f t v) = true
  | .num,h=>rfl
  | .nm m n,h=>by
    simp only [renV,mapT,renP,okV,nmB,Bool.and_eq_true,Bool.or_eq_true,decide_eq_true_eq] at h ⊢
    refine ⟨?_,h.2⟩
    unfold renM
    by_cases e : m = f
    · rw [if_pos e]; exact .inr ht
    · rw [if_neg e]; exact h.1
  | .fn a b,h=>by
    simp only [okV,Bool.and_eq_true] at h
    have h1:=renV_ok (f:=f) ht a h.1
    have h2:=renV_ok (f:=f) ht b h.2
    simp only [renV,mapT,okV,Bool.and_eq_true] at h1 h2 ⊢
    exact ⟨h1,h2⟩
theorem renV_vok {f t : List UInt8} (ht : moduleB t = true) {v : VT} (h : VOk v) : VOk (renV f t v):=by
  have h1:=renV_dep f t v
  exact ⟨renV_ok ht v h.ok,by rw [h1.1]; exact h.dep,by rw [h1.2]; exact h.cnt⟩
theorem viK_ren (f t : List UInt8) (y : VI) : viK (renI f t y) = viK y:=by cases y <;> rfl
theorem allV_ren {f t : List UInt8} (hf : f ≠ []) (ht : t ≠ []) (ks : List Ky) : ∀ v,allV (okN ks) (renV f t v) = allV (okN ks) v
  | .num=>rfl
  | .nm m n=>by
    have h:=renM_nil (m:=m) hf ht
    simp only [renV,mapT,renP,allV,okN]
    by_cases e : m = []
    · rw [decide_eq_true e,decide_eq_true (h.2 e)]
    · rw [decide_eq_false e,decide_eq_false (fun q=>e (h.1 q))]
  | .fn a b=>by
    have h1:=allV_ren hf ht ks a
    have h2:=allV_ren hf ht ks b
    simp only [renV,mapT,allV] at h1 h2 ⊢
    rw [h1,h2]
theorem moduleB_neR {m : List UInt8} (h : moduleB m = true) : m ≠ []:=by
  rintro rfl; revert h; decide
def RdR (s : List SigI) (f t : List UInt8) : Option (List VI) → Prop
  | some zs=>∃ ys,s.length ≤ 8 ∧ ReadsTo s ys ∧ ordB ys = true ∧ (moduleB f = true ∧ moduleB t = true) ∧ zs = ys.map (renI f t)
  | none=>sigB s = false ∨ moduleB f = false ∨ moduleB t = false
theorem renI_getD (f t : List UInt8) {ys : List VI} {i : Nat} (h : i < ys.length) : (ys.map (renI f t)).getD i vi0 = renI f t (ys.getD i vi0):=by
  simp [List.getD,h]
theorem renI_keys (f t : List UInt8) (ys : List VI) (i : Nat) : ((ys.map (renI f t)).take i).map viK = (ys.take i).map viK:=by
  rw [← List.map_take,List.map_map]
  congr 1
  funext y
  exact viK_ren f t y
theorem ordB_ren {f t : List UInt8} {ys : List VI} (hf : moduleB f = true) (ht : moduleB t = true) (ho : ordB ys = true) : ordB (ys.map (renI f t)) = true:=by
  have ho':=ho
  unfold ordB at ho' ⊢
  rw [List.all_eq_true] at ho' ⊢
  intro i hi
  rw [List.mem_range,List.length_map] at hi
  have hs:=ho' i (List.mem_range.mpr hi)
  rw [renI_getD f t hi]
  simp only [stepB,Bool.and_eq_true,viK_ren,renI_keys] at hs ⊢
  refine ⟨?_,hs.2⟩
  have ha:=allV_ren (moduleB_neR hf) (moduleB_neR ht) ((ys.take i).map viK)
  cases hy : ys.getD i vi0 with
  | ab n=>rfl
  | al n v=>rw [hy] at hs; simp only [renI,allI] at hs ⊢; rw [ha]; exact hs.1
  | va n v=>rw [hy] at hs; simp only [renI,allI] at hs ⊢; rw [ha]; exact hs.1
theorem ren_ok {s : List SigI} {ys : List VI} {f t : List UInt8} (ht : moduleB t = true) (hr : ReadsTo s ys) {i : Nat} (hi : i < ys.length) : VOk (meanI (renI f t (ys.getD i vi0))):=by
  have h1:=hr.2 i (by rw [← hr.1]; exact hi)
  have h2:=mean_ok h1.1 h1.2
  cases hy : ys.getD i vi0 with
  | ab n=>rw [hy] at h2; exact h2
  | al n v=>rw [hy] at h2; exact renV_vok ht h2
  | va n v=>rw [hy] at h2; exact renV_vok ht h2
theorem rdR_ex (s : List SigI) (f t : List UInt8) : ∃ o,RdR s f t o:=by
  cases hb : sigB s with
  | false=>exact ⟨none,.inl hb⟩
  | true =>
    cases hf : moduleB f with
    | false=>exact ⟨none,.inr (.inl hf)⟩
    | true =>
      cases ht : moduleB t with
      | false=>exact ⟨none,.inr (.inr ht)⟩
      | true =>
        obtain ⟨ys,h8,hr,hord⟩:=sigB_yes hb
        exact ⟨some _,ys,h8,hr,hord,⟨hf,ht⟩,rfl⟩
theorem rdR_eq {s : List SigI} {f t : List UInt8} {o o' : Option (List VI)} (h : RdR s f t o) (h' : RdR s f t o') : o = o':=by
  have key : ∀ {zs},RdR s f t (some zs) → ¬ RdR s f t none:=by
    rintro zs ⟨ys,h8,hr,ho,⟨hf,ht⟩,_⟩ (h | h | h)
    · rw [sigB_reads h8 hr,ho] at h; cases h
    · rw [hf] at h; cases h
    · rw [ht] at h; cases h
  cases o with
  | none =>
    cases o' with
    | none=>rfl
    | some zs=>exact absurd h (key h')
  | some zs =>
    cases o' with
    | none=>exact absurd h' (key h)
    | some zs' =>
      obtain ⟨ys,_,hr,_,_,rfl⟩:=h
      obtain ⟨ys',_,hr',_,_,rfl⟩:=h'
      rw [readsTo_one hr hr']
theorem renX_ok {s : List SigI} {f t : List UInt8} (hs : ∀ x ∈ s,x.Ok) {o : Option (List VI)} (h : RdR s f t o) : (nrX o).length ≤ 8 ∧ (∀ x ∈ nrX o,x.Ok) ∧ totG (nrX o) ≤ 1600:=by
  cases o with
  | none=>exact ⟨by simp [nrX],by simp [nrX],by simp [nrX,totG]⟩
  | some zs =>
    obtain ⟨ys,h8,hr,hord,hm,rfl⟩:=h
    refine itemsX_ok hs (by simp [hr.1]; exact h8) fun i hi=>?_
    rw [List.length_map] at hi
    rw [renI_getD f t hi]
    refine ⟨ren_ok hm.2 hr hi,?_⟩
    have h1:=hr.2 i (by rw [← hr.1]; exact hi)
    rw [viK_ren,← siOf_name,← itemOf_si h1.2]
    exact (hs _ (si_mem (by rw [← hr.1]; exact hi))).1
end Go.Proofs.YtijlnkfiadajhaaGreat
/- The program's walk over the names of a type, for any visit. -/
set_option linter.unusedVariables false
set_option linter.unusedSimpArgs false
namespace Go.Proofs.YtijlnkfiadajhaaGreat
open Go.Abs
section
variable {σ : Type}
def foldV (f : Nm → σ → σ) : VT → σ → σ
  | .num,s=>s
  | .nm m k,s=>f (m,k) s
  | .fn a b,s=>foldV f b (foldV f a s)
structure Vis (sz : σ → Nat) (I : σ → List Box → Prop) (F : List Box → List Box → Prop) (f : Nm → σ → σ) (g : FuncId) (cap : List AV) : Prop where
  call : callable Tryz.prog g = true
  vis : ∀ (p : Nm) (s : σ) (A : List Box),nmB p.1 p.2 = true → sz s ≤ 1000 → I s A → ACalls Tryz.prog g (.agg [.str p.1,.str p.2] :: cap) A (fun _ A'=>I (f p s) A' ∧ F A A')
  app : ∀ (s : σ) (A B : List Box),I s A → I s (A ++ B) ∧ F A (A ++ B)
  grow : ∀ p s,sz (f p s) ≤ sz s + 1
  trans : ∀ A B C : List Box,F A B → F B C → F A C
  box : ∀ (s : σ) (A A' : List Box) (c : Box),I s A → F (A ++ [c]) A' → A'.getD A.length .dead = c
theorem foldV_sz {sz : σ → Nat} {I : σ → List Box → Prop} {F : List Box → List Box → Prop} {f : Nm → σ → σ} {g : FuncId} {cap : List AV} (hv : Vis sz I F f g cap) : ∀ (v : VT) (s : σ),sz (foldV f v s) ≤ sz s + cnt v
  | .num,s=>by simp [foldV]
  | .nm m k,s=>by simp only [foldV,cnt]; exact hv.grow _ _
  | .fn a b,s=>by have h1:=foldV_sz hv a s; have h2:=foldV_sz hv b (foldV f a s); simp only [foldV,cnt]; omega
def EachG (sz : σ → Nat) (I : σ → List Box → Prop) (F : List Box → List Box → Prop) (f : Nm → σ → σ) (g : FuncId) (cap : List AV) (v : VT) : Prop :=
  ∀ (s : σ) (A : List Box),okV v = true → sz s + cnt v ≤ 1000 → I s A → ACalls Tryz.prog ((pickF 458 483 390) v) [vX v,.func (.func g) [] cap] A (fun _ A'=>I (foldV f v s) A' ∧ F A A')
set_option maxRecDepth 100000 in
theorem numG {sz : σ → Nat} {I : σ → List Box → Prop} {F : List Box → List Box → Prop} {f : Nm → σ → σ} {g : FuncId} {cap : List AV} (hv : Vis sz I F f g cap) : EachG sz I F f g cap .num:=fun s A ho hz h=>by
  show ACalls Tryz.prog 458 _ _ _
  rw [vX]
  refine acalls_enterK (cf:=cf 4 [0]) foll Tryz.func458 Tryz.ntmps458 (by simp [cf]) ?_
  simp only [Tryz.f458,EnterK_some,zW,zX,zD,builtinA,isLeaf,const1,ustrA,simprocAttr,ti455,cf,Tryz.results458]
  exact hv.app _ _ _ h
set_option maxRecDepth 100000 in
theorem nameG {sz : σ → Nat} {I : σ → List Box → Prop} {F : List Box → List Box → Prop} {f : Nm → σ → σ} {g : FuncId} {cap : List AV} (hv : Vis sz I F f g cap) (m k : List UInt8) : EachG sz I F f g cap (.nm m k):=fun s A ho hz h=>by
  show ACalls Tryz.prog 390 _ _ _
  rw [vX]
  have hc:=hv.call
  obtain ⟨h1,f1⟩:=hv.app _ _ [.cells [.str m,.str k]] h
  simp only [cnt] at hz
  have hvv:=hv.vis (m,k) s _ ho (by omega) h1
  refine acalls_enterK (cf:=cf 7 [0,1,2]) foll Tryz.func390 Tryz.ntmps390 (by simp [cf]) ?_
  simp only [Tryz.f390,EnterK_some,zW,zX,zD,builtinA,isLeaf,const1,ustrA,simprocAttr,ti282,cf,Tryz.results390]
  refine wpO_callv _ _ _ _ _ _ _ _ _ _ _ _ _ _ _ ?_
  simp only [zW,zX,zD,builtinA,isLeaf,const1,ustrA,simprocAttr,ti282,cf,Tryz.results390]
  refine ⟨hc,callO_intro (by simpa using hvv) ?_⟩
  rintro r A' ⟨h2,f2⟩
  simp only [zW,zX,zD,builtinA,isLeaf,const1,ustrA,simprocAttr,ti282,cf,Tryz.results390]
  exact ⟨h2,hv.trans _ _ _ f1 f2⟩
set_option maxRecDepth 100000 in
theorem funG {sz : σ → Nat} {I : σ → List Box → Prop} {F : List Box → List Box → Prop} {f : Nm → σ → σ} {g : FuncId} {cap : List AV} (hv : Vis sz I F f g cap) (a b : VT) (ha : EachG sz I F f g cap a) (hb : EachG sz I F f g cap b) : EachG sz I F f g cap (.fn a b):=fun s A ho hz h=>by
  show ACalls Tryz.prog 483 _ _ _
  rw [vX]
  simp only [okV,Bool.and_eq_true] at ho
  simp only [cnt] at hz
  obtain ⟨h1,f1⟩:=hv.app _ _ [.cells [.iface (vT a) (vX a),.iface (vT b) (vX b)]] h
  refine acalls_enterK (cf:=cf 12 [0,1,2]) foll Tryz.func483 Tryz.ntmps483 (by simp [cf]) ?_
  simp only [Tryz.f483,EnterK_some,zW,zX,zD,builtinA,isLeaf,const1,ustrA,simprocAttr,ti262,ti490,cf,Tryz.results483]
  refine wpO_invoke _ _ _ _ _ _ _ _ _ _ _ _ _ _ _ _ ?_
  simp only [zW,zX,zD,builtinA,isLeaf,const1,ustrA,simprocAttr,ti262,ti490,cf,Tryz.results483]
  refine meth_invK (met3 (by kernel_rfl) (by kernel_rfl) (by kernel_rfl) (by kernel_rfl) (by kernel_rfl) (by kernel_rfl)) (ha s _ ho.1 (by omega) h1) rfl (fun _=>rfl) ?_
  rintro r A1 ⟨h2,f2⟩
  have b1:=hv.box _ _ _ _ h f2
  simp only [zW,zX,zD,builtinA,isLeaf,const1,ustrA,simprocAttr,ti262,ti490,cf,Tryz.results483,b1]
  refine wpO_invoke _ _ _ _ _ _ _ _ _ _ _ _ _ _ _ _ ?_
  simp only [zW,zX,zD,builtinA,isLeaf,const1,ustrA,simprocAttr,ti262,ti490,cf,Tryz.results483]
  refine meth_invK (met3 (by kernel_rfl) (by kernel_rfl) (by kernel_rfl) (by kernel_rfl) (by kernel_rfl) (by kernel_rfl)) (hb _ _ ho.2 (by have:=foldV_sz hv a s; omega) h2) rfl (fun _=>rfl) ?_
  rintro r A2 ⟨h3,f3⟩
  simp only [zW,zX,zD,builtinA,isLeaf,const1,ustrA,simprocAttr,ti262,ti490,cf,Tryz.results483]
  exact ⟨h3,hv.trans _ _ _ f1 (hv.trans _ _ _ f2 f3)⟩
theorem eachG {sz : σ → Nat} {I : σ → List Box → Prop} {F : List Box → List Box → Prop} {f : Nm → σ → σ} {g : FuncId} {cap : List AV} (hv : Vis sz I F f g cap) : ∀ v,EachG sz I F f g cap v
  | .num=>numG hv
  | .nm m k=>nameG hv m k
  | .fn a b=>funG hv a b (eachG hv a) (eachG hv b)
end
end Go.Proofs.YtijlnkfiadajhaaGreat
/- Renamed signatures, by the program and by the model. -/
set_option linter.unusedVariables false
set_option linter.unusedSimpArgs false
namespace Go.Proofs.YtijlnkfiadajhaaGreat
open Go.Abs
mutual
def swT (f t : List UInt8) : Ty → Ty
  | .mk k m n ks=>.mk k (renM f t m) n (swTs f t ks)
def swTs (f t : List UInt8) : List Ty → List Ty
  | []=>[]
  | x :: l=>swT f t x :: swTs f t l
end
theorem swTs_map (f t : List UInt8) : ∀ l,swTs f t l = l.map (swT f t)
  | []=>rfl
  | x :: l=>by rw [swTs,swTs_map f t l]; rfl
theorem swT_toTy {f t : List UInt8} (hf : f ≠ []) : ∀ v,swT f t (toTy v) = toTy (renV f t v)
  | .num=>by simp [toTy,swT,swTs,renV,mapT,renM,Ne.symm hf]
  | .nm m n=>by simp [toTy,swT,swTs,renV,mapT,renP]
  | .fn a b=>by
    have h1:=swT_toTy (t:=t) hf a
    have h2:=swT_toTy (t:=t) hf b
    simp only [renV] at h1 h2
    simp [toTy,swT,swTs,renV,mapT,renM,Ne.symm hf,h1,h2]
def swI (f t : List UInt8) (x : SigI) : SigI:=⟨x.kind,x.name,swT f t x.typ⟩
theorem swI_si {f t : List UInt8} (hf : f ≠ []) (y : VI) : swI f t (siOf y) = siOf (renI f t y):=by
  cases y with
  | ab n=>simp [swI,siOf,renI,ty0,swT,swTs,renM,Ne.symm hf]
  | al n v=>simp [swI,siOf,renI,swT_toTy hf]
  | va n v=>simp [swI,siOf,renI,swT_toTy hf]
set_option maxRecDepth 100000 in
set_option maxHeartbeats 1000000 in
theorem spec_l2Swap (f t : List UInt8) (τ : Ty) (hτ : sz τ ≤ 1048576) : ∀ (A : List Box),ACalls Tryz.prog 145 [.agg (enc τ),.str f,.str t] A (fun r A'=>r = .agg (enc (swT f t τ)) ∧ A' = A):=by
  induction τ using Ty.ind with
  | h k m n ks ih =>
    intro A
    have hks : ks.length ≤ 1048576:=by rw [sz] at hτ; omega
    have hok : ∀ t ∈ ks,sz t ≤ 1048576:=fun t ht=>by rw [sz] at hτ; have:=szs_mem ht; omega
    have hstep : ∀ {i : Nat},i < ks.length → encs (swTs f t (ks.take i)) ++ [enc (swT f t (ks.getD i ty0))] = encs (swTs f t (ks.take (i + 1))):=fun {i} hi2=>by
      rw [encs_map,encs_map,swTs_map,swTs_map,List.take_add_one,List.map_append,List.map_append]
      simp [List.getD,hi2]
    have htl : ∀ i,(encs (swTs f t (ks.take i))).length = (ks.take i).length:=fun i=>by rw [encs_length,swTs_map,List.length_map]
    rw [swT,enc,enc]
    obtain ⟨m',hm'⟩ : ∃ m',m' = renM f t m:=⟨_,rfl⟩
    rw [← hm']
    have hmm : (m = f ∧ m' = t) ∨ (m ≠ f ∧ m' = m):=by
      by_cases h : m = f
      · left; exact ⟨h,by rw [hm',renM,if_pos h]⟩
      · right; exact ⟨h,by rw [hm',renM,if_neg h]⟩
    clear hm'
    rcases hmm with ⟨hmf,hm'⟩ | ⟨hmf,hm'⟩
    all_goals
      refine acalls_enter (cf:=cf 43 [0,1,2,3,6,7,8,19,26]) foll Tryz.func145 Tryz.ntmps145 (by simp [cf]) ?_
      simp only [Tryz.f145,EnterK_some,zW,zX,zD,builtinA,isLeaf,const1,ustrA,simprocAttr,ti3,ti9,ti34,ti36,ca145,cf,Tryz.results145]
      first
        | simp only [zW,zX,zD,builtinA,isLeaf,const1,ustrA,simprocAttr,ti3,ti9,ti34,ti36,ca145,cf,Tryz.results145,decide_eq_true hmf]
        | simp only [zW,zX,zD,builtinA,isLeaf,const1,ustrA,simprocAttr,ti3,ti9,ti34,ti36,ca145,cf,Tryz.results145,decide_eq_false hmf]
    all_goals
      refine aloop_intro [1,2,3,6,7,8] (fun e A'=>∃ i B x,i ≤ ks.length ∧ e = [(1,.str f),(2,.str t),(3,.ptr A.length 0),(6,.ptr (A.length + 1) 0),(7,.ptr (A.length + 2) 0),(8,.int .i64 i)] ∧ A' = A ++ (.cells [.int .i64 k,.str m,.str n,.slice (encs ks)] :: .cells [.int .i64 0,.str [],.str [],.nils] :: .cells [.int .i64 k,.str m',.str n,x] :: B) ∧
        ((i = 0 ∧ x = .nils ∧ B = []) ∨ (∃ j,x = .own (A.length + (j + 3)) ∧ j < B.length ∧ B.getD j .dead = .row 4 (encs (swTs f t (ks.take i))) 0))) (fun e _=>ks.length - (intOf (Abs.look 8 e)).toNat) ?_ ?_
      · simp only [zW,zX,zD,builtinA,isLeaf,const1,ustrA,simprocAttr,ti3,ti9,ti34,ti36,ca145,cf,Tryz.results145]
        refine ⟨0,[],.nils,by omega,rfl,?_,.inl ⟨rfl,rfl,rfl⟩⟩
        rw [hm']
      · rintro e A' ⟨i,B,x,hi,rfl,rfl,hx⟩
        simp only [zW,zX,zD,builtinA,isLeaf,const1,ustrA,simprocAttr,ti3,ti9,ti34,ti36,ca145,cf,Tryz.results145,encs_length]
        refine condK_intro (fun h2=>?_) (fun h2=>?_)
        · have hi2 : i < ks.length:=by simpa using h2
          have he:=encs_getD hi2
          have hmm:=getD_mem hi2
          have hi1 : IntKind.i64.wrap ((i : Int) + 1) = ((i + 1 : Nat) : Int):=by rw [wrap64 (by omega) (by omega)]; rfl
          rcases hx with ⟨rfl,rfl,rfl⟩ | ⟨j,rfl,hj,hg⟩
          · simp only [wpc_skip,AThen_normal,wpc_block,wpc_seq,wpc_drawn]
            refine .inr (drawE_intro [(false,0,2),(false,0,2),(false,0,0),(false,0,0),(false,0,0),(false,0,0),(false,0,0),(false,0,0),(false,0,0),(true,0,0),(true,1,1),(true,2,2),(false,3,3),(true,3,3)] [A ++ (.cells [.int .i64 k,.str m,.str n,.slice (encs ks)] :: .cells [.int .i64 0,.str [],.str [],.nils] :: .cells [.int .i64 k,.str m',.str n,.nils] :: []),A ++ (.cells [.int .i64 k,.str m,.str n,.slice (encs ks)] :: .cells [.int .i64 0,.str [],.str [],.nils] :: .cells [.int .i64 k,.str m',.str n,.nils] :: []),A ++ (.cells [.int .i64 k,.str m,.str n,.slice (encs ks)] :: .cells [.int .i64 0,.str [],.str [],.nils] :: .cells [.int .i64 k,.str m',.str n,.nils] :: [.row 4 [enc (swT f t (ks.getD 0 ty0))] 0]),A ++ (.cells [.int .i64 k,.str m,.str n,.slice (encs ks)] :: .cells [.int .i64 0,.str [],.str [],.nils] :: .cells [.int .i64 k,.str m',.str n,.nils] :: [.row 4 [enc (swT f t (ks.getD 0 ty0))] 0,.row 4 [enc (swT f t (ks.getD 0 ty0))] 0]),A ++ (.cells [.int .i64 k,.str m,.str n,.slice (encs ks)] :: .cells [.int .i64 0,.str [],.str [],.nils] :: .cells [.int .i64 k,.str m',.str n,.own (A.length + 4)] :: [.row 4 [enc (swT f t (ks.getD 0 ty0))] 0,.row 4 [enc (swT f t (ks.getD 0 ty0))] 0])] 4 rfl (by kernel_rfl) (by kernel_rfl) (by kernel_rfl) (by kernel_rfl) (by kernel_rfl) (by kernel_rfl) ?_)
            simp only [zW,zX,zD,builtinA,isLeaf,const1,ustrA,simprocAttr,ti3,ti9,ti34,ti36,ca145,cf,Tryz.results145,he,enc_length,enc_take,sb_drop,frzL_enc,sb_closed,Option.map_some,encs_length]
            have hw1 : IntKind.i64.wrap 1 = ((0 + 1 : Nat) : Int):=by rw [wrap64 (by omega) (by omega)]; rfl
            refine ⟨by omega,?_⟩
            refine callE_intro (by simp only [zW,zX,zD,builtinA,isLeaf,const1,ustrA,simprocAttr,enc_length,enc_take,sb_drop,frzL_enc,sb_closed,Option.map_some] <;> rfl) (ih _ hmm (hok _ hmm) _) ?_ rfl rfl
            simp only [zW,zX,zD,builtinA,isLeaf,const1,ustrA,simprocAttr,ti3,ti9,ti34,ti36,ca145,cf,Tryz.results145,he,enc_length,enc_take,sb_drop,frzL_enc,sb_closed,Option.map_some,encs_length]
            have hsn : [enc (swT f t (ks.getD 0 ty0))] = encs (swTs f t (ks.take 1)):=by
              match ks,hi2 with
              | t :: l,_=>simp [encs,swTs]
            simp only [zW,zX,zD,builtinA,isLeaf,const1,ustrA,simprocAttr,ti3,ti9,ti34,ti36,ca145,cf,Tryz.results145,hi1,hw1,LoopK_eq]
            refine ⟨fun v hv=>enc_leaf _ v hv,fun r hr=>by rw [List.mem_singleton.1 hr,enc_length],⟨0 + 1,[.row 4 [enc (swT f t (ks.getD 0 ty0))] 0,.row 4 [enc (swT f t (ks.getD 0 ty0))] 0],_,by omega,rfl,rfl,.inr ⟨1,rfl,by simp,by rw [hsn]; rfl⟩⟩,?_⟩
            simp only [intOf]
            omega
          · have hsn:=hstep hi2
            have htli:=htl i
            simp only [wpc_skip,AThen_normal,wpc_block,wpc_seq,wpc_drawn]
            refine .inr (drawE_intro [(false,0,2),(false,0,2),(false,0,0),(false,0,0),(false,0,0),(false,0,0),(false,0,0),(false,0,0),(false,0,0),(true,0,0),(true,1,1),(true,2,2),(false,3,3),(true,3,3)] [A ++ (.cells [.int .i64 k,.str m,.str n,.slice (encs ks)] :: .cells [.int .i64 0,.str [],.str [],.nils] :: .cells [.int .i64 k,.str m',.str n,.own (A.length + (j + 3))] :: B),A ++ (.cells [.int .i64 k,.str m,.str n,.slice (encs ks)] :: .cells [.int .i64 0,.str [],.str [],.nils] :: .cells [.int .i64 k,.str m',.str n,.own (A.length + (j + 3))] :: B),A ++ (.cells [.int .i64 k,.str m,.str n,.slice (encs ks)] :: .cells [.int .i64 0,.str [],.str [],.nils] :: .cells [.int .i64 k,.str m',.str n,.own (A.length + (j + 3))] :: (B ++ [.row 4 [enc (swT f t (ks.getD i ty0))] 0])),A ++ (.cells [.int .i64 k,.str m,.str n,.slice (encs ks)] :: .cells [.int .i64 0,.str [],.str [],.nils] :: .cells [.int .i64 k,.str m',.str n,.own (A.length + (j + 3))] :: (B.set j .dead ++ [.row 4 [enc (swT f t (ks.getD i ty0))] 0,.row 4 (encs (swTs f t (ks.take i)) ++ [enc (swT f t (ks.getD i ty0))]) 0])),A ++ (.cells [.int .i64 k,.str m,.str n,.slice (encs ks)] :: .cells [.int .i64 0,.str [],.str [],.nils] :: .cells [.int .i64 k,.str m',.str n,.own (A.length + (B.length + 1 + 3))] :: (B.set j .dead ++ [.row 4 [enc (swT f t (ks.getD i ty0))] 0,.row 4 (encs (swTs f t (ks.take i)) ++ [enc (swT f t (ks.getD i ty0))]) 0]))] 4 rfl (by kernel_rfl) (by kernel_rfl) (by kernel_rfl) (by kernel_rfl) (by kernel_rfl) (by kernel_rfl) ?_)
            simp only [zW,zX,zD,builtinA,isLeaf,const1,ustrA,simprocAttr,ti3,ti9,ti34,ti36,ca145,cf,Tryz.results145,he,hj,hg,enc_length,enc_take,sb_drop,frzL_enc,sb_closed,Option.map_some,encs_length]
            refine ⟨⟨by omega,by omega⟩,?_⟩
            refine callE_intro (by simp only [zW,zX,zD,builtinA,isLeaf,const1,ustrA,simprocAttr,enc_length,enc_take,sb_drop,frzL_enc,sb_closed,Option.map_some] <;> rfl) (ih _ hmm (hok _ hmm) _) ?_ rfl rfl
            simp only [zW,zX,zD,builtinA,isLeaf,const1,ustrA,simprocAttr,ti3,ti9,ti34,ti36,ca145,cf,Tryz.results145,he,hj,hg,enc_length,enc_take,sb_drop,frzL_enc,sb_closed,Option.map_some,encs_length]
            simp only [zW,zX,zD,builtinA,isLeaf,const1,ustrA,simprocAttr,ti3,ti9,ti34,ti36,ca145,cf,Tryz.results145,hi1,LoopK_eq]
            refine ⟨fun v hv=>enc_leaf _ v hv,⟨fun r hr=>by rw [List.mem_singleton.1 hr,enc_length],by rw [swTs_map,List.length_map,List.length_take]; omega⟩,⟨i + 1,B.set j .dead ++ [.row 4 [enc (swT f t (ks.getD i ty0))] 0,.row 4 (encs (swTs f t (ks.take i)) ++ [enc (swT f t (ks.getD i ty0))]) 0],_,by omega,rfl,rfl,.inr ⟨B.length + 1,rfl,by simp,?_⟩⟩,?_⟩
            · rw [getD_sapp,hsn]; rfl
            · simp only [intOf]
              omega
        · have : i = ks.length:=by simp at h2; omega
          subst this
          rw [List.take_length] at hx
          rcases hx with ⟨h0,rfl,rfl⟩ | ⟨j,rfl,hj,hg⟩
          · have : ks = []:=by cases ks with
              | nil=>rfl
              | cons=>simp at h0
            subst this
            simp only [zW,zX,zD,builtinA,isLeaf,const1,ustrA,simprocAttr,ti3,ti9,ti34,ti36,ca145,cf,Tryz.results145,encs,swTs]
          · simp only [zW,zX,zD,builtinA,isLeaf,const1,ustrA,simprocAttr,ti3,ti9,ti34,ti36,ca145,cf,Tryz.results145,hg,hj]
end Go.Proofs.YtijlnkfiadajhaaGreat
