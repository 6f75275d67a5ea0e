/- SigPl, SigOutA, SigStr, Draw, DrawTy. -/
import Derived.Test.YtejbjgmgdbcddaaGreatDoorK09
import Derived.Test.YtejbjgmgdbcddaaGreatDoorAbsW3
/- What a signature's method plain makes: items that are owned. -/
set_option linter.unusedVariables false
set_option linter.unusedSimpArgs false
namespace Go.Proofs.YtejbjgmgdbcddaaGreatDoor
open Go.Abs
def NewS (A : List Box) (x : SigI) (cs : List AV) (A' : List Box) : Prop :=
  A.length ≤ A'.length ∧ (∀ k,k < A.length → A'.getD k .dead = A.getD k .dead) ∧ ∃ v S,cs = sRow x v ∧ OwnK A' x.typ.kids v S ∧ S.Nodup ∧ (∀ i ∈ S,A.length ≤ i) ∧ (v = .nils ∨ ∃ i,v = .own i)
def PlI (y : VI) : Prop:=∀ A,ACalls Tryz.prog ((pickI 136 167 173) y) [viX y] A (fun r A'=>∃ cs,r = .agg cs ∧ NewS A (siOf y) cs A')
theorem prow_row (x : SigI) (w : VT) (h : x.typ = toTy w) (n : Nat) : ∃ v,prow w n true = [.int .i64 x.typ.kind,.str x.typ.mod,.str x.typ.name,v] ∧ (v = .nils ∨ ∃ i,v = .own i):=by
  rw [h]
  cases w with
  | num=>exact ⟨_,rfl,.inl rfl⟩
  | nm m k=>exact ⟨_,rfl,.inl rfl⟩
  | fn a b=>exact ⟨_,rfl,.inr ⟨_,rfl⟩⟩
theorem newS_of {A : List Box} {x : SigI} {w : VT} (h : x.typ = toTy w) {B0 B1 : List Box} {n : Nat} (hn : n = A.length + B0.length) : NewS A x (.int .i64 x.kind :: .str x.name :: prow w n true) (A ++ (B0 ++ (pbox w n ++ B1))):=by
  obtain ⟨v,hv,hv2⟩:=prow_row x w h n
  have ho:=own_plain w n true (A ++ (B0 ++ (pbox w n ++ B1))) fun k hk=>by
    rw [Abs.getD_append_right (by omega),Abs.getD_append_right (by omega),Abs.getD_append_left (by rw [pbox_length]; omega)]
    congr 1; omega
  rw [hv] at ho
  refine ⟨by simp,fun k hk=>Abs.getD_append_left hk,v,pidx w n,by rw [hv]; rfl,?_,pidx_nodup _ _,fun i hi=>by have:=pidx_in _ _ i hi; omega,hv2⟩
  rw [h]
  cases ht : toTy w with
  | mk k m n ks =>
    rw [ht,ownT_mk] at ho
    obtain ⟨v',e,hK⟩:=ho
    simp only [List.cons.injEq,and_true] at e
    rw [e.2.2.2]
    exact hK
set_option maxRecDepth 100000 in
theorem ab_plain (n : List UInt8) : PlI (.ab n):=fun A=>by
  show ACalls Tryz.prog 136 _ _ _
  rw [viX]
  refine acalls_enterK (cf:=cf 6 [0,1,2]) foll Tryz.func136 Tryz.ntmps136 (by simp [cf]) ?_
  simp only [Tryz.f136,EnterK_some,zW,zX,zD,builtinA,isLeaf,const1,ustrA,simprocAttr,ti9,ti41,ti53,cf,Tryz.results136]
  exact ⟨_,rfl,by simp,fun k hk=>Abs.getD_append_left hk,.nils,[],rfl,.inl ⟨rfl,rfl,rfl⟩,by simp,by simp,.inl rfl⟩
set_option maxRecDepth 100000 in
theorem al_plain (n : List UInt8) (v : VT) : PlI (.al n v):=fun A=>by
  show ACalls Tryz.prog 167 _ _ _
  have cv : ACalls Tryz.prog ((pickF 179 186 149) v) [vX v] (A ++ [Box.cells [.str n,.iface (vT v) (vX v)],Box.cells [.int .i64 0,.str [],.int .i64 0,.str [],.str [],.nils]]) (fun r A'=>r = .agg (prow v (A.length + 2) true) ∧ A' = A ++ (Box.cells [.str n,.iface (vT v) (vX v)] :: Box.cells [.int .i64 0,.str [],.int .i64 0,.str [],.str [],.nils] :: pbox v (A.length + 2))):=by
    have:=plainM v (A ++ [Box.cells [.str n,.iface (vT v) (vX v)],Box.cells [.int .i64 0,.str [],.int .i64 0,.str [],.str [],.nils]])
    simpa using this
  have hpl : ∀ n,(prow v n true).length = 4:=fun n=>prow_length _ _ _
  rw [viX]
  refine acalls_enterK (cf:=cf 9 [0,1,2]) foll Tryz.func167 Tryz.ntmps167 (by simp [cf]) ?_
  simp only [Tryz.f167,EnterK_some,zW,zX,zD,builtinA,isLeaf,const1,ustrA,simprocAttr,ti9,ti41,ti99,ti168,cf,Tryz.results167]
  refine .inr (drawE_intro [(false,0,1),(false,0,1),(false,0,0),(false,0,0),(true,0,0),(false,1,1),(true,1,1)] [A ++ [Box.cells [.str n,.iface (vT v) (vX v)],Box.cells [.int .i64 0,.str [],.int .i64 0,.str [],.str [],.nils]],A ++ (Box.cells [.str n,.iface (vT v) (vX v)] :: Box.cells [.int .i64 0,.str [],.int .i64 0,.str [],.str [],.nils] :: pbox v (A.length + 2)),A ++ (Box.cells [.str n,.iface (vT v) (vX v)] :: Box.cells (.int .i64 2 :: .str n :: prow v (A.length + 2) true) :: pbox v (A.length + 2))] 2 rfl (by kernel_rfl) (by kernel_rfl) (by kernel_rfl) (by kernel_rfl) (by kernel_rfl) (by kernel_rfl) ?_)
  simp only [zW,zX,zD,builtinA,isLeaf,const1,ustrA,simprocAttr,ti9,ti41,ti99,ti168,cf,Tryz.results167]
  refine wpG_invoke _ _ _ _ _ _ _ _ _ _ _ _ _ _ _ _ _ _ ?_
  simp only [zW,zX,zD,builtinA,isLeaf,const1,ustrA,simprocAttr,ti9,ti41,ti99,ti168,cf,Tryz.results167]
  refine meth_invE (met3 (by kernel_rfl) (by kernel_rfl) (by kernel_rfl) (by kernel_rfl) (by kernel_rfl) (by kernel_rfl)) cv rfl ?_
  simp only [zW,zX,zD,builtinA,isLeaf,const1,ustrA,simprocAttr,ti9,ti41,ti99,ti168,cf,Tryz.results167,hpl]
  rw [List.take_of_length_le (Nat.le_of_eq (hpl _))]
  have h:=newS_of (A:=A) (x:=siOf (.al n v)) (w:=v) rfl (B0:=[Box.cells [.str n,.iface (vT v) (vX v)],Box.cells (.int .i64 2 :: .str n :: prow v (A.length + 2) true)]) (B1:=[]) (n:=A.length + 2) rfl
  rw [List.append_nil] at h
  exact ⟨_,rfl,h⟩
set_option maxRecDepth 100000 in
theorem va_plain (n : List UInt8) (v : VT) : PlI (.va n v):=fun A=>by
  show ACalls Tryz.prog 173 _ _ _
  have cv : ACalls Tryz.prog ((pickF 179 186 149) v) [vX v] (A ++ [Box.cells [.str n,.iface (vT v) (vX v)],Box.cells [.int .i64 0,.str [],.int .i64 0,.str [],.str [],.nils]]) (fun r A'=>r = .agg (prow v (A.length + 2) true) ∧ A' = A ++ (Box.cells [.str n,.iface (vT v) (vX v)] :: Box.cells [.int .i64 0,.str [],.int .i64 0,.str [],.str [],.nils] :: pbox v (A.length + 2))):=by
    have:=plainM v (A ++ [Box.cells [.str n,.iface (vT v) (vX v)],Box.cells [.int .i64 0,.str [],.int .i64 0,.str [],.str [],.nils]])
    simpa using this
  have hpl : ∀ n,(prow v n true).length = 4:=fun n=>prow_length _ _ _
  rw [viX]
  refine acalls_enterK (cf:=cf 9 [0,1,2]) foll Tryz.func173 Tryz.ntmps173 (by simp [cf]) ?_
  simp only [Tryz.f173,EnterK_some,zW,zX,zD,builtinA,isLeaf,const1,ustrA,simprocAttr,ti9,ti41,ti99,ti169,cf,Tryz.results173]
  refine .inr (drawE_intro [(false,0,1),(false,0,1),(false,0,0),(false,0,0),(true,0,0),(false,1,1),(true,1,1)] [A ++ [Box.cells [.str n,.iface (vT v) (vX v)],Box.cells [.int .i64 0,.str [],.int .i64 0,.str [],.str [],.nils]],A ++ (Box.cells [.str n,.iface (vT v) (vX v)] :: Box.cells [.int .i64 0,.str [],.int .i64 0,.str [],.str [],.nils] :: pbox v (A.length + 2)),A ++ (Box.cells [.str n,.iface (vT v) (vX v)] :: Box.cells (.int .i64 3 :: .str n :: prow v (A.length + 2) true) :: pbox v (A.length + 2))] 2 rfl (by kernel_rfl) (by kernel_rfl) (by kernel_rfl) (by kernel_rfl) (by kernel_rfl) (by kernel_rfl) ?_)
  simp only [zW,zX,zD,builtinA,isLeaf,const1,ustrA,simprocAttr,ti9,ti41,ti99,ti169,cf,Tryz.results173]
  refine wpG_invoke _ _ _ _ _ _ _ _ _ _ _ _ _ _ _ _ _ _ ?_
  simp only [zW,zX,zD,builtinA,isLeaf,const1,ustrA,simprocAttr,ti9,ti41,ti99,ti169,cf,Tryz.results173]
  refine meth_invE (met3 (by kernel_rfl) (by kernel_rfl) (by kernel_rfl) (by kernel_rfl) (by kernel_rfl) (by kernel_rfl)) cv rfl ?_
  simp only [zW,zX,zD,builtinA,isLeaf,const1,ustrA,simprocAttr,ti9,ti41,ti99,ti169,cf,Tryz.results173,hpl]
  rw [List.take_of_length_le (Nat.le_of_eq (hpl _))]
  have h:=newS_of (A:=A) (x:=siOf (.va n v)) (w:=v) rfl (B0:=[Box.cells [.str n,.iface (vT v) (vX v)],Box.cells (.int .i64 3 :: .str n :: prow v (A.length + 2) true)]) (B1:=[]) (n:=A.length + 2) rfl
  rw [List.append_nil] at h
  exact ⟨_,rfl,h⟩
theorem plI : ∀ y,PlI y
  | .ab n=>ab_plain n
  | .al n v=>al_plain n v
  | .va n v=>va_plain n v
set_option maxRecDepth 100000 in
set_option maxHeartbeats 4000000 in
theorem impl_plainItems (ys : List VI) (hl : ys.length ≤ 1000) (A : List Box) : ACalls Tryz.prog 45 [.slice (vRows ys)] A (fun r A'=>∃ j,r = .own j ∧ NewG A (ys.map siOf) j A'):=by
  have hl2 : ((vRows ys).length : Int) ≤ 1000:=by rw [vRows_length]; omega
  refine ACalls.grow ?_
  refine acalls_enterK (cf:=cf 23 [0,2,3,4,5,9,10,11,12]) foll Tryz.func45 Tryz.ntmps45 (by simp [cf]) ?_
  simp only [Tryz.f45,EnterK_some,zW,zX,zD,builtinA,isLeaf,const1,ustrA,simprocAttr,ti3,ti23,ti41,ti43,ti51,cf,Tryz.results45]
  refine ⟨⟨by omega,by omega,by omega⟩,?_⟩
  refine aloop_intro [3,9,10,11] (fun e A'=>∃ (p : Nat) (rl : List (List AV)) (SL : List Nat) (g : Bool),p ≤ ys.length ∧ e = [(3,.own A.length),(9,.slice (vRows ys)),(10,.int .i64 ys.length),(11,.int .i64 p)] ∧ A'.getD A.length .dead = (bif g then .gr none 6 (rl ++ List.replicate (ys.length - p) zsi) else .row 6 (rl ++ List.replicate (ys.length - p) zsi) 0) ∧
    rl.length = p ∧ OwnG A' ((ys.map siOf).take p) rl SL ∧ SL.Nodup ∧ (∀ i ∈ SL,A.length < i) ∧ A.length < A'.length ∧ ∀ k,k < A.length → A'.getD k .dead = A.getD k .dead) (fun e _=>ys.length - (intOf (Abs.look 11 e)).toNat) ?_ ?_
  · simp only [zW,zX,zD,builtinA,isLeaf,const1,ustrA,simprocAttr,ti3,ti23,ti41,ti43,ti51,cf,Tryz.results45,vRows_length]
    refine ⟨0,[],[],false,by omega,rfl,?_,rfl,by simp [OwnG],by simp,by simp,by simp,fun k hk=>Abs.getD_append_left hk⟩
    rfl
  · rintro e A' ⟨p,rl,SL,g,hp,rfl,hb,hrl,hO,hN,hlo,hlt,hfr⟩
    by_cases hp2 : p < ys.length
    · have d2 : decide ((p : Int) < (ys.length : Int)) = true:=by simp; omega
      have he:=vRows_getD hp2
      have hsi : ((ys.map siOf).take p ++ [siOf (ys.getD p vi0)]) = (ys.map siOf).take (p + 1):=by
        rw [List.take_add_one]; simp [List.getD,hp2]
      generalize hyv : ys.getD p vi0 = y at *
      rw [vRow] at he
      simp only [zW,zX,zD,builtinA,isLeaf,const1,ustrA,simprocAttr,ti3,ti23,ti41,ti43,ti51,cf,Tryz.results45,vRows_length,d2,he]
      refine ⟨⟨by omega,by omega⟩,?_⟩
      refine wpO_invoke _ _ _ _ _ _ _ _ _ _ _ _ _ _ _ _ ?_
      simp only [zW,zX,zD,builtinA,isLeaf,const1,ustrA,simprocAttr,ti3,ti23,ti41,ti43,ti51,cf,Tryz.results45]
      refine methI_invK (metI3 (by kernel_rfl) (by kernel_rfl) (by kernel_rfl) (by kernel_rfl) (by kernel_rfl) (by kernel_rfl)) (plI y _) rfl (fun _=>rfl) ?_
      rintro r A3 ⟨cs,rfl,hle,hf3,v,S,rfl,hK,hND,hge,hv⟩
      have hi1 : IntKind.i64.wrap ((p : Int) + 1) = ((p + 1 : Nat) : Int):=by rw [wrap64 (by omega) (by omega)]; rfl
      have hb3 : A3.getD A.length .dead = (bif g then .gr none 6 (rl ++ List.replicate (ys.length - p) zsi) else .row 6 (rl ++ List.replicate (ys.length - p) zsi) 0):=by rw [hf3 _ hlt]; exact hb
      have hz : ∀ v,(rl ++ List.replicate (ys.length - p) zsi).set p (sRow (siOf y) v) = (rl ++ [sRow (siOf y) v]) ++ List.replicate (ys.length - (p + 1)) zsi:=fun v=>by
        rw [show ys.length - p = (ys.length - (p + 1)) + 1 by omega,List.replicate_succ,List.set_append_right _ _ (by omega),hrl,Nat.sub_self]
        simp
      have hlr : (rl ++ List.replicate (ys.length - p) zsi).length = ys.length:=by simp; omega
      have hdz : List.drop 6 ((rl ++ List.replicate (ys.length - p) zsi).getD p []) = []:=by
        rw [Abs.getD_append_right (by omega),hrl,Nat.sub_self,getD_repl (by omega)]; rfl
      have hpr : (0 : Int) ≤ (p : Int) ∧ (p : Int) < ((ys.length : Nat) : Int):=⟨by omega,by omega⟩
      have fin : ∀ (g' : Bool) (v : AV) (Z : Box),OwnK A3 (siOf y).typ.kids v S → Z = (bif g' then Box.gr none 6 ((rl ++ [sRow (siOf y) v]) ++ List.replicate (ys.length - (p + 1)) zsi) else .row 6 ((rl ++ [sRow (siOf y) v]) ++ List.replicate (ys.length - (p + 1)) zsi) 0) → ∃ (p' : Nat) (rl' : List (List AV)) (SL' : List Nat) (g' : Bool),p' ≤ ys.length ∧ [(3,AV.own A.length),(9,.slice (vRows ys)),(10,.int .i64 ys.length),(11,.int .i64 ((p + 1 : Nat) : Int))] = [(3,.own A.length),(9,.slice (vRows ys)),(10,.int .i64 ys.length),(11,.int .i64 p')] ∧ (A3.set A.length Z).getD A.length .dead = (bif g' then .gr none 6 (rl' ++ List.replicate (ys.length - p') zsi) else .row 6 (rl' ++ List.replicate (ys.length - p') zsi) 0) ∧
          rl'.length = p' ∧ OwnG (A3.set A.length Z) ((ys.map siOf).take p') rl' SL' ∧ SL'.Nodup ∧ (∀ i ∈ SL',A.length < i) ∧ A.length < (A3.set A.length Z).length ∧ ∀ k,k < A.length → (A3.set A.length Z).getD k .dead = A.getD k .dead:=fun g' v Z hK hZ=>by
        have hlt3 : A.length < A3.length:=by omega
        have low:=hO.low
        refine ⟨p + 1,rl ++ [sRow (siOf y) v],SL ++ S,g',by omega,rfl,?_,by simp [hrl],?_,?_,?_,by simpa using hlt3,fun k hk=>?_⟩
        · rw [getD_set_self hlt3]; exact hZ
        · rw [← hsi]
          refine (hO.frame fun i hi=>?_).append ?_
          · have h1:=hlo i hi
            have h2:=low i hi
            rw [getD_set_ne' (by omega),hf3 i h2]
          · rw [OwnG]
            refine ⟨v,[],S,[],rfl,by simp,hK.frame fun i hi=>?_,by simp [OwnG]⟩
            have:=hge i hi
            rw [getD_set_ne' (by omega)]
        · refine List.nodup_append.2 ⟨hN,hND,fun x hx y hy=>?_⟩
          have:=low x hx
          have:=hge y hy
          omega
        · intro i hi
          rcases List.mem_append.1 hi with hi | hi
          · exact hlo i hi
          · have:=hge i hi; omega
        · rw [getD_set_ne' (by omega),hf3 k (by omega),hfr k hk]
      have lf : ∀ w ∈ sRow (siOf y) (.slice []),isLeaf w = true:=by simp [sRow,isLeaf]
      have el : ∀ w ∈ sRow (siOf y) (.slice []),isElem w = true:=by simp [sRow,isElem,isLeaf]
      have el2 : ∀ i,∀ w ∈ sRow (siOf y) (.own i),isElem w = true:=by simp [sRow,isElem,isLeaf]
      have mz : ∀ {P : Prop},P → P ∧ ys.length - (intOf (AV.int .i64 ((p + 1 : Nat) : Int))).toNat < ys.length - (intOf (AV.int .i64 (p : Int))).toNat:=fun h=>⟨h,by simp only [intOf]; omega⟩
      rcases hv with rfl | ⟨i,rfl⟩
      · have hK2 : OwnK A3 (siOf y).typ.kids (.slice []) S:=by
          rcases hK with ⟨_,h1,h2⟩ | ⟨h0,_⟩ | ⟨i,_,_,h0,_⟩
          · exact .inr (.inl ⟨rfl,h1,h2⟩)
          · cases h0
          · cases h0
        have fin2:=fun g' Z=>fin g' (.slice []) Z hK2
        have hz2:=hz (.slice [])
        clear fin hz
        simp only [sRow] at hz2 fin2 lf el ⊢
        cases g with
        | false =>
          simp only [cond_false] at hb3
          simp only [zW,zX,zD,builtinA,isLeaf,const1,ustrA,simprocAttr,ti3,ti23,ti41,ti43,ti51,cf,Tryz.results45,hb3,hlr,hz2,hdz,hi1,LoopK_eq]
          exact ⟨hpr,⟨by omega,by omega,fun w hw=>lf w hw⟩,mz (by simpa only [cond_false,cond_true,List.append_assoc,List.cons_append,List.nil_append,List.length_set] using fin2 false _ rfl)⟩
        | true =>
          simp only [cond_true] at hb3
          simp only [zW,zX,zD,builtinA,isLeaf,const1,ustrA,simprocAttr,ti3,ti23,ti41,ti43,ti51,cf,Tryz.results45,hb3,hlr,hz2,hdz,hi1,LoopK_eq]
          exact ⟨hpr,⟨by omega,fun w hw=>el w hw⟩,mz (by simpa only [cond_false,cond_true,List.append_assoc,List.cons_append,List.nil_append,List.length_set] using fin2 true _ rfl)⟩
      · obtain ⟨rws,hg⟩ : ∃ rws,A3.getD i .dead = .gr none 4 rws:=by
          rcases hK with ⟨h0,_⟩ | ⟨h0,_⟩ | ⟨i',rws,_,h0,_,hg,_⟩
          · cases h0
          · cases h0
          · cases h0; exact ⟨rws,hg⟩
        have fin2:=fun g' Z=>fin g' (.own i) Z hK
        have hz2:=hz (.own i)
        clear fin hz
        simp only [sRow] at hz2 fin2 el2 ⊢
        cases g with
        | false =>
          simp only [cond_false] at hb3
          simp only [zW,zX,zD,builtinA,isLeaf,const1,ustrA,simprocAttr,ti3,ti23,ti41,ti43,ti51,cf,Tryz.results45,hb3,hg,hlr,hz2,hdz,hi1,LoopK_eq]
          exact ⟨hpr,⟨by omega,fun w hw=>el2 i w hw⟩,mz (by simpa only [cond_false,cond_true,List.append_assoc,List.cons_append,List.nil_append,List.length_set] using fin2 true _ rfl)⟩
        | true =>
          simp only [cond_true] at hb3
          simp only [zW,zX,zD,builtinA,isLeaf,const1,ustrA,simprocAttr,ti3,ti23,ti41,ti43,ti51,cf,Tryz.results45,hb3,hg,hlr,hz2,hdz,hi1,LoopK_eq]
          exact ⟨hpr,⟨by omega,fun w hw=>el2 i w hw⟩,mz (by simpa only [cond_false,cond_true,List.append_assoc,List.cons_append,List.nil_append,List.length_set] using fin2 true _ rfl)⟩
    · have d2 : decide ((p : Int) < (ys.length : Int)) = false:=by simp; omega
      have e : p = ys.length:=by omega
      subst e
      simp only [zW,zX,zD,builtinA,isLeaf,const1,ustrA,simprocAttr,ti3,ti23,ti41,ti43,ti51,cf,Tryz.results45,d2]
      rw [List.take_of_length_le (by simp)] at hO
      have low:=hO.low
      have hnd : (A.length :: SL).Nodup:=List.nodup_cons.2 ⟨fun h=>by have:=hlo _ h; omega,hN⟩
      have hge : ∀ i ∈ A.length :: SL,A.length ≤ i:=fun i hi=>by
        rcases List.mem_cons.1 hi with rfl | hi
        · exact Nat.le_refl _
        · have:=hlo i hi; omega
      have e0 : rl ++ List.replicate (ys.length - ys.length) zsi = rl:=by simp
      rw [e0] at hb
      cases g with
      | false=>exact .inr ⟨A.length,6,rl,hb,A.length,rfl,by simp; omega,fun k hk=>by rw [getD_set_ne' (by omega)]; exact hfr k hk,rl,SL,getD_set_self hlt,hO.frame fun i hi=>by have:=hlo i hi; rw [getD_set_ne' (by omega)],hnd,hge⟩
      | true=>exact .inl ⟨A.length,rfl,by omega,hfr,rl,SL,hb,hO,hnd,hge⟩
end Go.Proofs.YtejbjgmgdbcddaaGreatDoor
/- A signature's answer in memory of its own. -/
set_option linter.unusedVariables false
set_option linter.unusedSimpArgs false
namespace Go.Proofs.YtejbjgmgdbcddaaGreatDoor
open Go.Abs
theorem OwnK.free {A : List Box} {ks : List Ty} {v : AV} {S : List Nat} (h : OwnK A ks v S) : ifree v = true ∧ ∀ i ∈ S,ifreeB (A.getD i .dead) = true:=by
  have h2:=OwnT.free (ownT_mk.2 ⟨v,rfl,h⟩ : OwnT A (.mk 0 [] [] ks) _ S)
  simpa [ifrees,ifree] using h2
theorem OwnG.free {A : List Box} : ∀ {xs : List SigI} {rows : List (List AV)} {S : List Nat},OwnG A xs rows S → rows.all ifrees = true ∧ ∀ i ∈ S,ifreeB (A.getD i .dead) = true
  | [],rows,S,h=>by rw [OwnG] at h; rw [h.1,h.2]; exact ⟨rfl,by simp⟩
  | t :: ks,rows,S,h=>by
    rw [OwnG] at h
    obtain ⟨v,rows',S1,S2,rfl,rfl,h3,h4⟩:=h
    have a:=h3.free
    have b:=OwnG.free h4
    refine ⟨by rw [List.all_cons,b.1]; simp [sRow,ifrees,ifree,a.1],fun j hj=>?_⟩
    rcases List.mem_append.1 hj with hj | hj
    · exact a.2 j hj
    · exact b.2 j hj
theorem OwnI.free {A : List Box} {xs : List SigI} {v : AV} {S : List Nat} (h : OwnI A xs v S) : ifree v = true ∧ ∀ i ∈ S,ifreeB (A.getD i .dead) = true:=by
  rcases h with ⟨rfl,_,rfl⟩ | ⟨i,rows,S',rfl,rfl,h3,h4⟩
  · exact ⟨rfl,by simp⟩
  · refine ⟨rfl,fun j hj=>?_⟩
    have h5:=h4.free
    rcases List.mem_cons.1 hj with rfl | hj
    · rw [h3]; exact h5.1
    · exact h5.2 j hj
def SgOut (A : List Box) (xs : List SigI) (ok : Bool) (r : AV) (A' : List Box) : Prop :=
  ∃ v S,r = .tuple [v,.bool ok] ∧ OwnI A' xs v S ∧ S.Nodup ∧ (∀ i ∈ S,A.length ≤ i) ∧ A.length ≤ A'.length ∧ ∀ i,i < A.length → A'.getD i .dead = A.getD i .dead
def SgNew (A : List Box) (xs : List SigI) (ok : Bool) (r : AV) (A' : List Box) : Prop :=
  ∃ B v S,A' = A ++ B ∧ (∀ b ∈ B,ifreeB b = true) ∧ r = .tuple [v,.bool ok] ∧ ifree v = true ∧ OwnI A' xs v S ∧ S.Nodup ∧ ∀ i ∈ S,A.length ≤ i ∧ i < A'.length
theorem sgNew_of {A A' : List Box} {xs : List SigI} {ok : Bool} {r : AV} (h : SgOut A xs ok r A') : ∃ keep,SgNew A xs ok r (only keep A'):=by
  obtain ⟨v,S,rfl,hT,hN,hge,hl,hf⟩:=h
  refine ⟨fun k=>decide (k < A.length) || decide (k ∈ S),?_⟩
  have hfree:=hT.free
  have hlow:=hT.low
  generalize hkp : (fun k=>decide (k < A.length) || decide (k ∈ S)) = keep
  have k1 : ∀ k,k < A.length → keep k = true:=fun k hk=>by rw [← hkp]; simp [hk]
  have k2 : ∀ k,k ∈ S → keep k = true:=fun k hk=>by rw [← hkp]; simp [hk]
  have k3 : ∀ k,A.length ≤ k → keep k = true → k ∈ S:=fun k h1 h2=>by
    rw [← hkp] at h2
    simp at h2
    rcases h2 with h2 | h2
    · omega
    · exact h2
  have e:=split_front (A:=A) (A':=only keep A') (by rw [only_length]; exact hl) (fun k hk=>by rw [only_getD,if_pos (k1 k hk)]; exact hf k hk)
  refine ⟨_,v,S,e,fun b hb=>?_,rfl,hfree.1,hT.frame fun i hi=>by rw [only_getD,if_pos (k2 i hi)],hN,fun i hi=>⟨hge i hi,by rw [only_length]; exact hlow i hi⟩⟩
  obtain ⟨i,hi,rfl⟩:=List.mem_iff_getElem.1 hb
  rw [List.getElem_drop]
  have hi2 : A.length + i < (only keep A').length:=by simp at hi; omega
  have e2 : (only keep A')[A.length + i] = (only keep A').getD (A.length + i) .dead:=by simp [List.getD,hi2]
  rw [e2,only_getD]
  split
  · rename_i hk; exact hfree.2 _ (k3 _ (by omega) hk)
  · rfl
theorem sg_call {f : FuncId} {args : List AV} {xs : List SigI} {ok : Bool} (h : ∀ A,ACalls Tryz.prog f args A (fun r A'=>SgOut A xs ok r A')) (A : List Box) : ACalls Tryz.prog f args A (SgNew A xs ok) :=
  ACalls.only ((h A).mono fun r A' h=>sgNew_of h)
set_option maxRecDepth 100000 in
theorem impl_plainSig (ys : List VI) (hl : ys.length ≤ 1000) (A : List Box) : ACalls Tryz.prog 23 [.slice (vRows ys)] A (fun r A'=>∃ j,r = .own j ∧ NewG A (ys.map siOf) j A'):=by
  refine acalls_enterK (cf:=cf 5 [0,2]) foll Tryz.func23 Tryz.ntmps23 (by simp [cf]) ?_
  simp only [Tryz.f23,EnterK_some,zW,zX,zD,builtinA,isLeaf,const1,ustrA,simprocAttr,ca45,cf,Tryz.results23]
  refine callO_intro (impl_plainItems ys hl _) ?_
  rintro r A' ⟨j,rfl,h⟩
  simp only [zW,zX,zD,builtinA,isLeaf,const1,ustrA,simprocAttr,ca45,cf,Tryz.results23]
  exact ⟨j,rfl,h⟩
def nrX : Option (List VI) → List SigI
  | some zs=>zs.map siOf
  | none=>[]
theorem itemsX_ok {s : List SigI} (hs : ∀ x ∈ s,x.Ok) {zs : List VI} (h8 : zs.length ≤ 8) (hv : ∀ i,i < zs.length → VOk (meanI (zs.getD i vi0)) ∧ (viK (zs.getD i vi0)).2.length < 2 ^ 63) : (zs.map siOf).length ≤ 8 ∧ (∀ x ∈ zs.map siOf,x.Ok) ∧ totG (zs.map siOf) ≤ 1600:=by
  have key : ∀ x ∈ zs.map siOf,x.Ok ∧ counts x.typ.kids ≤ 64:=fun x hx=>by
    obtain ⟨y,hy,rfl⟩:=List.mem_map.1 hx
    obtain ⟨k,hk,rfl⟩:=List.mem_iff_getElem.1 hy
    have h:=hv k hk
    have e : zs.getD k vi0 = zs[k]:=by simp [List.getD,hk]
    rw [e] at h
    refine ⟨(siOf_ok h.1 h.2).1,?_⟩
    have hc:=h.1.cnt
    generalize zs[k] = y at *
    have hk : ∀ v,counts (toTy v).kids + 1 = cnt v:=fun v=>by
      rw [← count_toTy]; cases toTy v; simp [count,Ty.kids]; omega
    cases y with
    | ab n=>simp [siOf,ty0,Ty.kids,counts]
    | al n v=>have:=hk v; simp only [siOf,meanI] at *; omega
    | va n v=>have:=hk v; simp only [siOf,meanI] at *; omega
  refine ⟨by simpa using h8,fun x hx=>(key x hx).1,?_⟩
  have hb : ∀ l : List SigI,(∀ x ∈ l,counts x.typ.kids ≤ 64) → totG l ≤ 197 * l.length:=by
    intro l
    induction l with
    | nil=>simp [totG]
    | cons x l ih =>
      intro h
      have:=h x (by simp)
      have:=ih fun y hy=>h y (by simp [hy])
      rw [totG,List.length_cons]; omega
  have:=hb _ fun x hx=>(key x hx).2
  simp only [List.length_map] at this
  omega
theorem sg_none (A B : List Box) : SgOut A [] false (.tuple [.nils,.bool false]) (A ++ B):=⟨_,[],rfl,.inl ⟨rfl,rfl,rfl⟩,by simp,by simp,by simp,fun i hi=>Abs.getD_append_left hi⟩
end Go.Proofs.YtejbjgmgdbcddaaGreatDoor
/- Strengthened signatures, by the program and by the model. -/
set_option linter.unusedVariables false
set_option linter.unusedSimpArgs false
namespace Go.Proofs.YtejbjgmgdbcddaaGreatDoor
open Go.Abs
def strI (mod : List UInt8) : VI → VI
  | .ab n=>.al n (.nm mod n)
  | .al n v=>.al n v
  | .va n v=>.va n v
theorem viK_str (mod : List UInt8) (y : VI) : viK (strI mod y) = viK y:=by cases y <;> rfl
def RdS (s : List SigI) (mod : List UInt8) : Option (List VI) → Prop
  | some zs=>∃ ys,s.length ≤ 8 ∧ ReadsTo s ys ∧ ordB ys = true ∧ moduleB mod = true ∧ zs = ys.map (strI mod)
  | none=>sigB s = false ∨ moduleB mod = false
theorem moduleB_ne {m : List UInt8} (h : moduleB m = true) : m ≠ []:=by
  rintro rfl; revert h; decide
theorem strI_getD (mod : List UInt8) {ys : List VI} {i : Nat} (h : i < ys.length) : (ys.map (strI mod)).getD i vi0 = strI mod (ys.getD i vi0):=by
  simp [List.getD,h]
theorem strI_keys (mod : List UInt8) (ys : List VI) (i : Nat) : ((ys.map (strI mod)).take i).map viK = (ys.take i).map viK:=by
  rw [← List.map_take,List.map_map]
  congr 1
  funext y
  exact viK_str mod y
theorem ordB_str {mod : List UInt8} {ys : List VI} (hm : moduleB mod = true) (ho : ordB ys = true) : ordB (ys.map (strI mod)) = true:=by
  have ho':=ho
  unfold ordB at ho' ⊢
  rw [List.all_eq_true] at ho' ⊢
  intro i hi
  rw [List.mem_range,List.length_map] at hi
  have hs:=ho' i (List.mem_range.mpr hi)
  rw [strI_getD mod hi]
  simp only [stepB,Bool.and_eq_true,viK_str,strI_keys] at hs ⊢
  refine ⟨?_,hs.2⟩
  cases hy : ys.getD i vi0 with
  | ab n=>simp [strI,allI,allV,okN,moduleB_ne hm]
  | al n v=>rw [hy] at hs; exact hs.1
  | va n v=>rw [hy] at hs; exact hs.1
theorem str_ok {s : List SigI} {ys : List VI} {mod : List UInt8} (hm : moduleB mod = true) (hr : ReadsTo s ys) {i : Nat} (hi : i < ys.length) : VOk (meanI (strI mod (ys.getD i vi0))):=by
  have h1:=hr.2 i (by rw [← hr.1]; exact hi)
  have h2:=mean_ok h1.1 h1.2
  have hn : localB (viK (ys.getD i vi0)).2 = true:=by rw [← siOf_name,← itemOf_si h1.2]; exact h1.1
  cases hy : ys.getD i vi0 with
  | ab n =>
    rw [hy] at hn
    refine ⟨?_,by simp [strI,meanI,dep],by simp [strI,meanI,cnt]⟩
    simp only [strI,meanI,okV,nmB,hm,Bool.or_true,Bool.true_and]
    exact hn
  | al n v=>rw [hy] at h2; exact h2
  | va n v=>rw [hy] at h2; exact h2
theorem str_reads {s : List SigI} {ys : List VI} {mod : List UInt8} (hm : moduleB mod = true) (hr : ReadsTo s ys) : ReadsTo ((ys.map (strI mod)).map siOf) (ys.map (strI mod)):=by
  refine ⟨by simp,fun i hi=>?_⟩
  have hi' : i < ys.length:=by simpa using hi
  have e : ((ys.map (strI mod)).map siOf).getD i si0 = siOf ((ys.map (strI mod)).getD i vi0):=by simp [List.getD,hi']
  have h1:=hr.2 i (by rw [← hr.1]; exact hi')
  rw [e,strI_getD mod hi']
  refine ⟨?_,itemOf_of (str_ok hm hr hi')⟩
  rw [siOf_name,viK_str,← siOf_name,← itemOf_si h1.2]
  exact h1.1
theorem strX_ok {s : List SigI} {mod : List UInt8} (hs : ∀ x ∈ s,x.Ok) {o : Option (List VI)} (h : RdS s mod o) : (nrX o).length ≤ 8 ∧ (∀ x ∈ nrX o,x.Ok) ∧ totG (nrX o) ≤ 1600:=by
  cases o with
  | none=>exact ⟨by simp [nrX],by simp [nrX],by simp [nrX,totG]⟩
  | some zs =>
    obtain ⟨ys,h8,hr,hord,hm,rfl⟩:=h
    refine itemsX_ok hs (by simp [hr.1]; exact h8) fun i hi=>?_
    rw [List.length_map] at hi
    rw [strI_getD mod hi]
    refine ⟨str_ok hm hr hi,?_⟩
    have h1:=hr.2 i (by rw [← hr.1]; exact hi)
    rw [viK_str,← siOf_name,← itemOf_si h1.2]
    exact (hs _ (si_mem (by rw [← hr.1]; exact hi))).1
theorem ready {s : List SigI} {ys : List VI} (h : ReadsTo s ys) {i : Nat} (hi : i < s.length) : s.getD i si0 = siOf (ys.getD i vi0):=itemOf_si (h.2 i hi).2
theorem mix_get {Z D : List SigI} (x : SigI) {i : Nat} (hz : Z.length = i) : (sEs (Z ++ x :: D)).getD i [] = sE x:=by
  rw [sEs_app,Abs.getD_append_right (by rw [sEs_length]; omega),sEs_length,hz,Nat.sub_self]; rfl
theorem mix_put {Z D : List SigI} (x y : SigI) {i : Nat} (hz : Z.length = i) : (sEs (Z ++ x :: D)).set i (sE y) = sEs (Z ++ y :: D):=by
  rw [sEs_app,List.set_append_right _ _ (by rw [sEs_length]; omega),sEs_length,hz,Nat.sub_self,sEs_app]; rfl
set_option maxRecDepth 100000 in
theorem spec_l2Strong (s : List SigI) (ys : List VI) (hs : s.length ≤ 8) (hz : ∀ x ∈ s,sz x.typ ≤ 1048576) (hr : ReadsTo s ys) (mod : List UInt8) (A : List Box) : ACalls Tryz.prog 96 [.slice (sEs s),.str mod] A (fun r A'=>∃ B j,A' = A ++ B ∧ r = .own (A.length + j) ∧ j < B.length ∧ B.getD j .dead = .row 6 (sEs ((ys.map (strI mod)).map siOf)) 0):=by
  have hyl:=hr.1
  refine acalls_enterK (cf:=cf 37 [0,1,4,5,6,12,20]) foll Tryz.func96 Tryz.ntmps96 (by simp [cf]) ?_
  simp only [Tryz.f96,EnterK_some,zW,zX,zD,builtinA,isLeaf,const1,ustrA,simprocAttr,ti3,ti9,ti23,ti32,ti41,ca25,ca71,cf,Tryz.results96]
  refine callO_intro (spec_l2Copy s (by omega) hz _) ?_
  rintro r A' ⟨B,j,rfl,rfl,hj,hg⟩
  simp only [zW,zX,zD,builtinA,isLeaf,const1,ustrA,simprocAttr,ti3,ti9,ti23,ti32,ti41,ca25,ca71,cf,Tryz.results96]
  refine aloop_intro [1,5,6] (fun e A'=>∃ i B,i ≤ s.length ∧ e = [(1,.str mod),(5,.own (A.length + j)),(6,.int .i64 i)] ∧ A' = A ++ B ∧ j < B.length ∧ B.getD j .dead = .row 6 (sEs (((ys.take i).map (strI mod)).map siOf ++ s.drop i)) 0) (fun e _=>s.length - (intOf (Abs.look 6 e)).toNat) ?_ ?_
  · simp only [zW,zX,zD,builtinA,isLeaf,const1,ustrA,simprocAttr,ti3,ti9,ti23,ti32,ti41,ca25,ca71,cf,Tryz.results96]
    exact ⟨0,B,by omega,rfl,rfl,hj,by simpa using hg⟩
  · rintro e A' ⟨i,B,hi,rfl,rfl,hj,hg⟩
    have hzl : (((ys.take i).map (strI mod)).map siOf).length = i:=by simp; omega
    have hrl : (sEs (((ys.take i).map (strI mod)).map siOf ++ s.drop i)).length = s.length:=by rw [sEs_length]; simp; omega
    simp only [zW,zX,zD,builtinA,isLeaf,const1,ustrA,simprocAttr,ti3,ti9,ti23,ti32,ti41,ca25,ca71,cf,Tryz.results96,hg,hj,hrl]
    refine condK_intro (fun h2=>?_) (fun h2=>?_)
    · have hi2 : i < s.length:=by simpa using h2
      have hi1 : IntKind.i64.wrap ((i : Int) + 1) = ((i + 1 : Nat) : Int):=by rw [wrap64 (by omega) (by omega)]; rfl
      have pi : (0 : Int) ≤ (i : Int) ∧ (i : Int) < (s.length : Int):=⟨by omega,by omega⟩
      have hm:=mix_getD hzl hi2
      have hset:=fun x=>mix_set x hzl hi2
      have hdr:=mix_drop hi2
      have hsi:=ready hr hi2
      have htk : ((ys.take (i + 1)).map (strI mod)).map siOf = ((ys.take i).map (strI mod)).map siOf ++ [siOf (strI mod (ys.getD i vi0))]:=by
        rw [List.take_add_one,List.map_append,List.map_append]; simp [List.getD,show i < ys.length by omega]
      rw [hsi] at hm hdr
      generalize ys.getD i vi0 = y at *
      cases y with
      | ab n =>
        have hN:=fun A=>spec_l1Name0 mod n A
        have hset1:=hset ⟨2,n,ty0⟩
        have hm2:=mix_get (D:=s.drop (i + 1)) ⟨2,n,ty0⟩ hzl
        have hset2:=mix_put (D:=s.drop (i + 1)) ⟨2,n,ty0⟩ ⟨2,n,.mk 3 mod n []⟩ hzl
        have hl2 : ∀ x,(sEs (((ys.take i).map (strI mod)).map siOf ++ x :: s.drop (i + 1))).length = s.length:=fun x=>by rw [sEs_length,List.length_append,hzl]; simp; omega
        simp only [siOf,sE,ty0,enc,encs] at hm hset1 hm2 hset2 hN
        have hgj : ∀ X : Box,(B.set j X).getD j .dead = X:=fun X=>getD_set_self hj
        simp only [zW,zX,zD,builtinA,isLeaf,const1,ustrA,simprocAttr,ti3,ti9,ti23,ti32,ti41,ca25,ca71,cf,Tryz.results96,hm,hset1,hm2,hset2,hl2,hg,hj,hgj,hrl]
        refine ⟨pi,pi,⟨by omega,by omega,fun w hw=>by rw [List.mem_singleton.1 hw]⟩,pi,?_⟩
        refine callK_intro (by simp only [zW,zX,zD,builtinA,isLeaf,const1,ustrA,simprocAttr,Option.map_some]; rfl) (hN _) ?_ rfl; rintro v A' ⟨rfl,rfl⟩
        simp only [zW,zX,zD,builtinA,isLeaf,const1,ustrA,simprocAttr,ti3,ti9,ti23,ti32,ti41,ca25,ca71,cf,Tryz.results96,hm,hset1,hm2,hset2,hl2,hg,hj,hgj,hrl,List.set_set,hi1,LoopK_eq]
        have lf : ∀ w ∈ [AV.int .i64 3,AV.str mod,AV.str n,AV.slice []],isLeaf w = true:=by simp [isLeaf]
        refine ⟨pi,⟨by omega,by omega,fun w hw=>lf w hw⟩,⟨i + 1,_,by omega,rfl,rfl,by simpa using hj,by rw [hgj,htk]; simp [siOf,strI,toTy]⟩,?_⟩
        simp only [intOf]; omega
      | al n v =>
        simp only [siOf,sE] at hm
        simp only [zW,zX,zD,builtinA,isLeaf,const1,ustrA,simprocAttr,ti3,ti9,ti23,ti32,ti41,ca25,ca71,cf,Tryz.results96,hm,hg,hj,hrl,enc_length]
        refine ⟨pi,?_⟩
        simp only [zW,zX,zD,builtinA,isLeaf,const1,ustrA,simprocAttr,ti3,ti9,ti23,ti32,ti41,ca25,ca71,cf,Tryz.results96,hi1,LoopK_eq]
        refine ⟨⟨i + 1,B,by omega,rfl,rfl,hj,?_⟩,?_⟩
        · rw [hg,htk,hdr]; simp [strI]
        · simp only [intOf]; omega
      | va n v =>
        simp only [siOf,sE] at hm
        simp only [zW,zX,zD,builtinA,isLeaf,const1,ustrA,simprocAttr,ti3,ti9,ti23,ti32,ti41,ca25,ca71,cf,Tryz.results96,hm,hg,hj,hrl,enc_length]
        refine ⟨pi,?_⟩
        simp only [zW,zX,zD,builtinA,isLeaf,const1,ustrA,simprocAttr,ti3,ti9,ti23,ti32,ti41,ca25,ca71,cf,Tryz.results96,hi1,LoopK_eq]
        refine ⟨⟨i + 1,B,by omega,rfl,rfl,hj,?_⟩,?_⟩
        · rw [hg,htk,hdr]; simp [strI]
        · simp only [intOf]; omega
    · have hi2 : i = s.length:=by simp at h2; omega
      subst hi2
      simp only [zW,zX,zD,builtinA,isLeaf,const1,ustrA,simprocAttr,ti3,ti9,ti23,ti32,ti41,ca25,ca71,cf,Tryz.results96]
      refine ⟨B,j,rfl,rfl,hj,?_⟩
      rw [hg,List.drop_length,List.append_nil,← hyl,List.take_length]
set_option maxRecDepth 100000 in
theorem spec_StrengthenSig (s : List SigI) (hs : s.length ≤ 1048576) (ho : ∀ x ∈ s,x.Ok ∧ sz x.typ ≤ 1048576) (mod : List UInt8) (A : List Box) : ACalls Tryz.prog 66 [.slice (sEs s),.str mod] A (fun r A'=>∃ o,RdS s mod o ∧ r = nrR o ∧ A' = A):=by
  refine acalls_enter (cf:=cf 21 [0,1,4,5,13]) foll Tryz.func66 Tryz.ntmps66 (by simp [cf]) ?_
  simp only [Tryz.f66,EnterK_some,zW,zX,zD,builtinA,isLeaf,const1,ustrA,simprocAttr,ti23,ti41,ca24,ca94,ca95,ca96,cf,Tryz.results66]
  refine callO_intro (spec_SigValid s hs ho _) ?_
  rintro r A' ⟨rfl,hA⟩
  have hA:=hA.symm
  subst hA
  cases hb : sigB s with
  | false =>
    simp only [zW,zX,zD,builtinA,isLeaf,const1,ustrA,simprocAttr,ti23,ti41,ca24,ca94,ca95,ca96,cf,Tryz.results66]
    exact ⟨none,.inl hb,rfl⟩
  | true =>
    obtain ⟨ys,h8,hr,hord⟩:=sigB_yes hb
    have hys:=hr.1
    simp only [zW,zX,zD,builtinA,isLeaf,const1,ustrA,simprocAttr,ti23,ti41,ca24,ca94,ca95,ca96,cf,Tryz.results66]
    refine callO_intro (spec_ModuleName mod _) ?_
    rintro r A' ⟨rfl,hA⟩
    have hA:=hA.symm
    subst hA
    cases hm : moduleB mod with
    | false =>
      simp only [zW,zX,zD,builtinA,isLeaf,const1,ustrA,simprocAttr,ti23,ti41,ca24,ca94,ca95,ca96,cf,Tryz.results66]
      exact ⟨none,.inr hm,rfl⟩
    | true =>
      simp only [zW,zX,zD,builtinA,isLeaf,const1,ustrA,simprocAttr,ti23,ti41,ca24,ca94,ca95,ca96,cf,Tryz.results66]
      refine callO_intro (spec_l2Strong s ys h8 (fun x hx=>(ho x hx).2) hr mod _) ?_
      rintro r A' ⟨B,j,rfl,rfl,hj,hg⟩
      have h1 : (A ++ B).getD (A.length + j) .dead = .row 6 (sEs ((ys.map (strI mod)).map siOf)) 0:=by
        rw [Abs.getD_append_right (by omega),show A.length + j - A.length = j by omega]; exact hg
      have hfz : frzs [.own (A.length + j)] (A ++ B) = some ([.slice (sEs ((ys.map (strI mod)).map siOf))],A ++ B.set j (.row 6 (sEs ((ys.map (strI mod)).map siOf)) (sEs ((ys.map (strI mod)).map siOf)).length)):=by
        have h2 : (A ++ B).set (A.length + j) (.row 6 (sEs ((ys.map (strI mod)).map siOf)) (sEs ((ys.map (strI mod)).map siOf)).length) = A ++ B.set j (.row 6 (sEs ((ys.map (strI mod)).map siOf)) (sEs ((ys.map (strI mod)).map siOf)).length):=by simp [List.set_append]
        simp only [frzs,frzC,frz1,h1,h2]
      have hsg : sigB ((ys.map (strI mod)).map siOf) = true:=by rw [sigB_reads (by simp; omega) (str_reads hm hr)]; exact ordB_str hm hord
      have hzk : ∀ x ∈ (ys.map (strI mod)).map siOf,x.Ok ∧ sz x.typ ≤ 1048576:=fun x hx=>by
        obtain ⟨z,hz1,rfl⟩:=List.mem_map.1 hx
        obtain ⟨y,hy1,rfl⟩:=List.mem_map.1 hz1
        obtain ⟨k,hk,rfl⟩:=List.mem_iff_getElem.1 hy1
        have e : ys[k] = ys.getD k vi0:=by simp [List.getD,hk]
        have h3:=hr.2 k (by omega)
        rw [e]
        refine siOf_ok (str_ok hm hr hk) ?_
        rw [viK_str,← siOf_name,← itemOf_si h3.2]
        exact (ho _ (si_mem (by omega))).1.1
      simp only [zW,zX,zD,builtinA,isLeaf,const1,ustrA,simprocAttr,ti23,ti41,ca24,ca94,ca95,ca96,cf,Tryz.results66]
      refine callK_intro hfz (spec_l2Made _ (by simp; omega) hzk _) ?_ rfl
      rintro r A' ⟨rfl,rfl⟩
      rw [if_pos hsg]
      simp only [sgR]
      simp only [zW,zX,zD,builtinA,isLeaf,const1,ustrA,simprocAttr,ti23,ti41,ca24,ca94,ca95,ca96,cf,Tryz.results66]
      exact ⟨some (ys.map (strI mod)),⟨ys,h8,hr,hord,hm,rfl⟩,rfl⟩
end Go.Proofs.YtejbjgmgdbcddaaGreatDoor
/- The source of the drawn arguments. -/
set_option linter.unusedVariables false
set_option linter.unusedSimpArgs false
namespace Go.Proofs.YtejbjgmgdbcddaaGreatDoor
open Go.Abs
def Rd (bs : List UInt8) (p : Nat) : Box:=.cells [.aslice (byteRows bs),.int .i64 p]
theorem rd_closed (n : Nat) (bs : List UInt8) (p : Nat) : boxClosed n (Rd bs p) = true:=rfl
theorem byteRows_length (bs : List UInt8) : (byteRows bs).length = bs.length:=by simp [byteRows]
theorem byteRows_getD {bs : List UInt8} {i : Nat} (h : i < bs.length) : (byteRows bs).getD i [] = [.int .u8 ((bs.getD i 0).toNat : Nat)]:=by simp [byteRows,List.getD,h]
theorem byte_lt (b : UInt8) : (b.toNat : Int) < 256:=by have:=b.toNat_lt; omega
theorem xor_wrap {X : Nat} (h : X < 2 ^ 62) : 0 ≤ IntKind.i64.wrap ((BitVec.ofInt IntKind.i64.bits (X : Int) ^^^ BitVec.ofInt IntKind.i64.bits (IntKind.i64.wrap ((X : Int).tdiv 64))).toNat : Int):=by
  have h1 : ((X : Int).tdiv 64) = ((X / 64 : Nat) : Int):=rfl
  have h2 : X / 64 < 2 ^ 62:=by omega
  have h4 : IntKind.i64.wrap ((X / 64 : Nat) : Int) = ((X / 64 : Nat) : Int):=wrap64 (by omega) (by omega)
  rw [h1,h4]
  show 0 ≤ IntKind.i64.wrap ((BitVec.ofInt 64 (X : Int) ^^^ BitVec.ofInt 64 ((X / 64 : Nat) : Int)).toNat : Int)
  have e1 : (BitVec.ofInt 64 (X : Int)).toNat = X:=by rw [BitVec.toNat_ofInt]; omega
  have e2 : (BitVec.ofInt 64 ((X / 64 : Nat) : Int)).toNat = X / 64:=by rw [BitVec.toNat_ofInt]; omega
  rw [BitVec.toNat_xor,e1,e2]
  have h3:=Nat.xor_lt_two_pow h h2
  rw [wrap64 (by omega) (by omega)]
  omega
set_option maxRecDepth 100000 in
theorem spec_l17Open (bs : List UInt8) (A : List Box) : ACalls Tryz.prog 39 [.aslice (byteRows bs)] A (fun r A'=>∃ bs',bs'.length ≤ 2000 ∧ r = .ptr A.length 0 ∧ A' = A ++ [Rd bs' 0]):=by
  refine acalls_enterK (cf:=cf 11 [0,2,5]) foll Tryz.func39 Tryz.ntmps39 (by simp [cf]) ?_
  simp only [Tryz.f39,EnterK_some,zW,zX,zD,builtinA,isLeaf,const1,ustrA,simprocAttr,ti3,ti5,ti22,ti126,cf,Tryz.results39]
  refine condK_intro (fun h=>?_) (fun h=>?_)
  · simp [byteRows_length] at h
    simp only [zW,zX,zD,builtinA,isLeaf,const1,ustrA,simprocAttr,ti3,ti5,ti22,ti126,cf,Tryz.results39]
    refine ⟨⟨by simp [byteRows],by rw [byteRows_length]; omega⟩,bs.take 2000,(by rw [List.length_take]; omega),by simp [Rd,byteRows,List.map_take]⟩
  · have h' : bs.length ≤ 2000:=by simp [byteRows_length] at h; omega
    simp only [zW,zX,zD,builtinA,isLeaf,const1,ustrA,simprocAttr,ti3,ti5,ti22,ti126,cf,Tryz.results39]
    exact ⟨bs,h',rfl⟩
set_option maxRecDepth 100000 in
theorem spec_pick (bs : List UInt8) (p : Nat) (n : Int) (i : Nat) (A : List Box) (hi : i < A.length) (hA : A.getD i .dead = Rd bs p) (hp : p < 2 ^ 40) (hn : n < 2 ^ 40) :
    ACalls Tryz.prog 64 [.ptr i 0,.int .i64 n] A (fun r A'=>∃ j : Int,r = .int .i64 j ∧ 0 ≤ j ∧ (1 ≤ n → j < n) ∧ A' = A.set i (Rd bs (p + 1))):=by
  rw [Rd] at hA
  have hp1 : IntKind.i64.wrap ((p : Int) + 1) = ((p + 1 : Nat) : Int):=by rw [wrap64 (by omega) (by omega)]; rfl
  refine acalls_enter (cf:=cf 99 [0,1,4,5,6,24,36]) foll Tryz.func64 Tryz.ntmps64 (by simp [cf]) ?_
  simp only [Tryz.f64,EnterK_some,zW,zX,zD,builtinA,isLeaf,const1,ustrA,simprocAttr,ti3,ti5,ti22,ti126,cf,Tryz.results64]
  simp only [zW,zX,zD,builtinA,isLeaf,const1,ustrA,simprocAttr,ti3,ti5,ti22,ti126,cf,Tryz.results64,hA,hi,hp1]
  have hout : Outer A (A.set i (.cells [.aslice (byteRows bs),.int .i64 ((p + 1 : Nat) : Int)])):=outer_set0 A i _ rfl
  by_cases hn1 : n < 1
  · have e1 : decide (n < 1) = true:=decide_eq_true hn1
    simp only [zW,zX,zD,builtinA,isLeaf,const1,ustrA,simprocAttr,ti3,ti5,ti22,ti126,cf,Tryz.results64,hA,hi,hp1,e1]
    exact ⟨hout,0,rfl,by omega,by omega,rfl⟩
  · have e1 : decide (n < 1) = false:=decide_eq_false hn1
    simp only [zW,zX,zD,builtinA,isLeaf,const1,ustrA,simprocAttr,ti3,ti5,ti22,ti126,cf,Tryz.results64,hA,hi,hp1,e1,byteRows_length]
    by_cases hb : bs.length = 0
    · have e2 : decide ((bs.length : Int) = 0) = true:=decide_eq_true (by omega)
      simp only [zW,zX,zD,builtinA,isLeaf,const1,ustrA,simprocAttr,ti3,ti5,ti22,ti126,cf,Tryz.results64,hA,hi,hp1,e1,e2,byteRows_length]
      exact ⟨hout,0,rfl,by omega,by omega,rfl⟩
    · have e2 : decide ((bs.length : Int) = 0) = false:=decide_eq_false (by omega)
      have hp2 : IntKind.i64.wrap (((p + 1 : Nat) : Int) - 1) = (p : Int):=by rw [wrap64 (by omega) (by omega)]; omega
      simp only [zW,zX,zD,builtinA,isLeaf,const1,ustrA,simprocAttr,ti3,ti5,ti22,ti126,cf,Tryz.results64,hA,hi,hp1,hp2,e1,e2,byteRows_length]
      by_cases hk : p < bs.length
      · have e3 : decide ((p : Int) < bs.length) = true:=decide_eq_true (by omega)
        simp only [zW,zX,zD,builtinA,isLeaf,const1,ustrA,simprocAttr,ti3,ti5,ti22,ti126,cf,Tryz.results64,hA,hi,hp1,hp2,e1,e2,e3,byteRows_length,byteRows_getD hk]
        have hb0:=byte_lt (bs.getD p 0)
        rw [wrap64 (by omega) (by omega)]
        have hr0:=Int.tmod_nonneg n (show (0 : Int) ≤ ((bs.getD p 0).toNat : Nat) by omega)
        have hr1:=Int.tmod_lt_of_pos (((bs.getD p 0).toNat : Nat) : Int) (show (0 : Int) < n by omega)
        exact ⟨by omega,by omega,hout,_,rfl,hr0,fun _=>hr1,rfl⟩
      · have e3 : decide ((p : Int) < bs.length) = false:=decide_eq_false (by omega)
        simp only [zW,zX,zD,builtinA,isLeaf,const1,ustrA,simprocAttr,ti3,ti5,ti22,ti126,cf,Tryz.results64,hA,hi,hp1,hp2,e1,e2,e3,byteRows_length]
        refine .inl ⟨by kernel_rfl,by kernel_rfl,?_⟩
        obtain ⟨L,hL⟩ : ∃ L,L = bs.length:=⟨_,rfl⟩
        have hL0 : 0 < L:=by omega
        have hm0 : p % L < L:=Nat.mod_lt _ hL0
        have hm1 : (p * 7 + 3) % L < L:=Nat.mod_lt _ hL0
        have hq : p / L ≤ p:=Nat.div_le_self _ _
        obtain ⟨b0,hb0⟩ : ∃ b0 : Nat,b0 = (bs.getD (p % L) 0).toNat:=⟨_,rfl⟩
        obtain ⟨b1,hb1⟩ : ∃ b1 : Nat,b1 = (bs.getD ((p * 7 + 3) % L) 0).toNat:=⟨_,rfl⟩
        have hb0l : b0 < 256:=by rw [hb0]; exact (bs.getD (p % L) 0).toNat_lt
        have hb1l : b1 < 256:=by rw [hb1]; exact (bs.getD ((p * 7 + 3) % L) 0).toNat_lt
        have g0 : (byteRows bs).getD (p % L) [] = [.int .u8 (b0 : Int)]:=by rw [byteRows_getD (by omega),hb0]
        have g1 : (byteRows bs).getD ((p * 7 + 3) % L) [] = [.int .u8 (b1 : Int)]:=by rw [byteRows_getD (by omega),hb1]
        obtain ⟨q,hqd⟩ : ∃ q,q = p / L:=⟨_,rfl⟩
        have t0 : ((p : Int)).tmod (L : Int) = ((p % L : Nat) : Int):=rfl
        have t1 : (((p * 7 + 3 : Nat)) : Int).tmod (L : Int) = (((p * 7 + 3) % L : Nat) : Int):=rfl
        have t2 : ((p : Int)).tdiv (L : Int) = (q : Int):=by rw [hqd]; rfl
        have w0 : IntKind.i64.wrap (b0 : Int) = b0:=wrap64 (by omega) (by omega)
        have w1 : IntKind.i64.wrap ((b0 : Int) * 131) = ((b0 * 131 : Nat) : Int):=by rw [wrap64 (by omega) (by omega)]; omega
        have w2 : IntKind.i64.wrap (b1 : Int) = b1:=wrap64 (by omega) (by omega)
        have w3 : IntKind.i64.wrap ((b1 : Int) * 1117) = ((b1 * 1117 : Nat) : Int):=by rw [wrap64 (by omega) (by omega)]; omega
        have w4 : IntKind.i64.wrap ((p : Int) * 7) = ((p * 7 : Nat) : Int):=by rw [wrap64 (by omega) (by omega)]; omega
        have w5 : IntKind.i64.wrap (((p * 7 : Nat) : Int) + 3) = ((p * 7 + 3 : Nat) : Int):=by rw [wrap64 (by omega) (by omega)]; omega
        have w6 : IntKind.i64.wrap (((b0 * 131 : Nat) : Int) + ((b1 * 1117 : Nat) : Int)) = ((b0 * 131 + b1 * 1117 : Nat) : Int):=by rw [wrap64 (by omega) (by omega)]; omega
        have w7 : IntKind.i64.wrap ((p : Int) * 29) = ((p * 29 : Nat) : Int):=by rw [wrap64 (by omega) (by omega)]; omega
        have w8 : IntKind.i64.wrap (((b0 * 131 + b1 * 1117 : Nat) : Int) + ((p * 29 : Nat) : Int)) = ((b0 * 131 + b1 * 1117 + p * 29 : Nat) : Int):=by rw [wrap64 (by omega) (by omega)]; omega
        have w9 : IntKind.i64.wrap (q : Int) = q:=wrap64 (by omega) (by omega)
        have wa : IntKind.i64.wrap ((q : Int) * 53) = ((q * 53 : Nat) : Int):=by rw [wrap64 (by omega) (by omega)]; omega
        have wb : IntKind.i64.wrap (((b0 * 131 + b1 * 1117 + p * 29 : Nat) : Int) + ((q * 53 : Nat) : Int)) = ((b0 * 131 + b1 * 1117 + p * 29 + q * 53 : Nat) : Int):=by rw [wrap64 (by omega) (by omega)]; omega
        rw [← hL]
        simp only [zW,zX,zD,builtinA,isLeaf,const1,ustrA,simprocAttr,ti3,ti5,ti22,ti126,cf,Tryz.results64,hA,hi,hp1,hp2,e1,e2,e3,byteRows_length,← hL,t0,t1,t2,w0,w1,w2,w3,w4,w5,w6,w7,w8,w9,wa,wb,g0,g1]
        obtain ⟨X,hX⟩ : ∃ X,X = b0 * 131 + b1 * 1117 + p * 29 + q * 53:=⟨_,rfl⟩
        have hXl : X < 2 ^ 62:=by omega
        rw [← hX]
        have hx:=xor_wrap hXl
        refine ⟨by omega,⟨by omega,by omega⟩,by omega,⟨by omega,by omega⟩,by omega,by omega,hout,_,rfl,Int.tmod_nonneg n hx,fun _=>Int.tmod_lt_of_pos _ (by omega),rfl⟩
set_option maxRecDepth 100000 in
theorem spec_of (bs : List UInt8) (p : Nat) (l : List (List UInt8)) (i : Nat) (A : List Box) (hi : i < A.length) (hA : A.getD i .dead = Rd bs p) (hp : p < 2 ^ 40) (hl : 0 < l.length ∧ l.length < 1000) :
    ACalls Tryz.prog 42 [.ptr i 0,.slice (l.map fun s=>[.str s])] A (fun r A'=>∃ s,r = .str s ∧ s ∈ l ∧ A' = A.set i (Rd bs (p + 1))):=by
  have hll : (l.map fun s=>[AV.str s]).length = l.length:=by simp
  refine acalls_enter (cf:=cf 12 [0,1,4]) foll Tryz.func42 Tryz.ntmps42 (by simp [cf]) ?_
  simp only [Tryz.f42,EnterK_some,zW,zX,zD,builtinA,isLeaf,const1,ustrA,simprocAttr,ti9,ti88,ca64,cf,Tryz.results42]
  simp only [hll]
  refine callK_intro (by simp only [zW,zX,zD,builtinA,isLeaf,const1,ustrA,simprocAttr]; rfl) (spec_pick bs p _ i _ hi hA hp (by omega)) ?_ rfl
  rintro v A' ⟨j,rfl,h0,h1,rfl⟩
  obtain ⟨k,rfl⟩:=Int.eq_ofNat_of_zero_le h0
  have hk : k < l.length:=by have:=h1 (by omega); omega
  have hg : (l.map fun s=>[AV.str s]).getD k [] = [.str (l.getD k [])]:=by simp [List.getD,hk]
  simp only [zW,zX,zD,builtinA,isLeaf,const1,ustrA,simprocAttr,ti9,ti88,ca64,cf,Tryz.results42,hi,hll,hg]
  exact ⟨⟨by omega,by omega⟩,outer_set0 A i _ (rd_closed _ _ _),_,rfl,Abs.getD_mem hk⟩
set_option maxRecDepth 100000 in
theorem spec_num (bs : List UInt8) (p : Nat) (l : List Int) (i : Nat) (A : List Box) (hi : i < A.length) (hA : A.getD i .dead = Rd bs p) (hp : p < 2 ^ 40) (hl : 0 < l.length ∧ l.length < 1000) :
    ACalls Tryz.prog 69 [.ptr i 0,.slice (l.map fun s=>[.int .i64 s])] A (fun r A'=>∃ s,r = .int .i64 s ∧ s ∈ l ∧ A' = A.set i (Rd bs (p + 1))):=by
  have hll : (l.map fun s=>[AV.int .i64 s]).length = l.length:=by simp
  refine acalls_enter (cf:=cf 12 [0,1,4]) foll Tryz.func69 Tryz.ntmps69 (by simp [cf]) ?_
  simp only [Tryz.f69,EnterK_some,zW,zX,zD,builtinA,isLeaf,const1,ustrA,simprocAttr,ti3,ti128,ca64,cf,Tryz.results69]
  simp only [hll]
  refine callK_intro (by simp only [zW,zX,zD,builtinA,isLeaf,const1,ustrA,simprocAttr]; rfl) (spec_pick bs p _ i _ hi hA hp (by omega)) ?_ rfl
  rintro v A' ⟨j,rfl,h0,h1,rfl⟩
  obtain ⟨k,rfl⟩:=Int.eq_ofNat_of_zero_le h0
  have hk : k < l.length:=by have:=h1 (by omega); omega
  have hg : (l.map fun s=>[AV.int .i64 s]).getD k [] = [.int .i64 (l.getD k 0)]:=by simp [List.getD,hk]
  simp only [zW,zX,zD,builtinA,isLeaf,const1,ustrA,simprocAttr,ti3,ti128,ca64,cf,Tryz.results69,hi,hll,hg]
  exact ⟨⟨by omega,by omega⟩,outer_set0 A i _ (rd_closed _ _ _),_,rfl,Abs.getD_mem hk⟩
end Go.Proofs.YtejbjgmgdbcddaaGreatDoor
/- Drawn types. -/
set_option linter.unusedVariables false
set_option linter.unusedSimpArgs false
namespace Go.Proofs.YtejbjgmgdbcddaaGreatDoor
open Go.Abs
theorem enc_closed (t : Ty) (n : Nat) : (enc t).all (closed1 n) = true:=by cases t; rfl
theorem enc_drop (t : Ty) : List.drop 4 (enc t) = []:=by cases t; rw [enc]; rfl
set_option maxRecDepth 100000 in
theorem spec_l1Num (A : List Box) : ACalls Tryz.prog 72 [] A (fun r A'=>r = .agg (enc (toTy .num)) ∧ A' = A):=by
  rw [toTy,enc,encs]
  refine acalls_enter (cf:=cf 2 [0]) foll Tryz.func72 Tryz.ntmps72 (by simp [cf]) ?_
  simp only [Tryz.f72,EnterK_some,zW,zX,zD,builtinA,isLeaf,const1,Nat.reduceAdd,Nat.reduceMul,Nat.reduceSub,Nat.reduceLT,Nat.reduceLeDiff,Nat.reduceEqDiff,Nat.reduceBEq,Nat.reduceBNe,reduceIte,reduceCtorEq,Int.reduceToNat,Int.reduceLT,Int.reduceLE,Int.reduceEq,Int.reduceNe,Int.reduceNeg,ustrA,ti32,cf,Tryz.results72]
set_option maxRecDepth 100000 in
theorem spec_l1Name (m n : List UInt8) (A : List Box) : ACalls Tryz.prog 71 [.str m,.str n] A (fun r A'=>r = .agg (enc (toTy (.nm m n))) ∧ A' = A):=by
  rw [toTy,enc,encs]
  refine acalls_enter (cf:=cf 8 [0,1,4]) foll Tryz.func71 Tryz.ntmps71 (by simp [cf]) ?_
  simp only [Tryz.f71,EnterK_some,zW,zX,zD,builtinA,isLeaf,const1,Nat.reduceAdd,Nat.reduceMul,Nat.reduceSub,Nat.reduceLT,Nat.reduceLeDiff,Nat.reduceEqDiff,Nat.reduceBEq,Nat.reduceBNe,reduceIte,reduceCtorEq,Int.reduceToNat,Int.reduceLT,Int.reduceLE,Int.reduceEq,Int.reduceNe,Int.reduceNeg,ustrA,ti32,cf,Tryz.results71]
set_option maxRecDepth 100000 in
theorem spec_l1Fun (a b : Ty) (A : List Box) : ACalls Tryz.prog 99 [.agg (enc a),.agg (enc b)] A (fun r A'=>r = .agg (enc (.mk 2 [] [] [a,b])) ∧ A' = A):=by
  rw [enc,encs,encs,encs]
  refine acalls_enter (cf:=cf 9 [0,1,2,3,4]) foll Tryz.func99 Tryz.ntmps99 (by simp [cf]) ?_
  simp only [Tryz.f99,EnterK_some,zW,zX,zD,builtinA,isLeaf,const1,Nat.reduceAdd,Nat.reduceMul,Nat.reduceSub,Nat.reduceLT,Nat.reduceLeDiff,Nat.reduceEqDiff,Nat.reduceBEq,Nat.reduceBNe,reduceIte,reduceCtorEq,Int.reduceToNat,Int.reduceLT,Int.reduceLE,Int.reduceEq,Int.reduceNe,Int.reduceNeg,ustrA,ti30,ti32,cf,Tryz.results99]
  simp only [enc_take,enc_length]
  simp only [zW,zX,zD,builtinA,isLeaf,const1,Nat.reduceAdd,Nat.reduceMul,Nat.reduceSub,Nat.reduceLT,Nat.reduceLeDiff,Nat.reduceEqDiff,Nat.reduceBEq,Nat.reduceBNe,reduceIte,reduceCtorEq,Int.reduceToNat,Int.reduceLT,Int.reduceLE,Int.reduceEq,Int.reduceNe,Int.reduceNeg,ustrA,ti30,ti32,cf,Tryz.results99,frzL_enc,enc_take,enc_length]
  exact ⟨fun v hv=>enc_leaf a v hv,fun v hv=>enc_leaf b v hv⟩
end Go.Proofs.YtejbjgmgdbcddaaGreatDoor
