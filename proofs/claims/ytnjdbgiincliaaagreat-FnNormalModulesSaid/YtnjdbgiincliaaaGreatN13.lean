/- SigPl, SigOutA, OwnBd, SigOut, SigStr, SigSame, SpFind, PreFacts, NrSmall, RdOne, MatchP, AbFacts, StrSub, MtFacts. -/
import Derived.Test.YtnjdbgiincliaaaGreatN12
import Derived.Test.YtnjdbgiincliaaaGreatAbsW3
/- What a signature's method plain makes: items that are owned. -/
set_option linter.unusedVariables false
set_option linter.unusedSimpArgs false
namespace Go.Proofs.YtnjdbgiincliaaaGreat
open Go.Abs
def NewS (A : List Box) (x : SigI) (cs : List AV) (A' : List Box) : Prop :=
  A.length ≤ A'.length ∧ (∀ k,k < A.length → A'.getD k .dead = A.getD k .dead) ∧ ∃ v S,cs = sRow x v ∧ OwnK A' x.typ.kids v S ∧ S.Nodup ∧ (∀ i ∈ S,A.length ≤ i) ∧ (v = .nils ∨ ∃ i,v = .own i)
def PlI (y : VI) : Prop:=∀ A,ACalls Tryz.prog ((pickI 407 414 423) y) [viX y] A (fun r A'=>∃ cs,r = .agg cs ∧ NewS A (siOf y) cs A')
theorem prow_row (x : SigI) (w : VT) (h : x.typ = toTy w) (n : Nat) : ∃ v,prow w n true = [.int .i64 x.typ.kind,.str x.typ.mod,.str x.typ.name,v] ∧ (v = .nils ∨ ∃ i,v = .own i):=by
  rw [h]
  cases w with
  | num=>exact ⟨_,rfl,.inl rfl⟩
  | nm m k=>exact ⟨_,rfl,.inl rfl⟩
  | fn a b=>exact ⟨_,rfl,.inr ⟨_,rfl⟩⟩
theorem newS_of {A : List Box} {x : SigI} {w : VT} (h : x.typ = toTy w) {B0 B1 : List Box} {n : Nat} (hn : n = A.length + B0.length) : NewS A x (.int .i64 x.kind :: .str x.name :: prow w n true) (A ++ (B0 ++ (pbox w n ++ B1))):=by
  obtain ⟨v,hv,hv2⟩:=prow_row x w h n
  have ho:=own_plain w n true (A ++ (B0 ++ (pbox w n ++ B1))) fun k hk=>by
    rw [Abs.getD_append_right (by omega),Abs.getD_append_right (by omega),Abs.getD_append_left (by rw [pbox_length]; omega)]
    congr 1; omega
  rw [hv] at ho
  refine ⟨by simp,fun k hk=>Abs.getD_append_left hk,v,pidx w n,by rw [hv]; rfl,?_,pidx_nodup _ _,fun i hi=>by have:=pidx_in _ _ i hi; omega,hv2⟩
  rw [h]
  cases ht : toTy w with
  | mk k m n ks =>
    rw [ht,ownT_mk] at ho
    obtain ⟨v',e,hK⟩:=ho
    simp only [List.cons.injEq,and_true] at e
    rw [e.2.2.2]
    exact hK
set_option maxRecDepth 100000 in
theorem ab_plain (n : List UInt8) : PlI (.ab n):=fun A=>by
  show ACalls Tryz.prog 407 _ _ _
  rw [viX]
  refine acalls_enterK (cf:=cf 6 [0,1,2]) foll Tryz.func407 Tryz.ntmps407 (by simp [cf]) ?_
  simp only [Tryz.f407,EnterK_some,zW,zX,zD,builtinA,isLeaf,const1,ustrA,simprocAttr,ti9,ti69,ti354,cf,Tryz.results407]
  exact ⟨_,rfl,by simp,fun k hk=>Abs.getD_append_left hk,.nils,[],rfl,.inl ⟨rfl,rfl,rfl⟩,by simp,by simp,.inl rfl⟩
set_option maxRecDepth 100000 in
theorem al_plain (n : List UInt8) (v : VT) : PlI (.al n v):=fun A=>by
  show ACalls Tryz.prog 414 _ _ _
  have cv : ACalls Tryz.prog ((pickF 430 437 114) v) [vX v] (A ++ [Box.cells [.str n,.iface (vT v) (vX v)],Box.cells [.int .i64 0,.str [],.int .i64 0,.str [],.str [],.nils]]) (fun r A'=>r = .agg (prow v (A.length + 2) true) ∧ A' = A ++ (Box.cells [.str n,.iface (vT v) (vX v)] :: Box.cells [.int .i64 0,.str [],.int .i64 0,.str [],.str [],.nils] :: pbox v (A.length + 2))):=by
    have:=plainM v (A ++ [Box.cells [.str n,.iface (vT v) (vX v)],Box.cells [.int .i64 0,.str [],.int .i64 0,.str [],.str [],.nils]])
    simpa using this
  have hpl : ∀ n,(prow v n true).length = 4:=fun n=>prow_length _ _ _
  rw [viX]
  refine acalls_enterK (cf:=cf 9 [0,1,2]) foll Tryz.func414 Tryz.ntmps414 (by simp [cf]) ?_
  simp only [Tryz.f414,EnterK_some,zW,zX,zD,builtinA,isLeaf,const1,ustrA,simprocAttr,ti9,ti69,ti175,ti356,cf,Tryz.results414]
  refine .inr (drawE_intro [(false,0,1),(false,0,1),(false,0,0),(false,0,0),(true,0,0),(false,1,1),(true,1,1)] [A ++ [Box.cells [.str n,.iface (vT v) (vX v)],Box.cells [.int .i64 0,.str [],.int .i64 0,.str [],.str [],.nils]],A ++ (Box.cells [.str n,.iface (vT v) (vX v)] :: Box.cells [.int .i64 0,.str [],.int .i64 0,.str [],.str [],.nils] :: pbox v (A.length + 2)),A ++ (Box.cells [.str n,.iface (vT v) (vX v)] :: Box.cells (.int .i64 2 :: .str n :: prow v (A.length + 2) true) :: pbox v (A.length + 2))] 2 rfl (by kernel_rfl) (by kernel_rfl) (by kernel_rfl) (by kernel_rfl) (by kernel_rfl) (by kernel_rfl) ?_)
  simp only [zW,zX,zD,builtinA,isLeaf,const1,ustrA,simprocAttr,ti9,ti69,ti175,ti356,cf,Tryz.results414]
  refine wpG_invoke _ _ _ _ _ _ _ _ _ _ _ _ _ _ _ _ _ _ ?_
  simp only [zW,zX,zD,builtinA,isLeaf,const1,ustrA,simprocAttr,ti9,ti69,ti175,ti356,cf,Tryz.results414]
  refine meth_invE (met3 (by kernel_rfl) (by kernel_rfl) (by kernel_rfl) (by kernel_rfl) (by kernel_rfl) (by kernel_rfl)) cv rfl ?_
  simp only [zW,zX,zD,builtinA,isLeaf,const1,ustrA,simprocAttr,ti9,ti69,ti175,ti356,cf,Tryz.results414,hpl]
  rw [List.take_of_length_le (Nat.le_of_eq (hpl _))]
  have h:=newS_of (A:=A) (x:=siOf (.al n v)) (w:=v) rfl (B0:=[Box.cells [.str n,.iface (vT v) (vX v)],Box.cells (.int .i64 2 :: .str n :: prow v (A.length + 2) true)]) (B1:=[]) (n:=A.length + 2) rfl
  rw [List.append_nil] at h
  exact ⟨_,rfl,h⟩
set_option maxRecDepth 100000 in
theorem va_plain (n : List UInt8) (v : VT) : PlI (.va n v):=fun A=>by
  show ACalls Tryz.prog 423 _ _ _
  have cv : ACalls Tryz.prog ((pickF 430 437 114) v) [vX v] (A ++ [Box.cells [.str n,.iface (vT v) (vX v)],Box.cells [.int .i64 0,.str [],.int .i64 0,.str [],.str [],.nils]]) (fun r A'=>r = .agg (prow v (A.length + 2) true) ∧ A' = A ++ (Box.cells [.str n,.iface (vT v) (vX v)] :: Box.cells [.int .i64 0,.str [],.int .i64 0,.str [],.str [],.nils] :: pbox v (A.length + 2))):=by
    have:=plainM v (A ++ [Box.cells [.str n,.iface (vT v) (vX v)],Box.cells [.int .i64 0,.str [],.int .i64 0,.str [],.str [],.nils]])
    simpa using this
  have hpl : ∀ n,(prow v n true).length = 4:=fun n=>prow_length _ _ _
  rw [viX]
  refine acalls_enterK (cf:=cf 9 [0,1,2]) foll Tryz.func423 Tryz.ntmps423 (by simp [cf]) ?_
  simp only [Tryz.f423,EnterK_some,zW,zX,zD,builtinA,isLeaf,const1,ustrA,simprocAttr,ti9,ti69,ti175,ti357,cf,Tryz.results423]
  refine .inr (drawE_intro [(false,0,1),(false,0,1),(false,0,0),(false,0,0),(true,0,0),(false,1,1),(true,1,1)] [A ++ [Box.cells [.str n,.iface (vT v) (vX v)],Box.cells [.int .i64 0,.str [],.int .i64 0,.str [],.str [],.nils]],A ++ (Box.cells [.str n,.iface (vT v) (vX v)] :: Box.cells [.int .i64 0,.str [],.int .i64 0,.str [],.str [],.nils] :: pbox v (A.length + 2)),A ++ (Box.cells [.str n,.iface (vT v) (vX v)] :: Box.cells (.int .i64 3 :: .str n :: prow v (A.length + 2) true) :: pbox v (A.length + 2))] 2 rfl (by kernel_rfl) (by kernel_rfl) (by kernel_rfl) (by kernel_rfl) (by kernel_rfl) (by kernel_rfl) ?_)
  simp only [zW,zX,zD,builtinA,isLeaf,const1,ustrA,simprocAttr,ti9,ti69,ti175,ti357,cf,Tryz.results423]
  refine wpG_invoke _ _ _ _ _ _ _ _ _ _ _ _ _ _ _ _ _ _ ?_
  simp only [zW,zX,zD,builtinA,isLeaf,const1,ustrA,simprocAttr,ti9,ti69,ti175,ti357,cf,Tryz.results423]
  refine meth_invE (met3 (by kernel_rfl) (by kernel_rfl) (by kernel_rfl) (by kernel_rfl) (by kernel_rfl) (by kernel_rfl)) cv rfl ?_
  simp only [zW,zX,zD,builtinA,isLeaf,const1,ustrA,simprocAttr,ti9,ti69,ti175,ti357,cf,Tryz.results423,hpl]
  rw [List.take_of_length_le (Nat.le_of_eq (hpl _))]
  have h:=newS_of (A:=A) (x:=siOf (.va n v)) (w:=v) rfl (B0:=[Box.cells [.str n,.iface (vT v) (vX v)],Box.cells (.int .i64 3 :: .str n :: prow v (A.length + 2) true)]) (B1:=[]) (n:=A.length + 2) rfl
  rw [List.append_nil] at h
  exact ⟨_,rfl,h⟩
theorem plI : ∀ y,PlI y
  | .ab n=>ab_plain n
  | .al n v=>al_plain n v
  | .va n v=>va_plain n v
set_option maxRecDepth 100000 in
set_option maxHeartbeats 4000000 in
theorem impl_plainItems (ys : List VI) (hl : ys.length ≤ 1000) (A : List Box) : ACalls Tryz.prog 191 [.slice (vRows ys)] A (fun r A'=>∃ j,r = .own j ∧ NewG A (ys.map siOf) j A'):=by
  have hl2 : ((vRows ys).length : Int) ≤ 1000:=by rw [vRows_length]; omega
  refine ACalls.grow ?_
  refine acalls_enterK (cf:=cf 23 [0,2,3,4,5,9,10,11,12]) foll Tryz.func191 Tryz.ntmps191 (by simp [cf]) ?_
  simp only [Tryz.f191,EnterK_some,zW,zX,zD,builtinA,isLeaf,const1,ustrA,simprocAttr,ti3,ti50,ti69,ti139,ti158,cf,Tryz.results191]
  refine ⟨⟨by omega,by omega,by omega⟩,?_⟩
  refine aloop_intro [3,9,10,11] (fun e A'=>∃ (p : Nat) (rl : List (List AV)) (SL : List Nat) (g : Bool),p ≤ ys.length ∧ e = [(3,.own A.length),(9,.slice (vRows ys)),(10,.int .i64 ys.length),(11,.int .i64 p)] ∧ A'.getD A.length .dead = (bif g then .gr none 6 (rl ++ List.replicate (ys.length - p) zsi) else .row 6 (rl ++ List.replicate (ys.length - p) zsi) 0) ∧
    rl.length = p ∧ OwnG A' ((ys.map siOf).take p) rl SL ∧ SL.Nodup ∧ (∀ i ∈ SL,A.length < i) ∧ A.length < A'.length ∧ ∀ k,k < A.length → A'.getD k .dead = A.getD k .dead) (fun e _=>ys.length - (intOf (Abs.look 11 e)).toNat) ?_ ?_
  · simp only [zW,zX,zD,builtinA,isLeaf,const1,ustrA,simprocAttr,ti3,ti50,ti69,ti139,ti158,cf,Tryz.results191,vRows_length]
    refine ⟨0,[],[],false,by omega,rfl,?_,rfl,by simp [OwnG],by simp,by simp,by simp,fun k hk=>Abs.getD_append_left hk⟩
    rfl
  · rintro e A' ⟨p,rl,SL,g,hp,rfl,hb,hrl,hO,hN,hlo,hlt,hfr⟩
    by_cases hp2 : p < ys.length
    · have d2 : decide ((p : Int) < (ys.length : Int)) = true:=by simp; omega
      have he:=vRows_getD hp2
      have hsi : ((ys.map siOf).take p ++ [siOf (ys.getD p vi0)]) = (ys.map siOf).take (p + 1):=by
        rw [List.take_add_one]; simp [List.getD,hp2]
      generalize hyv : ys.getD p vi0 = y at *
      rw [vRow] at he
      simp only [zW,zX,zD,builtinA,isLeaf,const1,ustrA,simprocAttr,ti3,ti50,ti69,ti139,ti158,cf,Tryz.results191,vRows_length,d2,he]
      refine ⟨⟨by omega,by omega⟩,?_⟩
      refine wpO_invoke _ _ _ _ _ _ _ _ _ _ _ _ _ _ _ _ ?_
      simp only [zW,zX,zD,builtinA,isLeaf,const1,ustrA,simprocAttr,ti3,ti50,ti69,ti139,ti158,cf,Tryz.results191]
      refine methI_invK (metI3 (by kernel_rfl) (by kernel_rfl) (by kernel_rfl) (by kernel_rfl) (by kernel_rfl) (by kernel_rfl)) (plI y _) rfl (fun _=>rfl) ?_
      rintro r A3 ⟨cs,rfl,hle,hf3,v,S,rfl,hK,hND,hge,hv⟩
      have hi1 : IntKind.i64.wrap ((p : Int) + 1) = ((p + 1 : Nat) : Int):=by rw [wrap64 (by omega) (by omega)]; rfl
      have hb3 : A3.getD A.length .dead = (bif g then .gr none 6 (rl ++ List.replicate (ys.length - p) zsi) else .row 6 (rl ++ List.replicate (ys.length - p) zsi) 0):=by rw [hf3 _ hlt]; exact hb
      have hz : ∀ v,(rl ++ List.replicate (ys.length - p) zsi).set p (sRow (siOf y) v) = (rl ++ [sRow (siOf y) v]) ++ List.replicate (ys.length - (p + 1)) zsi:=fun v=>by
        rw [show ys.length - p = (ys.length - (p + 1)) + 1 by omega,List.replicate_succ,List.set_append_right _ _ (by omega),hrl,Nat.sub_self]
        simp
      have hlr : (rl ++ List.replicate (ys.length - p) zsi).length = ys.length:=by simp; omega
      have hdz : List.drop 6 ((rl ++ List.replicate (ys.length - p) zsi).getD p []) = []:=by
        rw [Abs.getD_append_right (by omega),hrl,Nat.sub_self,getD_repl (by omega)]; rfl
      have hpr : (0 : Int) ≤ (p : Int) ∧ (p : Int) < ((ys.length : Nat) : Int):=⟨by omega,by omega⟩
      have fin : ∀ (g' : Bool) (v : AV) (Z : Box),OwnK A3 (siOf y).typ.kids v S → Z = (bif g' then Box.gr none 6 ((rl ++ [sRow (siOf y) v]) ++ List.replicate (ys.length - (p + 1)) zsi) else .row 6 ((rl ++ [sRow (siOf y) v]) ++ List.replicate (ys.length - (p + 1)) zsi) 0) → ∃ (p' : Nat) (rl' : List (List AV)) (SL' : List Nat) (g' : Bool),p' ≤ ys.length ∧ [(3,AV.own A.length),(9,.slice (vRows ys)),(10,.int .i64 ys.length),(11,.int .i64 ((p + 1 : Nat) : Int))] = [(3,.own A.length),(9,.slice (vRows ys)),(10,.int .i64 ys.length),(11,.int .i64 p')] ∧ (A3.set A.length Z).getD A.length .dead = (bif g' then .gr none 6 (rl' ++ List.replicate (ys.length - p') zsi) else .row 6 (rl' ++ List.replicate (ys.length - p') zsi) 0) ∧
          rl'.length = p' ∧ OwnG (A3.set A.length Z) ((ys.map siOf).take p') rl' SL' ∧ SL'.Nodup ∧ (∀ i ∈ SL',A.length < i) ∧ A.length < (A3.set A.length Z).length ∧ ∀ k,k < A.length → (A3.set A.length Z).getD k .dead = A.getD k .dead:=fun g' v Z hK hZ=>by
        have hlt3 : A.length < A3.length:=by omega
        have low:=hO.low
        refine ⟨p + 1,rl ++ [sRow (siOf y) v],SL ++ S,g',by omega,rfl,?_,by simp [hrl],?_,?_,?_,by simpa using hlt3,fun k hk=>?_⟩
        · rw [getD_set_self hlt3]; exact hZ
        · rw [← hsi]
          refine (hO.frame fun i hi=>?_).append ?_
          · have h1:=hlo i hi
            have h2:=low i hi
            rw [getD_set_ne' (by omega),hf3 i h2]
          · rw [OwnG]
            refine ⟨v,[],S,[],rfl,by simp,hK.frame fun i hi=>?_,by simp [OwnG]⟩
            have:=hge i hi
            rw [getD_set_ne' (by omega)]
        · refine List.nodup_append.2 ⟨hN,hND,fun x hx y hy=>?_⟩
          have:=low x hx
          have:=hge y hy
          omega
        · intro i hi
          rcases List.mem_append.1 hi with hi | hi
          · exact hlo i hi
          · have:=hge i hi; omega
        · rw [getD_set_ne' (by omega),hf3 k (by omega),hfr k hk]
      have lf : ∀ w ∈ sRow (siOf y) (.slice []),isLeaf w = true:=by simp [sRow,isLeaf]
      have el : ∀ w ∈ sRow (siOf y) (.slice []),isElem w = true:=by simp [sRow,isElem,isLeaf]
      have el2 : ∀ i,∀ w ∈ sRow (siOf y) (.own i),isElem w = true:=by simp [sRow,isElem,isLeaf]
      have mz : ∀ {P : Prop},P → P ∧ ys.length - (intOf (AV.int .i64 ((p + 1 : Nat) : Int))).toNat < ys.length - (intOf (AV.int .i64 (p : Int))).toNat:=fun h=>⟨h,by simp only [intOf]; omega⟩
      rcases hv with rfl | ⟨i,rfl⟩
      · have hK2 : OwnK A3 (siOf y).typ.kids (.slice []) S:=by
          rcases hK with ⟨_,h1,h2⟩ | ⟨h0,_⟩ | ⟨i,_,_,h0,_⟩
          · exact .inr (.inl ⟨rfl,h1,h2⟩)
          · cases h0
          · cases h0
        have fin2:=fun g' Z=>fin g' (.slice []) Z hK2
        have hz2:=hz (.slice [])
        clear fin hz
        simp only [sRow] at hz2 fin2 lf el ⊢
        cases g with
        | false =>
          simp only [cond_false] at hb3
          simp only [zW,zX,zD,builtinA,isLeaf,const1,ustrA,simprocAttr,ti3,ti50,ti69,ti139,ti158,cf,Tryz.results191,hb3,hlr,hz2,hdz,hi1,LoopK_eq]
          exact ⟨hpr,⟨by omega,by omega,fun w hw=>lf w hw⟩,mz (by simpa only [cond_false,cond_true,List.append_assoc,List.cons_append,List.nil_append,List.length_set] using fin2 false _ rfl)⟩
        | true =>
          simp only [cond_true] at hb3
          simp only [zW,zX,zD,builtinA,isLeaf,const1,ustrA,simprocAttr,ti3,ti50,ti69,ti139,ti158,cf,Tryz.results191,hb3,hlr,hz2,hdz,hi1,LoopK_eq]
          exact ⟨hpr,⟨by omega,fun w hw=>el w hw⟩,mz (by simpa only [cond_false,cond_true,List.append_assoc,List.cons_append,List.nil_append,List.length_set] using fin2 true _ rfl)⟩
      · obtain ⟨rws,hg⟩ : ∃ rws,A3.getD i .dead = .gr none 4 rws:=by
          rcases hK with ⟨h0,_⟩ | ⟨h0,_⟩ | ⟨i',rws,_,h0,_,hg,_⟩
          · cases h0
          · cases h0
          · cases h0; exact ⟨rws,hg⟩
        have fin2:=fun g' Z=>fin g' (.own i) Z hK
        have hz2:=hz (.own i)
        clear fin hz
        simp only [sRow] at hz2 fin2 el2 ⊢
        cases g with
        | false =>
          simp only [cond_false] at hb3
          simp only [zW,zX,zD,builtinA,isLeaf,const1,ustrA,simprocAttr,ti3,ti50,ti69,ti139,ti158,cf,Tryz.results191,hb3,hg,hlr,hz2,hdz,hi1,LoopK_eq]
          exact ⟨hpr,⟨by omega,fun w hw=>el2 i w hw⟩,mz (by simpa only [cond_false,cond_true,List.append_assoc,List.cons_append,List.nil_append,List.length_set] using fin2 true _ rfl)⟩
        | true =>
          simp only [cond_true] at hb3
          simp only [zW,zX,zD,builtinA,isLeaf,const1,ustrA,simprocAttr,ti3,ti50,ti69,ti139,ti158,cf,Tryz.results191,hb3,hg,hlr,hz2,hdz,hi1,LoopK_eq]
          exact ⟨hpr,⟨by omega,fun w hw=>el2 i w hw⟩,mz (by simpa only [cond_false,cond_true,List.append_assoc,List.cons_append,List.nil_append,List.length_set] using fin2 true _ rfl)⟩
    · have d2 : decide ((p : Int) < (ys.length : Int)) = false:=by simp; omega
      have e : p = ys.length:=by omega
      subst e
      simp only [zW,zX,zD,builtinA,isLeaf,const1,ustrA,simprocAttr,ti3,ti50,ti69,ti139,ti158,cf,Tryz.results191,d2]
      rw [List.take_of_length_le (by simp)] at hO
      have low:=hO.low
      have hnd : (A.length :: SL).Nodup:=List.nodup_cons.2 ⟨fun h=>by have:=hlo _ h; omega,hN⟩
      have hge : ∀ i ∈ A.length :: SL,A.length ≤ i:=fun i hi=>by
        rcases List.mem_cons.1 hi with rfl | hi
        · exact Nat.le_refl _
        · have:=hlo i hi; omega
      have e0 : rl ++ List.replicate (ys.length - ys.length) zsi = rl:=by simp
      rw [e0] at hb
      cases g with
      | false=>exact .inr ⟨A.length,6,rl,hb,A.length,rfl,by simp; omega,fun k hk=>by rw [getD_set_ne' (by omega)]; exact hfr k hk,rl,SL,getD_set_self hlt,hO.frame fun i hi=>by have:=hlo i hi; rw [getD_set_ne' (by omega)],hnd,hge⟩
      | true=>exact .inl ⟨A.length,rfl,by omega,hfr,rl,SL,hb,hO,hnd,hge⟩
end Go.Proofs.YtnjdbgiincliaaaGreat
/- A signature's answer in memory of its own. -/
set_option linter.unusedVariables false
set_option linter.unusedSimpArgs false
namespace Go.Proofs.YtnjdbgiincliaaaGreat
open Go.Abs
theorem OwnK.free {A : List Box} {ks : List Ty} {v : AV} {S : List Nat} (h : OwnK A ks v S) : ifree v = true ∧ ∀ i ∈ S,ifreeB (A.getD i .dead) = true:=by
  have h2:=OwnT.free (ownT_mk.2 ⟨v,rfl,h⟩ : OwnT A (.mk 0 [] [] ks) _ S)
  simpa [ifrees,ifree] using h2
theorem OwnG.free {A : List Box} : ∀ {xs : List SigI} {rows : List (List AV)} {S : List Nat},OwnG A xs rows S → rows.all ifrees = true ∧ ∀ i ∈ S,ifreeB (A.getD i .dead) = true
  | [],rows,S,h=>by rw [OwnG] at h; rw [h.1,h.2]; exact ⟨rfl,by simp⟩
  | t :: ks,rows,S,h=>by
    rw [OwnG] at h
    obtain ⟨v,rows',S1,S2,rfl,rfl,h3,h4⟩:=h
    have a:=h3.free
    have b:=OwnG.free h4
    refine ⟨by rw [List.all_cons,b.1]; simp [sRow,ifrees,ifree,a.1],fun j hj=>?_⟩
    rcases List.mem_append.1 hj with hj | hj
    · exact a.2 j hj
    · exact b.2 j hj
theorem OwnI.free {A : List Box} {xs : List SigI} {v : AV} {S : List Nat} (h : OwnI A xs v S) : ifree v = true ∧ ∀ i ∈ S,ifreeB (A.getD i .dead) = true:=by
  rcases h with ⟨rfl,_,rfl⟩ | ⟨i,rows,S',rfl,rfl,h3,h4⟩
  · exact ⟨rfl,by simp⟩
  · refine ⟨rfl,fun j hj=>?_⟩
    have h5:=h4.free
    rcases List.mem_cons.1 hj with rfl | hj
    · rw [h3]; exact h5.1
    · exact h5.2 j hj
def SgOut (A : List Box) (xs : List SigI) (ok : Bool) (r : AV) (A' : List Box) : Prop :=
  ∃ v S,r = .tuple [v,.bool ok] ∧ OwnI A' xs v S ∧ S.Nodup ∧ (∀ i ∈ S,A.length ≤ i) ∧ A.length ≤ A'.length ∧ ∀ i,i < A.length → A'.getD i .dead = A.getD i .dead
def SgNew (A : List Box) (xs : List SigI) (ok : Bool) (r : AV) (A' : List Box) : Prop :=
  ∃ B v S,A' = A ++ B ∧ (∀ b ∈ B,ifreeB b = true) ∧ r = .tuple [v,.bool ok] ∧ ifree v = true ∧ OwnI A' xs v S ∧ S.Nodup ∧ ∀ i ∈ S,A.length ≤ i ∧ i < A'.length
theorem sgNew_of {A A' : List Box} {xs : List SigI} {ok : Bool} {r : AV} (h : SgOut A xs ok r A') : ∃ keep,SgNew A xs ok r (only keep A'):=by
  obtain ⟨v,S,rfl,hT,hN,hge,hl,hf⟩:=h
  refine ⟨fun k=>decide (k < A.length) || decide (k ∈ S),?_⟩
  have hfree:=hT.free
  have hlow:=hT.low
  generalize hkp : (fun k=>decide (k < A.length) || decide (k ∈ S)) = keep
  have k1 : ∀ k,k < A.length → keep k = true:=fun k hk=>by rw [← hkp]; simp [hk]
  have k2 : ∀ k,k ∈ S → keep k = true:=fun k hk=>by rw [← hkp]; simp [hk]
  have k3 : ∀ k,A.length ≤ k → keep k = true → k ∈ S:=fun k h1 h2=>by
    rw [← hkp] at h2
    simp at h2
    rcases h2 with h2 | h2
    · omega
    · exact h2
  have e:=split_front (A:=A) (A':=only keep A') (by rw [only_length]; exact hl) (fun k hk=>by rw [only_getD,if_pos (k1 k hk)]; exact hf k hk)
  refine ⟨_,v,S,e,fun b hb=>?_,rfl,hfree.1,hT.frame fun i hi=>by rw [only_getD,if_pos (k2 i hi)],hN,fun i hi=>⟨hge i hi,by rw [only_length]; exact hlow i hi⟩⟩
  obtain ⟨i,hi,rfl⟩:=List.mem_iff_getElem.1 hb
  rw [List.getElem_drop]
  have hi2 : A.length + i < (only keep A').length:=by simp at hi; omega
  have e2 : (only keep A')[A.length + i] = (only keep A').getD (A.length + i) .dead:=by simp [List.getD,hi2]
  rw [e2,only_getD]
  split
  · rename_i hk; exact hfree.2 _ (k3 _ (by omega) hk)
  · rfl
theorem sg_call {f : FuncId} {args : List AV} {xs : List SigI} {ok : Bool} (h : ∀ A,ACalls Tryz.prog f args A (fun r A'=>SgOut A xs ok r A')) (A : List Box) : ACalls Tryz.prog f args A (SgNew A xs ok) :=
  ACalls.only ((h A).mono fun r A' h=>sgNew_of h)
set_option maxRecDepth 100000 in
theorem impl_plainSig (ys : List VI) (hl : ys.length ≤ 1000) (A : List Box) : ACalls Tryz.prog 103 [.slice (vRows ys)] A (fun r A'=>∃ j,r = .own j ∧ NewG A (ys.map siOf) j A'):=by
  refine acalls_enterK (cf:=cf 5 [0,2]) foll Tryz.func103 Tryz.ntmps103 (by simp [cf]) ?_
  simp only [Tryz.f103,EnterK_some,zW,zX,zD,builtinA,isLeaf,const1,ustrA,simprocAttr,ca191,cf,Tryz.results103]
  refine callO_intro (impl_plainItems ys hl _) ?_
  rintro r A' ⟨j,rfl,h⟩
  simp only [zW,zX,zD,builtinA,isLeaf,const1,ustrA,simprocAttr,ca191,cf,Tryz.results103]
  exact ⟨j,rfl,h⟩
def nrX : Option (List VI) → List SigI
  | some zs=>zs.map siOf
  | none=>[]
end Go.Proofs.YtnjdbgiincliaaaGreat
/- Lists of bindings as memory of their own. -/
set_option linter.unusedVariables false
set_option linter.unusedSimpArgs false
namespace Go.Proofs.YtnjdbgiincliaaaGreat
open Go.Abs
def bRow (b : BdI) (v : AV) : List AV:=[.str b.mod,.str b.name,.int .i64 b.typ.kind,.str b.typ.mod,.str b.typ.name,v]
def OwnB (A : List Box) : List BdI → List (List AV) → List Nat → Prop
  | [],rows,S=>rows = [] ∧ S = []
  | b :: bs,rows,S=>∃ v rows' S1 S2,rows = bRow b v :: rows' ∧ S = S1 ++ S2 ∧ OwnK A b.typ.kids v S1 ∧ OwnB A bs rows' S2
theorem OwnB.frame {A A' : List Box} : ∀ {bs : List BdI} {rows : List (List AV)} {S : List Nat},OwnB A bs rows S → (∀ i ∈ S,A'.getD i .dead = A.getD i .dead) → OwnB A' bs rows S
  | [],rows,S,h,hf=>h
  | b :: bs,rows,S,h,hf=>by
    rw [OwnB] at h ⊢
    obtain ⟨v,rows',S1,S2,h1,rfl,h3,h4⟩:=h
    exact ⟨v,rows',S1,S2,h1,rfl,h3.frame fun j hj=>hf j (by simp [hj]),OwnB.frame h4 fun j hj=>hf j (by simp [hj])⟩
theorem OwnB.length {A : List Box} : ∀ {bs : List BdI} {rows : List (List AV)} {S : List Nat},OwnB A bs rows S → rows.length = bs.length
  | [],rows,S,h=>by rw [OwnB] at h; rw [h.1]; rfl
  | b :: bs,rows,S,h=>by
    rw [OwnB] at h
    obtain ⟨v,rows',S1,S2,rfl,h2,h3,h4⟩:=h
    simp [OwnB.length h4]
theorem OwnB.low {A : List Box} : ∀ {bs : List BdI} {rows : List (List AV)} {S : List Nat},OwnB A bs rows S → ∀ i ∈ S,i < A.length
  | [],rows,S,h=>by rw [OwnB] at h; rw [h.2]; simp
  | b :: bs,rows,S,h=>by
    rw [OwnB] at h
    obtain ⟨v,rows',S1,S2,h1,rfl,h3,h4⟩:=h
    intro j hj
    rcases List.mem_append.1 hj with hj | hj
    · exact h3.low j hj
    · exact OwnB.low h4 j hj
theorem OwnB.append {A : List Box} : ∀ {k1 k2 : List BdI} {r1 r2 : List (List AV)} {S1 S2 : List Nat},OwnB A k1 r1 S1 → OwnB A k2 r2 S2 → OwnB A (k1 ++ k2) (r1 ++ r2) (S1 ++ S2)
  | [],k2,r1,r2,S1,S2,h1,h2=>by
    rw [OwnB] at h1
    rw [h1.1,h1.2]; exact h2
  | t :: k1,k2,r1,r2,S1,S2,h1,h2=>by
    rw [OwnB] at h1
    obtain ⟨v,r',T1,T2,rfl,rfl,h3,h4⟩:=h1
    rw [List.cons_append,OwnB]
    exact ⟨v,r' ++ r2,T1,T2 ++ S2,by simp,by simp,h3,OwnB.append h4 h2⟩
theorem OwnB.view {A : List Box} : ∀ {bs : List BdI} {rows : List (List AV)} {S : List Nat},OwnB A bs rows S → ∀ k,k < rows.length → ∀ j,j < 6 → View A ((rows.getD k []).getD j .bot) ((bE (bs.getD k bd0)).getD j .bot)
  | [],rows,S,h=>by rw [OwnB] at h; rw [h.1]; intro k hk; simp at hk
  | b :: bs,rows,S,h=>by
    rw [OwnB] at h
    obtain ⟨v,rows',S1,S2,rfl,h2,h3,h4⟩:=h
    intro k hk j hj
    cases k with
    | zero =>
      have hv:=h3.view
      match j,hj with
      | 0,_=>exact .leaf _ rfl
      | 1,_=>exact .leaf _ rfl
      | 2,_=>exact .leaf _ rfl
      | 3,_=>exact .leaf _ rfl
      | 4,_=>exact .leaf _ rfl
      | 5,_=>exact hv
    | succ k =>
      have:=OwnB.view h4 k (by simpa using hk) j hj
      simpa using this
end Go.Proofs.YtnjdbgiincliaaaGreat
/- What NormalSig and the like hand back: a list of items that is new memory. -/
set_option linter.unusedVariables false
set_option linter.unusedSimpArgs false
namespace Go.Proofs.YtnjdbgiincliaaaGreat
open Go.Abs
theorem rdN_len {s : List SigI} {zs : List VI} (h : RdN s (some zs)) : zs.length ≤ 8:=by
  obtain ⟨ys,h8,hr,_,hn⟩:=h
  have:=normL_len hn
  have:=hr.1
  omega
set_option maxRecDepth 100000 in
theorem impl_NormalSig (s : List SigI) (hs : s.length ≤ 1048576) (ho : ∀ x ∈ s,x.Ok ∧ sz x.typ ≤ 1048576) (A : List Box) : ACalls Tryz.prog 42 [.slice (sEs s)] A (fun r A'=>∃ o,RdN s o ∧ SgOut A (nrX o) o.isSome r A'):=by
  refine acalls_enterK (cf:=cf 15 [0,2,3,4,5,12]) foll Tryz.func42 Tryz.ntmps42 (by simp [cf]) ?_
  simp only [Tryz.f42,EnterK_some,zW,zX,zD,builtinA,isLeaf,const1,ustrA,simprocAttr,ca103,ca117,cf,Tryz.results42]
  refine callO_intro (impl_readNormal s hs ho _) ?_
  rintro r A1 ⟨B,rfl,⟨zs,j,hrd,rfl,hj,hg⟩ | ⟨hrd,rfl⟩⟩
  · have hzl:=(rdN_len hrd)
    simp only [zW,zX,zD,builtinA,isLeaf,const1,ustrA,simprocAttr,ca103,ca117,cf,Tryz.results42]
    have h1 : (A ++ B).getD (A.length + j) .dead = .row 1 (vRows zs) 0:=by
      rw [Abs.getD_append_right (by omega),show A.length + j - A.length = j by omega]; exact hg
    have hfz : frzs [.own (A.length + j)] (A ++ B) = some ([.slice (vRows zs)],A ++ B.set j (.row 1 (vRows zs) (vRows zs).length)):=by
      have h2 : (A ++ B).set (A.length + j) (.row 1 (vRows zs) (vRows zs).length) = A ++ B.set j (.row 1 (vRows zs) (vRows zs).length):=by simp [List.set_append]
      simp only [frzs,frzC,frz1,h1,h2]
    refine callK_intro hfz (impl_plainSig zs (by omega) _) ?_ rfl
    rintro r A' ⟨i,rfl,hle,hf,rows,S,hgi,hO,hN,hge⟩
    simp only [zW,zX,zD,builtinA,isLeaf,const1,ustrA,simprocAttr,ca103,ca117,cf,Tryz.results42]
    simp only [List.length_append,List.length_set] at hle hge
    exact ⟨some zs,hrd,_,i :: S,rfl,.inr ⟨i,rows,S,rfl,rfl,hgi,hO⟩,hN,fun x hx=>by have:=hge x hx; omega,by omega,fun x hx=>by rw [hf x (by simp; omega),Abs.getD_append_left hx]⟩
  · simp only [zW,zX,zD,builtinA,isLeaf,const1,ustrA,simprocAttr,ca103,ca117,cf,Tryz.results42]
    exact ⟨none,hrd,_,[],rfl,.inl ⟨rfl,rfl,rfl⟩,by simp,by simp,by simp,fun i hi=>Abs.getD_append_left hi⟩
end Go.Proofs.YtnjdbgiincliaaaGreat
/- Strengthened signatures, by the program and by the model. -/
set_option linter.unusedVariables false
set_option linter.unusedSimpArgs false
namespace Go.Proofs.YtnjdbgiincliaaaGreat
open Go.Abs
theorem ready {s : List SigI} {ys : List VI} (h : ReadsTo s ys) {i : Nat} (hi : i < s.length) : s.getD i si0 = siOf (ys.getD i vi0):=itemOf_si (h.2 i hi).2
end Go.Proofs.YtnjdbgiincliaaaGreat
/- Equality of signatures: the program's and the model's. -/
set_option linter.unusedVariables false
set_option linter.unusedSimpArgs false
namespace Go.Proofs.YtnjdbgiincliaaaGreat
open Go.Abs
noncomputable def siB (x y : SigI) : Bool:=(decide (x.kind = y.kind) && decide (x.name = y.name)) && decide (x.typ = y.typ)
noncomputable def sisB : List SigI → List SigI → Bool
  | [],[]=>true
  | x :: a,y :: b=>siB x y && sisB a b
  | _,_=>false
theorem sisB_len : ∀ {a b : List SigI},a.length ≠ b.length → sisB a b = false
  | [],[],h=>absurd rfl h
  | [],_ :: _,_=>by simp [sisB]
  | _ :: _,[],_=>by simp [sisB]
  | x :: a,y :: b,h=>by simp [sisB,sisB_len (a:=a) (b:=b) (by simpa using h)]
end Go.Proofs.YtnjdbgiincliaaaGreat
/- The model's FindType and FindVal. -/
set_option linter.unusedVariables false
set_option linter.unusedSimpArgs false
namespace Go.Proofs.YtnjdbgiincliaaaGreat
open Go.Abs
theorem rdN_ex (s : List SigI) : ∃ o,RdN s o:=by
  cases hb : sigB s with
  | false=>exact ⟨none,rdN_bad hb⟩
  | true =>
    obtain ⟨ys,h8,hr,hord⟩:=sigB_yes hb
    cases hn : normL [] ys with
    | none=>exact ⟨none,.inr ⟨ys,h8,hr,.inr hn⟩⟩
    | some zs=>exact ⟨some zs,ys,h8,hr,hord,hn⟩
theorem rdN_vok {s : List SigI} {zs : List VI} (h : RdN s (some zs)) : zs.length ≤ 8 ∧ ∀ i,i < zs.length → VOk (meanI (zs.getD i vi0)):=by
  obtain ⟨ys,h8,hr,hord,hn⟩:=h
  obtain ⟨hf,rfl⟩:=normL_fit hn
  have hy : ∀ i,i < ys.length → VOk (meanI (ys.getD i vi0)):=fun k hk=>by
    have:=hr.2 k (by rw [← hr.1]; exact hk)
    exact mean_ok this.1 this.2
  refine ⟨by rw [zsN_length,hr.1]; exact h8,fun i hi=>?_⟩
  rw [zsN_length] at hi
  rw [zsN_getD ys hi]
  exact zsN_ok hy hf hi
end Go.Proofs.YtnjdbgiincliaaaGreat
/- What a name stands for in the first items of a signature. -/
set_option linter.unusedVariables false
set_option linter.unusedSimpArgs false
namespace Go.Proofs.YtnjdbgiincliaaaGreat
open Go.Abs
theorem sisB_iff : ∀ (a b : List SigI),sisB a b = true ↔ a = b
  | [],[]=>by simp [sisB]
  | [],_ :: _=>by simp [sisB]
  | _ :: _,[]=>by simp [sisB]
  | x :: a,y :: b=>by
    rw [sisB,Bool.and_eq_true,sisB_iff a b,siB]
    obtain ⟨k,n,t⟩:=x
    obtain ⟨k',n',t'⟩:=y
    simp [and_assoc]
theorem sisB_refl (a : List SigI) : sisB a a = true:=(sisB_iff a a).2 rfl
theorem szIs_bd : ∀ (l : List SigI) (b : Nat),(∀ x ∈ l,szI x ≤ b) → szIs l ≤ l.length * b
  | [],b,_=>by simp [szIs]
  | x :: l,b,h=>by
    have h1:=h x (by simp)
    have h2:=szIs_bd l b fun y hy=>h y (by simp [hy])
    simp only [szIs,List.map_cons,List.sum_cons,List.length_cons] at h2 ⊢
    rw [Nat.succ_mul]; omega
theorem smx_all {s : List SigI} (hs : s.length ≤ 9) (hm : ∀ x ∈ s,SmX x) : (∀ x ∈ s,x.Ok ∧ sz x.typ ≤ 1048576) ∧ s.length + szIs s ≤ 1048576:=by
  refine ⟨fun x hx=>(hm x hx).ok,?_⟩
  have h2:=szIs_bd s 300 fun x hx=>by
    have h3 : x.name.length ≤ 2 ∧ sz x.typ ≤ 200:=hm x hx
    rw [szI]; omega
  omega
theorem vi_sz {y : VI} (h : VOk (meanI y)) : sz (siOf y).typ ≤ 200:=by
  cases y with
  | ab n=>simp [siOf,ty0,sz,szs]
  | al n v =>
    have h1:=sz_toTyS v h.1
    have h2:=h.cnt
    simp only [meanI] at h2
    simp only [siOf]; omega
  | va n v =>
    have h1:=sz_toTyS v h.1
    have h2:=h.cnt
    simp only [meanI] at h2
    simp only [siOf]; omega
end Go.Proofs.YtnjdbgiincliaaaGreat
namespace Go.Proofs.YtnjdbgiincliaaaGreat
open Go.Abs
end Go.Proofs.YtnjdbgiincliaaaGreat
/- The normal form of a small signature is small. -/
set_option linter.unusedVariables false
set_option linter.unusedSimpArgs false
namespace Go.Proofs.YtnjdbgiincliaaaGreat
open Go.Abs
theorem nr_small {s : List SigI} (hn : ∀ x ∈ s,x.name.length ≤ 2) {o : Option (List VI)} (h : RdN s o) : (nrX o).length ≤ 8 ∧ ∀ x ∈ nrX o,SmX x:=by
  cases o with
  | none=>simp [nrX]
  | some zs =>
    have hv:=rdN_vok h
    obtain ⟨ys,h8,hr,hord,hq⟩:=h
    have hk:=normL_keys hq
    refine ⟨by simp [nrX]; exact hv.1,fun x hx=>?_⟩
    simp only [nrX] at hx
    obtain ⟨y,hy,rfl⟩:=List.mem_map.1 hx
    obtain ⟨i,hi,rfl⟩:=List.mem_iff_getElem.1 hy
    have e : zs[i] = zs.getD i vi0:=by simp [List.getD,hi]
    rw [e]
    refine ⟨?_,vi_sz (hv.2 i hi)⟩
    have hl : zs.length = ys.length:=by simpa using congrArg List.length hk
    rw [siOf_name,keys_getD hk hi,← siOf_name,← itemOf_si (hr.2 i (by have:=hr.1; omega)).2]
    exact hn _ (si_mem (by have:=hr.1; omega))
end Go.Proofs.YtnjdbgiincliaaaGreat
/- A normal form is only one. -/
set_option linter.unusedVariables false
set_option linter.unusedSimpArgs false
namespace Go.Proofs.YtnjdbgiincliaaaGreat
open Go.Abs
theorem rdN_oo {s : List SigI} {o o' : Option (List VI)} (h : RdN s o) (h' : RdN s o') : o = o':=by
  cases o with
  | none =>
    cases o' with
    | none=>rfl
    | some zs=>exact absurd h (rdN_not h')
  | some zs =>
    cases o' with
    | none=>exact absurd h' (rdN_not h)
    | some zs'=>rw [rdN_one h h']
end Go.Proofs.YtnjdbgiincliaaaGreat
/- What abstract types stand for in another signature, as data; both signatures read by the program. -/
set_option linter.unusedVariables false
set_option linter.unusedSimpArgs false
namespace Go.Proofs.YtnjdbgiincliaaaGreat
open Go.Abs
theorem lookB_app (q : BNm) : ∀ a b : List (BNm × VT),lookB q (a ++ b) = (lookB q a).orElse fun _=>lookB q b
  | [],b=>by simp [lookB]
  | (p,v) :: a,b=>by
    simp only [List.cons_append,lookB]
    split
    · rfl
    · exact lookB_app q a b
theorem lookB_none {q : BNm} {a : List (BNm × VT)} (h : ∀ x ∈ a,x.1 ≠ q) : lookB q a = none:=by
  rcases Classical.em (lookB q a = none) with h' | h'
  · exact h'
  · obtain ⟨x,hx,hq⟩:=look_mem h'
    exact absurd hq (h x hx)
end Go.Proofs.YtnjdbgiincliaaaGreat
namespace Go.Proofs.YtnjdbgiincliaaaGreat
open Go.Abs
def absO : VI → Option (List UInt8)
  | .ab n=>some n
  | _=>none
theorem absO_sub (m : List (BNm × VT)) (y : VI) : absO (subI m y) = absO y:=by cases y <;> rfl
theorem absO_zs (ys : List VI) : ∀ i,i ≤ ys.length → (zsN ys i).map absO = (ys.take i).map absO
  | 0,_=>by simp [zsN]
  | i + 1,h=>by
    have e : ys.take (i + 1) = ys.take i ++ [ys.getD i vi0]:=by rw [List.take_add_one]; simp [List.getD,show i < ys.length by omega]
    rw [zsN_succ,List.map_append,absO_zs ys i (by omega),e]; simp [absO_sub]
end Go.Proofs.YtnjdbgiincliaaaGreat
/- Names in the type that a name stands for: those without a module are abstract, and stand for themselves. -/
set_option linter.unusedVariables false
set_option linter.unusedSimpArgs false
namespace Go.Proofs.YtnjdbgiincliaaaGreat
open Go.Abs
def isAb (n : List UInt8) : VI → Bool
  | .ab k=>decide (k = n)
  | _=>false
def okA (l : List VI) (p : Nm) : Bool:=!decide (p.1 = []) || l.any (isAb p.2)
theorem okA_snoc {l : List VI} {y : VI} {p : Nm} (h : okA l p = true) : okA (l ++ [y]) p = true:=by
  simp only [okA,Bool.or_eq_true,List.any_append] at h ⊢
  rcases h with h | h
  · exact .inl h
  · exact .inr (.inl h)
theorem allV_sub2 {p q : Nm → Bool} {m : List (BNm × VT)} (hm : ∀ x ∈ m,allV q x.2 = true) (hp : ∀ x,p x = true → lookB x m ≠ none ∨ q x = true) : ∀ {v : VT},allV p v = true → allV q (subV m v) = true
  | .num,_=>rfl
  | .nm a b,h=>by
    rw [subV]
    cases hl : lookB (a,b) m with
    | none =>
      rcases hp _ h with h2 | h2
      · exact absurd hl h2
      · exact h2
    | some w=>exact hm _ (lookB_in hl)
  | .fn a b,h=>by
    simp only [allV,Bool.and_eq_true] at h
    simp only [subV,allV,Bool.and_eq_true]
    exact ⟨allV_sub2 hm hp h.1,allV_sub2 hm hp h.2⟩
theorem lookB_snoc {q : BNm} {a : List (BNm × VT)} (x : BNm × VT) : lookB q a ≠ none ∨ x.1 = q → lookB q (a ++ [x]) ≠ none:=by
  induction a with
  | nil =>
    rintro (h | h)
    · exact absurd rfl h
    · obtain ⟨k,v⟩:=x
      simp only [List.nil_append,lookB]
      rw [if_pos h.symm]; simp
  | cons y a ih =>
    obtain ⟨k,v⟩:=y
    intro h
    simp only [List.cons_append,lookB] at h ⊢
    split
    · simp
    · rename_i hk
      rw [if_neg hk] at h
      exact ih h
theorem take_snocV {ys : List VI} {i : Nat} (h : i < ys.length) : ys.take (i + 1) = ys.take i ++ [ys.getD i vi0]:=by
  rw [List.take_add_one]; simp [List.getD,h]
theorem key_at {ys : List VI} {i : Nat} (h : i < ys.length) : (ys.take (i + 1)).map viK = (ys.take i).map viK ++ [viK (ys.getD i vi0)]:=by
  rw [take_snocV h,List.map_append]; rfl
theorem known_all (ys : List VI) : ∀ i,i ≤ ys.length → ∀ n,(false,n) ∈ (ys.take i).map viK → lookB ([],n) (nxtL (ys.take i)) ≠ none
  | 0,_,n,h=>by simp at h
  | i + 1,hi,n,h=>by
    have ih:=known_all ys i (by omega) n
    rw [key_at (by omega)] at h
    rw [nxtL_snoc ys (by omega)]
    generalize ys.getD i vi0 = y at *
    rcases List.mem_append.1 h with h | h
    · have:=ih h
      cases y with
      | ab k=>exact lookB_snoc _ (.inl this)
      | al k v=>exact lookB_snoc _ (.inl this)
      | va k v=>exact this
    · rw [List.mem_singleton] at h
      cases y with
      | ab k=>simp only [viK,Prod.mk.injEq,true_and] at h; subst h; exact lookB_snoc _ (.inr rfl)
      | al k v=>simp only [viK,Prod.mk.injEq,true_and] at h; subst h; exact lookB_snoc _ (.inr rfl)
      | va k v=>simp [viK] at h
theorem stepOf {ys : List VI} (ho : ordB ys = true) {i : Nat} (hi : i < ys.length) : stepB (ys.take i) (ys.getD i vi0) = true:=by
  unfold ordB at ho
  rw [List.all_eq_true] at ho
  exact ho i (List.mem_range.mpr hi)
theorem hpA {ys : List VI} {i : Nat} (hi : i ≤ ys.length) : ∀ x : Nm,okN ((ys.take i).map viK) x = true → lookB x (nxtL (ys.take i)) ≠ none ∨ okA (ys.take i) x = true:=fun x hx=>by
  obtain ⟨a,b⟩:=x
  simp only [okN,Bool.or_eq_true,Bool.not_eq_true',decide_eq_true_eq,decide_eq_false_iff_not] at hx
  rcases hx with hx | hx
  · right; simp [okA,hx]
  · by_cases ha : a = []
    · subst ha; exact .inl (known_all ys i hi b hx)
    · right; simp [okA,ha]
theorem nxtL_ab (ys : List VI) (ho : ordB ys = true) : ∀ i,i ≤ ys.length → ∀ x ∈ nxtL (ys.take i),allV (okA (ys.take i)) x.2 = true
  | 0,_=>by simp [nxtL]
  | i + 1,h=>by
    have ih:=nxtL_ab ys ho i (by omega)
    have hs:=stepOf ho (show i < ys.length by omega)
    have hpa:=hpA (ys:=ys) (i:=i) (by omega)
    rw [nxtL_snoc ys (by omega),take_snocV (show i < ys.length by omega)]
    simp only [stepB,Bool.and_eq_true] at hs
    generalize ys.getD i vi0 = y at *
    cases y with
    | ab n =>
      simp only [nxtM,List.mem_append,List.mem_singleton]
      rintro x (hx | rfl)
      · exact allV_mono (fun p hp=>okA_snoc hp) (ih x hx)
      · simp [allV,okA,isAb]
    | al n v =>
      simp only [allI] at hs
      simp only [nxtM,List.mem_append,List.mem_singleton]
      rintro x (hx | rfl)
      · exact allV_mono (fun p hp=>okA_snoc hp) (ih x hx)
      · exact allV_mono (fun p hp=>okA_snoc hp) (allV_sub2 ih hpa hs.1)
    | va n v =>
      simp only [nxtM]
      exact fun x hx=>allV_mono (fun p hp=>okA_snoc hp) (ih x hx)
end Go.Proofs.YtnjdbgiincliaaaGreat
/- Strengthening is substitution: what a value has for a type in the strengthened signature is the type that it has before, with each abstract type replaced. -/
set_option linter.unusedVariables false
set_option linter.unusedSimpArgs false
namespace Go.Proofs.YtnjdbgiincliaaaGreat
open Go.Abs
theorem look_mod {q : BNm} {m : List (BNm × VT)} (hm : ∀ x ∈ m,x.1.1 = []) (hq : q.1 ≠ []) : lookB q m = none:=by
  cases h : lookB q m with
  | none=>rfl
  | some w=>exact absurd (hm _ (lookB_in h)) hq
theorem nxt_mod (ys : List VI) : ∀ i,i ≤ ys.length → ∀ x ∈ nxtL (ys.take i),x.1.1 = []
  | 0,_=>by simp [nxtL]
  | i + 1,h=>by
    have ih:=nxt_mod ys i (by omega)
    rw [nxtL_snoc ys (by omega)]
    generalize ys.getD i vi0 = y at *
    cases y with
    | ab n=>simp only [nxtM,List.mem_append,List.mem_singleton]; rintro x (hx | rfl); exact ih x hx; rfl
    | al n v=>simp only [nxtM,List.mem_append,List.mem_singleton]; rintro x (hx | rfl); exact ih x hx; rfl
    | va n v=>exact ih
end Go.Proofs.YtnjdbgiincliaaaGreat
/- Facts on matching, as data. -/
set_option linter.unusedVariables false
set_option linter.unusedSimpArgs false
namespace Go.Proofs.YtnjdbgiincliaaaGreat
open Go.Abs
theorem rdN_ordB {s : List SigI} {ws : List VI} (h : RdN s (some ws)) : ordB ws = true:=by
  obtain ⟨ys,h8,hr,hord,hn⟩:=h
  rw [(normL_fit hn).2]; exact ordB_norm hord
theorem subV_id {m : List (BNm × VT)} {p : Nm → Bool} (h : ∀ q,p q = true → lookB q m = none ∨ lookB q m = some (.nm q.1 q.2)) : ∀ {v : VT},allV p v = true → subV m v = v
  | .num,_=>rfl
  | .nm a b,hv=>by
    rw [subV]
    rcases h (a,b) hv with h1 | h1 <;> rw [h1] <;> rfl
  | .fn a b,hv=>by
    simp only [allV,Bool.and_eq_true] at hv
    rw [subV,subV_id h hv.1,subV_id h hv.2]
theorem okA_any {a b : List VI} (h : ∀ n,a.any (isAb n) = b.any (isAb n)) : okA a = okA b:=by
  funext p; simp only [okA,h]
theorem any_abs : ∀ {a b : List VI},a.map absO = b.map absO → ∀ n,a.any (isAb n) = b.any (isAb n)
  | [],[],_,n=>rfl
  | [],_ :: _,h,n=>by simp at h
  | _ :: _,[],h,n=>by simp at h
  | x :: a,y :: b,h,n=>by
    simp only [List.map_cons,List.cons.injEq] at h
    have ih:=any_abs h.2 n
    rw [List.any_cons,List.any_cons,ih]
    congr 1
    cases x <;> cases y <;> simp only [absO,reduceCtorEq,Option.some.injEq] at h
    all_goals first | (obtain ⟨rfl,_⟩:=h; rfl) | exact h.1.elim | rfl
theorem zs_okA {s : List SigI} {zs : List VI} (h : RdN s (some zs)) : ∀ i,i < zs.length → allI (okA (zs.take i)) (zs.getD i vi0) = true:=by
  obtain ⟨ys,h8,hr,hord,hn⟩:=h
  obtain ⟨hf,rfl⟩:=normL_fit hn
  intro i hi
  rw [zsN_length] at hi
  have hst:=stepOf hord hi
  simp only [stepB,Bool.and_eq_true] at hst
  have e1 : (zsN ys ys.length).take i = zsN ys i:=by
    refine List.ext_getElem (by simp [zsN_length]; omega) fun k h1 h2=>?_
    simp [zsN]
  have e2 : okA ((zsN ys ys.length).take i) = okA (ys.take i):=by
    rw [e1]; exact okA_any (any_abs (absO_zs ys i (by omega)))
  rw [e2,zsN_getD ys hi]
  have hab:=nxtL_ab ys hord i (by omega)
  have hp:=hpA (ys:=ys) (i:=i) (by omega)
  cases hy : ys.getD i vi0 with
  | ab n=>rfl
  | al n v=>rw [hy] at hst; exact allV_sub2 hab hp hst.1
  | va n v=>rw [hy] at hst; exact allV_sub2 hab hp hst.1
theorem any_mem {l : List VI} {n : List UInt8} (h : l.any (isAb n) = true) : VI.ab n ∈ l:=by
  obtain ⟨y,hy,h1⟩:=List.any_eq_true.1 h
  cases y with
  | ab m=>simp only [isAb,decide_eq_true_eq] at h1; subst h1; exact hy
  | al m v=>simp [isAb] at h1
  | va m v=>simp [isAb] at h1
theorem nxt_keys (ys : List VI) : ∀ i,i ≤ ys.length → ∀ x ∈ nxtL (ys.take i),(false,x.1.2) ∈ (ys.take i).map viK
  | 0,_,x,h=>by simp [nxtL] at h
  | i + 1,hi,x,h=>by
    rw [nxtL_snoc ys (by omega)] at h
    rw [key_at (by omega)]
    cases hy : ys.getD i vi0 with
    | ab n =>
      rw [hy] at h
      rcases List.mem_append.1 h with h | h
      · exact List.mem_append.2 (.inl (nxt_keys ys i (by omega) x h))
      · rw [List.mem_singleton.1 h]; simp [viK]
    | al n v =>
      rw [hy] at h
      rcases List.mem_append.1 h with h | h
      · exact List.mem_append.2 (.inl (nxt_keys ys i (by omega) x h))
      · rw [List.mem_singleton.1 h]; simp [viK]
    | va n v =>
      rw [hy] at h
      exact List.mem_append.2 (.inl (nxt_keys ys i (by omega) x h))
theorem key_new {ys : List VI} (ho : ordB ys = true) {i : Nat} (hi : i < ys.length) : viK (ys.getD i vi0) ∉ (ys.take i).map viK:=by
  have hst:=stepOf ho hi
  simp only [stepB,Bool.and_eq_true,Bool.not_eq_true',decide_eq_false_iff_not] at hst
  exact hst.2
theorem look_ab {ys : List VI} (ho : ordB ys = true) {n : List UInt8} : ∀ i,i ≤ ys.length → VI.ab n ∈ ys.take i → lookB ([],n) (nxtL (ys.take i)) = some (.nm [] n)
  | 0,_,h=>by simp at h
  | i + 1,hi,h=>by
    rw [nxtL_snoc ys (by omega)]
    rw [take_snocV (by omega)] at h
    rcases List.mem_append.1 h with h | h
    · have ih:=look_ab ho i (by omega) h
      cases ys.getD i vi0 with
      | ab m=>rw [nxtM,lookB_app,ih]; rfl
      | al m v=>rw [nxtM,lookB_app,ih]; rfl
      | va m v=>exact ih
    · have h:=(List.mem_singleton.1 h).symm
      have hk:=key_new ho (show i < ys.length by omega)
      rw [h] at hk ⊢
      rw [nxtM,lookB_app]
      have : lookB ([],n) (nxtL (ys.take i)) = none:=lookB_none fun x hx e=>by
        have:=nxt_keys ys i (by omega) x hx
        rw [e] at this
        exact hk this
      rw [this]
      simp [lookB]
theorem sub_self {s : List SigI} {zs : List VI} (h : RdN s (some zs)) {i : Nat} (hi : i < zs.length) : subI (nxtL (zs.take i)) (zs.getD i vi0) = zs.getD i vi0:=by
  have ho:=rdN_ordB h
  have hok:=zs_okA h i hi
  have hl : ∀ q,okA (zs.take i) q = true → lookB q (nxtL (zs.take i)) = none ∨ lookB q (nxtL (zs.take i)) = some (.nm q.1 q.2):=fun q hq=>by
    obtain ⟨m,n⟩:=q
    by_cases hm : m = []
    · subst hm
      simp only [okA,decide_true,Bool.not_true,Bool.false_or] at hq
      exact .inr (look_ab ho i (by omega) (any_mem hq))
    · exact .inl (look_mod (nxt_mod zs i (by omega)) hm)
  cases hy : zs.getD i vi0 with
  | ab n=>rfl
  | al n v=>rw [hy] at hok; simp only [subI]; rw [subV_id hl hok]
  | va n v=>rw [hy] at hok; simp only [subI]; rw [subV_id hl hok]
theorem rdN_again {s : List SigI} {zs : List VI} (h : RdN s (some zs)) : RdN (zs.map siOf) (some zs):=by
  have ho:=rdN_ordB h
  have hv:=rdN_vok h
  have hs:=@sub_self s zs h
  obtain ⟨ys,h8,hr,hord,hn⟩:=id h
  obtain ⟨hf,e⟩:=normL_fit hn
  have hrz:=zsN_reads hr hf
  rw [← e] at hrz
  refine ⟨zs,by simpa using hv.1,hrz,ho,?_⟩
  have hfz : fitL zs:=fun i hi=>by
    rw [hs hi]
    have h1:=(hv.2 i hi).dep
    have h2:=(hv.2 i hi).cnt
    have h1 : dep (meanI (zs.getD i vi0)) ≤ 8:=h1
    have h2 : cnt (meanI (zs.getD i vi0)) ≤ 63:=h2
    simp only [fitI,decide_eq_true h1,decide_eq_true h2,Bool.and_self]
  rw [normL_yes hfz]
  congr 1
  refine vi_ext (zsN_length _ _) fun i hi=>?_
  rw [zsN_length] at hi
  rw [zsN_getD zs hi,hs hi]
theorem rdN_length {s : List SigI} {zs : List VI} (h : RdN s (some zs)) : zs.length = s.length:=by
  obtain ⟨ys,h8,hr,hord,hn⟩:=h
  rw [normL_len hn,hr.1]
end Go.Proofs.YtnjdbgiincliaaaGreat
