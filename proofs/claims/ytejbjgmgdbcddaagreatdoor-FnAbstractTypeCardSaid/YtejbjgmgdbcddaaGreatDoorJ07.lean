/- OwnSi, SigPl, SigOutA, SigOut, SigStr, SigSame, Draw, DrawTy. -/
import Derived.Test.YtejbjgmgdbcddaaGreatDoorJ06
import Derived.Test.YtejbjgmgdbcddaaGreatDoorAbsW3
/- Marks in a list of items that is owned. -/
set_option linter.unusedVariables false
set_option linter.unusedSimpArgs false
namespace Go.Proofs.YtejbjgmgdbcddaaGreatDoor
open Go.Abs
theorem enc4s (t : Ty) : enc t = [.int .i64 t.kind,.str t.mod,.str t.name,.slice (encs t.kids)]:=by cases t; rw [enc]; rfl
theorem sE6 (x : SigI) : sE x = [.int .i64 x.kind,.str x.name,.int .i64 x.typ.kind,.str x.typ.mod,.str x.typ.name,.slice (encs x.typ.kids)]:=by rw [sE,enc4s]
def sRow (b : SigI) (v : AV) : List AV:=[.int .i64 b.kind,.str b.name,.int .i64 b.typ.kind,.str b.typ.mod,.str b.typ.name,v]
def OwnG (A : List Box) : List SigI → List (List AV) → List Nat → Prop
  | [],rows,S=>rows = [] ∧ S = []
  | b :: bs,rows,S=>∃ v rows' S1 S2,rows = sRow b v :: rows' ∧ S = S1 ++ S2 ∧ OwnK A b.typ.kids v S1 ∧ OwnG A bs rows' S2
theorem OwnG.frame {A A' : List Box} : ∀ {bs : List SigI} {rows : List (List AV)} {S : List Nat},OwnG A bs rows S → (∀ i ∈ S,A'.getD i .dead = A.getD i .dead) → OwnG A' bs rows S
  | [],rows,S,h,hf=>h
  | b :: bs,rows,S,h,hf=>by
    rw [OwnG] at h ⊢
    obtain ⟨v,rows',S1,S2,h1,rfl,h3,h4⟩:=h
    exact ⟨v,rows',S1,S2,h1,rfl,h3.frame fun j hj=>hf j (by simp [hj]),OwnG.frame h4 fun j hj=>hf j (by simp [hj])⟩
theorem OwnG.length {A : List Box} : ∀ {bs : List SigI} {rows : List (List AV)} {S : List Nat},OwnG A bs rows S → rows.length = bs.length
  | [],rows,S,h=>by rw [OwnG] at h; rw [h.1]; rfl
  | b :: bs,rows,S,h=>by
    rw [OwnG] at h
    obtain ⟨v,rows',S1,S2,rfl,h2,h3,h4⟩:=h
    simp [OwnG.length h4]
theorem OwnG.low {A : List Box} : ∀ {bs : List SigI} {rows : List (List AV)} {S : List Nat},OwnG A bs rows S → ∀ i ∈ S,i < A.length
  | [],rows,S,h=>by rw [OwnG] at h; rw [h.2]; simp
  | b :: bs,rows,S,h=>by
    rw [OwnG] at h
    obtain ⟨v,rows',S1,S2,h1,rfl,h3,h4⟩:=h
    intro j hj
    rcases List.mem_append.1 hj with hj | hj
    · exact h3.low j hj
    · exact OwnG.low h4 j hj
theorem OwnG.append {A : List Box} : ∀ {k1 k2 : List SigI} {r1 r2 : List (List AV)} {S1 S2 : List Nat},OwnG A k1 r1 S1 → OwnG A k2 r2 S2 → OwnG A (k1 ++ k2) (r1 ++ r2) (S1 ++ S2)
  | [],k2,r1,r2,S1,S2,h1,h2=>by
    rw [OwnG] at h1
    rw [h1.1,h1.2]; exact h2
  | t :: k1,k2,r1,r2,S1,S2,h1,h2=>by
    rw [OwnG] at h1
    obtain ⟨v,r',T1,T2,rfl,rfl,h3,h4⟩:=h1
    rw [List.cons_append,OwnG]
    exact ⟨v,r' ++ r2,T1,T2 ++ S2,by simp,by simp,h3,OwnG.append h4 h2⟩
theorem OwnG.view {A : List Box} : ∀ {bs : List SigI} {rows : List (List AV)} {S : List Nat},OwnG A bs rows S → ∀ k,k < rows.length → ∀ j,j < 6 → View A ((rows.getD k []).getD j .bot) ((sE (bs.getD k si0)).getD j .bot)
  | [],rows,S,h=>by rw [OwnG] at h; rw [h.1]; intro k hk; simp at hk
  | b :: bs,rows,S,h=>by
    rw [OwnG] at h
    obtain ⟨v,rows',S1,S2,rfl,h2,h3,h4⟩:=h
    intro k hk j hj
    cases k with
    | zero =>
      have hv:=h3.view
      have e0 : (sE ((b :: bs).getD 0 si0)) = sE b:=rfl
      rw [e0,sE6]
      match j,hj with
      | 0,_=>exact .leaf _ rfl
      | 1,_=>exact .leaf _ rfl
      | 2,_=>exact .leaf _ rfl
      | 3,_=>exact .leaf _ rfl
      | 4,_=>exact .leaf _ rfl
      | 5,_=>exact hv
    | succ k =>
      have:=OwnG.view h4 k (by simpa using hk) j hj
      simpa using this
theorem OwnG.viewG {A : List Box} {bs : List SigI} {rows : List (List AV)} {S : List Nat} {i : Nat} (h : A.getD i .dead = .gr none 6 rows) (hb : OwnG A bs rows S) : View A (.own i) (.slice (sEs bs)):=by
  refine .gr i 6 none rows (sEs bs) h (by rw [sEs_length,hb.length]) (fun r hr=>?_) fun k j hk hj=>?_
  · obtain ⟨t,_,rfl⟩:=List.mem_map.1 hr
    exact ⟨sE_length t,sE_leaf t⟩
  · unfold Abs.rowAt
    rw [sEs_getD (by rw [← hb.length]; exact hk)]
    exact hb.view k hk j hj
def NewG (A : List Box) (bs : List SigI) (j : Nat) (A' : List Box) : Prop :=
  A.length ≤ A'.length ∧ (∀ k,k < A.length → A'.getD k .dead = A.getD k .dead) ∧ ∃ rows S,A'.getD j .dead = .gr none 6 rows ∧ OwnG A' bs rows S ∧ (j :: S).Nodup ∧ ∀ i ∈ j :: S,A.length ≤ i
end Go.Proofs.YtejbjgmgdbcddaaGreatDoor
namespace Go.Proofs.YtejbjgmgdbcddaaGreatDoor
open Go.Abs
def OwnI (A : List Box) (xs : List SigI) (v : AV) (S : List Nat) : Prop :=
  (v = .nils ∧ xs = [] ∧ S = []) ∨ ∃ i rows S',v = .own i ∧ S = i :: S' ∧ A.getD i .dead = .gr none 6 rows ∧ OwnG A xs rows S'
theorem OwnI.frame {A A' : List Box} {xs : List SigI} {v : AV} {S : List Nat} (h : OwnI A xs v S) (hf : ∀ i ∈ S,A'.getD i .dead = A.getD i .dead) : OwnI A' xs v S:=by
  rcases h with h | ⟨i,rows,S',h1,h2,h3,h4⟩
  · exact .inl h
  · subst h2
    exact .inr ⟨i,rows,S',h1,rfl,by rw [hf i (by simp)]; exact h3,h4.frame fun j hj=>hf j (by simp [hj])⟩
theorem OwnI.low {A : List Box} {xs : List SigI} {v : AV} {S : List Nat} (h : OwnI A xs v S) : ∀ i ∈ S,i < A.length:=by
  rcases h with ⟨_,_,rfl⟩ | ⟨i,rows,S',h1,rfl,h3,h4⟩
  · simp
  · intro j hj
    rcases List.mem_cons.1 hj with rfl | hj
    · exact live_lt h3 (by simp)
    · exact h4.low j hj
theorem OwnI.view {A : List Box} {xs : List SigI} {v : AV} {S : List Nat} (h : OwnI A xs v S) : View A v (.slice (sEs xs)):=by
  rcases h with ⟨rfl,rfl,_⟩ | ⟨i,rows,S',rfl,_,h3,h4⟩
  · exact .nils
  · exact OwnG.viewG h3 h4
end Go.Proofs.YtejbjgmgdbcddaaGreatDoor
namespace Go.Proofs.YtejbjgmgdbcddaaGreatDoor
open Go.Abs
end Go.Proofs.YtejbjgmgdbcddaaGreatDoor
/- What a signature's method plain makes: items that are owned. -/
set_option linter.unusedVariables false
set_option linter.unusedSimpArgs false
namespace Go.Proofs.YtejbjgmgdbcddaaGreatDoor
open Go.Abs
def NewS (A : List Box) (x : SigI) (cs : List AV) (A' : List Box) : Prop :=
  A.length ≤ A'.length ∧ (∀ k,k < A.length → A'.getD k .dead = A.getD k .dead) ∧ ∃ v S,cs = sRow x v ∧ OwnK A' x.typ.kids v S ∧ S.Nodup ∧ (∀ i ∈ S,A.length ≤ i) ∧ (v = .nils ∨ ∃ i,v = .own i)
def PlI (y : VI) : Prop:=∀ A,ACalls Tryz.prog ((pickI 136 167 173) y) [viX y] A (fun r A'=>∃ cs,r = .agg cs ∧ NewS A (siOf y) cs A')
theorem prow_row (x : SigI) (w : VT) (h : x.typ = toTy w) (n : Nat) : ∃ v,prow w n true = [.int .i64 x.typ.kind,.str x.typ.mod,.str x.typ.name,v] ∧ (v = .nils ∨ ∃ i,v = .own i):=by
  rw [h]
  cases w with
  | num=>exact ⟨_,rfl,.inl rfl⟩
  | nm m k=>exact ⟨_,rfl,.inl rfl⟩
  | fn a b=>exact ⟨_,rfl,.inr ⟨_,rfl⟩⟩
theorem newS_of {A : List Box} {x : SigI} {w : VT} (h : x.typ = toTy w) {B0 B1 : List Box} {n : Nat} (hn : n = A.length + B0.length) : NewS A x (.int .i64 x.kind :: .str x.name :: prow w n true) (A ++ (B0 ++ (pbox w n ++ B1))):=by
  obtain ⟨v,hv,hv2⟩:=prow_row x w h n
  have ho:=own_plain w n true (A ++ (B0 ++ (pbox w n ++ B1))) fun k hk=>by
    rw [Abs.getD_append_right (by omega),Abs.getD_append_right (by omega),Abs.getD_append_left (by rw [pbox_length]; omega)]
    congr 1; omega
  rw [hv] at ho
  refine ⟨by simp,fun k hk=>Abs.getD_append_left hk,v,pidx w n,by rw [hv]; rfl,?_,pidx_nodup _ _,fun i hi=>by have:=pidx_in _ _ i hi; omega,hv2⟩
  rw [h]
  cases ht : toTy w with
  | mk k m n ks =>
    rw [ht,ownT_mk] at ho
    obtain ⟨v',e,hK⟩:=ho
    simp only [List.cons.injEq,and_true] at e
    rw [e.2.2.2]
    exact hK
set_option maxRecDepth 100000 in
theorem ab_plain (n : List UInt8) : PlI (.ab n):=fun A=>by
  show ACalls Tryz.prog 136 _ _ _
  rw [viX]
  refine acalls_enterK (cf:=cf 6 [0,1,2]) foll Tryz.func136 Tryz.ntmps136 (by simp [cf]) ?_
  simp only [Tryz.f136,EnterK_some,zW,zX,zD,builtinA,isLeaf,const1,ustrA,simprocAttr,ti9,ti41,ti53,cf,Tryz.results136]
  exact ⟨_,rfl,by simp,fun k hk=>Abs.getD_append_left hk,.nils,[],rfl,.inl ⟨rfl,rfl,rfl⟩,by simp,by simp,.inl rfl⟩
set_option maxRecDepth 100000 in
theorem al_plain (n : List UInt8) (v : VT) : PlI (.al n v):=fun A=>by
  show ACalls Tryz.prog 167 _ _ _
  have cv : ACalls Tryz.prog ((pickF 179 186 149) v) [vX v] (A ++ [Box.cells [.str n,.iface (vT v) (vX v)],Box.cells [.int .i64 0,.str [],.int .i64 0,.str [],.str [],.nils]]) (fun r A'=>r = .agg (prow v (A.length + 2) true) ∧ A' = A ++ (Box.cells [.str n,.iface (vT v) (vX v)] :: Box.cells [.int .i64 0,.str [],.int .i64 0,.str [],.str [],.nils] :: pbox v (A.length + 2))):=by
    have:=plainM v (A ++ [Box.cells [.str n,.iface (vT v) (vX v)],Box.cells [.int .i64 0,.str [],.int .i64 0,.str [],.str [],.nils]])
    simpa using this
  have hpl : ∀ n,(prow v n true).length = 4:=fun n=>prow_length _ _ _
  rw [viX]
  refine acalls_enterK (cf:=cf 9 [0,1,2]) foll Tryz.func167 Tryz.ntmps167 (by simp [cf]) ?_
  simp only [Tryz.f167,EnterK_some,zW,zX,zD,builtinA,isLeaf,const1,ustrA,simprocAttr,ti9,ti41,ti99,ti168,cf,Tryz.results167]
  refine .inr (drawE_intro [(false,0,1),(false,0,1),(false,0,0),(false,0,0),(true,0,0),(false,1,1),(true,1,1)] [A ++ [Box.cells [.str n,.iface (vT v) (vX v)],Box.cells [.int .i64 0,.str [],.int .i64 0,.str [],.str [],.nils]],A ++ (Box.cells [.str n,.iface (vT v) (vX v)] :: Box.cells [.int .i64 0,.str [],.int .i64 0,.str [],.str [],.nils] :: pbox v (A.length + 2)),A ++ (Box.cells [.str n,.iface (vT v) (vX v)] :: Box.cells (.int .i64 2 :: .str n :: prow v (A.length + 2) true) :: pbox v (A.length + 2))] 2 rfl (by kernel_rfl) (by kernel_rfl) (by kernel_rfl) (by kernel_rfl) (by kernel_rfl) (by kernel_rfl) ?_)
  simp only [zW,zX,zD,builtinA,isLeaf,const1,ustrA,simprocAttr,ti9,ti41,ti99,ti168,cf,Tryz.results167]
  refine wpG_invoke _ _ _ _ _ _ _ _ _ _ _ _ _ _ _ _ _ _ ?_
  simp only [zW,zX,zD,builtinA,isLeaf,const1,ustrA,simprocAttr,ti9,ti41,ti99,ti168,cf,Tryz.results167]
  refine meth_invE (met3 (by kernel_rfl) (by kernel_rfl) (by kernel_rfl) (by kernel_rfl) (by kernel_rfl) (by kernel_rfl)) cv rfl ?_
  simp only [zW,zX,zD,builtinA,isLeaf,const1,ustrA,simprocAttr,ti9,ti41,ti99,ti168,cf,Tryz.results167,hpl]
  rw [List.take_of_length_le (Nat.le_of_eq (hpl _))]
  have h:=newS_of (A:=A) (x:=siOf (.al n v)) (w:=v) rfl (B0:=[Box.cells [.str n,.iface (vT v) (vX v)],Box.cells (.int .i64 2 :: .str n :: prow v (A.length + 2) true)]) (B1:=[]) (n:=A.length + 2) rfl
  rw [List.append_nil] at h
  exact ⟨_,rfl,h⟩
set_option maxRecDepth 100000 in
theorem va_plain (n : List UInt8) (v : VT) : PlI (.va n v):=fun A=>by
  show ACalls Tryz.prog 173 _ _ _
  have cv : ACalls Tryz.prog ((pickF 179 186 149) v) [vX v] (A ++ [Box.cells [.str n,.iface (vT v) (vX v)],Box.cells [.int .i64 0,.str [],.int .i64 0,.str [],.str [],.nils]]) (fun r A'=>r = .agg (prow v (A.length + 2) true) ∧ A' = A ++ (Box.cells [.str n,.iface (vT v) (vX v)] :: Box.cells [.int .i64 0,.str [],.int .i64 0,.str [],.str [],.nils] :: pbox v (A.length + 2))):=by
    have:=plainM v (A ++ [Box.cells [.str n,.iface (vT v) (vX v)],Box.cells [.int .i64 0,.str [],.int .i64 0,.str [],.str [],.nils]])
    simpa using this
  have hpl : ∀ n,(prow v n true).length = 4:=fun n=>prow_length _ _ _
  rw [viX]
  refine acalls_enterK (cf:=cf 9 [0,1,2]) foll Tryz.func173 Tryz.ntmps173 (by simp [cf]) ?_
  simp only [Tryz.f173,EnterK_some,zW,zX,zD,builtinA,isLeaf,const1,ustrA,simprocAttr,ti9,ti41,ti99,ti169,cf,Tryz.results173]
  refine .inr (drawE_intro [(false,0,1),(false,0,1),(false,0,0),(false,0,0),(true,0,0),(false,1,1),(true,1,1)] [A ++ [Box.cells [.str n,.iface (vT v) (vX v)],Box.cells [.int .i64 0,.str [],.int .i64 0,.str [],.str [],.nils]],A ++ (Box.cells [.str n,.iface (vT v) (vX v)] :: Box.cells [.int .i64 0,.str [],.int .i64 0,.str [],.str [],.nils] :: pbox v (A.length + 2)),A ++ (Box.cells [.str n,.iface (vT v) (vX v)] :: Box.cells (.int .i64 3 :: .str n :: prow v (A.length + 2) true) :: pbox v (A.length + 2))] 2 rfl (by kernel_rfl) (by kernel_rfl) (by kernel_rfl) (by kernel_rfl) (by kernel_rfl) (by kernel_rfl) ?_)
  simp only [zW,zX,zD,builtinA,isLeaf,const1,ustrA,simprocAttr,ti9,ti41,ti99,ti169,cf,Tryz.results173]
  refine wpG_invoke _ _ _ _ _ _ _ _ _ _ _ _ _ _ _ _ _ _ ?_
  simp only [zW,zX,zD,builtinA,isLeaf,const1,ustrA,simprocAttr,ti9,ti41,ti99,ti169,cf,Tryz.results173]
  refine meth_invE (met3 (by kernel_rfl) (by kernel_rfl) (by kernel_rfl) (by kernel_rfl) (by kernel_rfl) (by kernel_rfl)) cv rfl ?_
  simp only [zW,zX,zD,builtinA,isLeaf,const1,ustrA,simprocAttr,ti9,ti41,ti99,ti169,cf,Tryz.results173,hpl]
  rw [List.take_of_length_le (Nat.le_of_eq (hpl _))]
  have h:=newS_of (A:=A) (x:=siOf (.va n v)) (w:=v) rfl (B0:=[Box.cells [.str n,.iface (vT v) (vX v)],Box.cells (.int .i64 3 :: .str n :: prow v (A.length + 2) true)]) (B1:=[]) (n:=A.length + 2) rfl
  rw [List.append_nil] at h
  exact ⟨_,rfl,h⟩
theorem plI : ∀ y,PlI y
  | .ab n=>ab_plain n
  | .al n v=>al_plain n v
  | .va n v=>va_plain n v
set_option maxRecDepth 100000 in
set_option maxHeartbeats 4000000 in
theorem impl_plainItems (ys : List VI) (hl : ys.length ≤ 1000) (A : List Box) : ACalls Tryz.prog 45 [.slice (vRows ys)] A (fun r A'=>∃ j,r = .own j ∧ NewG A (ys.map siOf) j A'):=by
  have hl2 : ((vRows ys).length : Int) ≤ 1000:=by rw [vRows_length]; omega
  refine ACalls.grow ?_
  refine acalls_enterK (cf:=cf 23 [0,2,3,4,5,9,10,11,12]) foll Tryz.func45 Tryz.ntmps45 (by simp [cf]) ?_
  simp only [Tryz.f45,EnterK_some,zW,zX,zD,builtinA,isLeaf,const1,ustrA,simprocAttr,ti3,ti23,ti41,ti43,ti51,cf,Tryz.results45]
  refine ⟨⟨by omega,by omega,by omega⟩,?_⟩
  refine aloop_intro [3,9,10,11] (fun e A'=>∃ (p : Nat) (rl : List (List AV)) (SL : List Nat) (g : Bool),p ≤ ys.length ∧ e = [(3,.own A.length),(9,.slice (vRows ys)),(10,.int .i64 ys.length),(11,.int .i64 p)] ∧ A'.getD A.length .dead = (bif g then .gr none 6 (rl ++ List.replicate (ys.length - p) zsi) else .row 6 (rl ++ List.replicate (ys.length - p) zsi) 0) ∧
    rl.length = p ∧ OwnG A' ((ys.map siOf).take p) rl SL ∧ SL.Nodup ∧ (∀ i ∈ SL,A.length < i) ∧ A.length < A'.length ∧ ∀ k,k < A.length → A'.getD k .dead = A.getD k .dead) (fun e _=>ys.length - (intOf (Abs.look 11 e)).toNat) ?_ ?_
  · simp only [zW,zX,zD,builtinA,isLeaf,const1,ustrA,simprocAttr,ti3,ti23,ti41,ti43,ti51,cf,Tryz.results45,vRows_length]
    refine ⟨0,[],[],false,by omega,rfl,?_,rfl,by simp [OwnG],by simp,by simp,by simp,fun k hk=>Abs.getD_append_left hk⟩
    rfl
  · rintro e A' ⟨p,rl,SL,g,hp,rfl,hb,hrl,hO,hN,hlo,hlt,hfr⟩
    by_cases hp2 : p < ys.length
    · have d2 : decide ((p : Int) < (ys.length : Int)) = true:=by simp; omega
      have he:=vRows_getD hp2
      have hsi : ((ys.map siOf).take p ++ [siOf (ys.getD p vi0)]) = (ys.map siOf).take (p + 1):=by
        rw [List.take_add_one]; simp [List.getD,hp2]
      generalize hyv : ys.getD p vi0 = y at *
      rw [vRow] at he
      simp only [zW,zX,zD,builtinA,isLeaf,const1,ustrA,simprocAttr,ti3,ti23,ti41,ti43,ti51,cf,Tryz.results45,vRows_length,d2,he]
      refine ⟨⟨by omega,by omega⟩,?_⟩
      refine wpO_invoke _ _ _ _ _ _ _ _ _ _ _ _ _ _ _ _ ?_
      simp only [zW,zX,zD,builtinA,isLeaf,const1,ustrA,simprocAttr,ti3,ti23,ti41,ti43,ti51,cf,Tryz.results45]
      refine methI_invK (metI3 (by kernel_rfl) (by kernel_rfl) (by kernel_rfl) (by kernel_rfl) (by kernel_rfl) (by kernel_rfl)) (plI y _) rfl (fun _=>rfl) ?_
      rintro r A3 ⟨cs,rfl,hle,hf3,v,S,rfl,hK,hND,hge,hv⟩
      have hi1 : IntKind.i64.wrap ((p : Int) + 1) = ((p + 1 : Nat) : Int):=by rw [wrap64 (by omega) (by omega)]; rfl
      have hb3 : A3.getD A.length .dead = (bif g then .gr none 6 (rl ++ List.replicate (ys.length - p) zsi) else .row 6 (rl ++ List.replicate (ys.length - p) zsi) 0):=by rw [hf3 _ hlt]; exact hb
      have hz : ∀ v,(rl ++ List.replicate (ys.length - p) zsi).set p (sRow (siOf y) v) = (rl ++ [sRow (siOf y) v]) ++ List.replicate (ys.length - (p + 1)) zsi:=fun v=>by
        rw [show ys.length - p = (ys.length - (p + 1)) + 1 by omega,List.replicate_succ,List.set_append_right _ _ (by omega),hrl,Nat.sub_self]
        simp
      have hlr : (rl ++ List.replicate (ys.length - p) zsi).length = ys.length:=by simp; omega
      have hdz : List.drop 6 ((rl ++ List.replicate (ys.length - p) zsi).getD p []) = []:=by
        rw [Abs.getD_append_right (by omega),hrl,Nat.sub_self,getD_repl (by omega)]; rfl
      have hpr : (0 : Int) ≤ (p : Int) ∧ (p : Int) < ((ys.length : Nat) : Int):=⟨by omega,by omega⟩
      have fin : ∀ (g' : Bool) (v : AV) (Z : Box),OwnK A3 (siOf y).typ.kids v S → Z = (bif g' then Box.gr none 6 ((rl ++ [sRow (siOf y) v]) ++ List.replicate (ys.length - (p + 1)) zsi) else .row 6 ((rl ++ [sRow (siOf y) v]) ++ List.replicate (ys.length - (p + 1)) zsi) 0) → ∃ (p' : Nat) (rl' : List (List AV)) (SL' : List Nat) (g' : Bool),p' ≤ ys.length ∧ [(3,AV.own A.length),(9,.slice (vRows ys)),(10,.int .i64 ys.length),(11,.int .i64 ((p + 1 : Nat) : Int))] = [(3,.own A.length),(9,.slice (vRows ys)),(10,.int .i64 ys.length),(11,.int .i64 p')] ∧ (A3.set A.length Z).getD A.length .dead = (bif g' then .gr none 6 (rl' ++ List.replicate (ys.length - p') zsi) else .row 6 (rl' ++ List.replicate (ys.length - p') zsi) 0) ∧
          rl'.length = p' ∧ OwnG (A3.set A.length Z) ((ys.map siOf).take p') rl' SL' ∧ SL'.Nodup ∧ (∀ i ∈ SL',A.length < i) ∧ A.length < (A3.set A.length Z).length ∧ ∀ k,k < A.length → (A3.set A.length Z).getD k .dead = A.getD k .dead:=fun g' v Z hK hZ=>by
        have hlt3 : A.length < A3.length:=by omega
        have low:=hO.low
        refine ⟨p + 1,rl ++ [sRow (siOf y) v],SL ++ S,g',by omega,rfl,?_,by simp [hrl],?_,?_,?_,by simpa using hlt3,fun k hk=>?_⟩
        · rw [getD_set_self hlt3]; exact hZ
        · rw [← hsi]
          refine (hO.frame fun i hi=>?_).append ?_
          · have h1:=hlo i hi
            have h2:=low i hi
            rw [getD_set_ne' (by omega),hf3 i h2]
          · rw [OwnG]
            refine ⟨v,[],S,[],rfl,by simp,hK.frame fun i hi=>?_,by simp [OwnG]⟩
            have:=hge i hi
            rw [getD_set_ne' (by omega)]
        · refine List.nodup_append.2 ⟨hN,hND,fun x hx y hy=>?_⟩
          have:=low x hx
          have:=hge y hy
          omega
        · intro i hi
          rcases List.mem_append.1 hi with hi | hi
          · exact hlo i hi
          · have:=hge i hi; omega
        · rw [getD_set_ne' (by omega),hf3 k (by omega),hfr k hk]
      have lf : ∀ w ∈ sRow (siOf y) (.slice []),isLeaf w = true:=by simp [sRow,isLeaf]
      have el : ∀ w ∈ sRow (siOf y) (.slice []),isElem w = true:=by simp [sRow,isElem,isLeaf]
      have el2 : ∀ i,∀ w ∈ sRow (siOf y) (.own i),isElem w = true:=by simp [sRow,isElem,isLeaf]
      have mz : ∀ {P : Prop},P → P ∧ ys.length - (intOf (AV.int .i64 ((p + 1 : Nat) : Int))).toNat < ys.length - (intOf (AV.int .i64 (p : Int))).toNat:=fun h=>⟨h,by simp only [intOf]; omega⟩
      rcases hv with rfl | ⟨i,rfl⟩
      · have hK2 : OwnK A3 (siOf y).typ.kids (.slice []) S:=by
          rcases hK with ⟨_,h1,h2⟩ | ⟨h0,_⟩ | ⟨i,_,_,h0,_⟩
          · exact .inr (.inl ⟨rfl,h1,h2⟩)
          · cases h0
          · cases h0
        have fin2:=fun g' Z=>fin g' (.slice []) Z hK2
        have hz2:=hz (.slice [])
        clear fin hz
        simp only [sRow] at hz2 fin2 lf el ⊢
        cases g with
        | false =>
          simp only [cond_false] at hb3
          simp only [zW,zX,zD,builtinA,isLeaf,const1,ustrA,simprocAttr,ti3,ti23,ti41,ti43,ti51,cf,Tryz.results45,hb3,hlr,hz2,hdz,hi1,LoopK_eq]
          exact ⟨hpr,⟨by omega,by omega,fun w hw=>lf w hw⟩,mz (by simpa only [cond_false,cond_true,List.append_assoc,List.cons_append,List.nil_append,List.length_set] using fin2 false _ rfl)⟩
        | true =>
          simp only [cond_true] at hb3
          simp only [zW,zX,zD,builtinA,isLeaf,const1,ustrA,simprocAttr,ti3,ti23,ti41,ti43,ti51,cf,Tryz.results45,hb3,hlr,hz2,hdz,hi1,LoopK_eq]
          exact ⟨hpr,⟨by omega,fun w hw=>el w hw⟩,mz (by simpa only [cond_false,cond_true,List.append_assoc,List.cons_append,List.nil_append,List.length_set] using fin2 true _ rfl)⟩
      · obtain ⟨rws,hg⟩ : ∃ rws,A3.getD i .dead = .gr none 4 rws:=by
          rcases hK with ⟨h0,_⟩ | ⟨h0,_⟩ | ⟨i',rws,_,h0,_,hg,_⟩
          · cases h0
          · cases h0
          · cases h0; exact ⟨rws,hg⟩
        have fin2:=fun g' Z=>fin g' (.own i) Z hK
        have hz2:=hz (.own i)
        clear fin hz
        simp only [sRow] at hz2 fin2 el2 ⊢
        cases g with
        | false =>
          simp only [cond_false] at hb3
          simp only [zW,zX,zD,builtinA,isLeaf,const1,ustrA,simprocAttr,ti3,ti23,ti41,ti43,ti51,cf,Tryz.results45,hb3,hg,hlr,hz2,hdz,hi1,LoopK_eq]
          exact ⟨hpr,⟨by omega,fun w hw=>el2 i w hw⟩,mz (by simpa only [cond_false,cond_true,List.append_assoc,List.cons_append,List.nil_append,List.length_set] using fin2 true _ rfl)⟩
        | true =>
          simp only [cond_true] at hb3
          simp only [zW,zX,zD,builtinA,isLeaf,const1,ustrA,simprocAttr,ti3,ti23,ti41,ti43,ti51,cf,Tryz.results45,hb3,hg,hlr,hz2,hdz,hi1,LoopK_eq]
          exact ⟨hpr,⟨by omega,fun w hw=>el2 i w hw⟩,mz (by simpa only [cond_false,cond_true,List.append_assoc,List.cons_append,List.nil_append,List.length_set] using fin2 true _ rfl)⟩
    · have d2 : decide ((p : Int) < (ys.length : Int)) = false:=by simp; omega
      have e : p = ys.length:=by omega
      subst e
      simp only [zW,zX,zD,builtinA,isLeaf,const1,ustrA,simprocAttr,ti3,ti23,ti41,ti43,ti51,cf,Tryz.results45,d2]
      rw [List.take_of_length_le (by simp)] at hO
      have low:=hO.low
      have hnd : (A.length :: SL).Nodup:=List.nodup_cons.2 ⟨fun h=>by have:=hlo _ h; omega,hN⟩
      have hge : ∀ i ∈ A.length :: SL,A.length ≤ i:=fun i hi=>by
        rcases List.mem_cons.1 hi with rfl | hi
        · exact Nat.le_refl _
        · have:=hlo i hi; omega
      have e0 : rl ++ List.replicate (ys.length - ys.length) zsi = rl:=by simp
      rw [e0] at hb
      cases g with
      | false=>exact .inr ⟨A.length,6,rl,hb,A.length,rfl,by simp; omega,fun k hk=>by rw [getD_set_ne' (by omega)]; exact hfr k hk,rl,SL,getD_set_self hlt,hO.frame fun i hi=>by have:=hlo i hi; rw [getD_set_ne' (by omega)],hnd,hge⟩
      | true=>exact .inl ⟨A.length,rfl,by omega,hfr,rl,SL,hb,hO,hnd,hge⟩
end Go.Proofs.YtejbjgmgdbcddaaGreatDoor
/- A signature's answer in memory of its own. -/
set_option linter.unusedVariables false
set_option linter.unusedSimpArgs false
namespace Go.Proofs.YtejbjgmgdbcddaaGreatDoor
open Go.Abs
theorem OwnK.free {A : List Box} {ks : List Ty} {v : AV} {S : List Nat} (h : OwnK A ks v S) : ifree v = true ∧ ∀ i ∈ S,ifreeB (A.getD i .dead) = true:=by
  have h2:=OwnT.free (ownT_mk.2 ⟨v,rfl,h⟩ : OwnT A (.mk 0 [] [] ks) _ S)
  simpa [ifrees,ifree] using h2
theorem OwnG.free {A : List Box} : ∀ {xs : List SigI} {rows : List (List AV)} {S : List Nat},OwnG A xs rows S → rows.all ifrees = true ∧ ∀ i ∈ S,ifreeB (A.getD i .dead) = true
  | [],rows,S,h=>by rw [OwnG] at h; rw [h.1,h.2]; exact ⟨rfl,by simp⟩
  | t :: ks,rows,S,h=>by
    rw [OwnG] at h
    obtain ⟨v,rows',S1,S2,rfl,rfl,h3,h4⟩:=h
    have a:=h3.free
    have b:=OwnG.free h4
    refine ⟨by rw [List.all_cons,b.1]; simp [sRow,ifrees,ifree,a.1],fun j hj=>?_⟩
    rcases List.mem_append.1 hj with hj | hj
    · exact a.2 j hj
    · exact b.2 j hj
theorem OwnI.free {A : List Box} {xs : List SigI} {v : AV} {S : List Nat} (h : OwnI A xs v S) : ifree v = true ∧ ∀ i ∈ S,ifreeB (A.getD i .dead) = true:=by
  rcases h with ⟨rfl,_,rfl⟩ | ⟨i,rows,S',rfl,rfl,h3,h4⟩
  · exact ⟨rfl,by simp⟩
  · refine ⟨rfl,fun j hj=>?_⟩
    have h5:=h4.free
    rcases List.mem_cons.1 hj with rfl | hj
    · rw [h3]; exact h5.1
    · exact h5.2 j hj
def SgOut (A : List Box) (xs : List SigI) (ok : Bool) (r : AV) (A' : List Box) : Prop :=
  ∃ v S,r = .tuple [v,.bool ok] ∧ OwnI A' xs v S ∧ S.Nodup ∧ (∀ i ∈ S,A.length ≤ i) ∧ A.length ≤ A'.length ∧ ∀ i,i < A.length → A'.getD i .dead = A.getD i .dead
def SgNew (A : List Box) (xs : List SigI) (ok : Bool) (r : AV) (A' : List Box) : Prop :=
  ∃ B v S,A' = A ++ B ∧ (∀ b ∈ B,ifreeB b = true) ∧ r = .tuple [v,.bool ok] ∧ ifree v = true ∧ OwnI A' xs v S ∧ S.Nodup ∧ ∀ i ∈ S,A.length ≤ i ∧ i < A'.length
theorem sgNew_of {A A' : List Box} {xs : List SigI} {ok : Bool} {r : AV} (h : SgOut A xs ok r A') : ∃ keep,SgNew A xs ok r (only keep A'):=by
  obtain ⟨v,S,rfl,hT,hN,hge,hl,hf⟩:=h
  refine ⟨fun k=>decide (k < A.length) || decide (k ∈ S),?_⟩
  have hfree:=hT.free
  have hlow:=hT.low
  generalize hkp : (fun k=>decide (k < A.length) || decide (k ∈ S)) = keep
  have k1 : ∀ k,k < A.length → keep k = true:=fun k hk=>by rw [← hkp]; simp [hk]
  have k2 : ∀ k,k ∈ S → keep k = true:=fun k hk=>by rw [← hkp]; simp [hk]
  have k3 : ∀ k,A.length ≤ k → keep k = true → k ∈ S:=fun k h1 h2=>by
    rw [← hkp] at h2
    simp at h2
    rcases h2 with h2 | h2
    · omega
    · exact h2
  have e:=split_front (A:=A) (A':=only keep A') (by rw [only_length]; exact hl) (fun k hk=>by rw [only_getD,if_pos (k1 k hk)]; exact hf k hk)
  refine ⟨_,v,S,e,fun b hb=>?_,rfl,hfree.1,hT.frame fun i hi=>by rw [only_getD,if_pos (k2 i hi)],hN,fun i hi=>⟨hge i hi,by rw [only_length]; exact hlow i hi⟩⟩
  obtain ⟨i,hi,rfl⟩:=List.mem_iff_getElem.1 hb
  rw [List.getElem_drop]
  have hi2 : A.length + i < (only keep A').length:=by simp at hi; omega
  have e2 : (only keep A')[A.length + i] = (only keep A').getD (A.length + i) .dead:=by simp [List.getD,hi2]
  rw [e2,only_getD]
  split
  · rename_i hk; exact hfree.2 _ (k3 _ (by omega) hk)
  · rfl
theorem sg_call {f : FuncId} {args : List AV} {xs : List SigI} {ok : Bool} (h : ∀ A,ACalls Tryz.prog f args A (fun r A'=>SgOut A xs ok r A')) (A : List Box) : ACalls Tryz.prog f args A (SgNew A xs ok) :=
  ACalls.only ((h A).mono fun r A' h=>sgNew_of h)
set_option maxRecDepth 100000 in
theorem impl_plainSig (ys : List VI) (hl : ys.length ≤ 1000) (A : List Box) : ACalls Tryz.prog 23 [.slice (vRows ys)] A (fun r A'=>∃ j,r = .own j ∧ NewG A (ys.map siOf) j A'):=by
  refine acalls_enterK (cf:=cf 5 [0,2]) foll Tryz.func23 Tryz.ntmps23 (by simp [cf]) ?_
  simp only [Tryz.f23,EnterK_some,zW,zX,zD,builtinA,isLeaf,const1,ustrA,simprocAttr,ca45,cf,Tryz.results23]
  refine callO_intro (impl_plainItems ys hl _) ?_
  rintro r A' ⟨j,rfl,h⟩
  simp only [zW,zX,zD,builtinA,isLeaf,const1,ustrA,simprocAttr,ca45,cf,Tryz.results23]
  exact ⟨j,rfl,h⟩
def nrX : Option (List VI) → List SigI
  | some zs=>zs.map siOf
  | none=>[]
theorem sg_none (A B : List Box) : SgOut A [] false (.tuple [.nils,.bool false]) (A ++ B):=⟨_,[],rfl,.inl ⟨rfl,rfl,rfl⟩,by simp,by simp,by simp,fun i hi=>Abs.getD_append_left hi⟩
end Go.Proofs.YtejbjgmgdbcddaaGreatDoor
/- What NormalSig and the like hand back: a list of items that is new memory. -/
set_option linter.unusedVariables false
set_option linter.unusedSimpArgs false
namespace Go.Proofs.YtejbjgmgdbcddaaGreatDoor
open Go.Abs
theorem rdN_len {s : List SigI} {zs : List VI} (h : RdN s (some zs)) : zs.length ≤ 8:=by
  obtain ⟨ys,h8,hr,_,hn⟩:=h
  have:=normL_len hn
  have:=hr.1
  omega
set_option maxRecDepth 100000 in
theorem impl_NormalSig (s : List SigI) (hs : s.length ≤ 1048576) (ho : ∀ x ∈ s,x.Ok ∧ sz x.typ ≤ 1048576) (A : List Box) : ACalls Tryz.prog 9 [.slice (sEs s)] A (fun r A'=>∃ o,RdN s o ∧ SgOut A (nrX o) o.isSome r A'):=by
  refine acalls_enterK (cf:=cf 15 [0,2,3,4,5,12]) foll Tryz.func9 Tryz.ntmps9 (by simp [cf]) ?_
  simp only [Tryz.f9,EnterK_some,zW,zX,zD,builtinA,isLeaf,const1,ustrA,simprocAttr,ca23,ca27,cf,Tryz.results9]
  refine callO_intro (impl_readNormal s hs ho _) ?_
  rintro r A1 ⟨B,rfl,⟨zs,j,hrd,rfl,hj,hg⟩ | ⟨hrd,rfl⟩⟩
  · have hzl:=(rdN_len hrd)
    simp only [zW,zX,zD,builtinA,isLeaf,const1,ustrA,simprocAttr,ca23,ca27,cf,Tryz.results9]
    have h1 : (A ++ B).getD (A.length + j) .dead = .row 1 (vRows zs) 0:=by
      rw [Abs.getD_append_right (by omega),show A.length + j - A.length = j by omega]; exact hg
    have hfz : frzs [.own (A.length + j)] (A ++ B) = some ([.slice (vRows zs)],A ++ B.set j (.row 1 (vRows zs) (vRows zs).length)):=by
      have h2 : (A ++ B).set (A.length + j) (.row 1 (vRows zs) (vRows zs).length) = A ++ B.set j (.row 1 (vRows zs) (vRows zs).length):=by simp [List.set_append]
      simp only [frzs,frzC,frz1,h1,h2]
    refine callK_intro hfz (impl_plainSig zs (by omega) _) ?_ rfl
    rintro r A' ⟨i,rfl,hle,hf,rows,S,hgi,hO,hN,hge⟩
    simp only [zW,zX,zD,builtinA,isLeaf,const1,ustrA,simprocAttr,ca23,ca27,cf,Tryz.results9]
    simp only [List.length_append,List.length_set] at hle hge
    exact ⟨some zs,hrd,_,i :: S,rfl,.inr ⟨i,rows,S,rfl,rfl,hgi,hO⟩,hN,fun x hx=>by have:=hge x hx; omega,by omega,fun x hx=>by rw [hf x (by simp; omega),Abs.getD_append_left hx]⟩
  · simp only [zW,zX,zD,builtinA,isLeaf,const1,ustrA,simprocAttr,ca23,ca27,cf,Tryz.results9]
    exact ⟨none,hrd,_,[],rfl,.inl ⟨rfl,rfl,rfl⟩,by simp,by simp,by simp,fun i hi=>Abs.getD_append_left hi⟩
end Go.Proofs.YtejbjgmgdbcddaaGreatDoor
/- Strengthened signatures, by the program and by the model. -/
set_option linter.unusedVariables false
set_option linter.unusedSimpArgs false
namespace Go.Proofs.YtejbjgmgdbcddaaGreatDoor
open Go.Abs
theorem ready {s : List SigI} {ys : List VI} (h : ReadsTo s ys) {i : Nat} (hi : i < s.length) : s.getD i si0 = siOf (ys.getD i vi0):=itemOf_si (h.2 i hi).2
end Go.Proofs.YtejbjgmgdbcddaaGreatDoor
/- Equality of signatures: the program's and the model's. -/
set_option linter.unusedVariables false
set_option linter.unusedSimpArgs false
namespace Go.Proofs.YtejbjgmgdbcddaaGreatDoor
open Go.Abs
noncomputable def siB (x y : SigI) : Bool:=(decide (x.kind = y.kind) && decide (x.name = y.name)) && decide (x.typ = y.typ)
noncomputable def sisB : List SigI → List SigI → Bool
  | [],[]=>true
  | x :: a,y :: b=>siB x y && sisB a b
  | _,_=>false
theorem sisB_len : ∀ {a b : List SigI},a.length ≠ b.length → sisB a b = false
  | [],[],h=>absurd rfl h
  | [],_ :: _,_=>by simp [sisB]
  | _ :: _,[],_=>by simp [sisB]
  | x :: a,y :: b,h=>by simp [sisB,sisB_len (a:=a) (b:=b) (by simpa using h)]
end Go.Proofs.YtejbjgmgdbcddaaGreatDoor
/- The source of the drawn arguments. -/
set_option linter.unusedVariables false
set_option linter.unusedSimpArgs false
namespace Go.Proofs.YtejbjgmgdbcddaaGreatDoor
open Go.Abs
def Rd (bs : List UInt8) (p : Nat) : Box:=.cells [.aslice (byteRows bs),.int .i64 p]
theorem rd_closed (n : Nat) (bs : List UInt8) (p : Nat) : boxClosed n (Rd bs p) = true:=rfl
theorem byteRows_length (bs : List UInt8) : (byteRows bs).length = bs.length:=by simp [byteRows]
theorem byteRows_getD {bs : List UInt8} {i : Nat} (h : i < bs.length) : (byteRows bs).getD i [] = [.int .u8 ((bs.getD i 0).toNat : Nat)]:=by simp [byteRows,List.getD,h]
theorem byte_lt (b : UInt8) : (b.toNat : Int) < 256:=by have:=b.toNat_lt; omega
theorem xor_wrap {X : Nat} (h : X < 2 ^ 62) : 0 ≤ IntKind.i64.wrap ((BitVec.ofInt IntKind.i64.bits (X : Int) ^^^ BitVec.ofInt IntKind.i64.bits (IntKind.i64.wrap ((X : Int).tdiv 64))).toNat : Int):=by
  have h1 : ((X : Int).tdiv 64) = ((X / 64 : Nat) : Int):=rfl
  have h2 : X / 64 < 2 ^ 62:=by omega
  have h4 : IntKind.i64.wrap ((X / 64 : Nat) : Int) = ((X / 64 : Nat) : Int):=wrap64 (by omega) (by omega)
  rw [h1,h4]
  show 0 ≤ IntKind.i64.wrap ((BitVec.ofInt 64 (X : Int) ^^^ BitVec.ofInt 64 ((X / 64 : Nat) : Int)).toNat : Int)
  have e1 : (BitVec.ofInt 64 (X : Int)).toNat = X:=by rw [BitVec.toNat_ofInt]; omega
  have e2 : (BitVec.ofInt 64 ((X / 64 : Nat) : Int)).toNat = X / 64:=by rw [BitVec.toNat_ofInt]; omega
  rw [BitVec.toNat_xor,e1,e2]
  have h3:=Nat.xor_lt_two_pow h h2
  rw [wrap64 (by omega) (by omega)]
  omega
set_option maxRecDepth 100000 in
theorem spec_l17Open (bs : List UInt8) (A : List Box) : ACalls Tryz.prog 39 [.aslice (byteRows bs)] A (fun r A'=>∃ bs',bs'.length ≤ 2000 ∧ r = .ptr A.length 0 ∧ A' = A ++ [Rd bs' 0]):=by
  refine acalls_enterK (cf:=cf 11 [0,2,5]) foll Tryz.func39 Tryz.ntmps39 (by simp [cf]) ?_
  simp only [Tryz.f39,EnterK_some,zW,zX,zD,builtinA,isLeaf,const1,ustrA,simprocAttr,ti3,ti5,ti22,ti126,cf,Tryz.results39]
  refine condK_intro (fun h=>?_) (fun h=>?_)
  · simp [byteRows_length] at h
    simp only [zW,zX,zD,builtinA,isLeaf,const1,ustrA,simprocAttr,ti3,ti5,ti22,ti126,cf,Tryz.results39]
    refine ⟨⟨by simp [byteRows],by rw [byteRows_length]; omega⟩,bs.take 2000,(by rw [List.length_take]; omega),by simp [Rd,byteRows,List.map_take]⟩
  · have h' : bs.length ≤ 2000:=by simp [byteRows_length] at h; omega
    simp only [zW,zX,zD,builtinA,isLeaf,const1,ustrA,simprocAttr,ti3,ti5,ti22,ti126,cf,Tryz.results39]
    exact ⟨bs,h',rfl⟩
set_option maxRecDepth 100000 in
theorem spec_pick (bs : List UInt8) (p : Nat) (n : Int) (i : Nat) (A : List Box) (hi : i < A.length) (hA : A.getD i .dead = Rd bs p) (hp : p < 2 ^ 40) (hn : n < 2 ^ 40) :
    ACalls Tryz.prog 64 [.ptr i 0,.int .i64 n] A (fun r A'=>∃ j : Int,r = .int .i64 j ∧ 0 ≤ j ∧ (1 ≤ n → j < n) ∧ A' = A.set i (Rd bs (p + 1))):=by
  rw [Rd] at hA
  have hp1 : IntKind.i64.wrap ((p : Int) + 1) = ((p + 1 : Nat) : Int):=by rw [wrap64 (by omega) (by omega)]; rfl
  refine acalls_enter (cf:=cf 99 [0,1,4,5,6,24,36]) foll Tryz.func64 Tryz.ntmps64 (by simp [cf]) ?_
  simp only [Tryz.f64,EnterK_some,zW,zX,zD,builtinA,isLeaf,const1,ustrA,simprocAttr,ti3,ti5,ti22,ti126,cf,Tryz.results64]
  simp only [zW,zX,zD,builtinA,isLeaf,const1,ustrA,simprocAttr,ti3,ti5,ti22,ti126,cf,Tryz.results64,hA,hi,hp1]
  have hout : Outer A (A.set i (.cells [.aslice (byteRows bs),.int .i64 ((p + 1 : Nat) : Int)])):=outer_set0 A i _ rfl
  by_cases hn1 : n < 1
  · have e1 : decide (n < 1) = true:=decide_eq_true hn1
    simp only [zW,zX,zD,builtinA,isLeaf,const1,ustrA,simprocAttr,ti3,ti5,ti22,ti126,cf,Tryz.results64,hA,hi,hp1,e1]
    exact ⟨hout,0,rfl,by omega,by omega,rfl⟩
  · have e1 : decide (n < 1) = false:=decide_eq_false hn1
    simp only [zW,zX,zD,builtinA,isLeaf,const1,ustrA,simprocAttr,ti3,ti5,ti22,ti126,cf,Tryz.results64,hA,hi,hp1,e1,byteRows_length]
    by_cases hb : bs.length = 0
    · have e2 : decide ((bs.length : Int) = 0) = true:=decide_eq_true (by omega)
      simp only [zW,zX,zD,builtinA,isLeaf,const1,ustrA,simprocAttr,ti3,ti5,ti22,ti126,cf,Tryz.results64,hA,hi,hp1,e1,e2,byteRows_length]
      exact ⟨hout,0,rfl,by omega,by omega,rfl⟩
    · have e2 : decide ((bs.length : Int) = 0) = false:=decide_eq_false (by omega)
      have hp2 : IntKind.i64.wrap (((p + 1 : Nat) : Int) - 1) = (p : Int):=by rw [wrap64 (by omega) (by omega)]; omega
      simp only [zW,zX,zD,builtinA,isLeaf,const1,ustrA,simprocAttr,ti3,ti5,ti22,ti126,cf,Tryz.results64,hA,hi,hp1,hp2,e1,e2,byteRows_length]
      by_cases hk : p < bs.length
      · have e3 : decide ((p : Int) < bs.length) = true:=decide_eq_true (by omega)
        simp only [zW,zX,zD,builtinA,isLeaf,const1,ustrA,simprocAttr,ti3,ti5,ti22,ti126,cf,Tryz.results64,hA,hi,hp1,hp2,e1,e2,e3,byteRows_length,byteRows_getD hk]
        have hb0:=byte_lt (bs.getD p 0)
        rw [wrap64 (by omega) (by omega)]
        have hr0:=Int.tmod_nonneg n (show (0 : Int) ≤ ((bs.getD p 0).toNat : Nat) by omega)
        have hr1:=Int.tmod_lt_of_pos (((bs.getD p 0).toNat : Nat) : Int) (show (0 : Int) < n by omega)
        exact ⟨by omega,by omega,hout,_,rfl,hr0,fun _=>hr1,rfl⟩
      · have e3 : decide ((p : Int) < bs.length) = false:=decide_eq_false (by omega)
        simp only [zW,zX,zD,builtinA,isLeaf,const1,ustrA,simprocAttr,ti3,ti5,ti22,ti126,cf,Tryz.results64,hA,hi,hp1,hp2,e1,e2,e3,byteRows_length]
        refine .inl ⟨by kernel_rfl,by kernel_rfl,?_⟩
        obtain ⟨L,hL⟩ : ∃ L,L = bs.length:=⟨_,rfl⟩
        have hL0 : 0 < L:=by omega
        have hm0 : p % L < L:=Nat.mod_lt _ hL0
        have hm1 : (p * 7 + 3) % L < L:=Nat.mod_lt _ hL0
        have hq : p / L ≤ p:=Nat.div_le_self _ _
        obtain ⟨b0,hb0⟩ : ∃ b0 : Nat,b0 = (bs.getD (p % L) 0).toNat:=⟨_,rfl⟩
        obtain ⟨b1,hb1⟩ : ∃ b1 : Nat,b1 = (bs.getD ((p * 7 + 3) % L) 0).toNat:=⟨_,rfl⟩
        have hb0l : b0 < 256:=by rw [hb0]; exact (bs.getD (p % L) 0).toNat_lt
        have hb1l : b1 < 256:=by rw [hb1]; exact (bs.getD ((p * 7 + 3) % L) 0).toNat_lt
        have g0 : (byteRows bs).getD (p % L) [] = [.int .u8 (b0 : Int)]:=by rw [byteRows_getD (by omega),hb0]
        have g1 : (byteRows bs).getD ((p * 7 + 3) % L) [] = [.int .u8 (b1 : Int)]:=by rw [byteRows_getD (by omega),hb1]
        obtain ⟨q,hqd⟩ : ∃ q,q = p / L:=⟨_,rfl⟩
        have t0 : ((p : Int)).tmod (L : Int) = ((p % L : Nat) : Int):=rfl
        have t1 : (((p * 7 + 3 : Nat)) : Int).tmod (L : Int) = (((p * 7 + 3) % L : Nat) : Int):=rfl
        have t2 : ((p : Int)).tdiv (L : Int) = (q : Int):=by rw [hqd]; rfl
        have w0 : IntKind.i64.wrap (b0 : Int) = b0:=wrap64 (by omega) (by omega)
        have w1 : IntKind.i64.wrap ((b0 : Int) * 131) = ((b0 * 131 : Nat) : Int):=by rw [wrap64 (by omega) (by omega)]; omega
        have w2 : IntKind.i64.wrap (b1 : Int) = b1:=wrap64 (by omega) (by omega)
        have w3 : IntKind.i64.wrap ((b1 : Int) * 1117) = ((b1 * 1117 : Nat) : Int):=by rw [wrap64 (by omega) (by omega)]; omega
        have w4 : IntKind.i64.wrap ((p : Int) * 7) = ((p * 7 : Nat) : Int):=by rw [wrap64 (by omega) (by omega)]; omega
        have w5 : IntKind.i64.wrap (((p * 7 : Nat) : Int) + 3) = ((p * 7 + 3 : Nat) : Int):=by rw [wrap64 (by omega) (by omega)]; omega
        have w6 : IntKind.i64.wrap (((b0 * 131 : Nat) : Int) + ((b1 * 1117 : Nat) : Int)) = ((b0 * 131 + b1 * 1117 : Nat) : Int):=by rw [wrap64 (by omega) (by omega)]; omega
        have w7 : IntKind.i64.wrap ((p : Int) * 29) = ((p * 29 : Nat) : Int):=by rw [wrap64 (by omega) (by omega)]; omega
        have w8 : IntKind.i64.wrap (((b0 * 131 + b1 * 1117 : Nat) : Int) + ((p * 29 : Nat) : Int)) = ((b0 * 131 + b1 * 1117 + p * 29 : Nat) : Int):=by rw [wrap64 (by omega) (by omega)]; omega
        have w9 : IntKind.i64.wrap (q : Int) = q:=wrap64 (by omega) (by omega)
        have wa : IntKind.i64.wrap ((q : Int) * 53) = ((q * 53 : Nat) : Int):=by rw [wrap64 (by omega) (by omega)]; omega
        have wb : IntKind.i64.wrap (((b0 * 131 + b1 * 1117 + p * 29 : Nat) : Int) + ((q * 53 : Nat) : Int)) = ((b0 * 131 + b1 * 1117 + p * 29 + q * 53 : Nat) : Int):=by rw [wrap64 (by omega) (by omega)]; omega
        rw [← hL]
        simp only [zW,zX,zD,builtinA,isLeaf,const1,ustrA,simprocAttr,ti3,ti5,ti22,ti126,cf,Tryz.results64,hA,hi,hp1,hp2,e1,e2,e3,byteRows_length,← hL,t0,t1,t2,w0,w1,w2,w3,w4,w5,w6,w7,w8,w9,wa,wb,g0,g1]
        obtain ⟨X,hX⟩ : ∃ X,X = b0 * 131 + b1 * 1117 + p * 29 + q * 53:=⟨_,rfl⟩
        have hXl : X < 2 ^ 62:=by omega
        rw [← hX]
        have hx:=xor_wrap hXl
        refine ⟨by omega,⟨by omega,by omega⟩,by omega,⟨by omega,by omega⟩,by omega,by omega,hout,_,rfl,Int.tmod_nonneg n hx,fun _=>Int.tmod_lt_of_pos _ (by omega),rfl⟩
set_option maxRecDepth 100000 in
theorem spec_of (bs : List UInt8) (p : Nat) (l : List (List UInt8)) (i : Nat) (A : List Box) (hi : i < A.length) (hA : A.getD i .dead = Rd bs p) (hp : p < 2 ^ 40) (hl : 0 < l.length ∧ l.length < 1000) :
    ACalls Tryz.prog 42 [.ptr i 0,.slice (l.map fun s=>[.str s])] A (fun r A'=>∃ s,r = .str s ∧ s ∈ l ∧ A' = A.set i (Rd bs (p + 1))):=by
  have hll : (l.map fun s=>[AV.str s]).length = l.length:=by simp
  refine acalls_enter (cf:=cf 12 [0,1,4]) foll Tryz.func42 Tryz.ntmps42 (by simp [cf]) ?_
  simp only [Tryz.f42,EnterK_some,zW,zX,zD,builtinA,isLeaf,const1,ustrA,simprocAttr,ti9,ti88,ca64,cf,Tryz.results42]
  simp only [hll]
  refine callK_intro (by simp only [zW,zX,zD,builtinA,isLeaf,const1,ustrA,simprocAttr]; rfl) (spec_pick bs p _ i _ hi hA hp (by omega)) ?_ rfl
  rintro v A' ⟨j,rfl,h0,h1,rfl⟩
  obtain ⟨k,rfl⟩:=Int.eq_ofNat_of_zero_le h0
  have hk : k < l.length:=by have:=h1 (by omega); omega
  have hg : (l.map fun s=>[AV.str s]).getD k [] = [.str (l.getD k [])]:=by simp [List.getD,hk]
  simp only [zW,zX,zD,builtinA,isLeaf,const1,ustrA,simprocAttr,ti9,ti88,ca64,cf,Tryz.results42,hi,hll,hg]
  exact ⟨⟨by omega,by omega⟩,outer_set0 A i _ (rd_closed _ _ _),_,rfl,Abs.getD_mem hk⟩
set_option maxRecDepth 100000 in
theorem spec_num (bs : List UInt8) (p : Nat) (l : List Int) (i : Nat) (A : List Box) (hi : i < A.length) (hA : A.getD i .dead = Rd bs p) (hp : p < 2 ^ 40) (hl : 0 < l.length ∧ l.length < 1000) :
    ACalls Tryz.prog 69 [.ptr i 0,.slice (l.map fun s=>[.int .i64 s])] A (fun r A'=>∃ s,r = .int .i64 s ∧ s ∈ l ∧ A' = A.set i (Rd bs (p + 1))):=by
  have hll : (l.map fun s=>[AV.int .i64 s]).length = l.length:=by simp
  refine acalls_enter (cf:=cf 12 [0,1,4]) foll Tryz.func69 Tryz.ntmps69 (by simp [cf]) ?_
  simp only [Tryz.f69,EnterK_some,zW,zX,zD,builtinA,isLeaf,const1,ustrA,simprocAttr,ti3,ti128,ca64,cf,Tryz.results69]
  simp only [hll]
  refine callK_intro (by simp only [zW,zX,zD,builtinA,isLeaf,const1,ustrA,simprocAttr]; rfl) (spec_pick bs p _ i _ hi hA hp (by omega)) ?_ rfl
  rintro v A' ⟨j,rfl,h0,h1,rfl⟩
  obtain ⟨k,rfl⟩:=Int.eq_ofNat_of_zero_le h0
  have hk : k < l.length:=by have:=h1 (by omega); omega
  have hg : (l.map fun s=>[AV.int .i64 s]).getD k [] = [.int .i64 (l.getD k 0)]:=by simp [List.getD,hk]
  simp only [zW,zX,zD,builtinA,isLeaf,const1,ustrA,simprocAttr,ti3,ti128,ca64,cf,Tryz.results69,hi,hll,hg]
  exact ⟨⟨by omega,by omega⟩,outer_set0 A i _ (rd_closed _ _ _),_,rfl,Abs.getD_mem hk⟩
end Go.Proofs.YtejbjgmgdbcddaaGreatDoor
/- Drawn types. -/
set_option linter.unusedVariables false
set_option linter.unusedSimpArgs false
namespace Go.Proofs.YtejbjgmgdbcddaaGreatDoor
open Go.Abs
theorem enc_closed (t : Ty) (n : Nat) : (enc t).all (closed1 n) = true:=by cases t; rfl
theorem enc_drop (t : Ty) : List.drop 4 (enc t) = []:=by cases t; rw [enc]; rfl
set_option maxRecDepth 100000 in
theorem spec_l1Num (A : List Box) : ACalls Tryz.prog 72 [] A (fun r A'=>r = .agg (enc (toTy .num)) ∧ A' = A):=by
  rw [toTy,enc,encs]
  refine acalls_enter (cf:=cf 2 [0]) foll Tryz.func72 Tryz.ntmps72 (by simp [cf]) ?_
  simp only [Tryz.f72,EnterK_some,zW,zX,zD,builtinA,isLeaf,const1,Nat.reduceAdd,Nat.reduceMul,Nat.reduceSub,Nat.reduceLT,Nat.reduceLeDiff,Nat.reduceEqDiff,Nat.reduceBEq,Nat.reduceBNe,reduceIte,reduceCtorEq,Int.reduceToNat,Int.reduceLT,Int.reduceLE,Int.reduceEq,Int.reduceNe,Int.reduceNeg,ustrA,ti32,cf,Tryz.results72]
set_option maxRecDepth 100000 in
theorem spec_l1Name (m n : List UInt8) (A : List Box) : ACalls Tryz.prog 71 [.str m,.str n] A (fun r A'=>r = .agg (enc (toTy (.nm m n))) ∧ A' = A):=by
  rw [toTy,enc,encs]
  refine acalls_enter (cf:=cf 8 [0,1,4]) foll Tryz.func71 Tryz.ntmps71 (by simp [cf]) ?_
  simp only [Tryz.f71,EnterK_some,zW,zX,zD,builtinA,isLeaf,const1,Nat.reduceAdd,Nat.reduceMul,Nat.reduceSub,Nat.reduceLT,Nat.reduceLeDiff,Nat.reduceEqDiff,Nat.reduceBEq,Nat.reduceBNe,reduceIte,reduceCtorEq,Int.reduceToNat,Int.reduceLT,Int.reduceLE,Int.reduceEq,Int.reduceNe,Int.reduceNeg,ustrA,ti32,cf,Tryz.results71]
set_option maxRecDepth 100000 in
theorem spec_l1Fun (a b : Ty) (A : List Box) : ACalls Tryz.prog 99 [.agg (enc a),.agg (enc b)] A (fun r A'=>r = .agg (enc (.mk 2 [] [] [a,b])) ∧ A' = A):=by
  rw [enc,encs,encs,encs]
  refine acalls_enter (cf:=cf 9 [0,1,2,3,4]) foll Tryz.func99 Tryz.ntmps99 (by simp [cf]) ?_
  simp only [Tryz.f99,EnterK_some,zW,zX,zD,builtinA,isLeaf,const1,Nat.reduceAdd,Nat.reduceMul,Nat.reduceSub,Nat.reduceLT,Nat.reduceLeDiff,Nat.reduceEqDiff,Nat.reduceBEq,Nat.reduceBNe,reduceIte,reduceCtorEq,Int.reduceToNat,Int.reduceLT,Int.reduceLE,Int.reduceEq,Int.reduceNe,Int.reduceNeg,ustrA,ti30,ti32,cf,Tryz.results99]
  simp only [enc_take,enc_length]
  simp only [zW,zX,zD,builtinA,isLeaf,const1,Nat.reduceAdd,Nat.reduceMul,Nat.reduceSub,Nat.reduceLT,Nat.reduceLeDiff,Nat.reduceEqDiff,Nat.reduceBEq,Nat.reduceBNe,reduceIte,reduceCtorEq,Int.reduceToNat,Int.reduceLT,Int.reduceLE,Int.reduceEq,Int.reduceNe,Int.reduceNeg,ustrA,ti30,ti32,cf,Tryz.results99,frzL_enc,enc_take,enc_length]
  exact ⟨fun v hv=>enc_leaf a v hv,fun v hv=>enc_leaf b v hv⟩
end Go.Proofs.YtejbjgmgdbcddaaGreatDoor
