/- OwnTo, OwnFree, OwnSi, SigPl, SigOutA, SpSigN, SigRenD, SortK, ModsD. -/
import Derived.Test.YtnjdbgiincliaaaGreatR08
import Derived.Test.YtnjdbgiincliaaaGreatAbsW3
import Derived.Shelf.SlIter.Nil
import Derived.StringKeys
import Derived.WideShapes
/- A law's argument, a type, as memory of its own. -/
set_option linter.unusedVariables false
set_option linter.unusedSimpArgs false
namespace Go.Proofs.YtnjdbgiincliaaaGreat
open Go.Abs
theorem getD_repl {α : Type} {n i : Nat} {x d : α} (h : i < n) : (List.replicate n x).getD i d = x:=by simp [List.getD,h]
end Go.Proofs.YtnjdbgiincliaaaGreat
/- What is owned holds no place of other memory. -/
set_option linter.unusedVariables false
set_option linter.unusedSimpArgs false
namespace Go.Proofs.YtnjdbgiincliaaaGreat
open Go.Abs
mutual
theorem OwnT.free {A : List Box} : ∀ {t : Ty} {r : List AV} {S : List Nat},OwnT A t r S → ifrees r = true ∧ ∀ i ∈ S,ifreeB (A.getD i .dead) = true
  | .mk k m n ks,r,S,h=>by
    rw [OwnT] at h
    obtain ⟨v,rfl,h⟩:=h
    rcases h with ⟨rfl,_,rfl⟩ | ⟨rfl,_,rfl⟩ | ⟨i,rows,S',rfl,rfl,h3,h4⟩
    · exact ⟨by simp [ifrees,ifree],by simp⟩
    · exact ⟨by simp [ifrees,ifree],by simp⟩
    · refine ⟨by simp [ifrees,ifree],fun j hj=>?_⟩
      have h5:=OwnR.free h4
      rcases List.mem_cons.1 hj with rfl | hj
      · rw [h3]; exact h5.1
      · exact h5.2 j hj
theorem OwnR.free {A : List Box} : ∀ {ks : List Ty} {rows : List (List AV)} {S : List Nat},OwnR A ks rows S → rows.all ifrees = true ∧ ∀ i ∈ S,ifreeB (A.getD i .dead) = true
  | [],rows,S,h=>by rw [OwnR] at h; rw [h.1,h.2]; exact ⟨rfl,by simp⟩
  | t :: ks,rows,S,h=>by
    rw [OwnR] at h
    obtain ⟨r,rows',S1,S2,rfl,rfl,h3,h4⟩:=h
    have a:=OwnT.free h3
    have b:=OwnR.free h4
    refine ⟨by rw [List.all_cons,a.1,b.1]; rfl,fun j hj=>?_⟩
    rcases List.mem_append.1 hj with hj | hj
    · exact a.2 j hj
    · exact b.2 j hj
end
end Go.Proofs.YtnjdbgiincliaaaGreat
/- Marks in a list of items that is owned. -/
set_option linter.unusedVariables false
set_option linter.unusedSimpArgs false
namespace Go.Proofs.YtnjdbgiincliaaaGreat
open Go.Abs
theorem enc4s (t : Ty) : enc t = [.int .i64 t.kind,.str t.mod,.str t.name,.slice (encs t.kids)]:=by cases t; rw [enc]; rfl
theorem sE6 (x : SigI) : sE x = [.int .i64 x.kind,.str x.name,.int .i64 x.typ.kind,.str x.typ.mod,.str x.typ.name,.slice (encs x.typ.kids)]:=by rw [sE,enc4s]
def sRow (b : SigI) (v : AV) : List AV:=[.int .i64 b.kind,.str b.name,.int .i64 b.typ.kind,.str b.typ.mod,.str b.typ.name,v]
def OwnG (A : List Box) : List SigI → List (List AV) → List Nat → Prop
  | [],rows,S=>rows = [] ∧ S = []
  | b :: bs,rows,S=>∃ v rows' S1 S2,rows = sRow b v :: rows' ∧ S = S1 ++ S2 ∧ OwnK A b.typ.kids v S1 ∧ OwnG A bs rows' S2
theorem OwnG.frame {A A' : List Box} : ∀ {bs : List SigI} {rows : List (List AV)} {S : List Nat},OwnG A bs rows S → (∀ i ∈ S,A'.getD i .dead = A.getD i .dead) → OwnG A' bs rows S
  | [],rows,S,h,hf=>h
  | b :: bs,rows,S,h,hf=>by
    rw [OwnG] at h ⊢
    obtain ⟨v,rows',S1,S2,h1,rfl,h3,h4⟩:=h
    exact ⟨v,rows',S1,S2,h1,rfl,h3.frame fun j hj=>hf j (by simp [hj]),OwnG.frame h4 fun j hj=>hf j (by simp [hj])⟩
theorem OwnG.length {A : List Box} : ∀ {bs : List SigI} {rows : List (List AV)} {S : List Nat},OwnG A bs rows S → rows.length = bs.length
  | [],rows,S,h=>by rw [OwnG] at h; rw [h.1]; rfl
  | b :: bs,rows,S,h=>by
    rw [OwnG] at h
    obtain ⟨v,rows',S1,S2,rfl,h2,h3,h4⟩:=h
    simp [OwnG.length h4]
theorem OwnG.low {A : List Box} : ∀ {bs : List SigI} {rows : List (List AV)} {S : List Nat},OwnG A bs rows S → ∀ i ∈ S,i < A.length
  | [],rows,S,h=>by rw [OwnG] at h; rw [h.2]; simp
  | b :: bs,rows,S,h=>by
    rw [OwnG] at h
    obtain ⟨v,rows',S1,S2,h1,rfl,h3,h4⟩:=h
    intro j hj
    rcases List.mem_append.1 hj with hj | hj
    · exact h3.low j hj
    · exact OwnG.low h4 j hj
theorem OwnG.append {A : List Box} : ∀ {k1 k2 : List SigI} {r1 r2 : List (List AV)} {S1 S2 : List Nat},OwnG A k1 r1 S1 → OwnG A k2 r2 S2 → OwnG A (k1 ++ k2) (r1 ++ r2) (S1 ++ S2)
  | [],k2,r1,r2,S1,S2,h1,h2=>by
    rw [OwnG] at h1
    rw [h1.1,h1.2]; exact h2
  | t :: k1,k2,r1,r2,S1,S2,h1,h2=>by
    rw [OwnG] at h1
    obtain ⟨v,r',T1,T2,rfl,rfl,h3,h4⟩:=h1
    rw [List.cons_append,OwnG]
    exact ⟨v,r' ++ r2,T1,T2 ++ S2,by simp,by simp,h3,OwnG.append h4 h2⟩
theorem OwnG.view {A : List Box} : ∀ {bs : List SigI} {rows : List (List AV)} {S : List Nat},OwnG A bs rows S → ∀ k,k < rows.length → ∀ j,j < 6 → View A ((rows.getD k []).getD j .bot) ((sE (bs.getD k si0)).getD j .bot)
  | [],rows,S,h=>by rw [OwnG] at h; rw [h.1]; intro k hk; simp at hk
  | b :: bs,rows,S,h=>by
    rw [OwnG] at h
    obtain ⟨v,rows',S1,S2,rfl,h2,h3,h4⟩:=h
    intro k hk j hj
    cases k with
    | zero =>
      have hv:=h3.view
      have e0 : (sE ((b :: bs).getD 0 si0)) = sE b:=rfl
      rw [e0,sE6]
      match j,hj with
      | 0,_=>exact .leaf _ rfl
      | 1,_=>exact .leaf _ rfl
      | 2,_=>exact .leaf _ rfl
      | 3,_=>exact .leaf _ rfl
      | 4,_=>exact .leaf _ rfl
      | 5,_=>exact hv
    | succ k =>
      have:=OwnG.view h4 k (by simpa using hk) j hj
      simpa using this
theorem OwnG.viewG {A : List Box} {bs : List SigI} {rows : List (List AV)} {S : List Nat} {i : Nat} (h : A.getD i .dead = .gr none 6 rows) (hb : OwnG A bs rows S) : View A (.own i) (.slice (sEs bs)):=by
  refine .gr i 6 none rows (sEs bs) h (by rw [sEs_length,hb.length]) (fun r hr=>?_) fun k j hk hj=>?_
  · obtain ⟨t,_,rfl⟩:=List.mem_map.1 hr
    exact ⟨sE_length t,sE_leaf t⟩
  · unfold Abs.rowAt
    rw [sEs_getD (by rw [← hb.length]; exact hk)]
    exact hb.view k hk j hj
def NewG (A : List Box) (bs : List SigI) (j : Nat) (A' : List Box) : Prop :=
  A.length ≤ A'.length ∧ (∀ k,k < A.length → A'.getD k .dead = A.getD k .dead) ∧ ∃ rows S,A'.getD j .dead = .gr none 6 rows ∧ OwnG A' bs rows S ∧ (j :: S).Nodup ∧ ∀ i ∈ j :: S,A.length ≤ i
end Go.Proofs.YtnjdbgiincliaaaGreat
namespace Go.Proofs.YtnjdbgiincliaaaGreat
open Go.Abs
def OwnI (A : List Box) (xs : List SigI) (v : AV) (S : List Nat) : Prop :=
  (v = .nils ∧ xs = [] ∧ S = []) ∨ ∃ i rows S',v = .own i ∧ S = i :: S' ∧ A.getD i .dead = .gr none 6 rows ∧ OwnG A xs rows S'
theorem OwnI.frame {A A' : List Box} {xs : List SigI} {v : AV} {S : List Nat} (h : OwnI A xs v S) (hf : ∀ i ∈ S,A'.getD i .dead = A.getD i .dead) : OwnI A' xs v S:=by
  rcases h with h | ⟨i,rows,S',h1,h2,h3,h4⟩
  · exact .inl h
  · subst h2
    exact .inr ⟨i,rows,S',h1,rfl,by rw [hf i (by simp)]; exact h3,h4.frame fun j hj=>hf j (by simp [hj])⟩
theorem OwnI.low {A : List Box} {xs : List SigI} {v : AV} {S : List Nat} (h : OwnI A xs v S) : ∀ i ∈ S,i < A.length:=by
  rcases h with ⟨_,_,rfl⟩ | ⟨i,rows,S',h1,rfl,h3,h4⟩
  · simp
  · intro j hj
    rcases List.mem_cons.1 hj with rfl | hj
    · exact live_lt h3 (by simp)
    · exact h4.low j hj
theorem OwnI.view {A : List Box} {xs : List SigI} {v : AV} {S : List Nat} (h : OwnI A xs v S) : View A v (.slice (sEs xs)):=by
  rcases h with ⟨rfl,rfl,_⟩ | ⟨i,rows,S',rfl,_,h3,h4⟩
  · exact .nils
  · exact OwnG.viewG h3 h4
end Go.Proofs.YtnjdbgiincliaaaGreat
namespace Go.Proofs.YtnjdbgiincliaaaGreat
open Go.Abs
end Go.Proofs.YtnjdbgiincliaaaGreat
/- What a signature's method plain makes: items that are owned. -/
set_option linter.unusedVariables false
set_option linter.unusedSimpArgs false
namespace Go.Proofs.YtnjdbgiincliaaaGreat
open Go.Abs
def NewS (A : List Box) (x : SigI) (cs : List AV) (A' : List Box) : Prop :=
  A.length ≤ A'.length ∧ (∀ k,k < A.length → A'.getD k .dead = A.getD k .dead) ∧ ∃ v S,cs = sRow x v ∧ OwnK A' x.typ.kids v S ∧ S.Nodup ∧ (∀ i ∈ S,A.length ≤ i) ∧ (v = .nils ∨ ∃ i,v = .own i)
def PlI (y : VI) : Prop:=∀ A,ACalls Tryz.prog ((pickI 407 414 423) y) [viX y] A (fun r A'=>∃ cs,r = .agg cs ∧ NewS A (siOf y) cs A')
theorem prow_row (x : SigI) (w : VT) (h : x.typ = toTy w) (n : Nat) : ∃ v,prow w n true = [.int .i64 x.typ.kind,.str x.typ.mod,.str x.typ.name,v] ∧ (v = .nils ∨ ∃ i,v = .own i):=by
  rw [h]
  cases w with
  | num=>exact ⟨_,rfl,.inl rfl⟩
  | nm m k=>exact ⟨_,rfl,.inl rfl⟩
  | fn a b=>exact ⟨_,rfl,.inr ⟨_,rfl⟩⟩
theorem newS_of {A : List Box} {x : SigI} {w : VT} (h : x.typ = toTy w) {B0 B1 : List Box} {n : Nat} (hn : n = A.length + B0.length) : NewS A x (.int .i64 x.kind :: .str x.name :: prow w n true) (A ++ (B0 ++ (pbox w n ++ B1))):=by
  obtain ⟨v,hv,hv2⟩:=prow_row x w h n
  have ho:=own_plain w n true (A ++ (B0 ++ (pbox w n ++ B1))) fun k hk=>by
    rw [Abs.getD_append_right (by omega),Abs.getD_append_right (by omega),Abs.getD_append_left (by rw [pbox_length]; omega)]
    congr 1; omega
  rw [hv] at ho
  refine ⟨by simp,fun k hk=>Abs.getD_append_left hk,v,pidx w n,by rw [hv]; rfl,?_,pidx_nodup _ _,fun i hi=>by have:=pidx_in _ _ i hi; omega,hv2⟩
  rw [h]
  cases ht : toTy w with
  | mk k m n ks =>
    rw [ht,ownT_mk] at ho
    obtain ⟨v',e,hK⟩:=ho
    simp only [List.cons.injEq,and_true] at e
    rw [e.2.2.2]
    exact hK
set_option maxRecDepth 100000 in
theorem ab_plain (n : List UInt8) : PlI (.ab n):=fun A=>by
  show ACalls Tryz.prog 407 _ _ _
  rw [viX]
  refine acalls_enterK (cf:=cf 6 [0,1,2]) foll Tryz.func407 Tryz.ntmps407 (by simp [cf]) ?_
  simp only [Tryz.f407,EnterK_some,zW,zX,zD,builtinA,isLeaf,const1,ustrA,simprocAttr,ti9,ti69,ti354,cf,Tryz.results407]
  exact ⟨_,rfl,by simp,fun k hk=>Abs.getD_append_left hk,.nils,[],rfl,.inl ⟨rfl,rfl,rfl⟩,by simp,by simp,.inl rfl⟩
set_option maxRecDepth 100000 in
theorem al_plain (n : List UInt8) (v : VT) : PlI (.al n v):=fun A=>by
  show ACalls Tryz.prog 414 _ _ _
  have cv : ACalls Tryz.prog ((pickF 430 437 114) v) [vX v] (A ++ [Box.cells [.str n,.iface (vT v) (vX v)],Box.cells [.int .i64 0,.str [],.int .i64 0,.str [],.str [],.nils]]) (fun r A'=>r = .agg (prow v (A.length + 2) true) ∧ A' = A ++ (Box.cells [.str n,.iface (vT v) (vX v)] :: Box.cells [.int .i64 0,.str [],.int .i64 0,.str [],.str [],.nils] :: pbox v (A.length + 2))):=by
    have:=plainM v (A ++ [Box.cells [.str n,.iface (vT v) (vX v)],Box.cells [.int .i64 0,.str [],.int .i64 0,.str [],.str [],.nils]])
    simpa using this
  have hpl : ∀ n,(prow v n true).length = 4:=fun n=>prow_length _ _ _
  rw [viX]
  refine acalls_enterK (cf:=cf 9 [0,1,2]) foll Tryz.func414 Tryz.ntmps414 (by simp [cf]) ?_
  simp only [Tryz.f414,EnterK_some,zW,zX,zD,builtinA,isLeaf,const1,ustrA,simprocAttr,ti9,ti69,ti175,ti356,cf,Tryz.results414]
  refine .inr (drawE_intro [(false,0,1),(false,0,1),(false,0,0),(false,0,0),(true,0,0),(false,1,1),(true,1,1)] [A ++ [Box.cells [.str n,.iface (vT v) (vX v)],Box.cells [.int .i64 0,.str [],.int .i64 0,.str [],.str [],.nils]],A ++ (Box.cells [.str n,.iface (vT v) (vX v)] :: Box.cells [.int .i64 0,.str [],.int .i64 0,.str [],.str [],.nils] :: pbox v (A.length + 2)),A ++ (Box.cells [.str n,.iface (vT v) (vX v)] :: Box.cells (.int .i64 2 :: .str n :: prow v (A.length + 2) true) :: pbox v (A.length + 2))] 2 rfl (by kernel_rfl) (by kernel_rfl) (by kernel_rfl) (by kernel_rfl) (by kernel_rfl) (by kernel_rfl) ?_)
  simp only [zW,zX,zD,builtinA,isLeaf,const1,ustrA,simprocAttr,ti9,ti69,ti175,ti356,cf,Tryz.results414]
  refine wpG_invoke _ _ _ _ _ _ _ _ _ _ _ _ _ _ _ _ _ _ ?_
  simp only [zW,zX,zD,builtinA,isLeaf,const1,ustrA,simprocAttr,ti9,ti69,ti175,ti356,cf,Tryz.results414]
  refine meth_invE (met3 (by kernel_rfl) (by kernel_rfl) (by kernel_rfl) (by kernel_rfl) (by kernel_rfl) (by kernel_rfl)) cv rfl ?_
  simp only [zW,zX,zD,builtinA,isLeaf,const1,ustrA,simprocAttr,ti9,ti69,ti175,ti356,cf,Tryz.results414,hpl]
  rw [List.take_of_length_le (Nat.le_of_eq (hpl _))]
  have h:=newS_of (A:=A) (x:=siOf (.al n v)) (w:=v) rfl (B0:=[Box.cells [.str n,.iface (vT v) (vX v)],Box.cells (.int .i64 2 :: .str n :: prow v (A.length + 2) true)]) (B1:=[]) (n:=A.length + 2) rfl
  rw [List.append_nil] at h
  exact ⟨_,rfl,h⟩
set_option maxRecDepth 100000 in
theorem va_plain (n : List UInt8) (v : VT) : PlI (.va n v):=fun A=>by
  show ACalls Tryz.prog 423 _ _ _
  have cv : ACalls Tryz.prog ((pickF 430 437 114) v) [vX v] (A ++ [Box.cells [.str n,.iface (vT v) (vX v)],Box.cells [.int .i64 0,.str [],.int .i64 0,.str [],.str [],.nils]]) (fun r A'=>r = .agg (prow v (A.length + 2) true) ∧ A' = A ++ (Box.cells [.str n,.iface (vT v) (vX v)] :: Box.cells [.int .i64 0,.str [],.int .i64 0,.str [],.str [],.nils] :: pbox v (A.length + 2))):=by
    have:=plainM v (A ++ [Box.cells [.str n,.iface (vT v) (vX v)],Box.cells [.int .i64 0,.str [],.int .i64 0,.str [],.str [],.nils]])
    simpa using this
  have hpl : ∀ n,(prow v n true).length = 4:=fun n=>prow_length _ _ _
  rw [viX]
  refine acalls_enterK (cf:=cf 9 [0,1,2]) foll Tryz.func423 Tryz.ntmps423 (by simp [cf]) ?_
  simp only [Tryz.f423,EnterK_some,zW,zX,zD,builtinA,isLeaf,const1,ustrA,simprocAttr,ti9,ti69,ti175,ti357,cf,Tryz.results423]
  refine .inr (drawE_intro [(false,0,1),(false,0,1),(false,0,0),(false,0,0),(true,0,0),(false,1,1),(true,1,1)] [A ++ [Box.cells [.str n,.iface (vT v) (vX v)],Box.cells [.int .i64 0,.str [],.int .i64 0,.str [],.str [],.nils]],A ++ (Box.cells [.str n,.iface (vT v) (vX v)] :: Box.cells [.int .i64 0,.str [],.int .i64 0,.str [],.str [],.nils] :: pbox v (A.length + 2)),A ++ (Box.cells [.str n,.iface (vT v) (vX v)] :: Box.cells (.int .i64 3 :: .str n :: prow v (A.length + 2) true) :: pbox v (A.length + 2))] 2 rfl (by kernel_rfl) (by kernel_rfl) (by kernel_rfl) (by kernel_rfl) (by kernel_rfl) (by kernel_rfl) ?_)
  simp only [zW,zX,zD,builtinA,isLeaf,const1,ustrA,simprocAttr,ti9,ti69,ti175,ti357,cf,Tryz.results423]
  refine wpG_invoke _ _ _ _ _ _ _ _ _ _ _ _ _ _ _ _ _ _ ?_
  simp only [zW,zX,zD,builtinA,isLeaf,const1,ustrA,simprocAttr,ti9,ti69,ti175,ti357,cf,Tryz.results423]
  refine meth_invE (met3 (by kernel_rfl) (by kernel_rfl) (by kernel_rfl) (by kernel_rfl) (by kernel_rfl) (by kernel_rfl)) cv rfl ?_
  simp only [zW,zX,zD,builtinA,isLeaf,const1,ustrA,simprocAttr,ti9,ti69,ti175,ti357,cf,Tryz.results423,hpl]
  rw [List.take_of_length_le (Nat.le_of_eq (hpl _))]
  have h:=newS_of (A:=A) (x:=siOf (.va n v)) (w:=v) rfl (B0:=[Box.cells [.str n,.iface (vT v) (vX v)],Box.cells (.int .i64 3 :: .str n :: prow v (A.length + 2) true)]) (B1:=[]) (n:=A.length + 2) rfl
  rw [List.append_nil] at h
  exact ⟨_,rfl,h⟩
theorem plI : ∀ y,PlI y
  | .ab n=>ab_plain n
  | .al n v=>al_plain n v
  | .va n v=>va_plain n v
set_option maxRecDepth 100000 in
set_option maxHeartbeats 4000000 in
theorem impl_plainItems (ys : List VI) (hl : ys.length ≤ 1000) (A : List Box) : ACalls Tryz.prog 191 [.slice (vRows ys)] A (fun r A'=>∃ j,r = .own j ∧ NewG A (ys.map siOf) j A'):=by
  have hl2 : ((vRows ys).length : Int) ≤ 1000:=by rw [vRows_length]; omega
  refine ACalls.grow ?_
  refine acalls_enterK (cf:=cf 23 [0,2,3,4,5,9,10,11,12]) foll Tryz.func191 Tryz.ntmps191 (by simp [cf]) ?_
  simp only [Tryz.f191,EnterK_some,zW,zX,zD,builtinA,isLeaf,const1,ustrA,simprocAttr,ti3,ti50,ti69,ti139,ti158,cf,Tryz.results191]
  refine ⟨⟨by omega,by omega,by omega⟩,?_⟩
  refine aloop_intro [3,9,10,11] (fun e A'=>∃ (p : Nat) (rl : List (List AV)) (SL : List Nat) (g : Bool),p ≤ ys.length ∧ e = [(3,.own A.length),(9,.slice (vRows ys)),(10,.int .i64 ys.length),(11,.int .i64 p)] ∧ A'.getD A.length .dead = (bif g then .gr none 6 (rl ++ List.replicate (ys.length - p) zsi) else .row 6 (rl ++ List.replicate (ys.length - p) zsi) 0) ∧
    rl.length = p ∧ OwnG A' ((ys.map siOf).take p) rl SL ∧ SL.Nodup ∧ (∀ i ∈ SL,A.length < i) ∧ A.length < A'.length ∧ ∀ k,k < A.length → A'.getD k .dead = A.getD k .dead) (fun e _=>ys.length - (intOf (Abs.look 11 e)).toNat) ?_ ?_
  · simp only [zW,zX,zD,builtinA,isLeaf,const1,ustrA,simprocAttr,ti3,ti50,ti69,ti139,ti158,cf,Tryz.results191,vRows_length]
    refine ⟨0,[],[],false,by omega,rfl,?_,rfl,by simp [OwnG],by simp,by simp,by simp,fun k hk=>Abs.getD_append_left hk⟩
    rfl
  · rintro e A' ⟨p,rl,SL,g,hp,rfl,hb,hrl,hO,hN,hlo,hlt,hfr⟩
    by_cases hp2 : p < ys.length
    · have d2 : decide ((p : Int) < (ys.length : Int)) = true:=by simp; omega
      have he:=vRows_getD hp2
      have hsi : ((ys.map siOf).take p ++ [siOf (ys.getD p vi0)]) = (ys.map siOf).take (p + 1):=by
        rw [List.take_add_one]; simp [List.getD,hp2]
      generalize hyv : ys.getD p vi0 = y at *
      rw [vRow] at he
      simp only [zW,zX,zD,builtinA,isLeaf,const1,ustrA,simprocAttr,ti3,ti50,ti69,ti139,ti158,cf,Tryz.results191,vRows_length,d2,he]
      refine ⟨⟨by omega,by omega⟩,?_⟩
      refine wpO_invoke _ _ _ _ _ _ _ _ _ _ _ _ _ _ _ _ ?_
      simp only [zW,zX,zD,builtinA,isLeaf,const1,ustrA,simprocAttr,ti3,ti50,ti69,ti139,ti158,cf,Tryz.results191]
      refine methI_invK (metI3 (by kernel_rfl) (by kernel_rfl) (by kernel_rfl) (by kernel_rfl) (by kernel_rfl) (by kernel_rfl)) (plI y _) rfl (fun _=>rfl) ?_
      rintro r A3 ⟨cs,rfl,hle,hf3,v,S,rfl,hK,hND,hge,hv⟩
      have hi1 : IntKind.i64.wrap ((p : Int) + 1) = ((p + 1 : Nat) : Int):=by rw [wrap64 (by omega) (by omega)]; rfl
      have hb3 : A3.getD A.length .dead = (bif g then .gr none 6 (rl ++ List.replicate (ys.length - p) zsi) else .row 6 (rl ++ List.replicate (ys.length - p) zsi) 0):=by rw [hf3 _ hlt]; exact hb
      have hz : ∀ v,(rl ++ List.replicate (ys.length - p) zsi).set p (sRow (siOf y) v) = (rl ++ [sRow (siOf y) v]) ++ List.replicate (ys.length - (p + 1)) zsi:=fun v=>by
        rw [show ys.length - p = (ys.length - (p + 1)) + 1 by omega,List.replicate_succ,List.set_append_right _ _ (by omega),hrl,Nat.sub_self]
        simp
      have hlr : (rl ++ List.replicate (ys.length - p) zsi).length = ys.length:=by simp; omega
      have hdz : List.drop 6 ((rl ++ List.replicate (ys.length - p) zsi).getD p []) = []:=by
        rw [Abs.getD_append_right (by omega),hrl,Nat.sub_self,getD_repl (by omega)]; rfl
      have hpr : (0 : Int) ≤ (p : Int) ∧ (p : Int) < ((ys.length : Nat) : Int):=⟨by omega,by omega⟩
      have fin : ∀ (g' : Bool) (v : AV) (Z : Box),OwnK A3 (siOf y).typ.kids v S → Z = (bif g' then Box.gr none 6 ((rl ++ [sRow (siOf y) v]) ++ List.replicate (ys.length - (p + 1)) zsi) else .row 6 ((rl ++ [sRow (siOf y) v]) ++ List.replicate (ys.length - (p + 1)) zsi) 0) → ∃ (p' : Nat) (rl' : List (List AV)) (SL' : List Nat) (g' : Bool),p' ≤ ys.length ∧ [(3,AV.own A.length),(9,.slice (vRows ys)),(10,.int .i64 ys.length),(11,.int .i64 ((p + 1 : Nat) : Int))] = [(3,.own A.length),(9,.slice (vRows ys)),(10,.int .i64 ys.length),(11,.int .i64 p')] ∧ (A3.set A.length Z).getD A.length .dead = (bif g' then .gr none 6 (rl' ++ List.replicate (ys.length - p') zsi) else .row 6 (rl' ++ List.replicate (ys.length - p') zsi) 0) ∧
          rl'.length = p' ∧ OwnG (A3.set A.length Z) ((ys.map siOf).take p') rl' SL' ∧ SL'.Nodup ∧ (∀ i ∈ SL',A.length < i) ∧ A.length < (A3.set A.length Z).length ∧ ∀ k,k < A.length → (A3.set A.length Z).getD k .dead = A.getD k .dead:=fun g' v Z hK hZ=>by
        have hlt3 : A.length < A3.length:=by omega
        have low:=hO.low
        refine ⟨p + 1,rl ++ [sRow (siOf y) v],SL ++ S,g',by omega,rfl,?_,by simp [hrl],?_,?_,?_,by simpa using hlt3,fun k hk=>?_⟩
        · rw [getD_set_self hlt3]; exact hZ
        · rw [← hsi]
          refine (hO.frame fun i hi=>?_).append ?_
          · have h1:=hlo i hi
            have h2:=low i hi
            rw [getD_set_ne' (by omega),hf3 i h2]
          · rw [OwnG]
            refine ⟨v,[],S,[],rfl,by simp,hK.frame fun i hi=>?_,by simp [OwnG]⟩
            have:=hge i hi
            rw [getD_set_ne' (by omega)]
        · refine List.nodup_append.2 ⟨hN,hND,fun x hx y hy=>?_⟩
          have:=low x hx
          have:=hge y hy
          omega
        · intro i hi
          rcases List.mem_append.1 hi with hi | hi
          · exact hlo i hi
          · have:=hge i hi; omega
        · rw [getD_set_ne' (by omega),hf3 k (by omega),hfr k hk]
      have lf : ∀ w ∈ sRow (siOf y) (.slice []),isLeaf w = true:=by simp [sRow,isLeaf]
      have el : ∀ w ∈ sRow (siOf y) (.slice []),isElem w = true:=by simp [sRow,isElem,isLeaf]
      have el2 : ∀ i,∀ w ∈ sRow (siOf y) (.own i),isElem w = true:=by simp [sRow,isElem,isLeaf]
      have mz : ∀ {P : Prop},P → P ∧ ys.length - (intOf (AV.int .i64 ((p + 1 : Nat) : Int))).toNat < ys.length - (intOf (AV.int .i64 (p : Int))).toNat:=fun h=>⟨h,by simp only [intOf]; omega⟩
      rcases hv with rfl | ⟨i,rfl⟩
      · have hK2 : OwnK A3 (siOf y).typ.kids (.slice []) S:=by
          rcases hK with ⟨_,h1,h2⟩ | ⟨h0,_⟩ | ⟨i,_,_,h0,_⟩
          · exact .inr (.inl ⟨rfl,h1,h2⟩)
          · cases h0
          · cases h0
        have fin2:=fun g' Z=>fin g' (.slice []) Z hK2
        have hz2:=hz (.slice [])
        clear fin hz
        simp only [sRow] at hz2 fin2 lf el ⊢
        cases g with
        | false =>
          simp only [cond_false] at hb3
          simp only [zW,zX,zD,builtinA,isLeaf,const1,ustrA,simprocAttr,ti3,ti50,ti69,ti139,ti158,cf,Tryz.results191,hb3,hlr,hz2,hdz,hi1,LoopK_eq]
          exact ⟨hpr,⟨by omega,by omega,fun w hw=>lf w hw⟩,mz (by simpa only [cond_false,cond_true,List.append_assoc,List.cons_append,List.nil_append,List.length_set] using fin2 false _ rfl)⟩
        | true =>
          simp only [cond_true] at hb3
          simp only [zW,zX,zD,builtinA,isLeaf,const1,ustrA,simprocAttr,ti3,ti50,ti69,ti139,ti158,cf,Tryz.results191,hb3,hlr,hz2,hdz,hi1,LoopK_eq]
          exact ⟨hpr,⟨by omega,fun w hw=>el w hw⟩,mz (by simpa only [cond_false,cond_true,List.append_assoc,List.cons_append,List.nil_append,List.length_set] using fin2 true _ rfl)⟩
      · obtain ⟨rws,hg⟩ : ∃ rws,A3.getD i .dead = .gr none 4 rws:=by
          rcases hK with ⟨h0,_⟩ | ⟨h0,_⟩ | ⟨i',rws,_,h0,_,hg,_⟩
          · cases h0
          · cases h0
          · cases h0; exact ⟨rws,hg⟩
        have fin2:=fun g' Z=>fin g' (.own i) Z hK
        have hz2:=hz (.own i)
        clear fin hz
        simp only [sRow] at hz2 fin2 el2 ⊢
        cases g with
        | false =>
          simp only [cond_false] at hb3
          simp only [zW,zX,zD,builtinA,isLeaf,const1,ustrA,simprocAttr,ti3,ti50,ti69,ti139,ti158,cf,Tryz.results191,hb3,hg,hlr,hz2,hdz,hi1,LoopK_eq]
          exact ⟨hpr,⟨by omega,fun w hw=>el2 i w hw⟩,mz (by simpa only [cond_false,cond_true,List.append_assoc,List.cons_append,List.nil_append,List.length_set] using fin2 true _ rfl)⟩
        | true =>
          simp only [cond_true] at hb3
          simp only [zW,zX,zD,builtinA,isLeaf,const1,ustrA,simprocAttr,ti3,ti50,ti69,ti139,ti158,cf,Tryz.results191,hb3,hg,hlr,hz2,hdz,hi1,LoopK_eq]
          exact ⟨hpr,⟨by omega,fun w hw=>el2 i w hw⟩,mz (by simpa only [cond_false,cond_true,List.append_assoc,List.cons_append,List.nil_append,List.length_set] using fin2 true _ rfl)⟩
    · have d2 : decide ((p : Int) < (ys.length : Int)) = false:=by simp; omega
      have e : p = ys.length:=by omega
      subst e
      simp only [zW,zX,zD,builtinA,isLeaf,const1,ustrA,simprocAttr,ti3,ti50,ti69,ti139,ti158,cf,Tryz.results191,d2]
      rw [List.take_of_length_le (by simp)] at hO
      have low:=hO.low
      have hnd : (A.length :: SL).Nodup:=List.nodup_cons.2 ⟨fun h=>by have:=hlo _ h; omega,hN⟩
      have hge : ∀ i ∈ A.length :: SL,A.length ≤ i:=fun i hi=>by
        rcases List.mem_cons.1 hi with rfl | hi
        · exact Nat.le_refl _
        · have:=hlo i hi; omega
      have e0 : rl ++ List.replicate (ys.length - ys.length) zsi = rl:=by simp
      rw [e0] at hb
      cases g with
      | false=>exact .inr ⟨A.length,6,rl,hb,A.length,rfl,by simp; omega,fun k hk=>by rw [getD_set_ne' (by omega)]; exact hfr k hk,rl,SL,getD_set_self hlt,hO.frame fun i hi=>by have:=hlo i hi; rw [getD_set_ne' (by omega)],hnd,hge⟩
      | true=>exact .inl ⟨A.length,rfl,by omega,hfr,rl,SL,hb,hO,hnd,hge⟩
end Go.Proofs.YtnjdbgiincliaaaGreat
/- A signature's answer in memory of its own. -/
set_option linter.unusedVariables false
set_option linter.unusedSimpArgs false
namespace Go.Proofs.YtnjdbgiincliaaaGreat
open Go.Abs
theorem OwnK.free {A : List Box} {ks : List Ty} {v : AV} {S : List Nat} (h : OwnK A ks v S) : ifree v = true ∧ ∀ i ∈ S,ifreeB (A.getD i .dead) = true:=by
  have h2:=OwnT.free (ownT_mk.2 ⟨v,rfl,h⟩ : OwnT A (.mk 0 [] [] ks) _ S)
  simpa [ifrees,ifree] using h2
theorem OwnG.free {A : List Box} : ∀ {xs : List SigI} {rows : List (List AV)} {S : List Nat},OwnG A xs rows S → rows.all ifrees = true ∧ ∀ i ∈ S,ifreeB (A.getD i .dead) = true
  | [],rows,S,h=>by rw [OwnG] at h; rw [h.1,h.2]; exact ⟨rfl,by simp⟩
  | t :: ks,rows,S,h=>by
    rw [OwnG] at h
    obtain ⟨v,rows',S1,S2,rfl,rfl,h3,h4⟩:=h
    have a:=h3.free
    have b:=OwnG.free h4
    refine ⟨by rw [List.all_cons,b.1]; simp [sRow,ifrees,ifree,a.1],fun j hj=>?_⟩
    rcases List.mem_append.1 hj with hj | hj
    · exact a.2 j hj
    · exact b.2 j hj
theorem OwnI.free {A : List Box} {xs : List SigI} {v : AV} {S : List Nat} (h : OwnI A xs v S) : ifree v = true ∧ ∀ i ∈ S,ifreeB (A.getD i .dead) = true:=by
  rcases h with ⟨rfl,_,rfl⟩ | ⟨i,rows,S',rfl,rfl,h3,h4⟩
  · exact ⟨rfl,by simp⟩
  · refine ⟨rfl,fun j hj=>?_⟩
    have h5:=h4.free
    rcases List.mem_cons.1 hj with rfl | hj
    · rw [h3]; exact h5.1
    · exact h5.2 j hj
def SgOut (A : List Box) (xs : List SigI) (ok : Bool) (r : AV) (A' : List Box) : Prop :=
  ∃ v S,r = .tuple [v,.bool ok] ∧ OwnI A' xs v S ∧ S.Nodup ∧ (∀ i ∈ S,A.length ≤ i) ∧ A.length ≤ A'.length ∧ ∀ i,i < A.length → A'.getD i .dead = A.getD i .dead
def SgNew (A : List Box) (xs : List SigI) (ok : Bool) (r : AV) (A' : List Box) : Prop :=
  ∃ B v S,A' = A ++ B ∧ (∀ b ∈ B,ifreeB b = true) ∧ r = .tuple [v,.bool ok] ∧ ifree v = true ∧ OwnI A' xs v S ∧ S.Nodup ∧ ∀ i ∈ S,A.length ≤ i ∧ i < A'.length
theorem sgNew_of {A A' : List Box} {xs : List SigI} {ok : Bool} {r : AV} (h : SgOut A xs ok r A') : ∃ keep,SgNew A xs ok r (only keep A'):=by
  obtain ⟨v,S,rfl,hT,hN,hge,hl,hf⟩:=h
  refine ⟨fun k=>decide (k < A.length) || decide (k ∈ S),?_⟩
  have hfree:=hT.free
  have hlow:=hT.low
  generalize hkp : (fun k=>decide (k < A.length) || decide (k ∈ S)) = keep
  have k1 : ∀ k,k < A.length → keep k = true:=fun k hk=>by rw [← hkp]; simp [hk]
  have k2 : ∀ k,k ∈ S → keep k = true:=fun k hk=>by rw [← hkp]; simp [hk]
  have k3 : ∀ k,A.length ≤ k → keep k = true → k ∈ S:=fun k h1 h2=>by
    rw [← hkp] at h2
    simp at h2
    rcases h2 with h2 | h2
    · omega
    · exact h2
  have e:=split_front (A:=A) (A':=only keep A') (by rw [only_length]; exact hl) (fun k hk=>by rw [only_getD,if_pos (k1 k hk)]; exact hf k hk)
  refine ⟨_,v,S,e,fun b hb=>?_,rfl,hfree.1,hT.frame fun i hi=>by rw [only_getD,if_pos (k2 i hi)],hN,fun i hi=>⟨hge i hi,by rw [only_length]; exact hlow i hi⟩⟩
  obtain ⟨i,hi,rfl⟩:=List.mem_iff_getElem.1 hb
  rw [List.getElem_drop]
  have hi2 : A.length + i < (only keep A').length:=by simp at hi; omega
  have e2 : (only keep A')[A.length + i] = (only keep A').getD (A.length + i) .dead:=by simp [List.getD,hi2]
  rw [e2,only_getD]
  split
  · rename_i hk; exact hfree.2 _ (k3 _ (by omega) hk)
  · rfl
theorem sg_call {f : FuncId} {args : List AV} {xs : List SigI} {ok : Bool} (h : ∀ A,ACalls Tryz.prog f args A (fun r A'=>SgOut A xs ok r A')) (A : List Box) : ACalls Tryz.prog f args A (SgNew A xs ok) :=
  ACalls.only ((h A).mono fun r A' h=>sgNew_of h)
theorem sg_view {f : FuncId} {args args' : List AV} {xs : List SigI} {ok : Bool} (h : ∀ A,ACalls Tryz.prog f args' A (SgNew A xs ok)) {A : List Box} (hv : Views A args args') : ACalls Tryz.prog f args A (SgNew A xs ok):=by
  refine ACalls.borrow hv ((h _).mono ?_)
  rintro r A' ⟨B,v,S,rfl,h1,rfl,h3,h4,h5,h6⟩
  refine ⟨B,rfl,by simp [ifree,ifrees,h3],h1,B,v,S,rfl,h1,rfl,h3,h4.frame fun i hi=>?_,h5,fun i hi=>?_⟩
  · have:=(h6 i hi).1
    rw [deads_length] at this
    rw [Abs.getD_append_right this,Abs.getD_append_right (by rw [deads_length]; exact this),deads_length]
  · have:=h6 i hi
    simp only [List.length_append,deads_length] at this ⊢
    exact this
set_option maxRecDepth 100000 in
theorem impl_plainSig (ys : List VI) (hl : ys.length ≤ 1000) (A : List Box) : ACalls Tryz.prog 103 [.slice (vRows ys)] A (fun r A'=>∃ j,r = .own j ∧ NewG A (ys.map siOf) j A'):=by
  refine acalls_enterK (cf:=cf 5 [0,2]) foll Tryz.func103 Tryz.ntmps103 (by simp [cf]) ?_
  simp only [Tryz.f103,EnterK_some,zW,zX,zD,builtinA,isLeaf,const1,ustrA,simprocAttr,ca191,cf,Tryz.results103]
  refine callO_intro (impl_plainItems ys hl _) ?_
  rintro r A' ⟨j,rfl,h⟩
  simp only [zW,zX,zD,builtinA,isLeaf,const1,ustrA,simprocAttr,ca191,cf,Tryz.results103]
  exact ⟨j,rfl,h⟩
def nrX : Option (List VI) → List SigI
  | some zs=>zs.map siOf
  | none=>[]
theorem sg_none (A B : List Box) : SgOut A [] false (.tuple [.nils,.bool false]) (A ++ B):=⟨_,[],rfl,.inl ⟨rfl,rfl,rfl⟩,by simp,by simp,by simp,fun i hi=>Abs.getD_append_left hi⟩
end Go.Proofs.YtnjdbgiincliaaaGreat
/- The model's NormalSig. -/
set_option linter.unusedVariables false
set_option linter.unusedSimpArgs false
namespace Go.Proofs.YtnjdbgiincliaaaGreat
open Go.Abs
def sgR (s : List SigI) : AV:=.tuple [.slice (sEs s),.bool true]
def sgN : AV:=.tuple [.slice [],.bool false]
set_option maxRecDepth 100000 in
theorem spec_l2Made (s : List SigI) (hs : s.length ≤ 1048576) (ho : ∀ x ∈ s,x.Ok ∧ sz x.typ ≤ 1048576) (A : List Box) : ACalls Tryz.prog 105 [.slice (sEs s)] A (fun r A'=>r = (if sigB s = true then sgR s else sgN) ∧ A' = A):=by
  refine acalls_enter (cf:=cf 9 [0,2,3,6]) foll Tryz.func105 Tryz.ntmps105 (by simp [cf]) ?_
  simp only [Tryz.f105,EnterK_some,zW,zX,zD,builtinA,isLeaf,const1,ustrA,simprocAttr,ti50,ti69,ca87,cf,Tryz.results105]
  refine callK_intro (by simp only [zW,zX,zD,builtinA,isLeaf,const1,ustrA,simprocAttr,Option.map_some]; rfl) (spec_SigValid s hs ho _) ?_ rfl; rintro v A' ⟨rfl,rfl⟩
  cases hb : sigB s with
  | true =>
    simp only [zW,zX,zD,builtinA,isLeaf,const1,ustrA,simprocAttr,ti50,ti69,ca87,cf,Tryz.results105]
    rfl
  | false =>
    simp only [zW,zX,zD,builtinA,isLeaf,const1,ustrA,simprocAttr,ti50,ti69,ca87,cf,Tryz.results105]
    rfl
def nrR : Option (List VI) → AV
  | some zs=>sgR (zs.map siOf)
  | none=>sgN
end Go.Proofs.YtnjdbgiincliaaaGreat
/- Renamed signatures as data. -/
set_option linter.unusedVariables false
set_option linter.unusedSimpArgs false
namespace Go.Proofs.YtnjdbgiincliaaaGreat
open Go.Abs
def mapT (φ : List UInt8 × List UInt8 → VT) : VT → VT
  | .num=>.num
  | .nm m n=>φ (m,n)
  | .fn a b=>.fn (mapT φ a) (mapT φ b)
def renM (f t m : List UInt8) : List UInt8:=if m = f then t else m
def renP (f t : List UInt8) (p : List UInt8 × List UInt8) : VT:=.nm (renM f t p.1) p.2
def renV (f t : List UInt8) : VT → VT:=mapT (renP f t)
def renI (f t : List UInt8) : VI → VI
  | .ab n=>.ab n
  | .al n v=>.al n (renV f t v)
  | .va n v=>.va n (renV f t v)
theorem renV_dep (f t : List UInt8) : ∀ v,dep (renV f t v) = dep v ∧ cnt (renV f t v) = cnt v
  | .num=>⟨rfl,rfl⟩
  | .nm _ _=>⟨rfl,rfl⟩
  | .fn a b=>by
    have h1:=renV_dep f t a
    have h2:=renV_dep f t b
    simp only [renV,mapT,dep,cnt] at h1 h2 ⊢
    omega
theorem renM_nil {f t m : List UInt8} (hf : f ≠ []) (ht : t ≠ []) : (renM f t m = []) ↔ m = []:=by
  unfold renM
  by_cases h : m = f
  · rw [if_pos h]; subst h; simp [hf,ht]
  · rw [if_neg h]
theorem renV_ok {f t : List UInt8} (ht : moduleB t = true) : ∀ v,okV v = true → okV (renV f t v) = true
  | .num,h=>rfl
  | .nm m n,h=>by
    simp only [renV,mapT,renP,okV,nmB,Bool.and_eq_true,Bool.or_eq_true,decide_eq_true_eq] at h ⊢
    refine ⟨?_,h.2⟩
    unfold renM
    by_cases e : m = f
    · rw [if_pos e]; exact .inr ht
    · rw [if_neg e]; exact h.1
  | .fn a b,h=>by
    simp only [okV,Bool.and_eq_true] at h
    have h1:=renV_ok (f:=f) ht a h.1
    have h2:=renV_ok (f:=f) ht b h.2
    simp only [renV,mapT,okV,Bool.and_eq_true] at h1 h2 ⊢
    exact ⟨h1,h2⟩
theorem renV_vok {f t : List UInt8} (ht : moduleB t = true) {v : VT} (h : VOk v) : VOk (renV f t v):=by
  have h1:=renV_dep f t v
  exact ⟨renV_ok ht v h.ok,by rw [h1.1]; exact h.dep,by rw [h1.2]; exact h.cnt⟩
theorem viK_ren (f t : List UInt8) (y : VI) : viK (renI f t y) = viK y:=by cases y <;> rfl
theorem allV_ren {f t : List UInt8} (hf : f ≠ []) (ht : t ≠ []) (ks : List Ky) : ∀ v,allV (okN ks) (renV f t v) = allV (okN ks) v
  | .num=>rfl
  | .nm m n=>by
    have h:=renM_nil (m:=m) hf ht
    simp only [renV,mapT,renP,allV,okN]
    by_cases e : m = []
    · rw [decide_eq_true e,decide_eq_true (h.2 e)]
    · rw [decide_eq_false e,decide_eq_false (fun q=>e (h.1 q))]
  | .fn a b=>by
    have h1:=allV_ren hf ht ks a
    have h2:=allV_ren hf ht ks b
    simp only [renV,mapT,allV] at h1 h2 ⊢
    rw [h1,h2]
theorem moduleB_neR {m : List UInt8} (h : moduleB m = true) : m ≠ []:=by
  rintro rfl; revert h; decide
def RdR (s : List SigI) (f t : List UInt8) : Option (List VI) → Prop
  | some zs=>∃ ys,s.length ≤ 8 ∧ ReadsTo s ys ∧ ordB ys = true ∧ (moduleB f = true ∧ moduleB t = true) ∧ zs = ys.map (renI f t)
  | none=>sigB s = false ∨ moduleB f = false ∨ moduleB t = false
theorem renI_getD (f t : List UInt8) {ys : List VI} {i : Nat} (h : i < ys.length) : (ys.map (renI f t)).getD i vi0 = renI f t (ys.getD i vi0):=by
  simp [List.getD,h]
theorem renI_keys (f t : List UInt8) (ys : List VI) (i : Nat) : ((ys.map (renI f t)).take i).map viK = (ys.take i).map viK:=by
  rw [← List.map_take,List.map_map]
  congr 1
  funext y
  exact viK_ren f t y
theorem ordB_ren {f t : List UInt8} {ys : List VI} (hf : moduleB f = true) (ht : moduleB t = true) (ho : ordB ys = true) : ordB (ys.map (renI f t)) = true:=by
  have ho':=ho
  unfold ordB at ho' ⊢
  rw [List.all_eq_true] at ho' ⊢
  intro i hi
  rw [List.mem_range,List.length_map] at hi
  have hs:=ho' i (List.mem_range.mpr hi)
  rw [renI_getD f t hi]
  simp only [stepB,Bool.and_eq_true,viK_ren,renI_keys] at hs ⊢
  refine ⟨?_,hs.2⟩
  have ha:=allV_ren (moduleB_neR hf) (moduleB_neR ht) ((ys.take i).map viK)
  cases hy : ys.getD i vi0 with
  | ab n=>rfl
  | al n v=>rw [hy] at hs; simp only [renI,allI] at hs ⊢; rw [ha]; exact hs.1
  | va n v=>rw [hy] at hs; simp only [renI,allI] at hs ⊢; rw [ha]; exact hs.1
theorem ren_ok {s : List SigI} {ys : List VI} {f t : List UInt8} (ht : moduleB t = true) (hr : ReadsTo s ys) {i : Nat} (hi : i < ys.length) : VOk (meanI (renI f t (ys.getD i vi0))):=by
  have h1:=hr.2 i (by rw [← hr.1]; exact hi)
  have h2:=mean_ok h1.1 h1.2
  cases hy : ys.getD i vi0 with
  | ab n=>rw [hy] at h2; exact h2
  | al n v=>rw [hy] at h2; exact renV_vok ht h2
  | va n v=>rw [hy] at h2; exact renV_vok ht h2
theorem rdR_ex (s : List SigI) (f t : List UInt8) : ∃ o,RdR s f t o:=by
  cases hb : sigB s with
  | false=>exact ⟨none,.inl hb⟩
  | true =>
    cases hf : moduleB f with
    | false=>exact ⟨none,.inr (.inl hf)⟩
    | true =>
      cases ht : moduleB t with
      | false=>exact ⟨none,.inr (.inr ht)⟩
      | true =>
        obtain ⟨ys,h8,hr,hord⟩:=sigB_yes hb
        exact ⟨some _,ys,h8,hr,hord,⟨hf,ht⟩,rfl⟩
theorem rdR_eq {s : List SigI} {f t : List UInt8} {o o' : Option (List VI)} (h : RdR s f t o) (h' : RdR s f t o') : o = o':=by
  have key : ∀ {zs},RdR s f t (some zs) → ¬ RdR s f t none:=by
    rintro zs ⟨ys,h8,hr,ho,⟨hf,ht⟩,_⟩ (h | h | h)
    · rw [sigB_reads h8 hr,ho] at h; cases h
    · rw [hf] at h; cases h
    · rw [ht] at h; cases h
  cases o with
  | none =>
    cases o' with
    | none=>rfl
    | some zs=>exact absurd h (key h')
  | some zs =>
    cases o' with
    | none=>exact absurd h' (key h)
    | some zs' =>
      obtain ⟨ys,_,hr,_,_,rfl⟩:=h
      obtain ⟨ys',_,hr',_,_,rfl⟩:=h'
      rw [readsTo_one hr hr']
end Go.Proofs.YtnjdbgiincliaaaGreat
/- The sorted keys of a map, on abstract runs. -/
set_option linter.unusedVariables false
set_option linter.unusedSimpArgs false
namespace Go.Abs
open Go.RowKit Go.Maps
def srt (ks : List (List UInt8)) : List (List UInt8):=ks.mergeSort (fun x y=>decide (x ≤ y))
def setK (ks : List (List UInt8)) : List (AV × AV):=ks.map fun q=>(.str q,.bool true)
theorem Kept.of_below {w w' : World} (h : Below w.heap.size w w') : Kept (fun _=>False) w w':=⟨h.os,h.tape,h.output,h.size,fun b hb _=>h.block b hb⟩
theorem HRel.grown {G : Ghost} {A : List Box} {w w' : World} {base : Nat} (h : HRel G A w base) (hk : Kept (fun _=>False) w w') : HRel G A w' base ∧ Ext G w G w':=by
  have e : Ext G w G w':=⟨Nat.le_refl _,fun _ _ x=>x,fun x o hx=>cell?_congr (hk.block x (h.imm x o hx) (fun f=>f)) o,fun _ _=>⟨rfl,rfl,rfl,rfl,rfl⟩,fun x o hx f=>hk.fz (h.imm x o hx) (fun f=>f) f⟩
  exact ⟨⟨h.n,fun i hi=>by
      by_cases hl : (A.getD i .dead).live = true
      · exact (h.box i hi).mono e (by rw [h.n]; exact hi) (fun li=>hk.block _ (h.bnd i hi li).2 (fun f=>f)) (fun _ _ x=>x)
      · exact (h.box i hi).mono e (by rw [h.n]; exact hi) (fun li=>absurd li hl) (fun _ _ x=>x),
    h.sep,fun i hi li=>⟨(h.bnd i hi li).1,Nat.lt_of_lt_of_le (h.bnd i hi li).2 hk.size⟩,fun b o x=>Nat.lt_of_lt_of_le (h.imm b o x) hk.size,Nat.le_trans h.low hk.size,h.gv.block fun b hb=>hk.block b (by have:=h.low; omega) (fun f=>f)⟩,e⟩
theorem HRel.pushAt {G : Ghost} {A : List Box} {w w' : World} {base g : Nat} (h : HRel G A w base) (bx : Box) (off len cap sz : Nat)
    (hk : Kept (fun _=>False) w w') (hg : w.heap.size ≤ g) (hs : g < w'.heap.size)
    (hb : Ext G w (G.add g off len cap sz) w' → BoxOk (G.add g off len cap sz) w' G.n bx) :
    HRel (G.add g off len cap sz) (A ++ [bx]) w' base ∧ Ext G w (G.add g off len cap sz) w':=by
  have e : Ext G w (G.add g off len cap sz) w':=Ghost.add_ext _ _ _ _ _ (fun x o hx=>cell?_congr (hk.block x (h.imm x o hx) (fun f=>f)) o) fun x o hx f=>hk.fz (h.imm x o hx) (fun f=>f) f
  have hn:=h.n
  have hblk : ∀ i,i < A.length → (G.add g off len cap sz).blk i = G.blk i:=fun i hi=>(e.ids i (by omega)).1
  have hnew : (G.add g off len cap sz).blk A.length = g:=by simp [Ghost.add,hn]
  refine ⟨⟨by simp [Ghost.add,hn],fun i hi=>?_,fun i j hi hj hne li lj=>?_,fun i hi li=>?_,fun b o x=>Nat.lt_of_lt_of_le (h.imm b o x) hk.size,Nat.le_trans h.low hk.size,h.gv.block fun b hb=>hk.block b (by have:=h.low; omega) (fun f=>f)⟩,e⟩
  · simp only [List.length_append,List.length_singleton] at hi
    by_cases hlt : i < A.length
    · rw [getD_append_left hlt]
      exact (h.box i hlt).mono e (by omega) (fun li=>hk.block _ (h.bnd i hlt li).2 (fun f=>f)) (fun _ _ x=>x)
    · obtain rfl : i = A.length:=by omega
      have : (A ++ [bx]).getD A.length Box.dead = bx:=by simp [List.getD]
      rw [this,← hn]; exact hb e
  · simp only [List.length_append,List.length_singleton] at hi hj
    by_cases hil : i < A.length
    · rw [getD_append_left hil] at li
      by_cases hjl : j < A.length
      · rw [getD_append_left hjl] at lj
        rw [hblk i hil,hblk j hjl]; exact h.sep i j hil hjl hne li lj
      · obtain rfl : j = A.length:=by omega
        rw [hblk i hil,hnew]; have:=(h.bnd i hil li).2; omega
    · obtain rfl : i = A.length:=by omega
      have hjl : j < A.length:=by omega
      rw [getD_append_left hjl] at lj
      rw [hblk j hjl,hnew]; have:=(h.bnd j hjl lj).2; omega
  · simp only [List.length_append,List.length_singleton] at hi
    by_cases hil : i < A.length
    · rw [getD_append_left hil] at li
      rw [hblk i hil]; have:=h.bnd i hil li; exact ⟨this.1,Nat.lt_of_lt_of_le this.2 hk.size⟩
    · obtain rfl : i = A.length:=by omega
      rw [hnew]; exact ⟨Nat.le_trans h.low hg,hs⟩
def setR : Value → Option (DataW Unit × List MemPlace):=fun _=>some (.lit (.bool true),[])
theorem set_owns {P : Program} {K : TypeId} (hK : P.underlying K = some .string) {G : Ghost} {A : List Box} {w : World} {base i : Nat} {ks : List (List UInt8)} (hn : ks.Nodup) (hl : ks.length ≤ 1000) (hq : ∀ q ∈ ks,q.length ≤ 1000)
    (h : HRel G A w base) (hi : i < G.n) (hA : A.getD i .dead = .mapb (setK ks)) :
    ∃ D : DataW Unit,w.ownsMap P K setR (G.blk i) ks.length D ∧ (strKeys D).Perm ks ∧ Maps.size D = ks.length:=by
  obtain ⟨m,cl,g1,g2,g3,g4⟩:=mapAt h hi hA
  have hml : m.toList.length = ks.length:=by have:=g2.1; simpa [setK] using this
  have hkey : ∀ j (hj : j < ks.length),(m.toList.getD j default).key = Go.Proofs.encStr (ks.getD j []):=fun j hj=>by
    have h1:=(g2.2 j (by simpa [setK] using hj)).1
    have e : ((setK ks).getD j (.bot,.bot)).1 = .str (ks.getD j []):=by simp [setK,List.getD,hj]
    rw [e] at h1
    generalize (m.toList.getD j default).key = v at *
    cases h1
    rfl
  have hkeys : m.toList.map (·.key) = ks.map Go.Proofs.encStr:=by
    refine List.ext_getElem (by simpa using hml) fun j h1 h2=>?_
    have hj : j < ks.length:=by simpa using h2
    have hjm : j < m.toList.length:=by omega
    have:=hkey j hj
    simp only [List.getD,List.getElem?_eq_getElem hjm,List.getElem?_eq_getElem hj,Option.getD_some] at this
    simpa using this
  have hrd : ∀ x ∈ m.toList,∃ q ∈ ks,Go.WideElems.rd P K setR x = some (.string q,.lit (.bool true)) ∧ x.key = Go.Proofs.encStr q:=fun x hx=>by
    have : x.key ∈ m.toList.map (·.key):=List.mem_map.2 ⟨x,hx,rfl⟩
    rw [hkeys] at this
    obtain ⟨q,hq1,e⟩:=List.mem_map.1 this
    refine ⟨q,hq1,?_,e.symm⟩
    have hkk : keyOf P K x.key = some (.string q):=by
      rw [← e]
      have hs : (ByteArray.mk q.toArray).size ≤ maxLen:=by
        have:=hq q hq1
        show q.toArray.size ≤ maxLen
        have hm : maxLen = 2 ^ 63 - 1:=rfl
        simp; omega
      have:=Go.WideMaps.keyOf_string_mk (P:=P) (k:=K) hK hs
      simpa [Go.Proofs.encStr] using this
    simp [Go.WideElems.rd,hkk,setR]
  have hnd : (m.toList.map (·.key)).Nodup:=by
    rw [hkeys]
    exact List.Pairwise.map _ (fun a b hne e=>hne (encStr_inj e)) hn
  have F : Go.WideElems.Fit P K setR m cl := ⟨by have hm : maxLen = 2 ^ 63 - 1 := rfl; have : m.size = ks.length := by simpa using hml
                                                 omega,⟨g4.1,g4.2,hnd⟩,fun x hx=>by obtain ⟨q,_,h,_⟩:=hrd x hx; exact ⟨_,h⟩⟩
  have hms : m.size = ks.length:=by simpa using hml
  refine ⟨_,⟨m,cl,g1,F,by omega,rfl⟩,?_,?_⟩
  · have hp:=Go.WideShapes.sorted_perm (m.toList.map (Go.WideElems.rg P K setR))
    have hx : (m.toList.map (Go.WideElems.rg P K setR)).map (fun p=>strOf p.1) = ks:=by
      have e1 : (m.toList.map (Go.WideElems.rg P K setR)).map (fun p=>strOf p.1) = (m.toList.map (·.key)).map (fun v=>match v with | .string s=>s.data.toList | _=>[]):=by
        rw [List.map_map,List.map_map]
        refine List.map_congr_left fun x hx=>?_
        obtain ⟨q,_,h1,h2⟩:=hrd x hx
        simp only [Function.comp,Go.WideElems.rg_of h1,h2]
        simp [Go.Proofs.encStr,strOf]
      rw [e1,hkeys,List.map_map]
      conv=>rhs; rw [← List.map_id ks]
      refine List.map_congr_left fun q _=>?_
      simp [Go.Proofs.encStr]
    have:=hp.map (fun p=>strOf p.1)
    rw [hx] at this
    exact this
  · show (List.foldr DataW.insert [] _).length = _
    rw [length_sorted]; simp [hms]
theorem sorted_of {P : Program} {f K : Nat} (hK : P.underlying K = some .string)
    (hS : ∀ (b nn : Nat) (D0 : DataW Unit) (R : Value → Option (DataW Unit × List MemPlace)) (w : World),w.ownsMap P K R b nn D0 → Maps.size D0 ≤ maxLen → Maps.size D0 * 16 ≤ 140737488355328 →
      Calls P f #[.map (some b)] w fun e w'=>∃ (v : Value) (ss : List (List UInt8)),e = .returned v ∧ ss.Perm (strKeys D0) ∧ w'.ownsRow w.heap.size K 1 v ss.length ((ss.mergeSort (fun x y=>decide (x ≤ y))).map Go.Proofs.encStr) ∧ (v = .slice none 0 0 ↔ ss = []) ∧ Below w.heap.size w w')
    (i : Nat) (ks : List (List UInt8)) (hn : ks.Nodup) (hl : ks.length ≤ 1000) (hq : ∀ q ∈ ks,q.length ≤ 1000) (A : List Box) (hA : A.getD i .dead = .mapb (setK ks)) :
    ACalls P f [.map i] A (fun r A'=>(ks = [] ∧ r = .nils ∧ A' = A) ∨ (ks ≠ [] ∧ r = .own A.length ∧ A' = A ++ [.row 1 ((srt ks).map fun s=>[AV.str s]) 0])):=by
  intro G w base xs hH hx
  obtain ⟨v,hxs,hv⟩:=hx.one
  obtain ⟨xl⟩:=xs
  simp only at hxs
  subst hxs
  cases hv with
  | map i hi =>
    obtain ⟨D,hD,hp,hsz⟩:=set_owns hK hn hl hq hH hi hA
    have hm : maxLen = 2 ^ 63 - 1:=rfl
    refine (hS (G.blk i) ks.length D setR w hD (by omega) (by omega)).mono ?_
    rintro e w' ⟨v,ss,rfl,hperm,hrow,hnil,hb⟩
    have hpk:=hperm.trans hp
    have hk:=Kept.of_below hb
    have hbb : Below base w w':=hk.below (fun b f=>f.elim) hH.low
    rcases hrow.2 with ⟨rfl,hz⟩ | ⟨g,cap,cur,rfl,hbase,hgb,r1,r2,r3,r4⟩
    · have hss:=hnil.1 rfl
      subst hss
      have hks : ks = []:=hpk.symm.eq_nil
      obtain ⟨q1,q2⟩:=hH.grown hk
      exact ⟨_,.nils,A,G,rfl,.inl ⟨hks,rfl,rfl⟩,.nils,q1,q2,hbb⟩
    · have hsn : ss ≠ []:=fun e=>by
        have:=hnil.2 e
        cases this
      have hkn : ks ≠ []:=fun e=>hsn (by rw [e] at hpk; exact hpk.eq_nil)
      have hsrt : ss.mergeSort (fun x y=>decide (x ≤ y)) = srt ks:=mergeSort_of_perm hpk
      have hlen : ss.length = ks.length:=hpk.length_eq
      have hsl : (srt ks).length = ks.length:=by simp [srt]
      rw [hsrt] at r4
      have hgl : g < w'.heap.size:=(Array.getElem?_eq_some_iff.1 hgb).1
      have hp:=hH.pushAt (g:=g) (.row 1 ((srt ks).map fun s=>[AV.str s]) 0) 0 ss.length cap 1 hk hbase hgl fun e'=>by
        have hb' : (G.add g 0 ss.length cap 1).blk G.n = g:=by simp [Ghost.add]
        have ho : (G.add g 0 ss.length cap 1).off G.n = 0:=by simp [Ghost.add]
        have hcp : (G.add g 0 ss.length cap 1).cap G.n = cap:=by simp [Ghost.add]
        refine ⟨cur,K,by rw [hb']; exact hgb,trivial,by simp [Ghost.add,hsl,hlen],by rw [hcp]; simp [hsl]; omega,by simp [Ghost.add],by rw [ho,hcp]; omega,Nat.zero_le _,fun r hr=>?_,fun k j hk' hj=>?_,fun o _ hh=>?_⟩
        · obtain ⟨s,_,rfl⟩:=List.mem_map.1 hr
          exact ⟨rfl,fun v hv=>by rw [List.mem_singleton.1 hv]; rfl⟩
        · obtain rfl : j = 0:=by omega
          have hk2 : k < (srt ks).length:=by simpa using hk'
          have e1 : rowAt ((srt ks).map fun s=>[AV.str s]) k 0 = .str ((srt ks).getD k []):=by simp [rowAt,List.getD,hk2]
          have e2 : cur.getD (0 + (k * 1 + 0)) undef = Go.Proofs.encStr ((srt ks).getD k []):=by
            have h1 : (cur.toList.take (ss.length * 1))[k]? = ((srt ks).map Go.Proofs.encStr)[k]?:=by rw [r4]
            rw [List.getElem?_take_of_lt (by omega),Array.getElem?_toList,List.getElem?_map,List.getElem?_eq_getElem hk2] at h1
            simp only [Nat.mul_one,Nat.add_zero,Nat.zero_add,Array.getD_eq_getD_getElem?,h1]
            simp [List.getD,hk2]
          rw [ho,e1,e2]
          exact .str _
        · rw [hb'] at hh
          exact absurd (hH.imm _ _ hh) (by omega)
      refine ⟨_,.own A.length,_,_,rfl,.inr ⟨hkn,rfl,rfl⟩,?_,hp.1,hp.2,hbb⟩
      have:=RV.own (G:=G.add g 0 ss.length cap 1) (w:=w') A.length (by simp [Ghost.add,hH.n])
      simpa [Ghost.add,hH.n] using this
end Go.Abs
/- Sets of modules as data: what was collected, and the flags of letters. -/
set_option linter.unusedVariables false
set_option linter.unusedSimpArgs false
namespace Go.Abs
open Go
def insM (ks : List (List UInt8)) (q : List UInt8) : List (List UInt8):=if q = [] then ks else if q ∈ ks then ks else ks ++ [q]
theorem insM_nodup {ks : List (List UInt8)} (h : ks.Nodup) (q : List UInt8) : (insM ks q).Nodup:=by
  unfold insM
  split
  · exact h
  · split
    · exact h
    · rename_i h1 h2
      exact List.nodup_append.2 ⟨h,by simp,fun a ha b hb e=>h2 (by rw [List.mem_singleton.1 hb] at e; rwa [e] at ha)⟩
theorem insM_mem {ks : List (List UInt8)} {q x : List UInt8} : x ∈ insM ks q ↔ x ∈ ks ∨ (x = q ∧ q ≠ []):=by
  unfold insM
  split
  · rename_i h; simp [h]
  · rename_i h
    split
    · rename_i h2
      constructor
      · exact .inl
      · rintro (hx | ⟨rfl,_⟩)
        · exact hx
        · exact h2
    · simp [h]
theorem insM_len (ks : List (List UInt8)) (q : List UInt8) : (insM ks q).length ≤ ks.length + 1:=by
  unfold insM; split
  · omega
  · split
    · omega
    · simp
def insMs (ks : List (List UInt8)) (qs : List (List UInt8)) : List (List UInt8):=qs.foldl insM ks
theorem insMs_nodup : ∀ (qs : List (List UInt8)) {ks : List (List UInt8)},ks.Nodup → (insMs ks qs).Nodup
  | [],_,h=>h
  | q :: qs,_,h=>insMs_nodup qs (insM_nodup h q)
theorem insMs_mem : ∀ (qs ks : List (List UInt8)) (x : List UInt8),x ∈ insMs ks qs ↔ x ∈ ks ∨ (x ∈ qs ∧ x ≠ [])
  | [],ks,x=>by simp [insMs]
  | q :: qs,ks,x=>by
    have h:=insMs_mem qs (insM ks q) x
    have e : insMs ks (q :: qs) = insMs (insM ks q) qs:=rfl
    rw [e,h,insM_mem,List.mem_cons]
    constructor
    · rintro ((h | ⟨rfl,h⟩) | ⟨h1,h2⟩)
      · exact .inl h
      · exact .inr ⟨.inl rfl,h⟩
      · exact .inr ⟨.inr h1,h2⟩
    · rintro (h | ⟨rfl | h1,h2⟩)
      · exact .inl (.inl h)
      · exact .inl (.inr ⟨rfl,h2⟩)
      · exact .inr ⟨h1,h2⟩
theorem insMs_app (ks qs rs : List (List UInt8)) : insMs ks (qs ++ rs) = insMs (insMs ks qs) rs:=List.foldl_append
theorem insMs_len : ∀ (qs ks : List (List UInt8)),(insMs ks qs).length ≤ ks.length + qs.length
  | [],ks=>by simp [insMs]
  | q :: qs,ks=>by
    have h:=insMs_len qs (insM ks q)
    have h2:=insM_len ks q
    have e : insMs ks (q :: qs) = insMs (insM ks q) qs:=rfl
    rw [e,List.length_cons]; omega
def letJ (j : Nat) : List UInt8:=[UInt8.ofNat (65 + j)]
def isLet (q : List UInt8) : Prop:=∃ j,j < 26 ∧ q = letJ j
theorem srt_mem {l : List (List UInt8)} {q : List UInt8} : q ∈ srt (insMs [] l) ↔ q ∈ l ∧ q ≠ []:=by
  rw [srt,List.mem_mergeSort,insMs_mem]
  simp
end Go.Abs
