/- MatchB, MbOwn, SpMn, SpMb, SpMt. -/
import Derived.Test.YtkajklfohjcofaaGreatDoorB09
import Derived.Test.YtkajklfohjcofaaGreatDoorAbsW3
/- What abstract types stand for in another signature: by the program. -/
set_option linter.unusedVariables false
set_option linter.unusedSimpArgs false
namespace Go.Proofs.YtkajklfohjcofaaGreatDoor
open Go.Abs
def BSt (A0 : List Box) (A : List Box) (bs : List BdI) (v : AV) : Prop :=
  (v = .nils ∧ bs = []) ∨ ∃ j rows S g,v = .own j ∧ A.getD j .dead = (bif g then .gr none 6 rows else .row 6 rows 0) ∧ OwnB A bs rows S ∧ (j :: S).Nodup ∧ (∀ i ∈ j :: S,A0.length ≤ i) ∧ j < A.length
theorem BSt.frame {A0 A A' : List Box} {bs : List BdI} {v : AV} (h : BSt A0 A bs v) (hl : A.length ≤ A'.length) (hf : ∀ k,k < A.length → A'.getD k .dead = A.getD k .dead) : BSt A0 A' bs v:=by
  rcases h with h | ⟨j,rows,S,g,h1,h2,h3,h4,h5,h6⟩
  · exact .inl h
  · exact .inr ⟨j,rows,S,g,h1,by rw [hf j h6]; exact h2,h3.frame fun i hi=>hf i (h3.low i hi),h4,h5,by omega⟩
theorem bst_new {A0 X P : List Box} {bs : List BdI} {b : BdI} {v : AV} {S1 : List Nat} {rows : List (List AV)} {S : List Nat} {g : Bool} {Y : List Box} {N : Nat} (h0 : A0.length ≤ X.length) (hX : X.length ≤ N) (hN : N = Y.length)
    (hO : OwnB X bs rows S) (hnd : S.Nodup) (hge : ∀ i ∈ S,A0.length ≤ i) (hK : OwnK (X ++ P) b.typ.kids v S1) (hn1 : S1.Nodup) (hg1 : ∀ i ∈ S1,X.length ≤ i ∧ i < N) (hf : ∀ k ∈ S ++ S1,Y.getD k .dead = (X ++ P).getD k .dead) :
    BSt A0 (Y ++ [bif g then Box.gr none 6 (rows ++ [bRow b v]) else Box.row 6 (rows ++ [bRow b v]) 0]) (bs ++ [b]) (.own N):=by
  have low:=hO.low
  refine .inr ⟨N,rows ++ [bRow b v],S ++ S1,g,rfl,by rw [hN,Abs.getD_append_right (Nat.le_refl _),Nat.sub_self]; rfl,?_,?_,?_,by simp; omega⟩
  · have e : ∀ k ∈ S ++ S1,(Y ++ [bif g then Box.gr none 6 (rows ++ [bRow b v]) else Box.row 6 (rows ++ [bRow b v]) 0]).getD k .dead = (X ++ P).getD k .dead:=fun k hk=>by
      rw [Abs.getD_append_left ?_,hf k hk]
      rcases List.mem_append.1 hk with h | h
      · have:=low k h; omega
      · have:=hg1 k h; omega
    refine (hO.frame fun i hi=>?_).append ?_
    · rw [e i (List.mem_append_left _ hi),Abs.getD_append_left (low i hi)]
    · rw [OwnB]
      exact ⟨v,[],S1,[],rfl,by simp,hK.frame fun i hi=>e i (List.mem_append_right _ hi),by simp [OwnB]⟩
  · refine List.nodup_cons.2 ⟨fun h=>?_,List.nodup_append.2 ⟨hnd,hn1,fun x hx y hy=>?_⟩⟩
    · rcases List.mem_append.1 h with h | h
      · have:=low _ h; omega
      · have:=hg1 _ h; omega
    · have:=low x hx; have:=hg1 y hy; omega
  · intro i hi
    rcases List.mem_cons.1 hi with rfl | hi
    · omega
    · rcases List.mem_append.1 hi with h | h
      · exact hge i h
      · have:=hg1 i h; omega
theorem prowB (f : VT) (n : List UInt8) (N : Nat) : ∃ v,prow f N true = [.int .i64 (toTy f).kind,.str (toTy f).mod,.str (toTy f).name,v] ∧ (v = .nils ∨ ∃ i,v = .own i):=by
  cases f with
  | num=>exact ⟨_,rfl,.inl rfl⟩
  | nm m k=>exact ⟨_,rfl,.inl rfl⟩
  | fn a b=>exact ⟨_,rfl,.inr ⟨_,rfl⟩⟩
theorem pboxK (f : VT) (X : List Box) {v : AV} (hv : prow f X.length true = [.int .i64 (toTy f).kind,.str (toTy f).mod,.str (toTy f).name,v]) : OwnK (X ++ pbox f X.length) (toTy f).kids v (pidx f X.length):=by
  have ho:=own_plain f X.length true (X ++ pbox f X.length) fun k hk=>by
    rw [Abs.getD_append_right (by omega)]
    congr 1; omega
  rw [hv] at ho
  cases ht : toTy f with
  | mk k m n ks =>
    rw [ht,ownT_mk] at ho
    obtain ⟨v',e,hK⟩:=ho
    simp only [List.cons.injEq,and_true] at e
    rw [e.2.2.2]
    exact hK
theorem mb_fin0 {X P : List Box} {lit : Box} {k : Nat} (h : k < X.length + P.length) : (X ++ (P ++ [lit])).getD k .dead = (X ++ P).getD k .dead:=by
  rw [← List.append_assoc,Abs.getD_append_left (by simpa using h)]
theorem mb_fin1 {X P : List Box} {lit : Box} {j k : Nat} (hj : k ≠ j) (h : k < X.length + P.length) : (X.set j .dead ++ (P ++ [lit])).getD k .dead = (X ++ P).getD k .dead:=by
  rw [← List.append_assoc,Abs.getD_append_left (by simpa using h)]
  by_cases hk : k < X.length
  · rw [Abs.getD_append_left (by simpa using hk),Abs.getD_append_left hk,getD_set_ne' (Ne.symm hj)]
  · rw [Abs.getD_append_right (by simp; omega),Abs.getD_append_right (by omega),List.length_set]
def OwnMb (A : List Box) (bs : List BdI) (v : AV) (S : List Nat) : Prop :=
  (v = .nils ∧ bs = [] ∧ S = []) ∨ ∃ i rows S',v = .own i ∧ S = i :: S' ∧ A.getD i .dead = .gr none 6 rows ∧ OwnB A bs rows S'
def MbOut (A : List Box) (bs : List BdI) (ok : Bool) (r : AV) (A' : List Box) : Prop :=
  ∃ v S,r = .tuple [v,.bool ok] ∧ OwnMb A' bs v S ∧ S.Nodup ∧ (∀ i ∈ S,A.length ≤ i) ∧ A.length ≤ A'.length ∧ ∀ i,i < A.length → A'.getD i .dead = A.getD i .dead
set_option maxRecDepth 100000 in
set_option maxHeartbeats 4000000 in
theorem impl_MatchBinds (a b : List SigI) (ha : a.length ≤ 1048576) (hoa : ∀ x ∈ a,x.Ok ∧ sz x.typ ≤ 1048576) (hb : b.length ≤ 1048576) (hob : ∀ x ∈ b,x.Ok ∧ sz x.typ ≤ 1048576) (A : List Box) :
    ACalls Tryz.prog 31 [.slice (sEs a),.slice (sEs b)] A (fun r A'=>∃ o,MbIs a b o ∧ MbOut A (o.getD []) o.isSome r A'):=by
  refine ACalls.grow ?_
  refine acalls_enterK (cf:=cf 56 [0,1,4,5,6,7,8,9,11,12,13,14,23,24,25,26,27,36,45]) foll Tryz.func31 Tryz.ntmps31 (by simp [cf]) ?_
  simp only [Tryz.f31,EnterK_some,zW,zX,zD,builtinA,isLeaf,const1,ustrA,simprocAttr,ti3,ti9,ti39,ti64,ti87,ti89,ti98,ca46,ca63,ca64,za89,cf,Tryz.results31]
  refine callO_intro (impl_readMatch a b ha hoa hb hob _) ?_
  rintro r A1 ⟨B,rfl,⟨hs,ws,j,k,hra,hrb,rfl,hj,hk,hgj,hgk⟩ | ⟨c,hc,hn,rfl⟩⟩
  · have hvh:=rdN_vok hra
    have hvw:=rdN_vok hrb
    have hmO : ∀ {bs},mbO hs (ws.map absO) = some bs → MbIs a b (some bs):=fun h=>.inl ⟨hs,ws,hra,hrb,h.symm⟩
    have hmN : mbO hs (ws.map absO) = none → MbIs a b none:=fun h=>.inl ⟨hs,ws,hra,hrb,h.symm⟩
    have hgk2 : (A ++ B).getD (A.length + k) .dead = .row 1 (vRows ws) 0:=by rw [Abs.getD_append_right (by omega),Nat.add_sub_cancel_left]; exact hgk
    simp only [zW,zX,zD,builtinA,isLeaf,const1,ustrA,simprocAttr,ti3,ti9,ti39,ti64,ti87,ti89,ti98,ca46,ca63,ca64,za89,cf,Tryz.results31,hgk,vRows_length]
    refine aloop_intro [6,9,24,25,26] (fun e A'=>∃ p bs v,p ≤ ws.length ∧ mbO hs ((ws.map absO).take p) = some bs ∧ e = [(6,.own (A.length + j)),(9,v),(24,.own (A.length + k)),(25,.int .i64 ws.length),(26,.int .i64 p)] ∧ BSt (A ++ B) A' bs v ∧ (A ++ B).length ≤ A'.length ∧ ∀ i,i < (A ++ B).length → A'.getD i .dead = (A ++ B).getD i .dead) (fun e _=>ws.length - (intOf (Abs.look 26 e)).toNat) ?_ ?_
    · simp only [zW,zX,zD,builtinA,isLeaf,const1,ustrA,simprocAttr,ti3,ti9,ti39,ti64,ti87,ti89,ti98,ca46,ca63,ca64,za89,cf,Tryz.results31]
      refine ⟨0,[],.nils,by omega,by simp [mbO],rfl,.inl ⟨rfl,rfl⟩,?_⟩
      simp
    · rintro e A' ⟨p,bs,v,hp,hmb,rfl,hB,hl,hf⟩
      have hgj2 : ∀ X,(A' ++ X).getD (A.length + j) .dead = .row 1 (vRows hs) 0:=fun X=>by rw [Abs.getD_append_left (by simp at hl; omega),hf _ (by simp; omega),Abs.getD_append_right (by omega),Nat.add_sub_cancel_left]; exact hgj
      have hgk2 : ∀ X,(A' ++ X).getD (A.length + k) .dead = .row 1 (vRows ws) 0:=fun X=>by rw [Abs.getD_append_left (by simp at hl; omega),hf _ (by simp; omega),Abs.getD_append_right (by omega),Nat.add_sub_cancel_left]; exact hgk
      have hgk3 : A'.getD (A.length + k) .dead = .row 1 (vRows ws) 0:=by have:=hgk2 []; rwa [List.append_nil] at this
      by_cases hp2 : p < ws.length
      · have d2 : decide ((p : Int) < (ws.length : Int)) = true:=by simp; omega
        have pp : (0 : Int) ≤ (p : Int) ∧ (p : Int) < (ws.length : Int):=⟨by omega,by omega⟩
        have he:=vRows_getD hp2
        have hi1 : IntKind.i64.wrap ((p : Int) + 1) = ((p + 1 : Nat) : Int):=by rw [wrap64 (by omega) (by omega)]; rfl
        have hsn:=mbO_snoc hs (l:=ws.map absO) (i:=p) (by simpa using hp2) hmb
        have hfl:=mbO_fail hs (l:=ws.map absO) (i:=p) (by simpa using hp2)
        have hgo : (ws.map absO).getD p none = absO (ws.getD p vi0):=by simp [List.getD,hp2]
        rw [hgo] at hsn hfl
        generalize ws.getD p vi0 = y at *
        rw [vRow] at he
        cases y with
        | ab n =>
          simp only [viT,viX] at he
          simp only [zW,zX,zD,builtinA,isLeaf,const1,ustrA,simprocAttr,ti3,ti9,ti39,ti64,ti87,ti89,ti98,ca46,ca63,ca64,za89,cf,Tryz.results31,hgk3,vRows_length,d2,he]
          refine ⟨pp,?_⟩
          have hmk : ∀ f,findF hs (false,n) = some f → mbO hs [absO (.ab n)] = some [⟨[],n,toTy f⟩]:=fun f h=>by simp only [absO,mbO,h]; rfl
          have hmn : findF hs (false,n) = none → mbO hs [absO (.ab n)] = none:=fun h=>by simp only [absO,mbO,h]
          have hfv:=findR_view hs (by omega) (false,n) (hgj2 [Box.cells [.str n]])
          have hkey:=fun A=>ab_key n A
          simp only [kE,viX,viK] at hfv hkey
          have hbx : ∀ Y,(A' ++ (Box.cells [.str n] :: Y)).getD A'.length .dead = .cells [.str n]:=fun Y=>by rw [Abs.getD_append_right (Nat.le_refl _)]; simp
          simp only [zW,zX,zD,builtinA,isLeaf,const1,ustrA,simprocAttr,ti3,ti9,ti39,ti64,ti87,ti89,ti98,ca46,ca63,ca64,za89,cf,Tryz.results31,wpO_typeAssert,assert_yes]
          refine callO_intro (hkey _) ?_
          rintro r A2 ⟨rfl,rfl⟩
          simp only [zW,zX,zD,builtinA,isLeaf,const1,ustrA,simprocAttr,ti3,ti9,ti39,ti64,ti87,ti89,ti98,ca46,ca63,ca64,za89,cf,Tryz.results31]
          refine callO_intro hfv ?_
          rintro r A2 ⟨o,hfo,rfl,rfl⟩
          have ho:=findO_one hra hfo (findF_is hs (false,n))
          cases o with
          | none =>
            simp only [findR]
            simp only [zW,zX,zD,builtinA,isLeaf,const1,ustrA,simprocAttr,ti3,ti9,ti39,ti64,ti87,ti89,ti98,ca46,ca63,ca64,za89,cf,Tryz.results31]
            exact .inl ⟨none,hmN (hfl (hmn ho.symm)),_,[],rfl,.inl ⟨rfl,rfl,rfl⟩,by simp,by simp,by simp at hl ⊢; omega,fun i hi=>by rw [Abs.getD_append_left (by simp at hl; omega),hf i (by simp; omega),Abs.getD_append_left hi]⟩
          | some f =>
            have hmf:=hmk f ho.symm
            rw [hmf] at hsn
            simp only [Option.map_some] at hsn
            simp only [findR]
            obtain ⟨vf,hvf,hvf2⟩:=prowB f n (A' ++ [Box.cells [.str n]]).length
            have hK:=pboxK f (A' ++ [Box.cells [.str n]]) hvf
            have hpl:=plainM f (A' ++ [Box.cells [.str n]])
            rw [hvf] at hpl
            have hpin:=pidx_in f (A' ++ [Box.cells [.str n]]).length
            have hpnd:=pidx_nodup f (A' ++ [Box.cells [.str n]]).length
            have hpbl:=pbox_length f (A' ++ [Box.cells [.str n]]).length
            have hB2 : BSt (A ++ B) (A' ++ [Box.cells [.str n]]) bs v:=hB.frame (by simp) fun i hi=>Abs.getD_append_left hi
            have hXl : A'.length + 1 = (A' ++ [Box.cells [.str n]]).length:=by simp
            have hbx2:=hbx []
            generalize hX : A' ++ [Box.cells [.str n]] = X at *
            generalize hP : pbox f X.length = P at *
            have hbX : ∀ Y,(X ++ Y).getD A'.length .dead = .cells [.str n]:=fun Y=>by rw [← hX,List.append_assoc]; exact hbx _
            have hl' : A.length + B.length ≤ X.length:=by rw [← hXl]; simp at hl; omega
            have hfX : ∀ i,i < A.length + B.length → X.getD i .dead = (A ++ B).getD i .dead:=fun i hi=>by rw [← hX,Abs.getD_append_left (by simp at hl; omega)]; exact hf i (by simpa using hi)
            have hl0 : (A ++ B).length ≤ X.length:=by simpa using hl'
            simp only [zW,zX,zD,builtinA,isLeaf,const1,ustrA,simprocAttr,ti3,ti9,ti39,ti64,ti87,ti89,ti98,ca46,ca63,ca64,za89,cf,Tryz.results31,hbx2]
            rcases hvf2 with rfl | ⟨iv,rfl⟩
            · have hK2 : OwnK (X ++ P) (toTy f).kids (.slice []) (pidx f X.length):=by
                rcases hK with ⟨_,h1,h2⟩ | ⟨h0,_⟩ | ⟨i,_,_,h0,_⟩
                · exact .inr (.inl ⟨rfl,h1,h2⟩)
                · cases h0
                · cases h0
              rcases hB2 with ⟨rfl,rfl⟩ | ⟨j2,rows,S,g,rfl,hb2,hO,hN,hge,hlj⟩
              · refine .inr (drawE_intro [(false,0,2),(false,0,1),(false,0,1),(false,0,0),(true,0,0),(false,1,1),(true,1,1),(true,2,2),(false,3,3)] [X,X ++ P,X ++ (P ++ [.row 6 [[AV.str [],.str n,.int .i64 (toTy f).kind,.str (toTy f).mod,.str (toTy f).name,AV.slice []]] 0]),X ++ (P ++ [.row 6 [[AV.str [],.str n,.int .i64 (toTy f).kind,.str (toTy f).mod,.str (toTy f).name,AV.slice []]] 0,.row 6 [[AV.str [],.str n,.int .i64 (toTy f).kind,.str (toTy f).mod,.str (toTy f).name,AV.slice []]] 0])] 3 rfl (by kernel_rfl) (by kernel_rfl) (by kernel_rfl) (by kernel_rfl) (by kernel_rfl) (by kernel_rfl) ?_)
                simp only [zW,zX,zD,builtinA,isLeaf,const1,ustrA,simprocAttr,ti3,ti9,ti39,ti64,ti87,ti89,ti98,ca46,ca63,ca64,za89,cf,Tryz.results31,hbx2,hbX]
                refine wpG_invoke _ _ _ _ _ _ _ _ _ _ _ _ _ _ _ _ _ _ ?_
                simp only [zW,zX,zD,builtinA,isLeaf,const1,ustrA,simprocAttr,ti3,ti9,ti39,ti64,ti87,ti89,ti98,ca46,ca63,ca64,za89,cf,Tryz.results31]
                refine meth_invE (met3 (by kernel_rfl) (by kernel_rfl) (by kernel_rfl) (by kernel_rfl) (by kernel_rfl) (by kernel_rfl)) hpl rfl ?_
                simp only [zW,zX,zD,builtinA,isLeaf,const1,ustrA,simprocAttr,ti3,ti9,ti39,ti64,ti87,ti89,ti98,ca46,ca63,ca64,za89,cf,Tryz.results31,hbx2,hbX]
                have lf : ∀ w ∈ [AV.str ([] : List UInt8),.str n,.int .i64 (toTy f).kind,.str (toTy f).mod,.str (toTy f).name,AV.slice []],isLeaf w = true:=by simp [isElem,isLeaf]
                refine ⟨fun w hw=>lf w hw,fun r hr=>by rw [List.mem_singleton.1 hr]; rfl,?_⟩
                simp only [zW,zX,zD,builtinA,isLeaf,const1,ustrA,simprocAttr,ti3,ti9,ti39,ti64,ti87,ti89,ti98,ca46,ca63,ca64,za89,cf,Tryz.results31,hi1,LoopK_eq]
                have hb4:=bst_new (A0:=A ++ B) (b:=⟨[],n,toTy f⟩) (v:=(.slice [])) (g:=false) (rows:=[]) (S:=[]) (Y:=X ++ (P ++ [.row 6 [[AV.str [],.str n,.int .i64 (toTy f).kind,.str (toTy f).mod,.str (toTy f).name,AV.slice []]] 0])) (N:=X.length + (P.length + 1)) hl0 (by omega) (by simp) (bs:=[]) (by simp [OwnB]) (by simp) (by simp) hK2 hpnd (fun i hi=>by have:=hpin i hi; omega) (fun q hq=>mb_fin0 (by have:=hpin q (by simpa using hq); omega))
                simp only [List.append_assoc,List.nil_append,List.cons_append,cond_true,cond_false,bRow] at hb4
                refine ⟨⟨p + 1,_,_,by omega,hsn,rfl,hb4,by omega,fun i hi=>by rw [Abs.getD_append_left (by omega)]; exact (hfX i hi).trans (by simp)⟩,?_⟩
                simp only [intOf]; omega
              · have hst3 : ∀ Y : List Box,(X ++ Y).set j2 .dead = X.set j2 .dead ++ Y:=fun Y=>by rw [List.set_append_left _ _ hlj]
                have hlj3 : ∀ Y : List Box,j2 < (X ++ Y).length:=fun Y=>by simp; omega
                cases g with
                | false =>
                  have hb3 : ∀ Y,(X ++ Y).getD j2 .dead = .row 6 rows 0:=fun Y=>by rw [Abs.getD_append_left hlj]; exact hb2
                  refine .inr (drawE_intro [(false,0,2),(false,0,1),(false,0,1),(false,0,0),(true,0,0),(false,1,1),(true,1,1),(true,2,2),(false,3,3)] [X,X ++ P,X ++ (P ++ [.row 6 [[AV.str [],.str n,.int .i64 (toTy f).kind,.str (toTy f).mod,.str (toTy f).name,AV.slice []]] 0]),X.set j2 .dead ++ (P ++ [.row 6 [[AV.str [],.str n,.int .i64 (toTy f).kind,.str (toTy f).mod,.str (toTy f).name,AV.slice []]] 0,.row 6 (rows ++ [[AV.str [],.str n,.int .i64 (toTy f).kind,.str (toTy f).mod,.str (toTy f).name,AV.slice []]]) 0])] 3 rfl (by kernel_rfl) (by kernel_rfl) (by kernel_rfl) (by kernel_rfl) (by kernel_rfl) (by kernel_rfl) ?_)
                  simp only [zW,zX,zD,builtinA,isLeaf,const1,ustrA,simprocAttr,ti3,ti9,ti39,ti64,ti87,ti89,ti98,ca46,ca63,ca64,za89,cf,Tryz.results31,hbx2,hbX]
                  refine wpG_invoke _ _ _ _ _ _ _ _ _ _ _ _ _ _ _ _ _ _ ?_
                  simp only [zW,zX,zD,builtinA,isLeaf,const1,ustrA,simprocAttr,ti3,ti9,ti39,ti64,ti87,ti89,ti98,ca46,ca63,ca64,za89,cf,Tryz.results31]
                  refine meth_invE (met3 (by kernel_rfl) (by kernel_rfl) (by kernel_rfl) (by kernel_rfl) (by kernel_rfl) (by kernel_rfl)) hpl rfl ?_
                  simp only [zW,zX,zD,builtinA,isLeaf,const1,ustrA,simprocAttr,ti3,ti9,ti39,ti64,ti87,ti89,ti98,ca46,ca63,ca64,za89,cf,Tryz.results31,hbx2,hbX,hb3,hst3,hlj3]
                  have hrl8 : rows.length ≤ 8:=by have h1:=hO.length; have h2:=(mbO_ok hvh.2 hmb).1; simp at h2; omega
                  have lf : ∀ w ∈ [AV.str ([] : List UInt8),.str n,.int .i64 (toTy f).kind,.str (toTy f).mod,.str (toTy f).name,AV.slice []],isLeaf w = true:=by simp [isElem,isLeaf]
                  refine ⟨fun w hw=>lf w hw,⟨fun r hr=>by rw [List.mem_singleton.1 hr]; rfl,by omega⟩,?_⟩
                  simp only [zW,zX,zD,builtinA,isLeaf,const1,ustrA,simprocAttr,ti3,ti9,ti39,ti64,ti87,ti89,ti98,ca46,ca63,ca64,za89,cf,Tryz.results31,hi1,LoopK_eq]
                  have hb4:=bst_new (A0:=A ++ B) (b:=⟨[],n,toTy f⟩) (v:=(.slice [])) (g:=false) (Y:=X.set j2 .dead ++ (P ++ [.row 6 [[AV.str [],.str n,.int .i64 (toTy f).kind,.str (toTy f).mod,.str (toTy f).name,AV.slice []]] 0])) (N:=X.length + (P.length + 1)) hl0 (by omega) (by simp) hO (List.nodup_cons.1 hN).2 (fun i hi=>hge i (by simp [hi])) hK2 hpnd (fun i hi=>by have:=hpin i hi; omega) (fun q hq=>mb_fin1 (fun e=>?_) ?_)
                  · simp only [List.append_assoc,List.nil_append,List.cons_append,cond_true,cond_false,bRow] at hb4
                    have hj2:=hge j2 (by simp)
                    simp only [List.length_append] at hj2
                    refine ⟨⟨p + 1,_,_,by omega,hsn,rfl,hb4,by omega,fun i hi=>by rw [Abs.getD_append_left (by simp; omega),getD_set_ne' (by omega)]; exact (hfX i hi).trans (by simp)⟩,?_⟩
                    simp only [intOf]; omega
                  · rcases List.mem_append.1 hq with h | h
                    · subst e; exact (List.nodup_cons.1 hN).1 h
                    · have:=hpin q h; omega
                  · rcases List.mem_append.1 hq with h | h
                    · have:=hO.low q h; omega
                    · have:=hpin q h; omega
                | true =>
                  have hb3 : ∀ Y,(X ++ Y).getD j2 .dead = .gr none 6 rows:=fun Y=>by rw [Abs.getD_append_left hlj]; exact hb2
                  refine .inr (drawE_intro [(false,0,2),(false,0,1),(false,0,1),(false,0,0),(true,0,0),(false,1,1),(true,1,1),(true,2,2),(false,3,3)] [X,X ++ P,X ++ (P ++ [.row 6 [[AV.str [],.str n,.int .i64 (toTy f).kind,.str (toTy f).mod,.str (toTy f).name,AV.slice []]] 0]),X.set j2 .dead ++ (P ++ [.row 6 [[AV.str [],.str n,.int .i64 (toTy f).kind,.str (toTy f).mod,.str (toTy f).name,AV.slice []]] 0,.gr none 6 (rows ++ [[AV.str [],.str n,.int .i64 (toTy f).kind,.str (toTy f).mod,.str (toTy f).name,AV.slice []]])])] 3 rfl (by kernel_rfl) (by kernel_rfl) (by kernel_rfl) (by kernel_rfl) (by kernel_rfl) (by kernel_rfl) ?_)
                  simp only [zW,zX,zD,builtinA,isLeaf,const1,ustrA,simprocAttr,ti3,ti9,ti39,ti64,ti87,ti89,ti98,ca46,ca63,ca64,za89,cf,Tryz.results31,hbx2,hbX]
                  refine wpG_invoke _ _ _ _ _ _ _ _ _ _ _ _ _ _ _ _ _ _ ?_
                  simp only [zW,zX,zD,builtinA,isLeaf,const1,ustrA,simprocAttr,ti3,ti9,ti39,ti64,ti87,ti89,ti98,ca46,ca63,ca64,za89,cf,Tryz.results31]
                  refine meth_invE (met3 (by kernel_rfl) (by kernel_rfl) (by kernel_rfl) (by kernel_rfl) (by kernel_rfl) (by kernel_rfl)) hpl rfl ?_
                  simp only [zW,zX,zD,builtinA,isLeaf,const1,ustrA,simprocAttr,ti3,ti9,ti39,ti64,ti87,ti89,ti98,ca46,ca63,ca64,za89,cf,Tryz.results31,hbx2,hbX,hb3,hst3,hlj3]
                  have hrl8 : rows.length ≤ 8:=by have h1:=hO.length; have h2:=(mbO_ok hvh.2 hmb).1; simp at h2; omega
                  have lf : ∀ w ∈ [AV.str ([] : List UInt8),.str n,.int .i64 (toTy f).kind,.str (toTy f).mod,.str (toTy f).name,AV.slice []],isLeaf w = true:=by simp [isElem,isLeaf]
                  refine ⟨fun w hw=>lf w hw,⟨fun _=>trivial,fun r hr=>by rw [List.mem_singleton.1 hr]; rfl,by omega⟩,?_⟩
                  simp only [zW,zX,zD,builtinA,isLeaf,const1,ustrA,simprocAttr,ti3,ti9,ti39,ti64,ti87,ti89,ti98,ca46,ca63,ca64,za89,cf,Tryz.results31,hi1,LoopK_eq]
                  have hb4:=bst_new (A0:=A ++ B) (b:=⟨[],n,toTy f⟩) (v:=(.slice [])) (g:=true) (Y:=X.set j2 .dead ++ (P ++ [.row 6 [[AV.str [],.str n,.int .i64 (toTy f).kind,.str (toTy f).mod,.str (toTy f).name,AV.slice []]] 0])) (N:=X.length + (P.length + 1)) hl0 (by omega) (by simp) hO (List.nodup_cons.1 hN).2 (fun i hi=>hge i (by simp [hi])) hK2 hpnd (fun i hi=>by have:=hpin i hi; omega) (fun q hq=>mb_fin1 (fun e=>?_) ?_)
                  · simp only [List.append_assoc,List.nil_append,List.cons_append,cond_true,cond_false,bRow] at hb4
                    have hj2:=hge j2 (by simp)
                    simp only [List.length_append] at hj2
                    refine ⟨⟨p + 1,_,_,by omega,hsn,rfl,hb4,by omega,fun i hi=>by rw [Abs.getD_append_left (by simp; omega),getD_set_ne' (by omega)]; exact (hfX i hi).trans (by simp)⟩,?_⟩
                    simp only [intOf]; omega
                  · rcases List.mem_append.1 hq with h | h
                    · subst e; exact (List.nodup_cons.1 hN).1 h
                    · have:=hpin q h; omega
                  · rcases List.mem_append.1 hq with h | h
                    · have:=hO.low q h; omega
                    · have:=hpin q h; omega
            · obtain ⟨rws,hgv⟩ : ∃ rws,(X ++ P).getD iv .dead = .gr none 4 rws:=by
                rcases hK with ⟨h0,_⟩ | ⟨h0,_⟩ | ⟨i',rws,_,h0,_,hg,_⟩
                · cases h0
                · cases h0
                · cases h0; exact ⟨rws,hg⟩
              rcases hB2 with ⟨rfl,rfl⟩ | ⟨j2,rows,S,g,rfl,hb2,hO,hN,hge,hlj⟩
              · refine .inr (drawE_intro [(false,0,2),(false,0,1),(false,0,1),(false,0,0),(true,0,0),(false,1,1),(true,1,1),(true,2,2),(false,3,3)] [X,X ++ P,X ++ (P ++ [.gr none 6 [[AV.str [],.str n,.int .i64 (toTy f).kind,.str (toTy f).mod,.str (toTy f).name,AV.own iv]]]),X ++ (P ++ [.gr none 6 [[AV.str [],.str n,.int .i64 (toTy f).kind,.str (toTy f).mod,.str (toTy f).name,AV.own iv]],.gr none 6 [[AV.str [],.str n,.int .i64 (toTy f).kind,.str (toTy f).mod,.str (toTy f).name,AV.own iv]]])] 3 rfl (by kernel_rfl) (by kernel_rfl) (by kernel_rfl) (by kernel_rfl) (by kernel_rfl) (by kernel_rfl) ?_)
                simp only [zW,zX,zD,builtinA,isLeaf,const1,ustrA,simprocAttr,ti3,ti9,ti39,ti64,ti87,ti89,ti98,ca46,ca63,ca64,za89,cf,Tryz.results31,hbx2,hbX]
                refine wpG_invoke _ _ _ _ _ _ _ _ _ _ _ _ _ _ _ _ _ _ ?_
                simp only [zW,zX,zD,builtinA,isLeaf,const1,ustrA,simprocAttr,ti3,ti9,ti39,ti64,ti87,ti89,ti98,ca46,ca63,ca64,za89,cf,Tryz.results31]
                refine meth_invE (met3 (by kernel_rfl) (by kernel_rfl) (by kernel_rfl) (by kernel_rfl) (by kernel_rfl) (by kernel_rfl)) hpl rfl ?_
                simp only [zW,zX,zD,builtinA,isLeaf,const1,ustrA,simprocAttr,ti3,ti9,ti39,ti64,ti87,ti89,ti98,ca46,ca63,ca64,za89,cf,Tryz.results31,hbx2,hbX,hgv]
                have el : ∀ w ∈ [AV.str ([] : List UInt8),.str n,.int .i64 (toTy f).kind,.str (toTy f).mod,.str (toTy f).name,AV.own iv],isElem w = true:=by simp [isElem,isLeaf]
                refine ⟨fun w hw=>el w hw,?_⟩
                simp only [zW,zX,zD,builtinA,isLeaf,const1,ustrA,simprocAttr,ti3,ti9,ti39,ti64,ti87,ti89,ti98,ca46,ca63,ca64,za89,cf,Tryz.results31,hi1,LoopK_eq]
                have hb4:=bst_new (A0:=A ++ B) (b:=⟨[],n,toTy f⟩) (v:=(.own iv)) (g:=true) (rows:=[]) (S:=[]) (Y:=X ++ (P ++ [.gr none 6 [[AV.str [],.str n,.int .i64 (toTy f).kind,.str (toTy f).mod,.str (toTy f).name,AV.own iv]]])) (N:=X.length + (P.length + 1)) hl0 (by omega) (by simp) (bs:=[]) (by simp [OwnB]) (by simp) (by simp) hK hpnd (fun i hi=>by have:=hpin i hi; omega) (fun q hq=>mb_fin0 (by have:=hpin q (by simpa using hq); omega))
                simp only [List.append_assoc,List.nil_append,List.cons_append,cond_true,cond_false,bRow] at hb4
                refine ⟨⟨p + 1,_,_,by omega,hsn,rfl,hb4,by omega,fun i hi=>by rw [Abs.getD_append_left (by omega)]; exact (hfX i hi).trans (by simp)⟩,?_⟩
                simp only [intOf]; omega
              · have hst3 : ∀ Y : List Box,(X ++ Y).set j2 .dead = X.set j2 .dead ++ Y:=fun Y=>by rw [List.set_append_left _ _ hlj]
                have hlj3 : ∀ Y : List Box,j2 < (X ++ Y).length:=fun Y=>by simp; omega
                cases g with
                | false =>
                  have hb3 : ∀ Y,(X ++ Y).getD j2 .dead = .row 6 rows 0:=fun Y=>by rw [Abs.getD_append_left hlj]; exact hb2
                  refine .inr (drawE_intro [(false,0,2),(false,0,1),(false,0,1),(false,0,0),(true,0,0),(false,1,1),(true,1,1),(true,2,2),(false,3,3)] [X,X ++ P,X ++ (P ++ [.gr none 6 [[AV.str [],.str n,.int .i64 (toTy f).kind,.str (toTy f).mod,.str (toTy f).name,AV.own iv]]]),X.set j2 .dead ++ (P ++ [.gr none 6 [[AV.str [],.str n,.int .i64 (toTy f).kind,.str (toTy f).mod,.str (toTy f).name,AV.own iv]],.gr none 6 (rows ++ [[AV.str [],.str n,.int .i64 (toTy f).kind,.str (toTy f).mod,.str (toTy f).name,AV.own iv]])])] 3 rfl (by kernel_rfl) (by kernel_rfl) (by kernel_rfl) (by kernel_rfl) (by kernel_rfl) (by kernel_rfl) ?_)
                  simp only [zW,zX,zD,builtinA,isLeaf,const1,ustrA,simprocAttr,ti3,ti9,ti39,ti64,ti87,ti89,ti98,ca46,ca63,ca64,za89,cf,Tryz.results31,hbx2,hbX]
                  refine wpG_invoke _ _ _ _ _ _ _ _ _ _ _ _ _ _ _ _ _ _ ?_
                  simp only [zW,zX,zD,builtinA,isLeaf,const1,ustrA,simprocAttr,ti3,ti9,ti39,ti64,ti87,ti89,ti98,ca46,ca63,ca64,za89,cf,Tryz.results31]
                  refine meth_invE (met3 (by kernel_rfl) (by kernel_rfl) (by kernel_rfl) (by kernel_rfl) (by kernel_rfl) (by kernel_rfl)) hpl rfl ?_
                  simp only [zW,zX,zD,builtinA,isLeaf,const1,ustrA,simprocAttr,ti3,ti9,ti39,ti64,ti87,ti89,ti98,ca46,ca63,ca64,za89,cf,Tryz.results31,hbx2,hbX,hb3,hst3,hlj3,hgv]
                  have hrl8 : rows.length ≤ 8:=by have h1:=hO.length; have h2:=(mbO_ok hvh.2 hmb).1; simp at h2; omega
                  have el : ∀ w ∈ [AV.str ([] : List UInt8),.str n,.int .i64 (toTy f).kind,.str (toTy f).mod,.str (toTy f).name,AV.own iv],isElem w = true:=by simp [isElem,isLeaf]
                  refine ⟨fun w hw=>el w hw,by omega,?_⟩
                  simp only [zW,zX,zD,builtinA,isLeaf,const1,ustrA,simprocAttr,ti3,ti9,ti39,ti64,ti87,ti89,ti98,ca46,ca63,ca64,za89,cf,Tryz.results31,hi1,LoopK_eq]
                  have hb4:=bst_new (A0:=A ++ B) (b:=⟨[],n,toTy f⟩) (v:=(.own iv)) (g:=true) (Y:=X.set j2 .dead ++ (P ++ [.gr none 6 [[AV.str [],.str n,.int .i64 (toTy f).kind,.str (toTy f).mod,.str (toTy f).name,AV.own iv]]])) (N:=X.length + (P.length + 1)) hl0 (by omega) (by simp) hO (List.nodup_cons.1 hN).2 (fun i hi=>hge i (by simp [hi])) hK hpnd (fun i hi=>by have:=hpin i hi; omega) (fun q hq=>mb_fin1 (fun e=>?_) ?_)
                  · simp only [List.append_assoc,List.nil_append,List.cons_append,cond_true,cond_false,bRow] at hb4
                    have hj2:=hge j2 (by simp)
                    simp only [List.length_append] at hj2
                    refine ⟨⟨p + 1,_,_,by omega,hsn,rfl,hb4,by omega,fun i hi=>by rw [Abs.getD_append_left (by simp; omega),getD_set_ne' (by omega)]; exact (hfX i hi).trans (by simp)⟩,?_⟩
                    simp only [intOf]; omega
                  · rcases List.mem_append.1 hq with h | h
                    · subst e; exact (List.nodup_cons.1 hN).1 h
                    · have:=hpin q h; omega
                  · rcases List.mem_append.1 hq with h | h
                    · have:=hO.low q h; omega
                    · have:=hpin q h; omega
                | true =>
                  have hb3 : ∀ Y,(X ++ Y).getD j2 .dead = .gr none 6 rows:=fun Y=>by rw [Abs.getD_append_left hlj]; exact hb2
                  refine .inr (drawE_intro [(false,0,2),(false,0,1),(false,0,1),(false,0,0),(true,0,0),(false,1,1),(true,1,1),(true,2,2),(false,3,3)] [X,X ++ P,X ++ (P ++ [.gr none 6 [[AV.str [],.str n,.int .i64 (toTy f).kind,.str (toTy f).mod,.str (toTy f).name,AV.own iv]]]),X.set j2 .dead ++ (P ++ [.gr none 6 [[AV.str [],.str n,.int .i64 (toTy f).kind,.str (toTy f).mod,.str (toTy f).name,AV.own iv]],.gr none 6 (rows ++ [[AV.str [],.str n,.int .i64 (toTy f).kind,.str (toTy f).mod,.str (toTy f).name,AV.own iv]])])] 3 rfl (by kernel_rfl) (by kernel_rfl) (by kernel_rfl) (by kernel_rfl) (by kernel_rfl) (by kernel_rfl) ?_)
                  simp only [zW,zX,zD,builtinA,isLeaf,const1,ustrA,simprocAttr,ti3,ti9,ti39,ti64,ti87,ti89,ti98,ca46,ca63,ca64,za89,cf,Tryz.results31,hbx2,hbX]
                  refine wpG_invoke _ _ _ _ _ _ _ _ _ _ _ _ _ _ _ _ _ _ ?_
                  simp only [zW,zX,zD,builtinA,isLeaf,const1,ustrA,simprocAttr,ti3,ti9,ti39,ti64,ti87,ti89,ti98,ca46,ca63,ca64,za89,cf,Tryz.results31]
                  refine meth_invE (met3 (by kernel_rfl) (by kernel_rfl) (by kernel_rfl) (by kernel_rfl) (by kernel_rfl) (by kernel_rfl)) hpl rfl ?_
                  simp only [zW,zX,zD,builtinA,isLeaf,const1,ustrA,simprocAttr,ti3,ti9,ti39,ti64,ti87,ti89,ti98,ca46,ca63,ca64,za89,cf,Tryz.results31,hbx2,hbX,hb3,hst3,hlj3,hgv]
                  have hrl8 : rows.length ≤ 8:=by have h1:=hO.length; have h2:=(mbO_ok hvh.2 hmb).1; simp at h2; omega
                  have el : ∀ w ∈ [AV.str ([] : List UInt8),.str n,.int .i64 (toTy f).kind,.str (toTy f).mod,.str (toTy f).name,AV.own iv],isElem w = true:=by simp [isElem,isLeaf]
                  refine ⟨fun w hw=>el w hw,by omega,?_⟩
                  simp only [zW,zX,zD,builtinA,isLeaf,const1,ustrA,simprocAttr,ti3,ti9,ti39,ti64,ti87,ti89,ti98,ca46,ca63,ca64,za89,cf,Tryz.results31,hi1,LoopK_eq]
                  have hb4:=bst_new (A0:=A ++ B) (b:=⟨[],n,toTy f⟩) (v:=(.own iv)) (g:=true) (Y:=X.set j2 .dead ++ (P ++ [.gr none 6 [[AV.str [],.str n,.int .i64 (toTy f).kind,.str (toTy f).mod,.str (toTy f).name,AV.own iv]]])) (N:=X.length + (P.length + 1)) hl0 (by omega) (by simp) hO (List.nodup_cons.1 hN).2 (fun i hi=>hge i (by simp [hi])) hK hpnd (fun i hi=>by have:=hpin i hi; omega) (fun q hq=>mb_fin1 (fun e=>?_) ?_)
                  · simp only [List.append_assoc,List.nil_append,List.cons_append,cond_true,cond_false,bRow] at hb4
                    have hj2:=hge j2 (by simp)
                    simp only [List.length_append] at hj2
                    refine ⟨⟨p + 1,_,_,by omega,hsn,rfl,hb4,by omega,fun i hi=>by rw [Abs.getD_append_left (by simp; omega),getD_set_ne' (by omega)]; exact (hfX i hi).trans (by simp)⟩,?_⟩
                    simp only [intOf]; omega
                  · rcases List.mem_append.1 hq with h | h
                    · subst e; exact (List.nodup_cons.1 hN).1 h
                    · have:=hpin q h; omega
                  · rcases List.mem_append.1 hq with h | h
                    · have:=hO.low q h; omega
                    · have:=hpin q h; omega
        | al n w =>
          have has:=fun A=>assert_no [.str []] 162 89 (.agg [.str n,.iface (vT w) (vX w)]) rfl (A:=A)
          have hz : mbO hs [absO (.al n w)] = some []:=rfl
          rw [hz] at hsn
          simp only [Option.map_some,List.append_nil] at hsn
          simp only [viT,viX] at he
          simp only [zW,zX,zD,builtinA,isLeaf,const1,ustrA,simprocAttr,ti3,ti9,ti39,ti64,ti87,ti89,ti98,ca46,ca63,ca64,za89,cf,Tryz.results31,hgk3,vRows_length,d2,he]
          refine ⟨pp,?_⟩
          simp only [zW,zX,zD,builtinA,isLeaf,const1,ustrA,simprocAttr,ti3,ti9,ti39,ti64,ti87,ti89,ti98,ca46,ca63,ca64,za89,cf,Tryz.results31,wpO_typeAssert,has,hi1,LoopK_eq]
          refine ⟨⟨p + 1,bs,v,by omega,hsn,rfl,hB.frame (by simp) fun i hi=>Abs.getD_append_left hi,by simp at hl ⊢; omega,fun i hi=>by rw [Abs.getD_append_left (by simp at hl; omega)]; exact hf i (by simpa using hi)⟩,?_⟩
          simp only [intOf]; omega
        | va n w =>
          have has:=fun A=>assert_no [.str []] 189 89 (.agg [.str n,.iface (vT w) (vX w)]) rfl (A:=A)
          have hz : mbO hs [absO (.va n w)] = some []:=rfl
          rw [hz] at hsn
          simp only [Option.map_some,List.append_nil] at hsn
          simp only [viT,viX] at he
          simp only [zW,zX,zD,builtinA,isLeaf,const1,ustrA,simprocAttr,ti3,ti9,ti39,ti64,ti87,ti89,ti98,ca46,ca63,ca64,za89,cf,Tryz.results31,hgk3,vRows_length,d2,he]
          refine ⟨pp,?_⟩
          simp only [zW,zX,zD,builtinA,isLeaf,const1,ustrA,simprocAttr,ti3,ti9,ti39,ti64,ti87,ti89,ti98,ca46,ca63,ca64,za89,cf,Tryz.results31,wpO_typeAssert,has,hi1,LoopK_eq]
          refine ⟨⟨p + 1,bs,v,by omega,hsn,rfl,hB.frame (by simp) fun i hi=>Abs.getD_append_left hi,by simp at hl ⊢; omega,fun i hi=>by rw [Abs.getD_append_left (by simp at hl; omega)]; exact hf i (by simpa using hi)⟩,?_⟩
          simp only [intOf]; omega
      · have d2 : decide ((p : Int) < (ws.length : Int)) = false:=by simp; omega
        have e : p = ws.length:=by omega
        subst e
        rw [List.take_of_length_le (by simp)] at hmb
        have hlt : A.length ≤ A'.length:=by simp at hl; omega
        have hfr : ∀ i,i < A.length → A'.getD i .dead = A.getD i .dead:=fun i hi=>by rw [hf i (by simp; omega),Abs.getD_append_left hi]
        simp only [zW,zX,zD,builtinA,isLeaf,const1,ustrA,simprocAttr,ti3,ti9,ti39,ti64,ti87,ti89,ti98,ca46,ca63,ca64,za89,cf,Tryz.results31,d2]
        rcases hB with ⟨rfl,rfl⟩ | ⟨j2,rows,S,g,rfl,hb2,hO,hN,hge,hlj⟩
        · exact .inl ⟨some [],hmO hmb,_,[],rfl,.inl ⟨rfl,rfl,rfl⟩,by simp,by simp,hlt,hfr⟩
        · have hge2 : ∀ i ∈ j2 :: S,A.length ≤ i:=fun i hi=>by have:=hge i hi; simp at this; omega
          cases g with
          | true=>exact .inl ⟨some bs,hmO hmb,_,j2 :: S,rfl,.inr ⟨j2,rows,S,rfl,rfl,hb2,hO⟩,hN,hge2,hlt,hfr⟩
          | false =>
            have hnj:=(List.nodup_cons.1 hN).1
            refine .inr ⟨j2,6,rows,hb2,some bs,hmO hmb,_,j2 :: S,rfl,.inr ⟨j2,rows,S,rfl,rfl,getD_set_self hlj,hO.frame fun i hi=>?_⟩,hN,hge2,by simpa using hlt,fun i hi=>?_⟩
            · rw [getD_set_ne' (fun e=>hnj (by rw [e]; exact hi))]
            · have:=hge2 j2 (by simp)
              rw [getD_set_ne' (by omega)]; exact hfr i hi
  · have hc0 : decide (c = 0) = false:=decide_eq_false (by rcases hc with ⟨rfl,_⟩ | ⟨rfl,_⟩ <;> decide)
    simp only [zW,zX,zD,builtinA,isLeaf,const1,ustrA,simprocAttr,ti3,ti9,ti39,ti64,ti87,ti89,ti98,ca46,ca63,ca64,za89,cf,Tryz.results31,hc0]
    exact .inl ⟨none,.inr ⟨hn,rfl⟩,_,[],rfl,.inl ⟨rfl,rfl,rfl⟩,by simp,by simp,by simp,fun i hi=>Abs.getD_append_left hi⟩
end Go.Proofs.YtkajklfohjcofaaGreatDoor
/- Bindings that are handed back in memory of their own. -/
set_option linter.unusedVariables false
set_option linter.unusedSimpArgs false
namespace Go.Proofs.YtkajklfohjcofaaGreatDoor
open Go.Abs
theorem OwnMb.frame {A A' : List Box} {xs : List BdI} {v : AV} {S : List Nat} (h : OwnMb A xs v S) (hf : ∀ i ∈ S,A'.getD i .dead = A.getD i .dead) : OwnMb A' xs v S:=by
  rcases h with h | ⟨i,rows,S',h1,h2,h3,h4⟩
  · exact .inl h
  · subst h2
    exact .inr ⟨i,rows,S',h1,rfl,by rw [hf i (by simp)]; exact h3,h4.frame fun j hj=>hf j (by simp [hj])⟩
theorem OwnMb.low {A : List Box} {xs : List BdI} {v : AV} {S : List Nat} (h : OwnMb A xs v S) : ∀ i ∈ S,i < A.length:=by
  rcases h with ⟨_,_,rfl⟩ | ⟨i,rows,S',h1,rfl,h3,h4⟩
  · simp
  · intro j hj
    rcases List.mem_cons.1 hj with rfl | hj
    · exact live_lt h3 (by simp)
    · exact h4.low j hj
theorem OwnMb.view {A : List Box} {xs : List BdI} {v : AV} {S : List Nat} (h : OwnMb A xs v S) : View A v (.slice (bEs xs)):=by
  rcases h with ⟨rfl,rfl,_⟩ | ⟨i,rows,S',rfl,_,h3,h4⟩
  · exact .nils
  · exact OwnB.viewB h3 h4
theorem OwnB.free {A : List Box} : ∀ {xs : List BdI} {rows : List (List AV)} {S : List Nat},OwnB A xs rows S → rows.all ifrees = true ∧ ∀ i ∈ S,ifreeB (A.getD i .dead) = true
  | [],rows,S,h=>by rw [OwnB] at h; rw [h.1,h.2]; exact ⟨rfl,by simp⟩
  | t :: ks,rows,S,h=>by
    rw [OwnB] at h
    obtain ⟨v,rows',S1,S2,rfl,rfl,h3,h4⟩:=h
    have a:=h3.free
    have b:=OwnB.free h4
    refine ⟨by rw [List.all_cons,b.1]; simp [bRow,ifrees,ifree,a.1],fun j hj=>?_⟩
    rcases List.mem_append.1 hj with hj | hj
    · exact a.2 j hj
    · exact b.2 j hj
theorem OwnMb.free {A : List Box} {xs : List BdI} {v : AV} {S : List Nat} (h : OwnMb A xs v S) : ifree v = true ∧ ∀ i ∈ S,ifreeB (A.getD i .dead) = true:=by
  rcases h with ⟨rfl,_,rfl⟩ | ⟨i,rows,S',rfl,rfl,h3,h4⟩
  · exact ⟨rfl,by simp⟩
  · refine ⟨rfl,fun j hj=>?_⟩
    have h5:=h4.free
    rcases List.mem_cons.1 hj with rfl | hj
    · rw [h3]; exact h5.1
    · exact h5.2 j hj
def MbNew (A : List Box) (xs : List BdI) (ok : Bool) (r : AV) (A' : List Box) : Prop :=
  ∃ B v S,A' = A ++ B ∧ (∀ b ∈ B,ifreeB b = true) ∧ r = .tuple [v,.bool ok] ∧ ifree v = true ∧ OwnMb A' xs v S ∧ S.Nodup ∧ ∀ i ∈ S,A.length ≤ i ∧ i < A'.length
theorem mbNew_of {A A' : List Box} {xs : List BdI} {ok : Bool} {r : AV} (h : MbOut A xs ok r A') : ∃ keep,MbNew A xs ok r (only keep A'):=by
  obtain ⟨v,S,rfl,hT,hN,hge,hl,hf⟩:=h
  refine ⟨fun k=>decide (k < A.length) || decide (k ∈ S),?_⟩
  have hfree:=hT.free
  have hlow:=hT.low
  generalize hkp : (fun k=>decide (k < A.length) || decide (k ∈ S)) = keep
  have k1 : ∀ k,k < A.length → keep k = true:=fun k hk=>by rw [← hkp]; simp [hk]
  have k2 : ∀ k,k ∈ S → keep k = true:=fun k hk=>by rw [← hkp]; simp [hk]
  have k3 : ∀ k,A.length ≤ k → keep k = true → k ∈ S:=fun k h1 h2=>by
    rw [← hkp] at h2
    simp at h2
    rcases h2 with h2 | h2
    · omega
    · exact h2
  have e:=split_front (A:=A) (A':=only keep A') (by rw [only_length]; exact hl) (fun k hk=>by rw [only_getD,if_pos (k1 k hk)]; exact hf k hk)
  refine ⟨_,v,S,e,fun b hb=>?_,rfl,hfree.1,hT.frame fun i hi=>by rw [only_getD,if_pos (k2 i hi)],hN,fun i hi=>⟨hge i hi,by rw [only_length]; exact hlow i hi⟩⟩
  obtain ⟨i,hi,rfl⟩:=List.mem_iff_getElem.1 hb
  rw [List.getElem_drop]
  have hi2 : A.length + i < (only keep A').length:=by simp at hi; omega
  have e2 : (only keep A')[A.length + i] = (only keep A').getD (A.length + i) .dead:=by simp [List.getD,hi2]
  rw [e2,only_getD]
  split
  · rename_i hk; exact hfree.2 _ (k3 _ (by omega) hk)
  · rfl
theorem mb_call {f : FuncId} {args : List AV} {xs : List BdI} {ok : Bool} (h : ∀ A,ACalls Tryz.prog f args A (fun r A'=>MbOut A xs ok r A')) (A : List Box) : ACalls Tryz.prog f args A (MbNew A xs ok) :=
  ACalls.only ((h A).mono fun r A' h=>mbNew_of h)
end Go.Proofs.YtkajklfohjcofaaGreatDoor
/- Whether both signatures have a normal form, by the model. -/
set_option linter.unusedVariables false
set_option linter.unusedSimpArgs false
namespace Go.Proofs.YtkajklfohjcofaaGreatDoor
open Go.Abs
set_option maxRecDepth 100000 in
theorem spec_l3Normal (a b : List SigI) (ha : a.length ≤ 1048576) (hoa : ∀ x ∈ a,x.Ok ∧ sz x.typ ≤ 1048576) (hb : b.length ≤ 1048576) (hob : ∀ x ∈ b,x.Ok ∧ sz x.typ ≤ 1048576) (A : List Box) :
    ACalls Tryz.prog 50 [.slice (sEs a),.slice (sEs b)] A (fun r A'=>(∃ oa ob,RdN a oa ∧ RdN b ob ∧ r = .bool (oa.isSome && ob.isSome)) ∧ A' = A):=by
  refine acalls_enter (cf:=cf 23 [0,1,4,6,8]) foll Tryz.func50 Tryz.ntmps50 (by simp [cf]) ?_
  simp only [Tryz.f50,EnterK_some,zW,zX,zD,builtinA,isLeaf,const1,ustrA,simprocAttr,ca86,cf,Tryz.results50]
  refine callO_intro (spec_NormalSig a ha hoa _) ?_
  rintro r A' ⟨oa,h1,rfl,hA⟩
  have hA:=hA.symm
  subst hA
  have e : ∀ o,∃ s,nrR o = .tuple [.slice s,.bool o.isSome]:=fun o=>by cases o <;> exact ⟨_,rfl⟩
  obtain ⟨sa,ea⟩:=e oa
  rw [ea]
  simp only [zW,zX,zD,builtinA,isLeaf,const1,ustrA,simprocAttr,ca86,cf,Tryz.results50]
  refine callO_intro (spec_NormalSig b hb hob _) ?_
  rintro r A' ⟨ob,h2,rfl,hA⟩
  have hA:=hA.symm
  subst hA
  obtain ⟨sb,eb⟩:=e ob
  rw [eb]
  cases hq : oa.isSome with
  | true =>
    simp only [zW,zX,zD,builtinA,isLeaf,const1,ustrA,simprocAttr,ca86,cf,Tryz.results50]
    exact ⟨oa,ob,h1,h2,by rw [hq]; simp⟩
  | false =>
    simp only [zW,zX,zD,builtinA,isLeaf,const1,ustrA,simprocAttr,ca86,cf,Tryz.results50]
    exact ⟨oa,ob,h1,h2,by rw [hq]; simp⟩
theorem bE_ty (n : List UInt8) (f : VT) : bE ⟨[],n,toTy f⟩ = .str [] :: .str n :: enc (toTy f):=by rw [bT4 (toTy f)]; rfl
end Go.Proofs.YtkajklfohjcofaaGreatDoor
/- The model's MatchBinds. -/
set_option linter.unusedVariables false
set_option linter.unusedSimpArgs false
namespace Go.Proofs.YtkajklfohjcofaaGreatDoor
open Go.Abs
set_option maxRecDepth 100000 in
set_option maxHeartbeats 4000000 in
theorem spec_l3Binds (a b : List SigI) (hs ys : List VI) (ha : a.length ≤ 1048576) (hoa : ∀ x ∈ a,x.Ok ∧ sz x.typ ≤ 1048576) (hra : RdN a (some hs)) (hb8 : b.length ≤ 8) (hr : ReadsTo b ys) (A : List Box) :
    ACalls Tryz.prog 65 [.slice (sEs a),.slice (sEs b)] A (fun r A'=>∃ B j,A' = A ++ B ∧ r = .tuple [.own (A.length + j),.bool (mbO hs (ys.map absO)).isSome] ∧ j < B.length ∧ B.getD j .dead = .row 6 (bEs ((mbO hs (ys.map absO)).getD [])) 0):=by
  have hyl:=hr.1
  have hvh:=rdN_vok hra
  refine acalls_enterK (cf:=cf 47 [0,1,4,5,6,7,8,9,14,22,34]) foll Tryz.func65 Tryz.ntmps65 (by simp [cf]) ?_
  simp only [Tryz.f65,EnterK_some,zW,zX,zD,builtinA,isLeaf,const1,ustrA,simprocAttr,ti3,ti9,ti25,ti39,ti45,ti49,ti98,ca103,cf,Tryz.results65]
  refine aloop_intro [0,1,6,7] (fun e A'=>∃ i bs j B,i ≤ b.length ∧ mbO hs ((ys.map absO).take i) = some bs ∧ e = [(0,.slice (sEs a)),(1,.slice (sEs b)),(6,.own (A.length + j)),(7,.int .i64 i)] ∧ A' = A ++ B ∧ j < B.length ∧ B.getD j .dead = .row 6 (bEs bs) 0) (fun e _=>b.length - (intOf (Abs.look 7 e)).toNat) ?_ ?_
  · simp only [zW,zX,zD,builtinA,isLeaf,const1,ustrA,simprocAttr,ti3,ti9,ti25,ti39,ti45,ti49,ti98,ca103,cf,Tryz.results65]
    exact ⟨0,[],0,[.row 6 [] 0],by omega,by simp [mbO],rfl,rfl,by simp,rfl⟩
  · rintro e A' ⟨i,bs,j,B,hi,hmb,rfl,rfl,hj,hg⟩
    simp only [zW,zX,zD,builtinA,isLeaf,const1,ustrA,simprocAttr,ti3,ti9,ti25,ti39,ti45,ti49,ti98,ca103,cf,Tryz.results65,sEs_length]
    refine condK_intro (fun h2=>?_) (fun h2=>?_)
    · have hi2 : i < b.length:=by simpa using h2
      have hi1 : IntKind.i64.wrap ((i : Int) + 1) = ((i + 1 : Nat) : Int):=by rw [wrap64 (by omega) (by omega)]; rfl
      have pi : (0 : Int) ≤ (i : Int) ∧ (i : Int) < (b.length : Int):=⟨by omega,by omega⟩
      have he:=sEs_getD hi2
      have hsi:=itemOf_si (hr.2 i hi2).2
      have hsn:=mbO_snoc hs (l:=ys.map absO) (i:=i) (by simp; omega) hmb
      have hfl:=mbO_fail hs (l:=ys.map absO) (i:=i) (by simp; omega)
      have hgo : (ys.map absO).getD i none = absO (ys.getD i vi0):=by simp [List.getD,show i < ys.length by omega]
      have hbl : bs.length ≤ 8:=by have h2:=(mbO_ok hvh.2 hmb).1; simp at h2; omega
      rw [hgo] at hsn hfl
      rw [hsi] at he
      generalize ys.getD i vi0 = y at *
      cases y with
      | ab n =>
        have hmk : ∀ f,findF hs (false,n) = some f → mbO hs [absO (.ab n)] = some [⟨[],n,toTy f⟩]:=fun f h=>by simp only [absO,mbO,h]; rfl
        have hmn : findF hs (false,n) = none → mbO hs [absO (.ab n)] = none:=fun h=>by simp only [absO,mbO,h]
        simp only [siOf,sE] at he
        simp only [zW,zX,zD,builtinA,isLeaf,const1,ustrA,simprocAttr,ti3,ti9,ti25,ti39,ti45,ti49,ti98,ca103,cf,Tryz.results65,he,sEs_length,enc_length]
        refine ⟨pi,pi,?_⟩
        refine callO_intro (spec_FindType a ha hoa n _) ?_
        rintro r A' ⟨o,hm,rfl,hA⟩
        subst hA
        have ho:=meanIs_find hra hm
        subst ho
        cases hf : findF hs (false,n) with
        | none =>
          have hz:=hfl (hmn hf)
          simp only [zW,zX,zD,builtinA,isLeaf,const1,ustrA,simprocAttr,ti3,ti9,ti25,ti39,ti45,ti49,ti98,ca103,cf,Tryz.results65,hf,enc_length,enc_take]
          rw [hz]
          exact ⟨_,B.length + 1,rfl,rfl,by simp,by simp [List.getD,bEs]⟩
        | some f =>
          have hmf:=hmk f hf
          rw [hmf] at hsn
          simp only [Option.map_some] at hsn
          have hR:=bE_ty n f
          have hgX : ∀ Y,(B ++ Y).getD j .dead = .row 6 (bEs bs) 0:=fun Y=>by rw [Abs.getD_append_left hj]; exact hg
          have hsX : ∀ Y : List Box,(B ++ Y).set j .dead = B.set j .dead ++ Y:=fun Y=>by rw [List.set_append_left _ _ hj]
          have hjX : ∀ n,j < B.length + n:=fun n=>by omega
          simp only [zW,zX,zD,builtinA,isLeaf,const1,ustrA,simprocAttr,ti3,ti9,ti25,ti39,ti45,ti49,ti98,ca103,cf,Tryz.results65,hf,oTyS,enc_length,enc_take]
          refine .inr (drawE_intro [(false,0,1),(false,0,0),(false,0,0),(false,0,0),(false,0,0),(false,0,0),(false,0,0),(false,0,0),(true,0,0),(true,1,1),(false,2,2)] [A ++ (B ++ [.cells (enc (toTy f))]),A ++ (B ++ [.cells (enc (toTy f)),.row 6 [.str [] :: .str n :: enc (toTy f)] 0]),A ++ (B.set j .dead ++ [.cells (enc (toTy f)),.row 6 [.str [] :: .str n :: enc (toTy f)] 0,.row 6 (bEs bs ++ [.str [] :: .str n :: enc (toTy f)]) 0])] 2 rfl (by kernel_rfl) (by kernel_rfl) (by kernel_rfl) (by kernel_rfl) (by kernel_rfl) (by kernel_rfl) ?_)
          simp only [zW,zX,zD,builtinA,isLeaf,const1,ustrA,simprocAttr,ti3,ti9,ti25,ti39,ti45,ti49,ti98,ca103,cf,Tryz.results65,he,hgX,hsX,hjX,sEs_length,enc_length,enc_take,sub_drop,frzL_enc,sub_closed,Option.map_some]
          have hlf : ∀ w ∈ AV.str [] :: .str n :: enc (toTy f),isLeaf w = true:=by rw [← hR]; exact bE_leaf _
          have hrs : bEs bs ++ [.str [] :: .str n :: enc (toTy f)] = bEs (bs ++ [⟨[],n,toTy f⟩]):=by rw [← hR]; simp [bEs]
          refine ⟨pi,fun w hw=>hlf w hw,⟨fun r hr=>by rw [List.mem_singleton.1 hr]; simp [enc_length],by rw [bEs_length]; omega⟩,?_⟩
          simp only [zW,zX,zD,builtinA,isLeaf,const1,ustrA,simprocAttr,ti3,ti9,ti25,ti39,ti45,ti49,ti98,ca103,cf,Tryz.results65,hi1,LoopK_eq]
          refine ⟨⟨i + 1,_,B.length + 2,_,by omega,hsn,rfl,rfl,by simp,?_⟩,?_⟩
          · rw [Abs.getD_append_right (by simp),← hrs]; simp
          · simp only [intOf]; omega
      | al n v =>
        have hz : mbO hs [absO (.al n v)] = some []:=rfl
        rw [hz] at hsn
        simp only [Option.map_some,List.append_nil] at hsn
        simp only [siOf,sE] at he
        simp only [zW,zX,zD,builtinA,isLeaf,const1,ustrA,simprocAttr,ti3,ti9,ti25,ti39,ti45,ti49,ti98,ca103,cf,Tryz.results65,he,sEs_length,enc_length,hi1,LoopK_eq]
        refine ⟨pi,⟨i + 1,bs,j,B,by omega,hsn,rfl,rfl,hj,hg⟩,?_⟩
        simp only [intOf]; omega
      | va n v =>
        have hz : mbO hs [absO (.va n v)] = some []:=rfl
        rw [hz] at hsn
        simp only [Option.map_some,List.append_nil] at hsn
        simp only [siOf,sE] at he
        simp only [zW,zX,zD,builtinA,isLeaf,const1,ustrA,simprocAttr,ti3,ti9,ti25,ti39,ti45,ti49,ti98,ca103,cf,Tryz.results65,he,sEs_length,enc_length,hi1,LoopK_eq]
        refine ⟨pi,⟨i + 1,bs,j,B,by omega,hsn,rfl,rfl,hj,hg⟩,?_⟩
        simp only [intOf]; omega
    · have hi2 : i = b.length:=by simp at h2; omega
      rw [List.take_of_length_le (by simp; omega)] at hmb
      rw [hmb]
      simp only [zW,zX,zD,builtinA,isLeaf,const1,ustrA,simprocAttr,ti3,ti9,ti25,ti39,ti45,ti49,ti98,ca103,cf,Tryz.results65]
      exact ⟨B,j,rfl,rfl,hj,hg⟩
theorem bd_set {bs : List BdI} {i : Nat} (h : i < bs.length) : (bEs bs).set i (bE (bs.getD i bd0)) = bEs bs:=by
  refine List.ext_getElem (by simp) fun k h1 h2=>?_
  rw [List.getElem_set]
  split
  · rename_i e; subst e
    simp [bEs,List.getD,h]
  · rfl
set_option maxRecDepth 100000 in
set_option maxHeartbeats 4000000 in
theorem spec_MatchBinds (a b : List SigI) (ha : a.length ≤ 1048576) (hoa : ∀ x ∈ a,x.Ok ∧ sz x.typ ≤ 1048576) (hb : b.length ≤ 1048576) (hob : ∀ x ∈ b,x.Ok ∧ sz x.typ ≤ 1048576) (A : List Box) :
    ACalls Tryz.prog 32 [.slice (sEs a),.slice (sEs b)] A (fun r A'=>∃ o,MbIs a b o ∧ r = .tuple [.slice (bEs (o.getD [])),.bool o.isSome] ∧ A' = A):=by
  refine acalls_enter (cf:=cf 38 [0,1,4,5,6,7,8,12,23]) foll Tryz.func32 Tryz.ntmps32 (by simp [cf]) ?_
  simp only [Tryz.f32,EnterK_some,zW,zX,zD,builtinA,isLeaf,const1,ustrA,simprocAttr,ti3,ti39,ti45,ti98,ca50,ca65,ca66,cf,Tryz.results32]
  refine callO_intro (spec_l3Normal a b ha hoa hb hob _) ?_
  rintro r A' ⟨⟨oa,ob,h1,h2,rfl⟩,hA⟩
  have hA:=hA.symm
  subst hA
  cases oa with
  | none =>
    simp only [zW,zX,zD,builtinA,isLeaf,const1,ustrA,simprocAttr,ti3,ti39,ti45,ti98,ca50,ca65,ca66,cf,Tryz.results32,Option.isSome_none,Bool.false_and]
    exact ⟨none,.inr ⟨.inl h1,rfl⟩,rfl⟩
  | some hs =>
    cases ob with
    | none =>
      simp only [zW,zX,zD,builtinA,isLeaf,const1,ustrA,simprocAttr,ti3,ti39,ti45,ti98,ca50,ca65,ca66,cf,Tryz.results32,Option.isSome_none,Bool.and_false]
      exact ⟨none,.inr ⟨.inr h2,rfl⟩,rfl⟩
    | some ws =>
      obtain ⟨ys,h8,hr,hord,hn⟩:=id h2
      have hvh:=rdN_vok h1
      have hwy : ws.map absO = ys.map absO:=by
        rw [(normL_fit hn).2,absO_zs ys _ (Nat.le_refl _),List.take_length]
      have hMb : MbIs a b (mbO hs (ys.map absO)):=.inl ⟨hs,ws,h1,h2,by rw [hwy]⟩
      have hok:=fun bs (h : mbO hs (ys.map absO) = some bs)=>mbO_ok hvh.2 h
      simp only [zW,zX,zD,builtinA,isLeaf,const1,ustrA,simprocAttr,ti3,ti39,ti45,ti98,ca50,ca65,ca66,cf,Tryz.results32,Option.isSome_some,Bool.and_self]
      refine callO_intro (spec_l3Binds a b hs ys ha hoa h1 h8 hr _) ?_
      rintro r A' ⟨B,j,rfl,rfl,hj,hg⟩
      have hbo : ∀ x ∈ (mbO hs (ys.map absO)).getD [],sz x.typ ≤ 1048576:=by
        cases hq : mbO hs (ys.map absO) with
        | none=>simp
        | some bs =>
          intro x hx
          obtain ⟨n,f,_,h5,rfl⟩:=(hok bs hq).2 x hx
          have:=sz_toTyS f h5.ok
          have:=h5.cnt
          simp only; omega
      have hbl : ((mbO hs (ys.map absO)).getD []).length ≤ 8:=by
        cases hq : mbO hs (ys.map absO) with
        | none=>simp
        | some bs=>have h3:=(hok bs hq).1; have:=hr.1; simp at h3 ⊢; omega
      generalize hbs : (mbO hs (ys.map absO)).getD [] = bs at *
      generalize hq : (mbO hs (ys.map absO)).isSome = q at *
      have hfin : ∃ o,MbIs a b o ∧ AV.tuple [.slice (bEs bs),.bool q] = .tuple [.slice (bEs (o.getD [])),.bool o.isSome]:=⟨_,hMb,by rw [hbs,hq]⟩
      simp only [zW,zX,zD,builtinA,isLeaf,const1,ustrA,simprocAttr,ti3,ti39,ti45,ti98,ca50,ca65,ca66,cf,Tryz.results32]
      refine aloop_intro [6,7,8] (fun e A'=>∃ i,i ≤ bs.length ∧ e = [(6,.own (A.length + j)),(7,.bool q),(8,.int .i64 i)] ∧ A' = A ++ B) (fun e _=>bs.length - (intOf (Abs.look 8 e)).toNat) ?_ ?_
      · simp only [zW,zX,zD,builtinA,isLeaf,const1,ustrA,simprocAttr,ti3,ti39,ti45,ti98,ca50,ca65,ca66,cf,Tryz.results32]
        exact ⟨0,by omega,rfl⟩
      · rintro e A' ⟨i,hi,rfl,rfl⟩
        simp only [zW,zX,zD,builtinA,isLeaf,const1,ustrA,simprocAttr,ti3,ti39,ti45,ti98,ca50,ca65,ca66,cf,Tryz.results32,hg,hj,bEs_length]
        refine condK_intro (fun h2=>?_) (fun h2=>?_)
        · have hi2 : i < bs.length:=by simpa using h2
          have hi1 : IntKind.i64.wrap ((i : Int) + 1) = ((i + 1 : Nat) : Int):=by rw [wrap64 (by omega) (by omega)]; rfl
          have pi : (0 : Int) ≤ (i : Int) ∧ (i : Int) < (bs.length : Int):=⟨by omega,by omega⟩
          have he:=bEs_getD hi2
          have hst:=bd_set hi2
          have hcp:=fun A=>spec_l1Copy0 (bs.getD i bd0).typ (hbo _ (bd_mem hi2)) A
          generalize bs.getD i bd0 = x at *
          simp only [bE] at he hst
          rw [bT4 x.typ] at hcp
          have hBj : B.set j (.row 6 (bEs bs) 0) = B:=by
            refine List.ext_getElem (by simp) fun k h3 h4=>?_
            rw [List.getElem_set]
            split
            · rename_i e; subst e
              rw [← hg]; simp [List.getD,hj]
            · rfl
          simp only [zW,zX,zD,builtinA,isLeaf,const1,ustrA,simprocAttr,ti3,ti39,ti45,ti98,ca50,ca65,ca66,cf,Tryz.results32,he,hg,hj,bEs_length]
          refine ⟨pi,?_⟩
          refine callK_intro (by simp only [zW,zX,zD,builtinA,isLeaf,const1,ustrA,simprocAttr,Option.map_some]; rfl) (hcp _) ?_ rfl; rintro v A' ⟨rfl,rfl⟩
          simp only [zW,zX,zD,builtinA,isLeaf,const1,ustrA,simprocAttr,ti3,ti39,ti45,ti98,ca50,ca65,ca66,cf,Tryz.results32,he,hg,hj,hst,hBj,bEs_length,hi1,LoopK_eq]
          have lf : ∀ w ∈ [AV.int .i64 x.typ.kind,.str x.typ.mod,.str x.typ.name,.slice (encs x.typ.kids)],isLeaf w = true:=by simp [isLeaf]
          refine ⟨pi,⟨by omega,by omega,fun w hw=>lf w hw⟩,⟨i + 1,by omega,rfl⟩,?_⟩
          simp only [intOf]; omega
        · have hi2 : i = bs.length:=by simp at h2; omega
          simp only [zW,zX,zD,builtinA,isLeaf,const1,ustrA,simprocAttr,ti3,ti39,ti45,ti98,ca50,ca65,ca66,cf,Tryz.results32,hg,hj]
          exact hfin
end Go.Proofs.YtkajklfohjcofaaGreatDoor
/- What matching answers. -/
set_option linter.unusedVariables false
set_option linter.unusedSimpArgs false
namespace Go.Proofs.YtkajklfohjcofaaGreatDoor
open Go.Abs
def mcO : Option (Nat × Ky × Int) → Int
  | none=>0
  | some x=>x.2.2
def mpO : Option (Nat × Ky × Int) → Nat × Bool
  | none=>(0,false)
  | some x=>(x.1,true)
theorem offC_code (hs : List VI) : ∀ (ys : List VI) (m : List (BNm × VT)) (i : Nat) (x : Nat × Ky × Int),offC hs m ys i = some x → 0 < x.2.2 ∧ x.2.2 ≤ 4 ∧ i ≤ x.1 ∧ x.1 < i + ys.length
  | [],m,i,x,h=>by cases h
  | y :: ys,m,i,x,h=>by
    rw [offC] at h
    split at h
    · have h1:=offC_code hs ys _ _ x h
      simp only [List.length_cons]
      exact ⟨h1.1,h1.2.1,by omega,by omega⟩
    · rename_i hne
      cases h
      have:=visC_range hs m y
      simp only [List.length_cons]
      exact ⟨by omega,this.2,by omega,by omega⟩
def MtIs (a b : List SigI) (c : Int) (p : Nat × Bool) : Prop :=
  (∃ hs ws,RdN a (some hs) ∧ RdN b (some ws) ∧ c = mcO (offC hs [] ws 0) ∧ p = mpO (offC hs [] ws 0)) ∨
  (RdN a none ∨ RdN b none) ∧ p = (0,false) ∧ c = (if sigB a = true ∧ sigB b = true then 4 else 5)
theorem mtIs_ex (a b : List SigI) : ∃ c p,MtIs a b c p:=by
  obtain ⟨oa,ha⟩:=rdN_ex a
  obtain ⟨ob,hb⟩:=rdN_ex b
  cases oa with
  | none=>exact ⟨_,_,.inr ⟨.inl ha,rfl,rfl⟩⟩
  | some hs =>
    cases ob with
    | none=>exact ⟨_,_,.inr ⟨.inr hb,rfl,rfl⟩⟩
    | some ws=>exact ⟨_,_,.inl ⟨hs,ws,ha,hb,rfl,rfl⟩⟩
theorem mtIs_one {a b : List SigI} {c c' : Int} {p p' : Nat × Bool} (h : MtIs a b c p) (h' : MtIs a b c' p') : c = c' ∧ p = p':=by
  rcases h with ⟨hs,ws,h1,h2,rfl,rfl⟩ | ⟨h1,rfl,rfl⟩
  · rcases h' with ⟨hs',ws',h3,h4,rfl,rfl⟩ | ⟨h3,rfl,rfl⟩
    · rw [rdN_one h1 h3,rdN_one h2 h4]; exact ⟨rfl,rfl⟩
    · rcases h3 with h3 | h3
      · exact absurd h3 (rdN_not h1)
      · exact absurd h3 (rdN_not h2)
  · rcases h' with ⟨hs',ws',h3,h4,rfl,rfl⟩ | ⟨h3,rfl,rfl⟩
    · rcases h1 with h1 | h1
      · exact absurd h1 (rdN_not h3)
      · exact absurd h1 (rdN_not h4)
    · exact ⟨rfl,rfl⟩
theorem knownB_len (hs : List VI) : ∀ a : List VI,(knownB hs a).length ≤ a.length
  | []=>by simp [knownB]
  | .ab n :: a=>by
    have:=knownB_len hs a
    simp only [knownB]
    cases findF hs (false,n) <;> simp <;> omega
  | .al _ _ :: a=>by have:=knownB_len hs a; simp only [knownB,List.length_cons]; omega
  | .va _ _ :: a=>by have:=knownB_len hs a; simp only [knownB,List.length_cons]; omega
end Go.Proofs.YtkajklfohjcofaaGreatDoor
