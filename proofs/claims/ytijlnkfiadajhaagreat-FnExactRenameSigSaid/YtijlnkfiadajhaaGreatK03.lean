/- OwnTo, OwnFree, SpCopyT, SigD, SameSp, Zero. -/
import Derived.Test.YtijlnkfiadajhaaGreatK02
import Derived.Test.YtijlnkfiadajhaaGreatAbsW3
/- A law's argument, a type, as memory of its own. -/
set_option linter.unusedVariables false
set_option linter.unusedSimpArgs false
namespace Go.Proofs.YtijlnkfiadajhaaGreat
open Go.Abs
theorem getD_repl {α : Type} {n i : Nat} {x d : α} (h : i < n) : (List.replicate n x).getD i d = x:=by simp [List.getD,h]
def NewK (A : List Box) (ks : List Ty) (j : Nat) (A' : List Box) : Prop :=
  A.length ≤ A'.length ∧ (∀ k,k < A.length → A'.getD k .dead = A.getD k .dead) ∧ ∃ rows S,A'.getD j .dead = .gr none 4 rows ∧ OwnR A' ks rows S ∧ (j :: S).Nodup ∧ ∀ i ∈ j :: S,A.length ≤ i
def KidsN (ks : List Ty) : Prop:=∀ A,ACalls Tryz.prog 153 [.aslice (encAs ks)] A (fun r A'=>∃ j,r = .own j ∧ NewK A ks j A')
def TypN (t : Ty) : Prop:=∀ A,ACalls Tryz.prog 87 [.agg (encA t)] A (fun r A'=>∃ j,r = .agg [.int .i64 t.kind,.str t.mod,.str t.name,.own j] ∧ NewK A t.kids j A')
set_option maxRecDepth 100000 in
theorem toTypeS_own (ks : List Ty) (hl : ks.length ≤ 1048576) (hk : ∀ t ∈ ks,TypN t) : KidsN ks:=fun A=>by
  have hl2 : ((encAs ks).length : Int) ≤ 1048576:=by rw [encAs_length]; omega
  refine ACalls.grow ?_
  refine acalls_enterK (cf:=cf 23 [0,2,3,4,11]) foll Tryz.func153 Tryz.ntmps153 (by simp [cf]) ?_
  simp only [Tryz.f153,EnterK_some,zW,zX,zD,builtinA,isLeaf,const1,ustrA,simprocAttr,ti3,ti23,ti25,ti34,ti36,ca87,cf,Tryz.results153]
  refine ⟨⟨by omega,by omega,by omega⟩,?_⟩
  refine aloop_intro [0,3,4] (fun e A'=>∃ (p : Nat) (rl : List (List AV)) (SL : List Nat),p ≤ ks.length ∧ e = [(0,.aslice (encAs ks)),(3,.own A.length),(4,.int .i64 p)] ∧ A'.getD A.length .dead = (if p = 0 then .row 4 (List.replicate ks.length zty) 0 else .gr none 4 (rl ++ List.replicate (ks.length - p) zty)) ∧
    rl.length = p ∧ OwnR A' (ks.take p) rl SL ∧ SL.Nodup ∧ (∀ i ∈ SL,A.length < i) ∧ A.length < A'.length ∧ ∀ k,k < A.length → A'.getD k .dead = A.getD k .dead) (fun e _=>ks.length - (intOf (Abs.look 4 e)).toNat) ?_ ?_
  · simp only [zW,zX,zD,builtinA,isLeaf,const1,ustrA,simprocAttr,ti3,ti23,ti25,ti34,ti36,ca87,cf,Tryz.results153]
    refine ⟨0,[],[],by omega,rfl,?_,rfl,by simp [OwnR],by simp,by simp,by simp,fun k hk=>Abs.getD_append_left hk⟩
    rw [if_pos rfl,encAs_length]
    rfl
  · rintro e A' ⟨p,rl,SL,hp,rfl,hb,hrl,hO,hN,hlo,hlt,hfr⟩
    simp only [zW,zX,zD,builtinA,isLeaf,const1,ustrA,simprocAttr,ti3,ti23,ti25,ti34,ti36,ca87,cf,Tryz.results153,encAs_length]
    refine condK_intro (fun h2=>?_) (fun h2=>?_)
    · have hp2 : p < ks.length:=by simpa using h2
      have he:=encAs_getD hp2
      have hm:=getD_mem hp2
      simp only [zW,zX,zD,builtinA,isLeaf,const1,ustrA,simprocAttr,ti3,ti23,ti25,ti34,ti36,ca87,cf,Tryz.results153,he,encA_length,encA_take,encAs_length]
      refine ⟨⟨by omega,by omega⟩,?_⟩
      refine callK_intro (by simp only [zW,zX,zD,builtinA,isLeaf,const1,ustrA,simprocAttr,frzL_encA,Option.map_some] <;> rfl) (hk _ hm _) ?_ rfl
      rintro r A3 ⟨j,rfl,hle,hf3,rows,S,hg,hR,hND,hge⟩
      have hi1 : IntKind.i64.wrap ((p : Int) + 1) = ((p + 1 : Nat) : Int):=by rw [wrap64 (by omega) (by omega)]; rfl
      have hb3 : A3.getD A.length .dead = (if p = 0 then .row 4 (List.replicate ks.length zty) 0 else .gr none 4 (rl ++ List.replicate (ks.length - p) zty)):=by rw [hf3 _ hlt]; exact hb
      have hjA : A.length ≠ j:=fun e=>by have:=hge j (by simp); omega
      generalize ht : ks.getD p ty0 = t at *
      have key : ∀ (n0 : Nat) (z : List (List AV)),n0 = ks.length → z.length = ks.length → z.take p = rl → z.drop p = List.replicate (ks.length - p) zty → z.set p ([.int .i64 t.kind,.str t.mod,.str t.name,.own j]) = (rl ++ [[.int .i64 t.kind,.str t.mod,.str t.name,.own j]]) ++ List.replicate (ks.length - (p + 1)) zty:=fun n0 z h0 h1 h2 h3=>by
        have e1 : z = rl ++ List.replicate (ks.length - p) zty:=by rw [← h2,← h3,List.take_append_drop]
        rw [e1,show ks.length - p = (ks.length - (p + 1)) + 1 by omega,List.replicate_succ,List.set_append_right _ _ (by omega),hrl,Nat.sub_self]
        simp
      have fin : ∀ Z,Z = Box.gr none 4 ((rl ++ [[.int .i64 t.kind,.str t.mod,.str t.name,.own j]]) ++ List.replicate (ks.length - (p + 1)) zty) → ∃ (p' : Nat) (rl' : List (List AV)) (SL' : List Nat),p' ≤ ks.length ∧ [(0,AV.aslice (encAs ks)),(3,.own A.length),(4,.int .i64 ((p + 1 : Nat) : Int))] = [(0,.aslice (encAs ks)),(3,.own A.length),(4,.int .i64 p')] ∧ (A3.set A.length Z).getD A.length .dead = (if p' = 0 then .row 4 (List.replicate ks.length zty) 0 else .gr none 4 (rl' ++ List.replicate (ks.length - p') zty)) ∧
          rl'.length = p' ∧ OwnR (A3.set A.length Z) (ks.take p') rl' SL' ∧ SL'.Nodup ∧ (∀ i ∈ SL',A.length < i) ∧ A.length < (A3.set A.length Z).length ∧ ∀ k,k < A.length → (A3.set A.length Z).getD k .dead = A.getD k .dead:=fun Z hZ=>by
        have hlt3 : A.length < A3.length:=by omega
        have low:=hO.low
        refine ⟨p + 1,rl ++ [[.int .i64 t.kind,.str t.mod,.str t.name,.own j]],SL ++ (j :: S),by omega,rfl,?_,by simp [hrl],?_,?_,?_,by simpa using hlt3,fun k hk=>?_⟩
        · rw [getD_set_self hlt3,if_neg (by omega)]; exact hZ
        · have hts : ks.take (p + 1) = ks.take p ++ [t]:=by rw [← ht]; exact take_snoc ty0 hp2
          rw [hts]
          refine (hO.frame fun i hi=>?_).append ?_
          · have h1:=hlo i hi
            have h2:=low i hi
            rw [getD_set_ne' (by omega),hf3 i h2]
          · rw [OwnR]
            refine ⟨_,[],j :: S,[],rfl,by simp,?_,by simp [OwnR]⟩
            have ht4 : t = .mk t.kind t.mod t.name t.kids:=by cases t; rfl
            rw [ht4,ownT_mk]
            refine ⟨.own j,rfl,.inr (.inr ⟨j,rows,S,rfl,rfl,by rw [getD_set_ne' hjA]; exact hg,hR.frame fun i hi=>?_⟩)⟩
            have:=hge i (by simp [hi])
            rw [getD_set_ne' (by omega)]
        · refine List.nodup_append.2 ⟨hN,hND,fun x hx y hy=>?_⟩
          have:=low x hx
          have:=hge y hy
          omega
        · intro i hi
          rcases List.mem_append.1 hi with hi | hi
          · exact hlo i hi
          · have:=hge i hi; omega
        · rw [getD_set_ne' (by omega),hf3 k (by omega),hfr k hk]
      have hel : ∀ v ∈ [AV.int .i64 t.kind,.str t.mod,.str t.name,.own j],isElem v = true:=by simp [isElem,isLeaf]
      by_cases hp0 : p = 0
      · rw [if_pos hp0] at hb3
        have hz:=key ks.length (List.replicate ks.length zty) rfl (by simp) (by subst hp0; simp at hrl; simp [hrl]) (by subst hp0; simp)
        have hdz : List.drop 4 ((List.replicate ks.length zty).getD p []) = []:=by rw [getD_repl hp2]; rfl
        simp only [zW,zX,zD,builtinA,isLeaf,const1,ustrA,simprocAttr,ti3,ti23,ti25,ti34,ti36,ca87,cf,Tryz.results153,hg,hb3,hz,hdz,hi1,LoopK_eq]
        refine ⟨⟨by omega,by simp; omega⟩,⟨by simp; omega,hel⟩,by simpa only [List.append_assoc,List.cons_append,List.nil_append,List.length_set] using fin _ rfl,?_⟩
        simp only [intOf]; omega
      · rw [if_neg hp0] at hb3
        have hz:=key ks.length (rl ++ List.replicate (ks.length - p) zty) rfl (by simp; omega) (by rw [← hrl]; simp) (by rw [← hrl]; simp)
        have hdz : List.drop 4 ((rl ++ List.replicate (ks.length - p) zty).getD p []) = []:=by
          rw [Abs.getD_append_right (by omega),hrl,Nat.sub_self,getD_repl (by omega)]; rfl
        simp only [zW,zX,zD,builtinA,isLeaf,const1,ustrA,simprocAttr,ti3,ti23,ti25,ti34,ti36,ca87,cf,Tryz.results153,hg,hb3,hz,hdz,hi1,LoopK_eq]
        refine ⟨⟨by omega,by simp; omega⟩,⟨by simp; omega,hel⟩,by simpa only [List.append_assoc,List.cons_append,List.nil_append,List.length_set] using fin _ rfl,?_⟩
        simp only [intOf]; omega
    · have hp2 : p = ks.length:=by simp at h2; omega
      subst hp2
      simp only [zW,zX,zD,builtinA,isLeaf,const1,ustrA,simprocAttr,ti3,ti23,ti25,ti34,ti36,ca87,cf,Tryz.results153]
      rw [List.take_length] at hO
      have low:=hO.low
      have hnd : (A.length :: SL).Nodup:=List.nodup_cons.2 ⟨fun h=>by have:=hlo _ h; omega,hN⟩
      have hge : ∀ i ∈ A.length :: SL,A.length ≤ i:=fun i hi=>by
        rcases List.mem_cons.1 hi with rfl | hi
        · exact Nat.le_refl _
        · have:=hlo i hi; omega
      by_cases h0 : ks.length = 0
      · have hk0 : ks = []:=List.length_eq_zero_iff.1 h0
        rw [if_pos h0,h0] at hb
        refine .inr ⟨A.length,4,[],by rw [hb]; rfl,A.length,rfl,by simp; omega,fun k hk=>by rw [getD_set_ne' (by omega)]; exact hfr k hk,[],[],getD_set_self hlt,by rw [hk0]; simp [OwnR],by simp,by simp⟩
      · rw [if_neg h0] at hb
        refine .inl ⟨A.length,rfl,by omega,hfr,rl,SL,by rw [hb]; simp,hO,hnd,hge⟩
set_option maxRecDepth 100000 in
theorem toType_own (τ : Ty) (hτ : sz τ ≤ 1048576) : TypN τ:=by
  induction τ using Ty.ind with
  | h k m n ks ih =>
    intro A
    rw [encA]
    have h1 : ks.length ≤ 1048576:=by rw [sz] at hτ; omega
    have h2 : ∀ t ∈ ks,sz t ≤ 1048576:=fun t ht=>by rw [sz] at hτ; have:=szs_mem ht; omega
    have hks:=toTypeS_own ks h1 (fun t ht=>ih t ht (h2 t ht))
    refine acalls_enterK (cf:=cf 18 [0,1,2,3]) foll Tryz.func87 Tryz.ntmps87 (by simp [cf]) ?_
    simp only [Tryz.f87,EnterK_some,zW,zX,zD,builtinA,isLeaf,const1,ustrA,simprocAttr,ti3,ti9,ti23,ti25,ti34,ti36,ca153,cf,Tryz.results87]
    refine callK_intro (by simp only [zW,zX,zD,builtinA,isLeaf,const1,ustrA,simprocAttr,Option.map_some] <;> rfl) (hks _) ?_ rfl
    rintro r A' ⟨j,rfl,hle,hf,rows,S,hg,hR,hND,hge⟩
    simp only [List.length_append,List.length_cons,List.length_nil] at hle hf hge
    have gb : ∀ i b,([Box.cells [.int .i64 k,.str m,.str n,.aslice (encAs ks)],.cells [.int .i64 0,.str [],.str [],.nils],.cells [.int .i64 k,.str m,.str n,.nils]] : List Box).getD i .dead = b → i < 3 → A'.getD (A.length + i) .dead = b:=fun i b h hi=>by
      rw [hf _ (by omega),Abs.getD_append_right (by omega),show A.length + i - A.length = i by omega]; exact h
    have g1:=gb 1 _ rfl (by omega)
    have g2:=gb 2 _ rfl (by omega)
    have hl1 : A.length + 1 < A'.length:=by omega
    have hl2 : A.length + 2 < A'.length:=by omega
    have s1 : ∀ X : Box,(A'.set (A.length + 2) X).getD (A.length + 2) .dead = X:=fun X=>getD_set_self hl2
    have s2 : ∀ X : Box,(A'.set (A.length + 2) X).getD (A.length + 1) .dead = .cells [.int .i64 0,.str [],.str [],.nils]:=fun X=>by rw [getD_set_ne' (by omega)]; exact g1
    have s3 : ∀ X Y : Box,((A'.set (A.length + 2) X).set (A.length + 1) Y).getD (A.length + 1) .dead = Y:=fun X Y=>getD_set_self (by simpa using hl1)
    have fin : ∀ X Y : Box,NewK A ks j ((A'.set (A.length + 2) X).set (A.length + 1) Y):=fun X Y=>by
      refine ⟨by simp; omega,fun i hi=>?_,rows,S,?_,hR.frame fun i hi=>?_,hND,fun i hi=>by have:=hge i hi; omega⟩
      · rw [getD_set_ne' (by omega),getD_set_ne' (by omega),hf i (by omega),Abs.getD_append_left hi]
      · have:=hge j (by simp)
        rw [getD_set_ne' (by omega),getD_set_ne' (by omega)]; exact hg
      · have:=hge i (by simp [hi])
        rw [getD_set_ne' (by omega),getD_set_ne' (by omega)]
    simp only [zW,zX,zD,builtinA,isLeaf,const1,ustrA,simprocAttr,ti3,ti9,ti23,ti25,ti34,ti36,ca153,cf,Tryz.results87,g1,g2,s1,s2,s3]
    exact ⟨j,rfl,fin _ _⟩
end Go.Proofs.YtijlnkfiadajhaaGreat
/- What is owned holds no place of other memory. -/
set_option linter.unusedVariables false
set_option linter.unusedSimpArgs false
namespace Go.Proofs.YtijlnkfiadajhaaGreat
open Go.Abs
mutual
theorem OwnT.free {A : List Box} : ∀ {t : Ty} {r : List AV} {S : List Nat},OwnT A t r S → ifrees r = true ∧ ∀ i ∈ S,ifreeB (A.getD i .dead) = true
  | .mk k m n ks,r,S,h=>by
    rw [OwnT] at h
    obtain ⟨v,rfl,h⟩:=h
    rcases h with ⟨rfl,_,rfl⟩ | ⟨rfl,_,rfl⟩ | ⟨i,rows,S',rfl,rfl,h3,h4⟩
    · exact ⟨by simp [ifrees,ifree],by simp⟩
    · exact ⟨by simp [ifrees,ifree],by simp⟩
    · refine ⟨by simp [ifrees,ifree],fun j hj=>?_⟩
      have h5:=OwnR.free h4
      rcases List.mem_cons.1 hj with rfl | hj
      · rw [h3]; exact h5.1
      · exact h5.2 j hj
theorem OwnR.free {A : List Box} : ∀ {ks : List Ty} {rows : List (List AV)} {S : List Nat},OwnR A ks rows S → rows.all ifrees = true ∧ ∀ i ∈ S,ifreeB (A.getD i .dead) = true
  | [],rows,S,h=>by rw [OwnR] at h; rw [h.1,h.2]; exact ⟨rfl,by simp⟩
  | t :: ks,rows,S,h=>by
    rw [OwnR] at h
    obtain ⟨r,rows',S1,S2,rfl,rfl,h3,h4⟩:=h
    have a:=OwnT.free h3
    have b:=OwnR.free h4
    refine ⟨by rw [List.all_cons,a.1,b.1]; rfl,fun j hj=>?_⟩
    rcases List.mem_append.1 hj with hj | hj
    · exact a.2 j hj
    · exact b.2 j hj
end
end Go.Proofs.YtijlnkfiadajhaaGreat
/- The model's copies of types; sizes of types. -/
set_option linter.unusedVariables false
set_option linter.unusedSimpArgs false
namespace Go.Proofs.YtijlnkfiadajhaaGreat
open Go.Abs
theorem sb_closed (t : Ty) (n : Nat) : (enc t).all (closed1 n) = true:=by cases t; rw [enc]; rfl
theorem sb_drop (t : Ty) : List.drop 4 (enc t) = []:=by cases t; rw [enc]; rfl
theorem sz_toTyS : ∀ v,okV v = true → sz (toTy v) ≤ 2 * cnt v
  | .num,_=>by simp [toTy,sz,szs,cnt]
  | .nm m n,h=>by
    simp only [okV,nmB,Bool.and_eq_true,Bool.or_eq_true,decide_eq_true_eq] at h
    have h1 : n.length = 1:=by have:=h.2; simp only [localB,Bool.and_eq_true,beq_iff_eq] at this; exact this.1
    have h2 : m.length ≤ 1:=by
      rcases h.1 with rfl | h
      · simp
      · simp only [moduleB,Bool.and_eq_true,beq_iff_eq] at h; omega
    simp only [toTy,sz,szs,cnt,List.length_nil]; omega
  | .fn a b,h=>by
    simp only [okV,Bool.and_eq_true] at h
    have ha:=sz_toTyS a h.1
    have hb:=sz_toTyS b h.2
    simp only [toTy,sz,szs,cnt,List.length_nil,List.length_cons]; omega
theorem ok_toTyS : ∀ v,okV v = true → (toTy v).Ok
  | .num,_=>.mk (by simp) (by simp) (by simp) (by simp)
  | .nm m n,h=>by
    simp only [okV,nmB,Bool.and_eq_true,Bool.or_eq_true,decide_eq_true_eq] at h
    have h1 : n.length = 1:=by have:=h.2; simp only [localB,Bool.and_eq_true,beq_iff_eq] at this; exact this.1
    have h2 : m.length ≤ 1:=by
      rcases h.1 with rfl | h
      · simp
      · simp only [moduleB,Bool.and_eq_true,beq_iff_eq] at h; omega
    exact .mk (by omega) (by omega) (by simp) (by simp)
  | .fn a b,h=>by
    simp [okV] at h
    refine .mk (by simp) (by simp) (by simp) fun t ht=>?_
    simp at ht
    rcases ht with rfl | rfl
    · exact ok_toTyS a h.1
    · exact ok_toTyS b h.2
end Go.Proofs.YtijlnkfiadajhaaGreat
/- Items of signatures as data. -/
set_option linter.unusedVariables false
set_option linter.unusedSimpArgs false
namespace Go.Proofs.YtijlnkfiadajhaaGreat
open Go.Abs
structure SigI where
  kind : Int
  name : List UInt8
  typ : Ty
def si0 : SigI:=⟨0,[],ty0⟩
def sE (x : SigI) : List AV:=.int .i64 x.kind :: .str x.name :: enc x.typ
def sEA (x : SigI) : List AV:=.int .i64 x.kind :: .str x.name :: encA x.typ
def sEs (l : List SigI) : List (List AV):=l.map sE
def sEAs (l : List SigI) : List (List AV):=l.map sEA
def szI (x : SigI) : Nat:=x.name.length + sz x.typ
def szIs (l : List SigI) : Nat:=(l.map szI).sum
def SigI.Ok (x : SigI) : Prop:=x.name.length < 2 ^ 63 ∧ x.typ.Ok
def zsi : List AV:=[.int .i64 0,.str [],.int .i64 0,.str [],.str [],.slice []]
theorem sE_length (x : SigI) : (sE x).length = 6:=by simp [sE,enc_length]
theorem sEA_length (x : SigI) : (sEA x).length = 6:=by simp [sEA,encA_length]
theorem sE_take (x : SigI) : List.take 6 (sE x) = sE x:=List.take_of_length_le (by rw [sE_length]; exact Nat.le_refl _)
theorem sEA_take (x : SigI) : List.take 6 (sEA x) = sEA x:=List.take_of_length_le (by rw [sEA_length]; exact Nat.le_refl _)
theorem sE_leaf (x : SigI) : ∀ v ∈ sE x,isLeaf v = true:=by
  intro v hv
  simp only [sE,List.mem_cons] at hv
  rcases hv with rfl | rfl | hv
  · rfl
  · rfl
  · exact enc_leaf _ v hv
theorem frzL_leaf : ∀ (l : List AV) (A : List Box),(∀ v ∈ l,isLeaf v = true) → frzL l A = some (l,A)
  | [],A,_=>rfl
  | v :: l,A,h=>by
    have h1 : frz1 v A = some (v,A):=by
      have:=h v (by simp)
      cases v <;> simp [isLeaf] at this <;> rfl
    simp only [frzL,h1,frzL_leaf l A fun x hx=>h x (by simp [hx])]
theorem frzL_sE (x : SigI) (A : List Box) : frzL (sE x) A = some (sE x,A):=frzL_leaf _ _ (sE_leaf x)
theorem sEA_leaf (x : SigI) : ∀ v ∈ sEA x,isLeaf v = true:=by
  intro v hv
  simp only [sEA,List.mem_cons] at hv
  rcases hv with rfl | rfl | hv
  · rfl
  · rfl
  · cases ht : x.typ with
    | mk k m n ks =>
      rw [ht,encA] at hv
      simp at hv
      rcases hv with rfl | rfl | rfl | rfl <;> rfl
theorem frzL_sEA (x : SigI) (A : List Box) : frzL (sEA x) A = some (sEA x,A):=frzL_leaf _ _ (sEA_leaf x)
theorem sEs_length (l : List SigI) : (sEs l).length = l.length:=by simp [sEs]
theorem sEAs_length (l : List SigI) : (sEAs l).length = l.length:=by simp [sEAs]
theorem sEs_getD {l : List SigI} {i : Nat} (h : i < l.length) : (sEs l).getD i [] = sE (l.getD i si0):=by simp [sEs,List.getD,h]
theorem sEAs_getD {l : List SigI} {i : Nat} (h : i < l.length) : (sEAs l).getD i [] = sEA (l.getD i si0):=by simp [sEAs,List.getD,h]
theorem si_mem {l : List SigI} {i : Nat} (h : i < l.length) : l.getD i si0 ∈ l:=by simp [List.getD,h]
theorem si_take {l : List SigI} {i : Nat} (h : i < l.length) : l.take (i + 1) = l.take i ++ [l.getD i si0]:=by
  rw [List.take_add_one]; simp [List.getD,h]
theorem szIs_take {l : List SigI} {i : Nat} (h : i < l.length) : szIs (l.take (i + 1)) = szIs (l.take i) + szI (l.getD i si0):=by
  rw [si_take h]; simp [szIs]
theorem szIs_le (l : List SigI) (i : Nat) : szIs (l.take i) ≤ szIs l:=by
  have h : szIs l = szIs (l.take i) + szIs (l.drop i):=by
    conv=>lhs; rw [← List.take_append_drop i l]
    simp only [szIs,List.map_append,List.sum_append]
  omega
theorem szIs_mem {x : SigI} {l : List SigI} (h : x ∈ l) : szI x ≤ szIs l:=by
  induction l with
  | nil=>simp at h
  | cons y l ih =>
    simp only [szIs,List.map_cons,List.sum_cons] at ih ⊢
    rcases List.mem_cons.1 h with rfl | h
    · omega
    · have:=ih h; omega
theorem encCl (n : Nat) (t : Ty) : (enc t).all (closed1 n) = true:=List.all_eq_true.2 fun x hx=>leaf_closed1 (enc_leaf t x hx)
theorem encD (t : Ty) : List.drop 4 (enc t) = []:=List.drop_of_length_le (by rw [enc_length]; exact Nat.le_refl _)
end Go.Proofs.YtijlnkfiadajhaaGreat
/- The document's TypeSame, by itself. -/
set_option linter.unusedVariables false
set_option linter.unusedSimpArgs false
namespace Go.Proofs.YtijlnkfiadajhaaGreat
open Go.Abs
theorem gdS {α : Type} (l : List α) (i : Nat) (d : α) (h : i < l.length) : l.getD i d = l[i]:=by simp [List.getD,h]
theorem take_eq_all {l l' : List Ty} (hl : l.length = l'.length) (h : ∀ i,i < l.length → l.getD i ty0 = l'.getD i ty0) : l = l':=by
  apply List.ext_getElem hl
  intro i hi hi'
  have:=h i hi
  rw [gdS _ _ _ hi,gdS _ _ _ hi'] at this
  exact this
set_option maxRecDepth 100000 in
set_option maxHeartbeats 2000000 in
theorem spec_TypeSame (σ : Ty) (hσ : σ.Ok) : ∀ (τ : Ty) (A : List Box),ACalls Tryz.prog 126 [.agg (enc σ),.agg (enc τ)] A (fun r A'=>r = .bool (decide (σ = τ)) ∧ A' = A):=by
  induction σ using Ty.ind with
  | h k m n ks ih =>
    rintro ⟨k',m',n',ks'⟩ A
    obtain ⟨hm,hn,hks,hok⟩:=hσ
    rw [enc,enc]
    by_cases h1 : k = k'
    · by_cases h2 : m = m'
      · by_cases h3 : n = n'
        · by_cases h4 : ks.length = ks'.length
          · have g1 : decide (k = k') = true:=decide_eq_true h1
            have g2 : decide (m = m') = true:=decide_eq_true h2
            have g3 : decide (n = n') = true:=decide_eq_true h3
            have g4 : decide (((ks.length : Nat) : Int) = (ks'.length : Nat)) = true:=decide_eq_true (by omega)
            refine acalls_enter (cf:=cf 53 [0,1,2,3,4,5,33,38,52]) foll Tryz.func126 Tryz.ntmps126 (by simp [cf]) ?_
            simp only [Tryz.f126,EnterK_some,zW,zX,zD,builtinA,isLeaf,const1,ustrA,simprocAttr,ti3,ti9,ti34,ti36,ca126,cf,Tryz.results126]
            simp only [zW,zX,zD,builtinA,isLeaf,const1,ustrA,simprocAttr,ti3,ti9,ti34,ti36,ca126,cf,Tryz.results126,g1,g2,g3,g4,encs_length,Bool.not_true]
            refine aloop_intro [2,3,5] (fun e A'=>∃ i,i ≤ ks.length ∧ e = [(2,.ptr A.length 0),(3,.ptr (A.length + 1) 0),(5,.int .i64 i)] ∧ A' = A ++ [.cells [.int .i64 k,.str m,.str n,.slice (encs ks)],.cells [.int .i64 k',.str m',.str n',.slice (encs ks')]] ∧ ∀ j,j < i → ks.getD j ty0 = ks'.getD j ty0) (fun e _=>ks.length - (intOf (Abs.look 5 e)).toNat) ?_ ?_
            · simp only [zW,zX,zD,builtinA,isLeaf,const1,ustrA,simprocAttr,ti3,ti9,ti34,ti36,ca126,cf,Tryz.results126]
              exact ⟨0,by omega,rfl,by simp⟩
            · rintro e A' ⟨i,hi,rfl,rfl,heq⟩
              have hl' : (encs ks').length = ks.length:=(encs_length _).trans h4.symm
              by_cases hlt : i < ks.length
              · have hlt1 : decide (((i : Nat) : Int) < (ks.length : Nat)) = true:=decide_eq_true (by omega)
                have he:=encs_getD hlt
                have he':=encs_getD (show i < ks'.length by omega)
                have hm:=getD_mem hlt
                have hi1 : IntKind.i64.wrap ((i : Int) + 1) = ((i + 1 : Nat) : Int):=by rw [wrap64 (by omega) (by omega)]; rfl
                simp only [zW,zX,zD,builtinA,isLeaf,const1,ustrA,simprocAttr,ti3,ti9,ti34,ti36,ca126,cf,Tryz.results126,hlt1,he,he',hl',enc_length,enc_take,encs_length]
                refine .inl ⟨by kernel_rfl,by kernel_rfl,⟨by omega,by omega⟩,⟨by omega,by omega⟩,?_⟩
                refine callD_intro (by simp only [zW,zX,zD,builtinA,isLeaf,const1,ustrA,simprocAttr,frzL_enc,Option.map_some] <;> rfl) (ih _ hm (hok _ hm) (ks'.getD i ty0) _) ?_ rfl
                by_cases hq : ks.getD i ty0 = ks'.getD i ty0
                · simp only [zW,zX,zD,builtinA,isLeaf,const1,ustrA,simprocAttr,ti3,ti9,ti34,ti36,ca126,cf,Tryz.results126,decide_eq_true hq,Bool.not_true,hi1,LoopK_eq]
                  refine ⟨⟨i + 1,by omega,rfl,fun j hj=>?_⟩,?_⟩
                  · rcases Nat.lt_or_ge j i with h | h
                    · exact heq j h
                    · obtain rfl : j = i:=by omega
                      exact hq
                  · simp only [intOf]
                    omega
                · have hd : decide (Ty.mk k m n ks = Ty.mk k' m' n' ks') = false:=decide_eq_false (fun e=>by injection e with _ _ _ e; exact hq (by rw [e]))
                  rw [hd]
                  simp only [zW,zX,zD,builtinA,isLeaf,const1,ustrA,simprocAttr,ti3,ti9,ti34,ti36,ca126,cf,Tryz.results126,decide_eq_false hq,Bool.not_false]
              · have hlt1 : decide (((i : Nat) : Int) < (ks.length : Nat)) = false:=decide_eq_false (by omega)
                have : ks = ks':=take_eq_all h4 fun j hj=>heq j (by omega)
                have hd : decide (Ty.mk k m n ks = Ty.mk k' m' n' ks') = true:=decide_eq_true (by rw [h1,h2,h3,this])
                simp only [zW,zX,zD,builtinA,isLeaf,const1,ustrA,simprocAttr,ti3,ti9,ti34,ti36,ca126,cf,Tryz.results126,hlt1,hl',encs_length]
                rw [hd]
          · have hd : decide (Ty.mk k m n ks = Ty.mk k' m' n' ks') = false:=decide_eq_false (fun e=>by injection e with _ _ _ e; exact h4 (congrArg _ e))
            rw [hd]
            refine acalls_enter (cf:=cf 53 [0,1,2,3,4,5,33,38,52]) foll Tryz.func126 Tryz.ntmps126 (by simp [cf]) ?_
            simp only [Tryz.f126,EnterK_some,zW,zX,zD,builtinA,isLeaf,const1,ustrA,simprocAttr,ti3,ti9,ti34,ti36,ca126,cf,Tryz.results126]
            simp only [zW,zX,zD,builtinA,isLeaf,const1,ustrA,simprocAttr,ti3,ti9,ti34,ti36,ca126,cf,Tryz.results126,decide_eq_true h1,decide_eq_true h2,decide_eq_true h3,(decide_eq_false (by omega) : decide (((ks.length : Nat) : Int) = (ks'.length : Nat)) = false),encs_length,Bool.not_true,Bool.not_false]
        · have hd : decide (Ty.mk k m n ks = Ty.mk k' m' n' ks') = false:=decide_eq_false (fun e=>by injection e with _ _ e _; exact h3 e)
          rw [hd]
          refine acalls_enter (cf:=cf 53 [0,1,2,3,4,5,33,38,52]) foll Tryz.func126 Tryz.ntmps126 (by simp [cf]) ?_
          simp only [Tryz.f126,EnterK_some,zW,zX,zD,builtinA,isLeaf,const1,ustrA,simprocAttr,ti3,ti9,ti34,ti36,ca126,cf,Tryz.results126]
          simp only [zW,zX,zD,builtinA,isLeaf,const1,ustrA,simprocAttr,ti3,ti9,ti34,ti36,ca126,cf,Tryz.results126,decide_eq_true h1,decide_eq_true h2,decide_eq_false h3,Bool.not_true,Bool.not_false]
      · have hd : decide (Ty.mk k m n ks = Ty.mk k' m' n' ks') = false:=decide_eq_false (fun e=>by injection e with _ e _ _; exact h2 e)
        rw [hd]
        refine acalls_enter (cf:=cf 53 [0,1,2,3,4,5,33,38,52]) foll Tryz.func126 Tryz.ntmps126 (by simp [cf]) ?_
        simp only [Tryz.f126,EnterK_some,zW,zX,zD,builtinA,isLeaf,const1,ustrA,simprocAttr,ti3,ti9,ti34,ti36,ca126,cf,Tryz.results126]
        simp only [zW,zX,zD,builtinA,isLeaf,const1,ustrA,simprocAttr,ti3,ti9,ti34,ti36,ca126,cf,Tryz.results126,decide_eq_true h1,decide_eq_false h2,Bool.not_true,Bool.not_false]
    · have hd : decide (Ty.mk k m n ks = Ty.mk k' m' n' ks') = false:=decide_eq_false (fun e=>by injection e with e _ _ _; exact h1 e)
      rw [hd]
      refine acalls_enter (cf:=cf 53 [0,1,2,3,4,5,33,38,52]) foll Tryz.func126 Tryz.ntmps126 (by simp [cf]) ?_
      simp only [Tryz.f126,EnterK_some,zW,zX,zD,builtinA,isLeaf,const1,ustrA,simprocAttr,ti3,ti9,ti34,ti36,ca126,cf,Tryz.results126]
      simp only [zW,zX,zD,builtinA,isLeaf,const1,ustrA,simprocAttr,ti3,ti9,ti34,ti36,ca126,cf,Tryz.results126,decide_eq_false h1,Bool.not_true,Bool.not_false]
end Go.Proofs.YtijlnkfiadajhaaGreat
/- Comparisons with the zero type. -/
set_option linter.unusedVariables false
set_option linter.unusedSimpArgs false
namespace Go.Proofs.YtijlnkfiadajhaaGreat
open Go.Abs
set_option maxRecDepth 100000 in
theorem spec_l2Zero (τ : Ty) (A : List Box) : ACalls Tryz.prog 206 [.agg (enc τ)] A (fun r A'=>r = .bool (decide (τ = ty0)) ∧ A' = A):=by
  obtain ⟨k,m,n,ks⟩:=τ
  have hr : decide (Ty.mk k m n ks = ty0) = (((decide (k = 0) && decide (m = [])) && decide (n = [])) && decide (ks = [])):=by
    rw [Bool.eq_iff_iff]; simp [ty0,and_assoc]
  have hl : decide (((encs ks).length : Int) = 0) = decide (ks = []):=by
    rw [Bool.eq_iff_iff,encs_length]; simp only [decide_eq_true_eq]
    constructor
    · intro h; exact List.length_eq_zero_iff.1 (by omega)
    · rintro rfl; rfl
  rw [enc,hr]
  refine acalls_enter (cf:=cf 22 [0,1,2]) foll Tryz.func206 Tryz.ntmps206 (by simp [cf]) ?_
  simp only [Tryz.f206,EnterK_some,zW,zX,zD,builtinA,isLeaf,const1,ustrA,simprocAttr,ti3,ti9,ti34,ti36,cf,Tryz.results206]
  by_cases h1 : k = 0
  · by_cases h2 : m = []
    · by_cases h3 : n = []
      · simp only [zW,zX,zD,builtinA,isLeaf,const1,ustrA,simprocAttr,ti3,ti9,ti34,ti36,cf,Tryz.results206,decide_eq_true h1,decide_eq_true h2,decide_eq_true h3,hl]
      · simp only [zW,zX,zD,builtinA,isLeaf,const1,ustrA,simprocAttr,ti3,ti9,ti34,ti36,cf,Tryz.results206,decide_eq_true h1,decide_eq_true h2,decide_eq_false h3,hl]
    · simp only [zW,zX,zD,builtinA,isLeaf,const1,ustrA,simprocAttr,ti3,ti9,ti34,ti36,cf,Tryz.results206,decide_eq_true h1,decide_eq_false h2,hl]
  · simp only [zW,zX,zD,builtinA,isLeaf,const1,ustrA,simprocAttr,ti3,ti9,ti34,ti36,cf,Tryz.results206,decide_eq_false h1,hl]
end Go.Proofs.YtijlnkfiadajhaaGreat
