/- OwnSi, OwnPlain. -/
import Derived.Test.YtijlnkfiadajhaaGreatK06
import Derived.Test.YtijlnkfiadajhaaGreatAbsW3
/- Marks in a list of items that is owned. -/
set_option linter.unusedVariables false
set_option linter.unusedSimpArgs false
namespace Go.Proofs.YtijlnkfiadajhaaGreat
open Go.Abs
theorem enc4s (t : Ty) : enc t = [.int .i64 t.kind,.str t.mod,.str t.name,.slice (encs t.kids)]:=by cases t; rw [enc]; rfl
theorem encA4s (t : Ty) : encA t = [.int .i64 t.kind,.str t.mod,.str t.name,.aslice (encAs t.kids)]:=by cases t; rw [encA]; rfl
theorem sE6 (x : SigI) : sE x = [.int .i64 x.kind,.str x.name,.int .i64 x.typ.kind,.str x.typ.mod,.str x.typ.name,.slice (encs x.typ.kids)]:=by rw [sE,enc4s]
def sRow (b : SigI) (v : AV) : List AV:=[.int .i64 b.kind,.str b.name,.int .i64 b.typ.kind,.str b.typ.mod,.str b.typ.name,v]
def OwnG (A : List Box) : List SigI → List (List AV) → List Nat → Prop
  | [],rows,S=>rows = [] ∧ S = []
  | b :: bs,rows,S=>∃ v rows' S1 S2,rows = sRow b v :: rows' ∧ S = S1 ++ S2 ∧ OwnK A b.typ.kids v S1 ∧ OwnG A bs rows' S2
theorem OwnG.frame {A A' : List Box} : ∀ {bs : List SigI} {rows : List (List AV)} {S : List Nat},OwnG A bs rows S → (∀ i ∈ S,A'.getD i .dead = A.getD i .dead) → OwnG A' bs rows S
  | [],rows,S,h,hf=>h
  | b :: bs,rows,S,h,hf=>by
    rw [OwnG] at h ⊢
    obtain ⟨v,rows',S1,S2,h1,rfl,h3,h4⟩:=h
    exact ⟨v,rows',S1,S2,h1,rfl,h3.frame fun j hj=>hf j (by simp [hj]),OwnG.frame h4 fun j hj=>hf j (by simp [hj])⟩
theorem OwnG.length {A : List Box} : ∀ {bs : List SigI} {rows : List (List AV)} {S : List Nat},OwnG A bs rows S → rows.length = bs.length
  | [],rows,S,h=>by rw [OwnG] at h; rw [h.1]; rfl
  | b :: bs,rows,S,h=>by
    rw [OwnG] at h
    obtain ⟨v,rows',S1,S2,rfl,h2,h3,h4⟩:=h
    simp [OwnG.length h4]
theorem OwnG.low {A : List Box} : ∀ {bs : List SigI} {rows : List (List AV)} {S : List Nat},OwnG A bs rows S → ∀ i ∈ S,i < A.length
  | [],rows,S,h=>by rw [OwnG] at h; rw [h.2]; simp
  | b :: bs,rows,S,h=>by
    rw [OwnG] at h
    obtain ⟨v,rows',S1,S2,h1,rfl,h3,h4⟩:=h
    intro j hj
    rcases List.mem_append.1 hj with hj | hj
    · exact h3.low j hj
    · exact OwnG.low h4 j hj
theorem OwnG.append {A : List Box} : ∀ {k1 k2 : List SigI} {r1 r2 : List (List AV)} {S1 S2 : List Nat},OwnG A k1 r1 S1 → OwnG A k2 r2 S2 → OwnG A (k1 ++ k2) (r1 ++ r2) (S1 ++ S2)
  | [],k2,r1,r2,S1,S2,h1,h2=>by
    rw [OwnG] at h1
    rw [h1.1,h1.2]; exact h2
  | t :: k1,k2,r1,r2,S1,S2,h1,h2=>by
    rw [OwnG] at h1
    obtain ⟨v,r',T1,T2,rfl,rfl,h3,h4⟩:=h1
    rw [List.cons_append,OwnG]
    exact ⟨v,r' ++ r2,T1,T2 ++ S2,by simp,by simp,h3,OwnG.append h4 h2⟩
theorem OwnG.view {A : List Box} : ∀ {bs : List SigI} {rows : List (List AV)} {S : List Nat},OwnG A bs rows S → ∀ k,k < rows.length → ∀ j,j < 6 → View A ((rows.getD k []).getD j .bot) ((sE (bs.getD k si0)).getD j .bot)
  | [],rows,S,h=>by rw [OwnG] at h; rw [h.1]; intro k hk; simp at hk
  | b :: bs,rows,S,h=>by
    rw [OwnG] at h
    obtain ⟨v,rows',S1,S2,rfl,h2,h3,h4⟩:=h
    intro k hk j hj
    cases k with
    | zero =>
      have hv:=h3.view
      have e0 : (sE ((b :: bs).getD 0 si0)) = sE b:=rfl
      rw [e0,sE6]
      match j,hj with
      | 0,_=>exact .leaf _ rfl
      | 1,_=>exact .leaf _ rfl
      | 2,_=>exact .leaf _ rfl
      | 3,_=>exact .leaf _ rfl
      | 4,_=>exact .leaf _ rfl
      | 5,_=>exact hv
    | succ k =>
      have:=OwnG.view h4 k (by simpa using hk) j hj
      simpa using this
theorem OwnG.viewG {A : List Box} {bs : List SigI} {rows : List (List AV)} {S : List Nat} {i : Nat} (h : A.getD i .dead = .gr none 6 rows) (hb : OwnG A bs rows S) : View A (.own i) (.slice (sEs bs)):=by
  refine .gr i 6 none rows (sEs bs) h (by rw [sEs_length,hb.length]) (fun r hr=>?_) fun k j hk hj=>?_
  · obtain ⟨t,_,rfl⟩:=List.mem_map.1 hr
    exact ⟨sE_length t,sE_leaf t⟩
  · unfold Abs.rowAt
    rw [sEs_getD (by rw [← hb.length]; exact hk)]
    exact hb.view k hk j hj
def NewG (A : List Box) (bs : List SigI) (j : Nat) (A' : List Box) : Prop :=
  A.length ≤ A'.length ∧ (∀ k,k < A.length → A'.getD k .dead = A.getD k .dead) ∧ ∃ rows S,A'.getD j .dead = .gr none 6 rows ∧ OwnG A' bs rows S ∧ (j :: S).Nodup ∧ ∀ i ∈ j :: S,A.length ≤ i
set_option maxRecDepth 100000 in
theorem toSigI_own (b : SigI) (hb : szI b ≤ 1048576) (A : List Box) : ACalls Tryz.prog 73 [.agg (sEA b)] A (fun r A'=>∃ j,r = .agg ([.int .i64 b.kind,.str b.name,.int .i64 b.typ.kind,.str b.typ.mod,.str b.typ.name,.own j]) ∧ NewK A b.typ.kids j A'):=by
  have ht:=toType_own b.typ (by rw [szI] at hb; omega)
  unfold TypN at ht
  rw [encA4s] at ht
  rw [sEA,encA4s]
  refine acalls_enterK (cf:=cf 15 [0,1,2,3]) foll Tryz.func73 Tryz.ntmps73 (by simp [cf]) ?_
  simp only [Tryz.f73,EnterK_some,zW,zX,zD,builtinA,isLeaf,const1,ustrA,simprocAttr,ti3,ti9,ti25,ti36,ti124,ti129,ca87,cf,Tryz.results73]
  refine callK_intro (by simp only [zW,zX,zD,builtinA,isLeaf,const1,ustrA,simprocAttr,Option.map_some] <;> rfl) (ht _) ?_ rfl
  rintro r A' ⟨j,rfl,hle,hf,rows,S,hg,hR,hND,hge⟩
  simp only [List.length_append,List.length_cons,List.length_nil] at hle hf hge
  have gb : ∀ i b',([Box.cells [AV.int IntKind.i64 b.kind,AV.str b.name,AV.int IntKind.i64 b.typ.kind,AV.str b.typ.mod,AV.str b.typ.name,AV.aslice (encAs b.typ.kids)],Box.cells [AV.int IntKind.i64 0,AV.str [],AV.int IntKind.i64 0,AV.str [],AV.str [],AV.nils],Box.cells [AV.int IntKind.i64 b.kind,AV.str b.name,AV.int IntKind.i64 0,AV.str [],AV.str [],AV.nils]] : List Box).getD i .dead = b' → i < 3 → A'.getD (A.length + i) .dead = b':=fun i b' h hi=>by
    rw [hf _ (by omega),Abs.getD_append_right (by omega),show A.length + i - A.length = i by omega]; exact h
  have g1:=gb 1 _ rfl (by omega)
  have g2:=gb 2 _ rfl (by omega)
  have hl1 : A.length + 1 < A'.length:=by omega
  have hl2 : A.length + 2 < A'.length:=by omega
  have s1 : ∀ X : Box,(A'.set (A.length + 2) X).getD (A.length + 2) .dead = X:=fun X=>getD_set_self hl2
  have s2 : ∀ X : Box,(A'.set (A.length + 2) X).getD (A.length + 1) .dead = .cells [AV.int IntKind.i64 0,AV.str [],AV.int IntKind.i64 0,AV.str [],AV.str [],AV.nils]:=fun X=>by rw [getD_set_ne' (by omega)]; exact g1
  have s3 : ∀ X Y : Box,((A'.set (A.length + 2) X).set (A.length + 1) Y).getD (A.length + 1) .dead = Y:=fun X Y=>getD_set_self (by simpa using hl1)
  have fin : ∀ X Y : Box,NewK A b.typ.kids j ((A'.set (A.length + 2) X).set (A.length + 1) Y):=fun X Y=>by
    refine ⟨by simp; omega,fun i hi=>?_,rows,S,?_,hR.frame fun i hi=>?_,hND,fun i hi=>by have:=hge i hi; omega⟩
    · rw [getD_set_ne' (by omega),getD_set_ne' (by omega),hf i (by omega),Abs.getD_append_left hi]
    · have:=hge j (by simp)
      rw [getD_set_ne' (by omega),getD_set_ne' (by omega)]; exact hg
    · have:=hge i (by simp [hi])
      rw [getD_set_ne' (by omega),getD_set_ne' (by omega)]
  simp only [zW,zX,zD,builtinA,isLeaf,const1,ustrA,simprocAttr,ti3,ti9,ti25,ti36,ti124,ti129,ca87,cf,Tryz.results73,g1,g2,s1,s2,s3]
  exact ⟨j,rfl,fin _ _⟩
set_option maxRecDepth 100000 in
theorem toSigIS_own (ks : List SigI) (hl : ks.length ≤ 1048576) (hz : ∀ b ∈ ks,szI b ≤ 1048576) (A : List Box) : ACalls Tryz.prog 24 [.aslice (sEAs ks)] A (fun r A'=>∃ j,r = .own j ∧ NewG A ks j A'):=by
  have hk : ∀ b ∈ ks,∀ A,ACalls Tryz.prog 73 [.agg (sEA b)] A (fun r A'=>∃ j,r = .agg ([.int .i64 b.kind,.str b.name,.int .i64 b.typ.kind,.str b.typ.mod,.str b.typ.name,.own j]) ∧ NewK A b.typ.kids j A'):=fun b hb A=>toSigI_own b (hz b hb) A
  have hl2 : ((sEAs ks).length : Int) ≤ 1048576:=by rw [sEAs_length]; omega
  refine ACalls.grow ?_
  refine acalls_enterK (cf:=cf 23 [0,2,3,4,11]) foll Tryz.func24 Tryz.ntmps24 (by simp [cf]) ?_
  simp only [Tryz.f24,EnterK_some,zW,zX,zD,builtinA,isLeaf,const1,ustrA,simprocAttr,ti3,ti52,ti54,ti124,ti129,ca73,cf,Tryz.results24]
  refine ⟨⟨by omega,by omega,by omega⟩,?_⟩
  refine aloop_intro [0,3,4] (fun e A'=>∃ (p : Nat) (rl : List (List AV)) (SL : List Nat),p ≤ ks.length ∧ e = [(0,.aslice (sEAs ks)),(3,.own A.length),(4,.int .i64 p)] ∧ A'.getD A.length .dead = (if p = 0 then .row 6 (List.replicate ks.length zsi) 0 else .gr none 6 (rl ++ List.replicate (ks.length - p) zsi)) ∧
    rl.length = p ∧ OwnG A' (ks.take p) rl SL ∧ SL.Nodup ∧ (∀ i ∈ SL,A.length < i) ∧ A.length < A'.length ∧ ∀ k,k < A.length → A'.getD k .dead = A.getD k .dead) (fun e _=>ks.length - (intOf (Abs.look 4 e)).toNat) ?_ ?_
  · simp only [zW,zX,zD,builtinA,isLeaf,const1,ustrA,simprocAttr,ti3,ti52,ti54,ti124,ti129,ca73,cf,Tryz.results24]
    refine ⟨0,[],[],by omega,rfl,?_,rfl,by simp [OwnG],by simp,by simp,by simp,fun k hk=>Abs.getD_append_left hk⟩
    rw [if_pos rfl,sEAs_length]
    rfl
  · rintro e A' ⟨p,rl,SL,hp,rfl,hb,hrl,hO,hN,hlo,hlt,hfr⟩
    simp only [zW,zX,zD,builtinA,isLeaf,const1,ustrA,simprocAttr,ti3,ti52,ti54,ti124,ti129,ca73,cf,Tryz.results24,sEAs_length]
    refine condK_intro (fun h2=>?_) (fun h2=>?_)
    · have hp2 : p < ks.length:=by simpa using h2
      have he:=sEAs_getD hp2
      have hm:=si_mem hp2
      simp only [zW,zX,zD,builtinA,isLeaf,const1,ustrA,simprocAttr,ti3,ti52,ti54,ti124,ti129,ca73,cf,Tryz.results24,he,sEA_length,sEA_take,sEAs_length]
      refine ⟨⟨by omega,by omega⟩,?_⟩
      refine callK_intro (by simp only [zW,zX,zD,builtinA,isLeaf,const1,ustrA,simprocAttr,frzL_sEA,Option.map_some] <;> rfl) (hk _ hm _) ?_ rfl
      rintro r A3 ⟨j,rfl,hle,hf3,rows,S,hg,hR,hND,hge⟩
      have hi1 : IntKind.i64.wrap ((p : Int) + 1) = ((p + 1 : Nat) : Int):=by rw [wrap64 (by omega) (by omega)]; rfl
      have hb3 : A3.getD A.length .dead = (if p = 0 then .row 6 (List.replicate ks.length zsi) 0 else .gr none 6 (rl ++ List.replicate (ks.length - p) zsi)):=by rw [hf3 _ hlt]; exact hb
      have hjA : A.length ≠ j:=fun e=>by have:=hge j (by simp); omega
      generalize ht : ks.getD p si0 = t at *
      have key : ∀ (n0 : Nat) (z : List (List AV)),n0 = ks.length → z.length = ks.length → z.take p = rl → z.drop p = List.replicate (ks.length - p) zsi → z.set p ([.int .i64 t.kind,.str t.name,.int .i64 t.typ.kind,.str t.typ.mod,.str t.typ.name,.own j]) = (rl ++ [[.int .i64 t.kind,.str t.name,.int .i64 t.typ.kind,.str t.typ.mod,.str t.typ.name,.own j]]) ++ List.replicate (ks.length - (p + 1)) zsi:=fun n0 z h0 h1 h2 h3=>by
        have e1 : z = rl ++ List.replicate (ks.length - p) zsi:=by rw [← h2,← h3,List.take_append_drop]
        rw [e1,show ks.length - p = (ks.length - (p + 1)) + 1 by omega,List.replicate_succ,List.set_append_right _ _ (by omega),hrl,Nat.sub_self]
        simp
      have fin : ∀ Z,Z = Box.gr none 6 ((rl ++ [[.int .i64 t.kind,.str t.name,.int .i64 t.typ.kind,.str t.typ.mod,.str t.typ.name,.own j]]) ++ List.replicate (ks.length - (p + 1)) zsi) → ∃ (p' : Nat) (rl' : List (List AV)) (SL' : List Nat),p' ≤ ks.length ∧ [(0,AV.aslice (sEAs ks)),(3,.own A.length),(4,.int .i64 ((p + 1 : Nat) : Int))] = [(0,.aslice (sEAs ks)),(3,.own A.length),(4,.int .i64 p')] ∧ (A3.set A.length Z).getD A.length .dead = (if p' = 0 then .row 6 (List.replicate ks.length zsi) 0 else .gr none 6 (rl' ++ List.replicate (ks.length - p') zsi)) ∧
          rl'.length = p' ∧ OwnG (A3.set A.length Z) (ks.take p') rl' SL' ∧ SL'.Nodup ∧ (∀ i ∈ SL',A.length < i) ∧ A.length < (A3.set A.length Z).length ∧ ∀ k,k < A.length → (A3.set A.length Z).getD k .dead = A.getD k .dead:=fun Z hZ=>by
        have hlt3 : A.length < A3.length:=by omega
        have low:=hO.low
        refine ⟨p + 1,rl ++ [[.int .i64 t.kind,.str t.name,.int .i64 t.typ.kind,.str t.typ.mod,.str t.typ.name,.own j]],SL ++ (j :: S),by omega,rfl,?_,by simp [hrl],?_,?_,?_,by simpa using hlt3,fun k hk=>?_⟩
        · rw [getD_set_self hlt3,if_neg (by omega)]; exact hZ
        · have hts : ks.take (p + 1) = ks.take p ++ [t]:=by rw [← ht]; exact take_snoc si0 hp2
          rw [hts]
          refine (hO.frame fun i hi=>?_).append ?_
          · have h1:=hlo i hi
            have h2:=low i hi
            rw [getD_set_ne' (by omega),hf3 i h2]
          · rw [OwnG]
            refine ⟨_,[],j :: S,[],rfl,by simp,?_,by simp [OwnG]⟩
            refine .inr (.inr ⟨j,rows,S,rfl,rfl,by rw [getD_set_ne' hjA]; exact hg,hR.frame fun i hi=>?_⟩)
            have:=hge i (by simp [hi])
            rw [getD_set_ne' (by omega)]
        · refine List.nodup_append.2 ⟨hN,hND,fun x hx y hy=>?_⟩
          have:=low x hx
          have:=hge y hy
          omega
        · intro i hi
          rcases List.mem_append.1 hi with hi | hi
          · exact hlo i hi
          · have:=hge i hi; omega
        · rw [getD_set_ne' (by omega),hf3 k (by omega),hfr k hk]
      have hel : ∀ v ∈ [AV.int .i64 t.kind,.str t.name,.int .i64 t.typ.kind,.str t.typ.mod,.str t.typ.name,.own j],isElem v = true:=by simp [isElem,isLeaf]
      by_cases hp0 : p = 0
      · rw [if_pos hp0] at hb3
        have hz:=key ks.length (List.replicate ks.length zsi) rfl (by simp) (by subst hp0; simp at hrl; simp [hrl]) (by subst hp0; simp)
        have hdz : List.drop 6 ((List.replicate ks.length zsi).getD p []) = []:=by rw [getD_repl hp2]; rfl
        simp only [zW,zX,zD,builtinA,isLeaf,const1,ustrA,simprocAttr,ti3,ti52,ti54,ti124,ti129,ca73,cf,Tryz.results24,hg,hb3,hz,hdz,hi1,LoopK_eq]
        refine ⟨⟨by omega,by simp; omega⟩,⟨by simp; omega,hel⟩,by simpa only [List.append_assoc,List.cons_append,List.nil_append,List.length_set] using fin _ rfl,?_⟩
        simp only [intOf]; omega
      · rw [if_neg hp0] at hb3
        have hz:=key ks.length (rl ++ List.replicate (ks.length - p) zsi) rfl (by simp; omega) (by rw [← hrl]; simp) (by rw [← hrl]; simp)
        have hdz : List.drop 6 ((rl ++ List.replicate (ks.length - p) zsi).getD p []) = []:=by
          rw [Abs.getD_append_right (by omega),hrl,Nat.sub_self,getD_repl (by omega)]; rfl
        simp only [zW,zX,zD,builtinA,isLeaf,const1,ustrA,simprocAttr,ti3,ti52,ti54,ti124,ti129,ca73,cf,Tryz.results24,hg,hb3,hz,hdz,hi1,LoopK_eq]
        refine ⟨⟨by omega,by simp; omega⟩,⟨by simp; omega,hel⟩,by simpa only [List.append_assoc,List.cons_append,List.nil_append,List.length_set] using fin _ rfl,?_⟩
        simp only [intOf]; omega
    · have hp2 : p = ks.length:=by simp at h2; omega
      subst hp2
      simp only [zW,zX,zD,builtinA,isLeaf,const1,ustrA,simprocAttr,ti3,ti52,ti54,ti124,ti129,ca73,cf,Tryz.results24]
      rw [List.take_length] at hO
      have low:=hO.low
      have hnd : (A.length :: SL).Nodup:=List.nodup_cons.2 ⟨fun h=>by have:=hlo _ h; omega,hN⟩
      have hge : ∀ i ∈ A.length :: SL,A.length ≤ i:=fun i hi=>by
        rcases List.mem_cons.1 hi with rfl | hi
        · exact Nat.le_refl _
        · have:=hlo i hi; omega
      by_cases h0 : ks.length = 0
      · have hk0 : ks = []:=List.length_eq_zero_iff.1 h0
        rw [if_pos h0,h0] at hb
        refine .inr ⟨A.length,6,[],by rw [hb]; rfl,A.length,rfl,by simp; omega,fun k hk=>by rw [getD_set_ne' (by omega)]; exact hfr k hk,[],[],getD_set_self hlt,by rw [hk0]; simp [OwnG],by simp,by simp⟩
      · rw [if_neg h0] at hb
        refine .inl ⟨A.length,rfl,by omega,hfr,rl,SL,by rw [hb]; simp,hO,hnd,hge⟩
end Go.Proofs.YtijlnkfiadajhaaGreat
namespace Go.Proofs.YtijlnkfiadajhaaGreat
open Go.Abs
def OwnI (A : List Box) (xs : List SigI) (v : AV) (S : List Nat) : Prop :=
  (v = .nils ∧ xs = [] ∧ S = []) ∨ ∃ i rows S',v = .own i ∧ S = i :: S' ∧ A.getD i .dead = .gr none 6 rows ∧ OwnG A xs rows S'
theorem OwnI.frame {A A' : List Box} {xs : List SigI} {v : AV} {S : List Nat} (h : OwnI A xs v S) (hf : ∀ i ∈ S,A'.getD i .dead = A.getD i .dead) : OwnI A' xs v S:=by
  rcases h with h | ⟨i,rows,S',h1,h2,h3,h4⟩
  · exact .inl h
  · subst h2
    exact .inr ⟨i,rows,S',h1,rfl,by rw [hf i (by simp)]; exact h3,h4.frame fun j hj=>hf j (by simp [hj])⟩
theorem OwnI.low {A : List Box} {xs : List SigI} {v : AV} {S : List Nat} (h : OwnI A xs v S) : ∀ i ∈ S,i < A.length:=by
  rcases h with ⟨_,_,rfl⟩ | ⟨i,rows,S',h1,rfl,h3,h4⟩
  · simp
  · intro j hj
    rcases List.mem_cons.1 hj with rfl | hj
    · exact live_lt h3 (by simp)
    · exact h4.low j hj
theorem OwnI.view {A : List Box} {xs : List SigI} {v : AV} {S : List Nat} (h : OwnI A xs v S) : View A v (.slice (sEs xs)):=by
  rcases h with ⟨rfl,rfl,_⟩ | ⟨i,rows,S',rfl,_,h3,h4⟩
  · exact .nils
  · exact OwnG.viewG h3 h4
end Go.Proofs.YtijlnkfiadajhaaGreat
namespace Go.Proofs.YtijlnkfiadajhaaGreat
open Go.Abs
def totG : List SigI → Nat
  | []=>0
  | b :: bs=>5 + 3 * counts b.typ.kids + totG bs
theorem totG_app : ∀ a b : List SigI,totG (a ++ b) = totG a + totG b
  | [],b=>by simp [totG]
  | x :: a,b=>by rw [List.cons_append,totG,totG,totG_app a b]; omega
theorem totG_take {bs : List SigI} {p : Nat} (h : p < bs.length) : totG (bs.take (p + 1)) = totG (bs.take p) + (5 + 3 * counts (bs.getD p si0).typ.kids):=by
  rw [si_take h,totG_app]; simp [totG]
theorem totG_le (bs : List SigI) (p : Nat) : totG (bs.take p) ≤ totG bs:=by
  conv=>rhs; rw [← List.take_append_drop p bs]
  rw [totG_app]; omega
theorem si_drop' {l : List SigI} {i : Nat} (h : i < l.length) : l.drop i = l.getD i si0 :: l.drop (i + 1):=by
  have : l.getD i si0 = l[i]:=by simp [List.getD,h]
  rw [this,List.getElem_cons_drop h]
mutual
theorem count_le_szG : ∀ t : Ty,count t ≤ 1 + sz t
  | .mk k m n ks=>by rw [count,sz]; have:=counts_le_szG ks; omega
theorem counts_le_szG : ∀ l : List Ty,counts l ≤ l.length + szs l
  | []=>by simp [counts]
  | t :: l=>by rw [counts,szs,List.length_cons]; have:=count_le_szG t; have:=counts_le_szG l; omega
end
theorem totG_sz : ∀ bs : List SigI,totG bs ≤ 5 * bs.length + 3 * szIs bs
  | []=>by simp [totG]
  | b :: bs=>by
    have h:=totG_sz bs
    have e : szIs (b :: bs) = szI b + szIs bs:=by simp [szIs]
    have h2:=counts_le_szG b.typ.kids
    have h3 : b.typ.kids.length + szs b.typ.kids ≤ sz b.typ:=by cases b.typ; rw [sz]; simp [Ty.kids]
    rw [totG,e,List.length_cons,szI]; omega
set_option maxRecDepth 100000 in
theorem laws_markSigItemS (ks : List SigI) (hks : ks.length < 2 ^ 63) (hok : ∀ b ∈ ks,b.Ok) (A : List Box) (i : Nat) (rows : List (List AV)) (S' : List Nat) (k : Int) (hb : A.getD i .dead = .gr none 6 rows) (hR : OwnG A ks rows S') (hN : (i :: S').Nodup) (h0 : 0 ≤ k) (h1 : k + totG ks ≤ 2 ^ 50) :
    ACalls Tryz.prog 27 [.own i,.int .i64 k] A (fun r A'=>r = .int .i64 (k + totG ks) ∧ A'.length = A.length ∧ ∀ j,j ∉ i :: S' → A'.getD j .dead = A.getD j .dead):=by
  have hil:=live_lt hb (by simp)
  have hlen:=hR.length
  refine acalls_enterK (cf:=cf 62 [0,1,4,5,9]) foll Tryz.func27 Tryz.ntmps27 (by simp [cf]) ?_
  simp only [Tryz.f27,EnterK_some,zW,zX,zD,builtinA,isLeaf,const1,ustrA,simprocAttr,ti3,ti9,ti34,ti36,ti54,ti129,ca79,ca80,cf,Tryz.results27]
  refine aloop_intro [0,1,5] (fun e A'=>∃ (p : Nat) (rl rr : List (List AV)) (SL SR : List Nat),p ≤ ks.length ∧ e = [(0,.own i),(1,.int .i64 (k + totG (ks.take p))),(5,.int .i64 p)] ∧ A'.length = A.length ∧ A'.getD i .dead = .gr none 6 (rl ++ rr) ∧ rl.length = p ∧
    OwnG A' (ks.drop p) rr SR ∧ S' = SL ++ SR ∧ ∀ j,j ∉ i :: S' → A'.getD j .dead = A.getD j .dead) (fun e _=>ks.length - (intOf (Abs.look 5 e)).toNat) ?_ ?_
  · refine ⟨0,[],rows,[],S',by omega,?_,rfl,hb,rfl,by simpa using hR,rfl,fun _ _=>rfl⟩
    simp only [zW,zX,zD,builtinA,isLeaf,const1,ustrA,simprocAttr,ti3,ti9,ti34,ti36,ti54,ti129,ca79,ca80,cf,Tryz.results27]
    simp [totG]
  · rintro e A' ⟨p,rl,rr,SL,SR,hp,rfl,hl,hb',hrl,hRr,hS,hfr⟩
    have hrr:=hRr.length
    have hrows : rl.length + rr.length = ks.length:=by simp at hrr; omega
    simp only [zW,zX,zD,builtinA,isLeaf,const1,ustrA,simprocAttr,ti3,ti9,ti34,ti36,ti54,ti129,ca79,ca80,cf,Tryz.results27,hb',hrows]
    refine condK_intro (fun h2=>?_) (fun h2=>?_)
    · have hp2 : p < ks.length:=by simpa using h2
      have hne : i ∉ S':=(List.nodup_cons.1 hN).1
      have hnd : (SL ++ SR).Nodup:=by rw [← hS]; exact (List.nodup_cons.1 hN).2
      rw [si_drop' hp2,OwnG] at hRr
      obtain ⟨vk,rr',S1,S2,rfl,rfl,hK,hR'⟩:=hRr
      have hmem:=si_mem hp2
      have hil' : i < A'.length:=by omega
      have hct:=totG_take hp2
      have hcl:=totG_le ks (p + 1)
      have hok1:=hok _ hmem
      generalize ks.getD p si0 = b at *
      generalize hk1 : k + (totG (ks.take p) : Int) = k1 at *
      have b0 : 0 ≤ k1:=by omega
      have b1 : k1 + 5 + 3 * counts b.typ.kids ≤ 2 ^ 50:=by omega
      have w1 : IntKind.i64.wrap (k1 + 1) = k1 + 1:=wrap64 (by omega) (by omega)
      have w2 : IntKind.i64.wrap (k1 + 1 + 1) = k1 + 2:=by rw [wrap64 (by omega) (by omega)]; omega
      have w3 : IntKind.i64.wrap (k1 + 2 + 1) = k1 + 3:=by rw [wrap64 (by omega) (by omega)]; omega
      have w4 : IntKind.i64.wrap (k1 + 3 + 1) = k1 + 4:=by rw [wrap64 (by omega) (by omega)]; omega
      have w5 : IntKind.i64.wrap (k1 + 4 + 1) = k1 + 5:=by rw [wrap64 (by omega) (by omega)]; omega
      have hi1 : IntKind.i64.wrap ((p : Int) + 1) = ((p + 1 : Nat) : Int):=by rw [wrap64 (by omega) (by omega)]; rfl
      have hg : ∀ x : List AV,((rl ++ x :: rr').getD p []) = x:=fun x=>by simp [List.getD,List.getElem?_append_right,hrl]
      have hst : ∀ x y : List AV,(rl ++ x :: rr').set p y = rl ++ y :: rr':=fun x y=>by rw [List.set_append_right _ _ (by omega),hrl,Nat.sub_self]; rfl
      have hgs : ∀ X,(A'.set i X).getD i .dead = X:=fun X=>getD_set1 hil'
      have hpl : p < rl.length + (rr'.length + 1):=by simp at hrows; omega
      have hpi : (p : Int) < ((rl.length + (rr'.length + 1) : Nat) : Int):=by omega
      simp only [sRow] at hb'
      simp only [zW,zX,zD,builtinA,isLeaf,const1,ustrA,simprocAttr,ti3,ti9,ti34,ti36,ti54,ti129,ca79,ca80,cf,Tryz.results27,hb',hg,hst,hgs,List.set_set,w1]
      refine ⟨⟨by omega,hpi⟩,⟨hpl,by simp [isElem,isLeaf]⟩,?_⟩
      refine callK_intro (by simp only [zW,zX,zD,builtinA,isLeaf,const1,ustrA,simprocAttr]; rfl) (laws_markText (k1 + 1) (by omega) _) ?_ rfl; rintro v A' ⟨rfl,rfl⟩
      simp only [zW,zX,zD,builtinA,isLeaf,const1,ustrA,simprocAttr,ti3,ti9,ti34,ti36,ti54,ti129,ca79,ca80,cf,Tryz.results27,hb',hg,hst,hgs,List.set_set,w2,w3]
      refine ⟨⟨by omega,hpi⟩,⟨hpl,by simp [isElem,isLeaf]⟩,⟨by omega,hpi⟩,⟨hpl,by simp [isElem,isLeaf]⟩,?_⟩
      refine callK_intro (by simp only [zW,zX,zD,builtinA,isLeaf,const1,ustrA,simprocAttr]; rfl) (laws_markText (k1 + 3) (by omega) _) ?_ rfl; rintro v A' ⟨rfl,rfl⟩
      simp only [zW,zX,zD,builtinA,isLeaf,const1,ustrA,simprocAttr,ti3,ti9,ti34,ti36,ti54,ti129,ca79,ca80,cf,Tryz.results27,hb',hg,hst,hgs,List.set_set,w4]
      refine ⟨⟨by omega,hpi⟩,⟨hpl,by simp [isElem,isLeaf]⟩,?_⟩
      refine callK_intro (by simp only [zW,zX,zD,builtinA,isLeaf,const1,ustrA,simprocAttr]; rfl) (laws_markText (k1 + 4) (by omega) _) ?_ rfl; rintro v A' ⟨rfl,rfl⟩
      simp only [zW,zX,zD,builtinA,isLeaf,const1,ustrA,simprocAttr,ti3,ti9,ti34,ti36,ti54,ti129,ca79,ca80,cf,Tryz.results27,hb',hg,hst,hgs,List.set_set,w5]
      refine ⟨⟨by omega,hpi⟩,⟨hpl,by simp [isElem,isLeaf]⟩,⟨by omega,hpi⟩,?_⟩
      have hiS1 : i ∉ S1:=fun h=>hne (by rw [hS]; simp [h])
      have hm : MarkS b.typ.kids:=markS _ hok1.2
      refine callO_intro (hm _ vk S1 (k1 + 5) (hK.frame fun j hj=>by rw [getD_set_ne' (fun e=>hiS1 (by rw [e]; exact hj))]) ((List.nodup_append.1 (List.nodup_append.1 hnd).2.1).1) (by omega) b1) ?_
      rintro r A3 ⟨rfl,hl3,hK3,hf3⟩
      simp only [zW,zX,zD,builtinA,isLeaf,const1,ustrA,simprocAttr,ti3,ti9,ti34,ti36,ti54,ti129,ca79,ca80,cf,Tryz.results27,hi1,LoopK_eq]
      have hms:=markL_next b.typ.kids (k1 + 5)
      have hd2:=(List.nodup_append.1 (List.nodup_append.1 hnd).2.1).2.2
      have fR : ∀ j ∈ S2,A3.getD j .dead = A'.getD j .dead:=fun j hj=>by
        rw [hf3 j (fun h=>hd2 j h j hj rfl),getD_set_ne' (fun e=>hne (by rw [hS,e]; simp [hj]))]
      refine ⟨⟨p + 1,rl ++ [[AV.int IntKind.i64 k1,AV.str (mtx (k1 + 1)),AV.int IntKind.i64 (k1 + 2),AV.str (mtx (k1 + 3)),AV.str (mtx (k1 + 4)),vk]],rr',SL ++ S1,S2,by omega,?_,?_,?_,?_,hR'.frame fR,by rw [hS]; simp,fun j hj=>?_⟩,?_⟩
      · rw [hms]
        have e : k1 + 5 + 3 * (counts b.typ.kids : Int) = k + (totG (ks.take (p + 1)) : Int):=by rw [hct]; omega
        rw [e]
      · rw [hl3]; simpa using hl
      · rw [hf3 i hiS1,getD_set_self hil']; simp
      · simp [hrl]
      · have hj1 : j ≠ i:=fun e=>hj (by simp [e])
        have hj2 : j ∉ S1:=fun h=>hj (by rw [hS]; simp [h])
        rw [hf3 j hj2,getD_set_ne' (Ne.symm hj1)]
        exact hfr j hj
      · simp only [intOf]; omega
    · have hp2 : p = ks.length:=by simp at h2; omega
      subst hp2
      simp only [zW,zX,zD,builtinA,isLeaf,const1,ustrA,simprocAttr,ti3,ti9,ti34,ti36,ti54,ti129,ca79,ca80,cf,Tryz.results27]
      exact ⟨hl,hfr⟩
end Go.Proofs.YtijlnkfiadajhaaGreat
/- What the program's method plain makes: a type that is owned. -/
set_option linter.unusedVariables false
set_option linter.unusedSimpArgs false
namespace Go.Proofs.YtijlnkfiadajhaaGreat
open Go.Abs
def isFn : VT → Bool
  | .fn _ _=>true
  | _=>false
def plen : VT → Nat
  | .fn a b=>3 + plen a + plen b
  | _=>2
def prow : VT → Nat → Bool → List AV
  | .num,n,nest=>[.int .i64 1,.str [],.str [],bif nest then .nils else .slice []]
  | .nm m k,n,nest=>[.int .i64 3,.str m,.str k,bif nest then .nils else .slice []]
  | .fn a b,n,nest=>[.int .i64 2,.str [],.str [],.own (n + (2 + plen a + plen b))]
def pbox : VT → Nat → List Box
  | .num,n=>[.cells [],.cells [.int .i64 1,.str [],.str [],.nils]]
  | .nm m k,n=>[.cells [.str m,.str k],.cells [.int .i64 3,.str m,.str k,.nils]]
  | .fn a b,n=>.cells [.iface (vT a) (vX a),.iface (vT b) (vX b)] :: .cells [.int .i64 2,.str [],.str [],.own (n + (2 + plen a + plen b))] :: (pbox a (n + 2) ++ (pbox b (n + 2 + plen a) ++
      [.gr none 4 [prow a (n + 2) (isFn a || isFn b),prow b (n + 2 + plen a) (isFn a || isFn b)]]))
def pidx : VT → Nat → List Nat
  | .fn a b,n=>(n + (2 + plen a + plen b)) :: (pidx a (n + 2) ++ pidx b (n + 2 + plen a))
  | _,_=>[]
theorem pbox_length : ∀ v n,(pbox v n).length = plen v
  | .num,n=>rfl
  | .nm _ _,n=>rfl
  | .fn a b,n=>by simp [pbox,plen,pbox_length a,pbox_length b]; omega
theorem pidx_in : ∀ v n,∀ i ∈ pidx v n,n ≤ i ∧ i < n + plen v
  | .num,n=>by simp [pidx]
  | .nm _ _,n=>by simp [pidx]
  | .fn a b,n=>by
    intro i hi
    simp only [pidx,List.mem_cons,List.mem_append] at hi
    simp only [plen]
    rcases hi with rfl | hi | hi
    · omega
    · have:=pidx_in a _ i hi; omega
    · have:=pidx_in b _ i hi; omega
theorem pidx_nodup : ∀ v n,(pidx v n).Nodup
  | .num,n=>by simp [pidx]
  | .nm _ _,n=>by simp [pidx]
  | .fn a b,n=>by
    simp only [pidx,List.nodup_cons,List.mem_append,not_or]
    refine ⟨⟨fun h=>?_,fun h=>?_⟩,List.nodup_append.2 ⟨pidx_nodup a _,pidx_nodup b _,fun x hx y hy=>?_⟩⟩
    · have:=pidx_in a _ _ h; omega
    · have:=pidx_in b _ _ h; omega
    · have:=pidx_in a _ _ hx; have:=pidx_in b _ _ hy; omega
theorem prow_length (v : VT) (n : Nat) (b : Bool) : (prow v n b).length = 4:=by cases v <;> rfl
theorem prow_leaf (v : VT) (n : Nat) (h : isFn v = false) : ∀ x ∈ prow v n false,isLeaf x = true:=by
  cases v with
  | num=>simp [prow,isLeaf]
  | nm=>simp [prow,isLeaf]
  | fn=>cases h
theorem prow_elem (v : VT) (n : Nat) (b : Bool) : ∀ x ∈ prow v n b,isElem x = true:=by
  cases v <;> cases b <;> simp [prow,isElem,isLeaf]
theorem tail_app (A : List Box) (x y : Box) (P Q : List Box) (z : Box) : A ++ x :: y :: (P ++ (Q ++ [z])) = (A ++ x :: y :: (P ++ Q)) ++ [z]:=by simp
theorem pbox_top (x y : VT) (n : Nat) (B C : List Box) (h : B.length = n) : (B ++ pbox (.fn x y) n ++ C).getD (n + (2 + plen x + plen y)) .dead = .gr none 4 [prow x (n + 2) (isFn x || isFn y),prow y (n + 2 + plen x) (isFn x || isFn y)]:=by
  have hl:=pbox_length (.fn x y) n
  simp only [plen] at hl
  rw [Abs.getD_append_left (by rw [List.length_append]; omega),Abs.getD_append_right (by omega),h,show n + (2 + plen x + plen y) - n = (plen x + plen y) + 1 + 1 by omega]
  simp only [pbox,List.getD_cons_succ]
  rw [Abs.getD_append_right (by rw [pbox_length]; omega),pbox_length,show plen x + plen y - plen x = plen y by omega,Abs.getD_append_right (by rw [pbox_length]; omega),pbox_length,Nat.sub_self]
  rfl
theorem own_plain : ∀ (v : VT) (n : Nat) (nest : Bool) (L : List Box),(∀ k,k < plen v → L.getD (n + k) .dead = (pbox v n).getD k .dead) → OwnT L (toTy v) (prow v n nest) (pidx v n)
  | .num,n,nest,L,h=>by
    rw [toTy,ownT_mk]
    cases nest
    · exact ⟨.slice [],rfl,.inr (.inl ⟨rfl,rfl,rfl⟩)⟩
    · exact ⟨.nils,rfl,.inl ⟨rfl,rfl,rfl⟩⟩
  | .nm m k,n,nest,L,h=>by
    rw [toTy,ownT_mk]
    cases nest
    · exact ⟨.slice [],rfl,.inr (.inl ⟨rfl,rfl,rfl⟩)⟩
    · exact ⟨.nils,rfl,.inl ⟨rfl,rfl,rfl⟩⟩
  | .fn a b,n,nest,L,h=>by
    rw [toTy,ownT_mk]
    have ha:=own_plain a (n + 2) (isFn a || isFn b) L fun k hk=>by
      have:=h (2 + k) (by simp [plen]; omega)
      rw [show n + 2 + k = n + (2 + k) by omega,this]
      simp only [pbox]
      rw [show 2 + k = k + 1 + 1 by omega,List.getD_cons_succ,List.getD_cons_succ,Abs.getD_append_left (by rw [pbox_length]; exact hk)]
    have hb:=own_plain b (n + 2 + plen a) (isFn a || isFn b) L fun k hk=>by
      have:=h (2 + plen a + k) (by simp [plen]; omega)
      rw [show n + 2 + plen a + k = n + (2 + plen a + k) by omega,this]
      simp only [pbox]
      rw [show 2 + plen a + k = (plen a + k) + 1 + 1 by omega,List.getD_cons_succ,List.getD_cons_succ,Abs.getD_append_right (by rw [pbox_length]; omega),pbox_length,
        show plen a + k - plen a = k by omega,Abs.getD_append_left (by rw [pbox_length]; exact hk)]
    refine ⟨.own (n + (2 + plen a + plen b)),rfl,.inr (.inr ⟨_,[prow a (n + 2) (isFn a || isFn b),prow b (n + 2 + plen a) (isFn a || isFn b)],_,rfl,rfl,?_,?_⟩)⟩
    · rw [h (2 + plen a + plen b) (by rw [plen]; omega)]
      simp only [pbox]
      rw [show 2 + plen a + plen b = (plen a + plen b) + 1 + 1 by omega,List.getD_cons_succ,List.getD_cons_succ,Abs.getD_append_right (by rw [pbox_length]; omega),pbox_length,
        show plen a + plen b - plen a = plen b by omega,Abs.getD_append_right (by rw [pbox_length]; omega),pbox_length,Nat.sub_self]
      rfl
    · rw [OwnR]
      refine ⟨_,_,_,_,rfl,rfl,ha,?_⟩
      rw [OwnR]
      exact ⟨_,_,pidx b (n + 2 + plen a),[],rfl,by simp,hb,by simp [OwnR]⟩
theorem meth_invE {own : FuncId → Bool} {name : String} {gs : VT → FuncId} {v : VT} {args : List AV} {x : AV} {N : Nat} {ops : Array Oper} {T : Ranks} {As : Nat → List Box} {Q : Env → Prop} {k : Nat} {rest : List Oper} {d : Option Tmp} {e : Env}
    (hm : Met name gs) (h : ACalls Tryz.prog (gs v) (vX v :: args) (As (T.lo k)) (fun v' A'=>v' = x ∧ A' = As (T.next k (T.lo k)))) (hr : T.lo k = T.hi k)
    (hk : wpG Tryz.prog own N ops T As Q (k + 1) rest (putA N d x e)) : InvE Tryz.prog own N ops T As Q k name (.iface (vT v) (vX v)) args rest d e :=
  ⟨gs v,hm.find v,hm.call v,callEO_intro h hk hr⟩
def PlainM (v : VT) : Prop:=∀ A,ACalls Tryz.prog ((pickF 459 484 391) v) [vX v] A (fun r A'=>r = .agg (prow v A.length true) ∧ A' = A ++ pbox v A.length)
set_option maxRecDepth 100000 in
theorem num_plain : PlainM .num:=fun A=>by
  show ACalls Tryz.prog 459 _ _ _
  rw [vX]
  refine acalls_enterK (cf:=cf 4 [0,2]) foll Tryz.func459 Tryz.ntmps459 (by simp [cf]) ?_
  simp only [Tryz.f459,EnterK_some,zW,zX,zD,builtinA,isLeaf,const1,ustrA,simprocAttr,ti36,ti455,cf,Tryz.results459]
  exact ⟨rfl,rfl⟩
set_option maxRecDepth 100000 in
theorem name_plain (m k : List UInt8) : PlainM (.nm m k):=fun A=>by
  show ACalls Tryz.prog 391 _ _ _
  rw [vX]
  refine acalls_enterK (cf:=cf 8 [0,1,2]) foll Tryz.func391 Tryz.ntmps391 (by simp [cf]) ?_
  simp only [Tryz.f391,EnterK_some,zW,zX,zD,builtinA,isLeaf,const1,ustrA,simprocAttr,ti9,ti36,ti282,cf,Tryz.results391]
  exact ⟨rfl,rfl⟩
set_option maxRecDepth 100000 in
theorem fun_plain (a b : VT) (ha : PlainM a) (hb : PlainM b) : PlainM (.fn a b):=fun A=>by
  show ACalls Tryz.prog 484 _ _ _
  rw [vX]
  refine ACalls.grow ?_
  have ea : (pbox a (A.length + 2)).length = plen a:=pbox_length _ _
  have eb : (pbox b (A.length + 2 + plen a)).length = plen b:=pbox_length _ _
  have ca : ACalls Tryz.prog ((pickF 459 484 391) a) [vX a] (A ++ [Box.cells [.iface (vT a) (vX a),.iface (vT b) (vX b)],Box.cells [.int .i64 0,.str [],.str [],.nils]]) (fun r A'=>r = .agg (prow a (A.length + 2) true) ∧ A' = A ++ (Box.cells [.iface (vT a) (vX a),.iface (vT b) (vX b)] :: Box.cells [.int .i64 0,.str [],.str [],.nils] :: pbox a (A.length + 2))):=by
    have:=ha (A ++ [Box.cells [.iface (vT a) (vX a),.iface (vT b) (vX b)],Box.cells [.int .i64 0,.str [],.str [],.nils]])
    simpa using this
  have cb : ACalls Tryz.prog ((pickF 459 484 391) b) [vX b] (A ++ (Box.cells [.iface (vT a) (vX a),.iface (vT b) (vX b)] :: Box.cells [.int .i64 0,.str [],.str [],.nils] :: pbox a (A.length + 2))) (fun r A'=>r = .agg (prow b (A.length + 2 + plen a) true) ∧ A' = A ++ (Box.cells [.iface (vT a) (vX a),.iface (vT b) (vX b)] :: Box.cells [.int .i64 0,.str [],.str [],.nils] :: (pbox a (A.length + 2) ++ pbox b (A.length + 2 + plen a)))):=by
    have:=hb (A ++ (Box.cells [.iface (vT a) (vX a),.iface (vT b) (vX b)] :: Box.cells [.int .i64 0,.str [],.str [],.nils] :: pbox a (A.length + 2)))
    have hl : (A ++ (Box.cells [.iface (vT a) (vX a),.iface (vT b) (vX b)] :: Box.cells [.int .i64 0,.str [],.str [],.nils] :: pbox a (A.length + 2))).length = A.length + 2 + plen a:=by simp [ea]; omega
    rw [hl] at this
    simpa using this
  have hl2 : (A ++ (Box.cells [.iface (vT a) (vX a),.iface (vT b) (vX b)] :: Box.cells [.int .i64 0,.str [],.str [],.nils] :: (pbox a (A.length + 2) ++ pbox b (A.length + 2 + plen a)))).length = A.length + (2 + plen a + plen b):=by simp [ea,eb]; omega
  cases hf : (isFn a || isFn b) with
  | false =>
    have fz : ∀ B,frzs [.agg (prow a (A.length + 2) true),.agg (prow b (A.length + 2 + plen a) true)] B = some ([.agg (prow a (A.length + 2) false),.agg (prow b (A.length + 2 + plen a) false)],B):=by
      intro B
      cases a <;> cases b <;> simp [isFn] at hf <;> rfl
    have la : (prow a (A.length + 2) false).length = 4:=prow_length _ _ _
    have lb : (prow b (A.length + 2 + plen a) false).length = 4:=prow_length _ _ _
    refine acalls_enterK (cf:=cf 11 [0,1,2]) foll Tryz.func484 Tryz.ntmps484 (by simp [cf]) ?_
    simp only [Tryz.f484,EnterK_some,zW,zX,zD,builtinA,isLeaf,const1,ustrA,simprocAttr,ti34,ti36,ti262,ti490,cf,Tryz.results484]
    refine .inr (drawE_intro [(false,0,0),(false,0,0),(true,0,0),(false,0,1),(false,0,1),(true,1,1),(true,2,2),(false,3,3),(true,3,3)] [A ++ [Box.cells [.iface (vT a) (vX a),.iface (vT b) (vX b)],Box.cells [.int .i64 0,.str [],.str [],.nils]],A ++ (Box.cells [.iface (vT a) (vX a),.iface (vT b) (vX b)] :: Box.cells [.int .i64 0,.str [],.str [],.nils] :: pbox a (A.length + 2)),A ++ (Box.cells [.iface (vT a) (vX a),.iface (vT b) (vX b)] :: Box.cells [.int .i64 0,.str [],.str [],.nils] :: (pbox a (A.length + 2) ++ pbox b (A.length + 2 + plen a))),A ++ (Box.cells [.iface (vT a) (vX a),.iface (vT b) (vX b)] :: Box.cells [.int .i64 0,.str [],.str [],.nils] :: (pbox a (A.length + 2) ++ (pbox b (A.length + 2 + plen a) ++ [.row 4 [prow a (A.length + 2) false,prow b (A.length + 2 + plen a) false] 0]))),A ++ (Box.cells [.iface (vT a) (vX a),.iface (vT b) (vX b)] :: Box.cells [.int .i64 2,.str [],.str [],.own (A.length + (2 + plen a + plen b))] :: (pbox a (A.length + 2) ++ (pbox b (A.length + 2 + plen a) ++ [.row 4 [prow a (A.length + 2) false,prow b (A.length + 2 + plen a) false] 0])))] 4 rfl (by kernel_rfl) (by kernel_rfl) (by kernel_rfl) (by kernel_rfl) (by kernel_rfl) (by kernel_rfl) ?_)
    simp only [zW,zX,zD,builtinA,isLeaf,const1,ustrA,simprocAttr,ti34,ti36,ti262,ti490,cf,Tryz.results484]
    refine wpG_invoke _ _ _ _ _ _ _ _ _ _ _ _ _ _ _ _ _ _ ?_
    simp only [zW,zX,zD,builtinA,isLeaf,const1,ustrA,simprocAttr,ti34,ti36,ti262,ti490,cf,Tryz.results484]
    refine meth_invE (met3 (by kernel_rfl) (by kernel_rfl) (by kernel_rfl) (by kernel_rfl) (by kernel_rfl) (by kernel_rfl)) ca rfl ?_
    simp only [zW,zX,zD,builtinA,isLeaf,const1,ustrA,simprocAttr,ti34,ti36,ti262,ti490,cf,Tryz.results484]
    refine wpG_invoke _ _ _ _ _ _ _ _ _ _ _ _ _ _ _ _ _ _ ?_
    simp only [zW,zX,zD,builtinA,isLeaf,const1,ustrA,simprocAttr,ti34,ti36,ti262,ti490,cf,Tryz.results484]
    refine meth_invE (met3 (by kernel_rfl) (by kernel_rfl) (by kernel_rfl) (by kernel_rfl) (by kernel_rfl) (by kernel_rfl)) cb rfl ?_
    simp only [zW,zX,zD,builtinA,isLeaf,const1,ustrA,simprocAttr,ti34,ti36,ti262,ti490,cf,Tryz.results484,fz,la,lb,hl2]
    refine ⟨⟨prow_leaf a _ (by simp at hf; exact hf.1),prow_leaf b _ (by simp at hf; exact hf.2)⟩,.inr ⟨A.length + (2 + plen a + plen b),4,[prow a (A.length + 2) false,prow b (A.length + 2 + plen a) false],?_,rfl,?_⟩⟩
    · rw [tail_app A _ _ (pbox a (A.length + 2)) (pbox b (A.length + 2 + plen a)) _,Abs.getD_append_right (by simp [ea,eb]; omega)]
      simp [ea,eb]
      rw [show A.length + (2 + plen a + plen b) - (A.length + (plen a + plen b + 1 + 1)) = 0 by omega]
      rfl
    · rw [tail_app A _ _ (pbox a (A.length + 2)) (pbox b (A.length + 2 + plen a)) _,List.set_append_right _ _ (by simp [ea,eb]; omega)]
      simp [ea,eb]
      rw [show A.length + (2 + plen a + plen b) - (A.length + (plen a + plen b + 1 + 1)) = 0 by omega]
      simp [pbox,hf]
  | true =>
    have fz : frzs [.agg (prow a (A.length + 2) true),.agg (prow b (A.length + 2 + plen a) true)] (A ++ (Box.cells [.iface (vT a) (vX a),.iface (vT b) (vX b)] :: Box.cells [.int .i64 0,.str [],.str [],.nils] :: (pbox a (A.length + 2) ++ pbox b (A.length + 2 + plen a)))) = none:=by
      have hb2 : ∀ B C : List Box,B.length = A.length + 2 + plen a → isFn b = true → frzC (.agg (prow b (A.length + 2 + plen a) true)) (B ++ pbox b (A.length + 2 + plen a) ++ C) = none:=fun B C hB h=>by
        cases b with
        | num=>cases h
        | nm=>cases h
        | fn x y =>
          have hg : (B ++ pbox (.fn x y) (A.length + 2 + plen a) ++ C).getD (A.length + 2 + plen a + (2 + plen x + plen y)) .dead = .gr none 4 [prow x (A.length + 2 + plen a + 2) (isFn x || isFn y),prow y (A.length + 2 + plen a + 2 + plen x) (isFn x || isFn y)]:=pbox_top _ _ _ _ _ hB
          simp only [prow,frzC,frzL,frz1,hg]
          rfl
      have ha2 : ∀ B C : List Box,B.length = A.length + 2 → frzC (.agg (prow a (A.length + 2) true)) (B ++ pbox a (A.length + 2) ++ C) = if isFn a = true then none else some (.agg (prow a (A.length + 2) false),(B ++ pbox a (A.length + 2) ++ C)):=fun B C hB=>by
        cases a with
        | num=>rfl
        | nm=>rfl
        | fn x y =>
          have hg : (B ++ pbox (.fn x y) (A.length + 2) ++ C).getD (A.length + 2 + (2 + plen x + plen y)) .dead = .gr none 4 [prow x (A.length + 2 + 2) (isFn x || isFn y),prow y (A.length + 2 + 2 + plen x) (isFn x || isFn y)]:=pbox_top _ _ _ _ _ hB
          simp only [prow,frzC,frzL,frz1,hg]
          rfl
      have e1 : (A ++ (Box.cells [.iface (vT a) (vX a),.iface (vT b) (vX b)] :: Box.cells [.int .i64 0,.str [],.str [],.nils] :: (pbox a (A.length + 2) ++ pbox b (A.length + 2 + plen a)))) = (A ++ [Box.cells [.iface (vT a) (vX a),.iface (vT b) (vX b)],Box.cells [.int .i64 0,.str [],.str [],.nils]]) ++ pbox a (A.length + 2) ++ pbox b (A.length + 2 + plen a):=by simp
      rw [e1]
      simp only [frzs]
      rw [ha2 _ _ (by simp)]
      by_cases h : isFn a = true
      · rw [if_pos h]
      · rw [if_neg h]
        have hb1 : isFn b = true:=by simp [h] at hf; exact hf
        have:=hb2 ((A ++ [Box.cells [.iface (vT a) (vX a),.iface (vT b) (vX b)],Box.cells [.int .i64 0,.str [],.str [],.nils]]) ++ pbox a (A.length + 2)) [] (by simp [ea]; omega) hb1
        rw [List.append_nil] at this
        simp only [this]
    have la : (prow a (A.length + 2) true).length = 4:=prow_length _ _ _
    have lb : (prow b (A.length + 2 + plen a) true).length = 4:=prow_length _ _ _
    refine acalls_enterK (cf:=cf 11 [0,1,2]) foll Tryz.func484 Tryz.ntmps484 (by simp [cf]) ?_
    simp only [Tryz.f484,EnterK_some,zW,zX,zD,builtinA,isLeaf,const1,ustrA,simprocAttr,ti34,ti36,ti262,ti490,cf,Tryz.results484]
    refine .inr (drawE_intro [(false,0,0),(false,0,0),(true,0,0),(false,0,1),(false,0,1),(true,1,1),(true,2,2),(false,3,3),(true,3,3)] [A ++ [Box.cells [.iface (vT a) (vX a),.iface (vT b) (vX b)],Box.cells [.int .i64 0,.str [],.str [],.nils]],A ++ (Box.cells [.iface (vT a) (vX a),.iface (vT b) (vX b)] :: Box.cells [.int .i64 0,.str [],.str [],.nils] :: pbox a (A.length + 2)),A ++ (Box.cells [.iface (vT a) (vX a),.iface (vT b) (vX b)] :: Box.cells [.int .i64 0,.str [],.str [],.nils] :: (pbox a (A.length + 2) ++ pbox b (A.length + 2 + plen a))),A ++ (Box.cells [.iface (vT a) (vX a),.iface (vT b) (vX b)] :: Box.cells [.int .i64 0,.str [],.str [],.nils] :: (pbox a (A.length + 2) ++ (pbox b (A.length + 2 + plen a) ++ [.gr none 4 [prow a (A.length + 2) true,prow b (A.length + 2 + plen a) true]]))),A ++ (Box.cells [.iface (vT a) (vX a),.iface (vT b) (vX b)] :: Box.cells [.int .i64 2,.str [],.str [],.own (A.length + (2 + plen a + plen b))] :: (pbox a (A.length + 2) ++ (pbox b (A.length + 2 + plen a) ++ [.gr none 4 [prow a (A.length + 2) true,prow b (A.length + 2 + plen a) true]])))] 4 rfl (by kernel_rfl) (by kernel_rfl) (by kernel_rfl) (by kernel_rfl) (by kernel_rfl) (by kernel_rfl) ?_)
    simp only [zW,zX,zD,builtinA,isLeaf,const1,ustrA,simprocAttr,ti34,ti36,ti262,ti490,cf,Tryz.results484]
    refine wpG_invoke _ _ _ _ _ _ _ _ _ _ _ _ _ _ _ _ _ _ ?_
    simp only [zW,zX,zD,builtinA,isLeaf,const1,ustrA,simprocAttr,ti34,ti36,ti262,ti490,cf,Tryz.results484]
    refine meth_invE (met3 (by kernel_rfl) (by kernel_rfl) (by kernel_rfl) (by kernel_rfl) (by kernel_rfl) (by kernel_rfl)) ca rfl ?_
    simp only [zW,zX,zD,builtinA,isLeaf,const1,ustrA,simprocAttr,ti34,ti36,ti262,ti490,cf,Tryz.results484]
    refine wpG_invoke _ _ _ _ _ _ _ _ _ _ _ _ _ _ _ _ _ _ ?_
    simp only [zW,zX,zD,builtinA,isLeaf,const1,ustrA,simprocAttr,ti34,ti36,ti262,ti490,cf,Tryz.results484]
    refine meth_invE (met3 (by kernel_rfl) (by kernel_rfl) (by kernel_rfl) (by kernel_rfl) (by kernel_rfl) (by kernel_rfl)) cb rfl ?_
    simp only [zW,zX,zD,builtinA,isLeaf,const1,ustrA,simprocAttr,ti34,ti36,ti262,ti490,cf,Tryz.results484,fz,la,lb,hl2]
    refine ⟨⟨prow_elem a _ _,prow_elem b _ _⟩,.inl ⟨rfl,?_⟩⟩
    simp [pbox,hf]
theorem plainM : ∀ v,PlainM v
  | .num=>num_plain
  | .nm m k=>name_plain m k
  | .fn a b=>fun_plain a b (plainM a) (plainM b)
end Go.Proofs.YtijlnkfiadajhaaGreat
