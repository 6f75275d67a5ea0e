/- OwnSi, Jf, Draw, DrawTy. -/
import Derived.Test.YtnjdbgiincliaaaGreatM08
import Derived.Test.YtnjdbgiincliaaaGreatAbsW3
import Derived.Test.YtnjdbgiincliaaaGreatRows
/- Marks in a list of items that is owned. -/
set_option linter.unusedVariables false
set_option linter.unusedSimpArgs false
namespace Go.Proofs.YtnjdbgiincliaaaGreat
open Go.Abs
theorem enc4s (t : Ty) : enc t = [.int .i64 t.kind,.str t.mod,.str t.name,.slice (encs t.kids)]:=by cases t; rw [enc]; rfl
theorem encA4s (t : Ty) : encA t = [.int .i64 t.kind,.str t.mod,.str t.name,.aslice (encAs t.kids)]:=by cases t; rw [encA]; rfl
theorem sE6 (x : SigI) : sE x = [.int .i64 x.kind,.str x.name,.int .i64 x.typ.kind,.str x.typ.mod,.str x.typ.name,.slice (encs x.typ.kids)]:=by rw [sE,enc4s]
def sRow (b : SigI) (v : AV) : List AV:=[.int .i64 b.kind,.str b.name,.int .i64 b.typ.kind,.str b.typ.mod,.str b.typ.name,v]
def OwnG (A : List Box) : List SigI → List (List AV) → List Nat → Prop
  | [],rows,S=>rows = [] ∧ S = []
  | b :: bs,rows,S=>∃ v rows' S1 S2,rows = sRow b v :: rows' ∧ S = S1 ++ S2 ∧ OwnK A b.typ.kids v S1 ∧ OwnG A bs rows' S2
theorem OwnG.frame {A A' : List Box} : ∀ {bs : List SigI} {rows : List (List AV)} {S : List Nat},OwnG A bs rows S → (∀ i ∈ S,A'.getD i .dead = A.getD i .dead) → OwnG A' bs rows S
  | [],rows,S,h,hf=>h
  | b :: bs,rows,S,h,hf=>by
    rw [OwnG] at h ⊢
    obtain ⟨v,rows',S1,S2,h1,rfl,h3,h4⟩:=h
    exact ⟨v,rows',S1,S2,h1,rfl,h3.frame fun j hj=>hf j (by simp [hj]),OwnG.frame h4 fun j hj=>hf j (by simp [hj])⟩
theorem OwnG.length {A : List Box} : ∀ {bs : List SigI} {rows : List (List AV)} {S : List Nat},OwnG A bs rows S → rows.length = bs.length
  | [],rows,S,h=>by rw [OwnG] at h; rw [h.1]; rfl
  | b :: bs,rows,S,h=>by
    rw [OwnG] at h
    obtain ⟨v,rows',S1,S2,rfl,h2,h3,h4⟩:=h
    simp [OwnG.length h4]
theorem OwnG.low {A : List Box} : ∀ {bs : List SigI} {rows : List (List AV)} {S : List Nat},OwnG A bs rows S → ∀ i ∈ S,i < A.length
  | [],rows,S,h=>by rw [OwnG] at h; rw [h.2]; simp
  | b :: bs,rows,S,h=>by
    rw [OwnG] at h
    obtain ⟨v,rows',S1,S2,h1,rfl,h3,h4⟩:=h
    intro j hj
    rcases List.mem_append.1 hj with hj | hj
    · exact h3.low j hj
    · exact OwnG.low h4 j hj
theorem OwnG.append {A : List Box} : ∀ {k1 k2 : List SigI} {r1 r2 : List (List AV)} {S1 S2 : List Nat},OwnG A k1 r1 S1 → OwnG A k2 r2 S2 → OwnG A (k1 ++ k2) (r1 ++ r2) (S1 ++ S2)
  | [],k2,r1,r2,S1,S2,h1,h2=>by
    rw [OwnG] at h1
    rw [h1.1,h1.2]; exact h2
  | t :: k1,k2,r1,r2,S1,S2,h1,h2=>by
    rw [OwnG] at h1
    obtain ⟨v,r',T1,T2,rfl,rfl,h3,h4⟩:=h1
    rw [List.cons_append,OwnG]
    exact ⟨v,r' ++ r2,T1,T2 ++ S2,by simp,by simp,h3,OwnG.append h4 h2⟩
theorem OwnG.view {A : List Box} : ∀ {bs : List SigI} {rows : List (List AV)} {S : List Nat},OwnG A bs rows S → ∀ k,k < rows.length → ∀ j,j < 6 → View A ((rows.getD k []).getD j .bot) ((sE (bs.getD k si0)).getD j .bot)
  | [],rows,S,h=>by rw [OwnG] at h; rw [h.1]; intro k hk; simp at hk
  | b :: bs,rows,S,h=>by
    rw [OwnG] at h
    obtain ⟨v,rows',S1,S2,rfl,h2,h3,h4⟩:=h
    intro k hk j hj
    cases k with
    | zero =>
      have hv:=h3.view
      have e0 : (sE ((b :: bs).getD 0 si0)) = sE b:=rfl
      rw [e0,sE6]
      match j,hj with
      | 0,_=>exact .leaf _ rfl
      | 1,_=>exact .leaf _ rfl
      | 2,_=>exact .leaf _ rfl
      | 3,_=>exact .leaf _ rfl
      | 4,_=>exact .leaf _ rfl
      | 5,_=>exact hv
    | succ k =>
      have:=OwnG.view h4 k (by simpa using hk) j hj
      simpa using this
theorem OwnG.viewG {A : List Box} {bs : List SigI} {rows : List (List AV)} {S : List Nat} {i : Nat} (h : A.getD i .dead = .gr none 6 rows) (hb : OwnG A bs rows S) : View A (.own i) (.slice (sEs bs)):=by
  refine .gr i 6 none rows (sEs bs) h (by rw [sEs_length,hb.length]) (fun r hr=>?_) fun k j hk hj=>?_
  · obtain ⟨t,_,rfl⟩:=List.mem_map.1 hr
    exact ⟨sE_length t,sE_leaf t⟩
  · unfold Abs.rowAt
    rw [sEs_getD (by rw [← hb.length]; exact hk)]
    exact hb.view k hk j hj
def NewG (A : List Box) (bs : List SigI) (j : Nat) (A' : List Box) : Prop :=
  A.length ≤ A'.length ∧ (∀ k,k < A.length → A'.getD k .dead = A.getD k .dead) ∧ ∃ rows S,A'.getD j .dead = .gr none 6 rows ∧ OwnG A' bs rows S ∧ (j :: S).Nodup ∧ ∀ i ∈ j :: S,A.length ≤ i
set_option maxRecDepth 100000 in
theorem toSigI_own (b : SigI) (hb : szI b ≤ 1048576) (A : List Box) : ACalls Tryz.prog 90 [.agg (sEA b)] A (fun r A'=>∃ j,r = .agg ([.int .i64 b.kind,.str b.name,.int .i64 b.typ.kind,.str b.typ.mod,.str b.typ.name,.own j]) ∧ NewK A b.typ.kids j A'):=by
  have ht:=toType_own b.typ (by rw [szI] at hb; omega)
  unfold TypN at ht
  rw [encA4s] at ht
  rw [sEA,encA4s]
  refine acalls_enterK (cf:=cf 15 [0,1,2,3]) foll Tryz.func90 Tryz.ntmps90 (by simp [cf]) ?_
  simp only [Tryz.f90,EnterK_some,zW,zX,zD,builtinA,isLeaf,const1,ustrA,simprocAttr,ti3,ti9,ti25,ti36,ti69,ti134,ca141,cf,Tryz.results90]
  refine callK_intro (by simp only [zW,zX,zD,builtinA,isLeaf,const1,ustrA,simprocAttr,Option.map_some] <;> rfl) (ht _) ?_ rfl
  rintro r A' ⟨j,rfl,hle,hf,rows,S,hg,hR,hND,hge⟩
  simp only [List.length_append,List.length_cons,List.length_nil] at hle hf hge
  have gb : ∀ i b',([Box.cells [AV.int IntKind.i64 b.kind,AV.str b.name,AV.int IntKind.i64 b.typ.kind,AV.str b.typ.mod,AV.str b.typ.name,AV.aslice (encAs b.typ.kids)],Box.cells [AV.int IntKind.i64 0,AV.str [],AV.int IntKind.i64 0,AV.str [],AV.str [],AV.nils],Box.cells [AV.int IntKind.i64 b.kind,AV.str b.name,AV.int IntKind.i64 0,AV.str [],AV.str [],AV.nils]] : List Box).getD i .dead = b' → i < 3 → A'.getD (A.length + i) .dead = b':=fun i b' h hi=>by
    rw [hf _ (by omega),Abs.getD_append_right (by omega),show A.length + i - A.length = i by omega]; exact h
  have g1:=gb 1 _ rfl (by omega)
  have g2:=gb 2 _ rfl (by omega)
  have hl1 : A.length + 1 < A'.length:=by omega
  have hl2 : A.length + 2 < A'.length:=by omega
  have s1 : ∀ X : Box,(A'.set (A.length + 2) X).getD (A.length + 2) .dead = X:=fun X=>getD_set_self hl2
  have s2 : ∀ X : Box,(A'.set (A.length + 2) X).getD (A.length + 1) .dead = .cells [AV.int IntKind.i64 0,AV.str [],AV.int IntKind.i64 0,AV.str [],AV.str [],AV.nils]:=fun X=>by rw [getD_set_ne' (by omega)]; exact g1
  have s3 : ∀ X Y : Box,((A'.set (A.length + 2) X).set (A.length + 1) Y).getD (A.length + 1) .dead = Y:=fun X Y=>getD_set_self (by simpa using hl1)
  have fin : ∀ X Y : Box,NewK A b.typ.kids j ((A'.set (A.length + 2) X).set (A.length + 1) Y):=fun X Y=>by
    refine ⟨by simp; omega,fun i hi=>?_,rows,S,?_,hR.frame fun i hi=>?_,hND,fun i hi=>by have:=hge i hi; omega⟩
    · rw [getD_set_ne' (by omega),getD_set_ne' (by omega),hf i (by omega),Abs.getD_append_left hi]
    · have:=hge j (by simp)
      rw [getD_set_ne' (by omega),getD_set_ne' (by omega)]; exact hg
    · have:=hge i (by simp [hi])
      rw [getD_set_ne' (by omega),getD_set_ne' (by omega)]
  simp only [zW,zX,zD,builtinA,isLeaf,const1,ustrA,simprocAttr,ti3,ti9,ti25,ti36,ti69,ti134,ca141,cf,Tryz.results90,g1,g2,s1,s2,s3]
  exact ⟨j,rfl,fin _ _⟩
set_option maxRecDepth 100000 in
theorem toSigIS_own (ks : List SigI) (hl : ks.length ≤ 1048576) (hz : ∀ b ∈ ks,szI b ≤ 1048576) (A : List Box) : ACalls Tryz.prog 24 [.aslice (sEAs ks)] A (fun r A'=>∃ j,r = .own j ∧ NewG A ks j A'):=by
  have hk : ∀ b ∈ ks,∀ A,ACalls Tryz.prog 90 [.agg (sEA b)] A (fun r A'=>∃ j,r = .agg ([.int .i64 b.kind,.str b.name,.int .i64 b.typ.kind,.str b.typ.mod,.str b.typ.name,.own j]) ∧ NewK A b.typ.kids j A'):=fun b hb A=>toSigI_own b (hz b hb) A
  have hl2 : ((sEAs ks).length : Int) ≤ 1048576:=by rw [sEAs_length]; omega
  refine ACalls.grow ?_
  refine acalls_enterK (cf:=cf 23 [0,2,3,4,11]) foll Tryz.func24 Tryz.ntmps24 (by simp [cf]) ?_
  simp only [Tryz.f24,EnterK_some,zW,zX,zD,builtinA,isLeaf,const1,ustrA,simprocAttr,ti3,ti46,ti50,ti69,ti134,ca90,cf,Tryz.results24]
  refine ⟨⟨by omega,by omega,by omega⟩,?_⟩
  refine aloop_intro [0,3,4] (fun e A'=>∃ (p : Nat) (rl : List (List AV)) (SL : List Nat),p ≤ ks.length ∧ e = [(0,.aslice (sEAs ks)),(3,.own A.length),(4,.int .i64 p)] ∧ A'.getD A.length .dead = (if p = 0 then .row 6 (List.replicate ks.length zsi) 0 else .gr none 6 (rl ++ List.replicate (ks.length - p) zsi)) ∧
    rl.length = p ∧ OwnG A' (ks.take p) rl SL ∧ SL.Nodup ∧ (∀ i ∈ SL,A.length < i) ∧ A.length < A'.length ∧ ∀ k,k < A.length → A'.getD k .dead = A.getD k .dead) (fun e _=>ks.length - (intOf (Abs.look 4 e)).toNat) ?_ ?_
  · simp only [zW,zX,zD,builtinA,isLeaf,const1,ustrA,simprocAttr,ti3,ti46,ti50,ti69,ti134,ca90,cf,Tryz.results24]
    refine ⟨0,[],[],by omega,rfl,?_,rfl,by simp [OwnG],by simp,by simp,by simp,fun k hk=>Abs.getD_append_left hk⟩
    rw [if_pos rfl,sEAs_length]
    rfl
  · rintro e A' ⟨p,rl,SL,hp,rfl,hb,hrl,hO,hN,hlo,hlt,hfr⟩
    simp only [zW,zX,zD,builtinA,isLeaf,const1,ustrA,simprocAttr,ti3,ti46,ti50,ti69,ti134,ca90,cf,Tryz.results24,sEAs_length]
    refine condK_intro (fun h2=>?_) (fun h2=>?_)
    · have hp2 : p < ks.length:=by simpa using h2
      have he:=sEAs_getD hp2
      have hm:=si_mem hp2
      simp only [zW,zX,zD,builtinA,isLeaf,const1,ustrA,simprocAttr,ti3,ti46,ti50,ti69,ti134,ca90,cf,Tryz.results24,he,sEA_length,sEA_take,sEAs_length]
      refine ⟨⟨by omega,by omega⟩,?_⟩
      refine callK_intro (by simp only [zW,zX,zD,builtinA,isLeaf,const1,ustrA,simprocAttr,frzL_sEA,Option.map_some] <;> rfl) (hk _ hm _) ?_ rfl
      rintro r A3 ⟨j,rfl,hle,hf3,rows,S,hg,hR,hND,hge⟩
      have hi1 : IntKind.i64.wrap ((p : Int) + 1) = ((p + 1 : Nat) : Int):=by rw [wrap64 (by omega) (by omega)]; rfl
      have hb3 : A3.getD A.length .dead = (if p = 0 then .row 6 (List.replicate ks.length zsi) 0 else .gr none 6 (rl ++ List.replicate (ks.length - p) zsi)):=by rw [hf3 _ hlt]; exact hb
      have hjA : A.length ≠ j:=fun e=>by have:=hge j (by simp); omega
      generalize ht : ks.getD p si0 = t at *
      have key : ∀ (n0 : Nat) (z : List (List AV)),n0 = ks.length → z.length = ks.length → z.take p = rl → z.drop p = List.replicate (ks.length - p) zsi → z.set p ([.int .i64 t.kind,.str t.name,.int .i64 t.typ.kind,.str t.typ.mod,.str t.typ.name,.own j]) = (rl ++ [[.int .i64 t.kind,.str t.name,.int .i64 t.typ.kind,.str t.typ.mod,.str t.typ.name,.own j]]) ++ List.replicate (ks.length - (p + 1)) zsi:=fun n0 z h0 h1 h2 h3=>by
        have e1 : z = rl ++ List.replicate (ks.length - p) zsi:=by rw [← h2,← h3,List.take_append_drop]
        rw [e1,show ks.length - p = (ks.length - (p + 1)) + 1 by omega,List.replicate_succ,List.set_append_right _ _ (by omega),hrl,Nat.sub_self]
        simp
      have fin : ∀ Z,Z = Box.gr none 6 ((rl ++ [[.int .i64 t.kind,.str t.name,.int .i64 t.typ.kind,.str t.typ.mod,.str t.typ.name,.own j]]) ++ List.replicate (ks.length - (p + 1)) zsi) → ∃ (p' : Nat) (rl' : List (List AV)) (SL' : List Nat),p' ≤ ks.length ∧ [(0,AV.aslice (sEAs ks)),(3,.own A.length),(4,.int .i64 ((p + 1 : Nat) : Int))] = [(0,.aslice (sEAs ks)),(3,.own A.length),(4,.int .i64 p')] ∧ (A3.set A.length Z).getD A.length .dead = (if p' = 0 then .row 6 (List.replicate ks.length zsi) 0 else .gr none 6 (rl' ++ List.replicate (ks.length - p') zsi)) ∧
          rl'.length = p' ∧ OwnG (A3.set A.length Z) (ks.take p') rl' SL' ∧ SL'.Nodup ∧ (∀ i ∈ SL',A.length < i) ∧ A.length < (A3.set A.length Z).length ∧ ∀ k,k < A.length → (A3.set A.length Z).getD k .dead = A.getD k .dead:=fun Z hZ=>by
        have hlt3 : A.length < A3.length:=by omega
        have low:=hO.low
        refine ⟨p + 1,rl ++ [[.int .i64 t.kind,.str t.name,.int .i64 t.typ.kind,.str t.typ.mod,.str t.typ.name,.own j]],SL ++ (j :: S),by omega,rfl,?_,by simp [hrl],?_,?_,?_,by simpa using hlt3,fun k hk=>?_⟩
        · rw [getD_set_self hlt3,if_neg (by omega)]; exact hZ
        · have hts : ks.take (p + 1) = ks.take p ++ [t]:=by rw [← ht]; exact take_snoc si0 hp2
          rw [hts]
          refine (hO.frame fun i hi=>?_).append ?_
          · have h1:=hlo i hi
            have h2:=low i hi
            rw [getD_set_ne' (by omega),hf3 i h2]
          · rw [OwnG]
            refine ⟨_,[],j :: S,[],rfl,by simp,?_,by simp [OwnG]⟩
            refine .inr (.inr ⟨j,rows,S,rfl,rfl,by rw [getD_set_ne' hjA]; exact hg,hR.frame fun i hi=>?_⟩)
            have:=hge i (by simp [hi])
            rw [getD_set_ne' (by omega)]
        · refine List.nodup_append.2 ⟨hN,hND,fun x hx y hy=>?_⟩
          have:=low x hx
          have:=hge y hy
          omega
        · intro i hi
          rcases List.mem_append.1 hi with hi | hi
          · exact hlo i hi
          · have:=hge i hi; omega
        · rw [getD_set_ne' (by omega),hf3 k (by omega),hfr k hk]
      have hel : ∀ v ∈ [AV.int .i64 t.kind,.str t.name,.int .i64 t.typ.kind,.str t.typ.mod,.str t.typ.name,.own j],isElem v = true:=by simp [isElem,isLeaf]
      by_cases hp0 : p = 0
      · rw [if_pos hp0] at hb3
        have hz:=key ks.length (List.replicate ks.length zsi) rfl (by simp) (by subst hp0; simp at hrl; simp [hrl]) (by subst hp0; simp)
        have hdz : List.drop 6 ((List.replicate ks.length zsi).getD p []) = []:=by rw [getD_repl hp2]; rfl
        simp only [zW,zX,zD,builtinA,isLeaf,const1,ustrA,simprocAttr,ti3,ti46,ti50,ti69,ti134,ca90,cf,Tryz.results24,hg,hb3,hz,hdz,hi1,LoopK_eq]
        refine ⟨⟨by omega,by simp; omega⟩,⟨by simp; omega,hel⟩,by simpa only [List.append_assoc,List.cons_append,List.nil_append,List.length_set] using fin _ rfl,?_⟩
        simp only [intOf]; omega
      · rw [if_neg hp0] at hb3
        have hz:=key ks.length (rl ++ List.replicate (ks.length - p) zsi) rfl (by simp; omega) (by rw [← hrl]; simp) (by rw [← hrl]; simp)
        have hdz : List.drop 6 ((rl ++ List.replicate (ks.length - p) zsi).getD p []) = []:=by
          rw [Abs.getD_append_right (by omega),hrl,Nat.sub_self,getD_repl (by omega)]; rfl
        simp only [zW,zX,zD,builtinA,isLeaf,const1,ustrA,simprocAttr,ti3,ti46,ti50,ti69,ti134,ca90,cf,Tryz.results24,hg,hb3,hz,hdz,hi1,LoopK_eq]
        refine ⟨⟨by omega,by simp; omega⟩,⟨by simp; omega,hel⟩,by simpa only [List.append_assoc,List.cons_append,List.nil_append,List.length_set] using fin _ rfl,?_⟩
        simp only [intOf]; omega
    · have hp2 : p = ks.length:=by simp at h2; omega
      subst hp2
      simp only [zW,zX,zD,builtinA,isLeaf,const1,ustrA,simprocAttr,ti3,ti46,ti50,ti69,ti134,ca90,cf,Tryz.results24]
      rw [List.take_length] at hO
      have low:=hO.low
      have hnd : (A.length :: SL).Nodup:=List.nodup_cons.2 ⟨fun h=>by have:=hlo _ h; omega,hN⟩
      have hge : ∀ i ∈ A.length :: SL,A.length ≤ i:=fun i hi=>by
        rcases List.mem_cons.1 hi with rfl | hi
        · exact Nat.le_refl _
        · have:=hlo i hi; omega
      by_cases h0 : ks.length = 0
      · have hk0 : ks = []:=List.length_eq_zero_iff.1 h0
        rw [if_pos h0,h0] at hb
        refine .inr ⟨A.length,6,[],by rw [hb]; rfl,A.length,rfl,by simp; omega,fun k hk=>by rw [getD_set_ne' (by omega)]; exact hfr k hk,[],[],getD_set_self hlt,by rw [hk0]; simp [OwnG],by simp,by simp⟩
      · rw [if_neg h0] at hb
        refine .inl ⟨A.length,rfl,by omega,hfr,rl,SL,by rw [hb]; simp,hO,hnd,hge⟩
end Go.Proofs.YtnjdbgiincliaaaGreat
namespace Go.Proofs.YtnjdbgiincliaaaGreat
open Go.Abs
def OwnI (A : List Box) (xs : List SigI) (v : AV) (S : List Nat) : Prop :=
  (v = .nils ∧ xs = [] ∧ S = []) ∨ ∃ i rows S',v = .own i ∧ S = i :: S' ∧ A.getD i .dead = .gr none 6 rows ∧ OwnG A xs rows S'
theorem OwnI.frame {A A' : List Box} {xs : List SigI} {v : AV} {S : List Nat} (h : OwnI A xs v S) (hf : ∀ i ∈ S,A'.getD i .dead = A.getD i .dead) : OwnI A' xs v S:=by
  rcases h with h | ⟨i,rows,S',h1,h2,h3,h4⟩
  · exact .inl h
  · subst h2
    exact .inr ⟨i,rows,S',h1,rfl,by rw [hf i (by simp)]; exact h3,h4.frame fun j hj=>hf j (by simp [hj])⟩
theorem OwnI.low {A : List Box} {xs : List SigI} {v : AV} {S : List Nat} (h : OwnI A xs v S) : ∀ i ∈ S,i < A.length:=by
  rcases h with ⟨_,_,rfl⟩ | ⟨i,rows,S',h1,rfl,h3,h4⟩
  · simp
  · intro j hj
    rcases List.mem_cons.1 hj with rfl | hj
    · exact live_lt h3 (by simp)
    · exact h4.low j hj
theorem OwnI.view {A : List Box} {xs : List SigI} {v : AV} {S : List Nat} (h : OwnI A xs v S) : View A v (.slice (sEs xs)):=by
  rcases h with ⟨rfl,rfl,_⟩ | ⟨i,rows,S',rfl,_,h3,h4⟩
  · exact .nils
  · exact OwnG.viewG h3 h4
end Go.Proofs.YtnjdbgiincliaaaGreat
namespace Go.Proofs.YtnjdbgiincliaaaGreat
open Go.Abs
def totG : List SigI → Nat
  | []=>0
  | b :: bs=>5 + 3 * counts b.typ.kids + totG bs
theorem totG_app : ∀ a b : List SigI,totG (a ++ b) = totG a + totG b
  | [],b=>by simp [totG]
  | x :: a,b=>by rw [List.cons_append,totG,totG,totG_app a b]; omega
theorem totG_take {bs : List SigI} {p : Nat} (h : p < bs.length) : totG (bs.take (p + 1)) = totG (bs.take p) + (5 + 3 * counts (bs.getD p si0).typ.kids):=by
  rw [si_take h,totG_app]; simp [totG]
theorem totG_le (bs : List SigI) (p : Nat) : totG (bs.take p) ≤ totG bs:=by
  conv=>rhs; rw [← List.take_append_drop p bs]
  rw [totG_app]; omega
theorem si_drop' {l : List SigI} {i : Nat} (h : i < l.length) : l.drop i = l.getD i si0 :: l.drop (i + 1):=by
  have : l.getD i si0 = l[i]:=by simp [List.getD,h]
  rw [this,List.getElem_cons_drop h]
mutual
theorem count_le_szG : ∀ t : Ty,count t ≤ 1 + sz t
  | .mk k m n ks=>by rw [count,sz]; have:=counts_le_szG ks; omega
theorem counts_le_szG : ∀ l : List Ty,counts l ≤ l.length + szs l
  | []=>by simp [counts]
  | t :: l=>by rw [counts,szs,List.length_cons]; have:=count_le_szG t; have:=counts_le_szG l; omega
end
theorem totG_sz : ∀ bs : List SigI,totG bs ≤ 5 * bs.length + 3 * szIs bs
  | []=>by simp [totG]
  | b :: bs=>by
    have h:=totG_sz bs
    have e : szIs (b :: bs) = szI b + szIs bs:=by simp [szIs]
    have h2:=counts_le_szG b.typ.kids
    have h3 : b.typ.kids.length + szs b.typ.kids ≤ sz b.typ:=by cases b.typ; rw [sz]; simp [Ty.kids]
    rw [totG,e,List.length_cons,szI]; omega
set_option maxRecDepth 100000 in
theorem laws_markSigItemS (ks : List SigI) (hks : ks.length < 2 ^ 63) (hok : ∀ b ∈ ks,b.Ok) (A : List Box) (i : Nat) (rows : List (List AV)) (S' : List Nat) (k : Int) (hb : A.getD i .dead = .gr none 6 rows) (hR : OwnG A ks rows S') (hN : (i :: S').Nodup) (h0 : 0 ≤ k) (h1 : k + totG ks ≤ 2 ^ 50) :
    ACalls Tryz.prog 28 [.own i,.int .i64 k] A (fun r A'=>r = .int .i64 (k + totG ks) ∧ A'.length = A.length ∧ ∀ j,j ∉ i :: S' → A'.getD j .dead = A.getD j .dead):=by
  have hil:=live_lt hb (by simp)
  have hlen:=hR.length
  refine acalls_enterK (cf:=cf 62 [0,1,4,5,9]) foll Tryz.func28 Tryz.ntmps28 (by simp [cf]) ?_
  simp only [Tryz.f28,EnterK_some,zW,zX,zD,builtinA,isLeaf,const1,ustrA,simprocAttr,ti3,ti9,ti34,ti36,ti50,ti69,ca96,ca97,cf,Tryz.results28]
  refine aloop_intro [0,1,5] (fun e A'=>∃ (p : Nat) (rl rr : List (List AV)) (SL SR : List Nat),p ≤ ks.length ∧ e = [(0,.own i),(1,.int .i64 (k + totG (ks.take p))),(5,.int .i64 p)] ∧ A'.length = A.length ∧ A'.getD i .dead = .gr none 6 (rl ++ rr) ∧ rl.length = p ∧
    OwnG A' (ks.drop p) rr SR ∧ S' = SL ++ SR ∧ ∀ j,j ∉ i :: S' → A'.getD j .dead = A.getD j .dead) (fun e _=>ks.length - (intOf (Abs.look 5 e)).toNat) ?_ ?_
  · refine ⟨0,[],rows,[],S',by omega,?_,rfl,hb,rfl,by simpa using hR,rfl,fun _ _=>rfl⟩
    simp only [zW,zX,zD,builtinA,isLeaf,const1,ustrA,simprocAttr,ti3,ti9,ti34,ti36,ti50,ti69,ca96,ca97,cf,Tryz.results28]
    simp [totG]
  · rintro e A' ⟨p,rl,rr,SL,SR,hp,rfl,hl,hb',hrl,hRr,hS,hfr⟩
    have hrr:=hRr.length
    have hrows : rl.length + rr.length = ks.length:=by simp at hrr; omega
    simp only [zW,zX,zD,builtinA,isLeaf,const1,ustrA,simprocAttr,ti3,ti9,ti34,ti36,ti50,ti69,ca96,ca97,cf,Tryz.results28,hb',hrows]
    refine condK_intro (fun h2=>?_) (fun h2=>?_)
    · have hp2 : p < ks.length:=by simpa using h2
      have hne : i ∉ S':=(List.nodup_cons.1 hN).1
      have hnd : (SL ++ SR).Nodup:=by rw [← hS]; exact (List.nodup_cons.1 hN).2
      rw [si_drop' hp2,OwnG] at hRr
      obtain ⟨vk,rr',S1,S2,rfl,rfl,hK,hR'⟩:=hRr
      have hmem:=si_mem hp2
      have hil' : i < A'.length:=by omega
      have hct:=totG_take hp2
      have hcl:=totG_le ks (p + 1)
      have hok1:=hok _ hmem
      generalize ks.getD p si0 = b at *
      generalize hk1 : k + (totG (ks.take p) : Int) = k1 at *
      have b0 : 0 ≤ k1:=by omega
      have b1 : k1 + 5 + 3 * counts b.typ.kids ≤ 2 ^ 50:=by omega
      have w1 : IntKind.i64.wrap (k1 + 1) = k1 + 1:=wrap64 (by omega) (by omega)
      have w2 : IntKind.i64.wrap (k1 + 1 + 1) = k1 + 2:=by rw [wrap64 (by omega) (by omega)]; omega
      have w3 : IntKind.i64.wrap (k1 + 2 + 1) = k1 + 3:=by rw [wrap64 (by omega) (by omega)]; omega
      have w4 : IntKind.i64.wrap (k1 + 3 + 1) = k1 + 4:=by rw [wrap64 (by omega) (by omega)]; omega
      have w5 : IntKind.i64.wrap (k1 + 4 + 1) = k1 + 5:=by rw [wrap64 (by omega) (by omega)]; omega
      have hi1 : IntKind.i64.wrap ((p : Int) + 1) = ((p + 1 : Nat) : Int):=by rw [wrap64 (by omega) (by omega)]; rfl
      have hg : ∀ x : List AV,((rl ++ x :: rr').getD p []) = x:=fun x=>by simp [List.getD,List.getElem?_append_right,hrl]
      have hst : ∀ x y : List AV,(rl ++ x :: rr').set p y = rl ++ y :: rr':=fun x y=>by rw [List.set_append_right _ _ (by omega),hrl,Nat.sub_self]; rfl
      have hgs : ∀ X,(A'.set i X).getD i .dead = X:=fun X=>getD_set1 hil'
      have hpl : p < rl.length + (rr'.length + 1):=by simp at hrows; omega
      have hpi : (p : Int) < ((rl.length + (rr'.length + 1) : Nat) : Int):=by omega
      simp only [sRow] at hb'
      simp only [zW,zX,zD,builtinA,isLeaf,const1,ustrA,simprocAttr,ti3,ti9,ti34,ti36,ti50,ti69,ca96,ca97,cf,Tryz.results28,hb',hg,hst,hgs,List.set_set,w1]
      refine ⟨⟨by omega,hpi⟩,⟨hpl,by simp [isElem,isLeaf]⟩,?_⟩
      refine callK_intro (by simp only [zW,zX,zD,builtinA,isLeaf,const1,ustrA,simprocAttr]; rfl) (laws_markText (k1 + 1) (by omega) _) ?_ rfl; rintro v A' ⟨rfl,rfl⟩
      simp only [zW,zX,zD,builtinA,isLeaf,const1,ustrA,simprocAttr,ti3,ti9,ti34,ti36,ti50,ti69,ca96,ca97,cf,Tryz.results28,hb',hg,hst,hgs,List.set_set,w2,w3]
      refine ⟨⟨by omega,hpi⟩,⟨hpl,by simp [isElem,isLeaf]⟩,⟨by omega,hpi⟩,⟨hpl,by simp [isElem,isLeaf]⟩,?_⟩
      refine callK_intro (by simp only [zW,zX,zD,builtinA,isLeaf,const1,ustrA,simprocAttr]; rfl) (laws_markText (k1 + 3) (by omega) _) ?_ rfl; rintro v A' ⟨rfl,rfl⟩
      simp only [zW,zX,zD,builtinA,isLeaf,const1,ustrA,simprocAttr,ti3,ti9,ti34,ti36,ti50,ti69,ca96,ca97,cf,Tryz.results28,hb',hg,hst,hgs,List.set_set,w4]
      refine ⟨⟨by omega,hpi⟩,⟨hpl,by simp [isElem,isLeaf]⟩,?_⟩
      refine callK_intro (by simp only [zW,zX,zD,builtinA,isLeaf,const1,ustrA,simprocAttr]; rfl) (laws_markText (k1 + 4) (by omega) _) ?_ rfl; rintro v A' ⟨rfl,rfl⟩
      simp only [zW,zX,zD,builtinA,isLeaf,const1,ustrA,simprocAttr,ti3,ti9,ti34,ti36,ti50,ti69,ca96,ca97,cf,Tryz.results28,hb',hg,hst,hgs,List.set_set,w5]
      refine ⟨⟨by omega,hpi⟩,⟨hpl,by simp [isElem,isLeaf]⟩,⟨by omega,hpi⟩,?_⟩
      have hiS1 : i ∉ S1:=fun h=>hne (by rw [hS]; simp [h])
      have hm : MarkS b.typ.kids:=markS _ hok1.2
      refine callO_intro (hm _ vk S1 (k1 + 5) (hK.frame fun j hj=>by rw [getD_set_ne' (fun e=>hiS1 (by rw [e]; exact hj))]) ((List.nodup_append.1 (List.nodup_append.1 hnd).2.1).1) (by omega) b1) ?_
      rintro r A3 ⟨rfl,hl3,hK3,hf3⟩
      simp only [zW,zX,zD,builtinA,isLeaf,const1,ustrA,simprocAttr,ti3,ti9,ti34,ti36,ti50,ti69,ca96,ca97,cf,Tryz.results28,hi1,LoopK_eq]
      have hms:=markL_next b.typ.kids (k1 + 5)
      have hd2:=(List.nodup_append.1 (List.nodup_append.1 hnd).2.1).2.2
      have fR : ∀ j ∈ S2,A3.getD j .dead = A'.getD j .dead:=fun j hj=>by
        rw [hf3 j (fun h=>hd2 j h j hj rfl),getD_set_ne' (fun e=>hne (by rw [hS,e]; simp [hj]))]
      refine ⟨⟨p + 1,rl ++ [[AV.int IntKind.i64 k1,AV.str (mtx (k1 + 1)),AV.int IntKind.i64 (k1 + 2),AV.str (mtx (k1 + 3)),AV.str (mtx (k1 + 4)),vk]],rr',SL ++ S1,S2,by omega,?_,?_,?_,?_,hR'.frame fR,by rw [hS]; simp,fun j hj=>?_⟩,?_⟩
      · rw [hms]
        have e : k1 + 5 + 3 * (counts b.typ.kids : Int) = k + (totG (ks.take (p + 1)) : Int):=by rw [hct]; omega
        rw [e]
      · rw [hl3]; simpa using hl
      · rw [hf3 i hiS1,getD_set_self hil']; simp
      · simp [hrl]
      · have hj1 : j ≠ i:=fun e=>hj (by simp [e])
        have hj2 : j ∉ S1:=fun h=>hj (by rw [hS]; simp [h])
        rw [hf3 j hj2,getD_set_ne' (Ne.symm hj1)]
        exact hfr j hj
      · simp only [intOf]; omega
    · have hp2 : p = ks.length:=by simp at h2; omega
      subst hp2
      simp only [zW,zX,zD,builtinA,isLeaf,const1,ustrA,simprocAttr,ti3,ti9,ti34,ti36,ti50,ti69,ca96,ca97,cf,Tryz.results28]
      exact ⟨hl,hfr⟩
end Go.Proofs.YtnjdbgiincliaaaGreat
/- The facts of a claim, one by one: a great program's do not fit into one check. -/
set_option linter.unusedVariables false
namespace Go.Proofs.YtnjdbgiincliaaaGreat
open Go.Abs Go.RowKit Go.ChangeShapes Go.WideShapes Go.ChangeAt Go.ChangeMaps
open Program Func OpenClaim in
theorem jf_of {P : Program} {f : FuncId} {fn : Func} {s : ChangeSpec} {c : OpenClaim} (h0 : (c.wf (OpenSpec.ofChange s)) = true) (h1 : (laidOutB P) = true) (h2 : (mapsRowed P) = true) (h3 : (fn.params.all (P.readableRec ·)) = true) (h4 : (namedTie P c.named s.vars) = true) (h5 : ((c.stops == [])) = true) (h6 : ((P.stops == [])) = true) (h7 : ((c.knobs == [])) = true) (h8 : ((P.stopKnobs == [])) = true) (h9 : ((c.inPlace == P.inPlace f)) = true) (h10 : ((c.unfollowed == P.unfollowed f)) = true) (h11 : ((c.recurses == P.recurses f)) = true) (h12 : ((c.named == P.varsNamed f)) = true) (h13 : ((c.maps == (fn.params.toList ++ s.plain.varTypes P).any (P.mapsRec ·))) = true) (h14 : ((c.ifaces == (fn.params.toList ++ s.plain.varTypes P).any (P.ifacesRec ·))) = true) (h15 : ((c.mapsOut == P.mapsAmong fn.resultTypes.toList)) = true) (h16 : ((c.loops == (fn.params.toList ++ s.plain.varTypes P).any (P.loopsFrom ·))) = true) (h17 : ((c.wideKeys == (fn.params.toList ++ s.plain.varTypes P ++ fn.resultTypes.toList).any (P.wideKeysFrom ·))) = true) (h18 : (s.vars.all (P.varReadable ·)) = true) (h19 : (fn.resultTypes.all (fun t=>P.readableRec t && decide (t < P.types.size))) = true) (h20 : ((c.ifacesOut == fn.resultTypes.toList.any (P.ifacesRec ·))) = true) (h21 : ((c.loopsOut == fn.resultTypes.toList.any (P.loopsFrom ·))) = true) (h22 : ((c.plainKeys == P.plainKeys)) = true) (h23 : (c.shortTexts.isNone) = true) (h24 : (P.stopsHeard) = true) (h25 : (P.mayEnter) = true) (h26 : ((c.lifted == P.liftsFinal)) = true) (h27 : ((P.make == some c.make)) = true) (h28 : ((c.kinds == (if c.domain.isEmpty then [] else fn.params.toList.map fun t=>match P.underlying t with | some (.int k)=>some k | _=>none))) = true) (h29 : ((c.pinned == c.pinnedBy)) = true) (h30 : ((c.veiled == (fn.params.toList ++ s.plain.varTypes P ++ fn.resultTypes.toList).any (P.veiledRec ·))) = true) (h31 : (c.veiledFits P fn.params.toList (fn.params.toList ++ s.plain.varTypes P ++ fn.resultTypes.toList)) = true) : joinedFacts P f fn s c = true:=by
  unfold joinedFacts
  simp only [h0,h1,h2,h3,h4,h5,h6,h7,h8,h9,h10,h11,h12,h13,h14,h15,h16,h17,h18,h19,h20,h21,h22,h23,h24,h25,h26,h27,h29,h30,h31,Bool.and_true,Bool.true_and]
  exact h28
theorem jp1 : laidOutB Tryz.pinned.checked.prog = true:=laid
theorem jp2 : mapsRowed Tryz.pinned.checked.prog = true:=by kernel_rfl
theorem jp6 : (Tryz.pinned.checked.prog.stops == []) = true:=by kernel_rfl
theorem jp8 : (Tryz.pinned.checked.prog.stopKnobs == []) = true:=by kernel_rfl
theorem jp24 : Tryz.pinned.checked.prog.stopsHeard = true:=by kernel_rfl
theorem jp25 : Tryz.pinned.checked.prog.mayEnter = true:=by kernel_rfl
end Go.Proofs.YtnjdbgiincliaaaGreat
/- The source of the drawn arguments. -/
set_option linter.unusedVariables false
set_option linter.unusedSimpArgs false
namespace Go.Proofs.YtnjdbgiincliaaaGreat
open Go.Abs
def Rd (bs : List UInt8) (p : Nat) : Box:=.cells [.aslice (byteRows bs),.int .i64 p]
theorem rd_closed (n : Nat) (bs : List UInt8) (p : Nat) : boxClosed n (Rd bs p) = true:=rfl
theorem byteRows_length (bs : List UInt8) : (byteRows bs).length = bs.length:=by simp [byteRows]
theorem byteRows_getD {bs : List UInt8} {i : Nat} (h : i < bs.length) : (byteRows bs).getD i [] = [.int .u8 ((bs.getD i 0).toNat : Nat)]:=by simp [byteRows,List.getD,h]
theorem byte_lt (b : UInt8) : (b.toNat : Int) < 256:=by have:=b.toNat_lt; omega
theorem xor_wrap {X : Nat} (h : X < 2 ^ 62) : 0 ≤ IntKind.i64.wrap ((BitVec.ofInt IntKind.i64.bits (X : Int) ^^^ BitVec.ofInt IntKind.i64.bits (IntKind.i64.wrap ((X : Int).tdiv 64))).toNat : Int):=by
  have h1 : ((X : Int).tdiv 64) = ((X / 64 : Nat) : Int):=rfl
  have h2 : X / 64 < 2 ^ 62:=by omega
  have h4 : IntKind.i64.wrap ((X / 64 : Nat) : Int) = ((X / 64 : Nat) : Int):=wrap64 (by omega) (by omega)
  rw [h1,h4]
  show 0 ≤ IntKind.i64.wrap ((BitVec.ofInt 64 (X : Int) ^^^ BitVec.ofInt 64 ((X / 64 : Nat) : Int)).toNat : Int)
  have e1 : (BitVec.ofInt 64 (X : Int)).toNat = X:=by rw [BitVec.toNat_ofInt]; omega
  have e2 : (BitVec.ofInt 64 ((X / 64 : Nat) : Int)).toNat = X / 64:=by rw [BitVec.toNat_ofInt]; omega
  rw [BitVec.toNat_xor,e1,e2]
  have h3:=Nat.xor_lt_two_pow h h2
  rw [wrap64 (by omega) (by omega)]
  omega
set_option maxRecDepth 100000 in
theorem spec_l17Open (bs : List UInt8) (A : List Box) : ACalls Tryz.prog 98 [.aslice (byteRows bs)] A (fun r A'=>∃ bs',bs'.length ≤ 2000 ∧ r = .ptr A.length 0 ∧ A' = A ++ [Rd bs' 0]):=by
  refine acalls_enterK (cf:=cf 11 [0,2,5]) foll Tryz.func98 Tryz.ntmps98 (by simp [cf]) ?_
  simp only [Tryz.f98,EnterK_some,zW,zX,zD,builtinA,isLeaf,const1,ustrA,simprocAttr,ti3,ti5,ti57,ti271,cf,Tryz.results98]
  refine condK_intro (fun h=>?_) (fun h=>?_)
  · simp [byteRows_length] at h
    simp only [zW,zX,zD,builtinA,isLeaf,const1,ustrA,simprocAttr,ti3,ti5,ti57,ti271,cf,Tryz.results98]
    refine ⟨⟨by simp [byteRows],by rw [byteRows_length]; omega⟩,bs.take 2000,(by rw [List.length_take]; omega),by simp [Rd,byteRows,List.map_take]⟩
  · have h' : bs.length ≤ 2000:=by simp [byteRows_length] at h; omega
    simp only [zW,zX,zD,builtinA,isLeaf,const1,ustrA,simprocAttr,ti3,ti5,ti57,ti271,cf,Tryz.results98]
    exact ⟨bs,h',rfl⟩
set_option maxRecDepth 100000 in
theorem spec_pick (bs : List UInt8) (p : Nat) (n : Int) (i : Nat) (A : List Box) (hi : i < A.length) (hA : A.getD i .dead = Rd bs p) (hp : p < 2 ^ 40) (hn : n < 2 ^ 40) :
    ACalls Tryz.prog 115 [.ptr i 0,.int .i64 n] A (fun r A'=>∃ j : Int,r = .int .i64 j ∧ 0 ≤ j ∧ (1 ≤ n → j < n) ∧ A' = A.set i (Rd bs (p + 1))):=by
  rw [Rd] at hA
  have hp1 : IntKind.i64.wrap ((p : Int) + 1) = ((p + 1 : Nat) : Int):=by rw [wrap64 (by omega) (by omega)]; rfl
  refine acalls_enter (cf:=cf 99 [0,1,4,5,6,24,36]) foll Tryz.func115 Tryz.ntmps115 (by simp [cf]) ?_
  simp only [Tryz.f115,EnterK_some,zW,zX,zD,builtinA,isLeaf,const1,ustrA,simprocAttr,ti3,ti5,ti57,ti271,cf,Tryz.results115]
  simp only [zW,zX,zD,builtinA,isLeaf,const1,ustrA,simprocAttr,ti3,ti5,ti57,ti271,cf,Tryz.results115,hA,hi,hp1]
  have hout : Outer A (A.set i (.cells [.aslice (byteRows bs),.int .i64 ((p + 1 : Nat) : Int)])):=outer_set0 A i _ rfl
  by_cases hn1 : n < 1
  · have e1 : decide (n < 1) = true:=decide_eq_true hn1
    simp only [zW,zX,zD,builtinA,isLeaf,const1,ustrA,simprocAttr,ti3,ti5,ti57,ti271,cf,Tryz.results115,hA,hi,hp1,e1]
    exact ⟨hout,0,rfl,by omega,by omega,rfl⟩
  · have e1 : decide (n < 1) = false:=decide_eq_false hn1
    simp only [zW,zX,zD,builtinA,isLeaf,const1,ustrA,simprocAttr,ti3,ti5,ti57,ti271,cf,Tryz.results115,hA,hi,hp1,e1,byteRows_length]
    by_cases hb : bs.length = 0
    · have e2 : decide ((bs.length : Int) = 0) = true:=decide_eq_true (by omega)
      simp only [zW,zX,zD,builtinA,isLeaf,const1,ustrA,simprocAttr,ti3,ti5,ti57,ti271,cf,Tryz.results115,hA,hi,hp1,e1,e2,byteRows_length]
      exact ⟨hout,0,rfl,by omega,by omega,rfl⟩
    · have e2 : decide ((bs.length : Int) = 0) = false:=decide_eq_false (by omega)
      have hp2 : IntKind.i64.wrap (((p + 1 : Nat) : Int) - 1) = (p : Int):=by rw [wrap64 (by omega) (by omega)]; omega
      simp only [zW,zX,zD,builtinA,isLeaf,const1,ustrA,simprocAttr,ti3,ti5,ti57,ti271,cf,Tryz.results115,hA,hi,hp1,hp2,e1,e2,byteRows_length]
      by_cases hk : p < bs.length
      · have e3 : decide ((p : Int) < bs.length) = true:=decide_eq_true (by omega)
        simp only [zW,zX,zD,builtinA,isLeaf,const1,ustrA,simprocAttr,ti3,ti5,ti57,ti271,cf,Tryz.results115,hA,hi,hp1,hp2,e1,e2,e3,byteRows_length,byteRows_getD hk]
        have hb0:=byte_lt (bs.getD p 0)
        rw [wrap64 (by omega) (by omega)]
        have hr0:=Int.tmod_nonneg n (show (0 : Int) ≤ ((bs.getD p 0).toNat : Nat) by omega)
        have hr1:=Int.tmod_lt_of_pos (((bs.getD p 0).toNat : Nat) : Int) (show (0 : Int) < n by omega)
        exact ⟨by omega,by omega,hout,_,rfl,hr0,fun _=>hr1,rfl⟩
      · have e3 : decide ((p : Int) < bs.length) = false:=decide_eq_false (by omega)
        simp only [zW,zX,zD,builtinA,isLeaf,const1,ustrA,simprocAttr,ti3,ti5,ti57,ti271,cf,Tryz.results115,hA,hi,hp1,hp2,e1,e2,e3,byteRows_length]
        refine .inl ⟨by kernel_rfl,by kernel_rfl,?_⟩
        obtain ⟨L,hL⟩ : ∃ L,L = bs.length:=⟨_,rfl⟩
        have hL0 : 0 < L:=by omega
        have hm0 : p % L < L:=Nat.mod_lt _ hL0
        have hm1 : (p * 7 + 3) % L < L:=Nat.mod_lt _ hL0
        have hq : p / L ≤ p:=Nat.div_le_self _ _
        obtain ⟨b0,hb0⟩ : ∃ b0 : Nat,b0 = (bs.getD (p % L) 0).toNat:=⟨_,rfl⟩
        obtain ⟨b1,hb1⟩ : ∃ b1 : Nat,b1 = (bs.getD ((p * 7 + 3) % L) 0).toNat:=⟨_,rfl⟩
        have hb0l : b0 < 256:=by rw [hb0]; exact (bs.getD (p % L) 0).toNat_lt
        have hb1l : b1 < 256:=by rw [hb1]; exact (bs.getD ((p * 7 + 3) % L) 0).toNat_lt
        have g0 : (byteRows bs).getD (p % L) [] = [.int .u8 (b0 : Int)]:=by rw [byteRows_getD (by omega),hb0]
        have g1 : (byteRows bs).getD ((p * 7 + 3) % L) [] = [.int .u8 (b1 : Int)]:=by rw [byteRows_getD (by omega),hb1]
        obtain ⟨q,hqd⟩ : ∃ q,q = p / L:=⟨_,rfl⟩
        have t0 : ((p : Int)).tmod (L : Int) = ((p % L : Nat) : Int):=rfl
        have t1 : (((p * 7 + 3 : Nat)) : Int).tmod (L : Int) = (((p * 7 + 3) % L : Nat) : Int):=rfl
        have t2 : ((p : Int)).tdiv (L : Int) = (q : Int):=by rw [hqd]; rfl
        have w0 : IntKind.i64.wrap (b0 : Int) = b0:=wrap64 (by omega) (by omega)
        have w1 : IntKind.i64.wrap ((b0 : Int) * 131) = ((b0 * 131 : Nat) : Int):=by rw [wrap64 (by omega) (by omega)]; omega
        have w2 : IntKind.i64.wrap (b1 : Int) = b1:=wrap64 (by omega) (by omega)
        have w3 : IntKind.i64.wrap ((b1 : Int) * 1117) = ((b1 * 1117 : Nat) : Int):=by rw [wrap64 (by omega) (by omega)]; omega
        have w4 : IntKind.i64.wrap ((p : Int) * 7) = ((p * 7 : Nat) : Int):=by rw [wrap64 (by omega) (by omega)]; omega
        have w5 : IntKind.i64.wrap (((p * 7 : Nat) : Int) + 3) = ((p * 7 + 3 : Nat) : Int):=by rw [wrap64 (by omega) (by omega)]; omega
        have w6 : IntKind.i64.wrap (((b0 * 131 : Nat) : Int) + ((b1 * 1117 : Nat) : Int)) = ((b0 * 131 + b1 * 1117 : Nat) : Int):=by rw [wrap64 (by omega) (by omega)]; omega
        have w7 : IntKind.i64.wrap ((p : Int) * 29) = ((p * 29 : Nat) : Int):=by rw [wrap64 (by omega) (by omega)]; omega
        have w8 : IntKind.i64.wrap (((b0 * 131 + b1 * 1117 : Nat) : Int) + ((p * 29 : Nat) : Int)) = ((b0 * 131 + b1 * 1117 + p * 29 : Nat) : Int):=by rw [wrap64 (by omega) (by omega)]; omega
        have w9 : IntKind.i64.wrap (q : Int) = q:=wrap64 (by omega) (by omega)
        have wa : IntKind.i64.wrap ((q : Int) * 53) = ((q * 53 : Nat) : Int):=by rw [wrap64 (by omega) (by omega)]; omega
        have wb : IntKind.i64.wrap (((b0 * 131 + b1 * 1117 + p * 29 : Nat) : Int) + ((q * 53 : Nat) : Int)) = ((b0 * 131 + b1 * 1117 + p * 29 + q * 53 : Nat) : Int):=by rw [wrap64 (by omega) (by omega)]; omega
        rw [← hL]
        simp only [zW,zX,zD,builtinA,isLeaf,const1,ustrA,simprocAttr,ti3,ti5,ti57,ti271,cf,Tryz.results115,hA,hi,hp1,hp2,e1,e2,e3,byteRows_length,← hL,t0,t1,t2,w0,w1,w2,w3,w4,w5,w6,w7,w8,w9,wa,wb,g0,g1]
        obtain ⟨X,hX⟩ : ∃ X,X = b0 * 131 + b1 * 1117 + p * 29 + q * 53:=⟨_,rfl⟩
        have hXl : X < 2 ^ 62:=by omega
        rw [← hX]
        have hx:=xor_wrap hXl
        refine ⟨by omega,⟨by omega,by omega⟩,by omega,⟨by omega,by omega⟩,by omega,by omega,hout,_,rfl,Int.tmod_nonneg n hx,fun _=>Int.tmod_lt_of_pos _ (by omega),rfl⟩
set_option maxRecDepth 100000 in
theorem spec_of (bs : List UInt8) (p : Nat) (l : List (List UInt8)) (i : Nat) (A : List Box) (hi : i < A.length) (hA : A.getD i .dead = Rd bs p) (hp : p < 2 ^ 40) (hl : 0 < l.length ∧ l.length < 1000) :
    ACalls Tryz.prog 101 [.ptr i 0,.slice (l.map fun s=>[.str s])] A (fun r A'=>∃ s,r = .str s ∧ s ∈ l ∧ A' = A.set i (Rd bs (p + 1))):=by
  have hll : (l.map fun s=>[AV.str s]).length = l.length:=by simp
  refine acalls_enter (cf:=cf 12 [0,1,4]) foll Tryz.func101 Tryz.ntmps101 (by simp [cf]) ?_
  simp only [Tryz.f101,EnterK_some,zW,zX,zD,builtinA,isLeaf,const1,ustrA,simprocAttr,ti9,ti48,ca115,cf,Tryz.results101]
  simp only [hll]
  refine callK_intro (by simp only [zW,zX,zD,builtinA,isLeaf,const1,ustrA,simprocAttr]; rfl) (spec_pick bs p _ i _ hi hA hp (by omega)) ?_ rfl
  rintro v A' ⟨j,rfl,h0,h1,rfl⟩
  obtain ⟨k,rfl⟩:=Int.eq_ofNat_of_zero_le h0
  have hk : k < l.length:=by have:=h1 (by omega); omega
  have hg : (l.map fun s=>[AV.str s]).getD k [] = [.str (l.getD k [])]:=by simp [List.getD,hk]
  simp only [zW,zX,zD,builtinA,isLeaf,const1,ustrA,simprocAttr,ti9,ti48,ca115,cf,Tryz.results101,hi,hll,hg]
  exact ⟨⟨by omega,by omega⟩,outer_set0 A i _ (rd_closed _ _ _),_,rfl,Abs.getD_mem hk⟩
set_option maxRecDepth 100000 in
theorem spec_num (bs : List UInt8) (p : Nat) (l : List Int) (i : Nat) (A : List Box) (hi : i < A.length) (hA : A.getD i .dead = Rd bs p) (hp : p < 2 ^ 40) (hl : 0 < l.length ∧ l.length < 1000) :
    ACalls Tryz.prog 186 [.ptr i 0,.slice (l.map fun s=>[.int .i64 s])] A (fun r A'=>∃ s,r = .int .i64 s ∧ s ∈ l ∧ A' = A.set i (Rd bs (p + 1))):=by
  have hll : (l.map fun s=>[AV.int .i64 s]).length = l.length:=by simp
  refine acalls_enter (cf:=cf 12 [0,1,4]) foll Tryz.func186 Tryz.ntmps186 (by simp [cf]) ?_
  simp only [Tryz.f186,EnterK_some,zW,zX,zD,builtinA,isLeaf,const1,ustrA,simprocAttr,ti3,ti273,ca115,cf,Tryz.results186]
  simp only [hll]
  refine callK_intro (by simp only [zW,zX,zD,builtinA,isLeaf,const1,ustrA,simprocAttr]; rfl) (spec_pick bs p _ i _ hi hA hp (by omega)) ?_ rfl
  rintro v A' ⟨j,rfl,h0,h1,rfl⟩
  obtain ⟨k,rfl⟩:=Int.eq_ofNat_of_zero_le h0
  have hk : k < l.length:=by have:=h1 (by omega); omega
  have hg : (l.map fun s=>[AV.int .i64 s]).getD k [] = [.int .i64 (l.getD k 0)]:=by simp [List.getD,hk]
  simp only [zW,zX,zD,builtinA,isLeaf,const1,ustrA,simprocAttr,ti3,ti273,ca115,cf,Tryz.results186,hi,hll,hg]
  exact ⟨⟨by omega,by omega⟩,outer_set0 A i _ (rd_closed _ _ _),_,rfl,Abs.getD_mem hk⟩
end Go.Proofs.YtnjdbgiincliaaaGreat
/- Drawn types. -/
set_option linter.unusedVariables false
set_option linter.unusedSimpArgs false
namespace Go.Proofs.YtnjdbgiincliaaaGreat
open Go.Abs
theorem enc_closed (t : Ty) (n : Nat) : (enc t).all (closed1 n) = true:=by cases t; rfl
theorem enc_drop (t : Ty) : List.drop 4 (enc t) = []:=by cases t; rw [enc]; rfl
set_option maxRecDepth 100000 in
theorem spec_l1Num (A : List Box) : ACalls Tryz.prog 189 [] A (fun r A'=>r = .agg (enc (toTy .num)) ∧ A' = A):=by
  rw [toTy,enc,encs]
  refine acalls_enter (cf:=cf 2 [0]) foll Tryz.func189 Tryz.ntmps189 (by simp [cf]) ?_
  simp only [Tryz.f189,EnterK_some,zW,zX,zD,builtinA,isLeaf,const1,Nat.reduceAdd,Nat.reduceMul,Nat.reduceSub,Nat.reduceLT,Nat.reduceLeDiff,Nat.reduceEqDiff,Nat.reduceBEq,Nat.reduceBNe,reduceIte,reduceCtorEq,Int.reduceToNat,Int.reduceLT,Int.reduceLE,Int.reduceEq,Int.reduceNe,Int.reduceNeg,ustrA,ti36,cf,Tryz.results189]
set_option maxRecDepth 100000 in
theorem spec_l1Name (m n : List UInt8) (A : List Box) : ACalls Tryz.prog 188 [.str m,.str n] A (fun r A'=>r = .agg (enc (toTy (.nm m n))) ∧ A' = A):=by
  rw [toTy,enc,encs]
  refine acalls_enter (cf:=cf 8 [0,1,4]) foll Tryz.func188 Tryz.ntmps188 (by simp [cf]) ?_
  simp only [Tryz.f188,EnterK_some,zW,zX,zD,builtinA,isLeaf,const1,Nat.reduceAdd,Nat.reduceMul,Nat.reduceSub,Nat.reduceLT,Nat.reduceLeDiff,Nat.reduceEqDiff,Nat.reduceBEq,Nat.reduceBNe,reduceIte,reduceCtorEq,Int.reduceToNat,Int.reduceLT,Int.reduceLE,Int.reduceEq,Int.reduceNe,Int.reduceNeg,ustrA,ti36,cf,Tryz.results188]
set_option maxRecDepth 100000 in
theorem spec_l1Fun (a b : Ty) (A : List Box) : ACalls Tryz.prog 256 [.agg (enc a),.agg (enc b)] A (fun r A'=>r = .agg (enc (.mk 2 [] [] [a,b])) ∧ A' = A):=by
  rw [enc,encs,encs,encs]
  refine acalls_enter (cf:=cf 9 [0,1,2,3,4]) foll Tryz.func256 Tryz.ntmps256 (by simp [cf]) ?_
  simp only [Tryz.f256,EnterK_some,zW,zX,zD,builtinA,isLeaf,const1,Nat.reduceAdd,Nat.reduceMul,Nat.reduceSub,Nat.reduceLT,Nat.reduceLeDiff,Nat.reduceEqDiff,Nat.reduceBEq,Nat.reduceBNe,reduceIte,reduceCtorEq,Int.reduceToNat,Int.reduceLT,Int.reduceLE,Int.reduceEq,Int.reduceNe,Int.reduceNeg,ustrA,ti34,ti36,cf,Tryz.results256]
  simp only [enc_take,enc_length]
  simp only [zW,zX,zD,builtinA,isLeaf,const1,Nat.reduceAdd,Nat.reduceMul,Nat.reduceSub,Nat.reduceLT,Nat.reduceLeDiff,Nat.reduceEqDiff,Nat.reduceBEq,Nat.reduceBNe,reduceIte,reduceCtorEq,Int.reduceToNat,Int.reduceLT,Int.reduceLE,Int.reduceEq,Int.reduceNe,Int.reduceNeg,ustrA,ti34,ti36,cf,Tryz.results256,frzL_enc,enc_take,enc_length]
  exact ⟨fun v hv=>enc_leaf a v hv,fun v hv=>enc_leaf b v hv⟩
end Go.Proofs.YtnjdbgiincliaaaGreat
