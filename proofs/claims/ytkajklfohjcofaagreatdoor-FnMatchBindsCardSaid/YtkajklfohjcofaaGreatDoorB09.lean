/- SubNew, SpFind, MatchP, OwnSi, SigOut. -/
import Derived.Test.YtkajklfohjcofaaGreatDoorB08
import Derived.Test.YtkajklfohjcofaaGreatDoorAbsW3
/- What SubstType hands back, all other new memory forgotten; the same for a call with borrowed arguments. -/
set_option linter.unusedVariables false
set_option linter.unusedSimpArgs false
namespace Go.Proofs.YtkajklfohjcofaaGreatDoor
open Go.Abs
mutual
theorem OwnT.free {A : List Box} : ∀ {t : Ty} {r : List AV} {S : List Nat},OwnT A t r S → ifrees r = true ∧ ∀ i ∈ S,ifreeB (A.getD i .dead) = true
  | .mk k m n ks,r,S,h=>by
    rw [OwnT] at h
    obtain ⟨v,rfl,h⟩:=h
    rcases h with ⟨rfl,_,rfl⟩ | ⟨rfl,_,rfl⟩ | ⟨i,rows,S',rfl,rfl,h3,h4⟩
    · exact ⟨by simp [ifrees,ifree],by simp⟩
    · exact ⟨by simp [ifrees,ifree],by simp⟩
    · refine ⟨by simp [ifrees,ifree],fun j hj=>?_⟩
      have h5:=OwnR.free h4
      rcases List.mem_cons.1 hj with rfl | hj
      · rw [h3]; exact h5.1
      · exact h5.2 j hj
theorem OwnR.free {A : List Box} : ∀ {ks : List Ty} {rows : List (List AV)} {S : List Nat},OwnR A ks rows S → rows.all ifrees = true ∧ ∀ i ∈ S,ifreeB (A.getD i .dead) = true
  | [],rows,S,h=>by rw [OwnR] at h; rw [h.1,h.2]; exact ⟨rfl,by simp⟩
  | t :: ks,rows,S,h=>by
    rw [OwnR] at h
    obtain ⟨r,rows',S1,S2,rfl,rfl,h3,h4⟩:=h
    have a:=OwnT.free h3
    have b:=OwnR.free h4
    refine ⟨by rw [List.all_cons,a.1,b.1]; rfl,fun j hj=>?_⟩
    rcases List.mem_append.1 hj with hj | hj
    · exact a.2 j hj
    · exact b.2 j hj
end
def SubNew (A : List Box) (o : Option VT) (r : AV) (A' : List Box) : Prop :=
  ∃ B cs S,A' = A ++ B ∧ (∀ b ∈ B,ifreeB b = true) ∧ r = .tuple [.agg cs,.bool o.isSome] ∧ ifrees cs = true ∧ OwnT A' (oTyS o) cs S ∧ S.Nodup ∧ ∀ i ∈ S,A.length ≤ i ∧ i < A'.length
theorem subNew_mk {A A' : List Box} {o : Option VT} {cs : List AV} {S : List Nat} (hT : OwnT A' (oTyS o) cs S) (hN : S.Nodup) (hge : ∀ i ∈ S,A.length ≤ i) (hl : A.length ≤ A'.length) (hf : ∀ i,i < A.length → A'.getD i .dead = A.getD i .dead) :
    ∃ keep,SubNew A o (.tuple [.agg cs,.bool o.isSome]) (only keep A'):=by
  refine ⟨fun k=>decide (k < A.length) || decide (k ∈ S),?_⟩
  have hfree:=hT.free
  have hlow:=hT.low
  generalize hkp : (fun k=>decide (k < A.length) || decide (k ∈ S)) = keep
  have k1 : ∀ k,k < A.length → keep k = true:=fun k hk=>by rw [← hkp]; simp [hk]
  have k2 : ∀ k,k ∈ S → keep k = true:=fun k hk=>by rw [← hkp]; simp [hk]
  have k3 : ∀ k,A.length ≤ k → keep k = true → k ∈ S:=fun k h1 h2=>by
    rw [← hkp] at h2
    simp at h2
    rcases h2 with h2 | h2
    · omega
    · exact h2
  have e:=split_front (A:=A) (A':=only keep A') (by rw [only_length]; exact hl) (fun k hk=>by rw [only_getD,if_pos (k1 k hk)]; exact hf k hk)
  refine ⟨_,cs,S,e,fun b hb=>?_,rfl,hfree.1,hT.frame fun i hi=>by rw [only_getD,if_pos (k2 i hi)],hN,fun i hi=>⟨hge i hi,by rw [only_length]; exact hlow i hi⟩⟩
  obtain ⟨i,hi,rfl⟩:=List.mem_iff_getElem.1 hb
  rw [List.getElem_drop]
  have hi2 : A.length + i < (only keep A').length:=by simp at hi; omega
  have e2 : (only keep A')[A.length + i] = (only keep A').getD (A.length + i) .dead:=by simp [List.getD,hi2]
  rw [e2,only_getD]
  split
  · rename_i hk; exact hfree.2 _ (k3 _ (by omega) hk)
  · rfl
theorem subNew_of {A A' : List Box} {o : Option VT} {r : AV} (h : SubOut A o r A') : ∃ keep,SubNew A o r (only keep A'):=by
  cases o with
  | none =>
    obtain ⟨rfl,h2,h3⟩:=h
    exact subNew_mk (o:=none) (S:=[]) (by rw [oTyS,ty0,ownT_mk]; exact ⟨_,rfl,.inl ⟨rfl,rfl,rfl⟩⟩) (by simp) (by simp) h2 h3
  | some v =>
    obtain ⟨cs,S,rfl,h1,h2,h3,h4,h5⟩:=h
    exact subNew_mk (o:=some v) h1 h2 h3 h4 h5
theorem new_call {f : FuncId} {args : List AV} {o : Option VT} (h : ∀ A,ACalls Tryz.prog f args A (fun r A'=>SubOut A o r A')) (A : List Box) : ACalls Tryz.prog f args A (SubNew A o) :=
  ACalls.only ((h A).mono fun r A' h=>subNew_of h)
theorem impl_subst_new {τ : Ty} {bs : List BdI} {o : Option VT} (ho : SubIs τ bs o) (hl : bs.length ≤ 1048576) (hk : ∀ b ∈ bs,b.Ok) (A : List Box) : ACalls Tryz.prog 35 [.agg (enc τ),.slice (bEs bs)] A (SubNew A o) :=
  ACalls.only ((impl_SubstType τ bs hl hk A).mono fun r A' h=>by
    obtain ⟨o',h1,h2⟩:=h
    rw [subIs_one ho h1]
    exact subNew_of h2)
theorem impl_subst_b {τ : Ty} {bs : List BdI} {o : Option VT} (ho : SubIs τ bs o) (hl : bs.length ≤ 1048576) (hk : ∀ b ∈ bs,b.Ok) {A : List Box} {args : List AV} (hv : Views A args [.agg (enc τ),.slice (bEs bs)]) : ACalls Tryz.prog 35 args A (SubNew A o):=by
  refine ACalls.borrow hv ((impl_subst_new ho hl hk _).mono ?_)
  rintro r A' ⟨B,cs,S,rfl,h1,rfl,h3,h4,h5,h6⟩
  refine ⟨B,rfl,by simp [ifree,ifrees,h3],h1,B,cs,S,rfl,h1,rfl,h3,h4.frame fun i hi=>?_,h5,fun i hi=>?_⟩
  · have:=(h6 i hi).1
    rw [deads_length] at this
    rw [Abs.getD_append_right this,Abs.getD_append_right (by rw [deads_length]; exact this),deads_length]
  · have:=h6 i hi
    simp only [List.length_append,deads_length] at this ⊢
    exact this
end Go.Proofs.YtkajklfohjcofaaGreatDoor
/- The model's FindType and FindVal. -/
set_option linter.unusedVariables false
set_option linter.unusedSimpArgs false
namespace Go.Proofs.YtkajklfohjcofaaGreatDoor
open Go.Abs
theorem rdN_ex (s : List SigI) : ∃ o,RdN s o:=by
  cases hb : sigB s with
  | false=>exact ⟨none,rdN_bad hb⟩
  | true =>
    obtain ⟨ys,h8,hr,hord⟩:=sigB_yes hb
    cases hn : normL [] ys with
    | none=>exact ⟨none,.inr ⟨ys,h8,hr,.inr hn⟩⟩
    | some zs=>exact ⟨some zs,ys,h8,hr,hord,hn⟩
theorem findO_ex (zs : List VI) (q : Ky) : ∃ o,FindO zs q o:=by
  by_cases h : ∃ i,i < zs.length ∧ viK (zs.getD i vi0) = q
  · obtain ⟨i,h1,h2⟩:=h
    exact ⟨some (meanI (zs.getD i vi0)),i,h1,h2,rfl⟩
  · exact ⟨none,fun i hi hq=>h ⟨i,hi,hq⟩⟩
theorem meanIs_ex (s : List SigI) (q : Ky) : ∃ o,MeanIs s q o:=by
  obtain ⟨o,ho⟩:=rdN_ex s
  cases o with
  | none=>exact ⟨none,.inr ⟨ho,rfl⟩⟩
  | some zs =>
    obtain ⟨o,h⟩:=findO_ex zs q
    exact ⟨o,.inl ⟨zs,ho,h⟩⟩
theorem rdN_vok {s : List SigI} {zs : List VI} (h : RdN s (some zs)) : zs.length ≤ 8 ∧ ∀ i,i < zs.length → VOk (meanI (zs.getD i vi0)):=by
  obtain ⟨ys,h8,hr,hord,hn⟩:=h
  obtain ⟨hf,rfl⟩:=normL_fit hn
  have hy : ∀ i,i < ys.length → VOk (meanI (ys.getD i vi0)):=fun k hk=>by
    have:=hr.2 k (by rw [← hr.1]; exact hk)
    exact mean_ok this.1 this.2
  refine ⟨by rw [zsN_length,hr.1]; exact h8,fun i hi=>?_⟩
  rw [zsN_length] at hi
  rw [zsN_getD ys hi]
  exact zsN_ok hy hf hi
theorem meanIs_vok {s : List SigI} {q : Ky} {v : VT} (h : MeanIs s q (some v)) : VOk v:=by
  rcases h with ⟨zs,hr,i,hi,_,rfl⟩ | ⟨_,h⟩
  · exact (rdN_vok hr).2 i hi
  · cases h
theorem siOf_getD {zs : List VI} {i : Nat} (h : i < zs.length) : (sEs (zs.map siOf)).getD i [] = sE (siOf (zs.getD i vi0)):=by
  simp [sEs,List.getD,h]
set_option maxRecDepth 100000 in
set_option maxHeartbeats 4000000 in
theorem spec_FindType (s : List SigI) (hs : s.length ≤ 1048576) (ho : ∀ x ∈ s,x.Ok ∧ sz x.typ ≤ 1048576) (nm : List UInt8) (A : List Box) : ACalls Tryz.prog 103 [.slice (sEs s),.str nm] A (fun r A'=>∃ o,MeanIs s (false,nm) o ∧ r = .tuple [.agg (enc (oTyS o)),.bool o.isSome] ∧ A' = A):=by
  refine acalls_enter (cf:=cf 52 [0,1,4,5,6,7,8,20,37,43]) foll Tryz.func103 Tryz.ntmps103 (by simp [cf]) ?_
  simp only [Tryz.f103,EnterK_some,zW,zX,zD,builtinA,isLeaf,const1,ustrA,simprocAttr,ti3,ti9,ti25,ti45,ti49,ca86,ca90,ca138,cf,Tryz.results103]
  refine callO_intro (spec_NormalSig s hs ho _) ?_
  rintro r A' ⟨o,hrd,rfl,rfl⟩
  cases o with
  | none =>
    simp only [nrR,sgN]
    simp only [zW,zX,zD,builtinA,isLeaf,const1,ustrA,simprocAttr,ti3,ti9,ti25,ti45,ti49,ca86,ca90,ca138,cf,Tryz.results103]
    refine aloop_intro [1,4,6,7,8] (fun e A'=>e = [(1,.str nm),(4,.ptr A.length 0),(6,.slice []),(7,.bool false),(8,.int .i64 0)] ∧ A' = A ++ [.cells [.int .i64 0,.str [],.str [],.nils]]) (fun e _=>0) ?_ ?_
    · simp only [zW,zX,zD,builtinA,isLeaf,const1,ustrA,simprocAttr,ti3,ti9,ti25,ti45,ti49,ca86,ca90,ca138,cf,Tryz.results103]
    · rintro e A' ⟨rfl,rfl⟩
      have d0 : decide ((0 : Int) < ((0 : Nat) : Int)) = false:=rfl
      simp only [zW,zX,zD,builtinA,isLeaf,const1,ustrA,simprocAttr,ti3,ti9,ti25,ti45,ti49,ca86,ca90,ca138,cf,Tryz.results103,d0]
      exact ⟨none,.inr ⟨hrd,rfl⟩,by simp [oTyS,ty0,enc,encs]⟩
  | some zs =>
    have hvok:=rdN_vok hrd
    simp only [nrR,sgR]
    simp only [zW,zX,zD,builtinA,isLeaf,const1,ustrA,simprocAttr,ti3,ti9,ti25,ti45,ti49,ca86,ca90,ca138,cf,Tryz.results103]
    refine aloop_intro [1,4,6,7,8] (fun e A'=>∃ i,i ≤ zs.length ∧ (∀ k,k < i → viK (zs.getD k vi0) ≠ (false,nm)) ∧ e = [(1,.str nm),(4,.ptr A.length 0),(6,.slice (sEs (zs.map siOf))),(7,.bool true),(8,.int .i64 i)] ∧ A' = A ++ [.cells [.int .i64 0,.str [],.str [],.nils]]) (fun e _=>zs.length - (intOf (Abs.look 8 e)).toNat) ?_ ?_
    · simp only [zW,zX,zD,builtinA,isLeaf,const1,ustrA,simprocAttr,ti3,ti9,ti25,ti45,ti49,ca86,ca90,ca138,cf,Tryz.results103]
      exact ⟨0,by omega,fun k hk=>by omega,rfl⟩
    · rintro e A' ⟨i,hi,hq,rfl,rfl⟩
      have hlen : (sEs (zs.map siOf)).length = zs.length:=by simp [sEs_length]
      by_cases hi2 : i < zs.length
      · have d1 : decide ((i : Int) < (zs.length : Int)) = true:=by simp; omega
        have pi : (0 : Int) ≤ (i : Int) ∧ (i : Int) < (zs.length : Int):=⟨by omega,by omega⟩
        have hg:=siOf_getD hi2
        have hi1 : IntKind.i64.wrap ((i : Int) + 1) = ((i + 1 : Nat) : Int):=by rw [wrap64 (by omega) (by omega)]; rfl
        have hv:=hvok.2 i hi2
        generalize hyv : zs.getD i vi0 = y at *
        have hnext : viK y ≠ (false,nm) → ∀ k,k < i + 1 → viK (zs.getD k vi0) ≠ (false,nm):=fun h k hk=>by
          rcases Nat.lt_succ_iff_lt_or_eq.mp hk with h1 | rfl
          · exact hq k h1
          · rw [hyv]; exact h
        have hty:=fun A=>spec_l2IsType (siOf y) A
        cases y with
        | ab n =>
          have hT : isTB (siOf (.ab n)) = true:=rfl
          rw [hT] at hty
          have hN:=fun A=>spec_l1Name0 [] n A
          simp only [siOf,sE] at hg hty
          simp only [zW,zX,zD,builtinA,isLeaf,const1,ustrA,simprocAttr,ti3,ti9,ti25,ti45,ti49,ca86,ca90,ca138,cf,Tryz.results103,hlen,d1]
          by_cases hn : n = nm
          · subst hn
            simp only [zW,zX,zD,builtinA,isLeaf,const1,ustrA,simprocAttr,ti3,ti9,ti25,ti45,ti49,ca86,ca90,ca138,cf,Tryz.results103,hg,hlen,enc_length]
            refine ⟨pi,pi,?_⟩
            refine callK_intro (by simp only [zW,zX,zD,builtinA,isLeaf,const1,ustrA,simprocAttr,enc_length,enc_take,sub_drop,frzL_enc,sub_closed,Option.map_some]; rfl) (hty _) ?_ rfl; rintro v A' ⟨rfl,rfl⟩
            simp only [zW,zX,zD,builtinA,isLeaf,const1,ustrA,simprocAttr,ti3,ti9,ti25,ti45,ti49,ca86,ca90,ca138,cf,Tryz.results103,hg,hlen,enc_length,enc_take,sub_drop,frzL_enc,sub_closed,Option.map_some]
            refine ⟨pi,?_⟩
            refine callK_intro (by simp only [zW,zX,zD,builtinA,isLeaf,const1,ustrA,simprocAttr,enc_length,enc_take,sub_drop,frzL_enc,sub_closed,Option.map_some]; rfl) (hN _) ?_ rfl; rintro v A' ⟨rfl,rfl⟩
            simp only [zW,zX,zD,builtinA,isLeaf,const1,ustrA,simprocAttr,ti3,ti9,ti25,ti45,ti49,ca86,ca90,ca138,cf,Tryz.results103,hg,hlen,enc_length,enc_take,sub_drop,frzL_enc,sub_closed,Option.map_some]
            exact ⟨some (.nm [] n),.inl ⟨zs,hrd,i,hi2,by rw [hyv]; rfl,by rw [hyv]; rfl⟩,rfl⟩
          · simp only [zW,zX,zD,builtinA,isLeaf,const1,ustrA,simprocAttr,ti3,ti9,ti25,ti45,ti49,ca86,ca90,ca138,cf,Tryz.results103,hg,hlen,enc_length,decide_eq_false hn,hi1,LoopK_eq]
            refine ⟨pi,⟨i + 1,by omega,hnext (by simp [viK,hn]),rfl⟩,?_⟩
            simp only [intOf]; omega
        | al n v =>
          have hT : isTB (siOf (.al n v)) = true:=rfl
          rw [hT] at hty
          simp only [siOf,sE] at hg hty
          simp only [zW,zX,zD,builtinA,isLeaf,const1,ustrA,simprocAttr,ti3,ti9,ti25,ti45,ti49,ca86,ca90,ca138,cf,Tryz.results103,hlen,d1]
          by_cases hn : n = nm
          · subst hn
            simp only [zW,zX,zD,builtinA,isLeaf,const1,ustrA,simprocAttr,ti3,ti9,ti25,ti45,ti49,ca86,ca90,ca138,cf,Tryz.results103,hg,hlen,enc_length]
            refine ⟨pi,pi,?_⟩
            refine callK_intro (by simp only [zW,zX,zD,builtinA,isLeaf,const1,ustrA,simprocAttr,enc_length,enc_take,sub_drop,frzL_enc,sub_closed,Option.map_some]; rfl) (hty _) ?_ rfl; rintro v A' ⟨rfl,rfl⟩
            simp only [zW,zX,zD,builtinA,isLeaf,const1,ustrA,simprocAttr,ti3,ti9,ti25,ti45,ti49,ca86,ca90,ca138,cf,Tryz.results103,hg,hlen,enc_length,enc_take,sub_drop,frzL_enc,sub_closed,Option.map_some]
            refine ⟨pi,pi,?_⟩
            exact ⟨some v,.inl ⟨zs,hrd,i,hi2,by rw [hyv]; rfl,by rw [hyv]; rfl⟩,rfl⟩
          · simp only [zW,zX,zD,builtinA,isLeaf,const1,ustrA,simprocAttr,ti3,ti9,ti25,ti45,ti49,ca86,ca90,ca138,cf,Tryz.results103,hg,hlen,enc_length,decide_eq_false hn,hi1,LoopK_eq]
            refine ⟨pi,⟨i + 1,by omega,hnext (by simp [viK,hn]),rfl⟩,?_⟩
            simp only [intOf]; omega
        | va n v =>
          have hT : isTB (siOf (.va n v)) = false:=rfl
          rw [hT] at hty
          simp only [siOf,sE] at hg hty
          simp only [zW,zX,zD,builtinA,isLeaf,const1,ustrA,simprocAttr,ti3,ti9,ti25,ti45,ti49,ca86,ca90,ca138,cf,Tryz.results103,hlen,d1]
          by_cases hn : n = nm
          · subst hn
            simp only [zW,zX,zD,builtinA,isLeaf,const1,ustrA,simprocAttr,ti3,ti9,ti25,ti45,ti49,ca86,ca90,ca138,cf,Tryz.results103,hg,hlen,enc_length]
            refine ⟨pi,pi,?_⟩
            refine callK_intro (by simp only [zW,zX,zD,builtinA,isLeaf,const1,ustrA,simprocAttr,enc_length,enc_take,sub_drop,frzL_enc,sub_closed,Option.map_some]; rfl) (hty _) ?_ rfl; rintro v A' ⟨rfl,rfl⟩
            simp only [zW,zX,zD,builtinA,isLeaf,const1,ustrA,simprocAttr,ti3,ti9,ti25,ti45,ti49,ca86,ca90,ca138,cf,Tryz.results103,hi1,LoopK_eq]
            refine ⟨⟨i + 1,by omega,hnext (by simp [viK]),rfl⟩,?_⟩
            simp only [intOf]; omega
          · simp only [zW,zX,zD,builtinA,isLeaf,const1,ustrA,simprocAttr,ti3,ti9,ti25,ti45,ti49,ca86,ca90,ca138,cf,Tryz.results103,hg,hlen,enc_length,decide_eq_false hn,hi1,LoopK_eq]
            refine ⟨pi,⟨i + 1,by omega,hnext (by simp [viK,hn]),rfl⟩,?_⟩
            simp only [intOf]; omega
      · have d1 : decide ((i : Int) < (zs.length : Int)) = false:=by simp; omega
        have e : i = zs.length:=by omega
        subst e
        simp only [zW,zX,zD,builtinA,isLeaf,const1,ustrA,simprocAttr,ti3,ti9,ti25,ti45,ti49,ca86,ca90,ca138,cf,Tryz.results103,hlen,d1]
        exact ⟨none,.inl ⟨zs,hrd,hq⟩,by simp [oTyS,ty0,enc,encs]⟩
end Go.Proofs.YtkajklfohjcofaaGreatDoor
/- What abstract types stand for in another signature, as data; both signatures read by the program. -/
set_option linter.unusedVariables false
set_option linter.unusedSimpArgs false
namespace Go.Proofs.YtkajklfohjcofaaGreatDoor
open Go.Abs
def findF : List VI → Ky → Option VT
  | [],_=>none
  | y :: ys,q=>if viK y = q then some (meanI y) else findF ys q
theorem findF_some {ys : List VI} {q : Ky} {v : VT} (h : findF ys q = some v) : ∃ i,i < ys.length ∧ viK (ys.getD i vi0) = q ∧ meanI (ys.getD i vi0) = v:=by
  induction ys with
  | nil=>cases h
  | cons y ys ih =>
    rw [findF] at h
    split at h
    · rename_i hk
      cases h
      exact ⟨0,by simp,hk,rfl⟩
    · obtain ⟨i,h1,h2,h3⟩:=ih h
      exact ⟨i + 1,by simpa using h1,by simpa using h2,by simpa using h3⟩
theorem findF_none {ys : List VI} {q : Ky} (h : findF ys q = none) : ∀ i,i < ys.length → viK (ys.getD i vi0) ≠ q:=by
  induction ys with
  | nil=>intro i hi; simp at hi
  | cons y ys ih =>
    rw [findF] at h
    split at h
    · cases h
    · rename_i hk
      intro i hi
      cases i with
      | zero=>exact hk
      | succ i=>simpa using ih h i (by simpa using hi)
theorem findF_is (ys : List VI) (q : Ky) : FindO ys q (findF ys q):=by
  cases h : findF ys q with
  | none=>exact findF_none h
  | some v=>exact findF_some h
theorem meanIs_find {s : List SigI} {zs : List VI} (h : RdN s (some zs)) {q : Ky} {o : Option VT} (hm : MeanIs s q o) : o = findF zs q :=
  meanIs_one hm (.inl ⟨zs,h,findF_is zs q⟩)
open Classical in
noncomputable def visC (hs : List VI) (m : List (BNm × VT)) (y : VI) : Int :=
  match findF hs (viK y) with
  | none=>1
  | some f=>match y with
    | .ab _=>0
    | .al _ v=>if subV m v = f then 0 else if fitI (.al [] (subV m v)) = true then 2 else 4
    | .va _ v=>if subV m v = f then 0 else if fitI (.al [] (subV m v)) = true then 3 else 4
def visS (hs : List VI) (m : List (BNm × VT)) (y : VI) : List (BNm × VT) :=
  match findF hs (viK y),y with
  | some f,.ab n=>m ++ [(([],n),f)]
  | _,_=>m
noncomputable def offC (hs : List VI) : List (BNm × VT) → List VI → Nat → Option (Nat × Ky × Int)
  | _,[],_=>none
  | m,y :: ys,i=>if visC hs m y = 0 then offC hs (visS hs m y) ys (i + 1) else some (i,viK y,visC hs m y)
theorem visC_range (hs : List VI) (m : List (BNm × VT)) (y : VI) : 0 ≤ visC hs m y ∧ visC hs m y ≤ 4:=by
  unfold visC
  cases findF hs (viK y) with
  | none=>simp
  | some f =>
    cases y with
    | ab n=>simp
    | al n v=>simp only; split <;> (try split) <;> simp
    | va n v=>simp only; split <;> (try split) <;> simp
def knownB (hs : List VI) : List VI → List (BNm × VT)
  | []=>[]
  | .ab n :: ys=>match findF hs (false,n) with
    | some f=>(([],n),f) :: knownB hs ys
    | none=>knownB hs ys
  | .al _ _ :: ys=>knownB hs ys
  | .va _ _ :: ys=>knownB hs ys
theorem knownB_app (hs : List VI) : ∀ a b : List VI,knownB hs (a ++ b) = knownB hs a ++ knownB hs b
  | [],b=>rfl
  | .ab n :: a,b=>by
    simp only [List.cons_append,knownB]
    cases findF hs (false,n) <;> simp [knownB_app hs a b]
  | .al _ _ :: a,b=>by simp only [List.cons_append,knownB]; exact knownB_app hs a b
  | .va _ _ :: a,b=>by simp only [List.cons_append,knownB]; exact knownB_app hs a b
theorem knownB_visS (hs : List VI) (a : List VI) (y : VI) : knownB hs (a ++ [y]) = visS hs (knownB hs a) y:=by
  rw [knownB_app]
  unfold visS
  cases y with
  | ab n =>
    simp only [knownB,viK]
    cases findF hs (false,n) <;> simp
  | al n v=>simp [knownB]
  | va n v=>simp [knownB]
theorem knownB_names (hs : List VI) : ∀ (a : List VI),∀ x ∈ knownB hs a,x.1.1 = [] ∧ (false,x.1.2) ∈ a.map viK
  | [],x,h=>by simp [knownB] at h
  | .ab n :: a,x,h=>by
    simp only [knownB] at h
    cases hf : findF hs (false,n) with
    | none =>
      rw [hf] at h
      have:=knownB_names hs a x h
      exact ⟨this.1,by simp [this.2]⟩
    | some f =>
      rw [hf] at h
      rcases List.mem_cons.1 h with rfl | h
      · exact ⟨rfl,by simp [viK]⟩
      · have:=knownB_names hs a x h
        exact ⟨this.1,by simp [this.2]⟩
  | .al _ _ :: a,x,h=>by
    have:=knownB_names hs a x (by simpa [knownB] using h)
    exact ⟨this.1,by simp [this.2]⟩
  | .va _ _ :: a,x,h=>by
    have:=knownB_names hs a x (by simpa [knownB] using h)
    exact ⟨this.1,by simp [this.2]⟩
theorem knownB_ok {hs : List VI} (hh : ∀ i,i < hs.length → VOk (meanI (hs.getD i vi0))) : ∀ (a : List VI),∀ x ∈ knownB hs a,VOk x.2
  | [],x,h=>by simp [knownB] at h
  | .ab n :: a,x,h=>by
    simp only [knownB] at h
    cases hf : findF hs (false,n) with
    | none=>rw [hf] at h; exact knownB_ok hh a x h
    | some f =>
      rw [hf] at h
      rcases List.mem_cons.1 h with rfl | h
      · obtain ⟨i,hi,_,h2⟩:=findF_some hf
        rw [← h2]; exact hh i hi
      · exact knownB_ok hh a x h
  | .al _ _ :: a,x,h=>knownB_ok hh a x (by simpa [knownB] using h)
  | .va _ _ :: a,x,h=>knownB_ok hh a x (by simpa [knownB] using h)
theorem lookB_app (q : BNm) : ∀ a b : List (BNm × VT),lookB q (a ++ b) = (lookB q a).orElse fun _=>lookB q b
  | [],b=>by simp [lookB]
  | (p,v) :: a,b=>by
    simp only [List.cons_append,lookB]
    split
    · rfl
    · exact lookB_app q a b
theorem lookB_none {q : BNm} {a : List (BNm × VT)} (h : ∀ x ∈ a,x.1 ≠ q) : lookB q a = none:=by
  rcases Classical.em (lookB q a = none) with h' | h'
  · exact h'
  · obtain ⟨x,hx,hq⟩:=look_mem h'
    exact absurd hq (h x hx)
theorem subV_more {a b : List (BNm × VT)} {ks : List Ky} (hb : ∀ x ∈ b,x.1.1 = [] ∧ (false,x.1.2) ∉ ks) : ∀ {v : VT},allV (okN ks) v = true → subV (a ++ b) v = subV a v
  | .num,_=>rfl
  | .nm m n,h=>by
    rw [subV,subV,lookB_app]
    cases lookB (m,n) a with
    | some v=>rfl
    | none =>
      have : lookB (m,n) b = none:=lookB_none fun x hx e=>by
        have h1:=hb x hx
        rw [e] at h1
        obtain ⟨h2,h3⟩:=h1
        have h2 : m = []:=h2
        subst h2
        simp only [allV,okN,decide_true,Bool.not_true,Bool.false_or,decide_eq_true_eq] at h
        exact h3 h
      rw [this]; rfl
  | .fn x y,h=>by
    simp only [allV,Bool.and_eq_true] at h
    simp only [subV,subV_more hb h.1,subV_more hb h.2]
theorem visC_all {hs ws : List VI} (ho : ordB ws = true) {i : Nat} (hi : i < ws.length) : visC hs (knownB hs ws) (ws.getD i vi0) = visC hs (knownB hs (ws.take i)) (ws.getD i vi0):=by
  have hs' : stepB (ws.take i) (ws.getD i vi0) = true:=by
    have ho':=ho
    unfold ordB at ho'
    rw [List.all_eq_true] at ho'
    exact ho' i (List.mem_range.mpr hi)
  simp only [stepB,Bool.and_eq_true] at hs'
  have hsplit : knownB hs ws = knownB hs (ws.take i) ++ knownB hs (ws.drop i):=by rw [← knownB_app,List.take_append_drop]
  have hnew : ∀ x ∈ knownB hs (ws.drop i),x.1.1 = [] ∧ (false,x.1.2) ∉ (ws.take i).map viK:=fun x hx=>by
    obtain ⟨h1,h2⟩:=knownB_names hs _ x hx
    refine ⟨h1,fun h3=>?_⟩
    obtain ⟨y,hy,hyk⟩:=List.mem_map.1 h2
    obtain ⟨z,hz,hzk⟩:=List.mem_map.1 h3
    obtain ⟨a,ha,rfl⟩:=List.mem_iff_getElem.1 hy
    obtain ⟨b,hb,rfl⟩:=List.mem_iff_getElem.1 hz
    simp only [List.length_drop,List.length_take] at ha hb
    have hne:=ordB_ne ho (i:=b) (j:=i + a) (by omega) (by omega)
    apply hne
    have e1 : ws.getD b vi0 = (ws.take i)[b]:=by simp [List.getD,show b < ws.length by omega]
    have e2 : ws.getD (i + a) vi0 = (ws.drop i)[a]:=by simp [List.getD,show i + a < ws.length by omega]
    rw [e1,e2,hyk,hzk]
  rw [hsplit]
  unfold visC
  cases findF hs (viK (ws.getD i vi0)) with
  | none=>rfl
  | some f =>
    cases hy : ws.getD i vi0 with
    | ab n=>rfl
    | al n v=>rw [hy] at hs'; simp only [allI] at hs'; have e:=subV_more (a:=knownB hs (ws.take i)) hnew hs'.1; dsimp only; rw [e]
    | va n v=>rw [hy] at hs'; simp only [allI] at hs'; have e:=subV_more (a:=knownB hs (ws.take i)) hnew hs'.1; dsimp only; rw [e]
theorem offC_from (hs ws : List VI) : ∀ n i,n = ws.length - i → i ≤ ws.length → (∀ k,k < i → visC hs (knownB hs (ws.take k)) (ws.getD k vi0) = 0) → offC hs [] ws 0 = offC hs (knownB hs (ws.take i)) (ws.drop i) i
  | _,0,_,_,_=>by simp [knownB]
  | n,i + 1,hn,hi,hk=>by
    rw [offC_from hs ws (n + 1) i (by omega) (by omega) fun k h=>hk k (by omega),vi_drop (show i < ws.length by omega),offC,if_pos (hk i (by omega))]
    have : visS hs (knownB hs (ws.take i)) (ws.getD i vi0) = knownB hs (ws.take (i + 1)):=by
      rw [← knownB_visS,List.take_add_one]
      congr 1
      simp [List.getD,show i < ws.length by omega]
    rw [this]
end Go.Proofs.YtkajklfohjcofaaGreatDoor
namespace Go.Proofs.YtkajklfohjcofaaGreatDoor
open Go.Abs
def absO : VI → Option (List UInt8)
  | .ab n=>some n
  | _=>none
theorem absO_sub (m : List (BNm × VT)) (y : VI) : absO (subI m y) = absO y:=by cases y <;> rfl
theorem absO_zs (ys : List VI) : ∀ i,i ≤ ys.length → (zsN ys i).map absO = (ys.take i).map absO
  | 0,_=>by simp [zsN]
  | i + 1,h=>by
    have e : ys.take (i + 1) = ys.take i ++ [ys.getD i vi0]:=by rw [List.take_add_one]; simp [List.getD,show i < ys.length by omega]
    rw [zsN_succ,List.map_append,absO_zs ys i (by omega),e]; simp [absO_sub]
def mbO (hs : List VI) : List (Option (List UInt8)) → Option (List BdI)
  | []=>some []
  | none :: l=>mbO hs l
  | some n :: l=>match findF hs (false,n) with
    | none=>none
    | some f=>(mbO hs l).map (⟨[],n,toTy f⟩ :: ·)
theorem mbO_app (hs : List VI) : ∀ a b : List (Option (List UInt8)),mbO hs (a ++ b) = (mbO hs a).bind fun x=>(mbO hs b).map (x ++ ·)
  | [],b=>by simp [mbO]
  | none :: a,b=>by simp only [List.cons_append,mbO]; exact mbO_app hs a b
  | some n :: a,b=>by
    simp only [List.cons_append,mbO]
    cases findF hs (false,n) with
    | none=>rfl
    | some f =>
      simp only [mbO_app hs a b]
      cases mbO hs a with
      | none=>rfl
      | some x=>cases mbO hs b <;> simp
theorem mbO_snoc (hs : List VI) {l : List (Option (List UInt8))} {i : Nat} (hi : i < l.length) {bs : List BdI} (h : mbO hs (l.take i) = some bs) : mbO hs (l.take (i + 1)) = (mbO hs [l.getD i none]).map (bs ++ ·):=by
  have e : l.take (i + 1) = l.take i ++ [l.getD i none]:=by rw [List.take_add_one]; simp [List.getD,hi]
  rw [e,mbO_app,h]; rfl
theorem mbO_fail (hs : List VI) {l : List (Option (List UInt8))} {i : Nat} (hi : i < l.length) (h : mbO hs [l.getD i none] = none) : mbO hs l = none:=by
  have e : l = l.take i ++ ([l.getD i none] ++ l.drop (i + 1)):=by
    have : l.getD i none = l[i]:=by simp [List.getD,hi]
    rw [this,List.singleton_append,List.getElem_cons_drop hi,List.take_append_drop]
  rw [e,mbO_app,mbO_app,h]
  cases mbO hs (l.take i) <;> rfl
theorem mbO_ok {hs : List VI} (hh : ∀ i,i < hs.length → VOk (meanI (hs.getD i vi0))) : ∀ {l : List (Option (List UInt8))} {bs : List BdI},mbO hs l = some bs → bs.length ≤ l.length ∧ ∀ b ∈ bs,∃ n f,some n ∈ l ∧ VOk f ∧ b = ⟨[],n,toTy f⟩
  | [],bs,h=>by cases h; exact ⟨by simp,by simp⟩
  | none :: l,bs,h=>by
    obtain ⟨h1,h2⟩:=mbO_ok hh (l:=l) (by simpa [mbO] using h)
    exact ⟨by simp; omega,fun b hb=>by obtain ⟨n,f,h3,h4,h5⟩:=h2 b hb; exact ⟨n,f,by simp [h3],h4,h5⟩⟩
  | some n :: l,bs,h=>by
    simp only [mbO] at h
    cases hf : findF hs (false,n) with
    | none=>rw [hf] at h; cases h
    | some f =>
      rw [hf] at h
      obtain ⟨bs',h1,rfl⟩:=Option.map_eq_some_iff.1 h
      obtain ⟨h2,h3⟩:=mbO_ok hh h1
      refine ⟨by simp; omega,fun b hb=>?_⟩
      rcases List.mem_cons.1 hb with rfl | hb
      · obtain ⟨i,hi,_,h4⟩:=findF_some hf
        exact ⟨n,f,by simp,by rw [← h4]; exact hh i hi,rfl⟩
      · obtain ⟨n',f',h4,h5,h6⟩:=h3 b hb
        exact ⟨n',f',by simp [h4],h5,h6⟩
def MbIs (a b : List SigI) (o : Option (List BdI)) : Prop :=
  (∃ hs ws,RdN a (some hs) ∧ RdN b (some ws) ∧ o = mbO hs (ws.map absO)) ∨ ((RdN a none ∨ RdN b none) ∧ o = none)
theorem mbIs_ex (a b : List SigI) : ∃ o,MbIs a b o:=by
  obtain ⟨oa,ha⟩:=rdN_ex a
  obtain ⟨ob,hb⟩:=rdN_ex b
  cases oa with
  | none=>exact ⟨none,.inr ⟨.inl ha,rfl⟩⟩
  | some hs =>
    cases ob with
    | none=>exact ⟨none,.inr ⟨.inr hb,rfl⟩⟩
    | some ws=>exact ⟨_,.inl ⟨hs,ws,ha,hb,rfl⟩⟩
theorem mbIs_one {a b : List SigI} {o o' : Option (List BdI)} (h : MbIs a b o) (h' : MbIs a b o') : o = o':=by
  rcases h with ⟨hs,ws,h1,h2,rfl⟩ | ⟨h1,rfl⟩
  · rcases h' with ⟨hs',ws',h3,h4,rfl⟩ | ⟨h3,rfl⟩
    · rw [rdN_one h1 h3,rdN_one h2 h4]
    · rcases h3 with h3 | h3
      · exact absurd h3 (rdN_not h1)
      · exact absurd h3 (rdN_not h2)
  · rcases h' with ⟨hs',ws',h3,h4,rfl⟩ | ⟨h3,rfl⟩
    · rcases h1 with h1 | h1
      · exact absurd h1 (rdN_not h3)
      · exact absurd h1 (rdN_not h4)
    · rfl
theorem rdN_no {s : List SigI} {ys : List VI} (h8 : s.length ≤ 8) (hr : ReadsTo s ys) (h : ordB ys = false ∨ normL [] ys = none) : RdN s none:=.inr ⟨ys,h8,hr,h⟩
set_option maxRecDepth 100000 in
theorem impl_readMatch (a b : List SigI) (ha : a.length ≤ 1048576) (hoa : ∀ x ∈ a,x.Ok ∧ sz x.typ ≤ 1048576) (hb : b.length ≤ 1048576) (hob : ∀ x ∈ b,x.Ok ∧ sz x.typ ≤ 1048576) (A : List Box) :
    ACalls Tryz.prog 46 [.slice (sEs a),.slice (sEs b)] A (fun r A'=>∃ B,A' = A ++ B ∧
      ((∃ hs ws j k,RdN a (some hs) ∧ RdN b (some ws) ∧ r = .tuple [.own (A.length + j),.own (A.length + k),.int .i64 0] ∧ j < B.length ∧ k < B.length ∧ B.getD j .dead = .row 1 (vRows hs) 0 ∧ B.getD k .dead = .row 1 (vRows ws) 0) ∨
       (∃ c,((c = 5 ∧ (sigB a = false ∨ sigB b = false)) ∨ (c = 4 ∧ sigB a = true ∧ sigB b = true)) ∧ (RdN a none ∨ RdN b none) ∧ r = .tuple [.nils,.nils,.int .i64 c]))):=by
  refine acalls_enterK (cf:=cf 45 [0,1,4,5,6,7,8,9,10,26,42]) foll Tryz.func46 Tryz.ntmps46 (by simp [cf]) ?_
  simp only [Tryz.f46,EnterK_some,zW,zX,zD,builtinA,isLeaf,const1,ustrA,simprocAttr,ca55,ca79,cf,Tryz.results46]
  refine callO_intro (impl_readSig a ha hoa _) ?_
  rintro r A1 ⟨h1,hA⟩
  have hA:=hA.symm
  subst hA
  rcases h1 with ⟨ys,h8,hr,rfl⟩ | ⟨hbad,rfl⟩
  · simp only [zW,zX,zD,builtinA,isLeaf,const1,ustrA,simprocAttr,ca55,ca79,cf,Tryz.results46]
    refine callO_intro (impl_readSig b hb hob _) ?_
    rintro r A1 ⟨h1,hA⟩
    have hA:=hA.symm
    subst hA
    rcases h1 with ⟨zs,h8',hr',rfl⟩ | ⟨hbad,rfl⟩
    · cases hord : ordB ys with
      | false =>
        have hs : sigB a = false:=by rw [sigB_reads h8 hr]; exact hord
        simp only [zW,zX,zD,builtinA,isLeaf,const1,ustrA,simprocAttr,ca55,ca79,cf,Tryz.results46]
        exact ⟨[],by simp,.inr ⟨5,.inl ⟨rfl,.inl hs⟩,.inl (rdN_bad hs),rfl⟩⟩
      | true =>
        cases hord' : ordB zs with
        | false =>
          have hs : sigB b = false:=by rw [sigB_reads h8' hr']; exact hord'
          simp only [zW,zX,zD,builtinA,isLeaf,const1,ustrA,simprocAttr,ca55,ca79,cf,Tryz.results46]
          exact ⟨[],by simp,.inr ⟨5,.inl ⟨rfl,.inr hs⟩,.inr (rdN_bad hs),rfl⟩⟩
        | true =>
          have hsa : sigB a = true:=by rw [sigB_reads h8 hr]; exact hord
          have hsb : sigB b = true:=by rw [sigB_reads h8' hr']; exact hord'
          have hna:=impl_normal ys (by have:=hr.1; omega) (fun k hk=>by
            have:=hr.2 k (by rw [← hr.1]; exact hk)
            exact mean_ok this.1 this.2) hord
          have hnb:=impl_normal zs (by have:=hr'.1; omega) (fun k hk=>by
            have:=hr'.2 k (by rw [← hr'.1]; exact hk)
            exact mean_ok this.1 this.2) hord'
          simp only [zW,zX,zD,builtinA,isLeaf,const1,ustrA,simprocAttr,ca55,ca79,cf,Tryz.results46]
          refine callO_intro (hna _) ?_
          rintro r A2 ⟨B,rfl,⟨hs,j,e,rfl,hj,hg⟩ | ⟨e,rfl⟩⟩
          · simp only [zW,zX,zD,builtinA,isLeaf,const1,ustrA,simprocAttr,ca55,ca79,cf,Tryz.results46]
            refine callO_intro (hnb _) ?_
            rintro r A3 ⟨C,rfl,⟨ws,k,e',rfl,hk,hgk⟩ | ⟨e',rfl⟩⟩
            · simp only [zW,zX,zD,builtinA,isLeaf,const1,ustrA,simprocAttr,ca55,ca79,cf,Tryz.results46]
              refine ⟨B ++ C,by simp,.inl ⟨hs,ws,j,B.length + k,⟨ys,h8,hr,hord,e⟩,⟨zs,h8',hr',hord',e'⟩,?_,by simp; omega,by simp; omega,by rw [Abs.getD_append_left hj]; exact hg,by rw [Abs.getD_append_right (by omega),Nat.add_sub_cancel_left]; exact hgk⟩⟩
              simp [Nat.add_assoc]
            · simp only [zW,zX,zD,builtinA,isLeaf,const1,ustrA,simprocAttr,ca55,ca79,cf,Tryz.results46]
              exact ⟨B ++ C,by simp,.inr ⟨4,.inr ⟨rfl,hsa,hsb⟩,.inr (rdN_no h8' hr' (.inr e')),rfl⟩⟩
          · simp only [zW,zX,zD,builtinA,isLeaf,const1,ustrA,simprocAttr,ca55,ca79,cf,Tryz.results46]
            refine callO_intro (hnb _) ?_
            rintro r A3 ⟨C,rfl,⟨ws,k,e',rfl,hk,hgk⟩ | ⟨e',rfl⟩⟩
            · simp only [zW,zX,zD,builtinA,isLeaf,const1,ustrA,simprocAttr,ca55,ca79,cf,Tryz.results46]
              exact ⟨B ++ C,by simp,.inr ⟨4,.inr ⟨rfl,hsa,hsb⟩,.inl (rdN_no h8 hr (.inr e)),rfl⟩⟩
            · simp only [zW,zX,zD,builtinA,isLeaf,const1,ustrA,simprocAttr,ca55,ca79,cf,Tryz.results46]
              exact ⟨B ++ C,by simp,.inr ⟨4,.inr ⟨rfl,hsa,hsb⟩,.inl (rdN_no h8 hr (.inr e)),rfl⟩⟩
    · have hs:=sigB_bad hbad
      cases hord : ordB ys with
      | false =>
        simp only [zW,zX,zD,builtinA,isLeaf,const1,ustrA,simprocAttr,ca55,ca79,cf,Tryz.results46]
        exact ⟨[],by simp,.inr ⟨5,.inl ⟨rfl,.inr hs⟩,.inr (rdN_bad hs),rfl⟩⟩
      | true =>
        simp only [zW,zX,zD,builtinA,isLeaf,const1,ustrA,simprocAttr,ca55,ca79,cf,Tryz.results46]
        exact ⟨[],by simp,.inr ⟨5,.inl ⟨rfl,.inr hs⟩,.inr (rdN_bad hs),rfl⟩⟩
  · have hs:=sigB_bad hbad
    simp only [zW,zX,zD,builtinA,isLeaf,const1,ustrA,simprocAttr,ca55,ca79,cf,Tryz.results46]
    refine callO_intro (impl_readSig b hb hob _) ?_
    rintro r A1 ⟨h1,hA⟩
    have hA:=hA.symm
    subst hA
    rcases h1 with ⟨zs,h8',hr',rfl⟩ | ⟨hbad,rfl⟩
    · simp only [zW,zX,zD,builtinA,isLeaf,const1,ustrA,simprocAttr,ca55,ca79,cf,Tryz.results46]
      exact ⟨[],by simp,.inr ⟨5,.inl ⟨rfl,.inl hs⟩,.inl (rdN_bad hs),rfl⟩⟩
    · simp only [zW,zX,zD,builtinA,isLeaf,const1,ustrA,simprocAttr,ca55,ca79,cf,Tryz.results46]
      exact ⟨[],by simp,.inr ⟨5,.inl ⟨rfl,.inl hs⟩,.inl (rdN_bad hs),rfl⟩⟩
theorem rdN_oo {s : List SigI} {o o' : Option (List VI)} (h : RdN s o) (h' : RdN s o') : o = o':=by
  cases o with
  | none =>
    cases o' with
    | none=>rfl
    | some zs=>exact absurd h (rdN_not h')
  | some zs =>
    cases o' with
    | none=>exact absurd h' (rdN_not h)
    | some zs'=>rw [rdN_one h h']
end Go.Proofs.YtkajklfohjcofaaGreatDoor
/- Marks in a list of items that is owned. -/
set_option linter.unusedVariables false
set_option linter.unusedSimpArgs false
namespace Go.Proofs.YtkajklfohjcofaaGreatDoor
open Go.Abs
theorem enc4s (t : Ty) : enc t = [.int .i64 t.kind,.str t.mod,.str t.name,.slice (encs t.kids)]:=by cases t; rw [enc]; rfl
theorem sE6 (x : SigI) : sE x = [.int .i64 x.kind,.str x.name,.int .i64 x.typ.kind,.str x.typ.mod,.str x.typ.name,.slice (encs x.typ.kids)]:=by rw [sE,enc4s]
def sRow (b : SigI) (v : AV) : List AV:=[.int .i64 b.kind,.str b.name,.int .i64 b.typ.kind,.str b.typ.mod,.str b.typ.name,v]
def OwnG (A : List Box) : List SigI → List (List AV) → List Nat → Prop
  | [],rows,S=>rows = [] ∧ S = []
  | b :: bs,rows,S=>∃ v rows' S1 S2,rows = sRow b v :: rows' ∧ S = S1 ++ S2 ∧ OwnK A b.typ.kids v S1 ∧ OwnG A bs rows' S2
theorem OwnG.frame {A A' : List Box} : ∀ {bs : List SigI} {rows : List (List AV)} {S : List Nat},OwnG A bs rows S → (∀ i ∈ S,A'.getD i .dead = A.getD i .dead) → OwnG A' bs rows S
  | [],rows,S,h,hf=>h
  | b :: bs,rows,S,h,hf=>by
    rw [OwnG] at h ⊢
    obtain ⟨v,rows',S1,S2,h1,rfl,h3,h4⟩:=h
    exact ⟨v,rows',S1,S2,h1,rfl,h3.frame fun j hj=>hf j (by simp [hj]),OwnG.frame h4 fun j hj=>hf j (by simp [hj])⟩
theorem OwnG.length {A : List Box} : ∀ {bs : List SigI} {rows : List (List AV)} {S : List Nat},OwnG A bs rows S → rows.length = bs.length
  | [],rows,S,h=>by rw [OwnG] at h; rw [h.1]; rfl
  | b :: bs,rows,S,h=>by
    rw [OwnG] at h
    obtain ⟨v,rows',S1,S2,rfl,h2,h3,h4⟩:=h
    simp [OwnG.length h4]
theorem OwnG.low {A : List Box} : ∀ {bs : List SigI} {rows : List (List AV)} {S : List Nat},OwnG A bs rows S → ∀ i ∈ S,i < A.length
  | [],rows,S,h=>by rw [OwnG] at h; rw [h.2]; simp
  | b :: bs,rows,S,h=>by
    rw [OwnG] at h
    obtain ⟨v,rows',S1,S2,h1,rfl,h3,h4⟩:=h
    intro j hj
    rcases List.mem_append.1 hj with hj | hj
    · exact h3.low j hj
    · exact OwnG.low h4 j hj
theorem OwnG.append {A : List Box} : ∀ {k1 k2 : List SigI} {r1 r2 : List (List AV)} {S1 S2 : List Nat},OwnG A k1 r1 S1 → OwnG A k2 r2 S2 → OwnG A (k1 ++ k2) (r1 ++ r2) (S1 ++ S2)
  | [],k2,r1,r2,S1,S2,h1,h2=>by
    rw [OwnG] at h1
    rw [h1.1,h1.2]; exact h2
  | t :: k1,k2,r1,r2,S1,S2,h1,h2=>by
    rw [OwnG] at h1
    obtain ⟨v,r',T1,T2,rfl,rfl,h3,h4⟩:=h1
    rw [List.cons_append,OwnG]
    exact ⟨v,r' ++ r2,T1,T2 ++ S2,by simp,by simp,h3,OwnG.append h4 h2⟩
theorem OwnG.view {A : List Box} : ∀ {bs : List SigI} {rows : List (List AV)} {S : List Nat},OwnG A bs rows S → ∀ k,k < rows.length → ∀ j,j < 6 → View A ((rows.getD k []).getD j .bot) ((sE (bs.getD k si0)).getD j .bot)
  | [],rows,S,h=>by rw [OwnG] at h; rw [h.1]; intro k hk; simp at hk
  | b :: bs,rows,S,h=>by
    rw [OwnG] at h
    obtain ⟨v,rows',S1,S2,rfl,h2,h3,h4⟩:=h
    intro k hk j hj
    cases k with
    | zero =>
      have hv:=h3.view
      have e0 : (sE ((b :: bs).getD 0 si0)) = sE b:=rfl
      rw [e0,sE6]
      match j,hj with
      | 0,_=>exact .leaf _ rfl
      | 1,_=>exact .leaf _ rfl
      | 2,_=>exact .leaf _ rfl
      | 3,_=>exact .leaf _ rfl
      | 4,_=>exact .leaf _ rfl
      | 5,_=>exact hv
    | succ k =>
      have:=OwnG.view h4 k (by simpa using hk) j hj
      simpa using this
theorem OwnG.viewG {A : List Box} {bs : List SigI} {rows : List (List AV)} {S : List Nat} {i : Nat} (h : A.getD i .dead = .gr none 6 rows) (hb : OwnG A bs rows S) : View A (.own i) (.slice (sEs bs)):=by
  refine .gr i 6 none rows (sEs bs) h (by rw [sEs_length,hb.length]) (fun r hr=>?_) fun k j hk hj=>?_
  · obtain ⟨t,_,rfl⟩:=List.mem_map.1 hr
    exact ⟨sE_length t,sE_leaf t⟩
  · unfold Abs.rowAt
    rw [sEs_getD (by rw [← hb.length]; exact hk)]
    exact hb.view k hk j hj
end Go.Proofs.YtkajklfohjcofaaGreatDoor
namespace Go.Proofs.YtkajklfohjcofaaGreatDoor
open Go.Abs
def OwnI (A : List Box) (xs : List SigI) (v : AV) (S : List Nat) : Prop :=
  (v = .nils ∧ xs = [] ∧ S = []) ∨ ∃ i rows S',v = .own i ∧ S = i :: S' ∧ A.getD i .dead = .gr none 6 rows ∧ OwnG A xs rows S'
theorem OwnI.frame {A A' : List Box} {xs : List SigI} {v : AV} {S : List Nat} (h : OwnI A xs v S) (hf : ∀ i ∈ S,A'.getD i .dead = A.getD i .dead) : OwnI A' xs v S:=by
  rcases h with h | ⟨i,rows,S',h1,h2,h3,h4⟩
  · exact .inl h
  · subst h2
    exact .inr ⟨i,rows,S',h1,rfl,by rw [hf i (by simp)]; exact h3,h4.frame fun j hj=>hf j (by simp [hj])⟩
theorem OwnI.low {A : List Box} {xs : List SigI} {v : AV} {S : List Nat} (h : OwnI A xs v S) : ∀ i ∈ S,i < A.length:=by
  rcases h with ⟨_,_,rfl⟩ | ⟨i,rows,S',h1,rfl,h3,h4⟩
  · simp
  · intro j hj
    rcases List.mem_cons.1 hj with rfl | hj
    · exact live_lt h3 (by simp)
    · exact h4.low j hj
theorem OwnI.view {A : List Box} {xs : List SigI} {v : AV} {S : List Nat} (h : OwnI A xs v S) : View A v (.slice (sEs xs)):=by
  rcases h with ⟨rfl,rfl,_⟩ | ⟨i,rows,S',rfl,_,h3,h4⟩
  · exact .nils
  · exact OwnG.viewG h3 h4
end Go.Proofs.YtkajklfohjcofaaGreatDoor
namespace Go.Proofs.YtkajklfohjcofaaGreatDoor
open Go.Abs
def totG : List SigI → Nat
  | []=>0
  | b :: bs=>5 + 3 * counts b.typ.kids + totG bs
end Go.Proofs.YtkajklfohjcofaaGreatDoor
/- What NormalSig and the like hand back: a list of items that is new memory. -/
set_option linter.unusedVariables false
set_option linter.unusedSimpArgs false
namespace Go.Proofs.YtkajklfohjcofaaGreatDoor
open Go.Abs
theorem OwnK.free {A : List Box} {ks : List Ty} {v : AV} {S : List Nat} (h : OwnK A ks v S) : ifree v = true ∧ ∀ i ∈ S,ifreeB (A.getD i .dead) = true:=by
  have h2:=OwnT.free (ownT_mk.2 ⟨v,rfl,h⟩ : OwnT A (.mk 0 [] [] ks) _ S)
  simpa [ifrees,ifree] using h2
theorem OwnG.free {A : List Box} : ∀ {xs : List SigI} {rows : List (List AV)} {S : List Nat},OwnG A xs rows S → rows.all ifrees = true ∧ ∀ i ∈ S,ifreeB (A.getD i .dead) = true
  | [],rows,S,h=>by rw [OwnG] at h; rw [h.1,h.2]; exact ⟨rfl,by simp⟩
  | t :: ks,rows,S,h=>by
    rw [OwnG] at h
    obtain ⟨v,rows',S1,S2,rfl,rfl,h3,h4⟩:=h
    have a:=h3.free
    have b:=OwnG.free h4
    refine ⟨by rw [List.all_cons,b.1]; simp [sRow,ifrees,ifree,a.1],fun j hj=>?_⟩
    rcases List.mem_append.1 hj with hj | hj
    · exact a.2 j hj
    · exact b.2 j hj
theorem OwnI.free {A : List Box} {xs : List SigI} {v : AV} {S : List Nat} (h : OwnI A xs v S) : ifree v = true ∧ ∀ i ∈ S,ifreeB (A.getD i .dead) = true:=by
  rcases h with ⟨rfl,_,rfl⟩ | ⟨i,rows,S',rfl,rfl,h3,h4⟩
  · exact ⟨rfl,by simp⟩
  · refine ⟨rfl,fun j hj=>?_⟩
    have h5:=h4.free
    rcases List.mem_cons.1 hj with rfl | hj
    · rw [h3]; exact h5.1
    · exact h5.2 j hj
def nrX : Option (List VI) → List SigI
  | some zs=>zs.map siOf
  | none=>[]
theorem itemsX_ok {s : List SigI} (hs : ∀ x ∈ s,x.Ok) {zs : List VI} (h8 : zs.length ≤ 8) (hv : ∀ i,i < zs.length → VOk (meanI (zs.getD i vi0)) ∧ (viK (zs.getD i vi0)).2.length < 2 ^ 63) : (zs.map siOf).length ≤ 8 ∧ (∀ x ∈ zs.map siOf,x.Ok) ∧ totG (zs.map siOf) ≤ 1600:=by
  have key : ∀ x ∈ zs.map siOf,x.Ok ∧ counts x.typ.kids ≤ 64:=fun x hx=>by
    obtain ⟨y,hy,rfl⟩:=List.mem_map.1 hx
    obtain ⟨k,hk,rfl⟩:=List.mem_iff_getElem.1 hy
    have h:=hv k hk
    have e : zs.getD k vi0 = zs[k]:=by simp [List.getD,hk]
    rw [e] at h
    refine ⟨(siOf_ok h.1 h.2).1,?_⟩
    have hc:=h.1.cnt
    generalize zs[k] = y at *
    have hk : ∀ v,counts (toTy v).kids + 1 = cnt v:=fun v=>by
      rw [← count_toTy]; cases toTy v; simp [count,Ty.kids]; omega
    cases y with
    | ab n=>simp [siOf,ty0,Ty.kids,counts]
    | al n v=>have:=hk v; simp only [siOf,meanI] at *; omega
    | va n v=>have:=hk v; simp only [siOf,meanI] at *; omega
  refine ⟨by simpa using h8,fun x hx=>(key x hx).1,?_⟩
  have hb : ∀ l : List SigI,(∀ x ∈ l,counts x.typ.kids ≤ 64) → totG l ≤ 197 * l.length:=by
    intro l
    induction l with
    | nil=>simp [totG]
    | cons x l ih =>
      intro h
      have:=h x (by simp)
      have:=ih fun y hy=>h y (by simp [hy])
      rw [totG,List.length_cons]; omega
  have:=hb _ fun x hx=>(key x hx).2
  simp only [List.length_map] at this
  omega
end Go.Proofs.YtkajklfohjcofaaGreatDoor
