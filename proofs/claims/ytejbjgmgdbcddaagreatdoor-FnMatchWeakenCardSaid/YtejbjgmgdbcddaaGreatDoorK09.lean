/- SpFind, RdOne, MatchP, SpMt, OwnSi. -/
import Derived.Test.YtejbjgmgdbcddaaGreatDoorK08
import Derived.Test.YtejbjgmgdbcddaaGreatDoorAbsW3
/- The model's FindType and FindVal. -/
set_option linter.unusedVariables false
set_option linter.unusedSimpArgs false
namespace Go.Proofs.YtejbjgmgdbcddaaGreatDoor
open Go.Abs
theorem rdN_ex (s : List SigI) : ∃ o,RdN s o:=by
  cases hb : sigB s with
  | false=>exact ⟨none,rdN_bad hb⟩
  | true =>
    obtain ⟨ys,h8,hr,hord⟩:=sigB_yes hb
    cases hn : normL [] ys with
    | none=>exact ⟨none,.inr ⟨ys,h8,hr,.inr hn⟩⟩
    | some zs=>exact ⟨some zs,ys,h8,hr,hord,hn⟩
theorem rdN_vok {s : List SigI} {zs : List VI} (h : RdN s (some zs)) : zs.length ≤ 8 ∧ ∀ i,i < zs.length → VOk (meanI (zs.getD i vi0)):=by
  obtain ⟨ys,h8,hr,hord,hn⟩:=h
  obtain ⟨hf,rfl⟩:=normL_fit hn
  have hy : ∀ i,i < ys.length → VOk (meanI (ys.getD i vi0)):=fun k hk=>by
    have:=hr.2 k (by rw [← hr.1]; exact hk)
    exact mean_ok this.1 this.2
  refine ⟨by rw [zsN_length,hr.1]; exact h8,fun i hi=>?_⟩
  rw [zsN_length] at hi
  rw [zsN_getD ys hi]
  exact zsN_ok hy hf hi
theorem siOf_getD {zs : List VI} {i : Nat} (h : i < zs.length) : (sEs (zs.map siOf)).getD i [] = sE (siOf (zs.getD i vi0)):=by
  simp [sEs,List.getD,h]
set_option maxRecDepth 100000 in
set_option maxHeartbeats 4000000 in
theorem spec_FindType (s : List SigI) (hs : s.length ≤ 1048576) (ho : ∀ x ∈ s,x.Ok ∧ sz x.typ ≤ 1048576) (nm : List UInt8) (A : List Box) : ACalls Tryz.prog 107 [.slice (sEs s),.str nm] A (fun r A'=>∃ o,MeanIs s (false,nm) o ∧ r = .tuple [.agg (enc (oTyS o)),.bool o.isSome] ∧ A' = A):=by
  refine acalls_enter (cf:=cf 52 [0,1,4,5,6,7,8,20,37,43]) foll Tryz.func107 Tryz.ntmps107 (by simp [cf]) ?_
  simp only [Tryz.f107,EnterK_some,zW,zX,zD,builtinA,isLeaf,const1,ustrA,simprocAttr,ti3,ti9,ti23,ti32,ti41,ca26,ca65,ca71,cf,Tryz.results107]
  refine callO_intro (spec_NormalSig s hs ho _) ?_
  rintro r A' ⟨o,hrd,rfl,rfl⟩
  cases o with
  | none =>
    simp only [nrR,sgN]
    simp only [zW,zX,zD,builtinA,isLeaf,const1,ustrA,simprocAttr,ti3,ti9,ti23,ti32,ti41,ca26,ca65,ca71,cf,Tryz.results107]
    refine aloop_intro [1,4,6,7,8] (fun e A'=>e = [(1,.str nm),(4,.ptr A.length 0),(6,.slice []),(7,.bool false),(8,.int .i64 0)] ∧ A' = A ++ [.cells [.int .i64 0,.str [],.str [],.nils]]) (fun e _=>0) ?_ ?_
    · simp only [zW,zX,zD,builtinA,isLeaf,const1,ustrA,simprocAttr,ti3,ti9,ti23,ti32,ti41,ca26,ca65,ca71,cf,Tryz.results107]
    · rintro e A' ⟨rfl,rfl⟩
      have d0 : decide ((0 : Int) < ((0 : Nat) : Int)) = false:=rfl
      simp only [zW,zX,zD,builtinA,isLeaf,const1,ustrA,simprocAttr,ti3,ti9,ti23,ti32,ti41,ca26,ca65,ca71,cf,Tryz.results107,d0]
      exact ⟨none,.inr ⟨hrd,rfl⟩,by simp [oTyS,ty0,enc,encs]⟩
  | some zs =>
    have hvok:=rdN_vok hrd
    simp only [nrR,sgR]
    simp only [zW,zX,zD,builtinA,isLeaf,const1,ustrA,simprocAttr,ti3,ti9,ti23,ti32,ti41,ca26,ca65,ca71,cf,Tryz.results107]
    refine aloop_intro [1,4,6,7,8] (fun e A'=>∃ i,i ≤ zs.length ∧ (∀ k,k < i → viK (zs.getD k vi0) ≠ (false,nm)) ∧ e = [(1,.str nm),(4,.ptr A.length 0),(6,.slice (sEs (zs.map siOf))),(7,.bool true),(8,.int .i64 i)] ∧ A' = A ++ [.cells [.int .i64 0,.str [],.str [],.nils]]) (fun e _=>zs.length - (intOf (Abs.look 8 e)).toNat) ?_ ?_
    · simp only [zW,zX,zD,builtinA,isLeaf,const1,ustrA,simprocAttr,ti3,ti9,ti23,ti32,ti41,ca26,ca65,ca71,cf,Tryz.results107]
      exact ⟨0,by omega,fun k hk=>by omega,rfl⟩
    · rintro e A' ⟨i,hi,hq,rfl,rfl⟩
      have hlen : (sEs (zs.map siOf)).length = zs.length:=by simp [sEs_length]
      by_cases hi2 : i < zs.length
      · have d1 : decide ((i : Int) < (zs.length : Int)) = true:=by simp; omega
        have pi : (0 : Int) ≤ (i : Int) ∧ (i : Int) < (zs.length : Int):=⟨by omega,by omega⟩
        have hg:=siOf_getD hi2
        have hi1 : IntKind.i64.wrap ((i : Int) + 1) = ((i + 1 : Nat) : Int):=by rw [wrap64 (by omega) (by omega)]; rfl
        have hv:=hvok.2 i hi2
        generalize hyv : zs.getD i vi0 = y at *
        have hnext : viK y ≠ (false,nm) → ∀ k,k < i + 1 → viK (zs.getD k vi0) ≠ (false,nm):=fun h k hk=>by
          rcases Nat.lt_succ_iff_lt_or_eq.mp hk with h1 | rfl
          · exact hq k h1
          · rw [hyv]; exact h
        have hty:=fun A=>spec_l2IsType (siOf y) A
        cases y with
        | ab n =>
          have hT : isTB (siOf (.ab n)) = true:=rfl
          rw [hT] at hty
          have hN:=fun A=>spec_l1Name0 [] n A
          simp only [siOf,sE] at hg hty
          simp only [zW,zX,zD,builtinA,isLeaf,const1,ustrA,simprocAttr,ti3,ti9,ti23,ti32,ti41,ca26,ca65,ca71,cf,Tryz.results107,hlen,d1]
          by_cases hn : n = nm
          · subst hn
            simp only [zW,zX,zD,builtinA,isLeaf,const1,ustrA,simprocAttr,ti3,ti9,ti23,ti32,ti41,ca26,ca65,ca71,cf,Tryz.results107,hg,hlen,enc_length]
            refine ⟨pi,pi,?_⟩
            refine callK_intro (by simp only [zW,zX,zD,builtinA,isLeaf,const1,ustrA,simprocAttr,enc_length,enc_take,sub_drop,frzL_enc,sub_closed,Option.map_some]; rfl) (hty _) ?_ rfl; rintro v A' ⟨rfl,rfl⟩
            simp only [zW,zX,zD,builtinA,isLeaf,const1,ustrA,simprocAttr,ti3,ti9,ti23,ti32,ti41,ca26,ca65,ca71,cf,Tryz.results107,hg,hlen,enc_length,enc_take,sub_drop,frzL_enc,sub_closed,Option.map_some]
            refine ⟨pi,?_⟩
            refine callK_intro (by simp only [zW,zX,zD,builtinA,isLeaf,const1,ustrA,simprocAttr,enc_length,enc_take,sub_drop,frzL_enc,sub_closed,Option.map_some]; rfl) (hN _) ?_ rfl; rintro v A' ⟨rfl,rfl⟩
            simp only [zW,zX,zD,builtinA,isLeaf,const1,ustrA,simprocAttr,ti3,ti9,ti23,ti32,ti41,ca26,ca65,ca71,cf,Tryz.results107,hg,hlen,enc_length,enc_take,sub_drop,frzL_enc,sub_closed,Option.map_some]
            exact ⟨some (.nm [] n),.inl ⟨zs,hrd,i,hi2,by rw [hyv]; rfl,by rw [hyv]; rfl⟩,rfl⟩
          · simp only [zW,zX,zD,builtinA,isLeaf,const1,ustrA,simprocAttr,ti3,ti9,ti23,ti32,ti41,ca26,ca65,ca71,cf,Tryz.results107,hg,hlen,enc_length,decide_eq_false hn,hi1,LoopK_eq]
            refine ⟨pi,⟨i + 1,by omega,hnext (by simp [viK,hn]),rfl⟩,?_⟩
            simp only [intOf]; omega
        | al n v =>
          have hT : isTB (siOf (.al n v)) = true:=rfl
          rw [hT] at hty
          simp only [siOf,sE] at hg hty
          simp only [zW,zX,zD,builtinA,isLeaf,const1,ustrA,simprocAttr,ti3,ti9,ti23,ti32,ti41,ca26,ca65,ca71,cf,Tryz.results107,hlen,d1]
          by_cases hn : n = nm
          · subst hn
            simp only [zW,zX,zD,builtinA,isLeaf,const1,ustrA,simprocAttr,ti3,ti9,ti23,ti32,ti41,ca26,ca65,ca71,cf,Tryz.results107,hg,hlen,enc_length]
            refine ⟨pi,pi,?_⟩
            refine callK_intro (by simp only [zW,zX,zD,builtinA,isLeaf,const1,ustrA,simprocAttr,enc_length,enc_take,sub_drop,frzL_enc,sub_closed,Option.map_some]; rfl) (hty _) ?_ rfl; rintro v A' ⟨rfl,rfl⟩
            simp only [zW,zX,zD,builtinA,isLeaf,const1,ustrA,simprocAttr,ti3,ti9,ti23,ti32,ti41,ca26,ca65,ca71,cf,Tryz.results107,hg,hlen,enc_length,enc_take,sub_drop,frzL_enc,sub_closed,Option.map_some]
            refine ⟨pi,pi,?_⟩
            exact ⟨some v,.inl ⟨zs,hrd,i,hi2,by rw [hyv]; rfl,by rw [hyv]; rfl⟩,rfl⟩
          · simp only [zW,zX,zD,builtinA,isLeaf,const1,ustrA,simprocAttr,ti3,ti9,ti23,ti32,ti41,ca26,ca65,ca71,cf,Tryz.results107,hg,hlen,enc_length,decide_eq_false hn,hi1,LoopK_eq]
            refine ⟨pi,⟨i + 1,by omega,hnext (by simp [viK,hn]),rfl⟩,?_⟩
            simp only [intOf]; omega
        | va n v =>
          have hT : isTB (siOf (.va n v)) = false:=rfl
          rw [hT] at hty
          simp only [siOf,sE] at hg hty
          simp only [zW,zX,zD,builtinA,isLeaf,const1,ustrA,simprocAttr,ti3,ti9,ti23,ti32,ti41,ca26,ca65,ca71,cf,Tryz.results107,hlen,d1]
          by_cases hn : n = nm
          · subst hn
            simp only [zW,zX,zD,builtinA,isLeaf,const1,ustrA,simprocAttr,ti3,ti9,ti23,ti32,ti41,ca26,ca65,ca71,cf,Tryz.results107,hg,hlen,enc_length]
            refine ⟨pi,pi,?_⟩
            refine callK_intro (by simp only [zW,zX,zD,builtinA,isLeaf,const1,ustrA,simprocAttr,enc_length,enc_take,sub_drop,frzL_enc,sub_closed,Option.map_some]; rfl) (hty _) ?_ rfl; rintro v A' ⟨rfl,rfl⟩
            simp only [zW,zX,zD,builtinA,isLeaf,const1,ustrA,simprocAttr,ti3,ti9,ti23,ti32,ti41,ca26,ca65,ca71,cf,Tryz.results107,hi1,LoopK_eq]
            refine ⟨⟨i + 1,by omega,hnext (by simp [viK]),rfl⟩,?_⟩
            simp only [intOf]; omega
          · simp only [zW,zX,zD,builtinA,isLeaf,const1,ustrA,simprocAttr,ti3,ti9,ti23,ti32,ti41,ca26,ca65,ca71,cf,Tryz.results107,hg,hlen,enc_length,decide_eq_false hn,hi1,LoopK_eq]
            refine ⟨pi,⟨i + 1,by omega,hnext (by simp [viK,hn]),rfl⟩,?_⟩
            simp only [intOf]; omega
      · have d1 : decide ((i : Int) < (zs.length : Int)) = false:=by simp; omega
        have e : i = zs.length:=by omega
        subst e
        simp only [zW,zX,zD,builtinA,isLeaf,const1,ustrA,simprocAttr,ti3,ti9,ti23,ti32,ti41,ca26,ca65,ca71,cf,Tryz.results107,hlen,d1]
        exact ⟨none,.inl ⟨zs,hrd,hq⟩,by simp [oTyS,ty0,enc,encs]⟩
set_option maxRecDepth 100000 in
set_option maxHeartbeats 4000000 in
theorem spec_FindVal (s : List SigI) (hs : s.length ≤ 1048576) (ho : ∀ x ∈ s,x.Ok ∧ sz x.typ ≤ 1048576) (nm : List UInt8) (A : List Box) : ACalls Tryz.prog 108 [.slice (sEs s),.str nm] A (fun r A'=>∃ o,MeanIs s (true,nm) o ∧ r = .tuple [.agg (enc (oTyS o)),.bool o.isSome] ∧ A' = A):=by
  refine acalls_enter (cf:=cf 44 [0,1,4,5,6,7,8,20,37]) foll Tryz.func108 Tryz.ntmps108 (by simp [cf]) ?_
  simp only [Tryz.f108,EnterK_some,zW,zX,zD,builtinA,isLeaf,const1,ustrA,simprocAttr,ti3,ti9,ti23,ti32,ti41,ca65,cf,Tryz.results108]
  refine callO_intro (spec_NormalSig s hs ho _) ?_
  rintro r A' ⟨o,hrd,rfl,rfl⟩
  cases o with
  | none =>
    simp only [nrR,sgN]
    simp only [zW,zX,zD,builtinA,isLeaf,const1,ustrA,simprocAttr,ti3,ti9,ti23,ti32,ti41,ca65,cf,Tryz.results108]
    refine aloop_intro [1,4,6,7,8] (fun e A'=>e = [(1,.str nm),(4,.ptr A.length 0),(6,.slice []),(7,.bool false),(8,.int .i64 0)] ∧ A' = A ++ [.cells [.int .i64 0,.str [],.str [],.nils]]) (fun e _=>0) ?_ ?_
    · simp only [zW,zX,zD,builtinA,isLeaf,const1,ustrA,simprocAttr,ti3,ti9,ti23,ti32,ti41,ca65,cf,Tryz.results108]
    · rintro e A' ⟨rfl,rfl⟩
      have d0 : decide ((0 : Int) < ((0 : Nat) : Int)) = false:=rfl
      simp only [zW,zX,zD,builtinA,isLeaf,const1,ustrA,simprocAttr,ti3,ti9,ti23,ti32,ti41,ca65,cf,Tryz.results108,d0]
      exact ⟨none,.inr ⟨hrd,rfl⟩,by simp [oTyS,ty0,enc,encs]⟩
  | some zs =>
    have hvok:=rdN_vok hrd
    simp only [nrR,sgR]
    simp only [zW,zX,zD,builtinA,isLeaf,const1,ustrA,simprocAttr,ti3,ti9,ti23,ti32,ti41,ca65,cf,Tryz.results108]
    refine aloop_intro [1,4,6,7,8] (fun e A'=>∃ i,i ≤ zs.length ∧ (∀ k,k < i → viK (zs.getD k vi0) ≠ (true,nm)) ∧ e = [(1,.str nm),(4,.ptr A.length 0),(6,.slice (sEs (zs.map siOf))),(7,.bool true),(8,.int .i64 i)] ∧ A' = A ++ [.cells [.int .i64 0,.str [],.str [],.nils]]) (fun e _=>zs.length - (intOf (Abs.look 8 e)).toNat) ?_ ?_
    · simp only [zW,zX,zD,builtinA,isLeaf,const1,ustrA,simprocAttr,ti3,ti9,ti23,ti32,ti41,ca65,cf,Tryz.results108]
      exact ⟨0,by omega,fun k hk=>by omega,rfl⟩
    · rintro e A' ⟨i,hi,hq,rfl,rfl⟩
      have hlen : (sEs (zs.map siOf)).length = zs.length:=by simp [sEs_length]
      by_cases hi2 : i < zs.length
      · have d1 : decide ((i : Int) < (zs.length : Int)) = true:=by simp; omega
        have pi : (0 : Int) ≤ (i : Int) ∧ (i : Int) < (zs.length : Int):=⟨by omega,by omega⟩
        have hg:=siOf_getD hi2
        have hi1 : IntKind.i64.wrap ((i : Int) + 1) = ((i + 1 : Nat) : Int):=by rw [wrap64 (by omega) (by omega)]; rfl
        have hv:=hvok.2 i hi2
        generalize hyv : zs.getD i vi0 = y at *
        have hnext : viK y ≠ (true,nm) → ∀ k,k < i + 1 → viK (zs.getD k vi0) ≠ (true,nm):=fun h k hk=>by
          rcases Nat.lt_succ_iff_lt_or_eq.mp hk with h1 | rfl
          · exact hq k h1
          · rw [hyv]; exact h
        cases y with
        | ab n =>
          simp only [siOf,sE] at hg
          simp only [zW,zX,zD,builtinA,isLeaf,const1,ustrA,simprocAttr,ti3,ti9,ti23,ti32,ti41,ca65,cf,Tryz.results108,hlen,d1]
          by_cases hn : n = nm
          · subst hn
            simp only [zW,zX,zD,builtinA,isLeaf,const1,ustrA,simprocAttr,ti3,ti9,ti23,ti32,ti41,ca65,cf,Tryz.results108,hg,hlen,enc_length,hi1,LoopK_eq]
            refine ⟨pi,pi,⟨i + 1,by omega,hnext (by simp [viK]),rfl⟩,?_⟩
            simp only [intOf]; omega
          · simp only [zW,zX,zD,builtinA,isLeaf,const1,ustrA,simprocAttr,ti3,ti9,ti23,ti32,ti41,ca65,cf,Tryz.results108,hg,hlen,enc_length,decide_eq_false hn,hi1,LoopK_eq]
            refine ⟨pi,⟨i + 1,by omega,hnext (by simp [viK,hn]),rfl⟩,?_⟩
            simp only [intOf]; omega
        | al n v =>
          simp only [siOf,sE] at hg
          simp only [zW,zX,zD,builtinA,isLeaf,const1,ustrA,simprocAttr,ti3,ti9,ti23,ti32,ti41,ca65,cf,Tryz.results108,hlen,d1]
          by_cases hn : n = nm
          · subst hn
            simp only [zW,zX,zD,builtinA,isLeaf,const1,ustrA,simprocAttr,ti3,ti9,ti23,ti32,ti41,ca65,cf,Tryz.results108,hg,hlen,enc_length,hi1,LoopK_eq]
            refine ⟨pi,pi,⟨i + 1,by omega,hnext (by simp [viK]),rfl⟩,?_⟩
            simp only [intOf]; omega
          · simp only [zW,zX,zD,builtinA,isLeaf,const1,ustrA,simprocAttr,ti3,ti9,ti23,ti32,ti41,ca65,cf,Tryz.results108,hg,hlen,enc_length,decide_eq_false hn,hi1,LoopK_eq]
            refine ⟨pi,⟨i + 1,by omega,hnext (by simp [viK,hn]),rfl⟩,?_⟩
            simp only [intOf]; omega
        | va n v =>
          simp only [siOf,sE] at hg
          simp only [zW,zX,zD,builtinA,isLeaf,const1,ustrA,simprocAttr,ti3,ti9,ti23,ti32,ti41,ca65,cf,Tryz.results108,hlen,d1]
          by_cases hn : n = nm
          · subst hn
            simp only [zW,zX,zD,builtinA,isLeaf,const1,ustrA,simprocAttr,ti3,ti9,ti23,ti32,ti41,ca65,cf,Tryz.results108,hg,hlen,enc_length,enc_take,sub_drop,frzL_enc,sub_closed,Option.map_some]
            refine ⟨pi,pi,pi,?_⟩
            exact ⟨some v,.inl ⟨zs,hrd,i,hi2,by rw [hyv]; rfl,by rw [hyv]; rfl⟩,rfl⟩
          · simp only [zW,zX,zD,builtinA,isLeaf,const1,ustrA,simprocAttr,ti3,ti9,ti23,ti32,ti41,ca65,cf,Tryz.results108,hg,hlen,enc_length,decide_eq_false hn,hi1,LoopK_eq]
            refine ⟨pi,⟨i + 1,by omega,hnext (by simp [viK,hn]),rfl⟩,?_⟩
            simp only [intOf]; omega
      · have d1 : decide ((i : Int) < (zs.length : Int)) = false:=by simp; omega
        have e : i = zs.length:=by omega
        subst e
        simp only [zW,zX,zD,builtinA,isLeaf,const1,ustrA,simprocAttr,ti3,ti9,ti23,ti32,ti41,ca65,cf,Tryz.results108,hlen,d1]
        exact ⟨none,.inl ⟨zs,hrd,hq⟩,by simp [oTyS,ty0,enc,encs]⟩
end Go.Proofs.YtejbjgmgdbcddaaGreatDoor
/- A normal form is only one. -/
set_option linter.unusedVariables false
set_option linter.unusedSimpArgs false
namespace Go.Proofs.YtejbjgmgdbcddaaGreatDoor
open Go.Abs
theorem rdN_oo {s : List SigI} {o o' : Option (List VI)} (h : RdN s o) (h' : RdN s o') : o = o':=by
  cases o with
  | none =>
    cases o' with
    | none=>rfl
    | some zs=>exact absurd h (rdN_not h')
  | some zs =>
    cases o' with
    | none=>exact absurd h' (rdN_not h)
    | some zs'=>rw [rdN_one h h']
end Go.Proofs.YtejbjgmgdbcddaaGreatDoor
/- What abstract types stand for in another signature, as data; both signatures read by the program. -/
set_option linter.unusedVariables false
set_option linter.unusedSimpArgs false
namespace Go.Proofs.YtejbjgmgdbcddaaGreatDoor
open Go.Abs
def findF : List VI → Ky → Option VT
  | [],_=>none
  | y :: ys,q=>if viK y = q then some (meanI y) else findF ys q
theorem findF_some {ys : List VI} {q : Ky} {v : VT} (h : findF ys q = some v) : ∃ i,i < ys.length ∧ viK (ys.getD i vi0) = q ∧ meanI (ys.getD i vi0) = v:=by
  induction ys with
  | nil=>cases h
  | cons y ys ih =>
    rw [findF] at h
    split at h
    · rename_i hk
      cases h
      exact ⟨0,by simp,hk,rfl⟩
    · obtain ⟨i,h1,h2,h3⟩:=ih h
      exact ⟨i + 1,by simpa using h1,by simpa using h2,by simpa using h3⟩
theorem findF_none {ys : List VI} {q : Ky} (h : findF ys q = none) : ∀ i,i < ys.length → viK (ys.getD i vi0) ≠ q:=by
  induction ys with
  | nil=>intro i hi; simp at hi
  | cons y ys ih =>
    rw [findF] at h
    split at h
    · cases h
    · rename_i hk
      intro i hi
      cases i with
      | zero=>exact hk
      | succ i=>simpa using ih h i (by simpa using hi)
theorem findF_is (ys : List VI) (q : Ky) : FindO ys q (findF ys q):=by
  cases h : findF ys q with
  | none=>exact findF_none h
  | some v=>exact findF_some h
theorem meanIs_find {s : List SigI} {zs : List VI} (h : RdN s (some zs)) {q : Ky} {o : Option VT} (hm : MeanIs s q o) : o = findF zs q :=
  meanIs_one hm (.inl ⟨zs,h,findF_is zs q⟩)
open Classical in
noncomputable def visC (hs : List VI) (m : List (BNm × VT)) (y : VI) : Int :=
  match findF hs (viK y) with
  | none=>1
  | some f=>match y with
    | .ab _=>0
    | .al _ v=>if subV m v = f then 0 else if fitI (.al [] (subV m v)) = true then 2 else 4
    | .va _ v=>if subV m v = f then 0 else if fitI (.al [] (subV m v)) = true then 3 else 4
def visS (hs : List VI) (m : List (BNm × VT)) (y : VI) : List (BNm × VT) :=
  match findF hs (viK y),y with
  | some f,.ab n=>m ++ [(([],n),f)]
  | _,_=>m
noncomputable def offC (hs : List VI) : List (BNm × VT) → List VI → Nat → Option (Nat × Ky × Int)
  | _,[],_=>none
  | m,y :: ys,i=>if visC hs m y = 0 then offC hs (visS hs m y) ys (i + 1) else some (i,viK y,visC hs m y)
theorem visC_range (hs : List VI) (m : List (BNm × VT)) (y : VI) : 0 ≤ visC hs m y ∧ visC hs m y ≤ 4:=by
  unfold visC
  cases findF hs (viK y) with
  | none=>simp
  | some f =>
    cases y with
    | ab n=>simp
    | al n v=>simp only; split <;> (try split) <;> simp
    | va n v=>simp only; split <;> (try split) <;> simp
def knownB (hs : List VI) : List VI → List (BNm × VT)
  | []=>[]
  | .ab n :: ys=>match findF hs (false,n) with
    | some f=>(([],n),f) :: knownB hs ys
    | none=>knownB hs ys
  | .al _ _ :: ys=>knownB hs ys
  | .va _ _ :: ys=>knownB hs ys
theorem knownB_app (hs : List VI) : ∀ a b : List VI,knownB hs (a ++ b) = knownB hs a ++ knownB hs b
  | [],b=>rfl
  | .ab n :: a,b=>by
    simp only [List.cons_append,knownB]
    cases findF hs (false,n) <;> simp [knownB_app hs a b]
  | .al _ _ :: a,b=>by simp only [List.cons_append,knownB]; exact knownB_app hs a b
  | .va _ _ :: a,b=>by simp only [List.cons_append,knownB]; exact knownB_app hs a b
theorem knownB_visS (hs : List VI) (a : List VI) (y : VI) : knownB hs (a ++ [y]) = visS hs (knownB hs a) y:=by
  rw [knownB_app]
  unfold visS
  cases y with
  | ab n =>
    simp only [knownB,viK]
    cases findF hs (false,n) <;> simp
  | al n v=>simp [knownB]
  | va n v=>simp [knownB]
theorem knownB_names (hs : List VI) : ∀ (a : List VI),∀ x ∈ knownB hs a,x.1.1 = [] ∧ (false,x.1.2) ∈ a.map viK
  | [],x,h=>by simp [knownB] at h
  | .ab n :: a,x,h=>by
    simp only [knownB] at h
    cases hf : findF hs (false,n) with
    | none =>
      rw [hf] at h
      have:=knownB_names hs a x h
      exact ⟨this.1,by simp [this.2]⟩
    | some f =>
      rw [hf] at h
      rcases List.mem_cons.1 h with rfl | h
      · exact ⟨rfl,by simp [viK]⟩
      · have:=knownB_names hs a x h
        exact ⟨this.1,by simp [this.2]⟩
  | .al _ _ :: a,x,h=>by
    have:=knownB_names hs a x (by simpa [knownB] using h)
    exact ⟨this.1,by simp [this.2]⟩
  | .va _ _ :: a,x,h=>by
    have:=knownB_names hs a x (by simpa [knownB] using h)
    exact ⟨this.1,by simp [this.2]⟩
theorem knownB_ok {hs : List VI} (hh : ∀ i,i < hs.length → VOk (meanI (hs.getD i vi0))) : ∀ (a : List VI),∀ x ∈ knownB hs a,VOk x.2
  | [],x,h=>by simp [knownB] at h
  | .ab n :: a,x,h=>by
    simp only [knownB] at h
    cases hf : findF hs (false,n) with
    | none=>rw [hf] at h; exact knownB_ok hh a x h
    | some f =>
      rw [hf] at h
      rcases List.mem_cons.1 h with rfl | h
      · obtain ⟨i,hi,_,h2⟩:=findF_some hf
        rw [← h2]; exact hh i hi
      · exact knownB_ok hh a x h
  | .al _ _ :: a,x,h=>knownB_ok hh a x (by simpa [knownB] using h)
  | .va _ _ :: a,x,h=>knownB_ok hh a x (by simpa [knownB] using h)
theorem lookB_app (q : BNm) : ∀ a b : List (BNm × VT),lookB q (a ++ b) = (lookB q a).orElse fun _=>lookB q b
  | [],b=>by simp [lookB]
  | (p,v) :: a,b=>by
    simp only [List.cons_append,lookB]
    split
    · rfl
    · exact lookB_app q a b
theorem lookB_none {q : BNm} {a : List (BNm × VT)} (h : ∀ x ∈ a,x.1 ≠ q) : lookB q a = none:=by
  rcases Classical.em (lookB q a = none) with h' | h'
  · exact h'
  · obtain ⟨x,hx,hq⟩:=look_mem h'
    exact absurd hq (h x hx)
theorem subV_more {a b : List (BNm × VT)} {ks : List Ky} (hb : ∀ x ∈ b,x.1.1 = [] ∧ (false,x.1.2) ∉ ks) : ∀ {v : VT},allV (okN ks) v = true → subV (a ++ b) v = subV a v
  | .num,_=>rfl
  | .nm m n,h=>by
    rw [subV,subV,lookB_app]
    cases lookB (m,n) a with
    | some v=>rfl
    | none =>
      have : lookB (m,n) b = none:=lookB_none fun x hx e=>by
        have h1:=hb x hx
        rw [e] at h1
        obtain ⟨h2,h3⟩:=h1
        have h2 : m = []:=h2
        subst h2
        simp only [allV,okN,decide_true,Bool.not_true,Bool.false_or,decide_eq_true_eq] at h
        exact h3 h
      rw [this]; rfl
  | .fn x y,h=>by
    simp only [allV,Bool.and_eq_true] at h
    simp only [subV,subV_more hb h.1,subV_more hb h.2]
theorem visC_all {hs ws : List VI} (ho : ordB ws = true) {i : Nat} (hi : i < ws.length) : visC hs (knownB hs ws) (ws.getD i vi0) = visC hs (knownB hs (ws.take i)) (ws.getD i vi0):=by
  have hs' : stepB (ws.take i) (ws.getD i vi0) = true:=by
    have ho':=ho
    unfold ordB at ho'
    rw [List.all_eq_true] at ho'
    exact ho' i (List.mem_range.mpr hi)
  simp only [stepB,Bool.and_eq_true] at hs'
  have hsplit : knownB hs ws = knownB hs (ws.take i) ++ knownB hs (ws.drop i):=by rw [← knownB_app,List.take_append_drop]
  have hnew : ∀ x ∈ knownB hs (ws.drop i),x.1.1 = [] ∧ (false,x.1.2) ∉ (ws.take i).map viK:=fun x hx=>by
    obtain ⟨h1,h2⟩:=knownB_names hs _ x hx
    refine ⟨h1,fun h3=>?_⟩
    obtain ⟨y,hy,hyk⟩:=List.mem_map.1 h2
    obtain ⟨z,hz,hzk⟩:=List.mem_map.1 h3
    obtain ⟨a,ha,rfl⟩:=List.mem_iff_getElem.1 hy
    obtain ⟨b,hb,rfl⟩:=List.mem_iff_getElem.1 hz
    simp only [List.length_drop,List.length_take] at ha hb
    have hne:=ordB_ne ho (i:=b) (j:=i + a) (by omega) (by omega)
    apply hne
    have e1 : ws.getD b vi0 = (ws.take i)[b]:=by simp [List.getD,show b < ws.length by omega]
    have e2 : ws.getD (i + a) vi0 = (ws.drop i)[a]:=by simp [List.getD,show i + a < ws.length by omega]
    rw [e1,e2,hyk,hzk]
  rw [hsplit]
  unfold visC
  cases findF hs (viK (ws.getD i vi0)) with
  | none=>rfl
  | some f =>
    cases hy : ws.getD i vi0 with
    | ab n=>rfl
    | al n v=>rw [hy] at hs'; simp only [allI] at hs'; have e:=subV_more (a:=knownB hs (ws.take i)) hnew hs'.1; dsimp only; rw [e]
    | va n v=>rw [hy] at hs'; simp only [allI] at hs'; have e:=subV_more (a:=knownB hs (ws.take i)) hnew hs'.1; dsimp only; rw [e]
theorem offC_from (hs ws : List VI) : ∀ n i,n = ws.length - i → i ≤ ws.length → (∀ k,k < i → visC hs (knownB hs (ws.take k)) (ws.getD k vi0) = 0) → offC hs [] ws 0 = offC hs (knownB hs (ws.take i)) (ws.drop i) i
  | _,0,_,_,_=>by simp [knownB]
  | n,i + 1,hn,hi,hk=>by
    rw [offC_from hs ws (n + 1) i (by omega) (by omega) fun k h=>hk k (by omega),vi_drop (show i < ws.length by omega),offC,if_pos (hk i (by omega))]
    have : visS hs (knownB hs (ws.take i)) (ws.getD i vi0) = knownB hs (ws.take (i + 1)):=by
      rw [← knownB_visS,List.take_add_one]
      congr 1
      simp [List.getD,show i < ws.length by omega]
    rw [this]
end Go.Proofs.YtejbjgmgdbcddaaGreatDoor
namespace Go.Proofs.YtejbjgmgdbcddaaGreatDoor
open Go.Abs
def absO : VI → Option (List UInt8)
  | .ab n=>some n
  | _=>none
theorem absO_sub (m : List (BNm × VT)) (y : VI) : absO (subI m y) = absO y:=by cases y <;> rfl
theorem absO_zs (ys : List VI) : ∀ i,i ≤ ys.length → (zsN ys i).map absO = (ys.take i).map absO
  | 0,_=>by simp [zsN]
  | i + 1,h=>by
    have e : ys.take (i + 1) = ys.take i ++ [ys.getD i vi0]:=by rw [List.take_add_one]; simp [List.getD,show i < ys.length by omega]
    rw [zsN_succ,List.map_append,absO_zs ys i (by omega),e]; simp [absO_sub]
theorem rdN_no {s : List SigI} {ys : List VI} (h8 : s.length ≤ 8) (hr : ReadsTo s ys) (h : ordB ys = false ∨ normL [] ys = none) : RdN s none:=.inr ⟨ys,h8,hr,h⟩
set_option maxRecDepth 100000 in
theorem impl_readMatch (a b : List SigI) (ha : a.length ≤ 1048576) (hoa : ∀ x ∈ a,x.Ok ∧ sz x.typ ≤ 1048576) (hb : b.length ≤ 1048576) (hob : ∀ x ∈ b,x.Ok ∧ sz x.typ ≤ 1048576) (A : List Box) :
    ACalls Tryz.prog 32 [.slice (sEs a),.slice (sEs b)] A (fun r A'=>∃ B,A' = A ++ B ∧
      ((∃ hs ws j k,RdN a (some hs) ∧ RdN b (some ws) ∧ r = .tuple [.own (A.length + j),.own (A.length + k),.int .i64 0] ∧ j < B.length ∧ k < B.length ∧ B.getD j .dead = .row 1 (vRows hs) 0 ∧ B.getD k .dead = .row 1 (vRows ws) 0) ∨
       (∃ c,((c = 5 ∧ (sigB a = false ∨ sigB b = false)) ∨ (c = 4 ∧ sigB a = true ∧ sigB b = true)) ∧ (RdN a none ∨ RdN b none) ∧ r = .tuple [.nils,.nils,.int .i64 c]))):=by
  refine acalls_enterK (cf:=cf 45 [0,1,4,5,6,7,8,9,10,26,42]) foll Tryz.func32 Tryz.ntmps32 (by simp [cf]) ?_
  simp only [Tryz.f32,EnterK_some,zW,zX,zD,builtinA,isLeaf,const1,ustrA,simprocAttr,ca36,ca48,cf,Tryz.results32]
  refine callO_intro (impl_readSig a ha hoa _) ?_
  rintro r A1 ⟨h1,hA⟩
  have hA:=hA.symm
  subst hA
  rcases h1 with ⟨ys,h8,hr,rfl⟩ | ⟨hbad,rfl⟩
  · simp only [zW,zX,zD,builtinA,isLeaf,const1,ustrA,simprocAttr,ca36,ca48,cf,Tryz.results32]
    refine callO_intro (impl_readSig b hb hob _) ?_
    rintro r A1 ⟨h1,hA⟩
    have hA:=hA.symm
    subst hA
    rcases h1 with ⟨zs,h8',hr',rfl⟩ | ⟨hbad,rfl⟩
    · cases hord : ordB ys with
      | false =>
        have hs : sigB a = false:=by rw [sigB_reads h8 hr]; exact hord
        simp only [zW,zX,zD,builtinA,isLeaf,const1,ustrA,simprocAttr,ca36,ca48,cf,Tryz.results32]
        exact ⟨[],by simp,.inr ⟨5,.inl ⟨rfl,.inl hs⟩,.inl (rdN_bad hs),rfl⟩⟩
      | true =>
        cases hord' : ordB zs with
        | false =>
          have hs : sigB b = false:=by rw [sigB_reads h8' hr']; exact hord'
          simp only [zW,zX,zD,builtinA,isLeaf,const1,ustrA,simprocAttr,ca36,ca48,cf,Tryz.results32]
          exact ⟨[],by simp,.inr ⟨5,.inl ⟨rfl,.inr hs⟩,.inr (rdN_bad hs),rfl⟩⟩
        | true =>
          have hsa : sigB a = true:=by rw [sigB_reads h8 hr]; exact hord
          have hsb : sigB b = true:=by rw [sigB_reads h8' hr']; exact hord'
          have hna:=impl_normal ys (by have:=hr.1; omega) (fun k hk=>by
            have:=hr.2 k (by rw [← hr.1]; exact hk)
            exact mean_ok this.1 this.2) hord
          have hnb:=impl_normal zs (by have:=hr'.1; omega) (fun k hk=>by
            have:=hr'.2 k (by rw [← hr'.1]; exact hk)
            exact mean_ok this.1 this.2) hord'
          simp only [zW,zX,zD,builtinA,isLeaf,const1,ustrA,simprocAttr,ca36,ca48,cf,Tryz.results32]
          refine callO_intro (hna _) ?_
          rintro r A2 ⟨B,rfl,⟨hs,j,e,rfl,hj,hg⟩ | ⟨e,rfl⟩⟩
          · simp only [zW,zX,zD,builtinA,isLeaf,const1,ustrA,simprocAttr,ca36,ca48,cf,Tryz.results32]
            refine callO_intro (hnb _) ?_
            rintro r A3 ⟨C,rfl,⟨ws,k,e',rfl,hk,hgk⟩ | ⟨e',rfl⟩⟩
            · simp only [zW,zX,zD,builtinA,isLeaf,const1,ustrA,simprocAttr,ca36,ca48,cf,Tryz.results32]
              refine ⟨B ++ C,by simp,.inl ⟨hs,ws,j,B.length + k,⟨ys,h8,hr,hord,e⟩,⟨zs,h8',hr',hord',e'⟩,?_,by simp; omega,by simp; omega,by rw [Abs.getD_append_left hj]; exact hg,by rw [Abs.getD_append_right (by omega),Nat.add_sub_cancel_left]; exact hgk⟩⟩
              simp [Nat.add_assoc]
            · simp only [zW,zX,zD,builtinA,isLeaf,const1,ustrA,simprocAttr,ca36,ca48,cf,Tryz.results32]
              exact ⟨B ++ C,by simp,.inr ⟨4,.inr ⟨rfl,hsa,hsb⟩,.inr (rdN_no h8' hr' (.inr e')),rfl⟩⟩
          · simp only [zW,zX,zD,builtinA,isLeaf,const1,ustrA,simprocAttr,ca36,ca48,cf,Tryz.results32]
            refine callO_intro (hnb _) ?_
            rintro r A3 ⟨C,rfl,⟨ws,k,e',rfl,hk,hgk⟩ | ⟨e',rfl⟩⟩
            · simp only [zW,zX,zD,builtinA,isLeaf,const1,ustrA,simprocAttr,ca36,ca48,cf,Tryz.results32]
              exact ⟨B ++ C,by simp,.inr ⟨4,.inr ⟨rfl,hsa,hsb⟩,.inl (rdN_no h8 hr (.inr e)),rfl⟩⟩
            · simp only [zW,zX,zD,builtinA,isLeaf,const1,ustrA,simprocAttr,ca36,ca48,cf,Tryz.results32]
              exact ⟨B ++ C,by simp,.inr ⟨4,.inr ⟨rfl,hsa,hsb⟩,.inl (rdN_no h8 hr (.inr e)),rfl⟩⟩
    · have hs:=sigB_bad hbad
      cases hord : ordB ys with
      | false =>
        simp only [zW,zX,zD,builtinA,isLeaf,const1,ustrA,simprocAttr,ca36,ca48,cf,Tryz.results32]
        exact ⟨[],by simp,.inr ⟨5,.inl ⟨rfl,.inr hs⟩,.inr (rdN_bad hs),rfl⟩⟩
      | true =>
        simp only [zW,zX,zD,builtinA,isLeaf,const1,ustrA,simprocAttr,ca36,ca48,cf,Tryz.results32]
        exact ⟨[],by simp,.inr ⟨5,.inl ⟨rfl,.inr hs⟩,.inr (rdN_bad hs),rfl⟩⟩
  · have hs:=sigB_bad hbad
    simp only [zW,zX,zD,builtinA,isLeaf,const1,ustrA,simprocAttr,ca36,ca48,cf,Tryz.results32]
    refine callO_intro (impl_readSig b hb hob _) ?_
    rintro r A1 ⟨h1,hA⟩
    have hA:=hA.symm
    subst hA
    rcases h1 with ⟨zs,h8',hr',rfl⟩ | ⟨hbad,rfl⟩
    · simp only [zW,zX,zD,builtinA,isLeaf,const1,ustrA,simprocAttr,ca36,ca48,cf,Tryz.results32]
      exact ⟨[],by simp,.inr ⟨5,.inl ⟨rfl,.inl hs⟩,.inl (rdN_bad hs),rfl⟩⟩
    · simp only [zW,zX,zD,builtinA,isLeaf,const1,ustrA,simprocAttr,ca36,ca48,cf,Tryz.results32]
      exact ⟨[],by simp,.inr ⟨5,.inl ⟨rfl,.inl hs⟩,.inl (rdN_bad hs),rfl⟩⟩
end Go.Proofs.YtejbjgmgdbcddaaGreatDoor
/- What matching answers. -/
set_option linter.unusedVariables false
set_option linter.unusedSimpArgs false
namespace Go.Proofs.YtejbjgmgdbcddaaGreatDoor
open Go.Abs
def mcO : Option (Nat × Ky × Int) → Int
  | none=>0
  | some x=>x.2.2
def mpO : Option (Nat × Ky × Int) → Nat × Bool
  | none=>(0,false)
  | some x=>(x.1,true)
theorem offC_code (hs : List VI) : ∀ (ys : List VI) (m : List (BNm × VT)) (i : Nat) (x : Nat × Ky × Int),offC hs m ys i = some x → 0 < x.2.2 ∧ x.2.2 ≤ 4 ∧ i ≤ x.1 ∧ x.1 < i + ys.length
  | [],m,i,x,h=>by cases h
  | y :: ys,m,i,x,h=>by
    rw [offC] at h
    split at h
    · have h1:=offC_code hs ys _ _ x h
      simp only [List.length_cons]
      exact ⟨h1.1,h1.2.1,by omega,by omega⟩
    · rename_i hne
      cases h
      have:=visC_range hs m y
      simp only [List.length_cons]
      exact ⟨by omega,this.2,by omega,by omega⟩
def MtIs (a b : List SigI) (c : Int) (p : Nat × Bool) : Prop :=
  (∃ hs ws,RdN a (some hs) ∧ RdN b (some ws) ∧ c = mcO (offC hs [] ws 0) ∧ p = mpO (offC hs [] ws 0)) ∨
  (RdN a none ∨ RdN b none) ∧ p = (0,false) ∧ c = (if sigB a = true ∧ sigB b = true then 4 else 5)
theorem mtIs_ex (a b : List SigI) : ∃ c p,MtIs a b c p:=by
  obtain ⟨oa,ha⟩:=rdN_ex a
  obtain ⟨ob,hb⟩:=rdN_ex b
  cases oa with
  | none=>exact ⟨_,_,.inr ⟨.inl ha,rfl,rfl⟩⟩
  | some hs =>
    cases ob with
    | none=>exact ⟨_,_,.inr ⟨.inr hb,rfl,rfl⟩⟩
    | some ws=>exact ⟨_,_,.inl ⟨hs,ws,ha,hb,rfl,rfl⟩⟩
theorem mtIs_one {a b : List SigI} {c c' : Int} {p p' : Nat × Bool} (h : MtIs a b c p) (h' : MtIs a b c' p') : c = c' ∧ p = p':=by
  rcases h with ⟨hs,ws,h1,h2,rfl,rfl⟩ | ⟨h1,rfl,rfl⟩
  · rcases h' with ⟨hs',ws',h3,h4,rfl,rfl⟩ | ⟨h3,rfl,rfl⟩
    · rw [rdN_one h1 h3,rdN_one h2 h4]; exact ⟨rfl,rfl⟩
    · rcases h3 with h3 | h3
      · exact absurd h3 (rdN_not h1)
      · exact absurd h3 (rdN_not h2)
  · rcases h' with ⟨hs',ws',h3,h4,rfl,rfl⟩ | ⟨h3,rfl,rfl⟩
    · rcases h1 with h1 | h1
      · exact absurd h1 (rdN_not h3)
      · exact absurd h1 (rdN_not h4)
    · exact ⟨rfl,rfl⟩
theorem rdN_sigB {s : List SigI} {zs : List VI} (h : RdN s (some zs)) : sigB s = true:=by
  obtain ⟨ys,h8,hr,hord,hn⟩:=h
  rw [sigB_reads h8 hr]; exact hord
theorem knownB_abs (hs : List VI) : ∀ {a b : List VI},a.map absO = b.map absO → knownB hs a = knownB hs b
  | [],[],_=>rfl
  | [],_ :: _,h=>by simp at h
  | _ :: _,[],h=>by simp at h
  | x :: a,y :: b,h=>by
    simp only [List.map_cons,List.cons.injEq] at h
    have ih:=knownB_abs hs h.2
    cases x <;> cases y <;> simp only [absO,reduceCtorEq,Option.some.injEq] at h
    · obtain ⟨rfl,_⟩:=h; simp only [knownB,ih]
    all_goals first | (simp only [knownB]; exact ih) | exact h.1.elim
theorem findF_vok {a : List SigI} {hs : List VI} (h : RdN a (some hs)) {q : Ky} {f : VT} (hf : findF hs q = some f) : VOk f:=by
  obtain ⟨i,hi,_,h2⟩:=findF_some hf
  rw [← h2]; exact (rdN_vok h).2 i hi
theorem knownB_len (hs : List VI) : ∀ a : List VI,(knownB hs a).length ≤ a.length
  | []=>by simp [knownB]
  | .ab n :: a=>by
    have:=knownB_len hs a
    simp only [knownB]
    cases findF hs (false,n) <;> simp <;> omega
  | .al _ _ :: a=>by have:=knownB_len hs a; simp only [knownB,List.length_cons]; omega
  | .va _ _ :: a=>by have:=knownB_len hs a; simp only [knownB,List.length_cons]; omega
theorem vok_fit {f : VT} (h : VOk f) (n : List UInt8) : fitI (.al n f) = true:=by
  have h1:=h.dep
  have h2:=h.cnt
  have h1 : dep f ≤ 8:=h1
  have h2 : cnt f ≤ 63:=h2
  simp [fitI,meanI,h1,h2]
end Go.Proofs.YtejbjgmgdbcddaaGreatDoor
/- Marks in a list of items that is owned. -/
set_option linter.unusedVariables false
set_option linter.unusedSimpArgs false
namespace Go.Proofs.YtejbjgmgdbcddaaGreatDoor
open Go.Abs
theorem enc4s (t : Ty) : enc t = [.int .i64 t.kind,.str t.mod,.str t.name,.slice (encs t.kids)]:=by cases t; rw [enc]; rfl
theorem sE6 (x : SigI) : sE x = [.int .i64 x.kind,.str x.name,.int .i64 x.typ.kind,.str x.typ.mod,.str x.typ.name,.slice (encs x.typ.kids)]:=by rw [sE,enc4s]
def sRow (b : SigI) (v : AV) : List AV:=[.int .i64 b.kind,.str b.name,.int .i64 b.typ.kind,.str b.typ.mod,.str b.typ.name,v]
def OwnG (A : List Box) : List SigI → List (List AV) → List Nat → Prop
  | [],rows,S=>rows = [] ∧ S = []
  | b :: bs,rows,S=>∃ v rows' S1 S2,rows = sRow b v :: rows' ∧ S = S1 ++ S2 ∧ OwnK A b.typ.kids v S1 ∧ OwnG A bs rows' S2
theorem OwnG.frame {A A' : List Box} : ∀ {bs : List SigI} {rows : List (List AV)} {S : List Nat},OwnG A bs rows S → (∀ i ∈ S,A'.getD i .dead = A.getD i .dead) → OwnG A' bs rows S
  | [],rows,S,h,hf=>h
  | b :: bs,rows,S,h,hf=>by
    rw [OwnG] at h ⊢
    obtain ⟨v,rows',S1,S2,h1,rfl,h3,h4⟩:=h
    exact ⟨v,rows',S1,S2,h1,rfl,h3.frame fun j hj=>hf j (by simp [hj]),OwnG.frame h4 fun j hj=>hf j (by simp [hj])⟩
theorem OwnG.length {A : List Box} : ∀ {bs : List SigI} {rows : List (List AV)} {S : List Nat},OwnG A bs rows S → rows.length = bs.length
  | [],rows,S,h=>by rw [OwnG] at h; rw [h.1]; rfl
  | b :: bs,rows,S,h=>by
    rw [OwnG] at h
    obtain ⟨v,rows',S1,S2,rfl,h2,h3,h4⟩:=h
    simp [OwnG.length h4]
theorem OwnG.low {A : List Box} : ∀ {bs : List SigI} {rows : List (List AV)} {S : List Nat},OwnG A bs rows S → ∀ i ∈ S,i < A.length
  | [],rows,S,h=>by rw [OwnG] at h; rw [h.2]; simp
  | b :: bs,rows,S,h=>by
    rw [OwnG] at h
    obtain ⟨v,rows',S1,S2,h1,rfl,h3,h4⟩:=h
    intro j hj
    rcases List.mem_append.1 hj with hj | hj
    · exact h3.low j hj
    · exact OwnG.low h4 j hj
theorem OwnG.append {A : List Box} : ∀ {k1 k2 : List SigI} {r1 r2 : List (List AV)} {S1 S2 : List Nat},OwnG A k1 r1 S1 → OwnG A k2 r2 S2 → OwnG A (k1 ++ k2) (r1 ++ r2) (S1 ++ S2)
  | [],k2,r1,r2,S1,S2,h1,h2=>by
    rw [OwnG] at h1
    rw [h1.1,h1.2]; exact h2
  | t :: k1,k2,r1,r2,S1,S2,h1,h2=>by
    rw [OwnG] at h1
    obtain ⟨v,r',T1,T2,rfl,rfl,h3,h4⟩:=h1
    rw [List.cons_append,OwnG]
    exact ⟨v,r' ++ r2,T1,T2 ++ S2,by simp,by simp,h3,OwnG.append h4 h2⟩
theorem OwnG.view {A : List Box} : ∀ {bs : List SigI} {rows : List (List AV)} {S : List Nat},OwnG A bs rows S → ∀ k,k < rows.length → ∀ j,j < 6 → View A ((rows.getD k []).getD j .bot) ((sE (bs.getD k si0)).getD j .bot)
  | [],rows,S,h=>by rw [OwnG] at h; rw [h.1]; intro k hk; simp at hk
  | b :: bs,rows,S,h=>by
    rw [OwnG] at h
    obtain ⟨v,rows',S1,S2,rfl,h2,h3,h4⟩:=h
    intro k hk j hj
    cases k with
    | zero =>
      have hv:=h3.view
      have e0 : (sE ((b :: bs).getD 0 si0)) = sE b:=rfl
      rw [e0,sE6]
      match j,hj with
      | 0,_=>exact .leaf _ rfl
      | 1,_=>exact .leaf _ rfl
      | 2,_=>exact .leaf _ rfl
      | 3,_=>exact .leaf _ rfl
      | 4,_=>exact .leaf _ rfl
      | 5,_=>exact hv
    | succ k =>
      have:=OwnG.view h4 k (by simpa using hk) j hj
      simpa using this
theorem OwnG.viewG {A : List Box} {bs : List SigI} {rows : List (List AV)} {S : List Nat} {i : Nat} (h : A.getD i .dead = .gr none 6 rows) (hb : OwnG A bs rows S) : View A (.own i) (.slice (sEs bs)):=by
  refine .gr i 6 none rows (sEs bs) h (by rw [sEs_length,hb.length]) (fun r hr=>?_) fun k j hk hj=>?_
  · obtain ⟨t,_,rfl⟩:=List.mem_map.1 hr
    exact ⟨sE_length t,sE_leaf t⟩
  · unfold Abs.rowAt
    rw [sEs_getD (by rw [← hb.length]; exact hk)]
    exact hb.view k hk j hj
def NewG (A : List Box) (bs : List SigI) (j : Nat) (A' : List Box) : Prop :=
  A.length ≤ A'.length ∧ (∀ k,k < A.length → A'.getD k .dead = A.getD k .dead) ∧ ∃ rows S,A'.getD j .dead = .gr none 6 rows ∧ OwnG A' bs rows S ∧ (j :: S).Nodup ∧ ∀ i ∈ j :: S,A.length ≤ i
end Go.Proofs.YtejbjgmgdbcddaaGreatDoor
namespace Go.Proofs.YtejbjgmgdbcddaaGreatDoor
open Go.Abs
def OwnI (A : List Box) (xs : List SigI) (v : AV) (S : List Nat) : Prop :=
  (v = .nils ∧ xs = [] ∧ S = []) ∨ ∃ i rows S',v = .own i ∧ S = i :: S' ∧ A.getD i .dead = .gr none 6 rows ∧ OwnG A xs rows S'
theorem OwnI.frame {A A' : List Box} {xs : List SigI} {v : AV} {S : List Nat} (h : OwnI A xs v S) (hf : ∀ i ∈ S,A'.getD i .dead = A.getD i .dead) : OwnI A' xs v S:=by
  rcases h with h | ⟨i,rows,S',h1,h2,h3,h4⟩
  · exact .inl h
  · subst h2
    exact .inr ⟨i,rows,S',h1,rfl,by rw [hf i (by simp)]; exact h3,h4.frame fun j hj=>hf j (by simp [hj])⟩
theorem OwnI.low {A : List Box} {xs : List SigI} {v : AV} {S : List Nat} (h : OwnI A xs v S) : ∀ i ∈ S,i < A.length:=by
  rcases h with ⟨_,_,rfl⟩ | ⟨i,rows,S',h1,rfl,h3,h4⟩
  · simp
  · intro j hj
    rcases List.mem_cons.1 hj with rfl | hj
    · exact live_lt h3 (by simp)
    · exact h4.low j hj
theorem OwnI.view {A : List Box} {xs : List SigI} {v : AV} {S : List Nat} (h : OwnI A xs v S) : View A v (.slice (sEs xs)):=by
  rcases h with ⟨rfl,rfl,_⟩ | ⟨i,rows,S',rfl,_,h3,h4⟩
  · exact .nils
  · exact OwnG.viewG h3 h4
end Go.Proofs.YtejbjgmgdbcddaaGreatDoor
namespace Go.Proofs.YtejbjgmgdbcddaaGreatDoor
open Go.Abs
def totG : List SigI → Nat
  | []=>0
  | b :: bs=>5 + 3 * counts b.typ.kids + totG bs
end Go.Proofs.YtejbjgmgdbcddaaGreatDoor
