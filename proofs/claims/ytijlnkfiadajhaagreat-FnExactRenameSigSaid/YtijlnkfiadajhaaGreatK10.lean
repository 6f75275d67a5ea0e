/- Sigs, SigLaw, OwnSh, Jf. -/
import Derived.Test.YtijlnkfiadajhaaGreatK09
import Derived.Test.YtijlnkfiadajhaaGreatAbsW3
import Derived.Test.YtijlnkfiadajhaaGreatRows
/- Items of signatures as data, and what the laws' helpers do with lists of them. -/
set_option linter.unusedVariables false
set_option linter.unusedSimpArgs false
namespace Go.Proofs.YtijlnkfiadajhaaGreat
open Go.Abs
set_option maxRecDepth 100000 in
theorem laws_szSigItem (x : SigI) (hx : x.Ok) (l : Int) (A : List Box) (h0 : 0 ≤ l) (h1 : l ≤ 1048576) :
    ACalls Tryz.prog 69 [.agg (sEA x),.int .i64 l] A (fun v A'=>v = .int .i64 (left l (szI x)) ∧ A' = A):=by
  have hw : IntKind.i64.wrap (l - ↑x.name.length) = l - x.name.length:=wrap64 (by have:=hx.1; omega) (by have:=hx.1; omega)
  rw [sEA]
  refine acalls_enter (cf:=cf 19 [0,1,2,4,11,17]) foll Tryz.func69 Tryz.ntmps69 (by simp [cf]) ?_
  simp only [Tryz.f69,EnterK_some,zW,zX,zD,builtinA,isLeaf,const1,ustrA,simprocAttr,ti3,ti9,ti25,ti124,ca82,cf,Tryz.results69]
  rw [hw]
  refine ⟨by omega,condK_intro (fun h=>?_) (fun h=>?_)⟩
  · simp only [zW,zX,zD,builtinA,isLeaf,const1,ustrA,simprocAttr,ti3,ti9,ti25,ti124,ca82,cf,Tryz.results69]
    rw [left,if_neg (by rw [szI]; simp at h; omega)]
  · simp only [decide_eq_false_iff_not] at h
    simp only [zW,zX,zD,builtinA,isLeaf,const1,ustrA,simprocAttr,ti3,ti9,ti25,ti124,ca82,cf,Tryz.results69,encA_length,encA_take]
    refine callK_intro (by simp only [zW,zX,zD,builtinA,isLeaf,const1,ustrA,simprocAttr,frzL_encA,Option.map_some]; rfl) (laws_szType x.typ hx.2 _ _ (by omega) (by omega)) ?_ rfl; rintro v A' ⟨rfl,rfl⟩
    by_cases hf : ((szI x : Nat) : Int) ≤ l
    · have hv : left (l - ↑x.name.length) (sz x.typ) = l - szI x:=by
        rw [szI] at hf ⊢
        rw [left,if_pos (by omega)]; omega
      have hn : decide (l - szI x < 0) = false:=by simp only [decide_eq_false_iff_not]; omega
      rw [hv,left,if_pos hf]
      simp only [zW,zX,zD,builtinA,isLeaf,const1,ustrA,simprocAttr,ti3,ti9,ti25,ti124,ca82,cf,Tryz.results69,hn]
    · have hv : left (l - ↑x.name.length) (sz x.typ) = -1:=by
        rw [szI] at hf
        rw [left,if_neg (by omega)]
      rw [hv,left,if_neg hf]
      simp only [zW,zX,zD,builtinA,isLeaf,const1,ustrA,simprocAttr,ti3,ti9,ti25,ti124,ca82,cf,Tryz.results69]
set_option maxRecDepth 100000 in
theorem laws_szSigItemS (ks : List SigI) (hl : ks.length < 2 ^ 63) (hk : ∀ t ∈ ks,t.Ok) (l : Int) (A : List Box) (h0 : 0 ≤ l) (h1 : l ≤ 1048576) :
    ACalls Tryz.prog 22 [.aslice (sEAs ks),.int .i64 l] A (fun v A'=>v = .int .i64 (left l (ks.length + szIs ks)) ∧ A' = A):=by
  have hw : IntKind.i64.wrap (l - ↑(sEAs ks).length) = l - ks.length:=by rw [sEAs_length]; exact wrap64 (by omega) (by omega)
  refine acalls_enter (cf:=cf 27 [0,1,4,5,11,15,25]) foll Tryz.func22 Tryz.ntmps22 (by simp [cf]) ?_
  simp only [Tryz.f22,EnterK_some,zW,zX,zD,builtinA,isLeaf,const1,ustrA,simprocAttr,ti3,ti52,ti124,ca69,cf,Tryz.results22]
  rw [hw]
  refine condK_intro (fun h=>?_) (fun h=>?_)
  · simp only [zW,zX,zD,builtinA,isLeaf,const1,ustrA,simprocAttr,ti3,ti52,ti124,ca69,cf,Tryz.results22]
    have : ¬ ((ks.length + szIs ks : Nat) : Int) ≤ l:=by simp at h; omega
    rw [left,if_neg this]
  · simp only [zW,zX,zD,builtinA,isLeaf,const1,ustrA,simprocAttr,ti3,ti52,ti124,ca69,cf,Tryz.results22]
    refine aloop_intro [0,1,5] (fun e A'=>∃ i,i ≤ ks.length ∧ ((ks.length + szIs (ks.take i) : Nat) : Int) ≤ l ∧ e = [(0,.aslice (sEAs ks)),(1,.int .i64 (l - (ks.length + szIs (ks.take i) : Nat))),(5,.int .i64 i)] ∧ A' = A) (fun e _=>ks.length - (intOf (Abs.look 5 e)).toNat) ?_ ?_
    · refine ⟨0,by omega,?_,?_,rfl⟩
      · simp at h; simp [szIs]; omega
      · simp only [zW,zX,zD,builtinA,isLeaf,const1,ustrA,simprocAttr,ti3,ti52,ti124,ca69,cf,Tryz.results22]
        simp [szIs]
    · rintro e A' ⟨i,hi,hle,rfl,rfl⟩
      simp only [zW,zX,zD,builtinA,isLeaf,const1,ustrA,simprocAttr,ti3,ti52,ti124,ca69,cf,Tryz.results22]
      refine condK_intro (fun h2=>?_) (fun h2=>?_)
      · have hi2 : i < ks.length:=by simp [sEAs_length] at h2; exact h2
        have he:=sEAs_getD hi2
        have hm:=si_mem hi2
        have hs:=szIs_take hi2
        simp only [zW,zX,zD,builtinA,isLeaf,const1,ustrA,simprocAttr,ti3,ti52,ti124,ca69,cf,Tryz.results22,he,sEA_length,sEA_take,sEAs_length]
        refine ⟨⟨by omega,by omega⟩,?_⟩
        refine callK_intro (by simp only [zW,zX,zD,builtinA,isLeaf,const1,ustrA,simprocAttr,frzL_sEA,Option.map_some]; rfl) (laws_szSigItem _ (hk _ hm) _ _ (by omega) (by omega)) ?_ rfl; rintro v A' ⟨rfl,rfl⟩
        by_cases hf : ((ks.length + szIs (ks.take (i + 1)) : Nat) : Int) ≤ l
        · have hv : left (l - ((ks.length + szIs (ks.take i) : Nat) : Int)) (szI (ks.getD i si0)) = l - ((ks.length + szIs (ks.take (i + 1)) : Nat) : Int):=by
            rw [left,if_pos (by omega)]; omega
          have hn : decide (l - ((ks.length + szIs (ks.take (i + 1)) : Nat) : Int) < 0) = false:=by simp only [decide_eq_false_iff_not]; omega
          have hi1 : IntKind.i64.wrap ((i : Int) + 1) = ((i + 1 : Nat) : Int):=by rw [wrap64 (by omega) (by omega)]; rfl
          rw [hv]
          simp only [zW,zX,zD,builtinA,isLeaf,const1,ustrA,simprocAttr,ti3,ti52,ti124,ca69,cf,Tryz.results22,hn,hi1,LoopK_eq,sEAs_length]
          refine ⟨⟨i + 1,by omega,hf,rfl⟩,?_⟩
          simp only [intOf]
          omega
        · have hv : left (l - ((ks.length + szIs (ks.take i) : Nat) : Int)) (szI (ks.getD i si0)) = -1:=by
            rw [left,if_neg (by omega)]
          have hz:=szIs_le ks (i + 1)
          rw [hv,left,if_neg (by omega)]
          simp only [zW,zX,zD,builtinA,isLeaf,const1,ustrA,simprocAttr,ti3,ti52,ti124,ca69,cf,Tryz.results22]
      · simp only [zW,zX,zD,builtinA,isLeaf,const1,ustrA,simprocAttr,ti3,ti52,ti124,ca69,cf,Tryz.results22]
        have : i = ks.length:=by simp [sEAs_length] at h2; omega
        subst this
        rw [List.take_length] at hle ⊢
        rw [left,if_pos hle]
set_option maxRecDepth 100000 in
theorem laws_toSigItem (x : SigI) (hx : szI x ≤ 1048576) (A : List Box) : ACalls Tryz.prog 73 [.agg (sEA x)] A (fun v A'=>v = .agg (sE x) ∧ A' = A):=by
  have h1 : sz x.typ ≤ 1048576:=by rw [szI] at hx; omega
  rw [sEA,sE]
  refine acalls_enter (cf:=cf 15 [0,1,2,3]) foll Tryz.func73 Tryz.ntmps73 (by simp [cf]) ?_
  simp only [Tryz.f73,EnterK_some,zW,zX,zD,builtinA,isLeaf,const1,ustrA,simprocAttr,ti3,ti9,ti25,ti36,ti124,ti129,ca87,cf,Tryz.results73]
  simp only [zW,zX,zD,builtinA,isLeaf,const1,ustrA,simprocAttr,ti3,ti9,ti25,ti36,ti124,ti129,ca87,cf,Tryz.results73,encA_length,encA_take]
  refine callK_intro (by simp only [zW,zX,zD,builtinA,isLeaf,const1,ustrA,simprocAttr,frzL_encA,Option.map_some]; rfl) (laws_toType x.typ h1 _) ?_ rfl; rintro v A' ⟨rfl,rfl⟩
  simp only [zW,zX,zD,builtinA,isLeaf,const1,ustrA,simprocAttr,ti3,ti9,ti25,ti36,ti124,ti129,ca87,cf,Tryz.results73,enc_length,enc_take,encD,frzL_enc,Option.map_some,encCl,List.all_cons,Bool.and_true,Bool.and_self]
theorem srow_step {l : List SigI} {i : Nat} (h : i < l.length) : (sEs (l.take i) ++ List.replicate (l.length - i) zsi).set i (sE (l.getD i si0) ++ List.drop 6 ((sEs (l.take i) ++ List.replicate (l.length - i) zsi).getD i [])) = sEs (l.take (i + 1)) ++ List.replicate (l.length - (i + 1)) zsi:=by
  have e1 : (sEs (l.take i)).length = i:=by rw [sEs_length]; simp; omega
  have e2 : List.drop 6 ((sEs (l.take i) ++ List.replicate (l.length - i) zsi).getD i []) = []:=by
    have e3 : l.length - i = (l.length - (i + 1)) + 1:=by omega
    rw [List.getD,List.getElem?_append_right (by omega),e1,Nat.sub_self,e3,List.replicate_succ]
    rfl
  have e4 : l.length - i = (l.length - (i + 1)) + 1:=by omega
  rw [e2,List.append_nil,List.set_append_right _ _ (by omega),e1,Nat.sub_self,e4,List.replicate_succ,List.set_cons_zero]
  simp only [sEs]
  rw [List.take_add_one,List.map_append,List.append_assoc]
  simp [List.getD,h]
set_option maxRecDepth 100000 in
theorem laws_toSigItemS (ks : List SigI) (hl : ks.length ≤ 1048576) (hk : szIs ks ≤ 1048576) (A : List Box) :
    ACalls Tryz.prog 24 [.aslice (sEAs ks)] A (fun v A'=>v = .slice (sEs ks) ∧ A' = A):=by
  have hl2 : ((sEAs ks).length : Int) ≤ 1048576:=by rw [sEAs_length]; omega
  refine acalls_enter (cf:=cf 23 [0,2,3,4,11]) foll Tryz.func24 Tryz.ntmps24 (by simp [cf]) ?_
  simp only [Tryz.f24,EnterK_some,zW,zX,zD,builtinA,isLeaf,const1,ustrA,simprocAttr,ti3,ti52,ti54,ti124,ti129,ca73,cf,Tryz.results24]
  refine ⟨⟨by omega,by omega,by omega⟩,?_⟩
  refine aloop_intro [0,3,4] (fun e A'=>∃ i,i ≤ ks.length ∧ e = [(0,.aslice (sEAs ks)),(3,.own A.length),(4,.int .i64 i)] ∧ A' = A ++ [.row 6 (sEs (ks.take i) ++ List.replicate (ks.length - i) zsi) 0]) (fun e _=>ks.length - (intOf (Abs.look 4 e)).toNat) ?_ ?_
  · simp only [zW,zX,zD,builtinA,isLeaf,const1,ustrA,simprocAttr,ti3,ti52,ti54,ti124,ti129,ca73,cf,Tryz.results24]
    exact ⟨0,by omega,rfl,by rw [sEAs_length]; simp [sEs,zsi]⟩
  · rintro e A' ⟨i,hi,rfl,rfl⟩
    simp only [zW,zX,zD,builtinA,isLeaf,const1,ustrA,simprocAttr,ti3,ti52,ti54,ti124,ti129,ca73,cf,Tryz.results24,sEAs_length]
    refine condK_intro (fun h2=>?_) (fun h2=>?_)
    · have hi2 : i < ks.length:=by simpa using h2
      have he:=sEAs_getD hi2
      have hm:=si_mem hi2
      have hzm:=szIs_mem hm
      simp only [zW,zX,zD,builtinA,isLeaf,const1,ustrA,simprocAttr,ti3,ti52,ti54,ti124,ti129,ca73,cf,Tryz.results24,he,sEA_length,sEA_take,sEAs_length]
      refine ⟨⟨by omega,by omega⟩,?_⟩
      refine callK_intro (by simp only [zW,zX,zD,builtinA,isLeaf,const1,ustrA,simprocAttr,frzL_sEA,Option.map_some]; rfl) (laws_toSigItem _ (by omega) _) ?_ rfl; rintro v A' ⟨rfl,rfl⟩
      have hi1 : IntKind.i64.wrap ((i : Int) + 1) = ((i + 1 : Nat) : Int):=by rw [wrap64 (by omega) (by omega)]; rfl
      simp only [zW,zX,zD,builtinA,isLeaf,const1,ustrA,simprocAttr,ti3,ti52,ti54,ti124,ti129,ca73,cf,Tryz.results24,sE_length,frzL_sE,srow_step hi2,hi1,LoopK_eq]
      have hlen : (sEs (List.take i ks)).length + (List.replicate (ks.length - i) zsi).length = ks.length:=by
        simp [sEs_length]; omega
      rw [hlen]
      refine ⟨⟨by omega,by omega⟩,⟨by omega,by omega,fun v hv=>sE_leaf _ v hv⟩,⟨i + 1,by omega,rfl,rfl⟩,?_⟩
      simp only [intOf]
      omega
    · simp only [zW,zX,zD,builtinA,isLeaf,const1,ustrA,simprocAttr,ti3,ti52,ti54,ti124,ti129,ca73,cf,Tryz.results24]
      have : i = ks.length:=by simp at h2; omega
      subst this
      simp [List.take_length]
set_option maxRecDepth 100000 in
theorem laws_eqSigItem (x : SigI) (hx : x.Ok) (A : List Box) : ACalls Tryz.prog 78 [.agg (sE x),.agg (sE x)] A (fun v A'=>v = .bool true ∧ A' = A):=by
  rw [sE]
  refine acalls_enter (cf:=cf 21 [0,1,2,3,4,9,14,20]) foll Tryz.func78 Tryz.ntmps78 (by simp [cf]) ?_
  simp only [Tryz.f78,EnterK_some,zW,zX,zD,builtinA,isLeaf,const1,ustrA,simprocAttr,ti3,ti9,ti36,ti129,ca93,cf,Tryz.results78]
  simp only [zW,zX,zD,builtinA,isLeaf,const1,ustrA,simprocAttr,ti3,ti9,ti36,ti129,ca93,cf,Tryz.results78,enc_length,enc_take]
  refine callK_intro (by simp only [zW,zX,zD,builtinA,isLeaf,const1,ustrA,simprocAttr,frzL_enc,Option.map_some]; rfl) (laws_eqType x.typ hx.2 _) ?_ rfl; rintro v A' ⟨rfl,rfl⟩
  simp only [zW,zX,zD,builtinA,isLeaf,const1,ustrA,simprocAttr,ti3,ti9,ti36,ti129,ca93,cf,Tryz.results78]
set_option maxRecDepth 100000 in
theorem laws_eqSigItemS (ks : List SigI) (hl : ks.length < 2 ^ 63) (hk : ∀ t ∈ ks,t.Ok) (A : List Box) :
    ACalls Tryz.prog 26 [.slice (sEs ks),.slice (sEs ks)] A (fun v A'=>v = .bool true ∧ A' = A):=by
  refine acalls_enter (cf:=cf 27 [0,1,4,5,10,14,26]) foll Tryz.func26 Tryz.ntmps26 (by simp [cf]) ?_
  simp only [Tryz.f26,EnterK_some,zW,zX,zD,builtinA,isLeaf,const1,ustrA,simprocAttr,ti3,ti54,ti129,ca78,cf,Tryz.results26]
  refine aloop_intro [0,1,5] (fun e A'=>∃ i,i ≤ ks.length ∧ e = [(0,.slice (sEs ks)),(1,.slice (sEs ks)),(5,.int .i64 i)] ∧ A' = A) (fun e _=>ks.length - (intOf (Abs.look 5 e)).toNat) ?_ ?_
  · simp only [zW,zX,zD,builtinA,isLeaf,const1,ustrA,simprocAttr,ti3,ti54,ti129,ca78,cf,Tryz.results26]
    exact ⟨0,by omega,rfl⟩
  · rintro e A' ⟨i,hi,rfl,rfl⟩
    simp only [zW,zX,zD,builtinA,isLeaf,const1,ustrA,simprocAttr,ti3,ti54,ti129,ca78,cf,Tryz.results26,sEs_length]
    refine condK_intro (fun h2=>?_) (fun h2=>?_)
    · have hi2 : i < ks.length:=by simpa using h2
      have he:=sEs_getD hi2
      have hm:=si_mem hi2
      have hi1 : IntKind.i64.wrap ((i : Int) + 1) = ((i + 1 : Nat) : Int):=by rw [wrap64 (by omega) (by omega)]; rfl
      simp only [zW,zX,zD,builtinA,isLeaf,const1,ustrA,simprocAttr,ti3,ti54,ti129,ca78,cf,Tryz.results26,he,sE_length,sE_take,sEs_length]
      refine .inl ⟨by kernel_rfl,by kernel_rfl,⟨by omega,by omega⟩,⟨by omega,by omega⟩,?_⟩
      refine callD_intro (by simp only [zW,zX,zD,builtinA,isLeaf,const1,ustrA,simprocAttr,frzL_sE,Option.map_some] <;> rfl) (laws_eqSigItem _ (hk _ hm) _) ?_ rfl
      simp only [zW,zX,zD,builtinA,isLeaf,const1,ustrA,simprocAttr,ti3,ti54,ti129,ca78,cf,Tryz.results26,hi1,LoopK_eq]
      refine ⟨⟨i + 1,by omega,rfl⟩,?_⟩
      simp only [intOf]
      omega
    · simp only [zW,zX,zD,builtinA,isLeaf,const1,ustrA,simprocAttr,ti3,ti54,ti129,ca78,cf,Tryz.results26]
end Go.Proofs.YtijlnkfiadajhaaGreat
/- From a law's argument, a list of items, to data. -/
set_option linter.unusedVariables false
set_option linter.unusedSimpArgs false
namespace Go.Proofs.YtijlnkfiadajhaaGreat
open Go.Abs Go.RowKit Go.ChangeShapes Go.WideShapes Go.ChangeAt Go.ChangeMaps
def SigsOk (l : List SigI) : Prop:=l.length < 2 ^ 63 ∧ ∀ x ∈ l,x.Ok
theorem cI : Tryz.prog.cellsOf 124 = 6:=by kernel_rfl
theorem six {α : Type} {l : List α} (h : l.length = 6) : ∃ a b c d e f,l = [a,b,c,d,e,f]:=by
  match l,h with
  | [a,b,c,d,e,f],_=>exact ⟨a,b,c,d,e,f,rfl⟩
theorem si_of {cz : List AV} (h : Cells Tryz.prog 124 cz) : ∃ x : SigI,cz = sEA x ∧ x.Ok:=by
  generalize ht : 124 = t at h
  cases h with
  | int h1 h2=>subst ht; rw [Tryz.underlying124] at h1; injection h1 with h1; cases h1
  | bool h1=>subst ht; rw [Tryz.underlying124] at h1; injection h1 with h1; cases h1
  | str h1=>subst ht; rw [Tryz.underlying124] at h1; injection h1 with h1; cases h1
  | slice h1 h2 h3=>subst ht; rw [Tryz.underlying124] at h1; injection h1 with h1; cases h1
  | @struct t fs cs h1 h2 h3 =>
    subst ht
    rw [Tryz.underlying124] at h1
    injection h1 with h1
    injection h1 with h1
    subst h1
    rw [cI] at h2
    obtain ⟨a,b,c,d,e,f,rfl⟩:=six h2
    simp only [List.mem_cons,List.not_mem_nil,or_false,forall_eq_or_imp,forall_eq,c3,c9,cS,cT,List.drop_zero,List.drop_succ_cons,List.take_succ_cons,List.take_zero] at h3
    obtain ⟨n,e1⟩:=cells_int Tryz.underlying3 h3.1
    obtain ⟨m,e2,l2⟩:=cells_str Tryz.underlying9 h3.2.1
    obtain ⟨τ,e3,l3⟩:=(ty_of h3.2.2).1 rfl
    injection e1 with e1; injection e2 with e2
    subst e1; subst e2
    have hm : maxLen = 2 ^ 63 - 1:=rfl
    exact ⟨⟨n,m,τ⟩,by simp only [sEA]; rw [← e3],by simp only [SigI.Ok]; exact ⟨by omega,l3⟩⟩
theorem sis_of {cz : List AV} (h : Cells Tryz.prog 52 cz) : ∃ l,cz = [.aslice (sEAs l)] ∧ SigsOk l:=by
  generalize ht : 52 = t at h
  cases h with
  | int h1 h2=>subst ht; rw [Tryz.underlying52] at h1; injection h1 with h1; cases h1
  | bool h1=>subst ht; rw [Tryz.underlying52] at h1; injection h1 with h1; cases h1
  | str h1=>subst ht; rw [Tryz.underlying52] at h1; injection h1 with h1; cases h1
  | slice h1 h2 h3 =>
    subst ht
    rw [Tryz.underlying52] at h1
    injection h1 with h1
    injection h1 with h1
    subst h1
    obtain ⟨ks,k1,k2,k3⟩:=list_enc (f:=sEA) (Q:=SigI.Ok) fun r hr=>si_of (h3 r hr)
    have hm : maxLen = 2 ^ 63 - 1:=rfl
    refine ⟨ks,by rw [sEAs,k1],?_,k3⟩
    rw [k2]; omega
  | @struct t fs cs h1 h2 h3=>subst ht; rw [Tryz.underlying52] at h1; injection h1 with h1; cases h1
theorem plainI : plainB Tryz.prog [52,124,25,23,3,9] = true:=by kernel_rfl
section
variable {H : Type} {enc' : TypeId × Value → H} {W : World}
set_option maxRecDepth 100000 in
theorem rv_sigs {v : Value} {d : DataW H} {p : List MemPlace} {r : Reach} {b0 : Nat} (hval : Value.okWide Tryz.prog W r b0 52 v) (h : DataW.Trod enc' Tryz.prog W 0 (fun _=>true) true 52 v d p) :
    ∃ l : List SigI,SigsOk l ∧ RV (Abs.start W) W (.aslice (sEAs l)) v:=by
  obtain ⟨a,len,cap,rfl⟩:=okWide_slice Tryz.underlying52 hval
  obtain ⟨fuel,hf⟩:=h
  have hmem : 52 ∈ [52,124,25,23,3,9]:=.head _
  obtain ⟨cz,ho⟩:=plain_opened plainI fuel hmem hf
  obtain ⟨l,he,hk⟩:=sis_of ho.typed
  subst he
  refine ⟨l,hk,?_⟩
  have:=ho.rel 0 (by simp)
  simpa [Value.cells,List.getD] using this
end
end Go.Proofs.YtijlnkfiadajhaaGreat
/- Marks in a list of items that is owned, and how they are found again. -/
set_option linter.unusedVariables false
set_option linter.unusedSimpArgs false
namespace Go.Proofs.YtijlnkfiadajhaaGreat
open Go.Abs
def markI (x : SigI) (k : Int) : SigI:=⟨k,mtx (k + 1),.mk (k + 2) (mtx (k + 3)) (mtx (k + 4)) (markL x.typ.kids (k + 5)).1⟩
def markG : List SigI → Int → List SigI
  | [],_=>[]
  | x :: l,k=>markI x k :: markG l (k + (5 + 3 * counts x.typ.kids : Nat))
theorem markG_length : ∀ (l : List SigI) (k : Int),(markG l k).length = l.length
  | [],k=>by simp [markG]
  | x :: l,k=>by simp [markG,markG_length l]
theorem markG_app : ∀ (l l' : List SigI) (k : Int),markG (l ++ l') k = markG l k ++ markG l' (k + (totG l : Nat))
  | [],l',k=>by simp [markG,totG]
  | x :: l,l',k=>by
    rw [List.cons_append,markG,markG,markG_app l l',totG,List.cons_append]
    congr 3
    omega
theorem markG_snoc {l : List SigI} {p : Nat} (h : p < l.length) (k : Int) : markG (l.take (p + 1)) k = markG (l.take p) k ++ [markI (l.getD p si0) (k + (totG (l.take p) : Nat))]:=by
  rw [si_take h,markG_app]; simp [markG]
theorem markG_getD {l : List SigI} {p : Nat} (h : p < l.length) (k : Int) : (markG l k).getD p si0 = markI (l.getD p si0) (k + (totG (l.take p) : Nat)):=by
  conv=>lhs; rw [split_at si0 h,markG_app]
  have : (markG (l.take p) k).length = p:=by rw [markG_length]; simp; omega
  simp [markG,List.getD,List.getElem?_append_right,this]
set_option maxRecDepth 100000 in
theorem laws_markSigs (ks : List SigI) (hks : ks.length < 2 ^ 63) (hok : ∀ b ∈ ks,b.Ok) (A : List Box) (i : Nat) (rows : List (List AV)) (S' : List Nat) (k : Int) (hb : A.getD i .dead = .gr none 6 rows) (hR : OwnG A ks rows S') (hN : (i :: S').Nodup) (h0 : 0 ≤ k) (h1 : k + totG ks ≤ 2 ^ 50) :
    ACalls Tryz.prog 27 [.own i,.int .i64 k] A (fun r A'=>r = .int .i64 (k + totG ks) ∧ A'.length = A.length ∧ (∀ j,j ∉ i :: S' → A'.getD j .dead = A.getD j .dead) ∧ ∃ rows',A'.getD i .dead = .gr none 6 rows' ∧ OwnG A' (markG ks k) rows' S'):=by
  have hil:=live_lt hb (by simp)
  have hlen:=hR.length
  refine acalls_enterK (cf:=cf 62 [0,1,4,5,9]) foll Tryz.func27 Tryz.ntmps27 (by simp [cf]) ?_
  simp only [Tryz.f27,EnterK_some,zW,zX,zD,builtinA,isLeaf,const1,Nat.reduceAdd,Nat.reduceMul,Nat.reduceSub,Nat.reduceLT,Nat.reduceLeDiff,Nat.reduceEqDiff,Nat.reduceBEq,Nat.reduceBNe,reduceIte,reduceCtorEq,Int.reduceToNat,Int.reduceLT,Int.reduceLE,Int.reduceEq,Int.reduceNe,Int.reduceNeg,ustrA,ti3,ti9,ti34,ti36,ti54,ti129,ca79,ca80,cf,Tryz.results27]
  refine aloop_intro [0,1,5] (fun e A'=>∃ (p : Nat) (rl rr : List (List AV)) (SL SR : List Nat),p ≤ ks.length ∧ e = [(0,.own i),(1,.int .i64 (k + totG (ks.take p))),(5,.int .i64 p)] ∧ A'.length = A.length ∧ A'.getD i .dead = .gr none 6 (rl ++ rr) ∧ rl.length = p ∧
    OwnG A' (markG (ks.take p) k) rl SL ∧ OwnG A' (ks.drop p) rr SR ∧ S' = SL ++ SR ∧ ∀ j,j ∉ i :: S' → A'.getD j .dead = A.getD j .dead) (fun e _=>ks.length - (intOf (Abs.look 5 e)).toNat) ?_ ?_
  · refine ⟨0,[],rows,[],S',by omega,?_,rfl,hb,rfl,by simp [markG,OwnG],by simpa using hR,rfl,fun _ _=>rfl⟩
    simp only [zW,zX,zD,builtinA,isLeaf,const1,Nat.reduceAdd,Nat.reduceMul,Nat.reduceSub,Nat.reduceLT,Nat.reduceLeDiff,Nat.reduceEqDiff,Nat.reduceBEq,Nat.reduceBNe,reduceIte,reduceCtorEq,Int.reduceToNat,Int.reduceLT,Int.reduceLE,Int.reduceEq,Int.reduceNe,Int.reduceNeg,ustrA,ti3,ti9,ti34,ti36,ti54,ti129,ca79,ca80,cf,Tryz.results27]
    simp [totG]
  · rintro e A' ⟨p,rl,rr,SL,SR,hp,rfl,hl,hb',hrl,hL,hRr,hS,hfr⟩
    have hrr:=hRr.length
    have hrows : rl.length + rr.length = ks.length:=by simp at hrr; omega
    simp only [zW,zX,zD,builtinA,isLeaf,const1,Nat.reduceAdd,Nat.reduceMul,Nat.reduceSub,Nat.reduceLT,Nat.reduceLeDiff,Nat.reduceEqDiff,Nat.reduceBEq,Nat.reduceBNe,reduceIte,reduceCtorEq,Int.reduceToNat,Int.reduceLT,Int.reduceLE,Int.reduceEq,Int.reduceNe,Int.reduceNeg,ustrA,ti3,ti9,ti34,ti36,ti54,ti129,ca79,ca80,cf,Tryz.results27,hb',hrows]
    refine condK_intro (fun h2=>?_) (fun h2=>?_)
    · have hp2 : p < ks.length:=by simpa using h2
      have hne : i ∉ S':=(List.nodup_cons.1 hN).1
      have hnd : (SL ++ SR).Nodup:=by rw [← hS]; exact (List.nodup_cons.1 hN).2
      rw [si_drop' hp2,OwnG] at hRr
      obtain ⟨vk,rr',S1,S2,rfl,rfl,hK,hR'⟩:=hRr
      have hmem:=si_mem hp2
      have hil' : i < A'.length:=by omega
      have hct:=totG_take hp2
      have hms2:=markG_snoc hp2 k
      have hcl:=totG_le ks (p + 1)
      have hok1:=hok _ hmem
      generalize ks.getD p si0 = b at *
      generalize hk1 : k + (totG (ks.take p) : Int) = k1 at *
      have b0 : 0 ≤ k1:=by omega
      have b1 : k1 + 5 + 3 * counts b.typ.kids ≤ 2 ^ 50:=by omega
      have w1 : IntKind.i64.wrap (k1 + 1) = k1 + 1:=wrap64 (by omega) (by omega)
      have w2 : IntKind.i64.wrap (k1 + 1 + 1) = k1 + 2:=by rw [wrap64 (by omega) (by omega)]; omega
      have w3 : IntKind.i64.wrap (k1 + 2 + 1) = k1 + 3:=by rw [wrap64 (by omega) (by omega)]; omega
      have w4 : IntKind.i64.wrap (k1 + 3 + 1) = k1 + 4:=by rw [wrap64 (by omega) (by omega)]; omega
      have w5 : IntKind.i64.wrap (k1 + 4 + 1) = k1 + 5:=by rw [wrap64 (by omega) (by omega)]; omega
      have hi1 : IntKind.i64.wrap ((p : Int) + 1) = ((p + 1 : Nat) : Int):=by rw [wrap64 (by omega) (by omega)]; rfl
      have hg : ∀ x : List AV,((rl ++ x :: rr').getD p []) = x:=fun x=>by simp [List.getD,List.getElem?_append_right,hrl]
      have hst : ∀ x y : List AV,(rl ++ x :: rr').set p y = rl ++ y :: rr':=fun x y=>by rw [List.set_append_right _ _ (by omega),hrl,Nat.sub_self]; rfl
      have hgs : ∀ X,(A'.set i X).getD i .dead = X:=fun X=>getD_set1 hil'
      have hpl : p < rl.length + (rr'.length + 1):=by simp at hrows; omega
      have hpi : (p : Int) < ((rl.length + (rr'.length + 1) : Nat) : Int):=by omega
      simp only [sRow] at hb'
      simp only [zW,zX,zD,builtinA,isLeaf,const1,Nat.reduceAdd,Nat.reduceMul,Nat.reduceSub,Nat.reduceLT,Nat.reduceLeDiff,Nat.reduceEqDiff,Nat.reduceBEq,Nat.reduceBNe,reduceIte,reduceCtorEq,Int.reduceToNat,Int.reduceLT,Int.reduceLE,Int.reduceEq,Int.reduceNe,Int.reduceNeg,ustrA,ti3,ti9,ti34,ti36,ti54,ti129,ca79,ca80,cf,Tryz.results27,hb',hg,hst,hgs,List.set_set,w1]
      refine ⟨⟨by omega,hpi⟩,⟨hpl,by simp [isElem,isLeaf]⟩,?_⟩
      refine callK_intro (by simp only [zW,zX,zD,builtinA,isLeaf,const1,Nat.reduceAdd,Nat.reduceMul,Nat.reduceSub,Nat.reduceLT,Nat.reduceLeDiff,Nat.reduceEqDiff,Nat.reduceBEq,Nat.reduceBNe,reduceIte,reduceCtorEq,Int.reduceToNat,Int.reduceLT,Int.reduceLE,Int.reduceEq,Int.reduceNe,Int.reduceNeg,ustrA]; rfl) (laws_markText (k1 + 1) (by omega) _) ?_ rfl; rintro v A' ⟨rfl,rfl⟩
      simp only [zW,zX,zD,builtinA,isLeaf,const1,Nat.reduceAdd,Nat.reduceMul,Nat.reduceSub,Nat.reduceLT,Nat.reduceLeDiff,Nat.reduceEqDiff,Nat.reduceBEq,Nat.reduceBNe,reduceIte,reduceCtorEq,Int.reduceToNat,Int.reduceLT,Int.reduceLE,Int.reduceEq,Int.reduceNe,Int.reduceNeg,ustrA,ti3,ti9,ti34,ti36,ti54,ti129,ca79,ca80,cf,Tryz.results27,hb',hg,hst,hgs,List.set_set,w2,w3]
      refine ⟨⟨by omega,hpi⟩,⟨hpl,by simp [isElem,isLeaf]⟩,⟨by omega,hpi⟩,⟨hpl,by simp [isElem,isLeaf]⟩,?_⟩
      refine callK_intro (by simp only [zW,zX,zD,builtinA,isLeaf,const1,Nat.reduceAdd,Nat.reduceMul,Nat.reduceSub,Nat.reduceLT,Nat.reduceLeDiff,Nat.reduceEqDiff,Nat.reduceBEq,Nat.reduceBNe,reduceIte,reduceCtorEq,Int.reduceToNat,Int.reduceLT,Int.reduceLE,Int.reduceEq,Int.reduceNe,Int.reduceNeg,ustrA]; rfl) (laws_markText (k1 + 3) (by omega) _) ?_ rfl; rintro v A' ⟨rfl,rfl⟩
      simp only [zW,zX,zD,builtinA,isLeaf,const1,Nat.reduceAdd,Nat.reduceMul,Nat.reduceSub,Nat.reduceLT,Nat.reduceLeDiff,Nat.reduceEqDiff,Nat.reduceBEq,Nat.reduceBNe,reduceIte,reduceCtorEq,Int.reduceToNat,Int.reduceLT,Int.reduceLE,Int.reduceEq,Int.reduceNe,Int.reduceNeg,ustrA,ti3,ti9,ti34,ti36,ti54,ti129,ca79,ca80,cf,Tryz.results27,hb',hg,hst,hgs,List.set_set,w4]
      refine ⟨⟨by omega,hpi⟩,⟨hpl,by simp [isElem,isLeaf]⟩,?_⟩
      refine callK_intro (by simp only [zW,zX,zD,builtinA,isLeaf,const1,Nat.reduceAdd,Nat.reduceMul,Nat.reduceSub,Nat.reduceLT,Nat.reduceLeDiff,Nat.reduceEqDiff,Nat.reduceBEq,Nat.reduceBNe,reduceIte,reduceCtorEq,Int.reduceToNat,Int.reduceLT,Int.reduceLE,Int.reduceEq,Int.reduceNe,Int.reduceNeg,ustrA]; rfl) (laws_markText (k1 + 4) (by omega) _) ?_ rfl; rintro v A' ⟨rfl,rfl⟩
      simp only [zW,zX,zD,builtinA,isLeaf,const1,Nat.reduceAdd,Nat.reduceMul,Nat.reduceSub,Nat.reduceLT,Nat.reduceLeDiff,Nat.reduceEqDiff,Nat.reduceBEq,Nat.reduceBNe,reduceIte,reduceCtorEq,Int.reduceToNat,Int.reduceLT,Int.reduceLE,Int.reduceEq,Int.reduceNe,Int.reduceNeg,ustrA,ti3,ti9,ti34,ti36,ti54,ti129,ca79,ca80,cf,Tryz.results27,hb',hg,hst,hgs,List.set_set,w5]
      refine ⟨⟨by omega,hpi⟩,⟨hpl,by simp [isElem,isLeaf]⟩,⟨by omega,hpi⟩,?_⟩
      have hiS1 : i ∉ S1:=fun h=>hne (by rw [hS]; simp [h])
      have hm : MarkS b.typ.kids:=markS _ hok1.2
      refine callO_intro (hm _ vk S1 (k1 + 5) (hK.frame fun j hj=>by rw [getD_set_ne' (fun e=>hiS1 (by rw [e]; exact hj))]) ((List.nodup_append.1 (List.nodup_append.1 hnd).2.1).1) (by omega) b1) ?_
      rintro r A3 ⟨rfl,hl3,hK3,hf3⟩
      simp only [zW,zX,zD,builtinA,isLeaf,const1,Nat.reduceAdd,Nat.reduceMul,Nat.reduceSub,Nat.reduceLT,Nat.reduceLeDiff,Nat.reduceEqDiff,Nat.reduceBEq,Nat.reduceBNe,reduceIte,reduceCtorEq,Int.reduceToNat,Int.reduceLT,Int.reduceLE,Int.reduceEq,Int.reduceNe,Int.reduceNeg,ustrA,ti3,ti9,ti34,ti36,ti54,ti129,ca79,ca80,cf,Tryz.results27,hi1,LoopK_eq]
      have hms:=markL_next b.typ.kids (k1 + 5)
      have hd1:=(List.nodup_append.1 hnd).2.2
      have fL : ∀ j ∈ SL,A3.getD j .dead = A'.getD j .dead:=fun j hj=>by
        rw [hf3 j (fun h=>hd1 j hj j (by simp [h]) rfl),getD_set_ne' (fun e=>hne (by rw [hS,e]; simp [hj]))]
      have hd2:=(List.nodup_append.1 (List.nodup_append.1 hnd).2.1).2.2
      have fR : ∀ j ∈ S2,A3.getD j .dead = A'.getD j .dead:=fun j hj=>by
        rw [hf3 j (fun h=>hd2 j h j hj rfl),getD_set_ne' (fun e=>hne (by rw [hS,e]; simp [hj]))]
      refine ⟨⟨p + 1,rl ++ [[AV.int IntKind.i64 k1,AV.str (mtx (k1 + 1)),AV.int IntKind.i64 (k1 + 2),AV.str (mtx (k1 + 3)),AV.str (mtx (k1 + 4)),vk]],rr',SL ++ S1,S2,by omega,?_,?_,?_,?_,?_,hR'.frame fR,by rw [hS]; simp,fun j hj=>?_⟩,?_⟩
      · rw [hms]
        have e : k1 + 5 + 3 * (counts b.typ.kids : Int) = k + (totG (ks.take (p + 1)) : Int):=by rw [hct]; omega
        rw [e]
      · rw [hl3]; simpa using hl
      · rw [hf3 i hiS1,getD_set_self hil']; simp
      · simp [hrl]
      · rw [hms2]
        refine (hL.frame fL).append ?_
        rw [OwnG]
        exact ⟨vk,[],S1,[],rfl,by simp,hK3,by simp [OwnG]⟩
      · have hj1 : j ≠ i:=fun e=>hj (by simp [e])
        have hj2 : j ∉ S1:=fun h=>hj (by rw [hS]; simp [h])
        rw [hf3 j hj2,getD_set_ne' (Ne.symm hj1)]
        exact hfr j hj
      · simp only [intOf]; omega
    · have hp2 : p = ks.length:=by simp at h2; omega
      subst hp2
      simp only [zW,zX,zD,builtinA,isLeaf,const1,Nat.reduceAdd,Nat.reduceMul,Nat.reduceSub,Nat.reduceLT,Nat.reduceLeDiff,Nat.reduceEqDiff,Nat.reduceBEq,Nat.reduceBNe,reduceIte,reduceCtorEq,Int.reduceToNat,Int.reduceLT,Int.reduceLE,Int.reduceEq,Int.reduceNe,Int.reduceNeg,ustrA,ti3,ti9,ti34,ti36,ti54,ti129,ca79,ca80,cf,Tryz.results27]
      rw [List.take_length] at hL
      rw [List.drop_length,OwnG] at hRr
      obtain ⟨rfl,rfl⟩:=hRr
      simp only [List.append_nil] at hb' hS
      exact ⟨hl,hfr,rl,hb',by rw [hS]; exact hL⟩
set_option maxRecDepth 100000 in
theorem laws_markNils (A : List Box) (k : Int) : ACalls Tryz.prog 27 [.nils,.int .i64 k] A (fun r A'=>r = .int .i64 k ∧ A' = A):=by
  refine acalls_enter (cf:=cf 62 [0,1,4,5,9]) foll Tryz.func27 Tryz.ntmps27 (by simp [cf]) ?_
  simp only [Tryz.f27,EnterK_some,zW,zX,zD,builtinA,isLeaf,const1,Nat.reduceAdd,Nat.reduceMul,Nat.reduceSub,Nat.reduceLT,Nat.reduceLeDiff,Nat.reduceEqDiff,Nat.reduceBEq,Nat.reduceBNe,reduceIte,reduceCtorEq,Int.reduceToNat,Int.reduceLT,Int.reduceLE,Int.reduceEq,Int.reduceNe,Int.reduceNeg,ustrA,ti3,ti9,ti34,ti36,ti54,ti129,ca79,ca80,cf,Tryz.results27]
  refine aloop_intro [0,1,5] (fun e A'=>e = [(0,.nils),(1,.int .i64 k),(5,.int .i64 0)] ∧ A' = A) (fun e _=>0) ?_ ?_
  · simp only [zW,zX,zD,builtinA,isLeaf,const1,Nat.reduceAdd,Nat.reduceMul,Nat.reduceSub,Nat.reduceLT,Nat.reduceLeDiff,Nat.reduceEqDiff,Nat.reduceBEq,Nat.reduceBNe,reduceIte,reduceCtorEq,Int.reduceToNat,Int.reduceLT,Int.reduceLE,Int.reduceEq,Int.reduceNe,Int.reduceNeg,ustrA,ti3,ti9,ti34,ti36,ti54,ti129,ca79,ca80,cf,Tryz.results27]
  · rintro e A' ⟨rfl,rfl⟩
    simp only [zW,zX,zD,builtinA,isLeaf,const1,Nat.reduceAdd,Nat.reduceMul,Nat.reduceSub,Nat.reduceLT,Nat.reduceLeDiff,Nat.reduceEqDiff,Nat.reduceBEq,Nat.reduceBNe,reduceIte,reduceCtorEq,Int.reduceToNat,Int.reduceLT,Int.reduceLE,Int.reduceEq,Int.reduceNe,Int.reduceNeg,ustrA,ti3,ti9,ti34,ti36,ti54,ti129,ca79,ca80,cf,Tryz.results27]
    refine condK_intro (fun h=>absurd h (by simp)) (fun _=>?_)
    simp only [zW,zX,zD,builtinA,isLeaf,const1,Nat.reduceAdd,Nat.reduceMul,Nat.reduceSub,Nat.reduceLT,Nat.reduceLeDiff,Nat.reduceEqDiff,Nat.reduceBEq,Nat.reduceBNe,reduceIte,reduceCtorEq,Int.reduceToNat,Int.reduceLT,Int.reduceLE,Int.reduceEq,Int.reduceNe,Int.reduceNeg,ustrA,ti3,ti9,ti34,ti36,ti54,ti129,ca79,ca80,cf,Tryz.results27]
set_option maxRecDepth 100000 in
theorem laws_heldSigItemS (ks : List SigI) (hks : ks.length < 2 ^ 63) (hok : ∀ b ∈ ks,b.Ok) (k : Int) (h0 : 0 ≤ k) (h1 : k + totG ks ≤ 2 ^ 50) (A : List Box) :
    ACalls Tryz.prog 28 [.slice (sEs (markG ks k)),.int .i64 k] A (fun r A'=>r = .int .i64 (k + totG ks) ∧ A' = A):=by
  have hlen : (sEs (markG ks k)).length = ks.length:=by rw [sEs_length,markG_length]
  refine acalls_enter (cf:=cf 74 [0,1,4,5,9,18,28,38,49,60,72]) foll Tryz.func28 Tryz.ntmps28 (by simp [cf]) ?_
  simp only [Tryz.f28,EnterK_some,zW,zX,zD,builtinA,isLeaf,const1,Nat.reduceAdd,Nat.reduceMul,Nat.reduceSub,Nat.reduceLT,Nat.reduceLeDiff,Nat.reduceEqDiff,Nat.reduceBEq,Nat.reduceBNe,reduceIte,reduceCtorEq,Int.reduceToNat,Int.reduceLT,Int.reduceLE,Int.reduceEq,Int.reduceNe,Int.reduceNeg,ustrA,ti3,ti9,ti34,ti36,ti54,ti129,ca79,ca81,cf,Tryz.results28]
  refine aloop_intro [0,1,5] (fun e A'=>∃ p,p ≤ ks.length ∧ e = [(0,.slice (sEs (markG ks k))),(1,.int .i64 (k + totG (ks.take p))),(5,.int .i64 (p : Nat))] ∧ A' = A) (fun e _=>ks.length - (intOf (Abs.look 5 e)).toNat) ?_ ?_
  · simp only [zW,zX,zD,builtinA,isLeaf,const1,Nat.reduceAdd,Nat.reduceMul,Nat.reduceSub,Nat.reduceLT,Nat.reduceLeDiff,Nat.reduceEqDiff,Nat.reduceBEq,Nat.reduceBNe,reduceIte,reduceCtorEq,Int.reduceToNat,Int.reduceLT,Int.reduceLE,Int.reduceEq,Int.reduceNe,Int.reduceNeg,ustrA,ti3,ti9,ti34,ti36,ti54,ti129,ca79,ca81,cf,Tryz.results28]
    exact ⟨0,by omega,by simp [totG]⟩
  · rintro e A' ⟨p,hp,rfl,rfl⟩
    simp only [zW,zX,zD,builtinA,isLeaf,const1,Nat.reduceAdd,Nat.reduceMul,Nat.reduceSub,Nat.reduceLT,Nat.reduceLeDiff,Nat.reduceEqDiff,Nat.reduceBEq,Nat.reduceBNe,reduceIte,reduceCtorEq,Int.reduceToNat,Int.reduceLT,Int.reduceLE,Int.reduceEq,Int.reduceNe,Int.reduceNeg,ustrA,ti3,ti9,ti34,ti36,ti54,ti129,ca79,ca81,cf,Tryz.results28,hlen]
    refine condK_intro (fun h2=>?_) (fun h2=>?_)
    · have hp2 : p < ks.length:=by simpa using h2
      have hmem:=si_mem hp2
      have hct:=totG_take hp2
      have hcl:=totG_le ks (p + 1)
      have hel:=sEs_getD (l:=markG ks k) (i:=p) (by rw [markG_length]; exact hp2)
      rw [markG_getD hp2] at hel
      have hok1:=hok _ hmem
      generalize ks.getD p si0 = b at *
      generalize hk1 : k + (totG (ks.take p) : Int) = k1 at *
      rw [sE6] at hel
      simp only [markI,Ty.kind,Ty.mod,Ty.name,Ty.kids] at hel
      have b0 : 0 ≤ k1:=by omega
      have b1 : k1 + 5 + 3 * counts b.typ.kids ≤ 2 ^ 50:=by omega
      have hmn:=markL_next b.typ.kids (k1 + 5)
      have w1 : IntKind.i64.wrap (k1 + 1) = k1 + 1:=wrap64 (by omega) (by omega)
      have w2 : IntKind.i64.wrap (k1 + 1 + 1) = k1 + 2:=by rw [wrap64 (by omega) (by omega)]; omega
      have w3 : IntKind.i64.wrap (k1 + 2 + 1) = k1 + 3:=by rw [wrap64 (by omega) (by omega)]; omega
      have w4 : IntKind.i64.wrap (k1 + 3 + 1) = k1 + 4:=by rw [wrap64 (by omega) (by omega)]; omega
      have w5 : IntKind.i64.wrap (k1 + 4 + 1) = k1 + 5:=by rw [wrap64 (by omega) (by omega)]; omega
      have hi1 : IntKind.i64.wrap ((p : Int) + 1) = ((p + 1 : Nat) : Int):=by rw [wrap64 (by omega) (by omega)]; rfl
      have hpi : (0 : Int) ≤ (p : Int) ∧ (p : Int) < (ks.length : Int):=⟨by omega,by omega⟩
      have hm : HeldS b.typ.kids:=heldS _ hok1.2
      simp only [zW,zX,zD,builtinA,isLeaf,const1,Nat.reduceAdd,Nat.reduceMul,Nat.reduceSub,Nat.reduceLT,Nat.reduceLeDiff,Nat.reduceEqDiff,Nat.reduceBEq,Nat.reduceBNe,reduceIte,reduceCtorEq,Int.reduceToNat,Int.reduceLT,Int.reduceLE,Int.reduceEq,Int.reduceNe,Int.reduceNeg,ustrA,ti3,ti9,ti34,ti36,ti54,ti129,ca79,ca81,cf,Tryz.results28,hel,hlen,w1,w2,w3,w4,w5]
      refine ⟨hpi,.inl ⟨by kernel_rfl,by kernel_rfl,hpi,?_⟩⟩
      refine callD_intro (by simp only [zW,zX,zD,builtinA,isLeaf,const1,Nat.reduceAdd,Nat.reduceMul,Nat.reduceSub,Nat.reduceLT,Nat.reduceLeDiff,Nat.reduceEqDiff,Nat.reduceBEq,Nat.reduceBNe,reduceIte,reduceCtorEq,Int.reduceToNat,Int.reduceLT,Int.reduceLE,Int.reduceEq,Int.reduceNe,Int.reduceNeg,ustrA,Option.map_some] <;> rfl) (laws_markText (k1 + 1) (by omega) _) ?_ rfl
      simp only [zW,zX,zD,builtinA,isLeaf,const1,Nat.reduceAdd,Nat.reduceMul,Nat.reduceSub,Nat.reduceLT,Nat.reduceLeDiff,Nat.reduceEqDiff,Nat.reduceBEq,Nat.reduceBNe,reduceIte,reduceCtorEq,Int.reduceToNat,Int.reduceLT,Int.reduceLE,Int.reduceEq,Int.reduceNe,Int.reduceNeg,ustrA,ti3,ti9,ti34,ti36,ti54,ti129,ca79,ca81,cf,Tryz.results28,hel,hlen,w1,w2,w3,w4,w5]
      refine ⟨hpi,.inl ⟨by kernel_rfl,by kernel_rfl,hpi,?_⟩⟩
      refine callD_intro (by simp only [zW,zX,zD,builtinA,isLeaf,const1,Nat.reduceAdd,Nat.reduceMul,Nat.reduceSub,Nat.reduceLT,Nat.reduceLeDiff,Nat.reduceEqDiff,Nat.reduceBEq,Nat.reduceBNe,reduceIte,reduceCtorEq,Int.reduceToNat,Int.reduceLT,Int.reduceLE,Int.reduceEq,Int.reduceNe,Int.reduceNeg,ustrA,Option.map_some] <;> rfl) (laws_markText (k1 + 3) (by omega) _) ?_ rfl
      simp only [zW,zX,zD,builtinA,isLeaf,const1,Nat.reduceAdd,Nat.reduceMul,Nat.reduceSub,Nat.reduceLT,Nat.reduceLeDiff,Nat.reduceEqDiff,Nat.reduceBEq,Nat.reduceBNe,reduceIte,reduceCtorEq,Int.reduceToNat,Int.reduceLT,Int.reduceLE,Int.reduceEq,Int.reduceNe,Int.reduceNeg,ustrA,ti3,ti9,ti34,ti36,ti54,ti129,ca79,ca81,cf,Tryz.results28,hel,hlen,w1,w2,w3,w4,w5]
      refine .inl ⟨by kernel_rfl,by kernel_rfl,hpi,?_⟩
      refine callD_intro (by simp only [zW,zX,zD,builtinA,isLeaf,const1,Nat.reduceAdd,Nat.reduceMul,Nat.reduceSub,Nat.reduceLT,Nat.reduceLeDiff,Nat.reduceEqDiff,Nat.reduceBEq,Nat.reduceBNe,reduceIte,reduceCtorEq,Int.reduceToNat,Int.reduceLT,Int.reduceLE,Int.reduceEq,Int.reduceNe,Int.reduceNeg,ustrA,Option.map_some] <;> rfl) (laws_markText (k1 + 4) (by omega) _) ?_ rfl
      simp only [zW,zX,zD,builtinA,isLeaf,const1,Nat.reduceAdd,Nat.reduceMul,Nat.reduceSub,Nat.reduceLT,Nat.reduceLeDiff,Nat.reduceEqDiff,Nat.reduceBEq,Nat.reduceBNe,reduceIte,reduceCtorEq,Int.reduceToNat,Int.reduceLT,Int.reduceLE,Int.reduceEq,Int.reduceNe,Int.reduceNeg,ustrA,ti3,ti9,ti34,ti36,ti54,ti129,ca79,ca81,cf,Tryz.results28,hel,hlen,w1,w2,w3,w4,w5]
      refine ⟨hpi,?_⟩
      refine callK_intro (by simp only [zW,zX,zD,builtinA,isLeaf,const1,Nat.reduceAdd,Nat.reduceMul,Nat.reduceSub,Nat.reduceLT,Nat.reduceLeDiff,Nat.reduceEqDiff,Nat.reduceBEq,Nat.reduceBNe,reduceIte,reduceCtorEq,Int.reduceToNat,Int.reduceLT,Int.reduceLE,Int.reduceEq,Int.reduceNe,Int.reduceNeg,ustrA,Option.map_some]; rfl) (hm _ (k1 + 5) (by omega) b1) ?_ rfl; rintro v A' ⟨rfl,rfl⟩
      have hge : decide ((markL b.typ.kids (k1 + 5)).2 < 0) = false:=by rw [hmn]; exact decide_eq_false (by omega)
      simp only [zW,zX,zD,builtinA,isLeaf,const1,Nat.reduceAdd,Nat.reduceMul,Nat.reduceSub,Nat.reduceLT,Nat.reduceLeDiff,Nat.reduceEqDiff,Nat.reduceBEq,Nat.reduceBNe,reduceIte,reduceCtorEq,Int.reduceToNat,Int.reduceLT,Int.reduceLE,Int.reduceEq,Int.reduceNe,Int.reduceNeg,ustrA,ti3,ti9,ti34,ti36,ti54,ti129,ca79,ca81,cf,Tryz.results28,hge,hi1,LoopK_eq]
      refine ⟨⟨p + 1,by omega,?_⟩,?_⟩
      · have e : k1 + 5 + 3 * (counts b.typ.kids : Int) = k + (totG (ks.take (p + 1)) : Int):=by rw [hct]; omega
        rw [hmn,e]
      · simp only [intOf]; omega
    · have hp2 : p = ks.length:=by simp at h2; omega
      subst hp2
      simp only [zW,zX,zD,builtinA,isLeaf,const1,Nat.reduceAdd,Nat.reduceMul,Nat.reduceSub,Nat.reduceLT,Nat.reduceLeDiff,Nat.reduceEqDiff,Nat.reduceBEq,Nat.reduceBNe,reduceIte,reduceCtorEq,Int.reduceToNat,Int.reduceLT,Int.reduceLE,Int.reduceEq,Int.reduceNe,Int.reduceNeg,ustrA,ti3,ti9,ti34,ti36,ti54,ti129,ca79,ca81,cf,Tryz.results28,List.take_length]
theorem laws_markI (ks : List SigI) (hks : ks.length < 2 ^ 63) (hok : ∀ b ∈ ks,b.Ok) (A : List Box) (v : AV) (S : List Nat) (k : Int) (hK : OwnI A ks v S) (hN : S.Nodup) (h0 : 0 ≤ k) (h1 : k + totG ks ≤ 2 ^ 50) :
    ACalls Tryz.prog 27 [v,.int .i64 k] A (fun r A'=>r = .int .i64 (k + totG ks) ∧ A'.length = A.length ∧ OwnI A' (markG ks k) v S):=by
  rcases hK with ⟨rfl,rfl,rfl⟩ | ⟨i,rows,S',rfl,rfl,h3,h4⟩
  · exact (laws_markNils A k).mono fun r A' h=>by
      obtain ⟨rfl,rfl⟩:=h
      exact ⟨by simp [totG],rfl,.inl ⟨rfl,by simp [markG],rfl⟩⟩
  · exact (laws_markSigs ks hks hok A i rows S' k h3 h4 hN h0 h1).mono fun r A' h=>by
      obtain ⟨rfl,h5,h6,rows',h7,h8⟩:=h
      exact ⟨rfl,h5,.inr ⟨i,rows',S',rfl,rfl,h7,h8⟩⟩
end Go.Proofs.YtijlnkfiadajhaaGreat
/- The facts of a claim, one by one: a great program's do not fit into one check. -/
set_option linter.unusedVariables false
namespace Go.Proofs.YtijlnkfiadajhaaGreat
open Go.Abs Go.RowKit Go.ChangeShapes Go.WideShapes Go.ChangeAt Go.ChangeMaps
open Program Func OpenClaim in
theorem jf_of {P : Program} {f : FuncId} {fn : Func} {s : ChangeSpec} {c : OpenClaim} (h0 : (c.wf (OpenSpec.ofChange s)) = true) (h1 : (laidOutB P) = true) (h2 : (mapsRowed P) = true) (h3 : (fn.params.all (P.readableRec ·)) = true) (h4 : (namedTie P c.named s.vars) = true) (h5 : ((c.stops == [])) = true) (h6 : ((P.stops == [])) = true) (h7 : ((c.knobs == [])) = true) (h8 : ((P.stopKnobs == [])) = true) (h9 : ((c.inPlace == P.inPlace f)) = true) (h10 : ((c.unfollowed == P.unfollowed f)) = true) (h11 : ((c.recurses == P.recurses f)) = true) (h12 : ((c.named == P.varsNamed f)) = true) (h13 : ((c.maps == (fn.params.toList ++ s.plain.varTypes P).any (P.mapsRec ·))) = true) (h14 : ((c.ifaces == (fn.params.toList ++ s.plain.varTypes P).any (P.ifacesRec ·))) = true) (h15 : ((c.mapsOut == P.mapsAmong fn.resultTypes.toList)) = true) (h16 : ((c.loops == (fn.params.toList ++ s.plain.varTypes P).any (P.loopsFrom ·))) = true) (h17 : ((c.wideKeys == (fn.params.toList ++ s.plain.varTypes P ++ fn.resultTypes.toList).any (P.wideKeysFrom ·))) = true) (h18 : (s.vars.all (P.varReadable ·)) = true) (h19 : (fn.resultTypes.all (fun t=>P.readableRec t && decide (t < P.types.size))) = true) (h20 : ((c.ifacesOut == fn.resultTypes.toList.any (P.ifacesRec ·))) = true) (h21 : ((c.loopsOut == fn.resultTypes.toList.any (P.loopsFrom ·))) = true) (h22 : ((c.plainKeys == P.plainKeys)) = true) (h23 : (c.shortTexts.isNone) = true) (h24 : (P.stopsHeard) = true) (h25 : (P.mayEnter) = true) (h26 : ((c.lifted == P.liftsFinal)) = true) (h27 : ((P.make == some c.make)) = true) (h28 : ((c.kinds == (if c.domain.isEmpty then [] else fn.params.toList.map fun t=>match P.underlying t with | some (.int k)=>some k | _=>none))) = true) (h29 : ((c.pinned == c.pinnedBy)) = true) (h30 : ((c.veiled == (fn.params.toList ++ s.plain.varTypes P ++ fn.resultTypes.toList).any (P.veiledRec ·))) = true) (h31 : (c.veiledFits P fn.params.toList (fn.params.toList ++ s.plain.varTypes P ++ fn.resultTypes.toList)) = true) : joinedFacts P f fn s c = true:=by
  unfold joinedFacts
  simp only [h0,h1,h2,h3,h4,h5,h6,h7,h8,h9,h10,h11,h12,h13,h14,h15,h16,h17,h18,h19,h20,h21,h22,h23,h24,h25,h26,h27,h29,h30,h31,Bool.and_true,Bool.true_and]
  exact h28
theorem jp1 : laidOutB Tryz.pinned.checked.prog = true:=laid
theorem jp2 : mapsRowed Tryz.pinned.checked.prog = true:=by kernel_rfl
theorem jp6 : (Tryz.pinned.checked.prog.stops == []) = true:=by kernel_rfl
theorem jp8 : (Tryz.pinned.checked.prog.stopKnobs == []) = true:=by kernel_rfl
theorem jp24 : Tryz.pinned.checked.prog.stopsHeard = true:=by kernel_rfl
theorem jp25 : Tryz.pinned.checked.prog.mayEnter = true:=by kernel_rfl
end Go.Proofs.YtijlnkfiadajhaaGreat
