/- SigRdN, SubT, SigOne, SpNorm, NormP, SpSigN, OwnMark, OwnTo, OwnFree, OwnBd, SubNew, SpFind, RdOne, MatchP, SpMt. -/
import Derived.Test.YtejbjgmgdbcddaaGreatDoorJ05
import Derived.Test.YtejbjgmgdbcddaaGreatDoorAbsW3
/- Reading a signature with normal types, and what a name in it stands for. -/
set_option linter.unusedVariables false
set_option linter.unusedSimpArgs false
namespace Go.Proofs.YtejbjgmgdbcddaaGreatDoor
open Go.Abs
def FindO (ys : List VI) (q : Ky) (o : Option VT) : Prop:=match o with
  | some v=>∃ i,i < ys.length ∧ viK (ys.getD i vi0) = q ∧ meanI (ys.getD i vi0) = v
  | none=>∀ i,i < ys.length → viK (ys.getD i vi0) ≠ q
def findR : Option VT → AV
  | some v=>.tuple [.iface (vT v) (vX v),.bool true]
  | none=>.tuple [.nili,.bool false]
set_option maxRecDepth 100000 in
theorem impl_findSig (ys : List VI) (hl : ys.length ≤ 1000) (q : Ky) (A : List Box) : ACalls Tryz.prog 54 [.slice (vRows ys),.agg (kE q)] A (fun r A'=>∃ o,FindO ys q o ∧ r = findR o ∧ A' = A):=by
  have h:=fun A=>impl_position ys hl q A
  simp only [kE] at h
  rw [kE]
  refine acalls_enter (cf:=cf 17 [0,1,3,4,5,6,11]) foll Tryz.func54 Tryz.ntmps54 (by simp [cf]) ?_
  simp only [Tryz.f54,EnterK_some,zW,zX,zD,builtinA,isLeaf,const1,ustrA,simprocAttr,ti3,ti44,ti48,ti51,ca43,cf,Tryz.results54]
  refine callO_intro (h _) ?_
  rintro r A' ⟨h2,rfl⟩
  rcases h2 with ⟨i,hi,hv,rfl⟩ | ⟨hn,rfl⟩
  · have d2 : decide ((i : Int) < 0) = false:=decide_eq_false (by omega)
    have hg:=vRows_getD hi
    generalize hyv : ys.getD i vi0 = y at *
    rw [vRow] at hg
    simp only [zW,zX,zD,builtinA,isLeaf,const1,ustrA,simprocAttr,ti3,ti44,ti48,ti51,ca43,cf,Tryz.results54,d2,vRows_length,hg]
    refine ⟨⟨by omega,by omega⟩,?_⟩
    refine wpO_invoke _ _ _ _ _ _ _ _ _ _ _ _ _ _ _ _ ?_
    simp only [zW,zX,zD,builtinA,isLeaf,const1,ustrA,simprocAttr,ti3,ti44,ti48,ti51,ca43,cf,Tryz.results54]
    refine methI_invK (metI3 (by kernel_rfl) (by kernel_rfl) (by kernel_rfl) (by kernel_rfl) (by kernel_rfl) (by kernel_rfl)) (meanIf y _) rfl (fun _=>rfl) ?_
    rintro r A' ⟨rfl,rfl⟩
    simp only [zW,zX,zD,builtinA,isLeaf,const1,ustrA,simprocAttr,ti3,ti44,ti48,ti51,ca43,cf,Tryz.results54]
    exact ⟨some (meanI y),⟨i,hi,by rw [hyv]; exact hv,by rw [hyv]⟩,rfl⟩
  · have d2 : decide ((-1 : Int) < 0) = true:=rfl
    simp only [zW,zX,zD,builtinA,isLeaf,const1,ustrA,simprocAttr,ti3,ti44,ti48,ti51,ca43,cf,Tryz.results54,d2]
    exact ⟨none,hn,rfl⟩
end Go.Proofs.YtejbjgmgdbcddaaGreatDoor
namespace Go.Proofs.YtejbjgmgdbcddaaGreatDoor
open Go.Abs
def RdN (s : List SigI) : Option (List VI) → Prop
  | some zs=>∃ ys,s.length ≤ 8 ∧ ReadsTo s ys ∧ ordB ys = true ∧ normL [] ys = some zs
  | none=>(8 < s.length ∨ ∃ x ∈ s,itemOk x = false) ∨ ∃ ys,s.length ≤ 8 ∧ ReadsTo s ys ∧ (ordB ys = false ∨ normL [] ys = none)
set_option maxRecDepth 100000 in
theorem impl_readNormal (s : List SigI) (hs : s.length ≤ 1048576) (ho : ∀ x ∈ s,x.Ok ∧ sz x.typ ≤ 1048576) (A : List Box) : ACalls Tryz.prog 27 [.slice (sEs s)] A (fun r A'=>∃ B,A' = A ++ B ∧
    ((∃ zs j,RdN s (some zs) ∧ r = .tuple [.own (A.length + j),.bool true] ∧ j < B.length ∧ B.getD j .dead = .row 1 (vRows zs) 0) ∨ (RdN s none ∧ r = .tuple [.nils,.bool false]))):=by
  refine acalls_enterK (cf:=cf 17 [0,2,3,4,5,12]) foll Tryz.func27 Tryz.ntmps27 (by simp [cf]) ?_
  simp only [Tryz.f27,EnterK_some,zW,zX,zD,builtinA,isLeaf,const1,ustrA,simprocAttr,ca36,ca48,cf,Tryz.results27]
  refine callK_intro (by simp only [zW,zX,zD,builtinA,isLeaf,const1,ustrA,simprocAttr,Option.map_some]; rfl) (impl_readSig s hs ho _) ?_ rfl
  rintro r A' ⟨h,rfl⟩
  rcases h with ⟨ys,h8,hrt,rfl⟩ | ⟨hbad,rfl⟩
  · cases hord : ordB ys with
    | false =>
      simp only [zW,zX,zD,builtinA,isLeaf,const1,ustrA,simprocAttr,ca36,ca48,cf,Tryz.results27]
      exact ⟨[],by simp,.inr (.inr ⟨ys,h8,hrt,.inl hord⟩)⟩
    | true =>
      have hn:=impl_normal ys (by have:=hrt.1; omega) (fun k hk=>by
        have:=hrt.2 k (by rw [← hrt.1]; exact hk)
        exact mean_ok this.1 this.2) hord
      simp only [zW,zX,zD,builtinA,isLeaf,const1,ustrA,simprocAttr,ca36,ca48,cf,Tryz.results27]
      refine callO_intro (hn _) ?_
      rintro r A2 ⟨B,rfl,⟨zs,j,e,rfl,hj,hg⟩ | ⟨e,rfl⟩⟩
      · simp only [zW,zX,zD,builtinA,isLeaf,const1,ustrA,simprocAttr,ca36,ca48,cf,Tryz.results27]
        exact ⟨_,rfl,.inl ⟨zs,j,⟨ys,h8,hrt,hord,e⟩,rfl,hj,hg⟩⟩
      · simp only [zW,zX,zD,builtinA,isLeaf,const1,ustrA,simprocAttr,ca36,ca48,cf,Tryz.results27]
        exact ⟨_,rfl,.inr (.inr ⟨ys,h8,hrt,.inr e⟩)⟩
  · simp only [zW,zX,zD,builtinA,isLeaf,const1,ustrA,simprocAttr,ca36,ca48,cf,Tryz.results27]
    exact ⟨[],by simp,.inr (.inl hbad)⟩
theorem vX_free : ∀ v,ifree (vX v) = true
  | .num=>rfl
  | .nm m n=>rfl
  | .fn a b=>by
    have h1:=vX_free a
    have h2:=vX_free b
    simp [vX,ifree,ifrees,h1,h2]
theorem findR_free (o : Option VT) : ifree (findR o) = true:=by
  cases o with
  | none=>rfl
  | some v=>simp [findR,ifree,ifrees,vX_free v]
theorem findR_view (ys : List VI) (hl : ys.length ≤ 1000) (q : Ky) {A : List Box} {i : Nat} (hb : A.getD i .dead = .row 1 (vRows ys) 0) : ACalls Tryz.prog 54 [.own i,.agg (kE q)] A (fun r A'=>∃ o,FindO ys q o ∧ r = findR o ∧ A' = A):=by
  refine ACalls.borrow (.cons (.row i 1 0 (vRows ys) (vRows ys) hb rfl (vRows_leaf ys) (vRows_view ys _)) (.cons (.agg _ _ rfl fun k hk=>.leaf _ (by have h2 : k < 2:=hk; match k,h2 with | 0,_=>rfl | 1,_=>rfl)) .nil)) ((impl_findSig ys hl q _).mono ?_)
  rintro r A' ⟨o,h1,rfl,rfl⟩
  exact ⟨[],by simp,findR_free o,by simp,o,h1,rfl,by simp⟩
def MeanIs (s : List SigI) (q : Ky) (o : Option VT) : Prop:=(∃ zs,RdN s (some zs) ∧ FindO zs q o) ∨ (RdN s none ∧ o = none)
theorem normL_len : ∀ {ys zs : List VI} {m : List (BNm × VT)},normL m ys = some zs → zs.length = ys.length
  | [],zs,m,h=>by cases h; rfl
  | y :: ys,zs,m,h=>by
    rw [normL] at h
    split at h
    · obtain ⟨x,hx,rfl⟩:=Option.map_eq_some_iff.1 h
      simp [normL_len hx]
    · cases h
set_option maxRecDepth 100000 in
theorem impl_findMeaning (s : List SigI) (hs : s.length ≤ 1048576) (ho : ∀ x ∈ s,x.Ok ∧ sz x.typ ≤ 1048576) (q : Ky) (A : List Box) : ACalls Tryz.prog 31 [.slice (sEs s),.agg (kE q)] A (fun r A'=>∃ o,MeanIs s q o ∧ SubOut A o r A'):=by
  rw [kE]
  refine acalls_enterK (cf:=cf 28 [0,1,3,4,5,6,7,8,15,24]) foll Tryz.func31 Tryz.ntmps31 (by simp [cf]) ?_
  simp only [Tryz.f31,EnterK_some,zW,zX,zD,builtinA,isLeaf,const1,ustrA,simprocAttr,ti32,ti48,ca27,ca54,cf,Tryz.results31]
  refine callO_intro (impl_readNormal s hs ho _) ?_
  rintro r A1 ⟨B,rfl,⟨zs,j,hrd,rfl,hj,hg⟩ | ⟨hrd,rfl⟩⟩
  · have hzl : zs.length ≤ 1000:=by
      obtain ⟨ys,h8,hrt,_,hn⟩:=hrd
      have:=normL_len hn
      have:=hrt.1
      omega
    have hg2 : (A ++ (.cells [.bool q.1,.str q.2] :: .cells [.int .i64 0,.str [],.str [],.nils] :: B)).getD (A.length + 2 + j) .dead = .row 1 (vRows zs) 0:=by
      rw [Abs.getD_append_right (by omega),show A.length + 2 + j - A.length = j + 1 + 1 by omega]; exact hg
    have hfv:=findR_view zs hzl q hg2
    simp only [kE] at hfv
    simp only [zW,zX,zD,builtinA,isLeaf,const1,ustrA,simprocAttr,ti32,ti48,ca27,ca54,cf,Tryz.results31]
    refine callO_intro hfv ?_
    rintro r A' ⟨o,hfo,rfl,rfl⟩
    cases o with
    | none =>
      simp only [findR]
      simp only [zW,zX,zD,builtinA,isLeaf,const1,ustrA,simprocAttr,ti32,ti48,ca27,ca54,cf,Tryz.results31]
      exact ⟨none,.inl ⟨zs,hrd,hfo⟩,rfl,by simp,fun i hi=>Abs.getD_append_left hi⟩
    | some w =>
      simp only [findR]
      simp only [zW,zX,zD,builtinA,isLeaf,const1,ustrA,simprocAttr,ti32,ti48,ca27,ca54,cf,Tryz.results31]
      refine wpO_invoke _ _ _ _ _ _ _ _ _ _ _ _ _ _ _ _ ?_
      simp only [zW,zX,zD,builtinA,isLeaf,const1,ustrA,simprocAttr,ti32,ti48,ca27,ca54,cf,Tryz.results31]
      refine meth_invK (met3 (by kernel_rfl) (by kernel_rfl) (by kernel_rfl) (by kernel_rfl) (by kernel_rfl) (by kernel_rfl)) (plainM w _) rfl (fun _=>rfl) ?_
      rintro r A' ⟨rfl,rfl⟩
      have hpl : ∀ n,(prow w n true).length = 4:=fun n=>prow_length _ _ _
      simp only [zW,zX,zD,builtinA,isLeaf,const1,ustrA,simprocAttr,ti32,ti48,ca27,ca54,cf,Tryz.results31,hpl]
      refine ⟨some w,.inl ⟨zs,hrd,hfo⟩,prow w (A.length + (B.length + 1 + 1)) true,pidx w (A.length + (B.length + 1 + 1)),by rw [List.take_of_length_le (by rw [hpl]; exact Nat.le_refl _)],own_plain w _ true _ (fun k hk=>?_),pidx_nodup _ _,fun i hi=>by have:=pidx_in _ _ i hi; omega,by simp,fun i hi=>Abs.getD_append_left hi⟩
      rw [Abs.getD_append_right (by omega),show A.length + (B.length + 1 + 1) + k - A.length = (B.length + k) + 1 + 1 by omega,List.getD_cons_succ,List.getD_cons_succ,Abs.getD_append_right (by omega),show B.length + k - B.length = k by omega]
  · simp only [zW,zX,zD,builtinA,isLeaf,const1,ustrA,simprocAttr,ti32,ti48,ca27,ca54,cf,Tryz.results31]
    exact ⟨none,.inr ⟨hrd,rfl⟩,rfl,by simp,fun i hi=>Abs.getD_append_left hi⟩
end Go.Proofs.YtejbjgmgdbcddaaGreatDoor
/- The model's SubstType answers as the program's. -/
set_option linter.unusedVariables false
set_option linter.unusedSimpArgs false
namespace Go.Proofs.YtejbjgmgdbcddaaGreatDoor
open Go.Abs
end Go.Proofs.YtejbjgmgdbcddaaGreatDoor
namespace Go.Proofs.YtejbjgmgdbcddaaGreatDoor
open Go.Abs
theorem toTy_injS : ∀ {v v' : VT},toTy v = toTy v' → v = v'
  | .num,.num,_=>rfl
  | .num,.nm _ _,h=>by simp [toTy] at h
  | .num,.fn _ _,h=>by simp [toTy] at h
  | .nm _ _,.num,h=>by simp [toTy] at h
  | .nm _ _,.fn _ _,h=>by simp [toTy] at h
  | .fn _ _,.num,h=>by simp [toTy] at h
  | .fn _ _,.nm _ _,h=>by simp [toTy] at h
  | .nm m n,.nm m' n',h=>by simp [toTy] at h; rw [h.1,h.2]
  | .fn a b,.fn a' b',h=>by
    simp [toTy] at h
    rw [toTy_injS h.1,toTy_injS h.2]
def oTyS : Option VT → Ty
  | none=>ty0
  | some v=>toTy v
end Go.Proofs.YtejbjgmgdbcddaaGreatDoor
/- What a name of a signature stands for is one thing only. -/
set_option linter.unusedVariables false
set_option linter.unusedSimpArgs false
namespace Go.Proofs.YtejbjgmgdbcddaaGreatDoor
open Go.Abs
theorem itemOf_one {x : SigI} {y y' : VI} (h : ItemOf x y) (h' : ItemOf x y') : y = y':=by
  cases y <;> cases y' <;> simp only [ItemOf] at h h'
  all_goals first
    | (exfalso; have:=h.2.1; have:=h'.2.1; omega)
    | (rw [← h.1,← h'.1,toTy_injS (h.2.2.1.symm.trans h'.2.2.1)]; done)
    | (rw [← h.1,← h'.1]; done)
theorem itemOf_yes {x : SigI} {y : VI} (hl : localB x.name = true) (h : ItemOf x y) : itemOk x = true:=by
  cases y <;> simp only [ItemOf] at h
  · simp [itemOk,hl,h.2.1,h.2.2]
  · simp [itemOk,hl,h.2.1,h.2.2.1,validB_toTy h.2.2.2]
  · simp [itemOk,hl,h.2.1,h.2.2.1,validB_toTy h.2.2.2]
theorem vi_ext {ys zs : List VI} (hl : ys.length = zs.length) (h : ∀ i,i < ys.length → ys.getD i vi0 = zs.getD i vi0) : ys = zs:=by
  refine List.ext_getElem hl fun i h1 h2=>?_
  have:=h i h1
  simpa [List.getD,h1,h2] using this
theorem readsTo_one {s : List SigI} {ys zs : List VI} (h : ReadsTo s ys) (h' : ReadsTo s zs) : ys = zs :=
  vi_ext (h.1.trans h'.1.symm) fun i hi=>itemOf_one (h.2 i (h.1 ▸ hi)).2 (h'.2 i (h.1 ▸ hi)).2
theorem readsTo_not {s : List SigI} {ys : List VI} (h : ReadsTo s ys) : ¬ ∃ x ∈ s,itemOk x = false:=by
  rintro ⟨x,hx,hf⟩
  obtain ⟨i,hi,rfl⟩:=List.mem_iff_getElem.1 hx
  have:=h.2 i hi
  have e : s.getD i si0 = s[i]:=by simp [List.getD,hi]
  rw [e] at this
  rw [itemOf_yes this.1 this.2] at hf
  cases hf
theorem rdN_one {s : List SigI} {zs zs' : List VI} (h : RdN s (some zs)) (h' : RdN s (some zs')) : zs = zs':=by
  obtain ⟨ys,_,hr,_,hn⟩:=h
  obtain ⟨ys',_,hr',_,hn'⟩:=h'
  rw [readsTo_one hr hr',hn'] at hn
  exact (Option.some.inj hn).symm
theorem rdN_not {s : List SigI} {zs : List VI} (h : RdN s (some zs)) : ¬ RdN s none:=by
  obtain ⟨ys,h8,hr,ho,hn⟩:=h
  rintro ((h | h) | ⟨ys',_,hr',h | h⟩)
  · omega
  · exact readsTo_not hr h
  · rw [readsTo_one hr' hr,ho] at h; cases h
  · rw [readsTo_one hr' hr,hn] at h; cases h
theorem ordB_ne {ys : List VI} (h : ordB ys = true) {i j : Nat} (hij : i < j) (hj : j < ys.length) : viK (ys.getD i vi0) ≠ viK (ys.getD j vi0):=by
  intro e
  have hs : stepB (ys.take j) (ys.getD j vi0) = true:=by
    unfold ordB at h
    rw [List.all_eq_true] at h
    exact h j (List.mem_range.mpr hj)
  simp only [stepB,Bool.and_eq_true,Bool.not_eq_true',decide_eq_false_iff_not] at hs
  refine hs.2 (List.mem_map.2 ⟨ys.getD i vi0,?_,e⟩)
  rw [List.mem_take_iff_getElem]
  exact ⟨i,by omega,by simp [List.getD,show i < ys.length by omega]⟩
theorem ordB_inj {ys : List VI} (h : ordB ys = true) {i j : Nat} (hi : i < ys.length) (hj : j < ys.length) (e : viK (ys.getD i vi0) = viK (ys.getD j vi0)) : i = j:=by
  rcases Nat.lt_trichotomy i j with hl | hl | hl
  · exact absurd e (ordB_ne h hl hj)
  · exact hl
  · exact absurd e.symm (ordB_ne h hl hi)
theorem normL_keys : ∀ {ys zs : List VI} {m : List (BNm × VT)},normL m ys = some zs → zs.map viK = ys.map viK
  | [],zs,m,h=>by cases h; rfl
  | y :: ys,zs,m,h=>by
    rw [normL] at h
    split at h
    · obtain ⟨x,hx,rfl⟩:=Option.map_eq_some_iff.1 h
      simp [normL_keys hx,viK_sub]
    · cases h
theorem keys_getD {ys zs : List VI} (h : zs.map viK = ys.map viK) {i : Nat} (hi : i < zs.length) : viK (zs.getD i vi0) = viK (ys.getD i vi0):=by
  have hl : zs.length = ys.length:=by simpa using congrArg List.length h
  have:=congrArg (fun l=>l[i]?) h
  simpa [List.getD,hi,hl ▸ hi] using this
theorem findO_one {s : List SigI} {zs : List VI} (h : RdN s (some zs)) {q : Ky} {o o' : Option VT} (h1 : FindO zs q o) (h2 : FindO zs q o') : o = o':=by
  obtain ⟨ys,_,hr,ho,hn⟩:=h
  have hk:=normL_keys hn
  have hl:=normL_len hn
  cases o with
  | none =>
    cases o' with
    | none=>rfl
    | some v=>obtain ⟨i,hi,hq,_⟩:=h2; exact absurd hq (h1 i hi)
  | some v =>
    obtain ⟨i,hi,hq,hv⟩:=h1
    cases o' with
    | none=>exact absurd hq (h2 i hi)
    | some w =>
      obtain ⟨j,hj,hq2,hw⟩:=h2
      have e : i = j:=ordB_inj ho (by omega) (by omega) (by rw [← keys_getD hk hi,← keys_getD hk hj,hq,hq2])
      rw [← hv,← hw,e]
theorem meanIs_one {s : List SigI} {q : Ky} {o o' : Option VT} (h : MeanIs s q o) (h' : MeanIs s q o') : o = o':=by
  rcases h with ⟨zs,hr,hf⟩ | ⟨hr,rfl⟩
  · rcases h' with ⟨zs',hr',hf'⟩ | ⟨hr',rfl⟩
    · rw [← rdN_one hr hr'] at hf'
      exact findO_one hr hf hf'
    · exact absurd hr' (rdN_not hr)
  · rcases h' with ⟨zs',hr',hf'⟩ | ⟨hr',rfl⟩
    · exact absurd hr (rdN_not hr')
    · rfl
end Go.Proofs.YtejbjgmgdbcddaaGreatDoor
/- The model's normal signatures. -/
set_option linter.unusedVariables false
set_option linter.unusedSimpArgs false
namespace Go.Proofs.YtejbjgmgdbcddaaGreatDoor
open Go.Abs
def nxtL (ys : List VI) : List (BNm × VT):=ys.foldl nxtM []
def fitL (ys : List VI) : Prop:=∀ i,i < ys.length → fitI (subI (nxtL (ys.take i)) (ys.getD i vi0)) = true
theorem nxtL_snoc (ys : List VI) {i : Nat} (h : i < ys.length) : nxtL (ys.take (i + 1)) = nxtM (nxtL (ys.take i)) (ys.getD i vi0):=by
  rw [nxtL,List.take_add_one,List.foldl_append]
  simp [List.getD,h,nxtL]
theorem nxtL_ok (ys : List VI) (hy : ∀ i,i < ys.length → VOk (meanI (ys.getD i vi0))) (hf : fitL ys) : ∀ i,i ≤ ys.length → ∀ x ∈ nxtL (ys.take i),VOk x.2
  | 0,_=>by simp [nxtL]
  | i + 1,h=>by
    rw [nxtL_snoc ys (by omega)]
    have ih:=nxtL_ok ys hy hf i (by omega)
    have h1:=hy i (by omega)
    have h2:=hf i (by omega)
    cases hq : ys.getD i vi0 with
    | ab n =>
      rw [hq] at h1
      simp only [nxtM,List.mem_append,List.mem_singleton]
      rintro x (hx | rfl)
      · exact ih x hx
      · exact h1
    | al n v =>
      rw [hq] at h1 h2
      simp only [nxtM,List.mem_append,List.mem_singleton]
      rintro x (hx | rfl)
      · exact ih x hx
      · simp only [fitI,subI,meanI,Bool.and_eq_true] at h2
        exact ⟨(sub_ok _ ih v h1.ok).1,of_decide_eq_true h2.1,of_decide_eq_true h2.2⟩
    | va n v=>exact ih
end Go.Proofs.YtejbjgmgdbcddaaGreatDoor
/- The normal signature as data. -/
set_option linter.unusedVariables false
set_option linter.unusedSimpArgs false
namespace Go.Proofs.YtejbjgmgdbcddaaGreatDoor
open Go.Abs
theorem allV_sub {p : Nm → Bool} {m : List (BNm × VT)} (hm : ∀ x ∈ m,allV p x.2 = true) : ∀ {v : VT},allV p v = true → allV p (subV m v) = true
  | .num,_=>rfl
  | .nm a b,h=>by
    rw [subV]
    cases hl : lookB (a,b) m with
    | none=>exact h
    | some w =>
      obtain ⟨q,hq⟩ : ∃ q,(q,w) ∈ m:=by
        clear h hm
        induction m with
        | nil=>cases hl
        | cons x m ih =>
          obtain ⟨q,v⟩:=x
          rw [lookB] at hl
          split at hl
          · cases hl; exact ⟨q,by simp⟩
          · obtain ⟨q',h'⟩:=ih hl; exact ⟨q',by simp [h']⟩
      exact hm _ hq
  | .fn a b,h=>by
    simp only [allV,Bool.and_eq_true] at h
    simp only [subV,allV,Bool.and_eq_true]
    exact ⟨allV_sub hm h.1,allV_sub hm h.2⟩
theorem allV_mono {p q : Nm → Bool} (h : ∀ x,p x = true → q x = true) : ∀ {v : VT},allV p v = true → allV q v = true
  | .num,_=>rfl
  | .nm a b,h'=>h _ h'
  | .fn a b,h'=>by
    simp only [allV,Bool.and_eq_true] at h' ⊢
    exact ⟨allV_mono h h'.1,allV_mono h h'.2⟩
def zsN (ys : List VI) (i : Nat) : List VI:=(List.range i).map fun k=>subI (nxtL (ys.take k)) (ys.getD k vi0)
theorem zsN_length (ys : List VI) (i : Nat) : (zsN ys i).length = i:=by simp [zsN]
theorem zsN_succ (ys : List VI) (i : Nat) : zsN ys (i + 1) = zsN ys i ++ [subI (nxtL (ys.take i)) (ys.getD i vi0)]:=by simp [zsN,List.range_succ]
theorem zsN_getD (ys : List VI) {i k : Nat} (h : k < i) : (zsN ys i).getD k vi0 = subI (nxtL (ys.take k)) (ys.getD k vi0):=by
  simp [zsN,List.getD,h]
theorem normL_from (ys : List VI) : ∀ n i,n = ys.length - i → i ≤ ys.length → (∀ k,k < i → fitI (subI (nxtL (ys.take k)) (ys.getD k vi0)) = true) → normL [] ys = (normL (nxtL (ys.take i)) (ys.drop i)).map (zsN ys i ++ ·)
  | _,0,_,_,_=>by simp [zsN,nxtL]
  | n,i + 1,hn,hi,hk=>by
    rw [normL_from ys (n + 1) i (by omega) (by omega) fun k h=>hk k (by omega),vi_drop (show i < ys.length by omega),normL,if_pos (hk i (by omega)),nxtL_snoc ys (by omega),zsN_succ,Option.map_map]
    congr 1
    funext x
    simp
theorem normL_yes {ys : List VI} (hf : fitL ys) : normL [] ys = some (zsN ys ys.length):=by
  rw [normL_from ys 0 ys.length (by omega) (Nat.le_refl _) hf,List.drop_length,normL]
  simp
theorem normL_no {ys : List VI} {i : Nat} (hi : i < ys.length) (hf : ∀ k,k < i → fitI (subI (nxtL (ys.take k)) (ys.getD k vi0)) = true) (h : fitI (subI (nxtL (ys.take i)) (ys.getD i vi0)) = false) : normL [] ys = none:=by
  rw [normL_from ys _ i rfl (by omega) hf,vi_drop hi,normL,if_neg (by rw [h]; simp)]
  rfl
theorem normL_fit {ys zs : List VI} (h : normL [] ys = some zs) : fitL ys ∧ zs = zsN ys ys.length:=by
  have hf : fitL ys:=by
    intro i hi
    cases hc : fitI (subI (nxtL (ys.take i)) (ys.getD i vi0)) with
    | true=>rfl
    | false =>
      exfalso
      obtain ⟨j,hj,hmin⟩ : ∃ j,(j ≤ i ∧ fitI (subI (nxtL (ys.take j)) (ys.getD j vi0)) = false) ∧ ∀ k,k < j → fitI (subI (nxtL (ys.take k)) (ys.getD k vi0)) = true:=by
        clear h
        induction i using Nat.strongRecOn with
        | _ i ih =>
          by_cases hx : ∀ k,k < i → fitI (subI (nxtL (ys.take k)) (ys.getD k vi0)) = true
          · exact ⟨i,⟨Nat.le_refl _,hc⟩,hx⟩
          · simp only [Classical.not_forall] at hx
            obtain ⟨k,hk,hk2⟩:=hx
            obtain ⟨j,h1,h2⟩:=ih k hk (by omega) (by simpa using hk2)
            exact ⟨j,⟨by omega,h1.2⟩,h2⟩
      rw [normL_no (by omega) hmin hj.2] at h
      cases h
  exact ⟨hf,by rw [normL_yes hf] at h; exact (Option.some.inj h).symm⟩
theorem nxtL_all (ys : List VI) (ho : ordB ys = true) : ∀ i,i ≤ ys.length → ∀ x ∈ nxtL (ys.take i),allV (okN ((ys.take i).map viK)) x.2 = true
  | 0,_=>by simp [nxtL]
  | i + 1,h=>by
    have ih:=nxtL_all ys ho i (by omega)
    have hs : stepB (ys.take i) (ys.getD i vi0) = true:=by
      unfold ordB at ho
      rw [List.all_eq_true] at ho
      exact ho i (List.mem_range.mpr h)
    simp only [stepB,Bool.and_eq_true] at hs
    have hmono : ∀ x,okN ((ys.take i).map viK) x = true → okN ((ys.take (i + 1)).map viK) x = true:=fun x hx=>by
      rw [keys_take h]
      simp only [okN,Bool.or_eq_true,decide_eq_true_eq,List.mem_append] at hx ⊢
      rcases hx with hx | hx
      · exact .inl hx
      · exact .inr (.inl hx)
    rw [nxtL_snoc ys (by omega)]
    cases hy : ys.getD i vi0 with
    | ab n =>
      simp only [nxtM,List.mem_append,List.mem_singleton]
      rintro x (hx | rfl)
      · exact allV_mono hmono (ih x hx)
      · simp only [allV]
        rw [keys_take h,hy]
        simp [okN,viK]
    | al n v =>
      rw [hy] at hs
      simp only [allI] at hs
      simp only [nxtM,List.mem_append,List.mem_singleton]
      rintro x (hx | rfl)
      · exact allV_mono hmono (ih x hx)
      · exact allV_mono hmono (allV_sub ih hs.1)
    | va n v =>
      simp only [nxtM]
      exact fun x hx=>allV_mono hmono (ih x hx)
theorem zsN_keys (ys : List VI) : ∀ i,i ≤ ys.length → (zsN ys i).map viK = (ys.take i).map viK
  | 0,_=>by simp [zsN]
  | i + 1,h=>by rw [zsN_succ,List.map_append,zsN_keys ys i (by omega),keys_take h]; simp [viK_sub]
theorem ordB_norm {ys : List VI} (ho : ordB ys = true) : ordB (zsN ys ys.length) = true:=by
  have hz:=zsN_length ys ys.length
  have ho':=ho
  unfold ordB at ho' ⊢
  rw [List.all_eq_true] at ho' ⊢
  intro i hi
  rw [List.mem_range,hz] at hi
  have hs:=ho' i (List.mem_range.mpr hi)
  have e : (zsN ys ys.length).take i = zsN ys i:=by
    simp only [zsN,← List.map_take]
    congr 1
    rw [List.take_range,Nat.min_eq_left (by omega)]
  rw [e,zsN_getD ys hi]
  simp only [stepB,Bool.and_eq_true,viK_sub,zsN_keys ys i (by omega)] at hs ⊢
  refine ⟨?_,hs.2⟩
  have hall:=nxtL_all ys ho i (by omega)
  generalize nxtL (ys.take i) = m at *
  generalize ys.getD i vi0 = y at *
  cases y with
  | ab n=>rfl
  | al n v=>exact allV_sub hall hs.1
  | va n v=>exact allV_sub hall hs.1
theorem zsN_ok {ys : List VI} (hy : ∀ i,i < ys.length → VOk (meanI (ys.getD i vi0))) (hf : fitL ys) {i : Nat} (hi : i < ys.length) : VOk (meanI (subI (nxtL (ys.take i)) (ys.getD i vi0))):=by
  have h1:=nxtL_ok ys hy hf i (by omega)
  have h2:=mean_sub h1 (hy i hi)
  have h3:=hf i hi
  simp only [fitI,Bool.and_eq_true,decide_eq_true_eq] at h3
  exact ⟨h2.1,h3.1,h3.2⟩
end Go.Proofs.YtejbjgmgdbcddaaGreatDoor
/- The model's NormalSig. -/
set_option linter.unusedVariables false
set_option linter.unusedSimpArgs false
namespace Go.Proofs.YtejbjgmgdbcddaaGreatDoor
open Go.Abs
theorem rdN_bad {s : List SigI} (h : sigB s = false) : RdN s none:=by
  by_cases h8 : 8 < s.length
  · exact .inl (.inl h8)
  · rcases reads_or s with hb | ⟨ys,hr⟩
    · exact .inl (.inr hb)
    · exact .inr ⟨ys,by omega,hr,.inl (by rw [← sigB_reads (by omega) hr]; exact h)⟩
end Go.Proofs.YtejbjgmgdbcddaaGreatDoor
/- Marks that the laws write into what is owned. -/
set_option linter.unusedVariables false
set_option linter.unusedSimpArgs false
namespace Go.Proofs.YtejbjgmgdbcddaaGreatDoor
open Go.Abs
theorem OwnR.append {A : List Box} : ∀ {k1 k2 : List Ty} {r1 r2 : List (List AV)} {S1 S2 : List Nat},OwnR A k1 r1 S1 → OwnR A k2 r2 S2 → OwnR A (k1 ++ k2) (r1 ++ r2) (S1 ++ S2)
  | [],k2,r1,r2,S1,S2,h1,h2=>by
    rw [OwnR] at h1
    rw [h1.1,h1.2]; exact h2
  | t :: k1,k2,r1,r2,S1,S2,h1,h2=>by
    rw [OwnR] at h1
    obtain ⟨r,r',T1,T2,rfl,rfl,h3,h4⟩:=h1
    rw [List.cons_append,OwnR]
    exact ⟨r,r' ++ r2,T1,T2 ++ S2,by simp,by simp,h3,OwnR.append h4 h2⟩
theorem borrow0 {P : Program} {f : FuncId} {args args' : List AV} {A : List Box} {x : AV} (hv : Views A args args') (hx : ifree x = true) (h : ∀ A,ACalls P f args' A (fun v A'=>v = x ∧ A' = A)) : ACalls P f args A (fun v A'=>v = x ∧ A' = A) :=
  ACalls.borrow hv ((h _).mono fun v A' ⟨h1,h2⟩=>⟨[],by rw [h2,List.append_nil],by rw [h1]; exact hx,by simp,h1,by simp⟩)
end Go.Proofs.YtejbjgmgdbcddaaGreatDoor
/- A law's argument, a type, as memory of its own. -/
set_option linter.unusedVariables false
set_option linter.unusedSimpArgs false
namespace Go.Proofs.YtejbjgmgdbcddaaGreatDoor
open Go.Abs
theorem getD_repl {α : Type} {n i : Nat} {x d : α} (h : i < n) : (List.replicate n x).getD i d = x:=by simp [List.getD,h]
end Go.Proofs.YtejbjgmgdbcddaaGreatDoor
/- What is owned holds no place of other memory. -/
set_option linter.unusedVariables false
set_option linter.unusedSimpArgs false
namespace Go.Proofs.YtejbjgmgdbcddaaGreatDoor
open Go.Abs
mutual
theorem OwnT.free {A : List Box} : ∀ {t : Ty} {r : List AV} {S : List Nat},OwnT A t r S → ifrees r = true ∧ ∀ i ∈ S,ifreeB (A.getD i .dead) = true
  | .mk k m n ks,r,S,h=>by
    rw [OwnT] at h
    obtain ⟨v,rfl,h⟩:=h
    rcases h with ⟨rfl,_,rfl⟩ | ⟨rfl,_,rfl⟩ | ⟨i,rows,S',rfl,rfl,h3,h4⟩
    · exact ⟨by simp [ifrees,ifree],by simp⟩
    · exact ⟨by simp [ifrees,ifree],by simp⟩
    · refine ⟨by simp [ifrees,ifree],fun j hj=>?_⟩
      have h5:=OwnR.free h4
      rcases List.mem_cons.1 hj with rfl | hj
      · rw [h3]; exact h5.1
      · exact h5.2 j hj
theorem OwnR.free {A : List Box} : ∀ {ks : List Ty} {rows : List (List AV)} {S : List Nat},OwnR A ks rows S → rows.all ifrees = true ∧ ∀ i ∈ S,ifreeB (A.getD i .dead) = true
  | [],rows,S,h=>by rw [OwnR] at h; rw [h.1,h.2]; exact ⟨rfl,by simp⟩
  | t :: ks,rows,S,h=>by
    rw [OwnR] at h
    obtain ⟨r,rows',S1,S2,rfl,rfl,h3,h4⟩:=h
    have a:=OwnT.free h3
    have b:=OwnR.free h4
    refine ⟨by rw [List.all_cons,a.1,b.1]; rfl,fun j hj=>?_⟩
    rcases List.mem_append.1 hj with hj | hj
    · exact a.2 j hj
    · exact b.2 j hj
end
end Go.Proofs.YtejbjgmgdbcddaaGreatDoor
/- Lists of bindings as memory of their own. -/
set_option linter.unusedVariables false
set_option linter.unusedSimpArgs false
namespace Go.Proofs.YtejbjgmgdbcddaaGreatDoor
open Go.Abs
def bRow (b : BdI) (v : AV) : List AV:=[.str b.mod,.str b.name,.int .i64 b.typ.kind,.str b.typ.mod,.str b.typ.name,v]
def OwnB (A : List Box) : List BdI → List (List AV) → List Nat → Prop
  | [],rows,S=>rows = [] ∧ S = []
  | b :: bs,rows,S=>∃ v rows' S1 S2,rows = bRow b v :: rows' ∧ S = S1 ++ S2 ∧ OwnK A b.typ.kids v S1 ∧ OwnB A bs rows' S2
theorem OwnB.frame {A A' : List Box} : ∀ {bs : List BdI} {rows : List (List AV)} {S : List Nat},OwnB A bs rows S → (∀ i ∈ S,A'.getD i .dead = A.getD i .dead) → OwnB A' bs rows S
  | [],rows,S,h,hf=>h
  | b :: bs,rows,S,h,hf=>by
    rw [OwnB] at h ⊢
    obtain ⟨v,rows',S1,S2,h1,rfl,h3,h4⟩:=h
    exact ⟨v,rows',S1,S2,h1,rfl,h3.frame fun j hj=>hf j (by simp [hj]),OwnB.frame h4 fun j hj=>hf j (by simp [hj])⟩
theorem OwnB.length {A : List Box} : ∀ {bs : List BdI} {rows : List (List AV)} {S : List Nat},OwnB A bs rows S → rows.length = bs.length
  | [],rows,S,h=>by rw [OwnB] at h; rw [h.1]; rfl
  | b :: bs,rows,S,h=>by
    rw [OwnB] at h
    obtain ⟨v,rows',S1,S2,rfl,h2,h3,h4⟩:=h
    simp [OwnB.length h4]
theorem OwnB.low {A : List Box} : ∀ {bs : List BdI} {rows : List (List AV)} {S : List Nat},OwnB A bs rows S → ∀ i ∈ S,i < A.length
  | [],rows,S,h=>by rw [OwnB] at h; rw [h.2]; simp
  | b :: bs,rows,S,h=>by
    rw [OwnB] at h
    obtain ⟨v,rows',S1,S2,h1,rfl,h3,h4⟩:=h
    intro j hj
    rcases List.mem_append.1 hj with hj | hj
    · exact h3.low j hj
    · exact OwnB.low h4 j hj
theorem OwnB.append {A : List Box} : ∀ {k1 k2 : List BdI} {r1 r2 : List (List AV)} {S1 S2 : List Nat},OwnB A k1 r1 S1 → OwnB A k2 r2 S2 → OwnB A (k1 ++ k2) (r1 ++ r2) (S1 ++ S2)
  | [],k2,r1,r2,S1,S2,h1,h2=>by
    rw [OwnB] at h1
    rw [h1.1,h1.2]; exact h2
  | t :: k1,k2,r1,r2,S1,S2,h1,h2=>by
    rw [OwnB] at h1
    obtain ⟨v,r',T1,T2,rfl,rfl,h3,h4⟩:=h1
    rw [List.cons_append,OwnB]
    exact ⟨v,r' ++ r2,T1,T2 ++ S2,by simp,by simp,h3,OwnB.append h4 h2⟩
theorem OwnB.view {A : List Box} : ∀ {bs : List BdI} {rows : List (List AV)} {S : List Nat},OwnB A bs rows S → ∀ k,k < rows.length → ∀ j,j < 6 → View A ((rows.getD k []).getD j .bot) ((bE (bs.getD k bd0)).getD j .bot)
  | [],rows,S,h=>by rw [OwnB] at h; rw [h.1]; intro k hk; simp at hk
  | b :: bs,rows,S,h=>by
    rw [OwnB] at h
    obtain ⟨v,rows',S1,S2,rfl,h2,h3,h4⟩:=h
    intro k hk j hj
    cases k with
    | zero =>
      have hv:=h3.view
      match j,hj with
      | 0,_=>exact .leaf _ rfl
      | 1,_=>exact .leaf _ rfl
      | 2,_=>exact .leaf _ rfl
      | 3,_=>exact .leaf _ rfl
      | 4,_=>exact .leaf _ rfl
      | 5,_=>exact hv
    | succ k =>
      have:=OwnB.view h4 k (by simpa using hk) j hj
      simpa using this
end Go.Proofs.YtejbjgmgdbcddaaGreatDoor
/- What SubstType hands back, all other new memory forgotten; the same for a call with borrowed arguments. -/
set_option linter.unusedVariables false
set_option linter.unusedSimpArgs false
namespace Go.Proofs.YtejbjgmgdbcddaaGreatDoor
open Go.Abs
def SubNew (A : List Box) (o : Option VT) (r : AV) (A' : List Box) : Prop :=
  ∃ B cs S,A' = A ++ B ∧ (∀ b ∈ B,ifreeB b = true) ∧ r = .tuple [.agg cs,.bool o.isSome] ∧ ifrees cs = true ∧ OwnT A' (oTyS o) cs S ∧ S.Nodup ∧ ∀ i ∈ S,A.length ≤ i ∧ i < A'.length
theorem subNew_mk {A A' : List Box} {o : Option VT} {cs : List AV} {S : List Nat} (hT : OwnT A' (oTyS o) cs S) (hN : S.Nodup) (hge : ∀ i ∈ S,A.length ≤ i) (hl : A.length ≤ A'.length) (hf : ∀ i,i < A.length → A'.getD i .dead = A.getD i .dead) :
    ∃ keep,SubNew A o (.tuple [.agg cs,.bool o.isSome]) (only keep A'):=by
  refine ⟨fun k=>decide (k < A.length) || decide (k ∈ S),?_⟩
  have hfree:=hT.free
  have hlow:=hT.low
  generalize hkp : (fun k=>decide (k < A.length) || decide (k ∈ S)) = keep
  have k1 : ∀ k,k < A.length → keep k = true:=fun k hk=>by rw [← hkp]; simp [hk]
  have k2 : ∀ k,k ∈ S → keep k = true:=fun k hk=>by rw [← hkp]; simp [hk]
  have k3 : ∀ k,A.length ≤ k → keep k = true → k ∈ S:=fun k h1 h2=>by
    rw [← hkp] at h2
    simp at h2
    rcases h2 with h2 | h2
    · omega
    · exact h2
  have e:=split_front (A:=A) (A':=only keep A') (by rw [only_length]; exact hl) (fun k hk=>by rw [only_getD,if_pos (k1 k hk)]; exact hf k hk)
  refine ⟨_,cs,S,e,fun b hb=>?_,rfl,hfree.1,hT.frame fun i hi=>by rw [only_getD,if_pos (k2 i hi)],hN,fun i hi=>⟨hge i hi,by rw [only_length]; exact hlow i hi⟩⟩
  obtain ⟨i,hi,rfl⟩:=List.mem_iff_getElem.1 hb
  rw [List.getElem_drop]
  have hi2 : A.length + i < (only keep A').length:=by simp at hi; omega
  have e2 : (only keep A')[A.length + i] = (only keep A').getD (A.length + i) .dead:=by simp [List.getD,hi2]
  rw [e2,only_getD]
  split
  · rename_i hk; exact hfree.2 _ (k3 _ (by omega) hk)
  · rfl
theorem subNew_of {A A' : List Box} {o : Option VT} {r : AV} (h : SubOut A o r A') : ∃ keep,SubNew A o r (only keep A'):=by
  cases o with
  | none =>
    obtain ⟨rfl,h2,h3⟩:=h
    exact subNew_mk (o:=none) (S:=[]) (by rw [oTyS,ty0,ownT_mk]; exact ⟨_,rfl,.inl ⟨rfl,rfl,rfl⟩⟩) (by simp) (by simp) h2 h3
  | some v =>
    obtain ⟨cs,S,rfl,h1,h2,h3,h4,h5⟩:=h
    exact subNew_mk (o:=some v) h1 h2 h3 h4 h5
theorem new_call {f : FuncId} {args : List AV} {o : Option VT} (h : ∀ A,ACalls Tryz.prog f args A (fun r A'=>SubOut A o r A')) (A : List Box) : ACalls Tryz.prog f args A (SubNew A o) :=
  ACalls.only ((h A).mono fun r A' h=>subNew_of h)
theorem new_view {f : FuncId} {args args' : List AV} {o : Option VT} (h : ∀ A,ACalls Tryz.prog f args' A (SubNew A o)) {A : List Box} (hv : Views A args args') : ACalls Tryz.prog f args A (SubNew A o):=by
  refine ACalls.borrow hv ((h _).mono ?_)
  rintro r A' ⟨B,cs,S,rfl,h1,rfl,h3,h4,h5,h6⟩
  refine ⟨B,rfl,by simp [ifree,ifrees,h3],h1,B,cs,S,rfl,h1,rfl,h3,h4.frame fun i hi=>?_,h5,fun i hi=>?_⟩
  · have:=(h6 i hi).1
    rw [deads_length] at this
    rw [Abs.getD_append_right this,Abs.getD_append_right (by rw [deads_length]; exact this),deads_length]
  · have:=h6 i hi
    simp only [List.length_append,deads_length] at this ⊢
    exact this
end Go.Proofs.YtejbjgmgdbcddaaGreatDoor
/- The model's FindType and FindVal. -/
set_option linter.unusedVariables false
set_option linter.unusedSimpArgs false
namespace Go.Proofs.YtejbjgmgdbcddaaGreatDoor
open Go.Abs
theorem rdN_ex (s : List SigI) : ∃ o,RdN s o:=by
  cases hb : sigB s with
  | false=>exact ⟨none,rdN_bad hb⟩
  | true =>
    obtain ⟨ys,h8,hr,hord⟩:=sigB_yes hb
    cases hn : normL [] ys with
    | none=>exact ⟨none,.inr ⟨ys,h8,hr,.inr hn⟩⟩
    | some zs=>exact ⟨some zs,ys,h8,hr,hord,hn⟩
theorem findO_ex (zs : List VI) (q : Ky) : ∃ o,FindO zs q o:=by
  by_cases h : ∃ i,i < zs.length ∧ viK (zs.getD i vi0) = q
  · obtain ⟨i,h1,h2⟩:=h
    exact ⟨some (meanI (zs.getD i vi0)),i,h1,h2,rfl⟩
  · exact ⟨none,fun i hi hq=>h ⟨i,hi,hq⟩⟩
theorem meanIs_ex (s : List SigI) (q : Ky) : ∃ o,MeanIs s q o:=by
  obtain ⟨o,ho⟩:=rdN_ex s
  cases o with
  | none=>exact ⟨none,.inr ⟨ho,rfl⟩⟩
  | some zs =>
    obtain ⟨o,h⟩:=findO_ex zs q
    exact ⟨o,.inl ⟨zs,ho,h⟩⟩
theorem rdN_vok {s : List SigI} {zs : List VI} (h : RdN s (some zs)) : zs.length ≤ 8 ∧ ∀ i,i < zs.length → VOk (meanI (zs.getD i vi0)):=by
  obtain ⟨ys,h8,hr,hord,hn⟩:=h
  obtain ⟨hf,rfl⟩:=normL_fit hn
  have hy : ∀ i,i < ys.length → VOk (meanI (ys.getD i vi0)):=fun k hk=>by
    have:=hr.2 k (by rw [← hr.1]; exact hk)
    exact mean_ok this.1 this.2
  refine ⟨by rw [zsN_length,hr.1]; exact h8,fun i hi=>?_⟩
  rw [zsN_length] at hi
  rw [zsN_getD ys hi]
  exact zsN_ok hy hf hi
end Go.Proofs.YtejbjgmgdbcddaaGreatDoor
/- A normal form is only one. -/
set_option linter.unusedVariables false
set_option linter.unusedSimpArgs false
namespace Go.Proofs.YtejbjgmgdbcddaaGreatDoor
open Go.Abs
theorem rdN_oo {s : List SigI} {o o' : Option (List VI)} (h : RdN s o) (h' : RdN s o') : o = o':=by
  cases o with
  | none =>
    cases o' with
    | none=>rfl
    | some zs=>exact absurd h (rdN_not h')
  | some zs =>
    cases o' with
    | none=>exact absurd h' (rdN_not h)
    | some zs'=>rw [rdN_one h h']
end Go.Proofs.YtejbjgmgdbcddaaGreatDoor
/- What abstract types stand for in another signature, as data; both signatures read by the program. -/
set_option linter.unusedVariables false
set_option linter.unusedSimpArgs false
namespace Go.Proofs.YtejbjgmgdbcddaaGreatDoor
open Go.Abs
def findF : List VI → Ky → Option VT
  | [],_=>none
  | y :: ys,q=>if viK y = q then some (meanI y) else findF ys q
theorem findF_some {ys : List VI} {q : Ky} {v : VT} (h : findF ys q = some v) : ∃ i,i < ys.length ∧ viK (ys.getD i vi0) = q ∧ meanI (ys.getD i vi0) = v:=by
  induction ys with
  | nil=>cases h
  | cons y ys ih =>
    rw [findF] at h
    split at h
    · rename_i hk
      cases h
      exact ⟨0,by simp,hk,rfl⟩
    · obtain ⟨i,h1,h2,h3⟩:=ih h
      exact ⟨i + 1,by simpa using h1,by simpa using h2,by simpa using h3⟩
theorem findF_none {ys : List VI} {q : Ky} (h : findF ys q = none) : ∀ i,i < ys.length → viK (ys.getD i vi0) ≠ q:=by
  induction ys with
  | nil=>intro i hi; simp at hi
  | cons y ys ih =>
    rw [findF] at h
    split at h
    · cases h
    · rename_i hk
      intro i hi
      cases i with
      | zero=>exact hk
      | succ i=>simpa using ih h i (by simpa using hi)
theorem findF_is (ys : List VI) (q : Ky) : FindO ys q (findF ys q):=by
  cases h : findF ys q with
  | none=>exact findF_none h
  | some v=>exact findF_some h
open Classical in
noncomputable def visC (hs : List VI) (m : List (BNm × VT)) (y : VI) : Int :=
  match findF hs (viK y) with
  | none=>1
  | some f=>match y with
    | .ab _=>0
    | .al _ v=>if subV m v = f then 0 else if fitI (.al [] (subV m v)) = true then 2 else 4
    | .va _ v=>if subV m v = f then 0 else if fitI (.al [] (subV m v)) = true then 3 else 4
def visS (hs : List VI) (m : List (BNm × VT)) (y : VI) : List (BNm × VT) :=
  match findF hs (viK y),y with
  | some f,.ab n=>m ++ [(([],n),f)]
  | _,_=>m
noncomputable def offC (hs : List VI) : List (BNm × VT) → List VI → Nat → Option (Nat × Ky × Int)
  | _,[],_=>none
  | m,y :: ys,i=>if visC hs m y = 0 then offC hs (visS hs m y) ys (i + 1) else some (i,viK y,visC hs m y)
theorem visC_range (hs : List VI) (m : List (BNm × VT)) (y : VI) : 0 ≤ visC hs m y ∧ visC hs m y ≤ 4:=by
  unfold visC
  cases findF hs (viK y) with
  | none=>simp
  | some f =>
    cases y with
    | ab n=>simp
    | al n v=>simp only; split <;> (try split) <;> simp
    | va n v=>simp only; split <;> (try split) <;> simp
def knownB (hs : List VI) : List VI → List (BNm × VT)
  | []=>[]
  | .ab n :: ys=>match findF hs (false,n) with
    | some f=>(([],n),f) :: knownB hs ys
    | none=>knownB hs ys
  | .al _ _ :: ys=>knownB hs ys
  | .va _ _ :: ys=>knownB hs ys
theorem knownB_app (hs : List VI) : ∀ a b : List VI,knownB hs (a ++ b) = knownB hs a ++ knownB hs b
  | [],b=>rfl
  | .ab n :: a,b=>by
    simp only [List.cons_append,knownB]
    cases findF hs (false,n) <;> simp [knownB_app hs a b]
  | .al _ _ :: a,b=>by simp only [List.cons_append,knownB]; exact knownB_app hs a b
  | .va _ _ :: a,b=>by simp only [List.cons_append,knownB]; exact knownB_app hs a b
theorem knownB_visS (hs : List VI) (a : List VI) (y : VI) : knownB hs (a ++ [y]) = visS hs (knownB hs a) y:=by
  rw [knownB_app]
  unfold visS
  cases y with
  | ab n =>
    simp only [knownB,viK]
    cases findF hs (false,n) <;> simp
  | al n v=>simp [knownB]
  | va n v=>simp [knownB]
theorem knownB_names (hs : List VI) : ∀ (a : List VI),∀ x ∈ knownB hs a,x.1.1 = [] ∧ (false,x.1.2) ∈ a.map viK
  | [],x,h=>by simp [knownB] at h
  | .ab n :: a,x,h=>by
    simp only [knownB] at h
    cases hf : findF hs (false,n) with
    | none =>
      rw [hf] at h
      have:=knownB_names hs a x h
      exact ⟨this.1,by simp [this.2]⟩
    | some f =>
      rw [hf] at h
      rcases List.mem_cons.1 h with rfl | h
      · exact ⟨rfl,by simp [viK]⟩
      · have:=knownB_names hs a x h
        exact ⟨this.1,by simp [this.2]⟩
  | .al _ _ :: a,x,h=>by
    have:=knownB_names hs a x (by simpa [knownB] using h)
    exact ⟨this.1,by simp [this.2]⟩
  | .va _ _ :: a,x,h=>by
    have:=knownB_names hs a x (by simpa [knownB] using h)
    exact ⟨this.1,by simp [this.2]⟩
theorem knownB_ok {hs : List VI} (hh : ∀ i,i < hs.length → VOk (meanI (hs.getD i vi0))) : ∀ (a : List VI),∀ x ∈ knownB hs a,VOk x.2
  | [],x,h=>by simp [knownB] at h
  | .ab n :: a,x,h=>by
    simp only [knownB] at h
    cases hf : findF hs (false,n) with
    | none=>rw [hf] at h; exact knownB_ok hh a x h
    | some f =>
      rw [hf] at h
      rcases List.mem_cons.1 h with rfl | h
      · obtain ⟨i,hi,_,h2⟩:=findF_some hf
        rw [← h2]; exact hh i hi
      · exact knownB_ok hh a x h
  | .al _ _ :: a,x,h=>knownB_ok hh a x (by simpa [knownB] using h)
  | .va _ _ :: a,x,h=>knownB_ok hh a x (by simpa [knownB] using h)
theorem lookB_app (q : BNm) : ∀ a b : List (BNm × VT),lookB q (a ++ b) = (lookB q a).orElse fun _=>lookB q b
  | [],b=>by simp [lookB]
  | (p,v) :: a,b=>by
    simp only [List.cons_append,lookB]
    split
    · rfl
    · exact lookB_app q a b
theorem lookB_none {q : BNm} {a : List (BNm × VT)} (h : ∀ x ∈ a,x.1 ≠ q) : lookB q a = none:=by
  rcases Classical.em (lookB q a = none) with h' | h'
  · exact h'
  · obtain ⟨x,hx,hq⟩:=look_mem h'
    exact absurd hq (h x hx)
theorem subV_more {a b : List (BNm × VT)} {ks : List Ky} (hb : ∀ x ∈ b,x.1.1 = [] ∧ (false,x.1.2) ∉ ks) : ∀ {v : VT},allV (okN ks) v = true → subV (a ++ b) v = subV a v
  | .num,_=>rfl
  | .nm m n,h=>by
    rw [subV,subV,lookB_app]
    cases lookB (m,n) a with
    | some v=>rfl
    | none =>
      have : lookB (m,n) b = none:=lookB_none fun x hx e=>by
        have h1:=hb x hx
        rw [e] at h1
        obtain ⟨h2,h3⟩:=h1
        have h2 : m = []:=h2
        subst h2
        simp only [allV,okN,decide_true,Bool.not_true,Bool.false_or,decide_eq_true_eq] at h
        exact h3 h
      rw [this]; rfl
  | .fn x y,h=>by
    simp only [allV,Bool.and_eq_true] at h
    simp only [subV,subV_more hb h.1,subV_more hb h.2]
theorem visC_all {hs ws : List VI} (ho : ordB ws = true) {i : Nat} (hi : i < ws.length) : visC hs (knownB hs ws) (ws.getD i vi0) = visC hs (knownB hs (ws.take i)) (ws.getD i vi0):=by
  have hs' : stepB (ws.take i) (ws.getD i vi0) = true:=by
    have ho':=ho
    unfold ordB at ho'
    rw [List.all_eq_true] at ho'
    exact ho' i (List.mem_range.mpr hi)
  simp only [stepB,Bool.and_eq_true] at hs'
  have hsplit : knownB hs ws = knownB hs (ws.take i) ++ knownB hs (ws.drop i):=by rw [← knownB_app,List.take_append_drop]
  have hnew : ∀ x ∈ knownB hs (ws.drop i),x.1.1 = [] ∧ (false,x.1.2) ∉ (ws.take i).map viK:=fun x hx=>by
    obtain ⟨h1,h2⟩:=knownB_names hs _ x hx
    refine ⟨h1,fun h3=>?_⟩
    obtain ⟨y,hy,hyk⟩:=List.mem_map.1 h2
    obtain ⟨z,hz,hzk⟩:=List.mem_map.1 h3
    obtain ⟨a,ha,rfl⟩:=List.mem_iff_getElem.1 hy
    obtain ⟨b,hb,rfl⟩:=List.mem_iff_getElem.1 hz
    simp only [List.length_drop,List.length_take] at ha hb
    have hne:=ordB_ne ho (i:=b) (j:=i + a) (by omega) (by omega)
    apply hne
    have e1 : ws.getD b vi0 = (ws.take i)[b]:=by simp [List.getD,show b < ws.length by omega]
    have e2 : ws.getD (i + a) vi0 = (ws.drop i)[a]:=by simp [List.getD,show i + a < ws.length by omega]
    rw [e1,e2,hyk,hzk]
  rw [hsplit]
  unfold visC
  cases findF hs (viK (ws.getD i vi0)) with
  | none=>rfl
  | some f =>
    cases hy : ws.getD i vi0 with
    | ab n=>rfl
    | al n v=>rw [hy] at hs'; simp only [allI] at hs'; have e:=subV_more (a:=knownB hs (ws.take i)) hnew hs'.1; dsimp only; rw [e]
    | va n v=>rw [hy] at hs'; simp only [allI] at hs'; have e:=subV_more (a:=knownB hs (ws.take i)) hnew hs'.1; dsimp only; rw [e]
theorem offC_from (hs ws : List VI) : ∀ n i,n = ws.length - i → i ≤ ws.length → (∀ k,k < i → visC hs (knownB hs (ws.take k)) (ws.getD k vi0) = 0) → offC hs [] ws 0 = offC hs (knownB hs (ws.take i)) (ws.drop i) i
  | _,0,_,_,_=>by simp [knownB]
  | n,i + 1,hn,hi,hk=>by
    rw [offC_from hs ws (n + 1) i (by omega) (by omega) fun k h=>hk k (by omega),vi_drop (show i < ws.length by omega),offC,if_pos (hk i (by omega))]
    have : visS hs (knownB hs (ws.take i)) (ws.getD i vi0) = knownB hs (ws.take (i + 1)):=by
      rw [← knownB_visS,List.take_add_one]
      congr 1
      simp [List.getD,show i < ws.length by omega]
    rw [this]
end Go.Proofs.YtejbjgmgdbcddaaGreatDoor
namespace Go.Proofs.YtejbjgmgdbcddaaGreatDoor
open Go.Abs
def absO : VI → Option (List UInt8)
  | .ab n=>some n
  | _=>none
theorem absO_sub (m : List (BNm × VT)) (y : VI) : absO (subI m y) = absO y:=by cases y <;> rfl
theorem absO_zs (ys : List VI) : ∀ i,i ≤ ys.length → (zsN ys i).map absO = (ys.take i).map absO
  | 0,_=>by simp [zsN]
  | i + 1,h=>by
    have e : ys.take (i + 1) = ys.take i ++ [ys.getD i vi0]:=by rw [List.take_add_one]; simp [List.getD,show i < ys.length by omega]
    rw [zsN_succ,List.map_append,absO_zs ys i (by omega),e]; simp [absO_sub]
theorem rdN_no {s : List SigI} {ys : List VI} (h8 : s.length ≤ 8) (hr : ReadsTo s ys) (h : ordB ys = false ∨ normL [] ys = none) : RdN s none:=.inr ⟨ys,h8,hr,h⟩
set_option maxRecDepth 100000 in
theorem impl_readMatch (a b : List SigI) (ha : a.length ≤ 1048576) (hoa : ∀ x ∈ a,x.Ok ∧ sz x.typ ≤ 1048576) (hb : b.length ≤ 1048576) (hob : ∀ x ∈ b,x.Ok ∧ sz x.typ ≤ 1048576) (A : List Box) :
    ACalls Tryz.prog 32 [.slice (sEs a),.slice (sEs b)] A (fun r A'=>∃ B,A' = A ++ B ∧
      ((∃ hs ws j k,RdN a (some hs) ∧ RdN b (some ws) ∧ r = .tuple [.own (A.length + j),.own (A.length + k),.int .i64 0] ∧ j < B.length ∧ k < B.length ∧ B.getD j .dead = .row 1 (vRows hs) 0 ∧ B.getD k .dead = .row 1 (vRows ws) 0) ∨
       (∃ c,((c = 5 ∧ (sigB a = false ∨ sigB b = false)) ∨ (c = 4 ∧ sigB a = true ∧ sigB b = true)) ∧ (RdN a none ∨ RdN b none) ∧ r = .tuple [.nils,.nils,.int .i64 c]))):=by
  refine acalls_enterK (cf:=cf 45 [0,1,4,5,6,7,8,9,10,26,42]) foll Tryz.func32 Tryz.ntmps32 (by simp [cf]) ?_
  simp only [Tryz.f32,EnterK_some,zW,zX,zD,builtinA,isLeaf,const1,ustrA,simprocAttr,ca36,ca48,cf,Tryz.results32]
  refine callO_intro (impl_readSig a ha hoa _) ?_
  rintro r A1 ⟨h1,hA⟩
  have hA:=hA.symm
  subst hA
  rcases h1 with ⟨ys,h8,hr,rfl⟩ | ⟨hbad,rfl⟩
  · simp only [zW,zX,zD,builtinA,isLeaf,const1,ustrA,simprocAttr,ca36,ca48,cf,Tryz.results32]
    refine callO_intro (impl_readSig b hb hob _) ?_
    rintro r A1 ⟨h1,hA⟩
    have hA:=hA.symm
    subst hA
    rcases h1 with ⟨zs,h8',hr',rfl⟩ | ⟨hbad,rfl⟩
    · cases hord : ordB ys with
      | false =>
        have hs : sigB a = false:=by rw [sigB_reads h8 hr]; exact hord
        simp only [zW,zX,zD,builtinA,isLeaf,const1,ustrA,simprocAttr,ca36,ca48,cf,Tryz.results32]
        exact ⟨[],by simp,.inr ⟨5,.inl ⟨rfl,.inl hs⟩,.inl (rdN_bad hs),rfl⟩⟩
      | true =>
        cases hord' : ordB zs with
        | false =>
          have hs : sigB b = false:=by rw [sigB_reads h8' hr']; exact hord'
          simp only [zW,zX,zD,builtinA,isLeaf,const1,ustrA,simprocAttr,ca36,ca48,cf,Tryz.results32]
          exact ⟨[],by simp,.inr ⟨5,.inl ⟨rfl,.inr hs⟩,.inr (rdN_bad hs),rfl⟩⟩
        | true =>
          have hsa : sigB a = true:=by rw [sigB_reads h8 hr]; exact hord
          have hsb : sigB b = true:=by rw [sigB_reads h8' hr']; exact hord'
          have hna:=impl_normal ys (by have:=hr.1; omega) (fun k hk=>by
            have:=hr.2 k (by rw [← hr.1]; exact hk)
            exact mean_ok this.1 this.2) hord
          have hnb:=impl_normal zs (by have:=hr'.1; omega) (fun k hk=>by
            have:=hr'.2 k (by rw [← hr'.1]; exact hk)
            exact mean_ok this.1 this.2) hord'
          simp only [zW,zX,zD,builtinA,isLeaf,const1,ustrA,simprocAttr,ca36,ca48,cf,Tryz.results32]
          refine callO_intro (hna _) ?_
          rintro r A2 ⟨B,rfl,⟨hs,j,e,rfl,hj,hg⟩ | ⟨e,rfl⟩⟩
          · simp only [zW,zX,zD,builtinA,isLeaf,const1,ustrA,simprocAttr,ca36,ca48,cf,Tryz.results32]
            refine callO_intro (hnb _) ?_
            rintro r A3 ⟨C,rfl,⟨ws,k,e',rfl,hk,hgk⟩ | ⟨e',rfl⟩⟩
            · simp only [zW,zX,zD,builtinA,isLeaf,const1,ustrA,simprocAttr,ca36,ca48,cf,Tryz.results32]
              refine ⟨B ++ C,by simp,.inl ⟨hs,ws,j,B.length + k,⟨ys,h8,hr,hord,e⟩,⟨zs,h8',hr',hord',e'⟩,?_,by simp; omega,by simp; omega,by rw [Abs.getD_append_left hj]; exact hg,by rw [Abs.getD_append_right (by omega),Nat.add_sub_cancel_left]; exact hgk⟩⟩
              simp [Nat.add_assoc]
            · simp only [zW,zX,zD,builtinA,isLeaf,const1,ustrA,simprocAttr,ca36,ca48,cf,Tryz.results32]
              exact ⟨B ++ C,by simp,.inr ⟨4,.inr ⟨rfl,hsa,hsb⟩,.inr (rdN_no h8' hr' (.inr e')),rfl⟩⟩
          · simp only [zW,zX,zD,builtinA,isLeaf,const1,ustrA,simprocAttr,ca36,ca48,cf,Tryz.results32]
            refine callO_intro (hnb _) ?_
            rintro r A3 ⟨C,rfl,⟨ws,k,e',rfl,hk,hgk⟩ | ⟨e',rfl⟩⟩
            · simp only [zW,zX,zD,builtinA,isLeaf,const1,ustrA,simprocAttr,ca36,ca48,cf,Tryz.results32]
              exact ⟨B ++ C,by simp,.inr ⟨4,.inr ⟨rfl,hsa,hsb⟩,.inl (rdN_no h8 hr (.inr e)),rfl⟩⟩
            · simp only [zW,zX,zD,builtinA,isLeaf,const1,ustrA,simprocAttr,ca36,ca48,cf,Tryz.results32]
              exact ⟨B ++ C,by simp,.inr ⟨4,.inr ⟨rfl,hsa,hsb⟩,.inl (rdN_no h8 hr (.inr e)),rfl⟩⟩
    · have hs:=sigB_bad hbad
      cases hord : ordB ys with
      | false =>
        simp only [zW,zX,zD,builtinA,isLeaf,const1,ustrA,simprocAttr,ca36,ca48,cf,Tryz.results32]
        exact ⟨[],by simp,.inr ⟨5,.inl ⟨rfl,.inr hs⟩,.inr (rdN_bad hs),rfl⟩⟩
      | true =>
        simp only [zW,zX,zD,builtinA,isLeaf,const1,ustrA,simprocAttr,ca36,ca48,cf,Tryz.results32]
        exact ⟨[],by simp,.inr ⟨5,.inl ⟨rfl,.inr hs⟩,.inr (rdN_bad hs),rfl⟩⟩
  · have hs:=sigB_bad hbad
    simp only [zW,zX,zD,builtinA,isLeaf,const1,ustrA,simprocAttr,ca36,ca48,cf,Tryz.results32]
    refine callO_intro (impl_readSig b hb hob _) ?_
    rintro r A1 ⟨h1,hA⟩
    have hA:=hA.symm
    subst hA
    rcases h1 with ⟨zs,h8',hr',rfl⟩ | ⟨hbad,rfl⟩
    · simp only [zW,zX,zD,builtinA,isLeaf,const1,ustrA,simprocAttr,ca36,ca48,cf,Tryz.results32]
      exact ⟨[],by simp,.inr ⟨5,.inl ⟨rfl,.inl hs⟩,.inl (rdN_bad hs),rfl⟩⟩
    · simp only [zW,zX,zD,builtinA,isLeaf,const1,ustrA,simprocAttr,ca36,ca48,cf,Tryz.results32]
      exact ⟨[],by simp,.inr ⟨5,.inl ⟨rfl,.inl hs⟩,.inl (rdN_bad hs),rfl⟩⟩
end Go.Proofs.YtejbjgmgdbcddaaGreatDoor
/- What matching answers. -/
set_option linter.unusedVariables false
set_option linter.unusedSimpArgs false
namespace Go.Proofs.YtejbjgmgdbcddaaGreatDoor
open Go.Abs
def mcO : Option (Nat × Ky × Int) → Int
  | none=>0
  | some x=>x.2.2
def mpO : Option (Nat × Ky × Int) → Nat × Bool
  | none=>(0,false)
  | some x=>(x.1,true)
theorem offC_code (hs : List VI) : ∀ (ys : List VI) (m : List (BNm × VT)) (i : Nat) (x : Nat × Ky × Int),offC hs m ys i = some x → 0 < x.2.2 ∧ x.2.2 ≤ 4 ∧ i ≤ x.1 ∧ x.1 < i + ys.length
  | [],m,i,x,h=>by cases h
  | y :: ys,m,i,x,h=>by
    rw [offC] at h
    split at h
    · have h1:=offC_code hs ys _ _ x h
      simp only [List.length_cons]
      exact ⟨h1.1,h1.2.1,by omega,by omega⟩
    · rename_i hne
      cases h
      have:=visC_range hs m y
      simp only [List.length_cons]
      exact ⟨by omega,this.2,by omega,by omega⟩
def MtIs (a b : List SigI) (c : Int) (p : Nat × Bool) : Prop :=
  (∃ hs ws,RdN a (some hs) ∧ RdN b (some ws) ∧ c = mcO (offC hs [] ws 0) ∧ p = mpO (offC hs [] ws 0)) ∨
  (RdN a none ∨ RdN b none) ∧ p = (0,false) ∧ c = (if sigB a = true ∧ sigB b = true then 4 else 5)
theorem mtIs_ex (a b : List SigI) : ∃ c p,MtIs a b c p:=by
  obtain ⟨oa,ha⟩:=rdN_ex a
  obtain ⟨ob,hb⟩:=rdN_ex b
  cases oa with
  | none=>exact ⟨_,_,.inr ⟨.inl ha,rfl,rfl⟩⟩
  | some hs =>
    cases ob with
    | none=>exact ⟨_,_,.inr ⟨.inr hb,rfl,rfl⟩⟩
    | some ws=>exact ⟨_,_,.inl ⟨hs,ws,ha,hb,rfl,rfl⟩⟩
theorem mtIs_one {a b : List SigI} {c c' : Int} {p p' : Nat × Bool} (h : MtIs a b c p) (h' : MtIs a b c' p') : c = c' ∧ p = p':=by
  rcases h with ⟨hs,ws,h1,h2,rfl,rfl⟩ | ⟨h1,rfl,rfl⟩
  · rcases h' with ⟨hs',ws',h3,h4,rfl,rfl⟩ | ⟨h3,rfl,rfl⟩
    · rw [rdN_one h1 h3,rdN_one h2 h4]; exact ⟨rfl,rfl⟩
    · rcases h3 with h3 | h3
      · exact absurd h3 (rdN_not h1)
      · exact absurd h3 (rdN_not h2)
  · rcases h' with ⟨hs',ws',h3,h4,rfl,rfl⟩ | ⟨h3,rfl,rfl⟩
    · rcases h1 with h1 | h1
      · exact absurd h1 (rdN_not h3)
      · exact absurd h1 (rdN_not h4)
    · exact ⟨rfl,rfl⟩
theorem rdN_sigB {s : List SigI} {zs : List VI} (h : RdN s (some zs)) : sigB s = true:=by
  obtain ⟨ys,h8,hr,hord,hn⟩:=h
  rw [sigB_reads h8 hr]; exact hord
theorem knownB_len (hs : List VI) : ∀ a : List VI,(knownB hs a).length ≤ a.length
  | []=>by simp [knownB]
  | .ab n :: a=>by
    have:=knownB_len hs a
    simp only [knownB]
    cases findF hs (false,n) <;> simp <;> omega
  | .al _ _ :: a=>by have:=knownB_len hs a; simp only [knownB,List.length_cons]; omega
  | .va _ _ :: a=>by have:=knownB_len hs a; simp only [knownB,List.length_cons]; omega
end Go.Proofs.YtejbjgmgdbcddaaGreatDoor
