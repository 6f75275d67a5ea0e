/- ClsD, PrCmp, PrSameI. -/
import Derived.Test.YtijlnkfiadajhaaK12
import Derived.Test.YtijlnkfiadajhaaAbsW3
/- The program's classes of lists: declarations. -/
set_option linter.unusedVariables false
set_option linter.unusedSimpArgs false
namespace Go.Proofs.Ytijlnkfiadajhaa
namespace CD
open Go.Abs
structure DL where
  b : Nat
  off : Nat
  hd : DeJ
  tl : List DeJ
def DL.ks (x : DL) : List DeJ:=x.hd :: x.tl
def DL.idn (x : DL) : Nat × Nat × Nat:=(x.b,x.off,x.ks.length)
def kvD (x : DL) : List AV:=[.ivptr x.b x.off (eE x.hd),.int .i64 (x.ks.length : Nat)]
def pl : CG.Pl DL:=⟨kvD,DL.idn,102,fun x y=>by
    have : decide (DL.idn x = DL.idn y) = (decide (x.b = y.b ∧ x.off = y.off) && (decide (((x.ks.length : Nat) : Int) = ((y.ks.length : Nat) : Int)) && true)):=by
      rw [Bool.eq_iff_iff]
      simp [DL.idn,Prod.mk.injEq]
      omega
    rw [this]
    simp [eqK,kvD,c1A],fun _=>rfl,fun _ _=>rfl⟩
abbrev KK : List (Nat × TK):=[(0,.ptr 102),(1,.int .i64)]
abbrev esM (m : List (DL × DL)) : List (AV × AV):=CG.es pl m
theorem fes (l : DL) (m : List (DL × DL)) : findA KK (kvD l) (esM m) 0 = some ((CG.fnd pl l m 0).map fun p=>(p.1,.agg (kvD p.2))):=CG.find_es pl l m 0
set_option maxRecDepth 100000 in
theorem find {U : List DL} (hU : ∀ x ∈ U,∀ y ∈ U,x.idn = y.idn → x = y) {R : DL → DL → Prop} (hR : ∀ x,R x x) (hRt : ∀ x y z,R x y → R y z → R x z) (m : List (DL × DL)) (hm : CG.CI U R m) (l : DL) (hl : l ∈ U) (i : Nat) (A : List Box) (hi : i < A.length) (hA : A.getD i .dead = .mapb (esM m)) :
    ACalls Try.prog 113 [.map i,.agg (kvD l)] A (fun r A'=>∃ x m',r = .agg (kvD x) ∧ x ∈ U ∧ R l x ∧ (∀ p ∈ m',p.1 ≠ x) ∧ CG.CI U R m' ∧ m'.map (·.1) = m.map (·.1) ∧ A' = A.set i (.mapb (esM m'))):=by
  have hgA : ∀ X (B : List Box),(A.set i X ++ B).getD i .dead = X:=fun X B=>by rw [getD_app1 _ _ _ _ (by simpa using hi),getD_set1 hi]
  have hset : A.set i (.mapb (esM m)) = A:=CG.set_same hi hA
  rw [kvD]
  refine acalls_enter (cf:=cf 29 [0,1,3,4,5,6,7,8,16,24]) foll Try.func113 Try.ntmps113 (by simp [cf]) ?_
  simp only [Try.f113,EnterK_some,zW,zX,zD,builtinA,isLeaf,const1,ustrA,simprocAttr,ti106,ti193,mi106,cf,Try.results113]
  refine aloop_intro [0,3,4] (fun e A'=>∃ l' m' B,e = [(0,.map i),(3,.ptr A.length 0),(4,.ptr (A.length + 1) 0)] ∧ A' = A.set i (.mapb (esM m')) ++ (.cells (kvD l') :: .cells [.nilp,.int .i64 0] :: B) ∧ l' ∈ U ∧ R l l' ∧ CG.CI U R m' ∧ m'.map (·.1) = m.map (·.1)) (fun _ A'=>CG.mu pl A.length i A') ?_ ?_
  · simp only [zW,zX,zD,builtinA,isLeaf,const1,ustrA,simprocAttr,ti106,ti193,mi106,cf,Try.results113]
    exact ⟨l,m,[],by rw [hset]; rfl,hl,hR l,hm,rfl⟩
  · rintro e A' ⟨l',m',B,rfl,rfl,hl',hr',hm',hk'⟩
    have hmu : CG.mu pl A.length i (A.set i (.mapb (esM m')) ++ (.cells (kvD l') :: .cells [.nilp,.int .i64 0] :: B)) = CG.posA pl (kvD l') (esM m'):=by
      unfold CG.mu
      rw [hgA,getD_sapp0]; rfl
    rw [hmu]
    have hf:=fes l' m'
    rw [kvD] at hf ⊢
    cases hfl : CG.fnd pl l' m' 0 with
    | none =>
      rw [hfl] at hf
      simp only [Option.map_none] at hf
      simp only [zW,zX,zD,builtinA,isLeaf,const1,ustrA,simprocAttr,ti106,ti193,mi106,cf,Try.results113,hi,hf]
      refine ⟨outer_set A _ i _ (CG.es_closed pl _ _),l',m',rfl,hl',hr',fun p hp e=>CG.fnd_none pl hfl p hp (by rw [e]),hm',hk',rfl⟩
    | some q =>
      obtain ⟨j,up⟩:=q
      rw [hfl] at hf
      simp only [Option.map_some] at hf
      obtain ⟨_,hj,hj1,hj2⟩:=CG.fnd_some pl hfl
      simp only [Nat.sub_zero] at hj hj1 hj2
      have hmj : m'[j]? = some (l',up):=by
        have e1 : m'[j]? = some m'[j]:=List.getElem?_eq_getElem hj
        have e2 : m'.getD j (l',l') = m'[j]:=by simp [List.getD,hj]
        rw [e2] at hj1 hj2
        have:=hU _ (hm'.mem _ (List.getElem_mem hj)).1 _ hl' hj1
        rw [e1]
        congr 1
        exact Prod.ext this hj2
      have hup:=(hm'.mem _ (List.mem_of_getElem? hmj)).2
      have hru : R l up:=hRt _ _ _ hr' hup.2
      have hf2:=fes up m'
      rw [kvD] at hf2
      rw [kvD] at hf
      have hpl : CG.posA pl (kvD l') (esM m') = m'.length - j:=by have:=CG.posA_es pl l' m'; rw [hfl] at this; exact this
      cases hfu : CG.fnd pl up m' 0 with
      | none =>
        rw [hfu] at hf2
        simp only [Option.map_none] at hf2
        have hpu : CG.posA pl (kvD up) (esM m') = 0:=by have:=CG.posA_es pl up m'; rw [hfu] at this; exact this
        simp only [zW,zX,zD,builtinA,isLeaf,const1,ustrA,simprocAttr,ti106,ti193,mi106,cf,Try.results113,hi,hf,hf2,LoopK_eq]
        refine ⟨⟨up,m',B ++ [.cells (kvD up),.cells [.nilp,.int .i64 0]],rfl,hup.1,hru,hm',hk'⟩,?_⟩
        unfold CG.mu
        rw [hgA,getD_sapp0]
        show CG.posA pl (kvD up) (esM m') < _
        rw [hpu]
        rw [kvD] at hpl
        rw [hpl]
        omega
      | some q2 =>
        obtain ⟨j2,top⟩:=q2
        rw [hfu] at hf2
        simp only [Option.map_some] at hf2
        rw [kvD] at hf2
        obtain ⟨_,hk,hk1,hk2⟩:=CG.fnd_some pl hfu
        simp only [Nat.sub_zero] at hk hk1 hk2
        have hmk : m'[j2]? = some (up,top):=by
          have e1 : m'[j2]? = some m'[j2]:=List.getElem?_eq_getElem hk
          have e2 : m'.getD j2 (up,up) = m'[j2]:=by simp [List.getD,hk]
          rw [e2] at hk1 hk2
          have:=hU _ (hm'.mem _ (List.getElem_mem hk)).1 _ hup.1 hk1
          rw [e1]
          congr 1
          exact Prod.ext this hk2
        have hjj : j < j2:=by
          rcases Nat.lt_or_ge j j2 with h' | h'
          · exact h'
          · exact absurd rfl (hm'.ord j2 j _ _ hmk hmj h')
        obtain ⟨c1,c2⟩:=hm'.cut hmj hmk hRt
        have hes : (esM m').set j (.agg [.ivptr l'.b l'.off (eE l'.hd),.int .i64 (l'.ks.length : Nat)],.agg [.ivptr top.b top.off (eE top.hd),.int .i64 (top.ks.length : Nat)]) = esM (m'.set j (l',top)):=by
          unfold esM CG.es
          rw [List.map_set]
          rfl
        have hpu : CG.posA pl (kvD up) (esM (m'.set j (l',top))) = m'.length - j2:=by
          have h1:=CG.posA_keys pl up c2
          have h2:=CG.posA_es pl up m'
          rw [hfu] at h2
          exact h1.trans h2
        simp only [zW,zX,zD,builtinA,isLeaf,const1,ustrA,simprocAttr,ti106,ti193,mi106,cf,Try.results113,hi,hf,hf2,hes,LoopK_eq]
        refine ⟨⟨up,m'.set j (l',top),B ++ [.cells (kvD up),.cells (kvD top)],rfl,hup.1,hru,c1,c2.trans hk'⟩,?_⟩
        unfold CG.mu
        rw [hgA,getD_sapp0]
        show CG.posA pl (kvD up) (esM (m'.set j (l',top))) < _
        rw [hpu]
        rw [kvD] at hpl
        rw [hpl]
        omega
set_option maxRecDepth 100000 in
theorem join {U : List DL} (hU : ∀ x ∈ U,∀ y ∈ U,x.idn = y.idn → x = y) {R : DL → DL → Prop} (hR : ∀ x,R x x) (hRt : ∀ x y z,R x y → R y z → R x z) (hRs : ∀ x y,R x y → R y x) (m : List (DL × DL)) (hm : CG.CI U R m) (x y : DL) (hx : x ∈ U) (hy : y ∈ U) (i : Nat) (A : List Box) (hi : i < A.length) (hA : A.getD i .dead = .mapb (esM m)) :
    ACalls Try.prog 97 [.map i,.islice x.b x.off (eEs x.ks),.islice y.b y.off (eEs y.ks)] A (fun r A'=>∃ m',A' = A.set i (.mapb (esM m')) ∧
      ((r = .bool false ∧ R x y ∧ CG.CI U R m') ∨ (r = .bool true ∧ (R x y → CG.CI U R m')))):=by
  have hgA : ∀ X (B : List Box),(A.set i X ++ B).getD i .dead = X:=fun X B=>by rw [getD_app1 _ _ _ _ (by simpa using hi),getD_set1 hi]
  have hxl : (eEs x.ks).length = x.ks.length:=eEs_length _
  have hyl : (eEs y.ks).length = y.ks.length:=eEs_length _
  have hx0 : decide (((x.ks.length : Nat) : Int) = 0) = false:=decide_eq_false (by simp [DL.ks]; omega)
  have hxg : (eEs x.ks).getD 0 [] = eE x.hd:=by simp [DL.ks,eEs]
  have hyg : (eEs y.ks).getD 0 [] = eE y.hd:=by simp [DL.ks,eEs]
  have hxp : 0 < x.ks.length:=by simp [DL.ks]
  have hyp : 0 < y.ks.length:=by simp [DL.ks]
  refine acalls_enter (cf:=cf 32 [0,1,2,6,7,8,11,28]) foll Try.func97 Try.ntmps97 (by simp [cf]) ?_
  simp only [Try.f97,EnterK_some,zW,zX,zD,builtinA,isLeaf,const1,ustrA,simprocAttr,ti3,ti47,ti102,ti106,ti193,ca113,mi106,ks193,cf,Try.results97]
  simp only [zW,zX,zD,builtinA,isLeaf,const1,ustrA,simprocAttr,ti3,ti47,ti102,ti106,ti193,ca113,mi106,ks193,cf,Try.results97,hxl,hyl,hx0,hxg,hyg,eE_length]
  refine ⟨by omega,?_⟩
  refine callK_intro (by simp only [zW,zX,zD,builtinA,isLeaf,const1,ustrA,simprocAttr]; rfl) (find hU hR hRt m hm x hx i _ hi hA) ?_ rfl
  rintro v A' ⟨x',m1,rfl,hx',hrx,hnx,hm1,hk1,rfl⟩
  rw [kvD]
  simp only [zW,zX,zD,builtinA,isLeaf,const1,ustrA,simprocAttr,ti3,ti47,ti102,ti106,ti193,ca113,mi106,ks193,cf,Try.results97,hi,hxl,hyl,hx0,hxg,hyg,eE_length]
  refine ⟨by omega,?_⟩
  refine callK_intro (by simp only [zW,zX,zD,builtinA,isLeaf,const1,ustrA,simprocAttr]; rfl) (find hU hR hRt m1 hm1 y hy i _ (by simp; omega) (hgA _ _)) ?_ rfl
  rintro v A' ⟨y',m2,rfl,hy',hry,hny,hm2,hk2,rfl⟩
  have hnx2 : ∀ p ∈ m2,p.1 ≠ x':=fun p hp e=>by
    have : p.1 ∈ m2.map (·.1):=List.mem_map_of_mem hp
    rw [hk2] at this
    obtain ⟨q,hq,he⟩:=List.mem_map.1 this
    exact hnx q hq (he.trans e)
  rw [kvD]
  by_cases he : x' = y'
  · subst he
    simp only [zW,zX,zD,builtinA,isLeaf,const1,ustrA,simprocAttr,ti3,ti47,ti102,ti106,ti193,ca113,mi106,ks193,cf,Try.results97,hi,hxl,hyl,eE_length]
    exact ⟨outer_set A _ i _ (CG.es_closed pl _ _),m2,rfl,.inl ⟨hRt _ _ _ hrx (hRs _ _ hry),hm2⟩⟩
  · have hne : (decide (x'.b = y'.b ∧ x'.off = y'.off) && decide (((x'.ks.length : Nat) : Int) = ((y'.ks.length : Nat) : Int))) = false:=by
      rw [Bool.eq_false_iff]
      intro hh
      simp only [Bool.and_eq_true,decide_eq_true_eq] at hh
      refine he (hU _ hx' _ hy' ?_)
      simp only [DL.idn,Prod.mk.injEq]
      exact ⟨hh.1.1,hh.1.2,by omega⟩
    have hfn : CG.fnd pl x' m2 0 = none:=by
      cases hq : CG.fnd pl x' m2 0 with
      | none=>rfl
      | some q =>
        obtain ⟨j,v⟩:=q
        obtain ⟨_,hj,hj1,_⟩:=CG.fnd_some pl hq
        simp only [Nat.sub_zero] at hj hj1
        have e2 : m2.getD j (x',x') = m2[j]:=by simp [List.getD,hj]
        rw [e2] at hj1
        exact absurd (hU _ (hm2.mem _ (List.getElem_mem hj)).1 _ hx' hj1) (hnx2 _ (List.getElem_mem hj))
    have hf:=fes x' m2
    rw [hfn,kvD] at hf
    simp only [Option.map_none] at hf
    have hes : esM m2 ++ [(.agg [.ivptr x'.b x'.off (eE x'.hd),.int .i64 (x'.ks.length : Nat)],.agg [.ivptr y'.b y'.off (eE y'.hd),.int .i64 (y'.ks.length : Nat)])] = esM (m2 ++ [(x',y')]):=by
      simp [esM,CG.es,pl,kvD]
    simp only [zW,zX,zD,builtinA,isLeaf,const1,ustrA,simprocAttr,ti3,ti47,ti102,ti106,ti193,ca113,mi106,ks193,cf,Try.results97,hi,hxl,hyl,eE_length]
    rw [hne]
    simp only [zW,zX,zD,builtinA,isLeaf,const1,ustrA,simprocAttr,ti3,ti47,ti102,ti106,ti193,ca113,mi106,ks193,cf,Try.results97,hi,hf,hes]
    refine ⟨outer_set A _ i _ (CG.es_closed pl _ _),m2 ++ [(x',y')],rfl,.inr fun h4=>?_⟩
    exact hm2.push hx' hy' (hRt _ _ _ (hRs _ _ hrx) (hRt _ _ _ h4 hry)) hny he
set_option maxRecDepth 100000 in
theorem join0 (i : Nat) (A : List Box) : ACalls Try.prog 97 [.map i,.slice [],.slice []] A (fun r A'=>r = .bool false ∧ A' = A):=by
  refine acalls_enter (cf:=cf 32 [0,1,2,6,7,8,11,28]) foll Try.func97 Try.ntmps97 (by simp [cf]) ?_
  simp only [Try.f97,EnterK_some,zW,zX,zD,builtinA,isLeaf,const1,ustrA,simprocAttr,ti3,ti47,ti102,ti106,ti193,ca113,mi106,ks193,cf,Try.results97]
set_option maxRecDepth 100000 in
theorem eqf {D S : List Nat} {I : List Box → Prop} (hK : CG.Kp D S I) {g : FuncId} (hg : callable Try.prog g = true) (fs cs : List AV) (eq : DeJ → DeJ → Bool) (a b : List DeJ) (hcall : ∀ x ∈ a,∀ y ∈ b,CG.Cmp Try.prog S I g (fs ++ [.agg (eE x),.agg (eE y)] ++ cs) (eq x y)) (hla : a.length ≤ 1048576) (b1 o1 b2 o2 : Nat) : CG.Cmp Try.prog S I 98 [.islice b1 o1 (eEs a),.islice b2 o2 (eEs b),.func (.func g) fs cs] (CG.allB eq a b):=by
  intro A hA
  have hT:=CG.Chg.rfl hK hA
  by_cases hl : a.length = b.length
  · have hd : decide ((a.length : Int) = (b.length : Int)) = true:=decide_eq_true (by omega)
    refine acalls_enter (cf:=cf 32 [0,1,2,6,7,8,9,14,15,16,17,18,30]) foll Try.func98 Try.ntmps98 (by simp [cf]) ?_
    simp only [Try.f98,EnterK_some,zW,zX,zD,builtinA,isLeaf,const1,ustrA,simprocAttr,ti3,ti47,ti102,cf,Try.results98]
    simp only [zW,zX,zD,builtinA,isLeaf,const1,ustrA,simprocAttr,ti3,ti47,ti102,cf,Try.results98,eEs_length,hd]
    refine aloop_intro [1,2,15,16,17] (fun e A'=>∃ (i : Nat) (A1 B : List Box),i ≤ a.length ∧ CG.allB eq (a.drop i) (b.drop i) = CG.allB eq a b ∧ e = [(1,.islice b2 o2 (eEs b)),(2,.func (.func g) fs cs),(15,.islice b1 o1 (eEs a)),(16,.int .i64 a.length),(17,.int .i64 i)] ∧ A' = A1 ++ B ∧ CG.Chg S A A1 ∧ I A1) (fun e _=>a.length - (intOf (Abs.look 17 e)).toNat) ?_ ?_
    · simp only [zW,zX,zD,builtinA,isLeaf,const1,ustrA,simprocAttr,ti3,ti47,ti102,cf,Try.results98,eEs_length]
      exact ⟨0,A,[],by omega,rfl,rfl,by simp,hT,hA⟩
    · rintro e A' ⟨i,A1,B,hi2,hq,rfl,rfl,hc1,hI1⟩
      simp only [zW,zX,zD,builtinA,isLeaf,const1,ustrA,simprocAttr,ti3,ti47,ti102,cf,Try.results98,eEs_length]
      refine condK_intro (fun h2=>?_) (fun h2=>?_)
      · have hi3 : i < a.length:=by simpa using h2
        have hj2 : i < b.length:=by omega
        rw [CG.allB_at ej0 a b hi3 hj2] at hq
        have e1:=eEs_getD hi3
        have e2:=eEs_getD hj2
        have hxa : a.getD i ej0 ∈ a:=by simp [List.getD,hi3]
        have hxb : b.getD i ej0 ∈ b:=by simp [List.getD,hj2]
        have hi1 : IntKind.i64.wrap ((i : Int) + 1) = ((i + 1 : Nat) : Int):=by rw [wrap64 (by omega) (by omega)]; rfl
        generalize a.getD i ej0 = x at *
        generalize b.getD i ej0 = y at *
        have pa : (0 : Int) ≤ (i : Int) ∧ (i : Int) < (a.length : Int):=⟨by omega,by omega⟩
        have pb : (0 : Int) ≤ (i : Int) ∧ (i : Int) < (b.length : Int):=⟨by omega,by omega⟩
        have hcl:=fun L=>hcall x hxa y hxb (A1 ++ L) (hK.app hI1 L)
        have hlt:=hK.lt A1 hI1
        simp only [zW,zX,zD,builtinA,isLeaf,const1,ustrA,simprocAttr,ti3,ti47,ti102,cf,Try.results98,e1,e2,eE_length,eE_take,eEs_length]
        refine ⟨pa,pb,?_⟩
        refine wpO_callv _ _ _ _ _ _ _ _ _ _ _ _ _ _ _ ?_
        simp only [zW,zX,zD,builtinA,isLeaf,const1,ustrA,simprocAttr,ti3,ti47,ti102,cf,Try.results98]
        refine ⟨hg,callO_intro (by simpa using hcl _) ?_⟩
        rintro r A' ⟨rfl,hc2,hI2⟩
        obtain ⟨A2,L2,rfl,hc3,_⟩:=hc2.split fun k hk=>hlt k (hK.sub k hk)
        have hc4:=hc1.trans hc3
        cases hh : eq x y with
        | true =>
          rw [hh,Bool.true_and] at hq
          simp only [zW,zX,zD,builtinA,isLeaf,const1,ustrA,simprocAttr,ti3,ti47,ti102,cf,Try.results98,hi1,LoopK_eq]
          refine ⟨⟨i + 1,A2,L2,by omega,hq,rfl,rfl,hc4,hK.cut (hI2 hh) fun k hk=>by rw [hc3.1]; exact hlt k hk⟩,?_⟩
          simp only [intOf]; omega
        | false =>
          rw [hh,Bool.false_and] at hq
          simp only [zW,zX,zD,builtinA,isLeaf,const1,ustrA,simprocAttr,ti3,ti47,ti102,cf,Try.results98]
          rw [hc4.take]
          exact ⟨hc4.outer _,by rw [← hq],hc4,fun h=>by rw [← hq] at h; cases h⟩
      · have : i = a.length:=by simp at h2; omega
        subst this
        have hb0 : b.drop a.length = []:=by simp; omega
        rw [List.drop_length,hb0,CG.allB] at hq
        simp only [zW,zX,zD,builtinA,isLeaf,const1,ustrA,simprocAttr,ti3,ti47,ti102,cf,Try.results98]
        rw [hc1.take]
        exact ⟨hc1.outer _,by rw [← hq],hc1,fun _=>hI1⟩
  · have hd : decide ((a.length : Int) = (b.length : Int)) = false:=decide_eq_false (by omega)
    rw [CG.allB_len (by simpa using hl)]
    refine acalls_enter (cf:=cf 32 [0,1,2,6,7,8,9,14,15,16,17,18,30]) foll Try.func98 Try.ntmps98 (by simp [cf]) ?_
    simp only [Try.f98,EnterK_some,zW,zX,zD,builtinA,isLeaf,const1,ustrA,simprocAttr,ti3,ti47,ti102,cf,Try.results98]
    simp only [zW,zX,zD,builtinA,isLeaf,const1,ustrA,simprocAttr,ti3,ti47,ti102,cf,Try.results98,eEs_length,hd]
    exact hT
def oVD : Option DL → AV
  | none=>.slice []
  | some x=>.islice x.b x.off (eEs x.ks)
def oKD : Option DL → List DeJ
  | none=>[]
  | some x=>x.ks
set_option maxRecDepth 100000 in
theorem same {δ : Type} {U : List DL} (hU : ∀ x ∈ U,∀ y ∈ U,x.idn = y.idn → x = y) (er : DeJ → δ) {D S : List Nat} {J : List Box → Prop} (hK : CG.Kp D S J) {g : FuncId} (hg : callable Try.prog g = true) (fs cs : List AV) (eq : DeJ → DeJ → Bool) (heq : ∀ x y,eq x y = true ↔ er x = er y) (x y : Option DL) (hx : ∀ l,x = some l → l ∈ U) (hy : ∀ l,y = some l → l ∈ U)
    (hcall : ∀ a ∈ oKD x,∀ b ∈ oKD y,CG.Cmp Try.prog S J g (fs ++ [.agg (eE a),.agg (eE b)] ++ cs) (eq a b)) (hla : (oKD x).length ≤ 1048576) (is : Nat) (his : is ∉ D) :
    CG.Cmp Try.prog (S ++ [is]) (fun A=>J A ∧ CG.ClM pl U (fun x y=>x.ks.map er = y.ks.map er) is A) 71 [.map is,oVD x,oVD y,.func (.func g) fs cs] (CG.allB eq (oKD x) (oKD y)):=by
  intro A ⟨hJ,hM⟩
  have hK2:=hK.and (CG.ClM.kp pl U (fun x y=>x.ks.map er = y.ks.map er) is)
  have hT:=CG.Chg.rfl hK2 ⟨hJ,hM⟩
  have hTA : (A ++ []).take A.length = A:=hT.take []
  cases x with
  | none =>
    cases y with
    | none =>
      simp only [oVD,oKD]
      refine acalls_enter (cf:=cf 27 [0,1,2,3,8]) foll Try.func71 Try.ntmps71 (by simp [cf]) ?_
      simp only [Try.f71,EnterK_some,zW,zX,zD,builtinA,isLeaf,const1,ustrA,simprocAttr,ti3,ti47,ti102,ca97,ca98,cf,Try.results71]
      refine callO_intro (join0 is A) ?_
      rintro r A' ⟨rfl,rfl⟩
      simp only [zW,zX,zD,builtinA,isLeaf,const1,ustrA,simprocAttr,ti3,ti47,ti102,ca97,ca98,cf,Try.results71]
      exact ⟨rfl,hT,fun _=>⟨hJ,hM⟩⟩
    | some y =>
      have hd : decide ((0 : Int) = (y.ks.length : Int)) = false:=decide_eq_false (by simp [DL.ks]; omega)
      simp only [oVD,oKD]
      refine acalls_enter (cf:=cf 27 [0,1,2,3,8]) foll Try.func71 Try.ntmps71 (by simp [cf]) ?_
      simp only [Try.f71,EnterK_some,zW,zX,zD,builtinA,isLeaf,const1,ustrA,simprocAttr,ti3,ti47,ti102,ca97,ca98,cf,Try.results71]
      simp only [zW,zX,zD,builtinA,isLeaf,const1,ustrA,simprocAttr,ti3,ti47,ti102,ca97,ca98,cf,Try.results71,eEs_length,hd]
      exact ⟨by simp [DL.ks,CG.allB],hT,fun _=>⟨hJ,hM⟩⟩
  | some x =>
    cases y with
    | none =>
      have hd : decide ((x.ks.length : Int) = 0) = false:=decide_eq_false (by simp [DL.ks]; omega)
      simp only [oVD,oKD]
      refine acalls_enter (cf:=cf 27 [0,1,2,3,8]) foll Try.func71 Try.ntmps71 (by simp [cf]) ?_
      simp only [Try.f71,EnterK_some,zW,zX,zD,builtinA,isLeaf,const1,ustrA,simprocAttr,ti3,ti47,ti102,ca97,ca98,cf,Try.results71]
      simp only [zW,zX,zD,builtinA,isLeaf,const1,ustrA,simprocAttr,ti3,ti47,ti102,ca97,ca98,cf,Try.results71,eEs_length,hd]
      exact ⟨by simp [DL.ks,CG.allB],hT,fun _=>⟨hJ,hM⟩⟩
    | some y =>
      simp only [oVD,oKD] at hcall hla ⊢
      have hxU:=hx x rfl
      have hyU:=hy y rfl
      have hiff:=CG.allB_iff heq x.ks y.ks
      by_cases hl : x.ks.length = y.ks.length
      · have hd : decide ((x.ks.length : Int) = (y.ks.length : Int)) = true:=decide_eq_true (by omega)
        obtain ⟨hiA,m,hm,hci⟩:=hM
        have hput : ∀ m',J (A.set is (.mapb (esM m'))):=fun m'=>hK.loc A _ (fun k hk=>by rw [Abs.getD_set_ne' (fun e=>his (by rw [e]; exact hk))]) hJ
        have hchg : ∀ m',CG.Chg (S ++ [is]) A (A.set is (.mapb (esM m'))):=fun m'=>⟨by simp,fun k hk=>by rw [Abs.getD_set_ne' (fun e=>hk (by simp [e]))],fun k hk n=>by
          by_cases e : k = is
          · subst e; rw [Abs.getD_set_self hiA]; exact CG.es_closed pl n m'
          · rw [Abs.getD_set_ne' (Ne.symm e)]; exact hT.2.2 k hk n⟩
        have hcm : ∀ m' (A' : List Box),A'.length = A.length → A'.getD is .dead = .mapb (esM m') → CG.CI U (fun x y=>x.ks.map er = y.ks.map er) m' → CG.ClM pl U (fun x y=>x.ks.map er = y.ks.map er) is A':=fun m' A' h1 h2 h3=>⟨by omega,m',h2,h3⟩
        refine acalls_enter (cf:=cf 27 [0,1,2,3,8]) foll Try.func71 Try.ntmps71 (by simp [cf]) ?_
        simp only [Try.f71,EnterK_some,zW,zX,zD,builtinA,isLeaf,const1,ustrA,simprocAttr,ti3,ti47,ti102,ca97,ca98,cf,Try.results71]
        simp only [zW,zX,zD,builtinA,isLeaf,const1,ustrA,simprocAttr,ti3,ti47,ti102,ca97,ca98,cf,Try.results71,eEs_length,hd]
        refine callO_intro (join (R:=fun x y=>x.ks.map er = y.ks.map er) hU (fun _=>rfl) (fun _ _ _ h k=>h.trans k) (fun _ _ h=>h.symm) m hci x y hxU hyU is A hiA hm) ?_
        rintro r A' ⟨m',rfl,⟨rfl,hr,hci'⟩ | ⟨rfl,hr⟩⟩
        · have h1:=hput m'
          have h2:=hchg m'
          have h3:=hcm m' _ (by simp) (Abs.getD_set_self hiA) hci'
          generalize A.set is (.mapb (esM m')) = A1 at *
          have h4:=h2.outer []
          have h5:=h2.take []
          rw [List.append_nil] at h4 h5
          simp only [zW,zX,zD,builtinA,isLeaf,const1,ustrA,simprocAttr,ti3,ti47,ti102,ca97,ca98,cf,Try.results71]
          rw [h5]
          exact ⟨h4,by rw [hiff.2 hr],h2,fun _=>⟨h1,h3⟩⟩
        · have h1:=hput m'
          have h2:=hchg m'
          have h3:=hcm m'
          have h6 : (A.set is (.mapb (esM m'))).getD is .dead = .mapb (esM m'):=Abs.getD_set_self hiA
          generalize A.set is (.mapb (esM m')) = A1 at *
          have heqf:=eqf hK hg fs cs eq x.ks y.ks hcall hla x.b x.off y.b y.off A1 h1
          simp only [zW,zX,zD,builtinA,isLeaf,const1,ustrA,simprocAttr,ti3,ti47,ti102,ca97,ca98,cf,Try.results71]
          refine callO_intro heqf ?_
          rintro r A' ⟨rfl,q2,q3⟩
          have hl1:=h2.1
          have hl2:=q2.1
          have q4 : CG.Chg (S ++ [is]) A A':=⟨by omega,fun k hk=>by rw [q2.2.1 k (fun h=>hk (by simp [h])),h2.2.1 k hk],fun k hk n=>by
            by_cases e : k ∈ S
            · exact q2.2.2 k e n
            · rw [q2.2.1 k e]; exact h2.2.2 k hk n⟩
          have q5 : A'.getD is .dead = .mapb (esM m'):=by rw [q2.2.1 is (fun h=>his (hK.sub is h))]; exact h6
          have h4:=q4.outer []
          have h5:=q4.take []
          rw [List.append_nil] at h4 h5
          simp only [zW,zX,zD,builtinA,isLeaf,const1,ustrA,simprocAttr,ti3,ti47,ti102,ca97,ca98,cf,Try.results71]
          rw [h5]
          exact ⟨h4,q4,fun hb=>⟨q3 hb,h3 A' (by omega) q5 (hr (hiff.1 hb))⟩⟩
      · have hd : decide ((x.ks.length : Int) = (y.ks.length : Int)) = false:=decide_eq_false (by omega)
        rw [CG.allB_len (by simpa using hl)]
        refine acalls_enter (cf:=cf 27 [0,1,2,3,8]) foll Try.func71 Try.ntmps71 (by simp [cf]) ?_
        simp only [Try.f71,EnterK_some,zW,zX,zD,builtinA,isLeaf,const1,ustrA,simprocAttr,ti3,ti47,ti102,ca97,ca98,cf,Try.results71]
        simp only [zW,zX,zD,builtinA,isLeaf,const1,ustrA,simprocAttr,ti3,ti47,ti102,ca97,ca98,cf,Try.results71,eEs_length,hd]
        exact hT
end CD
end Go.Proofs.Ytijlnkfiadajhaa
/- The program's comparison of programs whose memory is known. -/
set_option linter.unusedVariables false
set_option linter.unusedSimpArgs false
namespace Go.Proofs.Ytijlnkfiadajhaa
open Go.Abs
theorem unJB_iff (x y : UnJ) : unJB x y = true ↔ erU x = erU y:=by
  rw [unJB,Bool.and_eq_true,Bool.and_eq_true,Bool.and_eq_true,sisB_iff2,stsB_iff2,CG.allB_iff pmB_iff,erU,erU,UnI.mk.injEq]
  constructor
  · rintro ⟨⟨⟨h1,h2⟩,h3⟩,h4⟩; exact ⟨of_decide_eq_true h1,h2,h3,h4⟩
  · rintro ⟨h1,h2,h3,h4⟩; exact ⟨⟨⟨decide_eq_true h1,h2⟩,h3⟩,h4⟩
def nmEq (a b : List UInt8) : Bool:=decide (a = b)
theorem nmEq_iff (a b : List UInt8) : nmEq a b = true ↔ a = b:=⟨fun h=>of_decide_eq_true h,fun h=>decide_eq_true h⟩
noncomputable def deB (x y : DeJ) : Bool:=((decide (x.made = y.made) && decide (x.functor = y.functor)) && CG.allB nmEq (CA.oKA x.args) (CA.oKA y.args)) && unJB x.un y.un
theorem deB_iff (x y : DeJ) : deB x y = true ↔ erD x = erD y:=by
  have h:=CG.allB_iff (er:=fun s : List UInt8=>s) nmEq_iff (CA.oKA x.args) (CA.oKA y.args)
  rw [List.map_id',List.map_id'] at h
  rw [deB,Bool.and_eq_true,Bool.and_eq_true,Bool.and_eq_true,h,unJB_iff,erD,erD,DeI.mk.injEq]
  constructor
  · rintro ⟨⟨⟨h1,h2⟩,h3⟩,h4⟩; exact ⟨h4,of_decide_eq_true h1,of_decide_eq_true h2,h3⟩
  · rintro ⟨h1,h2,h3,h4⟩; exact ⟨⟨⟨decide_eq_true h2,decide_eq_true h3⟩,h4⟩,h1⟩
abbrev RA (x y : CA.AL) : Prop:=x.ks.map (fun s : List UInt8=>s) = y.ks.map (fun s : List UInt8=>s)
abbrev RD (x y : CD.DL) : Prop:=x.ks.map erD = y.ks.map erD
set_option maxRecDepth 100000 in
theorem nm_item (a b : List UInt8) : CG.Cmp Try.prog [] (fun _=>True) 99 ([] ++ [.str a,.str b] ++ []) (nmEq a b):=by
  intro A _
  show ACalls Try.prog 99 [.str a,.str b] A _
  have hT : CG.Chg [] A A:=⟨rfl,fun _ _=>rfl,by simp⟩
  by_cases h : a = b
  · rw [nmEq,decide_eq_true h]
    refine acalls_enter (cf:=cf 8 [0,1,4]) foll Try.func99 Try.ntmps99 (by simp [cf]) ?_
    simp only [Try.f99,EnterK_some,zW,zX,zD,builtinA,isLeaf,const1,ustrA,simprocAttr,ti9,cf,Try.results99]
    simp only [zW,zX,zD,builtinA,isLeaf,const1,ustrA,simprocAttr,ti9,cf,Try.results99,decide_eq_true h]
    exact hT
  · rw [nmEq,decide_eq_false h]
    refine acalls_enter (cf:=cf 8 [0,1,4]) foll Try.func99 Try.ntmps99 (by simp [cf]) ?_
    simp only [Try.f99,EnterK_some,zW,zX,zD,builtinA,isLeaf,const1,ustrA,simprocAttr,ti9,cf,Try.results99]
    simp only [zW,zX,zD,builtinA,isLeaf,const1,ustrA,simprocAttr,ti9,cf,Try.results99,decide_eq_false h]
    exact hT
def cvP (it is bt ix ik ip id ia : Nat) : List AV:=[tF1,tF2,.map it,.map is,tF1,tF2,.map it,SX.xF1,SX.xF2 bt,.map ix,.map ik,.map ip,.map id,.map ia]
structure KnG (UT : List LL) (UX : List SX.LL) (US : List SL) (UK : List KL) (UP : List CP.PL) (UA : List CA.AL) (UD : List CD.DL) : Prop extends KnU UT UX US UK UP where
  uA : ∀ x ∈ UA,∀ y ∈ UA,x.idn = y.idn → x = y
  lA : ∀ s ∈ UA,s.ks.length ≤ 1048576
  uD : ∀ x ∈ UD,∀ y ∈ UD,x.idn = y.idn → x = y
  iD : ∀ s ∈ UD,(∀ t ∈ s.ks,InU US UK UP t.un ∧ InO UA t.args) ∧ s.ks.length ≤ 1048576
abbrev IG (UT : List LL) (UX : List SX.LL) (US : List SL) (UK : List KL) (UP : List CP.PL) (UA : List CA.AL) (it is bt ix ik ip ia : Nat) (A : List Box) : Prop:=IU UT UX US UK UP it is bt ix ik ip A ∧ CG.ClM CA.pl UA RA ia A
theorem IG.kp (UT : List LL) (UX : List SX.LL) (US : List SL) (UK : List KL) (UP : List CP.PL) (UA : List CA.AL) (it is bt ix ik ip ia : Nat) : CG.Kp ((([it,is] ++ [ip] ++ [ix]) ++ ([bt] ++ [ik])) ++ [ia]) ((([it,is] ++ [ip] ++ [ix]) ++ ([] ++ [ik])) ++ [ia]) (IG UT UX US UK UP UA it is bt ix ik ip ia) :=
  (IU.kp UT UX US UK UP it is bt ix ik ip).and (CG.ClM.kp CA.pl UA RA ia)
set_option maxRecDepth 100000 in
set_option maxHeartbeats 1000000 in
theorem de_item {UT : List LL} {UX : List SX.LL} {US : List SL} {UK : List KL} {UP : List CP.PL} {UA : List CA.AL} {UD : List CD.DL} (hU : KnG UT UX US UK UP UA UD) (x y : DeJ) (hx : InU US UK UP x.un ∧ InO UA x.args) (hy : InU US UK UP y.un ∧ InO UA y.args) (it is bt ix ik ip id ia : Nat) (hne : Dif it is bt ix ik ip) (hia : ia ≠ it ∧ ia ≠ is ∧ ia ≠ bt ∧ ia ≠ ix ∧ ia ≠ ik ∧ ia ≠ ip) :
    CG.Cmp Try.prog ((([it,is] ++ [ip] ++ [ix]) ++ ([] ++ [ik])) ++ [ia]) (IG UT UX US UK UP UA it is bt ix ik ip ia) 72 ([.agg (cvP it is bt ix ik ip id ia)] ++ [.agg (eE x),.agg (eE y)] ++ []) (deB x y):=by
  obtain ⟨m1,m2,m3,m4,m5,m6⟩:=hia
  have hKp:=IG.kp UT UX US UK UP UA it is bt ix ik ip ia
  have hcl : ∀ A,IG UT UX US UK UP UA it is bt ix ik ip ia A → ∀ k ∈ ((([it,is] ++ [ip] ++ [ix]) ++ ([] ++ [ik])) ++ [ia]),∀ n,boxClosed n (A.getD k .dead) = true:=fun A hA=>hKp.cls A hA
  have hlx : (CA.oKA x.args).length ≤ 1048576:=by
    have:=hx.2
    cases hxp : x.args with
    | none=>simp [CA.oKA]
    | some l=>exact hU.lA l (this l hxp)
  have hK0 : CG.Kp [] [] (fun _ : List Box=>True):=⟨fun _ _ _ h=>h,by simp,by simp,by simp⟩
  have c1:=(CA.same hU.uA (fun s : List UInt8=>s) hK0 (g:=99) (by kernel_rfl) [] [] nmEq nmEq_iff x.args y.args hx.2 hy.2 (fun a _ b _=>nm_item a b) hlx ia (by simp)).conv (S':=((([it,is] ++ [ip] ++ [ix]) ++ ([] ++ [ik])) ++ [ia])) (I':=IG UT UX US UK UP UA it is bt ix ik ip ia) (fun A h=>⟨trivial,h.2⟩) (by simp) hcl
    (fun A A' h hc h1=>⟨(IU.kp UT UX US UK UP it is bt ix ik ip).loc A A' (fun k hk=>hc.2.1 k (by simp at hk ⊢; omega)) h.1,h1.2⟩)
  have c2:=(un_cmp hU.toKnU x.un y.un hx.1 hy.1 it is bt ix ik ip hne).conv (S':=((([it,is] ++ [ip] ++ [ix]) ++ ([] ++ [ik])) ++ [ia])) (I':=IG UT UX US UK UP UA it is bt ix ik ip ia) (fun A h=>h.1) (by simp) hcl
    (fun A A' h hc h1=>⟨h1,(CG.ClM.kp CA.pl UA RA ia).loc A A' (fun k hk=>by obtain rfl:=List.mem_singleton.1 hk; exact hc.2.1 _ (by simp; omega)) h.2⟩)
  intro A hA
  show ACalls Try.prog 72 [.agg (cvP it is bt ix ik ip id ia),.agg (eE x),.agg (eE y)] A _
  have hT : CG.Chg ((([it,is] ++ [ip] ++ [ix]) ++ ([] ++ [ik])) ++ [ia]) A A:=⟨rfl,fun _ _=>rfl,hcl A hA⟩
  have hlt3:=hKp.lt A hA
  have hlt2 : ∀ k ∈ ((([it,is] ++ [ip] ++ [ix]) ++ ([] ++ [ik])) ++ [ia]),k < A.length:=fun k hk=>hlt3 k (hKp.sub k hk)
  have hcut : ∀ (A1 L : List Box),A1.length = A.length → IG UT UX US UK UP UA it is bt ix ik ip ia (A1 ++ L) → IG UT UX US UK UP UA it is bt ix ik ip ia A1:=fun A1 L hl h=>hKp.cut h fun k hk=>by rw [hl]; exact hlt3 k hk
  rw [cvU,uJ,uJ] at c2
  rw [deB,cvP,eE,eE]
  generalize ((([it,is] ++ [ip] ++ [ix]) ++ ([] ++ [ik])) ++ [ia]) = S at *
  generalize CA.oVA x.args = a1 at *
  generalize CA.oVA y.args = a2 at *
  generalize CP.oVP x.un.params = p1 at *
  generalize CP.oVP y.un.params = p2 at *
  generalize oVK x.un.body = b1 at *
  generalize oVK y.un.body = b2 at *
  generalize oV x.un.face = f1 at *
  generalize oV y.un.face = f2 at *
  generalize CG.allB nmEq (CA.oKA x.args) (CA.oKA y.args) = r1 at *
  generalize unJB x.un y.un = r2 at *
  by_cases h1 : x.made = y.made
  · by_cases h2 : x.functor = y.functor
    · rw [decide_eq_true h1,decide_eq_true h2,Bool.true_and,Bool.true_and]
      refine acalls_enter (cf:=cf 39 [0,1,2,3,4,5,6,7]) foll Try.func72 Try.ntmps72 (by simp [cf]) ?_
      simp only [Try.f72,EnterK_some,zW,zX,zD,builtinA,isLeaf,const1,ustrA,simprocAttr,ti9,ti33,ti95,ti100,ti102,ti108,ti110,ca29,ca100,cf,Try.results72]
      simp only [zW,zX,zD,builtinA,isLeaf,const1,ustrA,simprocAttr,ti9,ti33,ti95,ti100,ti102,ti108,ti110,ca29,ca100,cf,Try.results72,h1,h2]
      refine callO_intro (c1 _ (hKp.app hA _)) ?_
      rintro r A' ⟨rfl,hc,hI⟩
      obtain ⟨A1,L1,rfl,hc1,rfl⟩:=hc.split hlt2
      cases r1 with
      | false =>
        simp only [zW,zX,zD,builtinA,isLeaf,const1,ustrA,simprocAttr,ti9,ti33,ti95,ti100,ti102,ti108,ti110,ca29,ca100,cf,Try.results72]
        rw [hc1.take]
        exact ⟨hc1.outer _,hc1⟩
      | true =>
        have hI1:=hcut A1 _ hc1.1 (hI rfl)
        have hl1:=hc1.1
        have hg : ∀ (L : List Box) k,(A1 ++ L).getD (A.length + k) .dead = L.getD k .dead:=fun L k=>by rw [Abs.getD_append_right (by omega),show A.length + k - A1.length = k by omega]
        have hg0 : ∀ (L : List Box),(A1 ++ L).getD A.length .dead = L.getD 0 .dead:=fun L=>hg L 0
        simp only [zW,zX,zD,builtinA,isLeaf,const1,ustrA,simprocAttr,ti9,ti33,ti95,ti100,ti102,ti108,ti110,ca29,ca100,cf,Try.results72,hg,hg0]
        refine callO_intro (c2 _ (hKp.app hI1 _)) ?_
        rintro r A' ⟨rfl,hc',hI'⟩
        obtain ⟨A2,L2,rfl,hc2,rfl⟩:=hc'.split (fun k hk=>by rw [hl1]; exact hlt2 k hk)
        have hc3:=hc1.trans hc2
        simp only [zW,zX,zD,builtinA,isLeaf,const1,ustrA,simprocAttr,ti9,ti33,ti95,ti100,ti102,ti108,ti110,ca29,ca100,cf,Try.results72]
        rw [hc3.take]
        exact ⟨hc3.outer _,hc3,fun hb=>hcut A2 _ hc3.1 (hI' hb)⟩
    · rw [decide_eq_false h2,Bool.and_false,Bool.false_and,Bool.false_and]
      refine acalls_enter (cf:=cf 39 [0,1,2,3,4,5,6,7]) foll Try.func72 Try.ntmps72 (by simp [cf]) ?_
      simp only [Try.f72,EnterK_some,zW,zX,zD,builtinA,isLeaf,const1,ustrA,simprocAttr,ti9,ti33,ti95,ti100,ti102,ti108,ti110,ca29,ca100,cf,Try.results72]
      simp only [zW,zX,zD,builtinA,isLeaf,const1,ustrA,simprocAttr,ti9,ti33,ti95,ti100,ti102,ti108,ti110,ca29,ca100,cf,Try.results72,h1,h2,decide_eq_false h2]
      exact hT
  · rw [decide_eq_false h1,Bool.false_and,Bool.false_and,Bool.false_and]
    refine acalls_enter (cf:=cf 39 [0,1,2,3,4,5,6,7]) foll Try.func72 Try.ntmps72 (by simp [cf]) ?_
    simp only [Try.f72,EnterK_some,zW,zX,zD,builtinA,isLeaf,const1,ustrA,simprocAttr,ti9,ti33,ti95,ti100,ti102,ti108,ti110,ca29,ca100,cf,Try.results72]
    simp only [zW,zX,zD,builtinA,isLeaf,const1,ustrA,simprocAttr,ti9,ti33,ti95,ti100,ti102,ti108,ti110,ca29,ca100,cf,Try.results72,decide_eq_false h1]
    exact hT
end Go.Proofs.Ytijlnkfiadajhaa
/- The program's ProgramSame, on programs whose memory is known. -/
set_option linter.unusedVariables false
set_option linter.unusedSimpArgs false
namespace Go.Proofs.Ytijlnkfiadajhaa
open Go.Abs
structure PrJ where
  decls : Option CD.DL
  main : SX.IEx
def gJ (p : PrJ) : List AV:=CD.oVD p.decls :: SX.encI p.main
noncomputable def prJB (x y : PrJ) : Bool:=CG.allB deB (CD.oKD x.decls) (CD.oKD y.decls) && decide (SX.erase x.main = SX.erase y.main)
theorem ex_cmp {UT : List LL} {UX : List SX.LL} (hS : StU UT UX) (x y : SX.IEx) (hx : (∀ z,SX.below x = some z → z ∈ UX) ∧ TU UT (SX.argX x)) (hy : (∀ z,SX.below y = some z → z ∈ UX) ∧ TU UT (SX.argX y)) (bt it ix : Nat) (hne : bt ≠ it ∧ bt ≠ ix ∧ it ≠ ix) :
    CG.Cmp Try.prog [it,ix] (fun A=>(IT UT it A ∧ IX UX ix A) ∧ A.getD bt .dead = .cells [tF1,tF2,.map it]) 47 [.agg [SX.xF1,SX.xF2 bt,.map ix],.agg (SX.encI x),.agg (SX.encI y)] (decide (SX.erase x = SX.erase y)):=by
  rintro A ⟨⟨⟨hi,mt,hA,h0⟩,hix,mx,hAx,hx0⟩,hbt⟩
  obtain ⟨n3,n4,n5⟩:=hne
  refine (SX.sameI hS.hU hS.hN hS.hL x y hx.1 hy.1 hS.hUT hS.hTU hx.2 hy.2 ix mx hx0 it bt mt h0 A hix hAx hi (ne_dead hbt (by simp)) (Ne.symm n5) (Ne.symm n4) (Ne.symm n3) hA hbt).mono ?_
  rintro r A' ⟨m',mt',rfl,rfl,hm⟩
  refine ⟨by congr,⟨by simp,fun k hk=>?_,fun k hk n=>?_⟩,fun hb=>?_⟩
  · simp only [List.mem_cons,List.not_mem_nil,or_false,not_or] at hk
    rw [Abs.getD_set_ne' (Ne.symm hk.1),Abs.getD_set_ne' (Ne.symm hk.2)]
  · simp only [List.mem_cons,List.not_mem_nil,or_false] at hk
    rcases hk with rfl | rfl
    · rw [Abs.getD_set_self (by simpa using hi)]; exact es_closed n mt'
    · rw [Abs.getD_set_ne' n5,Abs.getD_set_self hix]; exact SX.es_closed n m'
  · have hm:=hm (of_decide_eq_true hb)
    exact ⟨⟨⟨by simpa using hi,mt',Abs.getD_set_self (by simpa using hi),hm.2⟩,by simpa using hix,m',by rw [Abs.getD_set_ne' n5,Abs.getD_set_self hix],hm.1⟩,by rw [Abs.getD_set_ne' (Ne.symm n3),Abs.getD_set_ne' (Ne.symm n4)]; exact hbt⟩
abbrev IH (UT : List LL) (UX : List SX.LL) (US : List SL) (UK : List KL) (UP : List CP.PL) (UA : List CA.AL) (UD : List CD.DL) (it is bt ix ik ip id ia : Nat) (A : List Box) : Prop:=IG UT UX US UK UP UA it is bt ix ik ip ia A ∧ CG.ClM CD.pl UD RD id A
set_option maxRecDepth 100000 in
set_option maxHeartbeats 1000000 in
theorem pr_cmp {UT : List LL} {UX : List SX.LL} {US : List SL} {UK : List KL} {UP : List CP.PL} {UA : List CA.AL} {UD : List CD.DL} (hU : KnG UT UX US UK UP UA UD) (x y : PrJ) (hx : InO UD x.decls) (hy : InO UD y.decls)
    (hmx : (∀ z,SX.below x.main = some z → z ∈ UX) ∧ TU UT (SX.argX x.main)) (hmy : (∀ z,SX.below y.main = some z → z ∈ UX) ∧ TU UT (SX.argX y.main)) (it is bt ix ik ip id ia : Nat) (hne : Dif it is bt ix ik ip) (hia : ia ≠ it ∧ ia ≠ is ∧ ia ≠ bt ∧ ia ≠ ix ∧ ia ≠ ik ∧ ia ≠ ip) (hid : id ≠ it ∧ id ≠ is ∧ id ≠ bt ∧ id ≠ ix ∧ id ≠ ik ∧ id ≠ ip ∧ id ≠ ia)
    (A : List Box) (hA : IH UT UX US UK UP UA UD it is bt ix ik ip id ia A) :
    ACalls Try.prog 38 [.agg (cvP it is bt ix ik ip id ia),.agg (gJ x),.agg (gJ y)] A (fun r A'=>r = .bool (prJB x y) ∧ CG.Chg (((([it,is] ++ [ip] ++ [ix]) ++ ([] ++ [ik])) ++ [ia]) ++ [id]) A A'):=by
  obtain ⟨n1,n2,n3,n4,n5,n6,n7⟩:=hid
  have hdf:=hne
  obtain ⟨⟨_,d2,d3,_,_⟩,_,⟨d10,_,_⟩,_,_⟩:=hne
  have hKp:=(IG.kp UT UX US UK UP UA it is bt ix ik ip ia).and (CG.ClM.kp CD.pl UD RD id)
  have hlx : (CD.oKD x.decls).length ≤ 1048576:=by
    cases hxp : x.decls with
    | none=>simp [CD.oKD]
    | some l=>exact (hU.iD l (hx l hxp)).2
  have hkx : ∀ (o : Option CD.DL),InO UD o → ∀ t ∈ CD.oKD o,InU US UK UP t.un ∧ InO UA t.args:=fun o ho t ht=>by
    cases o with
    | none=>simp [CD.oKD] at ht
    | some l=>exact (hU.iD l (ho l rfl)).1 t ht
  have c1:=CD.same hU.uD erD (IG.kp UT UX US UK UP UA it is bt ix ik ip ia) (g:=72) (by kernel_rfl) [.agg (cvP it is bt ix ik ip id ia)] [] deB deB_iff x.decls y.decls hx hy
    (fun a ha b hb=>de_item hU a b (hkx _ hx a ha) (hkx _ hy b hb) it is bt ix ik ip id ia hdf hia) hlx id (by simp; omega) 
  have c2:=(ex_cmp hU.st x.main y.main hmx hmy bt it ix ⟨d2,by omega,by omega⟩)
  have hcl:=hKp.cls A hA
  have hT : CG.Chg (((([it,is] ++ [ip] ++ [ix]) ++ ([] ++ [ik])) ++ [ia]) ++ [id]) A A:=⟨rfl,fun _ _=>rfl,hcl⟩
  have hlt3:=hKp.lt A hA
  have hlt2 : ∀ k ∈ (((([it,is] ++ [ip] ++ [ix]) ++ ([] ++ [ik])) ++ [ia]) ++ [id]),k < A.length:=fun k hk=>hlt3 k (hKp.sub k hk)
  have hcl2 : ∀ A1,IH UT UX US UK UP UA UD it is bt ix ik ip id ia A1 → ∀ k ∈ (((([it,is] ++ [ip] ++ [ix]) ++ ([] ++ [ik])) ++ [ia]) ++ [id]),∀ n,boxClosed n (A1.getD k .dead) = true:=fun A1 h=>hKp.cls A1 h
  have hsub : ∀ k ∈ [it,ix],k ∈ (((([it,is] ++ [ip] ++ [ix]) ++ ([] ++ [ik])) ++ [ia]) ++ [id]):=by simp
  have hcut : ∀ (A1 L : List Box),A1.length = A.length → IH UT UX US UK UP UA UD it is bt ix ik ip id ia (A1 ++ L) → IH UT UX US UK UP UA UD it is bt ix ik ip id ia A1:=fun A1 L hl h=>hKp.cut h fun k hk=>by rw [hl]; exact hlt3 k hk
  have hml : ∀ t : SX.IEx,(SX.encI t).length = 9:=SX.encI_length
  have hmt : ∀ t : SX.IEx,List.take 9 (SX.encI t) = SX.encI t:=SX.encI_take
  rw [prJB,cvP,gJ,gJ]
  rw [cvP] at c1
  generalize (((([it,is] ++ [ip] ++ [ix]) ++ ([] ++ [ik])) ++ [ia]) ++ [id]) = S at *
  generalize CD.oVD x.decls = a1 at *
  generalize CD.oVD y.decls = a2 at *
  generalize CG.allB deB (CD.oKD x.decls) (CD.oKD y.decls) = r1 at *
  generalize hr2 : decide (SX.erase x.main = SX.erase y.main) = r2 at *
  refine acalls_enter (cf:=cf 27 [0,1,2,3,4,5,6]) foll Try.func38 Try.ntmps38 (by simp [cf]) ?_
  simp only [Try.f38,EnterK_some,zW,zX,zD,builtinA,isLeaf,const1,ustrA,simprocAttr,ti47,ti53,ti55,ti87,ti91,ti95,ti102,ti106,ti110,ca47,ca71,cf,Try.results38]
  refine ⟨by omega,by omega,callO_intro (c1 _ (hKp.app hA _)) ?_⟩
  rintro r A' ⟨rfl,hc,hI⟩
  obtain ⟨A1,L1,rfl,hc1,rfl⟩:=hc.split hlt2
  cases r1 with
  | false =>
    simp only [zW,zX,zD,builtinA,isLeaf,const1,ustrA,simprocAttr,ti47,ti53,ti55,ti87,ti91,ti95,ti102,ti106,ti110,ca47,ca71,cf,Try.results38]
    rw [hc1.take]
    exact ⟨hc1.outer _,hc1⟩
  | true =>
    have hI1:=hcut A1 _ hc1.1 (hI rfl)
    have hl1:=hc1.1
    have hg : ∀ (L : List Box) k,(A1 ++ L).getD (A.length + k) .dead = L.getD k .dead:=fun L k=>by rw [Abs.getD_append_right (by omega),show A.length + k - A1.length = k by omega]
    have hg0 : ∀ (L : List Box),(A1 ++ L).getD A.length .dead = L.getD 0 .dead:=fun L=>hg L 0
    have c3:=fun L=>c2 (A1 ++ L) ⟨⟨(IT.kp UT it).app hI1.1.1.1.1.1.1 L,(IX.kp UX ix).app hI1.1.1.1.2 L⟩,by rw [Abs.getD_append_left (ne_dead hI1.1.1.2.1 (by simp))]; exact hI1.1.1.2.1⟩
    simp only [zW,zX,zD,builtinA,isLeaf,const1,ustrA,simprocAttr,ti47,ti53,ti55,ti87,ti91,ti95,ti102,ti106,ti110,ca47,ca71,cf,Try.results38,hg,hg0,hml,hmt]
    refine callO_intro (c3 _) ?_
    rintro r A' ⟨rfl,hc',_⟩
    obtain ⟨A2,L2,rfl,hc2,rfl⟩:=hc'.split (fun k hk=>by rw [hl1]; exact hlt2 k (hsub k hk))
    have hc3 : CG.Chg S A A2:=⟨hc2.1.trans hc1.1,fun k hk=>(hc2.2.1 k (fun h=>hk (hsub k h))).trans (hc1.2.1 k hk),fun k hk n=>by
      by_cases e : k ∈ [it,ix]
      · exact hc2.2.2 k e n
      · rw [hc2.2.1 k e]; exact hc1.2.2 k hk n⟩
    simp only [zW,zX,zD,builtinA,isLeaf,const1,ustrA,simprocAttr,ti47,ti53,ti55,ti87,ti91,ti95,ti102,ti106,ti110,ca47,ca71,cf,Try.results38]
    rw [hc3.take]
    exact ⟨hc3.outer _,hc3⟩
def Dif8 (it is bt ix ik ip id ia : Nat) : Prop:=Dif it is bt ix ik ip ∧ (ia ≠ it ∧ ia ≠ is ∧ ia ≠ bt ∧ ia ≠ ix ∧ ia ≠ ik ∧ ia ≠ ip) ∧ (id ≠ it ∧ id ≠ is ∧ id ≠ bt ∧ id ≠ ix ∧ id ≠ ik ∧ id ≠ ip ∧ id ≠ ia)
set_option maxRecDepth 100000 in
theorem pc_new (A : List Box) : ACalls Try.prog 37 [] A (fun r A'=>∃ it is bt ix ik ip id ia B,r = .agg (cvP it is bt ix ik ip id ia) ∧ A' = A ++ B ∧ (A.length ≤ it ∧ A.length ≤ is ∧ A.length ≤ bt ∧ A.length ≤ ix ∧ A.length ≤ ik ∧ A.length ≤ ip ∧ A.length ≤ id ∧ A.length ≤ ia) ∧ Dif8 it is bt ix ik ip id ia ∧
    A'.getD it .dead = .mapb [] ∧ A'.getD is .dead = .mapb [] ∧ A'.getD bt .dead = .cells [tF1,tF2,.map it] ∧ A'.getD ix .dead = .mapb [] ∧ A'.getD ik .dead = .mapb [] ∧ A'.getD ip .dead = .mapb [] ∧ A'.getD id .dead = .mapb [] ∧ A'.getD ia .dead = .mapb []):=by
  have hun:=fun B=>uc_new B
  simp only [tF1,tF2,SX.xF1,SX.xF2,cvU,cvP] at hun ⊢
  refine acalls_enterK (cf:=cf 5 [0]) foll Try.func37 Try.ntmps37 (by simp [cf]) ?_
  simp only [Try.f37,EnterK_some,zW,zX,zD,builtinA,isLeaf,const1,ustrA,simprocAttr,ti106,ti108,ti110,ca28,cf,Try.results37]
  refine callO_intro (hun _) ?_
  rintro r A' ⟨it,is,bt,ix,ik,ip,B,rfl,hA',⟨g1,g2,g3,g4,g5,g6⟩,hd,h1,h2,h3,h4,h5,h6⟩
  simp only [List.length_append,List.length_cons,List.length_nil] at g1 g2 g3 g4 g5 g6
  have l1:=ne_dead h1 (by simp)
  have l2:=ne_dead h2 (by simp)
  have l3:=ne_dead h3 (by simp)
  have l4:=ne_dead h4 (by simp)
  have l5:=ne_dead h5 (by simp)
  have l6:=ne_dead h6 (by simp)
  have h0 : A'.getD A.length .dead = .cells [.nilf,.nilf,.nilm,.nilm,.nilf,.nilf,.nilm,.nilf,.nilf,.nilm,.nilm,.nilm,.nilm,.nilm]:=by rw [hA',List.append_assoc,Abs.getD_append_right (Nat.le_refl _),Nat.sub_self]; rfl
  have h0' : ∀ L : List Box,(A' ++ L).getD A.length .dead = .cells [.nilf,.nilf,.nilm,.nilm,.nilf,.nilf,.nilm,.nilf,.nilf,.nilm,.nilm,.nilm,.nilm,.nilm]:=fun L=>by rw [Abs.getD_append_left (by omega)]; exact h0
  obtain ⟨C,hC⟩ : ∃ C,A' = A ++ C:=⟨_,by rw [hA',List.append_assoc]⟩
  clear hA'
  have hs : ∀ (X : Box) (L : List Box) i,i ≠ A.length → i < A'.length → ((A' ++ L).set A.length X).getD i .dead = A'.getD i .dead:=fun X L i hi hl=>by rw [Abs.getD_set_ne' (Ne.symm hi),Abs.getD_append_left hl]
  have hself : ∀ (X : Box) (L : List Box),((A' ++ L).set A.length X).getD A.length .dead = X:=fun X L=>Abs.getD_set_self (by simp; omega)
  have hsr : ∀ (X : Box) (L : List Box) k,((A' ++ L).set A.length X).getD (A'.length + k) .dead = L.getD k .dead:=fun X L k=>by rw [Abs.getD_set_ne' (by omega),Abs.getD_append_right (by omega),Nat.add_sub_cancel_left]
  have hset : ∀ (X : Box) (L : List Box),∃ B,(A' ++ L).set A.length X = A ++ B:=fun X L=>⟨(C ++ L).set 0 X,by rw [hC,List.append_assoc,List.set_append_right _ _ (Nat.le_refl _),Nat.sub_self]⟩
  have hs0 : ∀ (X : Box) (L : List Box),((A' ++ L).set A.length X).getD A'.length .dead = L.getD 0 .dead:=fun X L=>hsr X L 0
  simp only [zW,zX,zD,builtinA,isLeaf,const1,ustrA,simprocAttr,ti106,ti108,ti110,ca28,cf,Try.results37,h0',hself]
  obtain ⟨B',hB'⟩:=hset _ _
  refine ⟨it,is,bt,ix,ik,ip,A'.length,A'.length + 1,B',rfl,hB',⟨by omega,by omega,by omega,by omega,by omega,by omega,by omega,by omega⟩,⟨hd,⟨by omega,by omega,by omega,by omega,by omega,by omega⟩,⟨by omega,by omega,by omega,by omega,by omega,by omega,by omega⟩⟩,?_,?_,?_,?_,?_,?_,?_,?_⟩
  · rw [hs _ _ _ (by omega) l1]; exact h1
  · rw [hs _ _ _ (by omega) l2]; exact h2
  · rw [hs _ _ _ (by omega) l3]; exact h3
  · rw [hs _ _ _ (by omega) l4]; exact h4
  · rw [hs _ _ _ (by omega) l5]; exact h5
  · rw [hs _ _ _ (by omega) l6]; exact h6
  · rw [hs0]; rfl
  · rw [hsr]; rfl
set_option maxRecDepth 100000 in
theorem impl_ProgramSameI {UT : List LL} {UX : List SX.LL} {US : List SL} {UK : List KL} {UP : List CP.PL} {UA : List CA.AL} {UD : List CD.DL} (hU : KnG UT UX US UK UP UA UD) (x y : PrJ) (hx : InO UD x.decls) (hy : InO UD y.decls)
    (hmx : (∀ z,SX.below x.main = some z → z ∈ UX) ∧ TU UT (SX.argX x.main)) (hmy : (∀ z,SX.below y.main = some z → z ∈ UX) ∧ TU UT (SX.argX y.main)) (A : List Box) :
    ACalls Try.prog 14 [.agg (gJ x),.agg (gJ y)] A (fun r A'=>r = .bool (prJB x y) ∧ A' = A):=by
  have hcm:=fun it is bt ix ik ip id ia (h : Dif8 it is bt ix ik ip id ia)=>pr_cmp hU x y hx hy hmx hmy it is bt ix ik ip id ia h.1 h.2.1 h.2.2
  have hml : ∀ t : PrJ,(gJ t).length = 10:=fun t=>by simp [gJ,SX.encI_length]
  have hmt : ∀ t : PrJ,List.take 10 (gJ t) = gJ t:=fun t=>List.take_of_length_le (by rw [hml]; exact Nat.le_refl _)
  have hml1:=hml x
  have hml2:=hml y
  have hmt1:=hmt x
  have hmt2:=hmt y
  generalize gJ x = gx at *
  generalize gJ y = gy at *
  refine acalls_enter (cf:=cf 9 [0,1,2,3,4]) foll Try.func14 Try.ntmps14 (by simp [cf]) ?_
  simp only [Try.f14,EnterK_some,zW,zX,zD,builtinA,isLeaf,const1,ustrA,simprocAttr,ti55,ca37,ca38,cf,Try.results14]
  refine .inr (drawI_intro (.pur 1 (.pur 2 (.or 0 (.or 3 (.pur 4 .done) .stop) .stop))) (IB2 A.length (.cells gx) (A.length + 1) (.cells gy)) (by kernel_rfl) ?_ ?_)
  · exact ⟨⟨by simp,by simp⟩,by simp,by simp⟩
  refine wpI_pur_intro (v:=?_) _ rfl rfl (by decide) rfl (fun A' hI=>?_) ?_
  rotate_left
  · simp only [zW,zX,zD,builtinA,isLeaf,const1,ustrA,simprocAttr,ti55,ca37,ca38,cf,Try.results14,hI.1,hI.2,hI.1.1,hI.1.2,hI.2.1,hI.2.2,hml1,hmt1]
    first | exact ⟨rfl,rfl⟩ | exact rfl
  refine wpI_pur_intro (v:=?_) _ rfl rfl (by decide) rfl (fun A' hI=>?_) ?_
  rotate_left
  · simp only [zW,zX,zD,builtinA,isLeaf,const1,ustrA,simprocAttr,ti55,ca37,ca38,cf,Try.results14,hI.1,hI.2,hI.1.1,hI.1.2,hI.2.1,hI.2.2,hml2,hmt2]
    first | exact ⟨rfl,rfl⟩ | exact rfl
  simp only [zW,zX,zD,builtinA,isLeaf,const1,ustrA,simprocAttr,ti55,ca37,ca38,cf,Try.results14,wpI_or_eq,wpI_stop_eq,wpI_done_eq]
  refine callK_intro (by simp only [zW,zX,zD,builtinA,isLeaf,const1,ustrA,simprocAttr]; rfl) (pc_new _) ?_ rfl
  rintro r A' ⟨it,is,bt,ix,ik,ip,id,ia,B,rfl,hA',⟨g1,g2,g3,g4,g5,g6,g7,g8⟩,hd,h1,h2,h3,h4,h5,h6,h7,h8⟩
  simp only [List.length_append,List.length_cons,List.length_nil] at g1 g2 g3 g4 g5 g6 g7 g8
  have hI2 : IB2 A.length (.cells gx) (A.length + 1) (.cells gy) A':=by
    rw [hA',List.append_assoc]
    exact ⟨⟨by rw [Abs.getD_append_right (Nat.le_refl _),Nat.sub_self]; rfl,by simp⟩,by rw [Abs.getD_append_right (by omega),show A.length + 1 - A.length = 1 by omega]; rfl,by simp⟩
  have hIU : IH UT UX US UK UP UA UD it is bt ix ik ip id ia A':=⟨⟨⟨⟨⟨⟨⟨ne_dead h1 (by simp),[],h1,⟨[],⟨by simp,by simp,by simp⟩,by simp⟩⟩,CG.ClM.new _ _ _ (ne_dead h2 (by simp)) h2⟩,CG.ClM.new _ _ _ (ne_dead h6 (by simp)) h6⟩,ne_dead h4 (by simp),[],h4,⟨[],⟨by simp,by simp,by simp⟩,by simp⟩⟩,h3,CG.ClM.new _ _ _ (ne_dead h5 (by simp)) h5⟩,CG.ClM.new _ _ _ (ne_dead h8 (by simp)) h8⟩,CG.ClM.new _ _ _ (ne_dead h7 (by simp)) h7⟩
  have hfr : ∃ C,A' = A ++ C:=⟨_,by rw [hA',List.append_assoc]⟩
  clear hA'
  simp only [zW,zX,zD,builtinA,isLeaf,const1,ustrA,simprocAttr,ti55,ca37,ca38,cf,Try.results14,wpI_or_eq,wpI_stop_eq,wpI_done_eq]
  refine ⟨hI2,?_⟩
  refine callO_intro (hcm it is bt ix ik ip id ia hd _ hIU) ?_
  rintro r A2 ⟨rfl,hc⟩
  have hge : ∀ k ∈ (((([it,is] ++ [ip] ++ [ix]) ++ ([] ++ [ik])) ++ [ia]) ++ [id]),A.length + 2 ≤ k:=fun k hk=>by
    simp at hk; omega
  generalize (((([it,is] ++ [ip] ++ [ix]) ++ ([] ++ [ik])) ++ [ia]) ++ [id]) = S at *
  have hI3 : IB2 A.length (.cells gx) (A.length + 1) (.cells gy) A2:=by
    have hk : ∀ k,k < A.length + 2 → A2.getD k .dead = A'.getD k .dead:=fun k hk=>hc.2.1 k (fun h=>by have:=hge k h; omega)
    have hl:=hc.1
    exact ⟨⟨(hk _ (by omega)).trans hI2.1.1,by have:=hI2.1.2; omega⟩,(hk _ (by omega)).trans hI2.2.1,by have:=hI2.2.2; omega⟩
  obtain ⟨C,rfl⟩:=hfr
  obtain ⟨q1,q2⟩:=Chg.far (S:=S) (A:=A) (L:=C) hc fun k hk=>by have:=hge k hk; omega
  simp only [zW,zX,zD,builtinA,isLeaf,const1,ustrA,simprocAttr,ti55,ca37,ca38,cf,Try.results14,wpI_or_eq,wpI_stop_eq,wpI_done_eq,q2]
  refine ⟨hI3,?_⟩
  refine wpI_pur_intro (v:=?_) _ rfl rfl (by decide) rfl (fun A' hI=>?_) ?_
  rotate_left
  · simp only [zW,zX,zD,builtinA,isLeaf,const1,ustrA,simprocAttr,ti55,ca37,ca38,cf,Try.results14,hI.1,hI.2]
    first | exact ⟨rfl,rfl⟩ | exact rfl
  simp only [zW,zX,zD,builtinA,isLeaf,const1,ustrA,simprocAttr,ti55,ca37,ca38,cf,Try.results14,wpI_or_eq,wpI_stop_eq,wpI_done_eq,q2]
  exact q1
end Go.Proofs.Ytijlnkfiadajhaa
