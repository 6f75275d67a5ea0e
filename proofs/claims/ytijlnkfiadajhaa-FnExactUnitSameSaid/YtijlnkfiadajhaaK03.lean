/- ClsS, TypesVal, LawTy, Exprs. -/
import Derived.Test.YtijlnkfiadajhaaK02
import Derived.Test.YtijlnkfiadajhaaAbsW3
/- The program's classes of lists: items of signatures. -/
set_option linter.unusedVariables false
set_option linter.unusedSimpArgs false
namespace Go.Proofs.Ytijlnkfiadajhaa
namespace CS
open Go.Abs
def pl : CG.Pl SL:=⟨kvJ,SL.idn,132,fun x y=>by
    have : decide (SL.idn x = SL.idn y) = (decide (x.b = y.b ∧ x.off = y.off) && (decide (((x.ks.length : Nat) : Int) = ((y.ks.length : Nat) : Int)) && true)):=by
      rw [Bool.eq_iff_iff]
      simp [SL.idn,Prod.mk.injEq]
      omega
    rw [this]
    simp [eqK,kvJ,c1A],fun _=>rfl,fun _ _=>rfl⟩
abbrev KK : List (Nat × TK):=[(0,.ptr 132),(1,.int .i64)]
abbrev esM (m : List (SL × SL)) : List (AV × AV):=CG.es pl m
theorem fes (l : SL) (m : List (SL × SL)) : findA KK (kvJ l) (esM m) 0 = some ((CG.fnd pl l m 0).map fun p=>(p.1,.agg (kvJ p.2))):=CG.find_es pl l m 0
set_option maxRecDepth 100000 in
theorem find {U : List SL} (hU : ∀ x ∈ U,∀ y ∈ U,x.idn = y.idn → x = y) {R : SL → SL → Prop} (hR : ∀ x,R x x) (hRt : ∀ x y z,R x y → R y z → R x z) (m : List (SL × SL)) (hm : CG.CI U R m) (l : SL) (hl : l ∈ U) (i : Nat) (A : List Box) (hi : i < A.length) (hA : A.getD i .dead = .mapb (esM m)) :
    ACalls Try.prog 119 [.map i,.agg (kvJ l)] A (fun r A'=>∃ x m',r = .agg (kvJ x) ∧ x ∈ U ∧ R l x ∧ (∀ p ∈ m',p.1 ≠ x) ∧ CG.CI U R m' ∧ m'.map (·.1) = m.map (·.1) ∧ A' = A.set i (.mapb (esM m'))):=by
  have hgA : ∀ X (B : List Box),(A.set i X ++ B).getD i .dead = X:=fun X B=>by rw [getD_app1 _ _ _ _ (by simpa using hi),getD_set1 hi]
  have hset : A.set i (.mapb (esM m)) = A:=CG.set_same hi hA
  rw [kvJ]
  refine acalls_enter (cf:=cf 29 [0,1,3,4,5,6,7,8,16,24]) foll Try.func119 Try.ntmps119 (by simp [cf]) ?_
  simp only [Try.f119,EnterK_some,zW,zX,zD,builtinA,isLeaf,const1,ustrA,simprocAttr,ti80,ti206,mi80,cf,Try.results119]
  refine aloop_intro [0,3,4] (fun e A'=>∃ l' m' B,e = [(0,.map i),(3,.ptr A.length 0),(4,.ptr (A.length + 1) 0)] ∧ A' = A.set i (.mapb (esM m')) ++ (.cells (kvJ l') :: .cells [.nilp,.int .i64 0] :: B) ∧ l' ∈ U ∧ R l l' ∧ CG.CI U R m' ∧ m'.map (·.1) = m.map (·.1)) (fun _ A'=>CG.mu pl A.length i A') ?_ ?_
  · simp only [zW,zX,zD,builtinA,isLeaf,const1,ustrA,simprocAttr,ti80,ti206,mi80,cf,Try.results119]
    exact ⟨l,m,[],by rw [hset]; rfl,hl,hR l,hm,rfl⟩
  · rintro e A' ⟨l',m',B,rfl,rfl,hl',hr',hm',hk'⟩
    have hmu : CG.mu pl A.length i (A.set i (.mapb (esM m')) ++ (.cells (kvJ l') :: .cells [.nilp,.int .i64 0] :: B)) = CG.posA pl (kvJ l') (esM m'):=by
      unfold CG.mu
      rw [hgA,getD_sapp0]; rfl
    rw [hmu]
    have hf:=fes l' m'
    rw [kvJ] at hf ⊢
    cases hfl : CG.fnd pl l' m' 0 with
    | none =>
      rw [hfl] at hf
      simp only [Option.map_none] at hf
      simp only [zW,zX,zD,builtinA,isLeaf,const1,ustrA,simprocAttr,ti80,ti206,mi80,cf,Try.results119,hi,hf]
      refine ⟨outer_set A _ i _ (CG.es_closed pl _ _),l',m',rfl,hl',hr',fun p hp e=>CG.fnd_none pl hfl p hp (by rw [e]),hm',hk',rfl⟩
    | some q =>
      obtain ⟨j,up⟩:=q
      rw [hfl] at hf
      simp only [Option.map_some] at hf
      obtain ⟨_,hj,hj1,hj2⟩:=CG.fnd_some pl hfl
      simp only [Nat.sub_zero] at hj hj1 hj2
      have hmj : m'[j]? = some (l',up):=by
        have e1 : m'[j]? = some m'[j]:=List.getElem?_eq_getElem hj
        have e2 : m'.getD j (l',l') = m'[j]:=by simp [List.getD,hj]
        rw [e2] at hj1 hj2
        have:=hU _ (hm'.mem _ (List.getElem_mem hj)).1 _ hl' hj1
        rw [e1]
        congr 1
        exact Prod.ext this hj2
      have hup:=(hm'.mem _ (List.mem_of_getElem? hmj)).2
      have hru : R l up:=hRt _ _ _ hr' hup.2
      have hf2:=fes up m'
      rw [kvJ] at hf2
      rw [kvJ] at hf
      have hpl : CG.posA pl (kvJ l') (esM m') = m'.length - j:=by have:=CG.posA_es pl l' m'; rw [hfl] at this; exact this
      cases hfu : CG.fnd pl up m' 0 with
      | none =>
        rw [hfu] at hf2
        simp only [Option.map_none] at hf2
        have hpu : CG.posA pl (kvJ up) (esM m') = 0:=by have:=CG.posA_es pl up m'; rw [hfu] at this; exact this
        simp only [zW,zX,zD,builtinA,isLeaf,const1,ustrA,simprocAttr,ti80,ti206,mi80,cf,Try.results119,hi,hf,hf2,LoopK_eq]
        refine ⟨⟨up,m',B ++ [.cells (kvJ up),.cells [.nilp,.int .i64 0]],rfl,hup.1,hru,hm',hk'⟩,?_⟩
        unfold CG.mu
        rw [hgA,getD_sapp0]
        show CG.posA pl (kvJ up) (esM m') < _
        rw [hpu]
        rw [kvJ] at hpl
        rw [hpl]
        omega
      | some q2 =>
        obtain ⟨j2,top⟩:=q2
        rw [hfu] at hf2
        simp only [Option.map_some] at hf2
        rw [kvJ] at hf2
        obtain ⟨_,hk,hk1,hk2⟩:=CG.fnd_some pl hfu
        simp only [Nat.sub_zero] at hk hk1 hk2
        have hmk : m'[j2]? = some (up,top):=by
          have e1 : m'[j2]? = some m'[j2]:=List.getElem?_eq_getElem hk
          have e2 : m'.getD j2 (up,up) = m'[j2]:=by simp [List.getD,hk]
          rw [e2] at hk1 hk2
          have:=hU _ (hm'.mem _ (List.getElem_mem hk)).1 _ hup.1 hk1
          rw [e1]
          congr 1
          exact Prod.ext this hk2
        have hjj : j < j2:=by
          rcases Nat.lt_or_ge j j2 with h' | h'
          · exact h'
          · exact absurd rfl (hm'.ord j2 j _ _ hmk hmj h')
        obtain ⟨c1,c2⟩:=hm'.cut hmj hmk hRt
        have hes : (esM m').set j (.agg [.ivptr l'.b l'.off (jE l'.hd),.int .i64 (l'.ks.length : Nat)],.agg [.ivptr top.b top.off (jE top.hd),.int .i64 (top.ks.length : Nat)]) = esM (m'.set j (l',top)):=by
          unfold esM CG.es
          rw [List.map_set]
          rfl
        have hpu : CG.posA pl (kvJ up) (esM (m'.set j (l',top))) = m'.length - j2:=by
          have h1:=CG.posA_keys pl up c2
          have h2:=CG.posA_es pl up m'
          rw [hfu] at h2
          exact h1.trans h2
        simp only [zW,zX,zD,builtinA,isLeaf,const1,ustrA,simprocAttr,ti80,ti206,mi80,cf,Try.results119,hi,hf,hf2,hes,LoopK_eq]
        refine ⟨⟨up,m'.set j (l',top),B ++ [.cells (kvJ up),.cells (kvJ top)],rfl,hup.1,hru,c1,c2.trans hk'⟩,?_⟩
        unfold CG.mu
        rw [hgA,getD_sapp0]
        show CG.posA pl (kvJ up) (esM (m'.set j (l',top))) < _
        rw [hpu]
        rw [kvJ] at hpl
        rw [hpl]
        omega
set_option maxRecDepth 100000 in
theorem join {U : List SL} (hU : ∀ x ∈ U,∀ y ∈ U,x.idn = y.idn → x = y) {R : SL → SL → Prop} (hR : ∀ x,R x x) (hRt : ∀ x y z,R x y → R y z → R x z) (hRs : ∀ x y,R x y → R y x) (m : List (SL × SL)) (hm : CG.CI U R m) (x y : SL) (hx : x ∈ U) (hy : y ∈ U) (i : Nat) (A : List Box) (hi : i < A.length) (hA : A.getD i .dead = .mapb (esM m)) :
    ACalls Try.prog 111 [.map i,.islice x.b x.off (jEs x.ks),.islice y.b y.off (jEs y.ks)] A (fun r A'=>∃ m',A' = A.set i (.mapb (esM m')) ∧
      ((r = .bool false ∧ R x y ∧ CG.CI U R m') ∨ (r = .bool true ∧ (R x y → CG.CI U R m')))):=by
  have hgA : ∀ X (B : List Box),(A.set i X ++ B).getD i .dead = X:=fun X B=>by rw [getD_app1 _ _ _ _ (by simpa using hi),getD_set1 hi]
  have hxl : (jEs x.ks).length = x.ks.length:=jEs_length _
  have hyl : (jEs y.ks).length = y.ks.length:=jEs_length _
  have hx0 : decide (((x.ks.length : Nat) : Int) = 0) = false:=decide_eq_false (by simp [SL.ks]; omega)
  have hxg : (jEs x.ks).getD 0 [] = jE x.hd:=by simp [SL.ks,jEs]
  have hyg : (jEs y.ks).getD 0 [] = jE y.hd:=by simp [SL.ks,jEs]
  have hxp : 0 < x.ks.length:=by simp [SL.ks]
  have hyp : 0 < y.ks.length:=by simp [SL.ks]
  refine acalls_enter (cf:=cf 32 [0,1,2,6,7,8,11,28]) foll Try.func111 Try.ntmps111 (by simp [cf]) ?_
  simp only [Try.f111,EnterK_some,zW,zX,zD,builtinA,isLeaf,const1,ustrA,simprocAttr,ti3,ti31,ti80,ti132,ti206,ca119,mi80,ks206,cf,Try.results111]
  simp only [zW,zX,zD,builtinA,isLeaf,const1,ustrA,simprocAttr,ti3,ti31,ti80,ti132,ti206,ca119,mi80,ks206,cf,Try.results111,hxl,hyl,hx0,hxg,hyg,jE_length]
  refine ⟨by omega,?_⟩
  refine callK_intro (by simp only [zW,zX,zD,builtinA,isLeaf,const1,ustrA,simprocAttr]; rfl) (find hU hR hRt m hm x hx i _ hi hA) ?_ rfl
  rintro v A' ⟨x',m1,rfl,hx',hrx,hnx,hm1,hk1,rfl⟩
  rw [kvJ]
  simp only [zW,zX,zD,builtinA,isLeaf,const1,ustrA,simprocAttr,ti3,ti31,ti80,ti132,ti206,ca119,mi80,ks206,cf,Try.results111,hi,hxl,hyl,hx0,hxg,hyg,jE_length]
  refine ⟨by omega,?_⟩
  refine callK_intro (by simp only [zW,zX,zD,builtinA,isLeaf,const1,ustrA,simprocAttr]; rfl) (find hU hR hRt m1 hm1 y hy i _ (by simp; omega) (hgA _ _)) ?_ rfl
  rintro v A' ⟨y',m2,rfl,hy',hry,hny,hm2,hk2,rfl⟩
  have hnx2 : ∀ p ∈ m2,p.1 ≠ x':=fun p hp e=>by
    have : p.1 ∈ m2.map (·.1):=List.mem_map_of_mem hp
    rw [hk2] at this
    obtain ⟨q,hq,he⟩:=List.mem_map.1 this
    exact hnx q hq (he.trans e)
  rw [kvJ]
  by_cases he : x' = y'
  · subst he
    simp only [zW,zX,zD,builtinA,isLeaf,const1,ustrA,simprocAttr,ti3,ti31,ti80,ti132,ti206,ca119,mi80,ks206,cf,Try.results111,hi,hxl,hyl,jE_length]
    exact ⟨outer_set A _ i _ (CG.es_closed pl _ _),m2,rfl,.inl ⟨hRt _ _ _ hrx (hRs _ _ hry),hm2⟩⟩
  · have hne : (decide (x'.b = y'.b ∧ x'.off = y'.off) && decide (((x'.ks.length : Nat) : Int) = ((y'.ks.length : Nat) : Int))) = false:=by
      rw [Bool.eq_false_iff]
      intro hh
      simp only [Bool.and_eq_true,decide_eq_true_eq] at hh
      refine he (hU _ hx' _ hy' ?_)
      simp only [SL.idn,Prod.mk.injEq]
      exact ⟨hh.1.1,hh.1.2,by omega⟩
    have hfn : CG.fnd pl x' m2 0 = none:=by
      cases hq : CG.fnd pl x' m2 0 with
      | none=>rfl
      | some q =>
        obtain ⟨j,v⟩:=q
        obtain ⟨_,hj,hj1,_⟩:=CG.fnd_some pl hq
        simp only [Nat.sub_zero] at hj hj1
        have e2 : m2.getD j (x',x') = m2[j]:=by simp [List.getD,hj]
        rw [e2] at hj1
        exact absurd (hU _ (hm2.mem _ (List.getElem_mem hj)).1 _ hx' hj1) (hnx2 _ (List.getElem_mem hj))
    have hf:=fes x' m2
    rw [hfn,kvJ] at hf
    simp only [Option.map_none] at hf
    have hes : esM m2 ++ [(.agg [.ivptr x'.b x'.off (jE x'.hd),.int .i64 (x'.ks.length : Nat)],.agg [.ivptr y'.b y'.off (jE y'.hd),.int .i64 (y'.ks.length : Nat)])] = esM (m2 ++ [(x',y')]):=by
      simp [esM,CG.es,pl,kvJ]
    simp only [zW,zX,zD,builtinA,isLeaf,const1,ustrA,simprocAttr,ti3,ti31,ti80,ti132,ti206,ca119,mi80,ks206,cf,Try.results111,hi,hxl,hyl,jE_length]
    rw [hne]
    simp only [zW,zX,zD,builtinA,isLeaf,const1,ustrA,simprocAttr,ti3,ti31,ti80,ti132,ti206,ca119,mi80,ks206,cf,Try.results111,hi,hf,hes]
    refine ⟨outer_set A _ i _ (CG.es_closed pl _ _),m2 ++ [(x',y')],rfl,.inr fun h4=>?_⟩
    exact hm2.push hx' hy' (hRt _ _ _ (hRs _ _ hrx) (hRt _ _ _ h4 hry)) hny he
set_option maxRecDepth 100000 in
theorem join0 (i : Nat) (A : List Box) : ACalls Try.prog 111 [.map i,.slice [],.slice []] A (fun r A'=>r = .bool false ∧ A' = A):=by
  refine acalls_enter (cf:=cf 32 [0,1,2,6,7,8,11,28]) foll Try.func111 Try.ntmps111 (by simp [cf]) ?_
  simp only [Try.f111,EnterK_some,zW,zX,zD,builtinA,isLeaf,const1,ustrA,simprocAttr,ti3,ti31,ti80,ti132,ti206,ca119,mi80,ks206,cf,Try.results111]
set_option maxRecDepth 100000 in
theorem eqf {D S : List Nat} {I : List Box → Prop} (hK : CG.Kp D S I) {g : FuncId} (hg : callable Try.prog g = true) (fs cs : List AV) (eq : SigJ → SigJ → Bool) (a b : List SigJ) (hcall : ∀ x ∈ a,∀ y ∈ b,CG.Cmp Try.prog S I g (fs ++ [.agg (jE x),.agg (jE y)] ++ cs) (eq x y)) (hla : a.length ≤ 1048576) (b1 o1 b2 o2 : Nat) : CG.Cmp Try.prog S I 112 [.islice b1 o1 (jEs a),.islice b2 o2 (jEs b),.func (.func g) fs cs] (CG.allB eq a b):=by
  intro A hA
  have hT:=CG.Chg.rfl hK hA
  by_cases hl : a.length = b.length
  · have hd : decide ((a.length : Int) = (b.length : Int)) = true:=decide_eq_true (by omega)
    refine acalls_enter (cf:=cf 32 [0,1,2,6,7,8,9,14,15,16,17,18,30]) foll Try.func112 Try.ntmps112 (by simp [cf]) ?_
    simp only [Try.f112,EnterK_some,zW,zX,zD,builtinA,isLeaf,const1,ustrA,simprocAttr,ti3,ti31,ti132,cf,Try.results112]
    simp only [zW,zX,zD,builtinA,isLeaf,const1,ustrA,simprocAttr,ti3,ti31,ti132,cf,Try.results112,jEs_length,hd]
    refine aloop_intro [1,2,15,16,17] (fun e A'=>∃ (i : Nat) (A1 B : List Box),i ≤ a.length ∧ CG.allB eq (a.drop i) (b.drop i) = CG.allB eq a b ∧ e = [(1,.islice b2 o2 (jEs b)),(2,.func (.func g) fs cs),(15,.islice b1 o1 (jEs a)),(16,.int .i64 a.length),(17,.int .i64 i)] ∧ A' = A1 ++ B ∧ CG.Chg S A A1 ∧ I A1) (fun e _=>a.length - (intOf (Abs.look 17 e)).toNat) ?_ ?_
    · simp only [zW,zX,zD,builtinA,isLeaf,const1,ustrA,simprocAttr,ti3,ti31,ti132,cf,Try.results112,jEs_length]
      exact ⟨0,A,[],by omega,rfl,rfl,by simp,hT,hA⟩
    · rintro e A' ⟨i,A1,B,hi2,hq,rfl,rfl,hc1,hI1⟩
      simp only [zW,zX,zD,builtinA,isLeaf,const1,ustrA,simprocAttr,ti3,ti31,ti132,cf,Try.results112,jEs_length]
      refine condK_intro (fun h2=>?_) (fun h2=>?_)
      · have hi3 : i < a.length:=by simpa using h2
        have hj2 : i < b.length:=by omega
        rw [CG.allB_at sj0 a b hi3 hj2] at hq
        have e1:=jEs_getD hi3
        have e2:=jEs_getD hj2
        have hxa : a.getD i sj0 ∈ a:=by simp [List.getD,hi3]
        have hxb : b.getD i sj0 ∈ b:=by simp [List.getD,hj2]
        have hi1 : IntKind.i64.wrap ((i : Int) + 1) = ((i + 1 : Nat) : Int):=by rw [wrap64 (by omega) (by omega)]; rfl
        generalize a.getD i sj0 = x at *
        generalize b.getD i sj0 = y at *
        have pa : (0 : Int) ≤ (i : Int) ∧ (i : Int) < (a.length : Int):=⟨by omega,by omega⟩
        have pb : (0 : Int) ≤ (i : Int) ∧ (i : Int) < (b.length : Int):=⟨by omega,by omega⟩
        have hcl:=fun L=>hcall x hxa y hxb (A1 ++ L) (hK.app hI1 L)
        have hlt:=hK.lt A1 hI1
        simp only [zW,zX,zD,builtinA,isLeaf,const1,ustrA,simprocAttr,ti3,ti31,ti132,cf,Try.results112,e1,e2,jE_length,jE_take,jEs_length]
        refine ⟨pa,pb,?_⟩
        refine wpO_callv _ _ _ _ _ _ _ _ _ _ _ _ _ _ _ ?_
        simp only [zW,zX,zD,builtinA,isLeaf,const1,ustrA,simprocAttr,ti3,ti31,ti132,cf,Try.results112]
        refine ⟨hg,callO_intro (by simpa using hcl _) ?_⟩
        rintro r A' ⟨rfl,hc2,hI2⟩
        obtain ⟨A2,L2,rfl,hc3,_⟩:=hc2.split fun k hk=>hlt k (hK.sub k hk)
        have hc4:=hc1.trans hc3
        cases hh : eq x y with
        | true =>
          rw [hh,Bool.true_and] at hq
          simp only [zW,zX,zD,builtinA,isLeaf,const1,ustrA,simprocAttr,ti3,ti31,ti132,cf,Try.results112,hi1,LoopK_eq]
          refine ⟨⟨i + 1,A2,L2,by omega,hq,rfl,rfl,hc4,hK.cut (hI2 hh) fun k hk=>by rw [hc3.1]; exact hlt k hk⟩,?_⟩
          simp only [intOf]; omega
        | false =>
          rw [hh,Bool.false_and] at hq
          simp only [zW,zX,zD,builtinA,isLeaf,const1,ustrA,simprocAttr,ti3,ti31,ti132,cf,Try.results112]
          rw [hc4.take]
          exact ⟨hc4.outer _,by rw [← hq],hc4,fun h=>by rw [← hq] at h; cases h⟩
      · have : i = a.length:=by simp at h2; omega
        subst this
        have hb0 : b.drop a.length = []:=by simp; omega
        rw [List.drop_length,hb0,CG.allB] at hq
        simp only [zW,zX,zD,builtinA,isLeaf,const1,ustrA,simprocAttr,ti3,ti31,ti132,cf,Try.results112]
        rw [hc1.take]
        exact ⟨hc1.outer _,by rw [← hq],hc1,fun _=>hI1⟩
  · have hd : decide ((a.length : Int) = (b.length : Int)) = false:=decide_eq_false (by omega)
    rw [CG.allB_len (by simpa using hl)]
    refine acalls_enter (cf:=cf 32 [0,1,2,6,7,8,9,14,15,16,17,18,30]) foll Try.func112 Try.ntmps112 (by simp [cf]) ?_
    simp only [Try.f112,EnterK_some,zW,zX,zD,builtinA,isLeaf,const1,ustrA,simprocAttr,ti3,ti31,ti132,cf,Try.results112]
    simp only [zW,zX,zD,builtinA,isLeaf,const1,ustrA,simprocAttr,ti3,ti31,ti132,cf,Try.results112,jEs_length,hd]
    exact hT
set_option maxRecDepth 100000 in
theorem same {δ : Type} {U : List SL} (hU : ∀ x ∈ U,∀ y ∈ U,x.idn = y.idn → x = y) (er : SigJ → δ) {D S : List Nat} {J : List Box → Prop} (hK : CG.Kp D S J) {g : FuncId} (hg : callable Try.prog g = true) (fs cs : List AV) (eq : SigJ → SigJ → Bool) (heq : ∀ x y,eq x y = true ↔ er x = er y) (x y : Option SL) (hx : ∀ l,x = some l → l ∈ U) (hy : ∀ l,y = some l → l ∈ U)
    (hcall : ∀ a ∈ oK x,∀ b ∈ oK y,CG.Cmp Try.prog S J g (fs ++ [.agg (jE a),.agg (jE b)] ++ cs) (eq a b)) (hla : (oK x).length ≤ 1048576) (is : Nat) (his : is ∉ D) :
    CG.Cmp Try.prog (S ++ [is]) (fun A=>J A ∧ CG.ClM pl U (fun x y=>x.ks.map er = y.ks.map er) is A) 91 [.map is,oV x,oV y,.func (.func g) fs cs] (CG.allB eq (oK x) (oK y)):=by
  intro A ⟨hJ,hM⟩
  have hK2:=hK.and (CG.ClM.kp pl U (fun x y=>x.ks.map er = y.ks.map er) is)
  have hT:=CG.Chg.rfl hK2 ⟨hJ,hM⟩
  have hTA : (A ++ []).take A.length = A:=hT.take []
  cases x with
  | none =>
    cases y with
    | none =>
      simp only [oV,oK]
      refine acalls_enter (cf:=cf 27 [0,1,2,3,8]) foll Try.func91 Try.ntmps91 (by simp [cf]) ?_
      simp only [Try.f91,EnterK_some,zW,zX,zD,builtinA,isLeaf,const1,ustrA,simprocAttr,ti3,ti31,ti132,ca111,ca112,cf,Try.results91]
      refine callO_intro (join0 is A) ?_
      rintro r A' ⟨rfl,rfl⟩
      simp only [zW,zX,zD,builtinA,isLeaf,const1,ustrA,simprocAttr,ti3,ti31,ti132,ca111,ca112,cf,Try.results91]
      exact ⟨rfl,hT,fun _=>⟨hJ,hM⟩⟩
    | some y =>
      have hd : decide ((0 : Int) = (y.ks.length : Int)) = false:=decide_eq_false (by simp [SL.ks]; omega)
      simp only [oV,oK]
      refine acalls_enter (cf:=cf 27 [0,1,2,3,8]) foll Try.func91 Try.ntmps91 (by simp [cf]) ?_
      simp only [Try.f91,EnterK_some,zW,zX,zD,builtinA,isLeaf,const1,ustrA,simprocAttr,ti3,ti31,ti132,ca111,ca112,cf,Try.results91]
      simp only [zW,zX,zD,builtinA,isLeaf,const1,ustrA,simprocAttr,ti3,ti31,ti132,ca111,ca112,cf,Try.results91,jEs_length,hd]
      exact ⟨by simp [SL.ks,CG.allB],hT,fun _=>⟨hJ,hM⟩⟩
  | some x =>
    cases y with
    | none =>
      have hd : decide ((x.ks.length : Int) = 0) = false:=decide_eq_false (by simp [SL.ks]; omega)
      simp only [oV,oK]
      refine acalls_enter (cf:=cf 27 [0,1,2,3,8]) foll Try.func91 Try.ntmps91 (by simp [cf]) ?_
      simp only [Try.f91,EnterK_some,zW,zX,zD,builtinA,isLeaf,const1,ustrA,simprocAttr,ti3,ti31,ti132,ca111,ca112,cf,Try.results91]
      simp only [zW,zX,zD,builtinA,isLeaf,const1,ustrA,simprocAttr,ti3,ti31,ti132,ca111,ca112,cf,Try.results91,jEs_length,hd]
      exact ⟨by simp [SL.ks,CG.allB],hT,fun _=>⟨hJ,hM⟩⟩
    | some y =>
      simp only [oV,oK] at hcall hla ⊢
      have hxU:=hx x rfl
      have hyU:=hy y rfl
      have hiff:=CG.allB_iff heq x.ks y.ks
      by_cases hl : x.ks.length = y.ks.length
      · have hd : decide ((x.ks.length : Int) = (y.ks.length : Int)) = true:=decide_eq_true (by omega)
        obtain ⟨hiA,m,hm,hci⟩:=hM
        have hput : ∀ m',J (A.set is (.mapb (esM m'))):=fun m'=>hK.loc A _ (fun k hk=>by rw [Abs.getD_set_ne' (fun e=>his (by rw [e]; exact hk))]) hJ
        have hchg : ∀ m',CG.Chg (S ++ [is]) A (A.set is (.mapb (esM m'))):=fun m'=>⟨by simp,fun k hk=>by rw [Abs.getD_set_ne' (fun e=>hk (by simp [e]))],fun k hk n=>by
          by_cases e : k = is
          · subst e; rw [Abs.getD_set_self hiA]; exact CG.es_closed pl n m'
          · rw [Abs.getD_set_ne' (Ne.symm e)]; exact hT.2.2 k hk n⟩
        have hcm : ∀ m' (A' : List Box),A'.length = A.length → A'.getD is .dead = .mapb (esM m') → CG.CI U (fun x y=>x.ks.map er = y.ks.map er) m' → CG.ClM pl U (fun x y=>x.ks.map er = y.ks.map er) is A':=fun m' A' h1 h2 h3=>⟨by omega,m',h2,h3⟩
        refine acalls_enter (cf:=cf 27 [0,1,2,3,8]) foll Try.func91 Try.ntmps91 (by simp [cf]) ?_
        simp only [Try.f91,EnterK_some,zW,zX,zD,builtinA,isLeaf,const1,ustrA,simprocAttr,ti3,ti31,ti132,ca111,ca112,cf,Try.results91]
        simp only [zW,zX,zD,builtinA,isLeaf,const1,ustrA,simprocAttr,ti3,ti31,ti132,ca111,ca112,cf,Try.results91,jEs_length,hd]
        refine callO_intro (join (R:=fun x y=>x.ks.map er = y.ks.map er) hU (fun _=>rfl) (fun _ _ _ h k=>h.trans k) (fun _ _ h=>h.symm) m hci x y hxU hyU is A hiA hm) ?_
        rintro r A' ⟨m',rfl,⟨rfl,hr,hci'⟩ | ⟨rfl,hr⟩⟩
        · have h1:=hput m'
          have h2:=hchg m'
          have h3:=hcm m' _ (by simp) (Abs.getD_set_self hiA) hci'
          generalize A.set is (.mapb (esM m')) = A1 at *
          have h4:=h2.outer []
          have h5:=h2.take []
          rw [List.append_nil] at h4 h5
          simp only [zW,zX,zD,builtinA,isLeaf,const1,ustrA,simprocAttr,ti3,ti31,ti132,ca111,ca112,cf,Try.results91]
          rw [h5]
          exact ⟨h4,by rw [hiff.2 hr],h2,fun _=>⟨h1,h3⟩⟩
        · have h1:=hput m'
          have h2:=hchg m'
          have h3:=hcm m'
          have h6 : (A.set is (.mapb (esM m'))).getD is .dead = .mapb (esM m'):=Abs.getD_set_self hiA
          generalize A.set is (.mapb (esM m')) = A1 at *
          have heqf:=eqf hK hg fs cs eq x.ks y.ks hcall hla x.b x.off y.b y.off A1 h1
          simp only [zW,zX,zD,builtinA,isLeaf,const1,ustrA,simprocAttr,ti3,ti31,ti132,ca111,ca112,cf,Try.results91]
          refine callO_intro heqf ?_
          rintro r A' ⟨rfl,q2,q3⟩
          have hl1:=h2.1
          have hl2:=q2.1
          have q4 : CG.Chg (S ++ [is]) A A':=⟨by omega,fun k hk=>by rw [q2.2.1 k (fun h=>hk (by simp [h])),h2.2.1 k hk],fun k hk n=>by
            by_cases e : k ∈ S
            · exact q2.2.2 k e n
            · rw [q2.2.1 k e]; exact h2.2.2 k hk n⟩
          have q5 : A'.getD is .dead = .mapb (esM m'):=by rw [q2.2.1 is (fun h=>his (hK.sub is h))]; exact h6
          have h4:=q4.outer []
          have h5:=q4.take []
          rw [List.append_nil] at h4 h5
          simp only [zW,zX,zD,builtinA,isLeaf,const1,ustrA,simprocAttr,ti3,ti31,ti132,ca111,ca112,cf,Try.results91]
          rw [h5]
          exact ⟨h4,q4,fun hb=>⟨q3 hb,h3 A' (by omega) q5 (hr (hiff.1 hb))⟩⟩
      · have hd : decide ((x.ks.length : Int) = (y.ks.length : Int)) = false:=decide_eq_false (by omega)
        rw [CG.allB_len (by simpa using hl)]
        refine acalls_enter (cf:=cf 27 [0,1,2,3,8]) foll Try.func91 Try.ntmps91 (by simp [cf]) ?_
        simp only [Try.f91,EnterK_some,zW,zX,zD,builtinA,isLeaf,const1,ustrA,simprocAttr,ti3,ti31,ti132,ca111,ca112,cf,Try.results91]
        simp only [zW,zX,zD,builtinA,isLeaf,const1,ustrA,simprocAttr,ti3,ti31,ti132,ca111,ca112,cf,Try.results91,jEs_length,hd]
        exact hT
end CS
end Go.Proofs.Ytijlnkfiadajhaa
/- Valid types as trees, and what the methods of the program answer on them. -/
set_option linter.unusedVariables false
set_option linter.unusedSimpArgs false
namespace Go.Proofs.Ytijlnkfiadajhaa
open Go.Abs
inductive VT where
  | num
  | fn (a b : VT)
  | nm (m n : List UInt8)
def dep : VT → Nat
  | .num=>1
  | .fn a b=>1 + max (dep a) (dep b)
  | .nm _ _=>1
end Go.Proofs.Ytijlnkfiadajhaa
/- From a law's argument of the recursive type to a tree. -/
set_option linter.unusedVariables false
set_option linter.unusedSimpArgs false
namespace Go.Proofs.Ytijlnkfiadajhaa
open Go.Abs Go.RowKit Go.ChangeShapes Go.WideShapes Go.ChangeAt Go.ChangeMaps
theorem cells_int {P : Program} {t : TypeId} {k : IntKind} {cz : List AV} (hu : P.underlying t = some (.int k)) (h : Cells P t cz) : ∃ n,cz = [.int k n]:=by
  cases h with
  | int h1 h2=>rw [hu] at h1; injection h1 with h1; injection h1 with h1; subst h1; exact ⟨_,rfl⟩
  | bool h1=>rw [hu] at h1; injection h1 with h1; cases h1
  | str h1=>rw [hu] at h1; injection h1 with h1; cases h1
  | slice h1=>rw [hu] at h1; injection h1 with h1; cases h1
  | struct h1=>rw [hu] at h1; injection h1 with h1; cases h1
theorem cells_str {P : Program} {t : TypeId} {cz : List AV} (hu : P.underlying t = some .string) (h : Cells P t cz) : ∃ s,cz = [.str s] ∧ s.length ≤ maxLen:=by
  cases h with
  | int h1 h2=>rw [hu] at h1; injection h1 with h1; cases h1
  | bool h1=>rw [hu] at h1; injection h1 with h1; cases h1
  | str h1 h2=>exact ⟨_,rfl,h2⟩
  | slice h1=>rw [hu] at h1; injection h1 with h1; cases h1
  | struct h1=>rw [hu] at h1; injection h1 with h1; cases h1
theorem list_enc {α : Type} {f : α → List AV} {Q : α → Prop} : ∀ {rows : List (List AV)},(∀ r ∈ rows,∃ x,r = f x ∧ Q x) → ∃ l : List α,rows = l.map f ∧ l.length = rows.length ∧ ∀ x ∈ l,Q x
  | [],_=>⟨[],rfl,rfl,by simp⟩
  | r :: rows,h=>by
    obtain ⟨x,hx,hq⟩:=h r (by simp)
    obtain ⟨l,h1,h2,h3⟩:=list_enc (rows:=rows) fun r hr=>h r (by simp [hr])
    exact ⟨x :: l,by simp [hx,h1],by simp [h2],by simpa using ⟨hq,h3⟩⟩
theorem four {α : Type} {l : List α} (h : l.length = 4) : ∃ a b c d,l = [a,b,c,d]:=by
  match l,h with
  | [a,b,c,d],_=>exact ⟨a,b,c,d,rfl⟩
theorem c3 : Try.prog.cellsOf 3 = 1:=by kernel_rfl
theorem c9 : Try.prog.cellsOf 9 = 1:=by kernel_rfl
theorem cS : Try.prog.cellsOf 37 = 1:=by kernel_rfl
theorem cT : Try.prog.cellsOf 39 = 4:=by kernel_rfl
theorem ty_of {t : TypeId} {cz : List AV} (h : Cells Try.prog t cz) :
    (t = 39 → ∃ τ,cz = encA τ ∧ τ.Ok) ∧ (t = 37 → ∃ ks,cz = [.aslice (encAs ks)] ∧ ks.length < 2 ^ 63 ∧ ∀ k ∈ ks,k.Ok):=by
  induction h with
  | int h1 h2=>exact ⟨fun e=>(by subst e; rw [Try.underlying39] at h1; injection h1 with h1; cases h1),fun e=>(by subst e; rw [Try.underlying37] at h1; injection h1 with h1; cases h1)⟩
  | bool h1=>exact ⟨fun e=>(by subst e; rw [Try.underlying39] at h1; injection h1 with h1; cases h1),fun e=>(by subst e; rw [Try.underlying37] at h1; injection h1 with h1; cases h1)⟩
  | str h1=>exact ⟨fun e=>(by subst e; rw [Try.underlying39] at h1; injection h1 with h1; cases h1),fun e=>(by subst e; rw [Try.underlying37] at h1; injection h1 with h1; cases h1)⟩
  | slice h1 h2 h3 ih =>
    refine ⟨fun e=>(by subst e; rw [Try.underlying39] at h1; injection h1 with h1; cases h1),fun e=>?_⟩
    subst e
    rw [Try.underlying37] at h1
    injection h1 with h1
    injection h1 with h1
    obtain ⟨ks,k1,k2,k3⟩:=list_enc (f:=encA) (Q:=Ty.Ok) fun r hr=>(ih r hr).1 h1.symm
    have hm : maxLen = 2 ^ 63 - 1:=rfl
    refine ⟨ks,by rw [encAs_map,k1],?_,k3⟩
    rw [k2]
    omega
  | @struct t fs cs h1 h2 h3 ih =>
    refine ⟨fun e=>?_,fun e=>(by subst e; rw [Try.underlying37] at h1; injection h1 with h1; cases h1)⟩
    subst e
    rw [Try.underlying39] at h1
    injection h1 with h1
    injection h1 with h1
    subst h1
    rw [cT] at h2
    obtain ⟨a,b,c,d,rfl⟩:=four h2
    simp only [List.mem_cons,List.not_mem_nil,or_false,forall_eq_or_imp,forall_eq,c3,c9,cS,List.drop_zero,List.drop_succ_cons,List.take_succ_cons,List.take_zero] at h3 ih
    obtain ⟨n,e1⟩:=cells_int Try.underlying3 h3.1
    obtain ⟨m,e2,l2⟩:=cells_str Try.underlying9 h3.2.1
    obtain ⟨s,e3,l3⟩:=cells_str Try.underlying9 h3.2.2.1
    obtain ⟨ks,e4,l4,l5⟩:=ih.2.2.2.2 trivial
    injection e1 with e1; injection e2 with e2; injection e3 with e3; injection e4 with e4
    subst e1; subst e2; subst e3; subst e4
    have hm : maxLen = 2 ^ 63 - 1:=rfl
    exact ⟨.mk n m s ks,rfl,.mk (by omega) (by omega) l4 l5⟩
section
variable {H : Type} {enc' : TypeId × Value → H} {W : World}
theorem opened_agg {P : Program} {t : TypeId} {xs : Array Value} {cz : List AV} (h : Opened P W t xs.toList cz) : RV (Abs.start W) W (.agg cz) (.agg xs):=by
  have hl : xs.size = cz.length:=by rw [h.len]; simp
  refine .agg cz xs hl (fun x hx=>?_) (fun i hi=>?_)
  · obtain ⟨i,hi,rfl⟩:=Array.mem_iff_getElem.1 hx
    have:=h.rel i (by omega)
    have e : xs.toList.getD i undef = xs[i]:=by simp [List.getD,hi]
    rw [e] at this
    exact this.cell (leaf_cell (h.leaf _ (Abs.getD_mem (l:=cz) (by omega))))
  · have:=h.rel i hi
    have e : xs.toList.getD i undef = xs.getD i undef:=by
      have : i < xs.size:=by omega
      simp [List.getD,Array.getD,this]
    rwa [e] at this
end
end Go.Proofs.Ytijlnkfiadajhaa
/- Expressions as trees, and what the laws' helpers do with them. -/
set_option linter.unusedVariables false
set_option linter.unusedSimpArgs false
namespace Go.Proofs.Ytijlnkfiadajhaa
open Go.Abs
inductive Ex where
  | mk (kind n : Int) (mod name : List UInt8) (arg : Ty) (kids : List Ex)
theorem Ex.ind {M : Ex → Prop} (h : ∀ k i m n t ks,(∀ x ∈ ks,M x) → M (.mk k i m n t ks)) : ∀ x,M x
  | .mk k i m n t ks=>h k i m n t ks fun x hx=>Ex.ind h x
termination_by x=>SizeOf.sizeOf x
decreasing_by
  have:=List.sizeOf_lt_of_mem hx
  simp only [Ex.mk.sizeOf_spec]
  omega
theorem encT4 (t : Ty) : enc t = [.int .i64 t.kind,.str t.mod,.str t.name,.slice (encs t.kids)]:=by cases t; rw [enc]; rfl
theorem encTA4 (t : Ty) : encA t = [.int .i64 t.kind,.str t.mod,.str t.name,.aslice (encAs t.kids)]:=by cases t; rw [encA]; rfl
mutual
def encX : Ex → List AV
  | .mk k i m n t ks=>[.int .i64 k,.int .i64 i,.str m,.str n,.int .i64 t.kind,.str t.mod,.str t.name,.slice (encs t.kids),.slice (encXs ks)]
def encXs : List Ex → List (List AV)
  | []=>[]
  | x :: l=>encX x :: encXs l
end
mutual
def encXA : Ex → List AV
  | .mk k i m n t ks=>[.int .i64 k,.int .i64 i,.str m,.str n,.int .i64 t.kind,.str t.mod,.str t.name,.aslice (encAs t.kids),.aslice (encXAs ks)]
def encXAs : List Ex → List (List AV)
  | []=>[]
  | x :: l=>encXA x :: encXAs l
end
mutual
def szX : Ex → Nat
  | .mk _ _ m n t ks=>m.length + n.length + sz t + (ks.length + szXs ks)
def szXs : List Ex → Nat
  | []=>0
  | x :: l=>szX x + szXs l
end
inductive Ex.Ok : Ex → Prop
  | mk {k i : Int} {m n : List UInt8} {t : Ty} {ks : List Ex} : m.length < 2 ^ 63 → n.length < 2 ^ 63 → t.Ok → ks.length < 2 ^ 63 → (∀ x ∈ ks,Ex.Ok x) → Ex.Ok (.mk k i m n t ks)
def ex0 : Ex:=.mk 0 0 [] [] ty0 []
def zex : List AV:=[.int .i64 0,.int .i64 0,.str [],.str [],.int .i64 0,.str [],.str [],.slice [],.slice []]
theorem encXs_map : ∀ l,encXs l = l.map encX
  | []=>rfl
  | t :: l=>by rw [encXs,encXs_map l]; rfl
theorem encXs_length (l : List Ex) : (encXs l).length = l.length:=by rw [encXs_map]; simp
theorem encXs_getD {l : List Ex} {i : Nat} (h : i < l.length) : (encXs l).getD i [] = encX (l.getD i ex0):=by
  rw [encXs_map]; simp [List.getD,h]
theorem encX_length (t : Ex) : (encX t).length = 9:=by cases t; rw [encX]; rfl
theorem encX_take (t : Ex) : List.take 9 (encX t) = encX t:=by cases t; rw [encX]; rfl
theorem xrow_step {l : List Ex} {i : Nat} (h : i < l.length) : (encXs (l.take i) ++ List.replicate (l.length - i) zex).set i (encX (l.getD i ex0) ++ List.drop 9 ((encXs (l.take i) ++ List.replicate (l.length - i) zex).getD i [])) = encXs (l.take (i + 1)) ++ List.replicate (l.length - (i + 1)) zex:=by
  have e1 : (encXs (l.take i)).length = i:=by rw [encXs_length]; simp; omega
  have e2 : List.drop 9 ((encXs (l.take i) ++ List.replicate (l.length - i) zex).getD i []) = []:=by
    have e3 : l.length - i = (l.length - (i + 1)) + 1:=by omega
    rw [List.getD,List.getElem?_append_right (by omega),e1,Nat.sub_self,e3,List.replicate_succ]
    rfl
  have e4 : l.length - i = (l.length - (i + 1)) + 1:=by omega
  rw [e2,List.append_nil,List.set_append_right _ _ (by omega),e1,Nat.sub_self,e4,List.replicate_succ,List.set_cons_zero]
  rw [encXs_map,encXs_map,List.take_add_one,List.map_append,List.append_assoc]
  simp [List.getD,h]
theorem encX_leaf (t : Ex) : ∀ v ∈ encX t,isLeaf v = true:=by cases t; rw [encX]; simp [isLeaf]
theorem frzL_encX (t : Ex) (A : List Box) : frzL (encX t) A = some (encX t,A):=by cases t; rw [encX]; rfl
theorem encXAs_map : ∀ l,encXAs l = l.map encXA
  | []=>rfl
  | t :: l=>by rw [encXAs,encXAs_map l]; rfl
theorem encXAs_length (l : List Ex) : (encXAs l).length = l.length:=by rw [encXAs_map]; simp
theorem encXAs_getD {l : List Ex} {i : Nat} (h : i < l.length) : (encXAs l).getD i [] = encXA (l.getD i ex0):=by
  rw [encXAs_map]; simp [List.getD,h]
theorem encXA_length (t : Ex) : (encXA t).length = 9:=by cases t; rw [encXA]; rfl
theorem encXA_take (t : Ex) : List.take 9 (encXA t) = encXA t:=by cases t; rw [encXA]; rfl
theorem frzL_encXA (t : Ex) (A : List Box) : frzL (encXA t) A = some (encXA t,A):=by cases t; rw [encXA]; rfl
theorem ex_mem {l : List Ex} {i : Nat} (h : i < l.length) : l.getD i ex0 ∈ l:=by simp [List.getD,h]
theorem szXs_take {l : List Ex} {i : Nat} (h : i < l.length) : szXs (l.take (i + 1)) = szXs (l.take i) + szX (l.getD i ex0):=by
  induction l generalizing i with
  | nil=>simp at h
  | cons t l ih =>
    cases i with
    | zero=>simp [szXs,List.getD]
    | succ i =>
      have:=ih (i:=i) (by simpa using h)
      simp only [List.take_succ_cons,szXs,List.getD_cons_succ] at this ⊢
      omega
theorem szXs_le (l : List Ex) : ∀ i,szXs (l.take i) ≤ szXs l:=by
  induction l with
  | nil=>intro i; simp [szXs]
  | cons t l ih =>
    intro i
    cases i with
    | zero=>simp [szXs]
    | succ i=>simp only [List.take_succ_cons,szXs]; have:=ih i; omega
theorem szXs_mem {t : Ex} {l : List Ex} (h : t ∈ l) : szX t ≤ szXs l:=by
  induction l with
  | nil=>simp at h
  | cons u l ih =>
    rw [szXs]
    rcases List.mem_cons.1 h with rfl | h
    · omega
    · have:=ih h; omega
def SzX (x : Ex) : Prop:=∀ (l : Int) (A : List Box),0 ≤ l → l ≤ 1048576 → ACalls Try.prog 34 [.agg (encXA x),.int .i64 l] A (fun v A'=>v = .int .i64 (left l (szX x)) ∧ A' = A)
set_option maxRecDepth 100000 in
theorem laws_szExprS (ks : List Ex) (hl : ks.length < 2 ^ 63) (hk : ∀ t ∈ ks,SzX t) (l : Int) (A : List Box) (h0 : 0 ≤ l) (h1 : l ≤ 1048576) :
    ACalls Try.prog 67 [.aslice (encXAs ks),.int .i64 l] A (fun v A'=>v = .int .i64 (left l (ks.length + szXs ks)) ∧ A' = A):=by
  have hw : IntKind.i64.wrap (l - ↑(encXAs ks).length) = l - ks.length:=by rw [encXAs_length]; exact wrap64 (by omega) (by omega)
  refine acalls_enter (cf:=cf 27 [0,1,4,5,11,15,25]) foll Try.func67 Try.ntmps67 (by simp [cf]) ?_
  simp only [Try.f67,EnterK_some,zW,zX,zD,builtinA,isLeaf,const1,ustrA,simprocAttr,ti3,ti40,ti42,ca34,cf,Try.results67]
  rw [hw]
  refine condK_intro (fun h=>?_) (fun h=>?_)
  · simp only [zW,zX,zD,builtinA,isLeaf,const1,ustrA,simprocAttr,ti3,ti40,ti42,ca34,cf,Try.results67]
    have : ¬ ((ks.length + szXs ks : Nat) : Int) ≤ l:=by simp at h; omega
    rw [left,if_neg this]
  · simp only [zW,zX,zD,builtinA,isLeaf,const1,ustrA,simprocAttr,ti3,ti40,ti42,ca34,cf,Try.results67]
    refine aloop_intro [0,1,5] (fun e A'=>∃ i,i ≤ ks.length ∧ ((ks.length + szXs (ks.take i) : Nat) : Int) ≤ l ∧ e = [(0,.aslice (encXAs ks)),(1,.int .i64 (l - (ks.length + szXs (ks.take i) : Nat))),(5,.int .i64 i)] ∧ A' = A) (fun e _=>ks.length - (intOf (Abs.look 5 e)).toNat) ?_ ?_
    · refine ⟨0,by omega,?_,?_,rfl⟩
      · simp at h; simp [szXs]; omega
      · simp only [zW,zX,zD,builtinA,isLeaf,const1,ustrA,simprocAttr,ti3,ti40,ti42,ca34,cf,Try.results67]
        simp [szXs]
    · rintro e A' ⟨i,hi,hle,rfl,rfl⟩
      simp only [zW,zX,zD,builtinA,isLeaf,const1,ustrA,simprocAttr,ti3,ti40,ti42,ca34,cf,Try.results67]
      refine condK_intro (fun h2=>?_) (fun h2=>?_)
      · have hi2 : i < ks.length:=by simp [encXAs_length] at h2; exact h2
        have he:=encXAs_getD hi2
        have hm:=ex_mem hi2
        have hs:=szXs_take hi2
        simp only [zW,zX,zD,builtinA,isLeaf,const1,ustrA,simprocAttr,ti3,ti40,ti42,ca34,cf,Try.results67,he,encXA_length,encXA_take,encXAs_length]
        refine ⟨⟨by omega,by omega⟩,?_⟩
        refine callK_intro (by simp only [zW,zX,zD,builtinA,isLeaf,const1,ustrA,simprocAttr,frzL_encXA,Option.map_some]; rfl) (hk _ hm _ _ (by omega) (by omega)) ?_ rfl; rintro v A' ⟨rfl,rfl⟩
        by_cases hf : ((ks.length + szXs (ks.take (i + 1)) : Nat) : Int) ≤ l
        · have hv : left (l - ((ks.length + szXs (ks.take i) : Nat) : Int)) (szX (ks.getD i ex0)) = l - ((ks.length + szXs (ks.take (i + 1)) : Nat) : Int):=by
            rw [left,if_pos (by omega)]; omega
          have hn : decide (l - ((ks.length + szXs (ks.take (i + 1)) : Nat) : Int) < 0) = false:=by simp only [decide_eq_false_iff_not]; omega
          have hi1 : IntKind.i64.wrap ((i : Int) + 1) = ((i + 1 : Nat) : Int):=by rw [wrap64 (by omega) (by omega)]; rfl
          rw [hv]
          simp only [zW,zX,zD,builtinA,isLeaf,const1,ustrA,simprocAttr,ti3,ti40,ti42,ca34,cf,Try.results67,hn,hi1,LoopK_eq,encXAs_length]
          refine ⟨⟨i + 1,by omega,hf,rfl⟩,?_⟩
          simp only [intOf]
          omega
        · have hv : left (l - ((ks.length + szXs (ks.take i) : Nat) : Int)) (szX (ks.getD i ex0)) = -1:=by
            rw [left,if_neg (by omega)]
          have hz:=szXs_le ks (i + 1)
          rw [hv,left,if_neg (by omega)]
          simp only [zW,zX,zD,builtinA,isLeaf,const1,ustrA,simprocAttr,ti3,ti40,ti42,ca34,cf,Try.results67]
      · simp only [zW,zX,zD,builtinA,isLeaf,const1,ustrA,simprocAttr,ti3,ti40,ti42,ca34,cf,Try.results67]
        have : i = ks.length:=by simp [encXAs_length] at h2; omega
        subst this
        rw [List.take_length] at hle ⊢
        rw [left,if_pos hle]
set_option maxRecDepth 100000 in
theorem laws_szExpr (x : Ex) (hx : x.Ok) : SzX x:=by
  induction x using Ex.ind with
  | h k i m n t ks ih =>
    obtain ⟨hm,hn,ht,hks,hok⟩:=hx
    intro l A h0 h1
    have hw : IntKind.i64.wrap (l - ↑m.length) = l - m.length:=wrap64 (by omega) (by omega)
    have hst:=fun l A=>laws_szType t ht l A
    rw [encTA4] at hst
    have hsx : szX (.mk k i m n t ks) = m.length + n.length + sz t + (ks.length + szXs ks):=by rw [szX]
    rw [hsx,encXA]
    refine acalls_enter (cf:=cf 32 [0,1,2,4,11,18,24,30]) foll Try.func34 Try.ntmps34 (by simp [cf]) ?_
    simp only [Try.f34,EnterK_some,zW,zX,zD,builtinA,isLeaf,const1,ustrA,simprocAttr,ti3,ti9,ti39,ti40,ti42,ca66,ca67,cf,Try.results34]
    rw [hw]
    refine condK_intro (fun h=>?_) (fun h=>?_)
    · simp only [zW,zX,zD,builtinA,isLeaf,const1,ustrA,simprocAttr,ti3,ti9,ti39,ti40,ti42,ca66,ca67,cf,Try.results34]
      rw [left,if_neg (by simp at h; omega)]
    · have hw2 : IntKind.i64.wrap (l - ↑m.length - ↑n.length) = l - ↑m.length - ↑n.length:=by simp at h; exact wrap64 (by omega) (by omega)
      simp only [zW,zX,zD,builtinA,isLeaf,const1,ustrA,simprocAttr,ti3,ti9,ti39,ti40,ti42,ca66,ca67,cf,Try.results34,hw2]
      refine condK_intro (fun h2=>?_) (fun h2=>?_)
      · simp only [zW,zX,zD,builtinA,isLeaf,const1,ustrA,simprocAttr,ti3,ti9,ti39,ti40,ti42,ca66,ca67,cf,Try.results34]
        rw [left,if_neg (by simp at h2; omega)]
      · simp only [decide_eq_false_iff_not] at h h2
        simp only [zW,zX,zD,builtinA,isLeaf,const1,ustrA,simprocAttr,ti3,ti9,ti39,ti40,ti42,ca66,ca67,cf,Try.results34]
        refine callK_intro (by simp only [zW,zX,zD,builtinA,isLeaf,const1,ustrA,simprocAttr,Option.map_some]; rfl) (hst _ _ (by omega) (by omega)) ?_ rfl; rintro v A' ⟨rfl,rfl⟩
        by_cases hf : ((m.length + n.length + sz t : Nat) : Int) ≤ l
        · have hv : left (l - ↑m.length - ↑n.length) (sz t) = l - (m.length + n.length + sz t : Nat):=by
            rw [left,if_pos (by omega)]; omega
          have hn : decide (l - (m.length + n.length + sz t : Nat) < 0) = false:=by simp only [decide_eq_false_iff_not]; omega
          rw [hv]
          simp only [zW,zX,zD,builtinA,isLeaf,const1,ustrA,simprocAttr,ti3,ti9,ti39,ti40,ti42,ca66,ca67,cf,Try.results34,hn]
          refine callK_intro (by simp only [zW,zX,zD,builtinA,isLeaf,const1,ustrA,simprocAttr,Option.map_some]; rfl) (laws_szExprS ks (by omega) (fun t ht=>ih t ht (hok t ht)) _ _ (by omega) (by omega)) ?_ rfl; rintro v A' ⟨rfl,rfl⟩
          by_cases hg : ((m.length + n.length + sz t + (ks.length + szXs ks) : Nat) : Int) ≤ l
          · have hv : left (l - (m.length + n.length + sz t : Nat)) (ks.length + szXs ks) = l - (m.length + n.length + sz t + (ks.length + szXs ks) : Nat):=by
              rw [left,if_pos (by omega)]; omega
            have hn : decide (l - (m.length + n.length + sz t + (ks.length + szXs ks) : Nat) < 0) = false:=by simp only [decide_eq_false_iff_not]; omega
            rw [hv,left,if_pos hg]
            simp only [zW,zX,zD,builtinA,isLeaf,const1,ustrA,simprocAttr,ti3,ti9,ti39,ti40,ti42,ca66,ca67,cf,Try.results34,hn]
          · have hv : left (l - (m.length + n.length + sz t : Nat)) (ks.length + szXs ks) = -1:=by
              rw [left,if_neg (by omega)]
            rw [hv,left,if_neg hg]
            simp only [zW,zX,zD,builtinA,isLeaf,const1,ustrA,simprocAttr,ti3,ti9,ti39,ti40,ti42,ca66,ca67,cf,Try.results34]
        · have hv : left (l - ↑m.length - ↑n.length) (sz t) = -1:=by
            rw [left,if_neg (by omega)]
          rw [hv,left,if_neg (by omega)]
          simp only [zW,zX,zD,builtinA,isLeaf,const1,ustrA,simprocAttr,ti3,ti9,ti39,ti40,ti42,ca66,ca67,cf,Try.results34]
set_option maxRecDepth 100000 in
theorem laws_toExprS (ks : List Ex) (hl : ks.length ≤ 1048576) (hk : ∀ t ∈ ks,∀ A,ACalls Try.prog 36 [.agg (encXA t)] A (fun v A'=>v = .agg (encX t) ∧ A' = A)) (A : List Box) :
    ACalls Try.prog 70 [.aslice (encXAs ks)] A (fun v A'=>v = .slice (encXs ks) ∧ A' = A):=by
  have hl2 : ((encXAs ks).length : Int) ≤ 1048576:=by rw [encXAs_length]; omega
  refine acalls_enter (cf:=cf 23 [0,2,3,4,11]) foll Try.func70 Try.ntmps70 (by simp [cf]) ?_
  simp only [Try.f70,EnterK_some,zW,zX,zD,builtinA,isLeaf,const1,ustrA,simprocAttr,ti3,ti40,ti42,ti51,ti53,ca36,cf,Try.results70]
  refine ⟨⟨by omega,by omega,by omega⟩,?_⟩
  refine aloop_intro [0,3,4] (fun e A'=>∃ i,i ≤ ks.length ∧ e = [(0,.aslice (encXAs ks)),(3,.own A.length),(4,.int .i64 i)] ∧ A' = A ++ [.row 9 (encXs (ks.take i) ++ List.replicate (ks.length - i) zex) 0]) (fun e _=>ks.length - (intOf (Abs.look 4 e)).toNat) ?_ ?_
  · simp only [zW,zX,zD,builtinA,isLeaf,const1,ustrA,simprocAttr,ti3,ti40,ti42,ti51,ti53,ca36,cf,Try.results70]
    exact ⟨0,by omega,rfl,by rw [encXAs_length]; simp [encXs,zex]⟩
  · rintro e A' ⟨i,hi,rfl,rfl⟩
    simp only [zW,zX,zD,builtinA,isLeaf,const1,ustrA,simprocAttr,ti3,ti40,ti42,ti51,ti53,ca36,cf,Try.results70,encXAs_length]
    refine condK_intro (fun h2=>?_) (fun h2=>?_)
    · have hi2 : i < ks.length:=by simpa using h2
      have he:=encXAs_getD hi2
      have hm:=ex_mem hi2
      simp only [zW,zX,zD,builtinA,isLeaf,const1,ustrA,simprocAttr,ti3,ti40,ti42,ti51,ti53,ca36,cf,Try.results70,he,encXA_length,encXA_take,encXAs_length]
      refine ⟨⟨by omega,by omega⟩,?_⟩
      refine callK_intro (by simp only [zW,zX,zD,builtinA,isLeaf,const1,ustrA,simprocAttr,frzL_encXA,Option.map_some]; rfl) (hk _ hm _) ?_ rfl; rintro v A' ⟨rfl,rfl⟩
      have hi1 : IntKind.i64.wrap ((i : Int) + 1) = ((i + 1 : Nat) : Int):=by rw [wrap64 (by omega) (by omega)]; rfl
      simp only [zW,zX,zD,builtinA,isLeaf,const1,ustrA,simprocAttr,ti3,ti40,ti42,ti51,ti53,ca36,cf,Try.results70,encX_length,frzL_encX,xrow_step hi2,hi1,LoopK_eq]
      have hlen : (encXs (List.take i ks)).length + (List.replicate (ks.length - i) zex).length = ks.length:=by
        simp [encXs_length]; omega
      rw [hlen]
      refine ⟨⟨by omega,by omega⟩,⟨by omega,by omega,fun v hv=>encX_leaf _ v hv⟩,⟨i + 1,by omega,rfl,rfl⟩,?_⟩
      simp only [intOf]
      omega
    · simp only [zW,zX,zD,builtinA,isLeaf,const1,ustrA,simprocAttr,ti3,ti40,ti42,ti51,ti53,ca36,cf,Try.results70]
      have : i = ks.length:=by simp at h2; omega
      subst this
      simp [List.take_length]
set_option maxRecDepth 100000 in
theorem laws_toExpr (x : Ex) (hx : szX x ≤ 1048576) : ∀ A,ACalls Try.prog 36 [.agg (encXA x)] A (fun v A'=>v = .agg (encX x) ∧ A' = A):=by
  induction x using Ex.ind with
  | h k i m n t ks ih =>
    intro A
    have hsx : szX (.mk k i m n t ks) = m.length + n.length + sz t + (ks.length + szXs ks):=by rw [szX]
    rw [hsx] at hx
    have htt:=fun A=>laws_toType t (by omega) A
    rw [encTA4,encT4] at htt
    have h1 : ks.length ≤ 1048576:=by omega
    have h2 : ∀ t ∈ ks,szX t ≤ 1048576:=fun t ht=>by have:=szXs_mem ht; omega
    rw [encXA,encX]
    refine acalls_enter (cf:=cf 25 [0,1,2,3]) foll Try.func36 Try.ntmps36 (by simp [cf]) ?_
    simp only [Try.f36,EnterK_some,zW,zX,zD,builtinA,isLeaf,const1,ustrA,simprocAttr,ti3,ti9,ti39,ti40,ti42,ti50,ti51,ti53,ca69,ca70,cf,Try.results36]
    refine callK_intro (by simp only [zW,zX,zD,builtinA,isLeaf,const1,ustrA,simprocAttr,Option.map_some]; rfl) (htt _) ?_ rfl; rintro v A' ⟨rfl,rfl⟩
    simp only [zW,zX,zD,builtinA,isLeaf,const1,ustrA,simprocAttr,ti3,ti9,ti39,ti40,ti42,ti50,ti51,ti53,ca69,ca70,cf,Try.results36]
    refine callK_intro (by simp only [zW,zX,zD,builtinA,isLeaf,const1,ustrA,simprocAttr,Option.map_some]; rfl) (laws_toExprS ks h1 (fun t ht=>ih t ht (h2 t ht)) _) ?_ rfl; rintro v A' ⟨rfl,rfl⟩
    simp only [zW,zX,zD,builtinA,isLeaf,const1,ustrA,simprocAttr,ti3,ti9,ti39,ti40,ti42,ti50,ti51,ti53,ca69,ca70,cf,Try.results36]
set_option maxRecDepth 100000 in
theorem laws_eqExprS (ks : List Ex) (hl : ks.length < 2 ^ 63) (hk : ∀ t ∈ ks,∀ A,ACalls Try.prog 40 [.agg (encX t),.agg (encX t)] A (fun v A'=>v = .bool true ∧ A' = A)) (A : List Box) :
    ACalls Try.prog 75 [.slice (encXs ks),.slice (encXs ks)] A (fun v A'=>v = .bool true ∧ A' = A):=by
  refine acalls_enter (cf:=cf 27 [0,1,4,5,10,14,26]) foll Try.func75 Try.ntmps75 (by simp [cf]) ?_
  simp only [Try.f75,EnterK_some,zW,zX,zD,builtinA,isLeaf,const1,ustrA,simprocAttr,ti3,ti51,ti53,ca40,cf,Try.results75]
  refine aloop_intro [0,1,5] (fun e A'=>∃ i,i ≤ ks.length ∧ e = [(0,.slice (encXs ks)),(1,.slice (encXs ks)),(5,.int .i64 i)] ∧ A' = A) (fun e _=>ks.length - (intOf (Abs.look 5 e)).toNat) ?_ ?_
  · simp only [zW,zX,zD,builtinA,isLeaf,const1,ustrA,simprocAttr,ti3,ti51,ti53,ca40,cf,Try.results75]
    exact ⟨0,by omega,rfl⟩
  · rintro e A' ⟨i,hi,rfl,rfl⟩
    simp only [zW,zX,zD,builtinA,isLeaf,const1,ustrA,simprocAttr,ti3,ti51,ti53,ca40,cf,Try.results75,encXs_length]
    refine condK_intro (fun h2=>?_) (fun h2=>?_)
    · have hi2 : i < ks.length:=by simpa using h2
      have he:=encXs_getD hi2
      have hm:=ex_mem hi2
      have hi1 : IntKind.i64.wrap ((i : Int) + 1) = ((i + 1 : Nat) : Int):=by rw [wrap64 (by omega) (by omega)]; rfl
      simp only [zW,zX,zD,builtinA,isLeaf,const1,ustrA,simprocAttr,ti3,ti51,ti53,ca40,cf,Try.results75,he,encX_length,encX_take,encXs_length]
      refine .inl ⟨by kernel_rfl,by kernel_rfl,⟨by omega,by omega⟩,⟨by omega,by omega⟩,?_⟩
      refine callD_intro (by simp only [zW,zX,zD,builtinA,isLeaf,const1,ustrA,simprocAttr,frzL_encX,Option.map_some] <;> rfl) (hk _ hm _) ?_ rfl
      simp only [zW,zX,zD,builtinA,isLeaf,const1,ustrA,simprocAttr,ti3,ti51,ti53,ca40,cf,Try.results75,hi1,LoopK_eq]
      refine ⟨⟨i + 1,by omega,rfl⟩,?_⟩
      simp only [intOf]
      omega
    · simp only [zW,zX,zD,builtinA,isLeaf,const1,ustrA,simprocAttr,ti3,ti51,ti53,ca40,cf,Try.results75]
set_option maxRecDepth 100000 in
theorem laws_eqExpr (x : Ex) (hx : x.Ok) : ∀ A,ACalls Try.prog 40 [.agg (encX x),.agg (encX x)] A (fun v A'=>v = .bool true ∧ A' = A):=by
  induction x using Ex.ind with
  | h k i m n t ks ih =>
    intro A
    obtain ⟨hm,hn,ht,hks,hok⟩:=hx
    have het:=fun A=>laws_eqType t ht A
    rw [encT4] at het
    rw [encX]
    refine acalls_enter (cf:=cf 37 [0,1,2,3,4,9,14,19,24,30,36]) foll Try.func40 Try.ntmps40 (by simp [cf]) ?_
    simp only [Try.f40,EnterK_some,zW,zX,zD,builtinA,isLeaf,const1,ustrA,simprocAttr,ti3,ti9,ti50,ti51,ti53,ca74,ca75,cf,Try.results40]
    refine callK_intro (by simp only [zW,zX,zD,builtinA,isLeaf,const1,ustrA,simprocAttr,Option.map_some]; rfl) (het _) ?_ rfl; rintro v A' ⟨rfl,rfl⟩
    simp only [zW,zX,zD,builtinA,isLeaf,const1,ustrA,simprocAttr,ti3,ti9,ti50,ti51,ti53,ca74,ca75,cf,Try.results40]
    refine callK_intro (by simp only [zW,zX,zD,builtinA,isLeaf,const1,ustrA,simprocAttr,Option.map_some]; rfl) (laws_eqExprS ks (by omega) (fun t ht=>ih t ht (hok t ht)) _) ?_ rfl; rintro v A' ⟨rfl,rfl⟩
    simp only [zW,zX,zD,builtinA,isLeaf,const1,ustrA,simprocAttr,ti3,ti9,ti50,ti51,ti53,ca74,ca75,cf,Try.results40]
end Go.Proofs.Ytijlnkfiadajhaa
