/- ClsK, Sigs, SigLaw, Imps. -/
import Derived.Test.YtijlnkfiadajhaaK07
import Derived.Test.YtijlnkfiadajhaaAbsW3
/- The program's classes of lists: definitions. -/
set_option linter.unusedVariables false
set_option linter.unusedSimpArgs false
namespace Go.Proofs.Ytijlnkfiadajhaa
namespace CK
open Go.Abs
def pl : CG.Pl KL:=⟨kvK,KL.idn,130,fun x y=>by
    have : decide (KL.idn x = KL.idn y) = (decide (x.b = y.b ∧ x.off = y.off) && (decide (((x.ks.length : Nat) : Int) = ((y.ks.length : Nat) : Int)) && true)):=by
      rw [Bool.eq_iff_iff]
      simp [KL.idn,Prod.mk.injEq]
      omega
    rw [this]
    simp [eqK,kvK,c1A],fun _=>rfl,fun _ _=>rfl⟩
abbrev KK : List (Nat × TK):=[(0,.ptr 130),(1,.int .i64)]
abbrev esM (m : List (KL × KL)) : List (AV × AV):=CG.es pl m
theorem fes (l : KL) (m : List (KL × KL)) : findA KK (kvK l) (esM m) 0 = some ((CG.fnd pl l m 0).map fun p=>(p.1,.agg (kvK p.2))):=CG.find_es pl l m 0
set_option maxRecDepth 100000 in
theorem find {U : List KL} (hU : ∀ x ∈ U,∀ y ∈ U,x.idn = y.idn → x = y) {R : KL → KL → Prop} (hR : ∀ x,R x x) (hRt : ∀ x y z,R x y → R y z → R x z) (m : List (KL × KL)) (hm : CG.CI U R m) (l : KL) (hl : l ∈ U) (i : Nat) (A : List Box) (hi : i < A.length) (hA : A.getD i .dead = .mapb (esM m)) :
    ACalls Try.prog 118 [.map i,.agg (kvK l)] A (fun r A'=>∃ x m',r = .agg (kvK x) ∧ x ∈ U ∧ R l x ∧ (∀ p ∈ m',p.1 ≠ x) ∧ CG.CI U R m' ∧ m'.map (·.1) = m.map (·.1) ∧ A' = A.set i (.mapb (esM m'))):=by
  have hgA : ∀ X (B : List Box),(A.set i X ++ B).getD i .dead = X:=fun X B=>by rw [getD_app1 _ _ _ _ (by simpa using hi),getD_set1 hi]
  have hset : A.set i (.mapb (esM m)) = A:=CG.set_same hi hA
  rw [kvK]
  refine acalls_enter (cf:=cf 29 [0,1,3,4,5,6,7,8,16,24]) foll Try.func118 Try.ntmps118 (by simp [cf]) ?_
  simp only [Try.f118,EnterK_some,zW,zX,zD,builtinA,isLeaf,const1,ustrA,simprocAttr,ti89,ti202,mi89,cf,Try.results118]
  refine aloop_intro [0,3,4] (fun e A'=>∃ l' m' B,e = [(0,.map i),(3,.ptr A.length 0),(4,.ptr (A.length + 1) 0)] ∧ A' = A.set i (.mapb (esM m')) ++ (.cells (kvK l') :: .cells [.nilp,.int .i64 0] :: B) ∧ l' ∈ U ∧ R l l' ∧ CG.CI U R m' ∧ m'.map (·.1) = m.map (·.1)) (fun _ A'=>CG.mu pl A.length i A') ?_ ?_
  · simp only [zW,zX,zD,builtinA,isLeaf,const1,ustrA,simprocAttr,ti89,ti202,mi89,cf,Try.results118]
    exact ⟨l,m,[],by rw [hset]; rfl,hl,hR l,hm,rfl⟩
  · rintro e A' ⟨l',m',B,rfl,rfl,hl',hr',hm',hk'⟩
    have hmu : CG.mu pl A.length i (A.set i (.mapb (esM m')) ++ (.cells (kvK l') :: .cells [.nilp,.int .i64 0] :: B)) = CG.posA pl (kvK l') (esM m'):=by
      unfold CG.mu
      rw [hgA,getD_sapp0]; rfl
    rw [hmu]
    have hf:=fes l' m'
    rw [kvK] at hf ⊢
    cases hfl : CG.fnd pl l' m' 0 with
    | none =>
      rw [hfl] at hf
      simp only [Option.map_none] at hf
      simp only [zW,zX,zD,builtinA,isLeaf,const1,ustrA,simprocAttr,ti89,ti202,mi89,cf,Try.results118,hi,hf]
      refine ⟨outer_set A _ i _ (CG.es_closed pl _ _),l',m',rfl,hl',hr',fun p hp e=>CG.fnd_none pl hfl p hp (by rw [e]),hm',hk',rfl⟩
    | some q =>
      obtain ⟨j,up⟩:=q
      rw [hfl] at hf
      simp only [Option.map_some] at hf
      obtain ⟨_,hj,hj1,hj2⟩:=CG.fnd_some pl hfl
      simp only [Nat.sub_zero] at hj hj1 hj2
      have hmj : m'[j]? = some (l',up):=by
        have e1 : m'[j]? = some m'[j]:=List.getElem?_eq_getElem hj
        have e2 : m'.getD j (l',l') = m'[j]:=by simp [List.getD,hj]
        rw [e2] at hj1 hj2
        have:=hU _ (hm'.mem _ (List.getElem_mem hj)).1 _ hl' hj1
        rw [e1]
        congr 1
        exact Prod.ext this hj2
      have hup:=(hm'.mem _ (List.mem_of_getElem? hmj)).2
      have hru : R l up:=hRt _ _ _ hr' hup.2
      have hf2:=fes up m'
      rw [kvK] at hf2
      rw [kvK] at hf
      have hpl : CG.posA pl (kvK l') (esM m') = m'.length - j:=by have:=CG.posA_es pl l' m'; rw [hfl] at this; exact this
      cases hfu : CG.fnd pl up m' 0 with
      | none =>
        rw [hfu] at hf2
        simp only [Option.map_none] at hf2
        have hpu : CG.posA pl (kvK up) (esM m') = 0:=by have:=CG.posA_es pl up m'; rw [hfu] at this; exact this
        simp only [zW,zX,zD,builtinA,isLeaf,const1,ustrA,simprocAttr,ti89,ti202,mi89,cf,Try.results118,hi,hf,hf2,LoopK_eq]
        refine ⟨⟨up,m',B ++ [.cells (kvK up),.cells [.nilp,.int .i64 0]],rfl,hup.1,hru,hm',hk'⟩,?_⟩
        unfold CG.mu
        rw [hgA,getD_sapp0]
        show CG.posA pl (kvK up) (esM m') < _
        rw [hpu]
        rw [kvK] at hpl
        rw [hpl]
        omega
      | some q2 =>
        obtain ⟨j2,top⟩:=q2
        rw [hfu] at hf2
        simp only [Option.map_some] at hf2
        rw [kvK] at hf2
        obtain ⟨_,hk,hk1,hk2⟩:=CG.fnd_some pl hfu
        simp only [Nat.sub_zero] at hk hk1 hk2
        have hmk : m'[j2]? = some (up,top):=by
          have e1 : m'[j2]? = some m'[j2]:=List.getElem?_eq_getElem hk
          have e2 : m'.getD j2 (up,up) = m'[j2]:=by simp [List.getD,hk]
          rw [e2] at hk1 hk2
          have:=hU _ (hm'.mem _ (List.getElem_mem hk)).1 _ hup.1 hk1
          rw [e1]
          congr 1
          exact Prod.ext this hk2
        have hjj : j < j2:=by
          rcases Nat.lt_or_ge j j2 with h' | h'
          · exact h'
          · exact absurd rfl (hm'.ord j2 j _ _ hmk hmj h')
        obtain ⟨c1,c2⟩:=hm'.cut hmj hmk hRt
        have hes : (esM m').set j (.agg [.ivptr l'.b l'.off (kE l'.hd),.int .i64 (l'.ks.length : Nat)],.agg [.ivptr top.b top.off (kE top.hd),.int .i64 (top.ks.length : Nat)]) = esM (m'.set j (l',top)):=by
          unfold esM CG.es
          rw [List.map_set]
          rfl
        have hpu : CG.posA pl (kvK up) (esM (m'.set j (l',top))) = m'.length - j2:=by
          have h1:=CG.posA_keys pl up c2
          have h2:=CG.posA_es pl up m'
          rw [hfu] at h2
          exact h1.trans h2
        simp only [zW,zX,zD,builtinA,isLeaf,const1,ustrA,simprocAttr,ti89,ti202,mi89,cf,Try.results118,hi,hf,hf2,hes,LoopK_eq]
        refine ⟨⟨up,m'.set j (l',top),B ++ [.cells (kvK up),.cells (kvK top)],rfl,hup.1,hru,c1,c2.trans hk'⟩,?_⟩
        unfold CG.mu
        rw [hgA,getD_sapp0]
        show CG.posA pl (kvK up) (esM (m'.set j (l',top))) < _
        rw [hpu]
        rw [kvK] at hpl
        rw [hpl]
        omega
set_option maxRecDepth 100000 in
theorem join {U : List KL} (hU : ∀ x ∈ U,∀ y ∈ U,x.idn = y.idn → x = y) {R : KL → KL → Prop} (hR : ∀ x,R x x) (hRt : ∀ x y z,R x y → R y z → R x z) (hRs : ∀ x y,R x y → R y x) (m : List (KL × KL)) (hm : CG.CI U R m) (x y : KL) (hx : x ∈ U) (hy : y ∈ U) (i : Nat) (A : List Box) (hi : i < A.length) (hA : A.getD i .dead = .mapb (esM m)) :
    ACalls Try.prog 109 [.map i,.islice x.b x.off (kEs x.ks),.islice y.b y.off (kEs y.ks)] A (fun r A'=>∃ m',A' = A.set i (.mapb (esM m')) ∧
      ((r = .bool false ∧ R x y ∧ CG.CI U R m') ∨ (r = .bool true ∧ (R x y → CG.CI U R m')))):=by
  have hgA : ∀ X (B : List Box),(A.set i X ++ B).getD i .dead = X:=fun X B=>by rw [getD_app1 _ _ _ _ (by simpa using hi),getD_set1 hi]
  have hxl : (kEs x.ks).length = x.ks.length:=kEs_length _
  have hyl : (kEs y.ks).length = y.ks.length:=kEs_length _
  have hx0 : decide (((x.ks.length : Nat) : Int) = 0) = false:=decide_eq_false (by simp [KL.ks]; omega)
  have hxg : (kEs x.ks).getD 0 [] = kE x.hd:=by simp [KL.ks,kEs]
  have hyg : (kEs y.ks).getD 0 [] = kE y.hd:=by simp [KL.ks,kEs]
  have hxp : 0 < x.ks.length:=by simp [KL.ks]
  have hyp : 0 < y.ks.length:=by simp [KL.ks]
  refine acalls_enter (cf:=cf 32 [0,1,2,6,7,8,11,28]) foll Try.func109 Try.ntmps109 (by simp [cf]) ?_
  simp only [Try.f109,EnterK_some,zW,zX,zD,builtinA,isLeaf,const1,ustrA,simprocAttr,ti3,ti30,ti89,ti130,ti202,ca118,mi89,ks202,cf,Try.results109]
  simp only [zW,zX,zD,builtinA,isLeaf,const1,ustrA,simprocAttr,ti3,ti30,ti89,ti130,ti202,ca118,mi89,ks202,cf,Try.results109,hxl,hyl,hx0,hxg,hyg,kE_length]
  refine ⟨by omega,?_⟩
  refine callK_intro (by simp only [zW,zX,zD,builtinA,isLeaf,const1,ustrA,simprocAttr]; rfl) (find hU hR hRt m hm x hx i _ hi hA) ?_ rfl
  rintro v A' ⟨x',m1,rfl,hx',hrx,hnx,hm1,hk1,rfl⟩
  rw [kvK]
  simp only [zW,zX,zD,builtinA,isLeaf,const1,ustrA,simprocAttr,ti3,ti30,ti89,ti130,ti202,ca118,mi89,ks202,cf,Try.results109,hi,hxl,hyl,hx0,hxg,hyg,kE_length]
  refine ⟨by omega,?_⟩
  refine callK_intro (by simp only [zW,zX,zD,builtinA,isLeaf,const1,ustrA,simprocAttr]; rfl) (find hU hR hRt m1 hm1 y hy i _ (by simp; omega) (hgA _ _)) ?_ rfl
  rintro v A' ⟨y',m2,rfl,hy',hry,hny,hm2,hk2,rfl⟩
  have hnx2 : ∀ p ∈ m2,p.1 ≠ x':=fun p hp e=>by
    have : p.1 ∈ m2.map (·.1):=List.mem_map_of_mem hp
    rw [hk2] at this
    obtain ⟨q,hq,he⟩:=List.mem_map.1 this
    exact hnx q hq (he.trans e)
  rw [kvK]
  by_cases he : x' = y'
  · subst he
    simp only [zW,zX,zD,builtinA,isLeaf,const1,ustrA,simprocAttr,ti3,ti30,ti89,ti130,ti202,ca118,mi89,ks202,cf,Try.results109,hi,hxl,hyl,kE_length]
    exact ⟨outer_set A _ i _ (CG.es_closed pl _ _),m2,rfl,.inl ⟨hRt _ _ _ hrx (hRs _ _ hry),hm2⟩⟩
  · have hne : (decide (x'.b = y'.b ∧ x'.off = y'.off) && decide (((x'.ks.length : Nat) : Int) = ((y'.ks.length : Nat) : Int))) = false:=by
      rw [Bool.eq_false_iff]
      intro hh
      simp only [Bool.and_eq_true,decide_eq_true_eq] at hh
      refine he (hU _ hx' _ hy' ?_)
      simp only [KL.idn,Prod.mk.injEq]
      exact ⟨hh.1.1,hh.1.2,by omega⟩
    have hfn : CG.fnd pl x' m2 0 = none:=by
      cases hq : CG.fnd pl x' m2 0 with
      | none=>rfl
      | some q =>
        obtain ⟨j,v⟩:=q
        obtain ⟨_,hj,hj1,_⟩:=CG.fnd_some pl hq
        simp only [Nat.sub_zero] at hj hj1
        have e2 : m2.getD j (x',x') = m2[j]:=by simp [List.getD,hj]
        rw [e2] at hj1
        exact absurd (hU _ (hm2.mem _ (List.getElem_mem hj)).1 _ hx' hj1) (hnx2 _ (List.getElem_mem hj))
    have hf:=fes x' m2
    rw [hfn,kvK] at hf
    simp only [Option.map_none] at hf
    have hes : esM m2 ++ [(.agg [.ivptr x'.b x'.off (kE x'.hd),.int .i64 (x'.ks.length : Nat)],.agg [.ivptr y'.b y'.off (kE y'.hd),.int .i64 (y'.ks.length : Nat)])] = esM (m2 ++ [(x',y')]):=by
      simp [esM,CG.es,pl,kvK]
    simp only [zW,zX,zD,builtinA,isLeaf,const1,ustrA,simprocAttr,ti3,ti30,ti89,ti130,ti202,ca118,mi89,ks202,cf,Try.results109,hi,hxl,hyl,kE_length]
    rw [hne]
    simp only [zW,zX,zD,builtinA,isLeaf,const1,ustrA,simprocAttr,ti3,ti30,ti89,ti130,ti202,ca118,mi89,ks202,cf,Try.results109,hi,hf,hes]
    refine ⟨outer_set A _ i _ (CG.es_closed pl _ _),m2 ++ [(x',y')],rfl,.inr fun h4=>?_⟩
    exact hm2.push hx' hy' (hRt _ _ _ (hRs _ _ hrx) (hRt _ _ _ h4 hry)) hny he
set_option maxRecDepth 100000 in
theorem join0 (i : Nat) (A : List Box) : ACalls Try.prog 109 [.map i,.slice [],.slice []] A (fun r A'=>r = .bool false ∧ A' = A):=by
  refine acalls_enter (cf:=cf 32 [0,1,2,6,7,8,11,28]) foll Try.func109 Try.ntmps109 (by simp [cf]) ?_
  simp only [Try.f109,EnterK_some,zW,zX,zD,builtinA,isLeaf,const1,ustrA,simprocAttr,ti3,ti30,ti89,ti130,ti202,ca118,mi89,ks202,cf,Try.results109]
set_option maxRecDepth 100000 in
theorem eqf {D S : List Nat} {I : List Box → Prop} (hK : CG.Kp D S I) {g : FuncId} (hg : callable Try.prog g = true) (fs cs : List AV) (eq : ItJ → ItJ → Bool) (a b : List ItJ) (hcall : ∀ x ∈ a,∀ y ∈ b,CG.Cmp Try.prog S I g (fs ++ [.agg (kE x),.agg (kE y)] ++ cs) (eq x y)) (hla : a.length ≤ 1048576) (b1 o1 b2 o2 : Nat) : CG.Cmp Try.prog S I 110 [.islice b1 o1 (kEs a),.islice b2 o2 (kEs b),.func (.func g) fs cs] (CG.allB eq a b):=by
  intro A hA
  have hT:=CG.Chg.rfl hK hA
  by_cases hl : a.length = b.length
  · have hd : decide ((a.length : Int) = (b.length : Int)) = true:=decide_eq_true (by omega)
    refine acalls_enter (cf:=cf 32 [0,1,2,6,7,8,9,14,15,16,17,18,30]) foll Try.func110 Try.ntmps110 (by simp [cf]) ?_
    simp only [Try.f110,EnterK_some,zW,zX,zD,builtinA,isLeaf,const1,ustrA,simprocAttr,ti3,ti30,ti130,cf,Try.results110]
    simp only [zW,zX,zD,builtinA,isLeaf,const1,ustrA,simprocAttr,ti3,ti30,ti130,cf,Try.results110,kEs_length,hd]
    refine aloop_intro [1,2,15,16,17] (fun e A'=>∃ (i : Nat) (A1 B : List Box),i ≤ a.length ∧ CG.allB eq (a.drop i) (b.drop i) = CG.allB eq a b ∧ e = [(1,.islice b2 o2 (kEs b)),(2,.func (.func g) fs cs),(15,.islice b1 o1 (kEs a)),(16,.int .i64 a.length),(17,.int .i64 i)] ∧ A' = A1 ++ B ∧ CG.Chg S A A1 ∧ I A1) (fun e _=>a.length - (intOf (Abs.look 17 e)).toNat) ?_ ?_
    · simp only [zW,zX,zD,builtinA,isLeaf,const1,ustrA,simprocAttr,ti3,ti30,ti130,cf,Try.results110,kEs_length]
      exact ⟨0,A,[],by omega,rfl,rfl,by simp,hT,hA⟩
    · rintro e A' ⟨i,A1,B,hi2,hq,rfl,rfl,hc1,hI1⟩
      simp only [zW,zX,zD,builtinA,isLeaf,const1,ustrA,simprocAttr,ti3,ti30,ti130,cf,Try.results110,kEs_length]
      refine condK_intro (fun h2=>?_) (fun h2=>?_)
      · have hi3 : i < a.length:=by simpa using h2
        have hj2 : i < b.length:=by omega
        rw [CG.allB_at ij0 a b hi3 hj2] at hq
        have e1:=kEs_getD hi3
        have e2:=kEs_getD hj2
        have hxa : a.getD i ij0 ∈ a:=by simp [List.getD,hi3]
        have hxb : b.getD i ij0 ∈ b:=by simp [List.getD,hj2]
        have hi1 : IntKind.i64.wrap ((i : Int) + 1) = ((i + 1 : Nat) : Int):=by rw [wrap64 (by omega) (by omega)]; rfl
        generalize a.getD i ij0 = x at *
        generalize b.getD i ij0 = y at *
        have pa : (0 : Int) ≤ (i : Int) ∧ (i : Int) < (a.length : Int):=⟨by omega,by omega⟩
        have pb : (0 : Int) ≤ (i : Int) ∧ (i : Int) < (b.length : Int):=⟨by omega,by omega⟩
        have hcl:=fun L=>hcall x hxa y hxb (A1 ++ L) (hK.app hI1 L)
        have hlt:=hK.lt A1 hI1
        simp only [zW,zX,zD,builtinA,isLeaf,const1,ustrA,simprocAttr,ti3,ti30,ti130,cf,Try.results110,e1,e2,kE_length,kE_take,kEs_length]
        refine ⟨pa,pb,?_⟩
        refine wpO_callv _ _ _ _ _ _ _ _ _ _ _ _ _ _ _ ?_
        simp only [zW,zX,zD,builtinA,isLeaf,const1,ustrA,simprocAttr,ti3,ti30,ti130,cf,Try.results110]
        refine ⟨hg,callO_intro (by simpa using hcl _) ?_⟩
        rintro r A' ⟨rfl,hc2,hI2⟩
        obtain ⟨A2,L2,rfl,hc3,_⟩:=hc2.split fun k hk=>hlt k (hK.sub k hk)
        have hc4:=hc1.trans hc3
        cases hh : eq x y with
        | true =>
          rw [hh,Bool.true_and] at hq
          simp only [zW,zX,zD,builtinA,isLeaf,const1,ustrA,simprocAttr,ti3,ti30,ti130,cf,Try.results110,hi1,LoopK_eq]
          refine ⟨⟨i + 1,A2,L2,by omega,hq,rfl,rfl,hc4,hK.cut (hI2 hh) fun k hk=>by rw [hc3.1]; exact hlt k hk⟩,?_⟩
          simp only [intOf]; omega
        | false =>
          rw [hh,Bool.false_and] at hq
          simp only [zW,zX,zD,builtinA,isLeaf,const1,ustrA,simprocAttr,ti3,ti30,ti130,cf,Try.results110]
          rw [hc4.take]
          exact ⟨hc4.outer _,by rw [← hq],hc4,fun h=>by rw [← hq] at h; cases h⟩
      · have : i = a.length:=by simp at h2; omega
        subst this
        have hb0 : b.drop a.length = []:=by simp; omega
        rw [List.drop_length,hb0,CG.allB] at hq
        simp only [zW,zX,zD,builtinA,isLeaf,const1,ustrA,simprocAttr,ti3,ti30,ti130,cf,Try.results110]
        rw [hc1.take]
        exact ⟨hc1.outer _,by rw [← hq],hc1,fun _=>hI1⟩
  · have hd : decide ((a.length : Int) = (b.length : Int)) = false:=decide_eq_false (by omega)
    rw [CG.allB_len (by simpa using hl)]
    refine acalls_enter (cf:=cf 32 [0,1,2,6,7,8,9,14,15,16,17,18,30]) foll Try.func110 Try.ntmps110 (by simp [cf]) ?_
    simp only [Try.f110,EnterK_some,zW,zX,zD,builtinA,isLeaf,const1,ustrA,simprocAttr,ti3,ti30,ti130,cf,Try.results110]
    simp only [zW,zX,zD,builtinA,isLeaf,const1,ustrA,simprocAttr,ti3,ti30,ti130,cf,Try.results110,kEs_length,hd]
    exact hT
set_option maxRecDepth 100000 in
theorem same {δ : Type} {U : List KL} (hU : ∀ x ∈ U,∀ y ∈ U,x.idn = y.idn → x = y) (er : ItJ → δ) {D S : List Nat} {J : List Box → Prop} (hK : CG.Kp D S J) {g : FuncId} (hg : callable Try.prog g = true) (fs cs : List AV) (eq : ItJ → ItJ → Bool) (heq : ∀ x y,eq x y = true ↔ er x = er y) (x y : Option KL) (hx : ∀ l,x = some l → l ∈ U) (hy : ∀ l,y = some l → l ∈ U)
    (hcall : ∀ a ∈ oKK x,∀ b ∈ oKK y,CG.Cmp Try.prog S J g (fs ++ [.agg (kE a),.agg (kE b)] ++ cs) (eq a b)) (hla : (oKK x).length ≤ 1048576) (is : Nat) (his : is ∉ D) :
    CG.Cmp Try.prog (S ++ [is]) (fun A=>J A ∧ CG.ClM pl U (fun x y=>x.ks.map er = y.ks.map er) is A) 89 [.map is,oVK x,oVK y,.func (.func g) fs cs] (CG.allB eq (oKK x) (oKK y)):=by
  intro A ⟨hJ,hM⟩
  have hK2:=hK.and (CG.ClM.kp pl U (fun x y=>x.ks.map er = y.ks.map er) is)
  have hT:=CG.Chg.rfl hK2 ⟨hJ,hM⟩
  have hTA : (A ++ []).take A.length = A:=hT.take []
  cases x with
  | none =>
    cases y with
    | none =>
      simp only [oVK,oKK]
      refine acalls_enter (cf:=cf 27 [0,1,2,3,8]) foll Try.func89 Try.ntmps89 (by simp [cf]) ?_
      simp only [Try.f89,EnterK_some,zW,zX,zD,builtinA,isLeaf,const1,ustrA,simprocAttr,ti3,ti30,ti130,ca109,ca110,cf,Try.results89]
      refine callO_intro (join0 is A) ?_
      rintro r A' ⟨rfl,rfl⟩
      simp only [zW,zX,zD,builtinA,isLeaf,const1,ustrA,simprocAttr,ti3,ti30,ti130,ca109,ca110,cf,Try.results89]
      exact ⟨rfl,hT,fun _=>⟨hJ,hM⟩⟩
    | some y =>
      have hd : decide ((0 : Int) = (y.ks.length : Int)) = false:=decide_eq_false (by simp [KL.ks]; omega)
      simp only [oVK,oKK]
      refine acalls_enter (cf:=cf 27 [0,1,2,3,8]) foll Try.func89 Try.ntmps89 (by simp [cf]) ?_
      simp only [Try.f89,EnterK_some,zW,zX,zD,builtinA,isLeaf,const1,ustrA,simprocAttr,ti3,ti30,ti130,ca109,ca110,cf,Try.results89]
      simp only [zW,zX,zD,builtinA,isLeaf,const1,ustrA,simprocAttr,ti3,ti30,ti130,ca109,ca110,cf,Try.results89,kEs_length,hd]
      exact ⟨by simp [KL.ks,CG.allB],hT,fun _=>⟨hJ,hM⟩⟩
  | some x =>
    cases y with
    | none =>
      have hd : decide ((x.ks.length : Int) = 0) = false:=decide_eq_false (by simp [KL.ks]; omega)
      simp only [oVK,oKK]
      refine acalls_enter (cf:=cf 27 [0,1,2,3,8]) foll Try.func89 Try.ntmps89 (by simp [cf]) ?_
      simp only [Try.f89,EnterK_some,zW,zX,zD,builtinA,isLeaf,const1,ustrA,simprocAttr,ti3,ti30,ti130,ca109,ca110,cf,Try.results89]
      simp only [zW,zX,zD,builtinA,isLeaf,const1,ustrA,simprocAttr,ti3,ti30,ti130,ca109,ca110,cf,Try.results89,kEs_length,hd]
      exact ⟨by simp [KL.ks,CG.allB],hT,fun _=>⟨hJ,hM⟩⟩
    | some y =>
      simp only [oVK,oKK] at hcall hla ⊢
      have hxU:=hx x rfl
      have hyU:=hy y rfl
      have hiff:=CG.allB_iff heq x.ks y.ks
      by_cases hl : x.ks.length = y.ks.length
      · have hd : decide ((x.ks.length : Int) = (y.ks.length : Int)) = true:=decide_eq_true (by omega)
        obtain ⟨hiA,m,hm,hci⟩:=hM
        have hput : ∀ m',J (A.set is (.mapb (esM m'))):=fun m'=>hK.loc A _ (fun k hk=>by rw [Abs.getD_set_ne' (fun e=>his (by rw [e]; exact hk))]) hJ
        have hchg : ∀ m',CG.Chg (S ++ [is]) A (A.set is (.mapb (esM m'))):=fun m'=>⟨by simp,fun k hk=>by rw [Abs.getD_set_ne' (fun e=>hk (by simp [e]))],fun k hk n=>by
          by_cases e : k = is
          · subst e; rw [Abs.getD_set_self hiA]; exact CG.es_closed pl n m'
          · rw [Abs.getD_set_ne' (Ne.symm e)]; exact hT.2.2 k hk n⟩
        have hcm : ∀ m' (A' : List Box),A'.length = A.length → A'.getD is .dead = .mapb (esM m') → CG.CI U (fun x y=>x.ks.map er = y.ks.map er) m' → CG.ClM pl U (fun x y=>x.ks.map er = y.ks.map er) is A':=fun m' A' h1 h2 h3=>⟨by omega,m',h2,h3⟩
        refine acalls_enter (cf:=cf 27 [0,1,2,3,8]) foll Try.func89 Try.ntmps89 (by simp [cf]) ?_
        simp only [Try.f89,EnterK_some,zW,zX,zD,builtinA,isLeaf,const1,ustrA,simprocAttr,ti3,ti30,ti130,ca109,ca110,cf,Try.results89]
        simp only [zW,zX,zD,builtinA,isLeaf,const1,ustrA,simprocAttr,ti3,ti30,ti130,ca109,ca110,cf,Try.results89,kEs_length,hd]
        refine callO_intro (join (R:=fun x y=>x.ks.map er = y.ks.map er) hU (fun _=>rfl) (fun _ _ _ h k=>h.trans k) (fun _ _ h=>h.symm) m hci x y hxU hyU is A hiA hm) ?_
        rintro r A' ⟨m',rfl,⟨rfl,hr,hci'⟩ | ⟨rfl,hr⟩⟩
        · have h1:=hput m'
          have h2:=hchg m'
          have h3:=hcm m' _ (by simp) (Abs.getD_set_self hiA) hci'
          generalize A.set is (.mapb (esM m')) = A1 at *
          have h4:=h2.outer []
          have h5:=h2.take []
          rw [List.append_nil] at h4 h5
          simp only [zW,zX,zD,builtinA,isLeaf,const1,ustrA,simprocAttr,ti3,ti30,ti130,ca109,ca110,cf,Try.results89]
          rw [h5]
          exact ⟨h4,by rw [hiff.2 hr],h2,fun _=>⟨h1,h3⟩⟩
        · have h1:=hput m'
          have h2:=hchg m'
          have h3:=hcm m'
          have h6 : (A.set is (.mapb (esM m'))).getD is .dead = .mapb (esM m'):=Abs.getD_set_self hiA
          generalize A.set is (.mapb (esM m')) = A1 at *
          have heqf:=eqf hK hg fs cs eq x.ks y.ks hcall hla x.b x.off y.b y.off A1 h1
          simp only [zW,zX,zD,builtinA,isLeaf,const1,ustrA,simprocAttr,ti3,ti30,ti130,ca109,ca110,cf,Try.results89]
          refine callO_intro heqf ?_
          rintro r A' ⟨rfl,q2,q3⟩
          have hl1:=h2.1
          have hl2:=q2.1
          have q4 : CG.Chg (S ++ [is]) A A':=⟨by omega,fun k hk=>by rw [q2.2.1 k (fun h=>hk (by simp [h])),h2.2.1 k hk],fun k hk n=>by
            by_cases e : k ∈ S
            · exact q2.2.2 k e n
            · rw [q2.2.1 k e]; exact h2.2.2 k hk n⟩
          have q5 : A'.getD is .dead = .mapb (esM m'):=by rw [q2.2.1 is (fun h=>his (hK.sub is h))]; exact h6
          have h4:=q4.outer []
          have h5:=q4.take []
          rw [List.append_nil] at h4 h5
          simp only [zW,zX,zD,builtinA,isLeaf,const1,ustrA,simprocAttr,ti3,ti30,ti130,ca109,ca110,cf,Try.results89]
          rw [h5]
          exact ⟨h4,q4,fun hb=>⟨q3 hb,h3 A' (by omega) q5 (hr (hiff.1 hb))⟩⟩
      · have hd : decide ((x.ks.length : Int) = (y.ks.length : Int)) = false:=decide_eq_false (by omega)
        rw [CG.allB_len (by simpa using hl)]
        refine acalls_enter (cf:=cf 27 [0,1,2,3,8]) foll Try.func89 Try.ntmps89 (by simp [cf]) ?_
        simp only [Try.f89,EnterK_some,zW,zX,zD,builtinA,isLeaf,const1,ustrA,simprocAttr,ti3,ti30,ti130,ca109,ca110,cf,Try.results89]
        simp only [zW,zX,zD,builtinA,isLeaf,const1,ustrA,simprocAttr,ti3,ti30,ti130,ca109,ca110,cf,Try.results89,kEs_length,hd]
        exact hT
end CK
end Go.Proofs.Ytijlnkfiadajhaa
/- Items of signatures as data, and what the laws' helpers do with lists of them. -/
set_option linter.unusedVariables false
set_option linter.unusedSimpArgs false
namespace Go.Proofs.Ytijlnkfiadajhaa
open Go.Abs
set_option maxRecDepth 100000 in
theorem laws_szSigItem (x : SigI) (hx : x.Ok) (l : Int) (A : List Box) (h0 : 0 ≤ l) (h1 : l ≤ 1048576) :
    ACalls Try.prog 52 [.agg (sEA x),.int .i64 l] A (fun v A'=>v = .int .i64 (left l (szI x)) ∧ A' = A):=by
  have hw : IntKind.i64.wrap (l - ↑x.name.length) = l - x.name.length:=wrap64 (by have:=hx.1; omega) (by have:=hx.1; omega)
  rw [sEA]
  refine acalls_enter (cf:=cf 19 [0,1,2,4,11,17]) foll Try.func52 Try.ntmps52 (by simp [cf]) ?_
  simp only [Try.f52,EnterK_some,zW,zX,zD,builtinA,isLeaf,const1,ustrA,simprocAttr,ti3,ti9,ti39,ti128,ca66,cf,Try.results52]
  rw [hw]
  refine ⟨by omega,condK_intro (fun h=>?_) (fun h=>?_)⟩
  · simp only [zW,zX,zD,builtinA,isLeaf,const1,ustrA,simprocAttr,ti3,ti9,ti39,ti128,ca66,cf,Try.results52]
    rw [left,if_neg (by rw [szI]; simp at h; omega)]
  · simp only [decide_eq_false_iff_not] at h
    simp only [zW,zX,zD,builtinA,isLeaf,const1,ustrA,simprocAttr,ti3,ti9,ti39,ti128,ca66,cf,Try.results52,encA_length,encA_take]
    refine callK_intro (by simp only [zW,zX,zD,builtinA,isLeaf,const1,ustrA,simprocAttr,frzL_encA,Option.map_some]; rfl) (laws_szType x.typ hx.2 _ _ (by omega) (by omega)) ?_ rfl; rintro v A' ⟨rfl,rfl⟩
    by_cases hf : ((szI x : Nat) : Int) ≤ l
    · have hv : left (l - ↑x.name.length) (sz x.typ) = l - szI x:=by
        rw [szI] at hf ⊢
        rw [left,if_pos (by omega)]; omega
      have hn : decide (l - szI x < 0) = false:=by simp only [decide_eq_false_iff_not]; omega
      rw [hv,left,if_pos hf]
      simp only [zW,zX,zD,builtinA,isLeaf,const1,ustrA,simprocAttr,ti3,ti9,ti39,ti128,ca66,cf,Try.results52,hn]
    · have hv : left (l - ↑x.name.length) (sz x.typ) = -1:=by
        rw [szI] at hf
        rw [left,if_neg (by omega)]
      rw [hv,left,if_neg hf]
      simp only [zW,zX,zD,builtinA,isLeaf,const1,ustrA,simprocAttr,ti3,ti9,ti39,ti128,ca66,cf,Try.results52]
set_option maxRecDepth 100000 in
theorem laws_szSigItemS (ks : List SigI) (hl : ks.length < 2 ^ 63) (hk : ∀ t ∈ ks,t.Ok) (l : Int) (A : List Box) (h0 : 0 ≤ l) (h1 : l ≤ 1048576) :
    ACalls Try.prog 22 [.aslice (sEAs ks),.int .i64 l] A (fun v A'=>v = .int .i64 (left l (ks.length + szIs ks)) ∧ A' = A):=by
  have hw : IntKind.i64.wrap (l - ↑(sEAs ks).length) = l - ks.length:=by rw [sEAs_length]; exact wrap64 (by omega) (by omega)
  refine acalls_enter (cf:=cf 27 [0,1,4,5,11,15,25]) foll Try.func22 Try.ntmps22 (by simp [cf]) ?_
  simp only [Try.f22,EnterK_some,zW,zX,zD,builtinA,isLeaf,const1,ustrA,simprocAttr,ti3,ti24,ti128,ca52,cf,Try.results22]
  rw [hw]
  refine condK_intro (fun h=>?_) (fun h=>?_)
  · simp only [zW,zX,zD,builtinA,isLeaf,const1,ustrA,simprocAttr,ti3,ti24,ti128,ca52,cf,Try.results22]
    have : ¬ ((ks.length + szIs ks : Nat) : Int) ≤ l:=by simp at h; omega
    rw [left,if_neg this]
  · simp only [zW,zX,zD,builtinA,isLeaf,const1,ustrA,simprocAttr,ti3,ti24,ti128,ca52,cf,Try.results22]
    refine aloop_intro [0,1,5] (fun e A'=>∃ i,i ≤ ks.length ∧ ((ks.length + szIs (ks.take i) : Nat) : Int) ≤ l ∧ e = [(0,.aslice (sEAs ks)),(1,.int .i64 (l - (ks.length + szIs (ks.take i) : Nat))),(5,.int .i64 i)] ∧ A' = A) (fun e _=>ks.length - (intOf (Abs.look 5 e)).toNat) ?_ ?_
    · refine ⟨0,by omega,?_,?_,rfl⟩
      · simp at h; simp [szIs]; omega
      · simp only [zW,zX,zD,builtinA,isLeaf,const1,ustrA,simprocAttr,ti3,ti24,ti128,ca52,cf,Try.results22]
        simp [szIs]
    · rintro e A' ⟨i,hi,hle,rfl,rfl⟩
      simp only [zW,zX,zD,builtinA,isLeaf,const1,ustrA,simprocAttr,ti3,ti24,ti128,ca52,cf,Try.results22]
      refine condK_intro (fun h2=>?_) (fun h2=>?_)
      · have hi2 : i < ks.length:=by simp [sEAs_length] at h2; exact h2
        have he:=sEAs_getD hi2
        have hm:=si_mem hi2
        have hs:=szIs_take hi2
        simp only [zW,zX,zD,builtinA,isLeaf,const1,ustrA,simprocAttr,ti3,ti24,ti128,ca52,cf,Try.results22,he,sEA_length,sEA_take,sEAs_length]
        refine ⟨⟨by omega,by omega⟩,?_⟩
        refine callK_intro (by simp only [zW,zX,zD,builtinA,isLeaf,const1,ustrA,simprocAttr,frzL_sEA,Option.map_some]; rfl) (laws_szSigItem _ (hk _ hm) _ _ (by omega) (by omega)) ?_ rfl; rintro v A' ⟨rfl,rfl⟩
        by_cases hf : ((ks.length + szIs (ks.take (i + 1)) : Nat) : Int) ≤ l
        · have hv : left (l - ((ks.length + szIs (ks.take i) : Nat) : Int)) (szI (ks.getD i si0)) = l - ((ks.length + szIs (ks.take (i + 1)) : Nat) : Int):=by
            rw [left,if_pos (by omega)]; omega
          have hn : decide (l - ((ks.length + szIs (ks.take (i + 1)) : Nat) : Int) < 0) = false:=by simp only [decide_eq_false_iff_not]; omega
          have hi1 : IntKind.i64.wrap ((i : Int) + 1) = ((i + 1 : Nat) : Int):=by rw [wrap64 (by omega) (by omega)]; rfl
          rw [hv]
          simp only [zW,zX,zD,builtinA,isLeaf,const1,ustrA,simprocAttr,ti3,ti24,ti128,ca52,cf,Try.results22,hn,hi1,LoopK_eq,sEAs_length]
          refine ⟨⟨i + 1,by omega,hf,rfl⟩,?_⟩
          simp only [intOf]
          omega
        · have hv : left (l - ((ks.length + szIs (ks.take i) : Nat) : Int)) (szI (ks.getD i si0)) = -1:=by
            rw [left,if_neg (by omega)]
          have hz:=szIs_le ks (i + 1)
          rw [hv,left,if_neg (by omega)]
          simp only [zW,zX,zD,builtinA,isLeaf,const1,ustrA,simprocAttr,ti3,ti24,ti128,ca52,cf,Try.results22]
      · simp only [zW,zX,zD,builtinA,isLeaf,const1,ustrA,simprocAttr,ti3,ti24,ti128,ca52,cf,Try.results22]
        have : i = ks.length:=by simp [sEAs_length] at h2; omega
        subst this
        rw [List.take_length] at hle ⊢
        rw [left,if_pos hle]
set_option maxRecDepth 100000 in
theorem laws_toSigItem (x : SigI) (hx : szI x ≤ 1048576) (A : List Box) : ACalls Try.prog 55 [.agg (sEA x)] A (fun v A'=>v = .agg (sE x) ∧ A' = A):=by
  have h1 : sz x.typ ≤ 1048576:=by rw [szI] at hx; omega
  rw [sEA,sE]
  refine acalls_enter (cf:=cf 15 [0,1,2,3]) foll Try.func55 Try.ntmps55 (by simp [cf]) ?_
  simp only [Try.f55,EnterK_some,zW,zX,zD,builtinA,isLeaf,const1,ustrA,simprocAttr,ti3,ti9,ti39,ti50,ti128,ti132,ca69,cf,Try.results55]
  simp only [zW,zX,zD,builtinA,isLeaf,const1,ustrA,simprocAttr,ti3,ti9,ti39,ti50,ti128,ti132,ca69,cf,Try.results55,encA_length,encA_take]
  refine callK_intro (by simp only [zW,zX,zD,builtinA,isLeaf,const1,ustrA,simprocAttr,frzL_encA,Option.map_some]; rfl) (laws_toType x.typ h1 _) ?_ rfl; rintro v A' ⟨rfl,rfl⟩
  simp only [zW,zX,zD,builtinA,isLeaf,const1,ustrA,simprocAttr,ti3,ti9,ti39,ti50,ti128,ti132,ca69,cf,Try.results55,enc_length,enc_take,encD,frzL_enc,Option.map_some,encCl,List.all_cons,Bool.and_true,Bool.and_self]
theorem srow_step {l : List SigI} {i : Nat} (h : i < l.length) : (sEs (l.take i) ++ List.replicate (l.length - i) zsi).set i (sE (l.getD i si0) ++ List.drop 6 ((sEs (l.take i) ++ List.replicate (l.length - i) zsi).getD i [])) = sEs (l.take (i + 1)) ++ List.replicate (l.length - (i + 1)) zsi:=by
  have e1 : (sEs (l.take i)).length = i:=by rw [sEs_length]; simp; omega
  have e2 : List.drop 6 ((sEs (l.take i) ++ List.replicate (l.length - i) zsi).getD i []) = []:=by
    have e3 : l.length - i = (l.length - (i + 1)) + 1:=by omega
    rw [List.getD,List.getElem?_append_right (by omega),e1,Nat.sub_self,e3,List.replicate_succ]
    rfl
  have e4 : l.length - i = (l.length - (i + 1)) + 1:=by omega
  rw [e2,List.append_nil,List.set_append_right _ _ (by omega),e1,Nat.sub_self,e4,List.replicate_succ,List.set_cons_zero]
  simp only [sEs]
  rw [List.take_add_one,List.map_append,List.append_assoc]
  simp [List.getD,h]
set_option maxRecDepth 100000 in
theorem laws_toSigItemS (ks : List SigI) (hl : ks.length ≤ 1048576) (hk : szIs ks ≤ 1048576) (A : List Box) :
    ACalls Try.prog 27 [.aslice (sEAs ks)] A (fun v A'=>v = .slice (sEs ks) ∧ A' = A):=by
  have hl2 : ((sEAs ks).length : Int) ≤ 1048576:=by rw [sEAs_length]; omega
  refine acalls_enter (cf:=cf 23 [0,2,3,4,11]) foll Try.func27 Try.ntmps27 (by simp [cf]) ?_
  simp only [Try.f27,EnterK_some,zW,zX,zD,builtinA,isLeaf,const1,ustrA,simprocAttr,ti3,ti24,ti31,ti128,ti132,ca55,cf,Try.results27]
  refine ⟨⟨by omega,by omega,by omega⟩,?_⟩
  refine aloop_intro [0,3,4] (fun e A'=>∃ i,i ≤ ks.length ∧ e = [(0,.aslice (sEAs ks)),(3,.own A.length),(4,.int .i64 i)] ∧ A' = A ++ [.row 6 (sEs (ks.take i) ++ List.replicate (ks.length - i) zsi) 0]) (fun e _=>ks.length - (intOf (Abs.look 4 e)).toNat) ?_ ?_
  · simp only [zW,zX,zD,builtinA,isLeaf,const1,ustrA,simprocAttr,ti3,ti24,ti31,ti128,ti132,ca55,cf,Try.results27]
    exact ⟨0,by omega,rfl,by rw [sEAs_length]; simp [sEs,zsi]⟩
  · rintro e A' ⟨i,hi,rfl,rfl⟩
    simp only [zW,zX,zD,builtinA,isLeaf,const1,ustrA,simprocAttr,ti3,ti24,ti31,ti128,ti132,ca55,cf,Try.results27,sEAs_length]
    refine condK_intro (fun h2=>?_) (fun h2=>?_)
    · have hi2 : i < ks.length:=by simpa using h2
      have he:=sEAs_getD hi2
      have hm:=si_mem hi2
      have hzm:=szIs_mem hm
      simp only [zW,zX,zD,builtinA,isLeaf,const1,ustrA,simprocAttr,ti3,ti24,ti31,ti128,ti132,ca55,cf,Try.results27,he,sEA_length,sEA_take,sEAs_length]
      refine ⟨⟨by omega,by omega⟩,?_⟩
      refine callK_intro (by simp only [zW,zX,zD,builtinA,isLeaf,const1,ustrA,simprocAttr,frzL_sEA,Option.map_some]; rfl) (laws_toSigItem _ (by omega) _) ?_ rfl; rintro v A' ⟨rfl,rfl⟩
      have hi1 : IntKind.i64.wrap ((i : Int) + 1) = ((i + 1 : Nat) : Int):=by rw [wrap64 (by omega) (by omega)]; rfl
      simp only [zW,zX,zD,builtinA,isLeaf,const1,ustrA,simprocAttr,ti3,ti24,ti31,ti128,ti132,ca55,cf,Try.results27,sE_length,frzL_sE,srow_step hi2,hi1,LoopK_eq]
      have hlen : (sEs (List.take i ks)).length + (List.replicate (ks.length - i) zsi).length = ks.length:=by
        simp [sEs_length]; omega
      rw [hlen]
      refine ⟨⟨by omega,by omega⟩,⟨by omega,by omega,fun v hv=>sE_leaf _ v hv⟩,⟨i + 1,by omega,rfl,rfl⟩,?_⟩
      simp only [intOf]
      omega
    · simp only [zW,zX,zD,builtinA,isLeaf,const1,ustrA,simprocAttr,ti3,ti24,ti31,ti128,ti132,ca55,cf,Try.results27]
      have : i = ks.length:=by simp at h2; omega
      subst this
      simp [List.take_length]
set_option maxRecDepth 100000 in
theorem laws_eqSigItem (x : SigI) (hx : x.Ok) (A : List Box) : ACalls Try.prog 64 [.agg (sE x),.agg (sE x)] A (fun v A'=>v = .bool true ∧ A' = A):=by
  rw [sE]
  refine acalls_enter (cf:=cf 21 [0,1,2,3,4,9,14,20]) foll Try.func64 Try.ntmps64 (by simp [cf]) ?_
  simp only [Try.f64,EnterK_some,zW,zX,zD,builtinA,isLeaf,const1,ustrA,simprocAttr,ti3,ti9,ti50,ti132,ca74,cf,Try.results64]
  simp only [zW,zX,zD,builtinA,isLeaf,const1,ustrA,simprocAttr,ti3,ti9,ti50,ti132,ca74,cf,Try.results64,enc_length,enc_take]
  refine callK_intro (by simp only [zW,zX,zD,builtinA,isLeaf,const1,ustrA,simprocAttr,frzL_enc,Option.map_some]; rfl) (laws_eqType x.typ hx.2 _) ?_ rfl; rintro v A' ⟨rfl,rfl⟩
  simp only [zW,zX,zD,builtinA,isLeaf,const1,ustrA,simprocAttr,ti3,ti9,ti50,ti132,ca74,cf,Try.results64]
set_option maxRecDepth 100000 in
theorem laws_eqSigItemS (ks : List SigI) (hl : ks.length < 2 ^ 63) (hk : ∀ t ∈ ks,t.Ok) (A : List Box) :
    ACalls Try.prog 32 [.slice (sEs ks),.slice (sEs ks)] A (fun v A'=>v = .bool true ∧ A' = A):=by
  refine acalls_enter (cf:=cf 27 [0,1,4,5,10,14,26]) foll Try.func32 Try.ntmps32 (by simp [cf]) ?_
  simp only [Try.f32,EnterK_some,zW,zX,zD,builtinA,isLeaf,const1,ustrA,simprocAttr,ti3,ti31,ti132,ca64,cf,Try.results32]
  refine aloop_intro [0,1,5] (fun e A'=>∃ i,i ≤ ks.length ∧ e = [(0,.slice (sEs ks)),(1,.slice (sEs ks)),(5,.int .i64 i)] ∧ A' = A) (fun e _=>ks.length - (intOf (Abs.look 5 e)).toNat) ?_ ?_
  · simp only [zW,zX,zD,builtinA,isLeaf,const1,ustrA,simprocAttr,ti3,ti31,ti132,ca64,cf,Try.results32]
    exact ⟨0,by omega,rfl⟩
  · rintro e A' ⟨i,hi,rfl,rfl⟩
    simp only [zW,zX,zD,builtinA,isLeaf,const1,ustrA,simprocAttr,ti3,ti31,ti132,ca64,cf,Try.results32,sEs_length]
    refine condK_intro (fun h2=>?_) (fun h2=>?_)
    · have hi2 : i < ks.length:=by simpa using h2
      have he:=sEs_getD hi2
      have hm:=si_mem hi2
      have hi1 : IntKind.i64.wrap ((i : Int) + 1) = ((i + 1 : Nat) : Int):=by rw [wrap64 (by omega) (by omega)]; rfl
      simp only [zW,zX,zD,builtinA,isLeaf,const1,ustrA,simprocAttr,ti3,ti31,ti132,ca64,cf,Try.results32,he,sE_length,sE_take,sEs_length]
      refine .inl ⟨by kernel_rfl,by kernel_rfl,⟨by omega,by omega⟩,⟨by omega,by omega⟩,?_⟩
      refine callD_intro (by simp only [zW,zX,zD,builtinA,isLeaf,const1,ustrA,simprocAttr,frzL_sE,Option.map_some] <;> rfl) (laws_eqSigItem _ (hk _ hm) _) ?_ rfl
      simp only [zW,zX,zD,builtinA,isLeaf,const1,ustrA,simprocAttr,ti3,ti31,ti132,ca64,cf,Try.results32,hi1,LoopK_eq]
      refine ⟨⟨i + 1,by omega,rfl⟩,?_⟩
      simp only [intOf]
      omega
    · simp only [zW,zX,zD,builtinA,isLeaf,const1,ustrA,simprocAttr,ti3,ti31,ti132,ca64,cf,Try.results32]
end Go.Proofs.Ytijlnkfiadajhaa
/- From a law's argument, a list of items, to data. -/
set_option linter.unusedVariables false
set_option linter.unusedSimpArgs false
namespace Go.Proofs.Ytijlnkfiadajhaa
open Go.Abs Go.RowKit Go.ChangeShapes Go.WideShapes Go.ChangeAt Go.ChangeMaps
def SigsOk (l : List SigI) : Prop:=l.length < 2 ^ 63 ∧ ∀ x ∈ l,x.Ok
theorem cI : Try.prog.cellsOf 128 = 6:=by kernel_rfl
theorem cIS : Try.prog.cellsOf 24 = 1:=by kernel_rfl
theorem six {α : Type} {l : List α} (h : l.length = 6) : ∃ a b c d e f,l = [a,b,c,d,e,f]:=by
  match l,h with
  | [a,b,c,d,e,f],_=>exact ⟨a,b,c,d,e,f,rfl⟩
theorem si_of {cz : List AV} (h : Cells Try.prog 128 cz) : ∃ x : SigI,cz = sEA x ∧ x.Ok:=by
  generalize ht : 128 = t at h
  cases h with
  | int h1 h2=>subst ht; rw [Try.underlying128] at h1; injection h1 with h1; cases h1
  | bool h1=>subst ht; rw [Try.underlying128] at h1; injection h1 with h1; cases h1
  | str h1=>subst ht; rw [Try.underlying128] at h1; injection h1 with h1; cases h1
  | slice h1 h2 h3=>subst ht; rw [Try.underlying128] at h1; injection h1 with h1; cases h1
  | @struct t fs cs h1 h2 h3 =>
    subst ht
    rw [Try.underlying128] at h1
    injection h1 with h1
    injection h1 with h1
    subst h1
    rw [cI] at h2
    obtain ⟨a,b,c,d,e,f,rfl⟩:=six h2
    simp only [List.mem_cons,List.not_mem_nil,or_false,forall_eq_or_imp,forall_eq,c3,c9,cS,cT,List.drop_zero,List.drop_succ_cons,List.take_succ_cons,List.take_zero] at h3
    obtain ⟨n,e1⟩:=cells_int Try.underlying3 h3.1
    obtain ⟨m,e2,l2⟩:=cells_str Try.underlying9 h3.2.1
    obtain ⟨τ,e3,l3⟩:=(ty_of h3.2.2).1 rfl
    injection e1 with e1; injection e2 with e2
    subst e1; subst e2
    have hm : maxLen = 2 ^ 63 - 1:=rfl
    exact ⟨⟨n,m,τ⟩,by simp only [sEA]; rw [← e3],by simp only [SigI.Ok]; exact ⟨by omega,l3⟩⟩
theorem sis_of {cz : List AV} (h : Cells Try.prog 24 cz) : ∃ l,cz = [.aslice (sEAs l)] ∧ SigsOk l:=by
  generalize ht : 24 = t at h
  cases h with
  | int h1 h2=>subst ht; rw [Try.underlying24] at h1; injection h1 with h1; cases h1
  | bool h1=>subst ht; rw [Try.underlying24] at h1; injection h1 with h1; cases h1
  | str h1=>subst ht; rw [Try.underlying24] at h1; injection h1 with h1; cases h1
  | slice h1 h2 h3 =>
    subst ht
    rw [Try.underlying24] at h1
    injection h1 with h1
    injection h1 with h1
    subst h1
    obtain ⟨ks,k1,k2,k3⟩:=list_enc (f:=sEA) (Q:=SigI.Ok) fun r hr=>si_of (h3 r hr)
    have hm : maxLen = 2 ^ 63 - 1:=rfl
    refine ⟨ks,by rw [sEAs,k1],?_,k3⟩
    rw [k2]; omega
  | @struct t fs cs h1 h2 h3=>subst ht; rw [Try.underlying24] at h1; injection h1 with h1; cases h1
section
variable {H : Type} {enc' : TypeId × Value → H} {W : World}
end
end Go.Proofs.Ytijlnkfiadajhaa
/- Modules with their signatures as data, and what the laws' helpers do with lists of them. -/
set_option linter.unusedVariables false
set_option linter.unusedSimpArgs false
namespace Go.Proofs.Ytijlnkfiadajhaa
open Go.Abs
structure ImI where
  name : List UInt8
  sig : List SigI
def pm0 : ImI:=⟨[],[]⟩
def pE (x : ImI) : List AV:=[.str x.name,.slice (sEs x.sig)]
def pEA (x : ImI) : List AV:=[.str x.name,.aslice (sEAs x.sig)]
def pEs (l : List ImI) : List (List AV):=l.map pE
def pEAs (l : List ImI) : List (List AV):=l.map pEA
def szP (x : ImI) : Nat:=x.name.length + (x.sig.length + szIs x.sig)
def szPs (l : List ImI) : Nat:=(l.map szP).sum
def ImI.Ok (x : ImI) : Prop:=x.name.length < 2 ^ 63 ∧ SigsOk x.sig
def zpm : List AV:=[.str [],.slice []]
theorem pE_length (x : ImI) : (pE x).length = 2:=rfl
theorem pEA_length (x : ImI) : (pEA x).length = 2:=rfl
theorem pE_take (x : ImI) : List.take 2 (pE x) = pE x:=rfl
theorem pEA_take (x : ImI) : List.take 2 (pEA x) = pEA x:=rfl
theorem pE_leaf (x : ImI) : ∀ v ∈ pE x,isLeaf v = true:=by simp [pE,isLeaf]
theorem frzL_pE (x : ImI) (A : List Box) : frzL (pE x) A = some (pE x,A):=rfl
theorem frzL_pEA (x : ImI) (A : List Box) : frzL (pEA x) A = some (pEA x,A):=rfl
theorem pEs_length (l : List ImI) : (pEs l).length = l.length:=by simp [pEs]
theorem pEAs_length (l : List ImI) : (pEAs l).length = l.length:=by simp [pEAs]
theorem pEs_getD {l : List ImI} {i : Nat} (h : i < l.length) : (pEs l).getD i [] = pE (l.getD i pm0):=by simp [pEs,List.getD,h]
theorem pEAs_getD {l : List ImI} {i : Nat} (h : i < l.length) : (pEAs l).getD i [] = pEA (l.getD i pm0):=by simp [pEAs,List.getD,h]
theorem pm_mem {l : List ImI} {i : Nat} (h : i < l.length) : l.getD i pm0 ∈ l:=by simp [List.getD,h]
theorem pm_take {l : List ImI} {i : Nat} (h : i < l.length) : l.take (i + 1) = l.take i ++ [l.getD i pm0]:=by
  rw [List.take_add_one]; simp [List.getD,h]
theorem szPs_take {l : List ImI} {i : Nat} (h : i < l.length) : szPs (l.take (i + 1)) = szPs (l.take i) + szP (l.getD i pm0):=by
  rw [pm_take h]; simp [szPs]
theorem szPs_le (l : List ImI) (i : Nat) : szPs (l.take i) ≤ szPs l:=by
  have h : szPs l = szPs (l.take i) + szPs (l.drop i):=by
    conv=>lhs; rw [← List.take_append_drop i l]
    simp only [szPs,List.map_append,List.sum_append]
  omega
theorem szPs_mem {x : ImI} {l : List ImI} (h : x ∈ l) : szP x ≤ szPs l:=by
  induction l with
  | nil=>simp at h
  | cons y l ih =>
    simp only [szPs,List.map_cons,List.sum_cons] at ih ⊢
    rcases List.mem_cons.1 h with rfl | h
    · omega
    · have:=ih h; omega
set_option maxRecDepth 100000 in
theorem laws_szImport (x : ImI) (hx : x.Ok) (l : Int) (A : List Box) (h0 : 0 ≤ l) (h1 : l ≤ 1048576) :
    ACalls Try.prog 50 [.agg (pEA x),.int .i64 l] A (fun v A'=>v = .int .i64 (left l (szP x)) ∧ A' = A):=by
  have hw : IntKind.i64.wrap (l - ↑x.name.length) = l - x.name.length:=wrap64 (by have:=hx.1; omega) (by have:=hx.1; omega)
  rw [pEA]
  refine acalls_enter (cf:=cf 19 [0,1,2,4,11,17]) foll Try.func50 Try.ntmps50 (by simp [cf]) ?_
  simp only [Try.f50,EnterK_some,zW,zX,zD,builtinA,isLeaf,const1,ustrA,simprocAttr,ti3,ti9,ti24,ti122,ti128,ca22,cf,Try.results50]
  rw [hw]
  refine condK_intro (fun h=>?_) (fun h=>?_)
  · simp only [zW,zX,zD,builtinA,isLeaf,const1,ustrA,simprocAttr,ti3,ti9,ti24,ti122,ti128,ca22,cf,Try.results50]
    rw [left,if_neg (by rw [szP]; simp at h; omega)]
  · simp only [decide_eq_false_iff_not] at h
    simp only [zW,zX,zD,builtinA,isLeaf,const1,ustrA,simprocAttr,ti3,ti9,ti24,ti122,ti128,ca22,cf,Try.results50]
    refine callK_intro (by simp only [zW,zX,zD,builtinA,isLeaf,const1,ustrA,simprocAttr,Option.map_some]; rfl) (laws_szSigItemS x.sig hx.2.1 hx.2.2 _ _ (by omega) (by omega)) ?_ rfl; rintro v A' ⟨rfl,rfl⟩
    by_cases hf : ((szP x : Nat) : Int) ≤ l
    · have hv : left (l - ↑x.name.length) (x.sig.length + szIs x.sig) = l - szP x:=by
        rw [szP] at hf ⊢
        rw [left,if_pos (by omega)]; omega
      have hn : decide (l - szP x < 0) = false:=by simp only [decide_eq_false_iff_not]; omega
      rw [hv,left,if_pos hf]
      simp only [zW,zX,zD,builtinA,isLeaf,const1,ustrA,simprocAttr,ti3,ti9,ti24,ti122,ti128,ca22,cf,Try.results50,hn]
    · have hv : left (l - ↑x.name.length) (x.sig.length + szIs x.sig) = -1:=by
        rw [szP] at hf
        rw [left,if_neg (by omega)]
      rw [hv,left,if_neg hf]
      simp only [zW,zX,zD,builtinA,isLeaf,const1,ustrA,simprocAttr,ti3,ti9,ti24,ti122,ti128,ca22,cf,Try.results50]
set_option maxRecDepth 100000 in
theorem laws_szImportS (ks : List ImI) (hl : ks.length < 2 ^ 63) (hk : ∀ t ∈ ks,t.Ok) (l : Int) (A : List Box) (h0 : 0 ≤ l) (h1 : l ≤ 1048576) :
    ACalls Try.prog 20 [.aslice (pEAs ks),.int .i64 l] A (fun v A'=>v = .int .i64 (left l (ks.length + szPs ks)) ∧ A' = A):=by
  have hw : IntKind.i64.wrap (l - ↑(pEAs ks).length) = l - ks.length:=by rw [pEAs_length]; exact wrap64 (by omega) (by omega)
  refine acalls_enter (cf:=cf 27 [0,1,4,5,11,15,25]) foll Try.func20 Try.ntmps20 (by simp [cf]) ?_
  simp only [Try.f20,EnterK_some,zW,zX,zD,builtinA,isLeaf,const1,ustrA,simprocAttr,ti3,ti22,ti122,ca50,cf,Try.results20]
  rw [hw]
  refine condK_intro (fun h=>?_) (fun h=>?_)
  · simp only [zW,zX,zD,builtinA,isLeaf,const1,ustrA,simprocAttr,ti3,ti22,ti122,ca50,cf,Try.results20]
    have : ¬ ((ks.length + szPs ks : Nat) : Int) ≤ l:=by simp at h; omega
    rw [left,if_neg this]
  · simp only [zW,zX,zD,builtinA,isLeaf,const1,ustrA,simprocAttr,ti3,ti22,ti122,ca50,cf,Try.results20]
    refine aloop_intro [0,1,5] (fun e A'=>∃ i,i ≤ ks.length ∧ ((ks.length + szPs (ks.take i) : Nat) : Int) ≤ l ∧ e = [(0,.aslice (pEAs ks)),(1,.int .i64 (l - (ks.length + szPs (ks.take i) : Nat))),(5,.int .i64 i)] ∧ A' = A) (fun e _=>ks.length - (intOf (Abs.look 5 e)).toNat) ?_ ?_
    · refine ⟨0,by omega,?_,?_,rfl⟩
      · simp at h; simp [szPs]; omega
      · simp only [zW,zX,zD,builtinA,isLeaf,const1,ustrA,simprocAttr,ti3,ti22,ti122,ca50,cf,Try.results20]
        simp [szPs]
    · rintro e A' ⟨i,hi,hle,rfl,rfl⟩
      simp only [zW,zX,zD,builtinA,isLeaf,const1,ustrA,simprocAttr,ti3,ti22,ti122,ca50,cf,Try.results20]
      refine condK_intro (fun h2=>?_) (fun h2=>?_)
      · have hi2 : i < ks.length:=by simp [pEAs_length] at h2; exact h2
        have he:=pEAs_getD hi2
        have hm:=pm_mem hi2
        have hs:=szPs_take hi2
        simp only [zW,zX,zD,builtinA,isLeaf,const1,ustrA,simprocAttr,ti3,ti22,ti122,ca50,cf,Try.results20,he,pEA_length,pEA_take,pEAs_length]
        refine ⟨⟨by omega,by omega⟩,?_⟩
        refine callK_intro (by simp only [zW,zX,zD,builtinA,isLeaf,const1,ustrA,simprocAttr,frzL_pEA,Option.map_some]; rfl) (laws_szImport _ (hk _ hm) _ _ (by omega) (by omega)) ?_ rfl; rintro v A' ⟨rfl,rfl⟩
        by_cases hf : ((ks.length + szPs (ks.take (i + 1)) : Nat) : Int) ≤ l
        · have hv : left (l - ((ks.length + szPs (ks.take i) : Nat) : Int)) (szP (ks.getD i pm0)) = l - ((ks.length + szPs (ks.take (i + 1)) : Nat) : Int):=by
            rw [left,if_pos (by omega)]; omega
          have hn : decide (l - ((ks.length + szPs (ks.take (i + 1)) : Nat) : Int) < 0) = false:=by simp only [decide_eq_false_iff_not]; omega
          have hi1 : IntKind.i64.wrap ((i : Int) + 1) = ((i + 1 : Nat) : Int):=by rw [wrap64 (by omega) (by omega)]; rfl
          rw [hv]
          simp only [zW,zX,zD,builtinA,isLeaf,const1,ustrA,simprocAttr,ti3,ti22,ti122,ca50,cf,Try.results20,hn,hi1,LoopK_eq,pEAs_length]
          refine ⟨⟨i + 1,by omega,hf,rfl⟩,?_⟩
          simp only [intOf]
          omega
        · have hv : left (l - ((ks.length + szPs (ks.take i) : Nat) : Int)) (szP (ks.getD i pm0)) = -1:=by
            rw [left,if_neg (by omega)]
          have hz:=szPs_le ks (i + 1)
          rw [hv,left,if_neg (by omega)]
          simp only [zW,zX,zD,builtinA,isLeaf,const1,ustrA,simprocAttr,ti3,ti22,ti122,ca50,cf,Try.results20]
      · simp only [zW,zX,zD,builtinA,isLeaf,const1,ustrA,simprocAttr,ti3,ti22,ti122,ca50,cf,Try.results20]
        have : i = ks.length:=by simp [pEAs_length] at h2; omega
        subst this
        rw [List.take_length] at hle ⊢
        rw [left,if_pos hle]
set_option maxRecDepth 100000 in
theorem laws_toImport (x : ImI) (hx : szP x ≤ 1048576) (A : List Box) : ACalls Try.prog 53 [.agg (pEA x)] A (fun v A'=>v = .agg (pE x) ∧ A' = A):=by
  have h1 : x.sig.length ≤ 1048576 ∧ szIs x.sig ≤ 1048576:=by rw [szP] at hx; omega
  rw [pEA,pE]
  refine acalls_enter (cf:=cf 12 [0,1,2,3]) foll Try.func53 Try.ntmps53 (by simp [cf]) ?_
  simp only [Try.f53,EnterK_some,zW,zX,zD,builtinA,isLeaf,const1,ustrA,simprocAttr,ti9,ti24,ti31,ti70,ti122,ti128,ti132,ca27,cf,Try.results53]
  refine callK_intro (by simp only [zW,zX,zD,builtinA,isLeaf,const1,ustrA,simprocAttr,Option.map_some]; rfl) (laws_toSigItemS x.sig h1.1 h1.2 _) ?_ rfl; rintro v A' ⟨rfl,rfl⟩
  simp only [zW,zX,zD,builtinA,isLeaf,const1,ustrA,simprocAttr,ti9,ti24,ti31,ti70,ti122,ti128,ti132,ca27,cf,Try.results53]
theorem prow_step {l : List ImI} {i : Nat} (h : i < l.length) : (pEs (l.take i) ++ List.replicate (l.length - i) zpm).set i (pE (l.getD i pm0) ++ List.drop 2 ((pEs (l.take i) ++ List.replicate (l.length - i) zpm).getD i [])) = pEs (l.take (i + 1)) ++ List.replicate (l.length - (i + 1)) zpm:=by
  have e1 : (pEs (l.take i)).length = i:=by rw [pEs_length]; simp; omega
  have e2 : List.drop 2 ((pEs (l.take i) ++ List.replicate (l.length - i) zpm).getD i []) = []:=by
    have e3 : l.length - i = (l.length - (i + 1)) + 1:=by omega
    rw [List.getD,List.getElem?_append_right (by omega),e1,Nat.sub_self,e3,List.replicate_succ]
    rfl
  have e4 : l.length - i = (l.length - (i + 1)) + 1:=by omega
  rw [e2,List.append_nil,List.set_append_right _ _ (by omega),e1,Nat.sub_self,e4,List.replicate_succ,List.set_cons_zero]
  simp only [pEs]
  rw [List.take_add_one,List.map_append,List.append_assoc]
  simp [List.getD,h]
set_option maxRecDepth 100000 in
theorem laws_toImportS (ks : List ImI) (hl : ks.length ≤ 1048576) (hk : szPs ks ≤ 1048576) (A : List Box) :
    ACalls Try.prog 25 [.aslice (pEAs ks)] A (fun v A'=>v = .slice (pEs ks) ∧ A' = A):=by
  have hl2 : ((pEAs ks).length : Int) ≤ 1048576:=by rw [pEAs_length]; omega
  refine acalls_enter (cf:=cf 23 [0,2,3,4,11]) foll Try.func25 Try.ntmps25 (by simp [cf]) ?_
  simp only [Try.f25,EnterK_some,zW,zX,zD,builtinA,isLeaf,const1,ustrA,simprocAttr,ti3,ti22,ti29,ti70,ti122,ca53,cf,Try.results25]
  refine ⟨⟨by omega,by omega,by omega⟩,?_⟩
  refine aloop_intro [0,3,4] (fun e A'=>∃ i,i ≤ ks.length ∧ e = [(0,.aslice (pEAs ks)),(3,.own A.length),(4,.int .i64 i)] ∧ A' = A ++ [.row 2 (pEs (ks.take i) ++ List.replicate (ks.length - i) zpm) 0]) (fun e _=>ks.length - (intOf (Abs.look 4 e)).toNat) ?_ ?_
  · simp only [zW,zX,zD,builtinA,isLeaf,const1,ustrA,simprocAttr,ti3,ti22,ti29,ti70,ti122,ca53,cf,Try.results25]
    exact ⟨0,by omega,rfl,by rw [pEAs_length]; simp [pEs,zpm]⟩
  · rintro e A' ⟨i,hi,rfl,rfl⟩
    simp only [zW,zX,zD,builtinA,isLeaf,const1,ustrA,simprocAttr,ti3,ti22,ti29,ti70,ti122,ca53,cf,Try.results25,pEAs_length]
    refine condK_intro (fun h2=>?_) (fun h2=>?_)
    · have hi2 : i < ks.length:=by simpa using h2
      have he:=pEAs_getD hi2
      have hm:=pm_mem hi2
      have hzm:=szPs_mem hm
      simp only [zW,zX,zD,builtinA,isLeaf,const1,ustrA,simprocAttr,ti3,ti22,ti29,ti70,ti122,ca53,cf,Try.results25,he,pEA_length,pEA_take,pEAs_length]
      refine ⟨⟨by omega,by omega⟩,?_⟩
      refine callK_intro (by simp only [zW,zX,zD,builtinA,isLeaf,const1,ustrA,simprocAttr,frzL_pEA,Option.map_some]; rfl) (laws_toImport _ (by omega) _) ?_ rfl; rintro v A' ⟨rfl,rfl⟩
      have hi1 : IntKind.i64.wrap ((i : Int) + 1) = ((i + 1 : Nat) : Int):=by rw [wrap64 (by omega) (by omega)]; rfl
      simp only [zW,zX,zD,builtinA,isLeaf,const1,ustrA,simprocAttr,ti3,ti22,ti29,ti70,ti122,ca53,cf,Try.results25,pE_length,frzL_pE,prow_step hi2,hi1,LoopK_eq]
      have hlen : (pEs (List.take i ks)).length + (List.replicate (ks.length - i) zpm).length = ks.length:=by
        simp [pEs_length]; omega
      rw [hlen]
      refine ⟨⟨by omega,by omega⟩,⟨by omega,by omega,fun v hv=>pE_leaf _ v hv⟩,⟨i + 1,by omega,rfl,rfl⟩,?_⟩
      simp only [intOf]
      omega
    · simp only [zW,zX,zD,builtinA,isLeaf,const1,ustrA,simprocAttr,ti3,ti22,ti29,ti70,ti122,ca53,cf,Try.results25]
      have : i = ks.length:=by simp at h2; omega
      subst this
      simp [List.take_length]
set_option maxRecDepth 100000 in
theorem laws_eqImport (x : ImI) (hx : x.Ok) (A : List Box) : ACalls Try.prog 62 [.agg (pE x),.agg (pE x)] A (fun v A'=>v = .bool true ∧ A' = A):=by
  rw [pE]
  refine acalls_enter (cf:=cf 16 [0,1,2,3,4,9,15]) foll Try.func62 Try.ntmps62 (by simp [cf]) ?_
  simp only [Try.f62,EnterK_some,zW,zX,zD,builtinA,isLeaf,const1,ustrA,simprocAttr,ti9,ti31,ti70,ti132,ca32,cf,Try.results62]
  refine callK_intro (by simp only [zW,zX,zD,builtinA,isLeaf,const1,ustrA,simprocAttr,Option.map_some]; rfl) (laws_eqSigItemS x.sig hx.2.1 hx.2.2 _) ?_ rfl; rintro v A' ⟨rfl,rfl⟩
  simp only [zW,zX,zD,builtinA,isLeaf,const1,ustrA,simprocAttr,ti9,ti31,ti70,ti132,ca32,cf,Try.results62]
set_option maxRecDepth 100000 in
theorem laws_eqImportS (ks : List ImI) (hl : ks.length < 2 ^ 63) (hk : ∀ t ∈ ks,t.Ok) (A : List Box) :
    ACalls Try.prog 30 [.slice (pEs ks),.slice (pEs ks)] A (fun v A'=>v = .bool true ∧ A' = A):=by
  refine acalls_enter (cf:=cf 27 [0,1,4,5,10,14,26]) foll Try.func30 Try.ntmps30 (by simp [cf]) ?_
  simp only [Try.f30,EnterK_some,zW,zX,zD,builtinA,isLeaf,const1,ustrA,simprocAttr,ti3,ti29,ti70,ca62,cf,Try.results30]
  refine aloop_intro [0,1,5] (fun e A'=>∃ i,i ≤ ks.length ∧ e = [(0,.slice (pEs ks)),(1,.slice (pEs ks)),(5,.int .i64 i)] ∧ A' = A) (fun e _=>ks.length - (intOf (Abs.look 5 e)).toNat) ?_ ?_
  · simp only [zW,zX,zD,builtinA,isLeaf,const1,ustrA,simprocAttr,ti3,ti29,ti70,ca62,cf,Try.results30]
    exact ⟨0,by omega,rfl⟩
  · rintro e A' ⟨i,hi,rfl,rfl⟩
    simp only [zW,zX,zD,builtinA,isLeaf,const1,ustrA,simprocAttr,ti3,ti29,ti70,ca62,cf,Try.results30,pEs_length]
    refine condK_intro (fun h2=>?_) (fun h2=>?_)
    · have hi2 : i < ks.length:=by simpa using h2
      have he:=pEs_getD hi2
      have hm:=pm_mem hi2
      have hi1 : IntKind.i64.wrap ((i : Int) + 1) = ((i + 1 : Nat) : Int):=by rw [wrap64 (by omega) (by omega)]; rfl
      simp only [zW,zX,zD,builtinA,isLeaf,const1,ustrA,simprocAttr,ti3,ti29,ti70,ca62,cf,Try.results30,he,pE_length,pE_take,pEs_length]
      refine .inl ⟨by kernel_rfl,by kernel_rfl,⟨by omega,by omega⟩,⟨by omega,by omega⟩,?_⟩
      refine callD_intro (by simp only [zW,zX,zD,builtinA,isLeaf,const1,ustrA,simprocAttr,frzL_pE,Option.map_some] <;> rfl) (laws_eqImport _ (hk _ hm) _) ?_ rfl
      simp only [zW,zX,zD,builtinA,isLeaf,const1,ustrA,simprocAttr,ti3,ti29,ti70,ca62,cf,Try.results30,hi1,LoopK_eq]
      refine ⟨⟨i + 1,by omega,rfl⟩,?_⟩
      simp only [intOf]
      omega
    · simp only [zW,zX,zD,builtinA,isLeaf,const1,ustrA,simprocAttr,ti3,ti29,ti70,ca62,cf,Try.results30]
end Go.Proofs.Ytijlnkfiadajhaa
