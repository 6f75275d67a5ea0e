/- ImpJ, ClsP, UnEq, UnCmp. -/
import Derived.Test.YtijlnkfiadajhaaK08
import Derived.Test.YtijlnkfiadajhaaAbsW3
/- Modules with signatures whose memory is known. -/
set_option linter.unusedVariables false
set_option linter.unusedSimpArgs false
namespace Go.Proofs.Ytijlnkfiadajhaa
open Go.Abs
structure ImJ where
  name : List UInt8
  sig : Option SL
def mj0 : ImJ:=⟨[],none⟩
def qE (x : ImJ) : List AV:=[.str x.name,oV x.sig]
def qEs (l : List ImJ) : List (List AV):=l.map qE
def erP (x : ImJ) : ImI:=⟨x.name,(oK x.sig).map erJ⟩
theorem oV_leaf (o : Option SL) : isLeaf (oV o) = true:=by cases o <;> rfl
theorem qE_length (x : ImJ) : (qE x).length = 2:=rfl
theorem qE_take (x : ImJ) : List.take 2 (qE x) = qE x:=rfl
theorem qE_leaf (x : ImJ) : ∀ v ∈ qE x,isLeaf v = true:=by
  intro v hv
  simp only [qE,List.mem_cons,List.not_mem_nil,or_false] at hv
  rcases hv with rfl | rfl
  · rfl
  · exact oV_leaf _
theorem qEs_length (l : List ImJ) : (qEs l).length = l.length:=by simp [qEs]
theorem qEs_getD {l : List ImJ} {i : Nat} (h : i < l.length) : (qEs l).getD i [] = qE (l.getD i mj0):=by simp [qEs,List.getD,h]
theorem SL.eq_of {x y : SL} (h : x.idn = y.idn) (hk : x.ks = y.ks) : x = y:=by
  obtain ⟨b,o,hd,tl⟩:=x
  obtain ⟨b',o',hd',tl'⟩:=y
  simp only [SL.idn,SL.ks,Prod.mk.injEq,List.cons.injEq] at h hk
  obtain ⟨rfl,rfl,_⟩:=h
  obtain ⟨rfl,rfl⟩:=hk
  rfl
theorem oV_uniq {G : Ghost} {w : World} {o o' : Option SL} {v : Value} (h : RV G w (oV o) v) (h' : RV G w (oV o') v) (hs : ∀ s,o = some s → SLok G w s) (hs' : ∀ s,o' = some s → SLok G w s) : o = o':=by
  cases o with
  | none =>
    cases o' with
    | none=>rfl
    | some s =>
      exfalso
      simp only [oV] at h h'
      have hl : (jEs s.ks).length = s.ks.length:=jEs_length _
      have hp : 0 < s.ks.length:=by simp [SL.ks]
      generalize jEs s.ks = rows at *
      generalize hz : (AV.slice []) = z at h
      cases h' with
      | islice =>
        generalize hn : rows.length = n0 at *
        generalize s.b = b0 at *
        generalize s.off = o0 at *
        cases h
        all_goals first | (exfalso; omega) | (cases hz; done) | (injection hz with hz; subst hz; simp at hl; omega)
  | some s =>
    cases o' with
    | none =>
      exfalso
      simp only [oV] at h h'
      have hl : (jEs s.ks).length = s.ks.length:=jEs_length _
      have hp : 0 < s.ks.length:=by simp [SL.ks]
      generalize jEs s.ks = rows at *
      generalize hz : (AV.slice []) = z at h'
      cases h with
      | islice =>
        generalize hn : rows.length = n0 at *
        generalize s.b = b0 at *
        generalize s.off = o0 at *
        cases h'
        all_goals first | (exfalso; omega) | (cases hz; done) | (injection hz with hz; subst hz; simp at hl; omega)
    | some s' =>
      have k:=hs s rfl
      have k':=hs' s' rfl
      simp only [oV] at h h'
      have hl : (jEs s.ks).length = s.ks.length:=jEs_length _
      have hl' : (jEs s'.ks).length = s'.ks.length:=jEs_length _
      generalize jEs s.ks = rows at *
      generalize jEs s'.ks = rows' at *
      cases h with
      | islice =>
        generalize hb : s.b = b0 at *
        generalize ho : s.off = o0 at *
        generalize hn : rows.length = n0 at *
        cases h' with
        | islice =>
          have hid : s.idn = s'.idn:=by simp only [SL.idn,Prod.mk.injEq]; exact ⟨hb,ho,by omega⟩
          rw [SL.eq_of hid (k.inj k' hid)]
def KnP (G : Ghost) (w : World) (x : ImJ) : Prop:=(∀ t ∈ oK x.sig,norm t.typ ∧ ∀ z ∈ lists t.typ,LLok G w z) ∧ ∀ s,x.sig = some s → SLok G w s
end Go.Proofs.Ytijlnkfiadajhaa
/- The program's classes of lists: modules with signatures. -/
set_option linter.unusedVariables false
set_option linter.unusedSimpArgs false
namespace Go.Proofs.Ytijlnkfiadajhaa
namespace CP
open Go.Abs
structure PL where
  b : Nat
  off : Nat
  hd : ImJ
  tl : List ImJ
def PL.ks (x : PL) : List ImJ:=x.hd :: x.tl
def PL.idn (x : PL) : Nat × Nat × Nat:=(x.b,x.off,x.ks.length)
def kvP (x : PL) : List AV:=[.ivptr x.b x.off (qE x.hd),.int .i64 (x.ks.length : Nat)]
def pl : CG.Pl PL:=⟨kvP,PL.idn,70,fun x y=>by
    have : decide (PL.idn x = PL.idn y) = (decide (x.b = y.b ∧ x.off = y.off) && (decide (((x.ks.length : Nat) : Int) = ((y.ks.length : Nat) : Int)) && true)):=by
      rw [Bool.eq_iff_iff]
      simp [PL.idn,Prod.mk.injEq]
      omega
    rw [this]
    simp [eqK,kvP,c1A],fun _=>rfl,fun _ _=>rfl⟩
abbrev KK : List (Nat × TK):=[(0,.ptr 70),(1,.int .i64)]
abbrev esM (m : List (PL × PL)) : List (AV × AV):=CG.es pl m
theorem fes (l : PL) (m : List (PL × PL)) : findA KK (kvP l) (esM m) 0 = some ((CG.fnd pl l m 0).map fun p=>(p.1,.agg (kvP p.2))):=CG.find_es pl l m 0
set_option maxRecDepth 100000 in
theorem find {U : List PL} (hU : ∀ x ∈ U,∀ y ∈ U,x.idn = y.idn → x = y) {R : PL → PL → Prop} (hR : ∀ x,R x x) (hRt : ∀ x y z,R x y → R y z → R x z) (m : List (PL × PL)) (hm : CG.CI U R m) (l : PL) (hl : l ∈ U) (i : Nat) (A : List Box) (hi : i < A.length) (hA : A.getD i .dead = .mapb (esM m)) :
    ACalls Try.prog 108 [.map i,.agg (kvP l)] A (fun r A'=>∃ x m',r = .agg (kvP x) ∧ x ∈ U ∧ R l x ∧ (∀ p ∈ m',p.1 ≠ x) ∧ CG.CI U R m' ∧ m'.map (·.1) = m.map (·.1) ∧ A' = A.set i (.mapb (esM m'))):=by
  have hgA : ∀ X (B : List Box),(A.set i X ++ B).getD i .dead = X:=fun X B=>by rw [getD_app1 _ _ _ _ (by simpa using hi),getD_set1 hi]
  have hset : A.set i (.mapb (esM m)) = A:=CG.set_same hi hA
  rw [kvP]
  refine acalls_enter (cf:=cf 29 [0,1,3,4,5,6,7,8,16,24]) foll Try.func108 Try.ntmps108 (by simp [cf]) ?_
  simp only [Try.f108,EnterK_some,zW,zX,zD,builtinA,isLeaf,const1,ustrA,simprocAttr,ti93,ti189,mi93,cf,Try.results108]
  refine aloop_intro [0,3,4] (fun e A'=>∃ l' m' B,e = [(0,.map i),(3,.ptr A.length 0),(4,.ptr (A.length + 1) 0)] ∧ A' = A.set i (.mapb (esM m')) ++ (.cells (kvP l') :: .cells [.nilp,.int .i64 0] :: B) ∧ l' ∈ U ∧ R l l' ∧ CG.CI U R m' ∧ m'.map (·.1) = m.map (·.1)) (fun _ A'=>CG.mu pl A.length i A') ?_ ?_
  · simp only [zW,zX,zD,builtinA,isLeaf,const1,ustrA,simprocAttr,ti93,ti189,mi93,cf,Try.results108]
    exact ⟨l,m,[],by rw [hset]; rfl,hl,hR l,hm,rfl⟩
  · rintro e A' ⟨l',m',B,rfl,rfl,hl',hr',hm',hk'⟩
    have hmu : CG.mu pl A.length i (A.set i (.mapb (esM m')) ++ (.cells (kvP l') :: .cells [.nilp,.int .i64 0] :: B)) = CG.posA pl (kvP l') (esM m'):=by
      unfold CG.mu
      rw [hgA,getD_sapp0]; rfl
    rw [hmu]
    have hf:=fes l' m'
    rw [kvP] at hf ⊢
    cases hfl : CG.fnd pl l' m' 0 with
    | none =>
      rw [hfl] at hf
      simp only [Option.map_none] at hf
      simp only [zW,zX,zD,builtinA,isLeaf,const1,ustrA,simprocAttr,ti93,ti189,mi93,cf,Try.results108,hi,hf]
      refine ⟨outer_set A _ i _ (CG.es_closed pl _ _),l',m',rfl,hl',hr',fun p hp e=>CG.fnd_none pl hfl p hp (by rw [e]),hm',hk',rfl⟩
    | some q =>
      obtain ⟨j,up⟩:=q
      rw [hfl] at hf
      simp only [Option.map_some] at hf
      obtain ⟨_,hj,hj1,hj2⟩:=CG.fnd_some pl hfl
      simp only [Nat.sub_zero] at hj hj1 hj2
      have hmj : m'[j]? = some (l',up):=by
        have e1 : m'[j]? = some m'[j]:=List.getElem?_eq_getElem hj
        have e2 : m'.getD j (l',l') = m'[j]:=by simp [List.getD,hj]
        rw [e2] at hj1 hj2
        have:=hU _ (hm'.mem _ (List.getElem_mem hj)).1 _ hl' hj1
        rw [e1]
        congr 1
        exact Prod.ext this hj2
      have hup:=(hm'.mem _ (List.mem_of_getElem? hmj)).2
      have hru : R l up:=hRt _ _ _ hr' hup.2
      have hf2:=fes up m'
      rw [kvP] at hf2
      rw [kvP] at hf
      have hpl : CG.posA pl (kvP l') (esM m') = m'.length - j:=by have:=CG.posA_es pl l' m'; rw [hfl] at this; exact this
      cases hfu : CG.fnd pl up m' 0 with
      | none =>
        rw [hfu] at hf2
        simp only [Option.map_none] at hf2
        have hpu : CG.posA pl (kvP up) (esM m') = 0:=by have:=CG.posA_es pl up m'; rw [hfu] at this; exact this
        simp only [zW,zX,zD,builtinA,isLeaf,const1,ustrA,simprocAttr,ti93,ti189,mi93,cf,Try.results108,hi,hf,hf2,LoopK_eq]
        refine ⟨⟨up,m',B ++ [.cells (kvP up),.cells [.nilp,.int .i64 0]],rfl,hup.1,hru,hm',hk'⟩,?_⟩
        unfold CG.mu
        rw [hgA,getD_sapp0]
        show CG.posA pl (kvP up) (esM m') < _
        rw [hpu]
        rw [kvP] at hpl
        rw [hpl]
        omega
      | some q2 =>
        obtain ⟨j2,top⟩:=q2
        rw [hfu] at hf2
        simp only [Option.map_some] at hf2
        rw [kvP] at hf2
        obtain ⟨_,hk,hk1,hk2⟩:=CG.fnd_some pl hfu
        simp only [Nat.sub_zero] at hk hk1 hk2
        have hmk : m'[j2]? = some (up,top):=by
          have e1 : m'[j2]? = some m'[j2]:=List.getElem?_eq_getElem hk
          have e2 : m'.getD j2 (up,up) = m'[j2]:=by simp [List.getD,hk]
          rw [e2] at hk1 hk2
          have:=hU _ (hm'.mem _ (List.getElem_mem hk)).1 _ hup.1 hk1
          rw [e1]
          congr 1
          exact Prod.ext this hk2
        have hjj : j < j2:=by
          rcases Nat.lt_or_ge j j2 with h' | h'
          · exact h'
          · exact absurd rfl (hm'.ord j2 j _ _ hmk hmj h')
        obtain ⟨c1,c2⟩:=hm'.cut hmj hmk hRt
        have hes : (esM m').set j (.agg [.ivptr l'.b l'.off (qE l'.hd),.int .i64 (l'.ks.length : Nat)],.agg [.ivptr top.b top.off (qE top.hd),.int .i64 (top.ks.length : Nat)]) = esM (m'.set j (l',top)):=by
          unfold esM CG.es
          rw [List.map_set]
          rfl
        have hpu : CG.posA pl (kvP up) (esM (m'.set j (l',top))) = m'.length - j2:=by
          have h1:=CG.posA_keys pl up c2
          have h2:=CG.posA_es pl up m'
          rw [hfu] at h2
          exact h1.trans h2
        simp only [zW,zX,zD,builtinA,isLeaf,const1,ustrA,simprocAttr,ti93,ti189,mi93,cf,Try.results108,hi,hf,hf2,hes,LoopK_eq]
        refine ⟨⟨up,m'.set j (l',top),B ++ [.cells (kvP up),.cells (kvP top)],rfl,hup.1,hru,c1,c2.trans hk'⟩,?_⟩
        unfold CG.mu
        rw [hgA,getD_sapp0]
        show CG.posA pl (kvP up) (esM (m'.set j (l',top))) < _
        rw [hpu]
        rw [kvP] at hpl
        rw [hpl]
        omega
set_option maxRecDepth 100000 in
theorem join {U : List PL} (hU : ∀ x ∈ U,∀ y ∈ U,x.idn = y.idn → x = y) {R : PL → PL → Prop} (hR : ∀ x,R x x) (hRt : ∀ x y z,R x y → R y z → R x z) (hRs : ∀ x y,R x y → R y x) (m : List (PL × PL)) (hm : CG.CI U R m) (x y : PL) (hx : x ∈ U) (hy : y ∈ U) (i : Nat) (A : List Box) (hi : i < A.length) (hA : A.getD i .dead = .mapb (esM m)) :
    ACalls Try.prog 87 [.map i,.islice x.b x.off (qEs x.ks),.islice y.b y.off (qEs y.ks)] A (fun r A'=>∃ m',A' = A.set i (.mapb (esM m')) ∧
      ((r = .bool false ∧ R x y ∧ CG.CI U R m') ∨ (r = .bool true ∧ (R x y → CG.CI U R m')))):=by
  have hgA : ∀ X (B : List Box),(A.set i X ++ B).getD i .dead = X:=fun X B=>by rw [getD_app1 _ _ _ _ (by simpa using hi),getD_set1 hi]
  have hxl : (qEs x.ks).length = x.ks.length:=qEs_length _
  have hyl : (qEs y.ks).length = y.ks.length:=qEs_length _
  have hx0 : decide (((x.ks.length : Nat) : Int) = 0) = false:=decide_eq_false (by simp [PL.ks]; omega)
  have hxg : (qEs x.ks).getD 0 [] = qE x.hd:=by simp [PL.ks,qEs]
  have hyg : (qEs y.ks).getD 0 [] = qE y.hd:=by simp [PL.ks,qEs]
  have hxp : 0 < x.ks.length:=by simp [PL.ks]
  have hyp : 0 < y.ks.length:=by simp [PL.ks]
  refine acalls_enter (cf:=cf 32 [0,1,2,6,7,8,11,28]) foll Try.func87 Try.ntmps87 (by simp [cf]) ?_
  simp only [Try.f87,EnterK_some,zW,zX,zD,builtinA,isLeaf,const1,ustrA,simprocAttr,ti3,ti29,ti70,ti93,ti189,ca108,mi93,ks189,cf,Try.results87]
  simp only [zW,zX,zD,builtinA,isLeaf,const1,ustrA,simprocAttr,ti3,ti29,ti70,ti93,ti189,ca108,mi93,ks189,cf,Try.results87,hxl,hyl,hx0,hxg,hyg,qE_length]
  refine ⟨by omega,?_⟩
  refine callK_intro (by simp only [zW,zX,zD,builtinA,isLeaf,const1,ustrA,simprocAttr]; rfl) (find hU hR hRt m hm x hx i _ hi hA) ?_ rfl
  rintro v A' ⟨x',m1,rfl,hx',hrx,hnx,hm1,hk1,rfl⟩
  rw [kvP]
  simp only [zW,zX,zD,builtinA,isLeaf,const1,ustrA,simprocAttr,ti3,ti29,ti70,ti93,ti189,ca108,mi93,ks189,cf,Try.results87,hi,hxl,hyl,hx0,hxg,hyg,qE_length]
  refine ⟨by omega,?_⟩
  refine callK_intro (by simp only [zW,zX,zD,builtinA,isLeaf,const1,ustrA,simprocAttr]; rfl) (find hU hR hRt m1 hm1 y hy i _ (by simp; omega) (hgA _ _)) ?_ rfl
  rintro v A' ⟨y',m2,rfl,hy',hry,hny,hm2,hk2,rfl⟩
  have hnx2 : ∀ p ∈ m2,p.1 ≠ x':=fun p hp e=>by
    have : p.1 ∈ m2.map (·.1):=List.mem_map_of_mem hp
    rw [hk2] at this
    obtain ⟨q,hq,he⟩:=List.mem_map.1 this
    exact hnx q hq (he.trans e)
  rw [kvP]
  by_cases he : x' = y'
  · subst he
    simp only [zW,zX,zD,builtinA,isLeaf,const1,ustrA,simprocAttr,ti3,ti29,ti70,ti93,ti189,ca108,mi93,ks189,cf,Try.results87,hi,hxl,hyl,qE_length]
    exact ⟨outer_set A _ i _ (CG.es_closed pl _ _),m2,rfl,.inl ⟨hRt _ _ _ hrx (hRs _ _ hry),hm2⟩⟩
  · have hne : (decide (x'.b = y'.b ∧ x'.off = y'.off) && decide (((x'.ks.length : Nat) : Int) = ((y'.ks.length : Nat) : Int))) = false:=by
      rw [Bool.eq_false_iff]
      intro hh
      simp only [Bool.and_eq_true,decide_eq_true_eq] at hh
      refine he (hU _ hx' _ hy' ?_)
      simp only [PL.idn,Prod.mk.injEq]
      exact ⟨hh.1.1,hh.1.2,by omega⟩
    have hfn : CG.fnd pl x' m2 0 = none:=by
      cases hq : CG.fnd pl x' m2 0 with
      | none=>rfl
      | some q =>
        obtain ⟨j,v⟩:=q
        obtain ⟨_,hj,hj1,_⟩:=CG.fnd_some pl hq
        simp only [Nat.sub_zero] at hj hj1
        have e2 : m2.getD j (x',x') = m2[j]:=by simp [List.getD,hj]
        rw [e2] at hj1
        exact absurd (hU _ (hm2.mem _ (List.getElem_mem hj)).1 _ hx' hj1) (hnx2 _ (List.getElem_mem hj))
    have hf:=fes x' m2
    rw [hfn,kvP] at hf
    simp only [Option.map_none] at hf
    have hes : esM m2 ++ [(.agg [.ivptr x'.b x'.off (qE x'.hd),.int .i64 (x'.ks.length : Nat)],.agg [.ivptr y'.b y'.off (qE y'.hd),.int .i64 (y'.ks.length : Nat)])] = esM (m2 ++ [(x',y')]):=by
      simp [esM,CG.es,pl,kvP]
    simp only [zW,zX,zD,builtinA,isLeaf,const1,ustrA,simprocAttr,ti3,ti29,ti70,ti93,ti189,ca108,mi93,ks189,cf,Try.results87,hi,hxl,hyl,qE_length]
    rw [hne]
    simp only [zW,zX,zD,builtinA,isLeaf,const1,ustrA,simprocAttr,ti3,ti29,ti70,ti93,ti189,ca108,mi93,ks189,cf,Try.results87,hi,hf,hes]
    refine ⟨outer_set A _ i _ (CG.es_closed pl _ _),m2 ++ [(x',y')],rfl,.inr fun h4=>?_⟩
    exact hm2.push hx' hy' (hRt _ _ _ (hRs _ _ hrx) (hRt _ _ _ h4 hry)) hny he
set_option maxRecDepth 100000 in
theorem join0 (i : Nat) (A : List Box) : ACalls Try.prog 87 [.map i,.slice [],.slice []] A (fun r A'=>r = .bool false ∧ A' = A):=by
  refine acalls_enter (cf:=cf 32 [0,1,2,6,7,8,11,28]) foll Try.func87 Try.ntmps87 (by simp [cf]) ?_
  simp only [Try.f87,EnterK_some,zW,zX,zD,builtinA,isLeaf,const1,ustrA,simprocAttr,ti3,ti29,ti70,ti93,ti189,ca108,mi93,ks189,cf,Try.results87]
set_option maxRecDepth 100000 in
theorem eqf {D S : List Nat} {I : List Box → Prop} (hK : CG.Kp D S I) {g : FuncId} (hg : callable Try.prog g = true) (fs cs : List AV) (eq : ImJ → ImJ → Bool) (a b : List ImJ) (hcall : ∀ x ∈ a,∀ y ∈ b,CG.Cmp Try.prog S I g (fs ++ [.agg (qE x),.agg (qE y)] ++ cs) (eq x y)) (hla : a.length ≤ 1048576) (b1 o1 b2 o2 : Nat) : CG.Cmp Try.prog S I 88 [.islice b1 o1 (qEs a),.islice b2 o2 (qEs b),.func (.func g) fs cs] (CG.allB eq a b):=by
  intro A hA
  have hT:=CG.Chg.rfl hK hA
  by_cases hl : a.length = b.length
  · have hd : decide ((a.length : Int) = (b.length : Int)) = true:=decide_eq_true (by omega)
    refine acalls_enter (cf:=cf 32 [0,1,2,6,7,8,9,14,15,16,17,18,30]) foll Try.func88 Try.ntmps88 (by simp [cf]) ?_
    simp only [Try.f88,EnterK_some,zW,zX,zD,builtinA,isLeaf,const1,ustrA,simprocAttr,ti3,ti29,ti70,cf,Try.results88]
    simp only [zW,zX,zD,builtinA,isLeaf,const1,ustrA,simprocAttr,ti3,ti29,ti70,cf,Try.results88,qEs_length,hd]
    refine aloop_intro [1,2,15,16,17] (fun e A'=>∃ (i : Nat) (A1 B : List Box),i ≤ a.length ∧ CG.allB eq (a.drop i) (b.drop i) = CG.allB eq a b ∧ e = [(1,.islice b2 o2 (qEs b)),(2,.func (.func g) fs cs),(15,.islice b1 o1 (qEs a)),(16,.int .i64 a.length),(17,.int .i64 i)] ∧ A' = A1 ++ B ∧ CG.Chg S A A1 ∧ I A1) (fun e _=>a.length - (intOf (Abs.look 17 e)).toNat) ?_ ?_
    · simp only [zW,zX,zD,builtinA,isLeaf,const1,ustrA,simprocAttr,ti3,ti29,ti70,cf,Try.results88,qEs_length]
      exact ⟨0,A,[],by omega,rfl,rfl,by simp,hT,hA⟩
    · rintro e A' ⟨i,A1,B,hi2,hq,rfl,rfl,hc1,hI1⟩
      simp only [zW,zX,zD,builtinA,isLeaf,const1,ustrA,simprocAttr,ti3,ti29,ti70,cf,Try.results88,qEs_length]
      refine condK_intro (fun h2=>?_) (fun h2=>?_)
      · have hi3 : i < a.length:=by simpa using h2
        have hj2 : i < b.length:=by omega
        rw [CG.allB_at mj0 a b hi3 hj2] at hq
        have e1:=qEs_getD hi3
        have e2:=qEs_getD hj2
        have hxa : a.getD i mj0 ∈ a:=by simp [List.getD,hi3]
        have hxb : b.getD i mj0 ∈ b:=by simp [List.getD,hj2]
        have hi1 : IntKind.i64.wrap ((i : Int) + 1) = ((i + 1 : Nat) : Int):=by rw [wrap64 (by omega) (by omega)]; rfl
        generalize a.getD i mj0 = x at *
        generalize b.getD i mj0 = y at *
        have pa : (0 : Int) ≤ (i : Int) ∧ (i : Int) < (a.length : Int):=⟨by omega,by omega⟩
        have pb : (0 : Int) ≤ (i : Int) ∧ (i : Int) < (b.length : Int):=⟨by omega,by omega⟩
        have hcl:=fun L=>hcall x hxa y hxb (A1 ++ L) (hK.app hI1 L)
        have hlt:=hK.lt A1 hI1
        simp only [zW,zX,zD,builtinA,isLeaf,const1,ustrA,simprocAttr,ti3,ti29,ti70,cf,Try.results88,e1,e2,qE_length,qE_take,qEs_length]
        refine ⟨pa,pb,?_⟩
        refine wpO_callv _ _ _ _ _ _ _ _ _ _ _ _ _ _ _ ?_
        simp only [zW,zX,zD,builtinA,isLeaf,const1,ustrA,simprocAttr,ti3,ti29,ti70,cf,Try.results88]
        refine ⟨hg,callO_intro (by simpa using hcl _) ?_⟩
        rintro r A' ⟨rfl,hc2,hI2⟩
        obtain ⟨A2,L2,rfl,hc3,_⟩:=hc2.split fun k hk=>hlt k (hK.sub k hk)
        have hc4:=hc1.trans hc3
        cases hh : eq x y with
        | true =>
          rw [hh,Bool.true_and] at hq
          simp only [zW,zX,zD,builtinA,isLeaf,const1,ustrA,simprocAttr,ti3,ti29,ti70,cf,Try.results88,hi1,LoopK_eq]
          refine ⟨⟨i + 1,A2,L2,by omega,hq,rfl,rfl,hc4,hK.cut (hI2 hh) fun k hk=>by rw [hc3.1]; exact hlt k hk⟩,?_⟩
          simp only [intOf]; omega
        | false =>
          rw [hh,Bool.false_and] at hq
          simp only [zW,zX,zD,builtinA,isLeaf,const1,ustrA,simprocAttr,ti3,ti29,ti70,cf,Try.results88]
          rw [hc4.take]
          exact ⟨hc4.outer _,by rw [← hq],hc4,fun h=>by rw [← hq] at h; cases h⟩
      · have : i = a.length:=by simp at h2; omega
        subst this
        have hb0 : b.drop a.length = []:=by simp; omega
        rw [List.drop_length,hb0,CG.allB] at hq
        simp only [zW,zX,zD,builtinA,isLeaf,const1,ustrA,simprocAttr,ti3,ti29,ti70,cf,Try.results88]
        rw [hc1.take]
        exact ⟨hc1.outer _,by rw [← hq],hc1,fun _=>hI1⟩
  · have hd : decide ((a.length : Int) = (b.length : Int)) = false:=decide_eq_false (by omega)
    rw [CG.allB_len (by simpa using hl)]
    refine acalls_enter (cf:=cf 32 [0,1,2,6,7,8,9,14,15,16,17,18,30]) foll Try.func88 Try.ntmps88 (by simp [cf]) ?_
    simp only [Try.f88,EnterK_some,zW,zX,zD,builtinA,isLeaf,const1,ustrA,simprocAttr,ti3,ti29,ti70,cf,Try.results88]
    simp only [zW,zX,zD,builtinA,isLeaf,const1,ustrA,simprocAttr,ti3,ti29,ti70,cf,Try.results88,qEs_length,hd]
    exact hT
def oVP : Option PL → AV
  | none=>.slice []
  | some x=>.islice x.b x.off (qEs x.ks)
def oKP : Option PL → List ImJ
  | none=>[]
  | some x=>x.ks
set_option maxRecDepth 100000 in
theorem same {δ : Type} {U : List PL} (hU : ∀ x ∈ U,∀ y ∈ U,x.idn = y.idn → x = y) (er : ImJ → δ) {D S : List Nat} {J : List Box → Prop} (hK : CG.Kp D S J) {g : FuncId} (hg : callable Try.prog g = true) (fs cs : List AV) (eq : ImJ → ImJ → Bool) (heq : ∀ x y,eq x y = true ↔ er x = er y) (x y : Option PL) (hx : ∀ l,x = some l → l ∈ U) (hy : ∀ l,y = some l → l ∈ U)
    (hcall : ∀ a ∈ oKP x,∀ b ∈ oKP y,CG.Cmp Try.prog S J g (fs ++ [.agg (qE a),.agg (qE b)] ++ cs) (eq a b)) (hla : (oKP x).length ≤ 1048576) (is : Nat) (his : is ∉ D) :
    CG.Cmp Try.prog (S ++ [is]) (fun A=>J A ∧ CG.ClM pl U (fun x y=>x.ks.map er = y.ks.map er) is A) 58 [.map is,oVP x,oVP y,.func (.func g) fs cs] (CG.allB eq (oKP x) (oKP y)):=by
  intro A ⟨hJ,hM⟩
  have hK2:=hK.and (CG.ClM.kp pl U (fun x y=>x.ks.map er = y.ks.map er) is)
  have hT:=CG.Chg.rfl hK2 ⟨hJ,hM⟩
  have hTA : (A ++ []).take A.length = A:=hT.take []
  cases x with
  | none =>
    cases y with
    | none =>
      simp only [oVP,oKP]
      refine acalls_enter (cf:=cf 27 [0,1,2,3,8]) foll Try.func58 Try.ntmps58 (by simp [cf]) ?_
      simp only [Try.f58,EnterK_some,zW,zX,zD,builtinA,isLeaf,const1,ustrA,simprocAttr,ti3,ti29,ti70,ca87,ca88,cf,Try.results58]
      refine callO_intro (join0 is A) ?_
      rintro r A' ⟨rfl,rfl⟩
      simp only [zW,zX,zD,builtinA,isLeaf,const1,ustrA,simprocAttr,ti3,ti29,ti70,ca87,ca88,cf,Try.results58]
      exact ⟨rfl,hT,fun _=>⟨hJ,hM⟩⟩
    | some y =>
      have hd : decide ((0 : Int) = (y.ks.length : Int)) = false:=decide_eq_false (by simp [PL.ks]; omega)
      simp only [oVP,oKP]
      refine acalls_enter (cf:=cf 27 [0,1,2,3,8]) foll Try.func58 Try.ntmps58 (by simp [cf]) ?_
      simp only [Try.f58,EnterK_some,zW,zX,zD,builtinA,isLeaf,const1,ustrA,simprocAttr,ti3,ti29,ti70,ca87,ca88,cf,Try.results58]
      simp only [zW,zX,zD,builtinA,isLeaf,const1,ustrA,simprocAttr,ti3,ti29,ti70,ca87,ca88,cf,Try.results58,qEs_length,hd]
      exact ⟨by simp [PL.ks,CG.allB],hT,fun _=>⟨hJ,hM⟩⟩
  | some x =>
    cases y with
    | none =>
      have hd : decide ((x.ks.length : Int) = 0) = false:=decide_eq_false (by simp [PL.ks]; omega)
      simp only [oVP,oKP]
      refine acalls_enter (cf:=cf 27 [0,1,2,3,8]) foll Try.func58 Try.ntmps58 (by simp [cf]) ?_
      simp only [Try.f58,EnterK_some,zW,zX,zD,builtinA,isLeaf,const1,ustrA,simprocAttr,ti3,ti29,ti70,ca87,ca88,cf,Try.results58]
      simp only [zW,zX,zD,builtinA,isLeaf,const1,ustrA,simprocAttr,ti3,ti29,ti70,ca87,ca88,cf,Try.results58,qEs_length,hd]
      exact ⟨by simp [PL.ks,CG.allB],hT,fun _=>⟨hJ,hM⟩⟩
    | some y =>
      simp only [oVP,oKP] at hcall hla ⊢
      have hxU:=hx x rfl
      have hyU:=hy y rfl
      have hiff:=CG.allB_iff heq x.ks y.ks
      by_cases hl : x.ks.length = y.ks.length
      · have hd : decide ((x.ks.length : Int) = (y.ks.length : Int)) = true:=decide_eq_true (by omega)
        obtain ⟨hiA,m,hm,hci⟩:=hM
        have hput : ∀ m',J (A.set is (.mapb (esM m'))):=fun m'=>hK.loc A _ (fun k hk=>by rw [Abs.getD_set_ne' (fun e=>his (by rw [e]; exact hk))]) hJ
        have hchg : ∀ m',CG.Chg (S ++ [is]) A (A.set is (.mapb (esM m'))):=fun m'=>⟨by simp,fun k hk=>by rw [Abs.getD_set_ne' (fun e=>hk (by simp [e]))],fun k hk n=>by
          by_cases e : k = is
          · subst e; rw [Abs.getD_set_self hiA]; exact CG.es_closed pl n m'
          · rw [Abs.getD_set_ne' (Ne.symm e)]; exact hT.2.2 k hk n⟩
        have hcm : ∀ m' (A' : List Box),A'.length = A.length → A'.getD is .dead = .mapb (esM m') → CG.CI U (fun x y=>x.ks.map er = y.ks.map er) m' → CG.ClM pl U (fun x y=>x.ks.map er = y.ks.map er) is A':=fun m' A' h1 h2 h3=>⟨by omega,m',h2,h3⟩
        refine acalls_enter (cf:=cf 27 [0,1,2,3,8]) foll Try.func58 Try.ntmps58 (by simp [cf]) ?_
        simp only [Try.f58,EnterK_some,zW,zX,zD,builtinA,isLeaf,const1,ustrA,simprocAttr,ti3,ti29,ti70,ca87,ca88,cf,Try.results58]
        simp only [zW,zX,zD,builtinA,isLeaf,const1,ustrA,simprocAttr,ti3,ti29,ti70,ca87,ca88,cf,Try.results58,qEs_length,hd]
        refine callO_intro (join (R:=fun x y=>x.ks.map er = y.ks.map er) hU (fun _=>rfl) (fun _ _ _ h k=>h.trans k) (fun _ _ h=>h.symm) m hci x y hxU hyU is A hiA hm) ?_
        rintro r A' ⟨m',rfl,⟨rfl,hr,hci'⟩ | ⟨rfl,hr⟩⟩
        · have h1:=hput m'
          have h2:=hchg m'
          have h3:=hcm m' _ (by simp) (Abs.getD_set_self hiA) hci'
          generalize A.set is (.mapb (esM m')) = A1 at *
          have h4:=h2.outer []
          have h5:=h2.take []
          rw [List.append_nil] at h4 h5
          simp only [zW,zX,zD,builtinA,isLeaf,const1,ustrA,simprocAttr,ti3,ti29,ti70,ca87,ca88,cf,Try.results58]
          rw [h5]
          exact ⟨h4,by rw [hiff.2 hr],h2,fun _=>⟨h1,h3⟩⟩
        · have h1:=hput m'
          have h2:=hchg m'
          have h3:=hcm m'
          have h6 : (A.set is (.mapb (esM m'))).getD is .dead = .mapb (esM m'):=Abs.getD_set_self hiA
          generalize A.set is (.mapb (esM m')) = A1 at *
          have heqf:=eqf hK hg fs cs eq x.ks y.ks hcall hla x.b x.off y.b y.off A1 h1
          simp only [zW,zX,zD,builtinA,isLeaf,const1,ustrA,simprocAttr,ti3,ti29,ti70,ca87,ca88,cf,Try.results58]
          refine callO_intro heqf ?_
          rintro r A' ⟨rfl,q2,q3⟩
          have hl1:=h2.1
          have hl2:=q2.1
          have q4 : CG.Chg (S ++ [is]) A A':=⟨by omega,fun k hk=>by rw [q2.2.1 k (fun h=>hk (by simp [h])),h2.2.1 k hk],fun k hk n=>by
            by_cases e : k ∈ S
            · exact q2.2.2 k e n
            · rw [q2.2.1 k e]; exact h2.2.2 k hk n⟩
          have q5 : A'.getD is .dead = .mapb (esM m'):=by rw [q2.2.1 is (fun h=>his (hK.sub is h))]; exact h6
          have h4:=q4.outer []
          have h5:=q4.take []
          rw [List.append_nil] at h4 h5
          simp only [zW,zX,zD,builtinA,isLeaf,const1,ustrA,simprocAttr,ti3,ti29,ti70,ca87,ca88,cf,Try.results58]
          rw [h5]
          exact ⟨h4,q4,fun hb=>⟨q3 hb,h3 A' (by omega) q5 (hr (hiff.1 hb))⟩⟩
      · have hd : decide ((x.ks.length : Int) = (y.ks.length : Int)) = false:=decide_eq_false (by omega)
        rw [CG.allB_len (by simpa using hl)]
        refine acalls_enter (cf:=cf 27 [0,1,2,3,8]) foll Try.func58 Try.ntmps58 (by simp [cf]) ?_
        simp only [Try.f58,EnterK_some,zW,zX,zD,builtinA,isLeaf,const1,ustrA,simprocAttr,ti3,ti29,ti70,ca87,ca88,cf,Try.results58]
        simp only [zW,zX,zD,builtinA,isLeaf,const1,ustrA,simprocAttr,ti3,ti29,ti70,ca87,ca88,cf,Try.results58,qEs_length,hd]
        exact hT
end CP
end Go.Proofs.Ytijlnkfiadajhaa
/- The program's comparisons of units. -/
set_option linter.unusedVariables false
set_option linter.unusedSimpArgs false
namespace Go.Proofs.Ytijlnkfiadajhaa
open Go.Abs
theorem ne_dead {A : List Box} {i : Nat} {b : Box} (h : A.getD i .dead = b) (hb : b ≠ .dead) : i < A.length:=by
  rcases Nat.lt_or_ge i A.length with hh | hh
  · exact hh
  · simp [List.getD,Nat.not_lt.2 hh] at h; exact absurd h.symm hb
def IT (UT : List LL) (it : Nat) (A : List Box) : Prop:=it < A.length ∧ ∃ mt,A.getD it .dead = .mapb (esOf mt) ∧ ClS UT mt
def IX (UX : List SX.LL) (ix : Nat) (A : List Box) : Prop:=ix < A.length ∧ ∃ m,A.getD ix .dead = .mapb (SX.esOf m) ∧ SX.ClS UX m
theorem IT.kp (UT : List LL) (it : Nat) : CG.Kp [it] [it] (IT UT it) where
  loc A A' hk hi:=by
    obtain ⟨h1,m,h2,h3⟩:=hi
    have h4:=(hk it (by simp)).trans h2
    exact ⟨ne_dead h4 (by simp),m,h4,h3⟩
  lt A hi k hk:=by obtain rfl:=List.mem_singleton.1 hk; exact hi.1
  cls A hi k hk n:=by
    obtain rfl:=List.mem_singleton.1 hk
    obtain ⟨_,m,h2,_⟩:=hi
    rw [h2]; exact es_closed n m
  sub k hk:=hk
theorem IX.kp (UX : List SX.LL) (ix : Nat) : CG.Kp [ix] [ix] (IX UX ix) where
  loc A A' hk hi:=by
    obtain ⟨h1,m,h2,h3⟩:=hi
    have h4:=(hk ix (by simp)).trans h2
    exact ⟨ne_dead h4 (by simp),m,h4,h3⟩
  lt A hi k hk:=by obtain rfl:=List.mem_singleton.1 hk; exact hi.1
  cls A hi k hk n:=by
    obtain rfl:=List.mem_singleton.1 hk
    obtain ⟨_,m,h2,_⟩:=hi
    rw [h2]; exact SX.es_closed n m
  sub k hk:=hk
theorem siB_iff (x y : SigJ) : siB (erJ x) (erJ y) = true ↔ erJ x = erJ y:=by
  cases x; cases y
  simp only [siB,erJ,Bool.and_eq_true,SigI.mk.injEq,and_assoc]
  constructor
  · rintro ⟨h1,h2,h3⟩; exact ⟨of_decide_eq_true h1,of_decide_eq_true h2,of_decide_eq_true h3⟩
  · rintro ⟨h1,h2,h3⟩; exact ⟨decide_eq_true h1,decide_eq_true h2,decide_eq_true h3⟩
theorem sisB_all : ∀ a b : List SigJ,CG.allB (fun x y=>siB (erJ x) (erJ y)) a b = sisB (a.map erJ) (b.map erJ)
  | [],[]=>rfl
  | [],_ :: _=>rfl
  | _ :: _,[]=>rfl
  | x :: a,y :: b=>by rw [CG.allB,List.map_cons,List.map_cons,sisB,sisB_all a b]
theorem rootX_inj {e e' : Ex} {k k' : Int} {n n' : List UInt8} {t t' : Ty} : rootX e ⟨k,n,t,0,0,[],[],ty0,[]⟩ = rootX e' ⟨k',n',t',0,0,[],[],ty0,[]⟩ ↔ (k = k' ∧ n = n') ∧ t = t' ∧ e = e':=by
  cases e; cases e'
  simp only [rootX,ItI.mk.injEq,Ex.mk.injEq]
  constructor
  · rintro ⟨h1,h2,h3,h4,h5,h6,h7,h8,h9⟩; exact ⟨⟨h1,h2⟩,h3,h4,h5,h6,h7,h8,h9⟩
  · rintro ⟨⟨h1,h2⟩,h3,h4,h5,h6,h7,h8,h9⟩; exact ⟨h1,h2,h3,h4,h5,h6,h7,h8,h9⟩
theorem stB_iff (x y : ItJ) : stB (erK x) (erK y) = true ↔ erK x = erK y:=by
  rw [erK_eq]
  simp only [Bool.and_eq_true,decide_eq_true_eq]
  rw [erK,erK,rootX_inj]
  simp only [and_assoc]
theorem stsB_all : ∀ a b : List ItJ,CG.allB (fun x y=>stB (erK x) (erK y)) a b = stsB (a.map erK) (b.map erK)
  | [],[]=>rfl
  | [],_ :: _=>rfl
  | _ :: _,[]=>rfl
  | x :: a,y :: b=>by rw [CG.allB,List.map_cons,List.map_cons,stsB,stsB_all a b]
abbrev RS (x y : SL) : Prop:=x.ks.map erJ = y.ks.map erJ
abbrev RK (x y : KL) : Prop:=x.ks.map erK = y.ks.map erK
def cvS (it is : Nat) : List AV:=[tF1,tF2,.map it,.map is]
def cvK (bt it ix ik : Nat) : List AV:=[tF1,tF2,.map it,SX.xF1,SX.xF2 bt,.map ix,.map ik]
theorem sig_item {UT : List LL} (hT : TUs UT) (x y : SigJ) (hx : TU UT x.typ) (hy : TU UT y.typ) (c it is : Nat) (hci : c ≠ it) :
    CG.Cmp Try.prog [it] (fun A=>IT UT it A ∧ A.getD c .dead = .cells (cvS it is)) 92 ([] ++ [.agg (jE x),.agg (jE y)] ++ [.ptr c 0]) (siB (erJ x) (erJ y)):=by
  rintro A ⟨⟨hi,m0,hA,h0⟩,hAc⟩
  refine (same_item hT.univ hT.len hT.lens x y hx.mem hy.mem c it is m0 h0 A (ne_dead hAc (by simp)) hi hci hAc hA).mono ?_
  rintro r A' ⟨m',rfl,rfl,hm⟩
  refine ⟨rfl,⟨by simp,fun k hk=>Abs.getD_set_ne' (fun e=>hk (by simp [e])),fun k hk n=>?_⟩,fun hb=>⟨⟨by simpa using hi,m',Abs.getD_set_self hi,hm hb⟩,by rw [Abs.getD_set_ne' (Ne.symm hci)]; exact hAc⟩⟩
  obtain rfl:=List.mem_singleton.1 hk
  rw [Abs.getD_set_self hi]; exact es_closed n m'
theorem st_item {UT : List LL} {UX : List SX.LL} (hS : StU UT UX) (x y : ItJ) (hx : StO UT UX x) (hy : StO UT UX y) (c bt it ix ik : Nat) (hne : c ≠ it ∧ c ≠ ix ∧ bt ≠ it ∧ bt ≠ ix ∧ it ≠ ix) :
    CG.Cmp Try.prog [it,ix] (fun A=>((IT UT it A ∧ IX UX ix A) ∧ A.getD bt .dead = .cells [tF1,tF2,.map it]) ∧ A.getD c .dead = .cells (cvK bt it ix ik)) 90 ([] ++ [.agg (kE x),.agg (kE y)] ++ [.ptr c 0]) (stB (erK x) (erK y)):=by
  rintro A ⟨⟨⟨⟨hi,mt,hA,h0⟩,hix,mx,hAx,hx0⟩,hbt⟩,hAc⟩
  refine (same_it hS x y hx hy c bt it ix ik mt mx A ⟨⟨ne_dead hAc (by simp),ne_dead hbt (by simp),hi,hix⟩,hne,hAc,hbt,hA,hAx,h0,hx0⟩).mono ?_
  rintro r A' ⟨mt',m',rfl,rfl,hm⟩
  obtain ⟨n1,n2,n3,n4,n5⟩:=hne
  refine ⟨rfl,⟨by simp,fun k hk=>?_,fun k hk n=>?_⟩,fun hb=>⟨⟨⟨⟨by simpa using hi,mt',Abs.getD_set_self (by simpa using hi),(hm hb).1⟩,by simpa using hix,m',by rw [Abs.getD_set_ne' n5,Abs.getD_set_self hix],(hm hb).2⟩,by rw [Abs.getD_set_ne' (Ne.symm n3),Abs.getD_set_ne' (Ne.symm n4)]; exact hbt⟩,by rw [Abs.getD_set_ne' (Ne.symm n1),Abs.getD_set_ne' (Ne.symm n2)]; exact hAc⟩⟩
  · simp only [List.mem_cons,List.not_mem_nil,or_false,not_or] at hk
    rw [Abs.getD_set_ne' (Ne.symm hk.1),Abs.getD_set_ne' (Ne.symm hk.2)]
  · simp only [List.mem_cons,List.not_mem_nil,or_false] at hk
    rcases hk with rfl | rfl
    · rw [Abs.getD_set_self (by simpa using hi)]; exact es_closed n mt'
    · rw [Abs.getD_set_ne' n5,Abs.getD_set_self hix]; exact SX.es_closed n m'
structure Kn (UT : List LL) (UX : List SX.LL) (US : List SL) (UK : List KL) : Prop where
  st : StU UT UX
  uS : ∀ x ∈ US,∀ y ∈ US,x.idn = y.idn → x = y
  iS : ∀ s ∈ US,(∀ t ∈ s.ks,TU UT t.typ) ∧ s.ks.length ≤ 1048576
  uK : ∀ x ∈ UK,∀ y ∈ UK,x.idn = y.idn → x = y
  iK : ∀ s ∈ UK,(∀ t ∈ s.ks,StO UT UX t) ∧ s.ks.length ≤ 1048576
def InO {α : Type} (U : List α) (o : Option α) : Prop:=∀ l,o = some l → l ∈ U
abbrev IS (UT : List LL) (US : List SL) (it is : Nat) (A : List Box) : Prop:=IT UT it A ∧ CG.ClM CS.pl US RS is A
theorem IS.kp (UT : List LL) (US : List SL) (it is : Nat) : CG.Kp [it,is] [it,is] (IS UT US it is):=(IT.kp UT it).and (CG.ClM.kp CS.pl US RS is)
abbrev IK (UT : List LL) (UX : List SX.LL) (UK : List KL) (bt it ix ik : Nat) (A : List Box) : Prop:=((IT UT it A ∧ IX UX ix A) ∧ A.getD bt .dead = .cells [tF1,tF2,.map it]) ∧ CG.ClM CK.pl UK RK ik A
set_option maxRecDepth 100000 in
theorem sig_cmp {UT : List LL} {UX : List SX.LL} {US : List SL} {UK : List KL} (hU : Kn UT UX US UK) (x y : Option SL) (hx : InO US x) (hy : InO US y) (it is : Nat) (hne : is ≠ it) :
    CG.Cmp Try.prog [it,is] (IS UT US it is) 61 [.agg (cvS it is),oV x,oV y] (sisB ((oK x).map erJ) ((oK y).map erJ)):=by
  rintro A ⟨hIT,hM⟩
  have hlt:=hM.1
  have hox : (oK x).length ≤ 1048576:=by
    cases x with
    | none=>simp [oK]
    | some l=>exact (hU.iS l (hx l rfl)).2
  have hT:=hU.st.hUT
  have hkx : ∀ (o : Option SL),InO US o → ∀ t ∈ oK o,TU UT t.typ:=fun o ho t ht=>by
    cases o with
    | none=>simp [oK] at ht
    | some l=>exact (hU.iS l (ho l rfl)).1 t ht
  have hs:=CS.same hU.uS erJ ((IT.kp UT it).and (CG.Kp.box A.length (.cells (cvS it is)) (by simp))) (by kernel_rfl) [] [.ptr A.length 0] (fun x y=>siB (erJ x) (erJ y)) siB_iff x y hx hy
    (fun a ha b hb=>sig_item hT a b (hkx x hx a ha) (hkx y hy b hb) A.length it is (by have:=hIT.1; omega)) hox is (by simp; omega) (A ++ [Box.cells (cvS it is)])
    ⟨⟨(IT.kp UT it).app hIT _,by rw [Abs.getD_append_right (Nat.le_refl _)]; simp⟩,(CG.ClM.kp CS.pl US RS is).app hM _⟩
  rw [sisB_all] at hs
  generalize oV x = vx at *
  generalize oV y = vy at *
  rw [cvS] at hs ⊢
  refine acalls_enter (cf:=cf 13 [0,1,2,3,6]) foll Try.func61 Try.ntmps61 (by simp [cf]) ?_
  simp only [Try.f61,EnterK_some,zW,zX,zD,builtinA,isLeaf,const1,ustrA,simprocAttr,ti80,ti82,ca91,cf,Try.results61]
  refine callO_intro hs ?_
  rintro r A' ⟨rfl,hc,hI⟩
  have hlt2 : ∀ k ∈ [it,is],k < A.length:=fun k hk=>by
    simp only [List.mem_cons,List.not_mem_nil,or_false] at hk
    rcases hk with rfl | rfl
    · exact hIT.1
    · exact hlt
  obtain ⟨A1,L1,rfl,hc2,_⟩:=CG.Chg.split (S:=[it,is]) hc hlt2
  have hfin : sisB ((oK x).map erJ) ((oK y).map erJ) = true → IS UT US it is A1:=fun hb=>(IS.kp UT US it is).cut ⟨(hI hb).1.1,(hI hb).2⟩ fun k hk=>by rw [hc2.1]; exact hlt2 k hk
  simp only [zW,zX,zD,builtinA,isLeaf,const1,ustrA,simprocAttr,ti80,ti82,ca91,cf,Try.results61]
  rw [hc2.take]
  exact ⟨hc2.outer _,hc2,hfin⟩
set_option maxRecDepth 100000 in
theorem st_cmp {UT : List LL} {UX : List SX.LL} {US : List SL} {UK : List KL} (hU : Kn UT UX US UK) (x y : Option KL) (hx : InO UK x) (hy : InO UK y) (bt it ix ik : Nat) (hne : bt ≠ it ∧ bt ≠ ix ∧ it ≠ ix ∧ ik ≠ bt ∧ ik ≠ it ∧ ik ≠ ix) :
    CG.Cmp Try.prog [it,ix,ik] (IK UT UX UK bt it ix ik) 60 [.agg (cvK bt it ix ik),oVK x,oVK y] (stsB ((oKK x).map erK) ((oKK y).map erK)):=by
  rintro A ⟨⟨⟨hIT,hIX⟩,hbt⟩,hM⟩
  obtain ⟨n1,n2,n3,n4,n5,n6⟩:=hne
  have hlt:=hM.1
  have l1:=hIT.1
  have l2:=hIX.1
  have l3 : bt < A.length:=ne_dead hbt (by simp)
  have hox : (oKK x).length ≤ 1048576:=by
    cases x with
    | none=>simp [oKK]
    | some l=>exact (hU.iK l (hx l rfl)).2
  have hkx : ∀ (o : Option KL),InO UK o → ∀ t ∈ oKK o,StO UT UX t:=fun o ho t ht=>by
    cases o with
    | none=>simp [oKK] at ht
    | some l=>exact (hU.iK l (ho l rfl)).1 t ht
  have hKp:=(((IT.kp UT it).and (IX.kp UX ix)).and (CG.Kp.box bt (.cells [tF1,tF2,.map it]) (by simp))).and (CG.Kp.box A.length (.cells (cvK bt it ix ik)) (by simp))
  have hs:=CK.same hU.uK erK hKp (by kernel_rfl) [] [.ptr A.length 0] (fun x y=>stB (erK x) (erK y)) stB_iff x y hx hy
    (fun a ha b hb=>st_item hU.st a b (hkx x hx a ha) (hkx y hy b hb) A.length bt it ix ik ⟨by omega,by omega,n1,n2,n3⟩) hox ik (by simp; omega) (A ++ [Box.cells (cvK bt it ix ik)])
    ⟨⟨⟨⟨(IT.kp UT it).app hIT _,(IX.kp UX ix).app hIX _⟩,by rw [Abs.getD_append_left l3]; exact hbt⟩,by rw [Abs.getD_append_right (Nat.le_refl _)]; simp⟩,(CG.ClM.kp CK.pl UK RK ik).app hM _⟩
  rw [stsB_all] at hs
  generalize oVK x = vx at *
  generalize oVK y = vy at *
  rw [cvK] at hs ⊢
  refine acalls_enter (cf:=cf 13 [0,1,2,3,6]) foll Try.func60 Try.ntmps60 (by simp [cf]) ?_
  simp only [Try.f60,EnterK_some,zW,zX,zD,builtinA,isLeaf,const1,ustrA,simprocAttr,ti89,ti91,ca89,cf,Try.results60]
  refine callO_intro hs ?_
  rintro r A' ⟨rfl,hc,hI⟩
  have hlt2 : ∀ k ∈ [it,ix,ik],k < A.length:=fun k hk=>by
    simp only [List.mem_cons,List.not_mem_nil,or_false] at hk
    rcases hk with rfl | rfl | rfl <;> assumption
  obtain ⟨A1,L1,rfl,hc2,_⟩:=CG.Chg.split (S:=[it,ix,ik]) hc hlt2
  have hl1:=hc2.1
  have hfin : stsB ((oKK x).map erK) ((oKK y).map erK) = true → IK UT UX UK bt it ix ik A1:=fun hb=>by
    obtain ⟨⟨⟨⟨h1,h2⟩,h3⟩,_⟩,h4⟩:=hI hb
    exact ⟨⟨⟨(IT.kp UT it).cut h1 (by simp; omega),(IX.kp UX ix).cut h2 (by simp; omega)⟩,by rwa [Abs.getD_append_left (by omega)] at h3⟩,(CG.ClM.kp CK.pl UK RK ik).cut h4 (by simp; omega)⟩
  simp only [zW,zX,zD,builtinA,isLeaf,const1,ustrA,simprocAttr,ti89,ti91,ca89,cf,Try.results60]
  rw [hc2.take]
  exact ⟨hc2.outer _,hc2,hfin⟩
end Go.Proofs.Ytijlnkfiadajhaa
/- The program's comparison of units whose memory is known. -/
set_option linter.unusedVariables false
set_option linter.unusedSimpArgs false
namespace Go.Proofs.Ytijlnkfiadajhaa
open Go.Abs
structure UnJ where
  name : List UInt8
  params : Option CP.PL
  body : Option KL
  face : Option SL
def uJ (x : UnJ) : List AV:=[.str x.name,CP.oVP x.params,oVK x.body,oV x.face]
noncomputable def pmB (x y : ImJ) : Bool:=decide (x.name = y.name) && sisB ((oK x.sig).map erJ) ((oK y.sig).map erJ)
theorem sisB_iff2 (a b : List SigJ) : sisB (a.map erJ) (b.map erJ) = true ↔ a.map erJ = b.map erJ:=by
  rw [← sisB_all]; exact CG.allB_iff siB_iff a b
theorem stsB_iff2 (a b : List ItJ) : stsB (a.map erK) (b.map erK) = true ↔ a.map erK = b.map erK:=by
  rw [← stsB_all]; exact CG.allB_iff stB_iff a b
theorem pmB_iff (x y : ImJ) : pmB x y = true ↔ erP x = erP y:=by
  rw [pmB,Bool.and_eq_true,sisB_iff2,erP,erP,ImI.mk.injEq]
  constructor
  · rintro ⟨h1,h2⟩; exact ⟨of_decide_eq_true h1,h2⟩
  · rintro ⟨h1,h2⟩; exact ⟨decide_eq_true h1,h2⟩
abbrev RP (x y : CP.PL) : Prop:=x.ks.map erP = y.ks.map erP
noncomputable def unJB (x y : UnJ) : Bool:=((decide (x.name = y.name) && CG.allB pmB (CP.oKP x.params) (CP.oKP y.params)) && stsB ((oKK x.body).map erK) ((oKK y.body).map erK)) && sisB ((oK x.face).map erJ) ((oK y.face).map erJ)
structure KnU (UT : List LL) (UX : List SX.LL) (US : List SL) (UK : List KL) (UP : List CP.PL) : Prop extends Kn UT UX US UK where
  uP : ∀ x ∈ UP,∀ y ∈ UP,x.idn = y.idn → x = y
  iP : ∀ s ∈ UP,(∀ t ∈ s.ks,InO US t.sig) ∧ s.ks.length ≤ 1048576
structure InU (US : List SL) (UK : List KL) (UP : List CP.PL) (x : UnJ) : Prop where
  p : InO UP x.params
  b : InO UK x.body
  f : InO US x.face
def cvU (it is bt ix ik ip : Nat) : List AV:=[tF1,tF2,.map it,.map is,tF1,tF2,.map it,SX.xF1,SX.xF2 bt,.map ix,.map ik,.map ip]
set_option maxRecDepth 100000 in
theorem par_item {UT : List LL} {UX : List SX.LL} {US : List SL} {UK : List KL} (hU : Kn UT UX US UK) (x y : ImJ) (hx : InO US x.sig) (hy : InO US y.sig) (it is bt ix ik ip : Nat) (hne : is ≠ it) :
    CG.Cmp Try.prog [it,is] (IS UT US it is) 59 ([.agg (cvU it is bt ix ik ip)] ++ [.agg (qE x),.agg (qE y)] ++ []) (pmB x y):=by
  intro A hA
  have hT:=CG.Chg.rfl (IS.kp UT US it is) hA
  have hT0:=hT.outer []
  have hT1:=hT.take []
  rw [List.append_nil] at hT0 hT1
  have hlt2 : ∀ k ∈ [it,is],k < A.length:=(IS.kp UT US it is).lt A hA
  show ACalls Try.prog 59 [.agg (cvU it is bt ix ik ip),.agg (qE x),.agg (qE y)] A _
  have hcm:=fun L=>sig_cmp hU x.sig y.sig hx hy it is hne (A ++ L) ((IS.kp UT US it is).app hA L)
  rw [cvS] at hcm
  rw [pmB,cvU,qE,qE]
  generalize oV x.sig = vx at *
  generalize oV y.sig = vy at *
  by_cases h1 : x.name = y.name
  · rw [decide_eq_true h1,Bool.true_and]
    refine acalls_enter (cf:=cf 21 [0,1,2,3,4,5,6]) foll Try.func59 Try.ntmps59 (by simp [cf]) ?_
    simp only [Try.f59,EnterK_some,zW,zX,zD,builtinA,isLeaf,const1,ustrA,simprocAttr,ti9,ti31,ti70,ti82,ti95,ti132,ca61,cf,Try.results59]
    simp only [zW,zX,zD,builtinA,isLeaf,const1,ustrA,simprocAttr,ti9,ti31,ti70,ti82,ti95,ti132,ca61,cf,Try.results59,decide_eq_true h1]
    refine callO_intro (hcm _) ?_
    rintro r A' ⟨rfl,hc,hI⟩
    obtain ⟨A1,L1,rfl,hc2,_⟩:=hc.split hlt2
    have hfin : sisB ((oK x.sig).map erJ) ((oK y.sig).map erJ) = true → IS UT US it is A1:=fun hb=>(IS.kp UT US it is).cut (hI hb) fun k hk=>by rw [hc2.1]; exact hlt2 k hk
    simp only [zW,zX,zD,builtinA,isLeaf,const1,ustrA,simprocAttr,ti9,ti31,ti70,ti82,ti95,ti132,ca61,cf,Try.results59]
    rw [hc2.take]
    exact ⟨hc2.outer _,hc2,hfin⟩
  · rw [decide_eq_false h1,Bool.false_and]
    refine acalls_enter (cf:=cf 21 [0,1,2,3,4,5,6]) foll Try.func59 Try.ntmps59 (by simp [cf]) ?_
    simp only [Try.f59,EnterK_some,zW,zX,zD,builtinA,isLeaf,const1,ustrA,simprocAttr,ti9,ti31,ti70,ti82,ti95,ti132,ca61,cf,Try.results59]
    simp only [zW,zX,zD,builtinA,isLeaf,const1,ustrA,simprocAttr,ti9,ti31,ti70,ti82,ti95,ti132,ca61,cf,Try.results59,decide_eq_false h1]
    exact hT
abbrev IU (UT : List LL) (UX : List SX.LL) (US : List SL) (UK : List KL) (UP : List CP.PL) (it is bt ix ik ip : Nat) (A : List Box) : Prop :=
  ((IS UT US it is A ∧ CG.ClM CP.pl UP RP ip A) ∧ IX UX ix A) ∧ A.getD bt .dead = .cells [tF1,tF2,.map it] ∧ CG.ClM CK.pl UK RK ik A
theorem IU.kp (UT : List LL) (UX : List SX.LL) (US : List SL) (UK : List KL) (UP : List CP.PL) (it is bt ix ik ip : Nat) : CG.Kp (([it,is] ++ [ip] ++ [ix]) ++ ([bt] ++ [ik])) (([it,is] ++ [ip] ++ [ix]) ++ ([] ++ [ik])) (IU UT UX US UK UP it is bt ix ik ip) :=
  (((IS.kp UT US it is).and (CG.ClM.kp CP.pl UP RP ip)).and (IX.kp UX ix)).and ((CG.Kp.box bt (.cells [tF1,tF2,.map it]) (by simp)).and (CG.ClM.kp CK.pl UK RK ik))
def Dif (it is bt ix ik ip : Nat) : Prop:=(is ≠ it ∧ bt ≠ it ∧ ix ≠ it ∧ ik ≠ it ∧ ip ≠ it) ∧ (bt ≠ is ∧ ix ≠ is ∧ ik ≠ is ∧ ip ≠ is) ∧ (ix ≠ bt ∧ ik ≠ bt ∧ ip ≠ bt) ∧ (ik ≠ ix ∧ ip ≠ ix) ∧ ip ≠ ik
set_option maxRecDepth 100000 in
set_option maxHeartbeats 1000000 in
theorem un_cmp {UT : List LL} {UX : List SX.LL} {US : List SL} {UK : List KL} {UP : List CP.PL} (hU : KnU UT UX US UK UP) (x y : UnJ) (hx : InU US UK UP x) (hy : InU US UK UP y) (it is bt ix ik ip : Nat) (hne : Dif it is bt ix ik ip) :
    CG.Cmp Try.prog [it,is,ip,ix,ik] (IU UT UX US UK UP it is bt ix ik ip) 29 [.agg (cvU it is bt ix ik ip),.agg (uJ x),.agg (uJ y)] (unJB x y):=by
  obtain ⟨⟨n1,n2,n3,n4,n5⟩,⟨n6,n7,n8,n9⟩,⟨n10,n11,n12⟩,⟨n13,n14⟩,n15⟩:=hne
  have hKp:=IU.kp UT UX US UK UP it is bt ix ik ip
  have hcl : ∀ A,IU UT UX US UK UP it is bt ix ik ip A → ∀ k ∈ [it,is,ip,ix,ik],∀ n,boxClosed n (A.getD k .dead) = true:=fun A hA k hk n=>hKp.cls A hA k (by simpa using hk) n
  have hlx : (CP.oKP x.params).length ≤ 1048576:=by
    have:=hx.p
    cases hxp : x.params with
    | none=>simp [CP.oKP]
    | some l=>exact (hU.iP l (this l hxp)).2
  have hkx : ∀ (o : Option CP.PL),InO UP o → ∀ t ∈ CP.oKP o,InO US t.sig:=fun o ho t ht=>by
    cases o with
    | none=>simp [CP.oKP] at ht
    | some l=>exact (hU.iP l (ho l rfl)).1 t ht
  have c1:=(CP.same hU.uP erP (IS.kp UT US it is) (g:=59) (by kernel_rfl) [.agg (cvU it is bt ix ik ip)] [] pmB pmB_iff x.params y.params hx.p hy.p
    (fun a ha b hb=>par_item hU.toKn a b (hkx _ hx.p a ha) (hkx _ hy.p b hb) it is bt ix ik ip n1) hlx ip (by simp; omega)).conv (S':=[it,is,ip,ix,ik]) (I':=IU UT UX US UK UP it is bt ix ik ip) (fun A h=>h.1.1) (by simp) hcl
    (fun A A' h hc h1=>by
      have hd : ∀ k,k ≠ it → k ≠ is → k ≠ ip → A'.getD k .dead = A.getD k .dead:=fun k a b c=>hc.2.1 k (by simp [a,b,c])
      exact ⟨⟨h1,(IX.kp UX ix).loc A A' (fun k hk=>by obtain rfl:=List.mem_singleton.1 hk; exact hd _ (by omega) (by omega) (by omega)) h.1.2⟩,by rw [hd bt (by omega) (by omega) (by omega)]; exact h.2.1,(CG.ClM.kp CK.pl UK RK ik).loc A A' (fun k hk=>by obtain rfl:=List.mem_singleton.1 hk; exact hd _ (by omega) (by omega) (by omega)) h.2.2⟩)
  have c2:=(st_cmp hU.toKn x.body y.body hx.b hy.b bt it ix ik ⟨n2,by omega,by omega,n11,n4,n13⟩).conv (S':=[it,is,ip,ix,ik]) (I':=IU UT UX US UK UP it is bt ix ik ip) (fun A h=>⟨⟨⟨h.1.1.1.1,h.1.2⟩,h.2.1⟩,h.2.2⟩) (by simp) hcl
    (fun A A' h hc h1=>by
      have hd : ∀ k,k ≠ it → k ≠ ix → k ≠ ik → A'.getD k .dead = A.getD k .dead:=fun k a b c=>hc.2.1 k (by simp [a,b,c])
      exact ⟨⟨⟨⟨h1.1.1.1,(CG.ClM.kp CS.pl US RS is).loc A A' (fun k hk=>by obtain rfl:=List.mem_singleton.1 hk; exact hd _ (by omega) (by omega) (by omega)) h.1.1.1.2⟩,(CG.ClM.kp CP.pl UP RP ip).loc A A' (fun k hk=>by obtain rfl:=List.mem_singleton.1 hk; exact hd _ (by omega) (by omega) (by omega)) h.1.1.2⟩,h1.1.1.2⟩,h1.1.2,h1.2⟩)
  have c3:=(sig_cmp hU.toKn x.face y.face hx.f hy.f it is n1).conv (S':=[it,is,ip,ix,ik]) (I':=IU UT UX US UK UP it is bt ix ik ip) (fun A h=>h.1.1.1) (by simp) hcl
    (fun A A' h hc h1=>by
      have hd : ∀ k,k ≠ it → k ≠ is → A'.getD k .dead = A.getD k .dead:=fun k a b=>hc.2.1 k (by simp [a,b])
      exact ⟨⟨⟨h1,(CG.ClM.kp CP.pl UP RP ip).loc A A' (fun k hk=>by obtain rfl:=List.mem_singleton.1 hk; exact hd _ (by omega) (by omega)) h.1.1.2⟩,(IX.kp UX ix).loc A A' (fun k hk=>by obtain rfl:=List.mem_singleton.1 hk; exact hd _ (by omega) (by omega)) h.1.2⟩,by rw [hd bt (by omega) (by omega)]; exact h.2.1,(CG.ClM.kp CK.pl UK RK ik).loc A A' (fun k hk=>by obtain rfl:=List.mem_singleton.1 hk; exact hd _ (by omega) (by omega)) h.2.2⟩)
  intro A hA
  have hT : CG.Chg [it,is,ip,ix,ik] A A:=⟨rfl,fun _ _=>rfl,hcl A hA⟩
  have hlt2 : ∀ k ∈ [it,is,ip,ix,ik],k < A.length:=fun k hk=>hKp.lt A hA k (by simp at hk ⊢; omega)
  have hlt3 : ∀ k ∈ (([it,is] ++ [ip] ++ [ix]) ++ ([bt] ++ [ik])),k < A.length:=hKp.lt A hA
  have hcut : ∀ (A1 L : List Box),A1.length = A.length → IU UT UX US UK UP it is bt ix ik ip (A1 ++ L) → IU UT UX US UK UP it is bt ix ik ip A1:=fun A1 L hl h=>hKp.cut h fun k hk=>by rw [hl]; exact hlt3 k hk
  rw [cvS] at c3
  rw [cvK] at c2
  rw [unJB,uJ,uJ]
  rw [cvU] at c1 ⊢
  generalize CP.oVP x.params = p1 at *
  generalize CP.oVP y.params = p2 at *
  generalize oVK x.body = b1 at *
  generalize oVK y.body = b2 at *
  generalize oV x.face = f1 at *
  generalize oV y.face = f2 at *
  generalize CG.allB pmB (CP.oKP x.params) (CP.oKP y.params) = r1 at *
  generalize stsB ((oKK x.body).map erK) ((oKK y.body).map erK) = r2 at *
  generalize sisB ((oK x.face).map erJ) ((oK y.face).map erJ) = r3 at *
  by_cases h1 : x.name = y.name
  · rw [decide_eq_true h1,Bool.true_and]
    refine acalls_enter (cf:=cf 41 [0,1,2,3,4,5,6]) foll Try.func29 Try.ntmps29 (by simp [cf]) ?_
    simp only [Try.f29,EnterK_some,zW,zX,zD,builtinA,isLeaf,const1,ustrA,simprocAttr,ti9,ti29,ti30,ti31,ti33,ti70,ti82,ti91,ti93,ti95,ti130,ti132,ca58,ca60,ca61,cf,Try.results29]
    simp only [zW,zX,zD,builtinA,isLeaf,const1,ustrA,simprocAttr,ti9,ti29,ti30,ti31,ti33,ti70,ti82,ti91,ti93,ti95,ti130,ti132,ca58,ca60,ca61,cf,Try.results29,decide_eq_true h1]
    refine callO_intro (c1 _ (hKp.app hA _)) ?_
    rintro r A' ⟨rfl,hc,hI⟩
    obtain ⟨A1,L1,rfl,hc1,rfl⟩:=hc.split hlt2
    cases r1 with
    | false =>
      simp only [zW,zX,zD,builtinA,isLeaf,const1,ustrA,simprocAttr,ti9,ti29,ti30,ti31,ti33,ti70,ti82,ti91,ti93,ti95,ti130,ti132,ca58,ca60,ca61,cf,Try.results29]
      rw [hc1.take]
      exact ⟨hc1.outer _,hc1⟩
    | true =>
      have hI1:=hcut A1 _ hc1.1 (hI rfl)
      have hl1:=hc1.1
      have hg : ∀ (L : List Box) k,(A1 ++ L).getD (A.length + k) .dead = L.getD k .dead:=fun L k=>by rw [Abs.getD_append_right (by omega),show A.length + k - A1.length = k by omega]
      have hg0 : ∀ (L : List Box),(A1 ++ L).getD A.length .dead = L.getD 0 .dead:=fun L=>hg L 0
      simp only [zW,zX,zD,builtinA,isLeaf,const1,ustrA,simprocAttr,ti9,ti29,ti30,ti31,ti33,ti70,ti82,ti91,ti93,ti95,ti130,ti132,ca58,ca60,ca61,cf,Try.results29,hg,hg0]
      refine callO_intro (c2 _ (hKp.app hI1 _)) ?_
      rintro r A' ⟨rfl,hc',hI'⟩
      obtain ⟨A2,L2,rfl,hc2,rfl⟩:=hc'.split (fun k hk=>by rw [hl1]; exact hlt2 k hk)
      have hc3:=hc1.trans hc2
      have hl2:=hc3.1
      cases r2 with
      | false =>
        simp only [zW,zX,zD,builtinA,isLeaf,const1,ustrA,simprocAttr,ti9,ti29,ti30,ti31,ti33,ti70,ti82,ti91,ti93,ti95,ti130,ti132,ca58,ca60,ca61,cf,Try.results29]
        rw [hc3.take]
        exact ⟨hc3.outer _,hc3⟩
      | true =>
        have hI2:=hcut A2 _ hl2 (hI' rfl)
        have hg' : ∀ (L : List Box) k,(A2 ++ L).getD (A.length + k) .dead = L.getD k .dead:=fun L k=>by rw [Abs.getD_append_right (by omega),show A.length + k - A2.length = k by omega]
        have hg0' : ∀ (L : List Box),(A2 ++ L).getD A.length .dead = L.getD 0 .dead:=fun L=>hg' L 0
        simp only [zW,zX,zD,builtinA,isLeaf,const1,ustrA,simprocAttr,ti9,ti29,ti30,ti31,ti33,ti70,ti82,ti91,ti93,ti95,ti130,ti132,ca58,ca60,ca61,cf,Try.results29,hg',hg0']
        refine callO_intro (c3 _ (hKp.app hI2 _)) ?_
        rintro r A' ⟨rfl,hc'',hI''⟩
        obtain ⟨A3,L3,rfl,hc4,rfl⟩:=hc''.split (fun k hk=>by rw [hl2]; exact hlt2 k hk)
        have hc5:=hc3.trans hc4
        simp only [zW,zX,zD,builtinA,isLeaf,const1,ustrA,simprocAttr,ti9,ti29,ti30,ti31,ti33,ti70,ti82,ti91,ti93,ti95,ti130,ti132,ca58,ca60,ca61,cf,Try.results29]
        rw [hc5.take]
        exact ⟨hc5.outer _,hc5,fun hb=>hcut A3 _ hc5.1 (hI'' hb)⟩
  · rw [decide_eq_false h1,Bool.false_and,Bool.false_and,Bool.false_and]
    refine acalls_enter (cf:=cf 41 [0,1,2,3,4,5,6]) foll Try.func29 Try.ntmps29 (by simp [cf]) ?_
    simp only [Try.f29,EnterK_some,zW,zX,zD,builtinA,isLeaf,const1,ustrA,simprocAttr,ti9,ti29,ti30,ti31,ti33,ti70,ti82,ti91,ti93,ti95,ti130,ti132,ca58,ca60,ca61,cf,Try.results29]
    simp only [zW,zX,zD,builtinA,isLeaf,const1,ustrA,simprocAttr,ti9,ti29,ti30,ti31,ti33,ti70,ti82,ti91,ti93,ti95,ti130,ti132,ca58,ca60,ca61,cf,Try.results29,decide_eq_false h1]
    exact hT
end Go.Proofs.Ytijlnkfiadajhaa
