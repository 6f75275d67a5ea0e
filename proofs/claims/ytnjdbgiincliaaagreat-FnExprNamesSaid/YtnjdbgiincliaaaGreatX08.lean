/- SameTX. -/
import Derived.Test.YtnjdbgiincliaaaGreatX07
import Derived.Test.YtnjdbgiincliaaaGreatAbsW3
/- The program's comparison of expressions: what its parts do. -/
set_option linter.unusedVariables false
set_option linter.unusedSimpArgs false
namespace Go.Proofs.YtnjdbgiincliaaaGreat
open Go.Abs
abbrev tLL:=LL
abbrev tUniv (U : List tLL) : Prop:=Univ U
abbrev tBelow (a : TT):=below a
abbrev tEs (m : List (tLL × tLL)):=esOf m
abbrev tClS (U : List tLL) (m : List (tLL × tLL)) : Prop:=ClS U m
def tEnc (a : TT) : List AV:=[.int .i64 (tNode a).1,.str (tNode a).2.1,.str (tNode a).2.2.1,tKids a]
theorem tKids_frz (a : TT) (A : List Box) : frz1 (tKids a) A = some (tKids a,A):=frz1_kidsV a A
structure TU (U : List tLL) (a : TT) : Prop where
  mem : ∀ x,tBelow a = some x → x ∈ U
structure TUs (U : List tLL) : Prop where
  univ : tUniv U
  len : U.length ≤ 100000000
  lens : ∀ x ∈ U,x.ks.length ≤ 1000000000
theorem tSame {U : List tLL} (hU : TUs U) (a b : TT) (ha : TU U a) (hb : TU U b) (i : Nat) (m0 : List (tLL × tLL)) (h0 : tClS U m0) (A : List Box) (hi : i < A.length) (hA : A.getD i .dead = .mapb (tEs m0)) :
    ACalls Tryz.prog 197 [.agg [tF1,tF2,.map i],.agg (tEnc a),.agg (tEnc b)] A (fun r A'=>∃ m',A' = A.set i (.mapb (tEs m')) ∧ r = .bool (decide (tErase a = tErase b)) ∧ (tErase a = tErase b → tClS U m')):=by
  have h:=sameI hU.univ hU.len hU.lens a b ha.mem hb.mem i m0 h0 A hi hA
  rw [tEnc_eq,tEnc_eq] at h
  exact h
theorem t_set {A : List Box} {i : Nat} {X : Box} (h : A.getD i .dead = X) (hi : i < A.length) : A.set i X = A:=set_at h hi
theorem tEs_closed (n : Nat) (m : List (tLL × tLL)) : boxClosed n (.mapb (tEs m)) = true:=es_closed n m
end Go.Proofs.YtnjdbgiincliaaaGreat
namespace Go.Proofs.YtnjdbgiincliaaaGreat.SX
open Go.Abs
theorem encI_take (t : IEx) : List.take 9 (encI t) = encI t:=by rw [encI_eq]; rfl
theorem encI_drop (t : IEx) : List.drop 9 (encI t) = []:=by rw [encI_eq]; rfl
theorem frz1_kidsV (t : IEx) (A : List Box) : frz1 (kidsV t) A = some (kidsV t,A):=by
  unfold kidsV
  cases below t <;> rfl
theorem frzL_encI (t : IEx) (A : List Box) : frzL (encI t) A = some (encI t,A):=by
  rw [encI_eq]
  have h1:=tKids_frz (argX t) A
  have h2:=frz1_kidsV t A
  have e1 : ∀ (k : IntKind) (n : Int),frz1 (.int k n) A = some (.int k n,A):=fun _ _=>rfl
  have e2 : ∀ x,frz1 (.str x) A = some (.str x,A):=fun _=>rfl
  simp only [frzL,h1,h2,e1,e2]
theorem kids_cases (t : IEx) : (below t = none ∧ kidsV t = .slice [] ∧ (node t).2 = 0) ∨ ∃ x,below t = some x ∧ kidsV t = .islice x.b x.off (encIs x.ks) ∧ (node t).2 = x.ks.length:=by
  cases h : below t with
  | none =>
    obtain ⟨k,q,m,n,a,b,o,rfl⟩:=below_none h
    exact .inl ⟨rfl,by simp [kidsV,below],by simp [node]⟩
  | some x =>
    refine .inr ⟨x,rfl,by simp [kidsV,h],?_⟩
    obtain ⟨k,q,m,n,a,rfl⟩:=below_ks h
    rfl
def xF1 : AV:=.func (.func 232) [] []
def xF2 (bt : Nat) : AV:=.func (.func 233) [] [.ptr bt 0]
def lab (t : IEx) : Int × Int × List UInt8 × List UInt8 × Ty:=(node t).1
def klen (t : IEx) : Nat:=(node t).2
theorem node_iff (s t : IEx) : node s = node t ↔ lab s = lab t ∧ klen s = klen t:=by
  simp only [lab,klen,Prod.ext_iff]
theorem lab_eq (t : IEx) : lab t = ((hdX t).1,(hdX t).2.1,(hdX t).2.2.1,(hdX t).2.2.2,tErase (argX t)):=by
  obtain ⟨k,q,m,n,a,b,o,ks⟩:=t
  rfl
theorem lab_iff (s t : IEx) : lab s = lab t ↔ (hdX s).1 = (hdX t).1 ∧ (hdX s).2.1 = (hdX t).2.1 ∧ (hdX s).2.2.1 = (hdX t).2.2.1 ∧ (hdX s).2.2.2 = (hdX t).2.2.2 ∧ tErase (argX s) = tErase (argX t):=by
  rw [lab_eq,lab_eq]
  simp only [Prod.mk.injEq]
set_option maxRecDepth 100000 in
theorem tcI_kids (t : IEx) (A : List Box) : ACalls Tryz.prog 232 [.agg (encI t)] A (fun r A'=>r = kidsV t ∧ A' = A):=by
  rw [encI_eq]
  rcases kids_cases t with ⟨_,e1,n1⟩ | ⟨x,_,e1,n1⟩ <;> rw [e1]
  · refine acalls_enter (cf:=cf 5 [0,1,2]) foll Tryz.func232 Tryz.ntmps232 (by simp [cf]) ?_
    simp only [Tryz.f232,EnterK_some,zW,zX,zD,builtinA,isLeaf,const1,Nat.reduceAdd,Nat.reduceMul,Nat.reduceSub,Nat.reduceLT,Nat.reduceLeDiff,Nat.reduceEqDiff,Nat.reduceBEq,Nat.reduceBNe,reduceIte,reduceCtorEq,Int.reduceToNat,Int.reduceLT,Int.reduceLE,Int.reduceEq,Int.reduceNe,Int.reduceNeg,ustrA,ti37,ti39,cf,Tryz.results232]
  · refine acalls_enter (cf:=cf 5 [0,1,2]) foll Tryz.func232 Tryz.ntmps232 (by simp [cf]) ?_
    simp only [Tryz.f232,EnterK_some,zW,zX,zD,builtinA,isLeaf,const1,Nat.reduceAdd,Nat.reduceMul,Nat.reduceSub,Nat.reduceLT,Nat.reduceLeDiff,Nat.reduceEqDiff,Nat.reduceBEq,Nat.reduceBNe,reduceIte,reduceCtorEq,Int.reduceToNat,Int.reduceLT,Int.reduceLE,Int.reduceEq,Int.reduceNe,Int.reduceNeg,ustrA,ti37,ti39,cf,Tryz.results232]
set_option maxRecDepth 100000 in
theorem tcI_same {UT : List tLL} (hU : TUs UT) (s t : IEx) (hs : TU UT (argX s)) (ht : TU UT (argX t)) (bt it : Nat) (mt : List (tLL × tLL)) (hc : tClS UT mt) (A : List Box) (hb : bt < A.length) (hi : it < A.length) (hbt : A.getD bt .dead = .cells [tF1,tF2,.map it]) (hA : A.getD it .dead = .mapb (tEs mt)) :
    ACalls Tryz.prog 233 [.agg (encI s),.agg (encI t),.ptr bt 0] A (fun r A'=>∃ mt',A' = A.set it (.mapb (tEs mt')) ∧ r = .bool (decide (lab s = lab t)) ∧ (lab s = lab t → tClS UT mt')):=by
  have hli:=lab_iff s t
  have hset:=t_set hA hi
  have hno : ¬ lab s = lab t → ∀ (A' : List Box),A' = A → ∃ mt',A' = A.set it (.mapb (tEs mt')) ∧ AV.bool false = .bool (decide (lab s = lab t)) ∧ (lab s = lab t → tClS UT mt'):=fun h A' e=>⟨mt,by rw [hset]; exact e,by rw [decide_eq_false h],fun h'=>absurd h' h⟩
  rw [encI_eq,encI_eq]
  by_cases h1 : (hdX s).1 = (hdX t).1
  · by_cases h2 : (hdX s).2.1 = (hdX t).2.1
    · by_cases h3 : (hdX s).2.2.1 = (hdX t).2.2.1
      · by_cases h4 : (hdX s).2.2.2 = (hdX t).2.2.2
        · have hbt1 : ∀ L,(A ++ L).getD bt .dead = .cells [tF1,tF2,.map it]:=fun L=>by rw [Abs.getD_append_left hb]; exact hbt
          have hsm:=tSame hU (argX s) (argX t) hs ht it mt hc
          simp only [tEnc] at hsm
          refine acalls_enter (cf:=cf 40 [0,1,2,3,4,5]) foll Tryz.func233 Tryz.ntmps233 (by simp [cf]) ?_
          simp only [Tryz.f233,EnterK_some,zW,zX,zD,builtinA,isLeaf,const1,Nat.reduceAdd,Nat.reduceMul,Nat.reduceSub,Nat.reduceLT,Nat.reduceLeDiff,Nat.reduceEqDiff,Nat.reduceBEq,Nat.reduceBNe,reduceIte,reduceCtorEq,Int.reduceToNat,Int.reduceLT,Int.reduceLE,Int.reduceEq,Int.reduceNe,Int.reduceNeg,ustrA,ti3,ti9,ti36,ti39,ti167,ca197,cf,Tryz.results233]
          simp only [zW,zX,zD,builtinA,isLeaf,const1,Nat.reduceAdd,Nat.reduceMul,Nat.reduceSub,Nat.reduceLT,Nat.reduceLeDiff,Nat.reduceEqDiff,Nat.reduceBEq,Nat.reduceBNe,reduceIte,reduceCtorEq,Int.reduceToNat,Int.reduceLT,Int.reduceLE,Int.reduceEq,Int.reduceNe,Int.reduceNeg,ustrA,ti3,ti9,ti36,ti39,ti167,ca197,cf,Tryz.results233,decide_eq_true h1,decide_eq_true h2,decide_eq_true h3,decide_eq_true h4,hbt1]
          refine callO_intro (hsm _ (by simp; omega) (by rw [Abs.getD_append_left hi]; exact hA)) ?_
          rintro r A2 ⟨m',rfl,rfl,hcl⟩
          have hsa : ∀ X (L : List Box),(A ++ L).set it X = A.set it X ++ L:=fun X L=>List.set_append_left _ _ hi
          have hd : decide (tErase (argX s) = tErase (argX t)) = decide (lab s = lab t):=by
            rw [Bool.eq_iff_iff,decide_eq_true_eq,decide_eq_true_eq,hli]
            exact ⟨fun h=>⟨h1,h2,h3,h4,h⟩,fun h=>h.2.2.2.2⟩
          rw [hsa,hd]
          simp only [zW,zX,zD,builtinA,isLeaf,const1,Nat.reduceAdd,Nat.reduceMul,Nat.reduceSub,Nat.reduceLT,Nat.reduceLeDiff,Nat.reduceEqDiff,Nat.reduceBEq,Nat.reduceBNe,reduceIte,reduceCtorEq,Int.reduceToNat,Int.reduceLT,Int.reduceLE,Int.reduceEq,Int.reduceNe,Int.reduceNeg,ustrA,ti3,ti9,ti36,ti39,ti167,ca197,cf,Tryz.results233]
          exact ⟨outer_set A _ it _ (tEs_closed _ _),m',rfl,fun h=>hcl (hli.1 h).2.2.2.2⟩
        · have hn : ¬ lab s = lab t:=fun h=>h4 (hli.1 h).2.2.2.1
          refine acalls_enter (cf:=cf 40 [0,1,2,3,4,5]) foll Tryz.func233 Tryz.ntmps233 (by simp [cf]) ?_
          simp only [Tryz.f233,EnterK_some,zW,zX,zD,builtinA,isLeaf,const1,Nat.reduceAdd,Nat.reduceMul,Nat.reduceSub,Nat.reduceLT,Nat.reduceLeDiff,Nat.reduceEqDiff,Nat.reduceBEq,Nat.reduceBNe,reduceIte,reduceCtorEq,Int.reduceToNat,Int.reduceLT,Int.reduceLE,Int.reduceEq,Int.reduceNe,Int.reduceNeg,ustrA,ti3,ti9,ti36,ti39,ti167,ca197,cf,Tryz.results233]
          simp only [zW,zX,zD,builtinA,isLeaf,const1,Nat.reduceAdd,Nat.reduceMul,Nat.reduceSub,Nat.reduceLT,Nat.reduceLeDiff,Nat.reduceEqDiff,Nat.reduceBEq,Nat.reduceBNe,reduceIte,reduceCtorEq,Int.reduceToNat,Int.reduceLT,Int.reduceLE,Int.reduceEq,Int.reduceNe,Int.reduceNeg,ustrA,ti3,ti9,ti36,ti39,ti167,ca197,cf,Tryz.results233,decide_eq_true h1,decide_eq_true h2,decide_eq_true h3,decide_eq_false h4]
          exact hno hn _ rfl
      · have hn : ¬ lab s = lab t:=fun h=>h3 (hli.1 h).2.2.1
        refine acalls_enter (cf:=cf 40 [0,1,2,3,4,5]) foll Tryz.func233 Tryz.ntmps233 (by simp [cf]) ?_
        simp only [Tryz.f233,EnterK_some,zW,zX,zD,builtinA,isLeaf,const1,Nat.reduceAdd,Nat.reduceMul,Nat.reduceSub,Nat.reduceLT,Nat.reduceLeDiff,Nat.reduceEqDiff,Nat.reduceBEq,Nat.reduceBNe,reduceIte,reduceCtorEq,Int.reduceToNat,Int.reduceLT,Int.reduceLE,Int.reduceEq,Int.reduceNe,Int.reduceNeg,ustrA,ti3,ti9,ti36,ti39,ti167,ca197,cf,Tryz.results233]
        simp only [zW,zX,zD,builtinA,isLeaf,const1,Nat.reduceAdd,Nat.reduceMul,Nat.reduceSub,Nat.reduceLT,Nat.reduceLeDiff,Nat.reduceEqDiff,Nat.reduceBEq,Nat.reduceBNe,reduceIte,reduceCtorEq,Int.reduceToNat,Int.reduceLT,Int.reduceLE,Int.reduceEq,Int.reduceNe,Int.reduceNeg,ustrA,ti3,ti9,ti36,ti39,ti167,ca197,cf,Tryz.results233,decide_eq_true h1,decide_eq_true h2,decide_eq_false h3]
        exact hno hn _ rfl
    · have hn : ¬ lab s = lab t:=fun h=>h2 (hli.1 h).2.1
      refine acalls_enter (cf:=cf 40 [0,1,2,3,4,5]) foll Tryz.func233 Tryz.ntmps233 (by simp [cf]) ?_
      simp only [Tryz.f233,EnterK_some,zW,zX,zD,builtinA,isLeaf,const1,Nat.reduceAdd,Nat.reduceMul,Nat.reduceSub,Nat.reduceLT,Nat.reduceLeDiff,Nat.reduceEqDiff,Nat.reduceBEq,Nat.reduceBNe,reduceIte,reduceCtorEq,Int.reduceToNat,Int.reduceLT,Int.reduceLE,Int.reduceEq,Int.reduceNe,Int.reduceNeg,ustrA,ti3,ti9,ti36,ti39,ti167,ca197,cf,Tryz.results233]
      simp only [zW,zX,zD,builtinA,isLeaf,const1,Nat.reduceAdd,Nat.reduceMul,Nat.reduceSub,Nat.reduceLT,Nat.reduceLeDiff,Nat.reduceEqDiff,Nat.reduceBEq,Nat.reduceBNe,reduceIte,reduceCtorEq,Int.reduceToNat,Int.reduceLT,Int.reduceLE,Int.reduceEq,Int.reduceNe,Int.reduceNeg,ustrA,ti3,ti9,ti36,ti39,ti167,ca197,cf,Tryz.results233,decide_eq_true h1,decide_eq_false h2]
      exact hno hn _ rfl
  · have hn : ¬ lab s = lab t:=fun h=>h1 (hli.1 h).1
    refine acalls_enter (cf:=cf 40 [0,1,2,3,4,5]) foll Tryz.func233 Tryz.ntmps233 (by simp [cf]) ?_
    simp only [Tryz.f233,EnterK_some,zW,zX,zD,builtinA,isLeaf,const1,Nat.reduceAdd,Nat.reduceMul,Nat.reduceSub,Nat.reduceLT,Nat.reduceLeDiff,Nat.reduceEqDiff,Nat.reduceBEq,Nat.reduceBNe,reduceIte,reduceCtorEq,Int.reduceToNat,Int.reduceLT,Int.reduceLE,Int.reduceEq,Int.reduceNe,Int.reduceNeg,ustrA,ti3,ti9,ti36,ti39,ti167,ca197,cf,Tryz.results233]
    simp only [zW,zX,zD,builtinA,isLeaf,const1,Nat.reduceAdd,Nat.reduceMul,Nat.reduceSub,Nat.reduceLT,Nat.reduceLeDiff,Nat.reduceEqDiff,Nat.reduceBEq,Nat.reduceBNe,reduceIte,reduceCtorEq,Int.reduceToNat,Int.reduceLT,Int.reduceLE,Int.reduceEq,Int.reduceNe,Int.reduceNeg,ustrA,ti3,ti9,ti36,ti39,ti167,ca197,cf,Tryz.results233,decide_eq_false h1]
    exact hno hn _ rfl
set_option maxRecDepth 100000 in
theorem impl_join0 (i : Nat) (A : List Box) : ACalls Tryz.prog 234 [.map i,.slice [],.slice []] A (fun r A'=>r = .bool false ∧ A' = A):=by
  have h0 : decide (((0 : Nat) : Int) = 0) = true:=rfl
  refine acalls_enter (cf:=cf 32 [0,1,2,6,7,8,11,28]) foll Tryz.func234 Tryz.ntmps234 (by simp [cf]) ?_
  simp only [Tryz.f234,EnterK_some,zW,zX,zD,builtinA,isLeaf,const1,Nat.reduceAdd,Nat.reduceMul,Nat.reduceSub,Nat.reduceLT,Nat.reduceLeDiff,Nat.reduceEqDiff,Nat.reduceBEq,Nat.reduceBNe,reduceIte,reduceCtorEq,Int.reduceToNat,Int.reduceLT,Int.reduceLE,Int.reduceEq,Int.reduceNe,Int.reduceNeg,ustrA,ti3,ti37,ti39,ti229,ti406,ca282,mi229,ks406,cf,Tryz.results234]
  try simp only [zW,zX,zD,builtinA,isLeaf,const1,Nat.reduceAdd,Nat.reduceMul,Nat.reduceSub,Nat.reduceLT,Nat.reduceLeDiff,Nat.reduceEqDiff,Nat.reduceBEq,Nat.reduceBNe,reduceIte,reduceCtorEq,Int.reduceToNat,Int.reduceLT,Int.reduceLE,Int.reduceEq,Int.reduceNe,Int.reduceNeg,ustrA,ti3,ti37,ti39,ti229,ti406,ca282,mi229,ks406,cf,Tryz.results234,h0]
inductive WI where
  | ini
  | pr (x y : LL)
def WI.l1 (a0 : IEx) : WI → List IEx
  | .ini=>[a0]
  | .pr x _=>x.ks
def WI.l2 (b0 : IEx) : WI → List IEx
  | .ini=>[b0]
  | .pr _ y=>y.ks
def WI.row (a0 b0 : IEx) : WI → List AV
  | .ini=>[.slice (encIs [a0]),.slice (encIs [b0])]
  | .pr x y=>[.islice x.b x.off (encIs x.ks),.islice y.b y.off (encIs y.ks)]
structure SI (U : List LL) (a0 b0 : IEx) (m J : List (LL × LL)) (W : List WI) (cur : Option WI) : Prop where
  ci : CI U (Eqv J) m
  js : ∀ p ∈ J,Bis (Eqv J) p.1 p.2 ∨ WI.pr p.1 p.2 ∈ W ∨ cur = some (.pr p.1 p.2)
  ini : Near (Eqv J) a0 b0 ∨ WI.ini ∈ W ∨ cur = some .ini
  ws : ∀ x y,(WI.pr x y ∈ W ∨ cur = some (.pr x y)) → x ∈ U ∧ y ∈ U ∧ x.ks.length = y.ks.length
  er : erase a0 = erase b0 → ∀ w,(w ∈ W ∨ cur = some w) → erases (w.l1 a0) = erases (w.l2 b0)
theorem Near.mono {R R' : LL → LL → Prop} (h : ∀ x y,R x y → R' x y) {s t : IEx} (k : Near R s t) : Near R' s t :=
  ⟨k.1,k.2.imp id fun ⟨x,y,a,b,c⟩=>⟨x,y,a,b,h _ _ c⟩⟩
theorem Bis.mono {R R' : LL → LL → Prop} (h : ∀ x y,R x y → R' x y) {x y : LL} (k : Bis R x y) : Bis R' x y :=
  ⟨k.1,fun i hi=>(k.2 i hi).mono h⟩
theorem SI.pop {U : List LL} {a0 b0 : IEx} {m J : List (LL × LL)} {W : List WI} {w : WI} (h : SI U a0 b0 m J (W ++ [w]) none) : SI U a0 b0 m J W (some w):=by
  refine ⟨h.ci,fun p hp=>?_,?_,fun x y hw=>h.ws x y (.inl ?_),fun he v hv=>h.er he v (.inl ?_)⟩
  · rcases h.js p hp with h | h | h
    · exact .inl h
    · rcases List.mem_append.1 h with h | h
      · exact .inr (.inl h)
      · exact .inr (.inr (by rw [List.mem_singleton.1 h]))
    · cases h
  · rcases h.ini with h | h | h
    · exact .inl h
    · rcases List.mem_append.1 h with h | h
      · exact .inr (.inl h)
      · exact .inr (.inr (by rw [List.mem_singleton.1 h]))
    · cases h
  · rcases hw with hw | hw
    · exact List.mem_append_left _ hw
    · cases hw; simp
  · rcases hv with hv | hv
    · exact List.mem_append_left _ hv
    · cases hv; simp
theorem SI.done {U : List LL} {a0 b0 : IEx} {m J : List (LL × LL)} {W : List WI} {w : WI} (h : SI U a0 b0 m J W (some w)) (hl : (w.l1 a0).length = (w.l2 b0).length)
    (hn : ∀ i,i < (w.l1 a0).length → Near (Eqv J) ((w.l1 a0).getD i it0) ((w.l2 b0).getD i it0)) : SI U a0 b0 m J W none:=by
  refine ⟨h.ci,fun p hp=>?_,?_,fun x y hw=>?_,fun he v hv=>?_⟩
  · rcases h.js p hp with h | h | h
    · exact .inl h
    · exact .inr (.inl h)
    · cases h
      exact .inl ⟨hl,hn⟩
  · rcases h.ini with h | h | h
    · exact .inl h
    · exact .inr (.inl h)
    · cases h
      exact .inl (by simpa [WI.l1,WI.l2] using hn 0 (by simp [WI.l1]))
  · rcases hw with hw | hw
    · exact h.ws x y (.inl hw)
    · cases hw
  · rcases hv with hv | hv
    · exact h.er he v (.inl hv)
    · cases hv
theorem SI.same {U : List LL} {a0 b0 : IEx} {m m' J : List (LL × LL)} {W : List WI} {c : Option WI} (h : SI U a0 b0 m J W c) (hc : CI U (Eqv J) m') : SI U a0 b0 m' J W c :=
  ⟨hc,h.js,h.ini,h.ws,h.er⟩
theorem eqv_more {J : List (LL × LL)} (q : LL × LL) : ∀ x y,Eqv J x y → Eqv (q :: J) x y:=fun x y h=>h.mono fun p hp=>List.mem_cons_of_mem _ hp
theorem SI.more {U : List LL} {a0 b0 : IEx} {m m' J : List (LL × LL)} {W : List WI} {c : Option WI} (h : SI U a0 b0 m J W c) {x y : LL} (hx : x ∈ U) (hy : y ∈ U) (hl : x.ks.length = y.ks.length) (hc : CI U (Eqv ((x,y) :: J)) m')
    (he : erase a0 = erase b0 → erases x.ks = erases y.ks) : SI U a0 b0 m' ((x,y) :: J) (W ++ [.pr x y]) c:=by
  refine ⟨hc,fun p hp=>?_,?_,fun u v hw=>?_,fun hh v hv=>?_⟩
  · rcases List.mem_cons.1 hp with rfl | hp
    · exact .inr (.inl (by simp))
    · rcases h.js p hp with h | h | h
      · exact .inl (h.mono (eqv_more _))
      · exact .inr (.inl (List.mem_append_left _ h))
      · exact .inr (.inr h)
  · rcases h.ini with h | h | h
    · exact .inl (h.mono (eqv_more _))
    · exact .inr (.inl (List.mem_append_left _ h))
    · exact .inr (.inr h)
  · rcases hw with hw | hw
    · rcases List.mem_append.1 hw with hw | hw
      · exact h.ws u v (.inl hw)
      · have:=List.mem_singleton.1 hw
        cases this
        exact ⟨hx,hy,hl⟩
    · exact h.ws u v (.inr hw)
  · rcases hv with hv | hv
    · rcases List.mem_append.1 hv with hv | hv
      · exact h.er hh v (.inl hv)
      · have:=List.mem_singleton.1 hv
        subst this
        exact he hh
    · exact h.er hh v (.inr hv)
theorem SI.fin {U : List LL} {a0 b0 : IEx} {m J : List (LL × LL)} (h : SI U a0 b0 m J [] none) : erase a0 = erase b0:=by
  have hj : ∀ p ∈ J,Bis (Eqv J) p.1 p.2:=fun p hp=>by
    rcases h.js p hp with h | h | h
    · exact h
    · simp at h
    · cases h
  have hi : Near (Eqv J) a0 b0:=by
    rcases h.ini with h | h | h
    · exact h
    · simp at h
    · cases h
  exact near_erase hi fun x y _ _ hr=>same_all hj _ x y (Nat.le_refl _) hr
theorem erases_at {l l' : List IEx} (h : erases l = erases l') (i : Nat) : erase (l.getD i it0) = erase (l'.getD i it0):=by
  rw [erases_map,erases_map] at h
  have hl : l.length = l'.length:=by have:=congrArg List.length h; simpa using this
  rcases Nat.lt_or_ge i l.length with hi | hi
  · have:=congrArg (fun z=>z.getD i (erase it0)) h
    simpa [List.getD,hi,show i < l'.length by omega] using this
  · simp [List.getD,Nat.not_lt.2 hi,show ¬ i < l'.length by omega]
theorem erase_node {s t : IEx} (h : erase s = erase t) : node s = node t:=by
  obtain ⟨k,q,m,n,a,b,o,ks⟩:=s
  obtain ⟨k',q',m',n',a',b',o',ks'⟩:=t
  rw [erase,erase] at h
  injection h with h1 h2 h3 h4 h5 h6
  have : ks.length = ks'.length:=by
    rw [erases_map,erases_map] at h6
    have:=congrArg List.length h6
    simpa using this
  simp [node,h1,h2,h3,h4,h5,this]
theorem erase_kids {s t : IEx} {x y : LL} (h : erase s = erase t) (hx : below s = some x) (hy : below t = some y) : erases x.ks = erases y.ks:=by
  obtain ⟨k,q,m,n,a,rfl⟩:=below_ks hx
  obtain ⟨k',q',m',n',a',rfl⟩:=below_ks hy
  rw [erase,erase] at h
  injection h
theorem CI.le {U : List LL} {R : LL → LL → Prop} {m : List (LL × LL)} (h : CI U R m) : m.length ≤ U.length:=by
  haveI : DecidableEq LL:=fun a b=>Classical.propDecidable (a = b)
  have:=nodup_le (m.map (·.1)) U h.nodup fun x hx=>by
    obtain ⟨p,hp,rfl⟩:=List.mem_map.1 hx
    exact (h.mem p hp).1
  simpa using this
def ClS (U : List LL) (m : List (LL × LL)) : Prop:=∃ J,CI U (Eqv J) m ∧ ∀ p ∈ J,Bis (Eqv J) p.1 p.2
theorem SI.cls {U : List LL} {a0 b0 : IEx} {m J : List (LL × LL)} (h : SI U a0 b0 m J [] none) : ClS U m:=⟨J,h.ci,fun p hp=>by
  rcases h.js p hp with h | h | h
  · exact h
  · simp at h
  · cases h⟩
theorem ClS.le {U : List LL} {m : List (LL × LL)} (h : ClS U m) : m.length ≤ U.length:=by obtain ⟨J,h,_⟩:=h; exact h.le
def esLen (N a : Nat) (A : List Box) : Nat :=
  match A.getD a .dead with
  | .mapb es=>N - es.length
  | _=>0
def rowLen (A : List Box) : AV → Nat
  | .own q=>match A.getD q .dead with
    | .row _ rows _=>rows.length
    | _=>0
  | _=>0
def muI (n : Nat) (e : Env) : Nat :=
  match Abs.look 36 e with
  | .int _ i=>n - i.toNat
  | _=>0
def muT (N a : Nat) (e : Env) (A : List Box) : Nat:=2 * esLen N a A + rowLen A (Abs.look 7 e)
end Go.Proofs.YtnjdbgiincliaaaGreat.SX
