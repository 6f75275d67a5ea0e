/- SameCX, SameTX. -/
import Derived.Test.YtijlnkfiadajhaaK06
import Derived.Test.YtijlnkfiadajhaaAbsW3
/- The classes of lists, in the program's map. -/
set_option linter.unusedVariables false
set_option linter.unusedSimpArgs false
namespace Go.Proofs.Ytijlnkfiadajhaa.SX
open Go.Abs
def kvC (x : LL) : List AV:=[.ivptr x.b x.off (encI x.hd),.int .i64 (x.ks.length : Nat)]
def esOf (m : List (LL × LL)) : List (AV × AV):=m.map fun p=>(.agg (kvC p.1),.agg (kvC p.2))
abbrev KK : List (Nat × TK):=[(0,.ptr 53),(1,.int .i64)]
def fnd (l : LL) : List (LL × LL) → Nat → Option (Nat × LL)
  | [],_=>none
  | p :: m,i=>if l.idn = p.1.idn then some (i,p.2) else fnd l m (i + 1)
theorem kv_eq (x y : LL) : eqK KK (kvC x) (kvC y) = some (decide (x.idn = y.idn)):=by
  have : decide (x.idn = y.idn) = (decide (x.b = y.b ∧ x.off = y.off) && (decide (((x.ks.length : Nat) : Int) = ((y.ks.length : Nat) : Int)) && true)):=by
    rw [Bool.eq_iff_iff]
    simp [LL.idn,Prod.mk.injEq]
    omega
  rw [this]
  simp [KK,eqK,kvC,c1A]
theorem find_es (l : LL) : ∀ (m : List (LL × LL)) (n : Nat),findA KK (kvC l) (esOf m) n = some ((fnd l m n).map fun p=>(p.1,.agg (kvC p.2)))
  | [],n=>rfl
  | p :: m,n=>by
    have ih:=find_es l m (n + 1)
    simp only [esOf,List.map_cons,findA,fnd]
    rw [if_pos (show (kvC p.1).length = (kvC l).length from rfl),kv_eq]
    by_cases h : l.idn = p.1.idn
    · simp [h]
    · simp only [decide_eq_false h,if_neg h]
      exact ih
theorem fnd_some {l : LL} : ∀ {m : List (LL × LL)} {n j : Nat} {v : LL},fnd l m n = some (j,v) → n ≤ j ∧ j - n < m.length ∧ (m.getD (j - n) (l,l)).1.idn = l.idn ∧ (m.getD (j - n) (l,l)).2 = v
  | [],n,j,v,h=>by simp [fnd] at h
  | p :: m,n,j,v,h=>by
    simp only [fnd] at h
    split at h
    · rename_i he
      injection h with h; injection h with h1 h2
      subst h1; subst h2
      simp [he]
    · obtain ⟨h1,h2,h3,h4⟩:=fnd_some h
      have e : j - n = (j - (n + 1)) + 1:=by omega
      rw [e]
      exact ⟨by omega,by simp; omega,by simpa using h3,by simpa using h4⟩
theorem fnd_none {l : LL} : ∀ {m : List (LL × LL)} {n : Nat},fnd l m n = none → ∀ p ∈ m,p.1.idn ≠ l.idn
  | [],n,_=>by simp
  | p :: m,n,h=>by
    simp only [fnd] at h
    split at h
    · cases h
    · rename_i he
      intro q hq
      rcases List.mem_cons.1 hq with rfl | hq
      · exact fun e=>he e.symm
      · exact fnd_none h q hq
structure CI (U : List LL) (R : LL → LL → Prop) (m : List (LL × LL)) : Prop where
  mem : ∀ p ∈ m,p.1 ∈ U ∧ p.2 ∈ U ∧ R p.1 p.2
  nodup : (m.map (·.1)).Nodup
  ord : ∀ (i j : Nat) (p q : LL × LL),m[i]? = some p → m[j]? = some q → i ≤ j → p.1 ≠ q.2
theorem CI.mono {U : List LL} {R R' : LL → LL → Prop} {m : List (LL × LL)} (h : CI U R m) (hr : ∀ x y,R x y → R' x y) : CI U R' m :=
  ⟨fun p hp=>⟨(h.mem p hp).1,(h.mem p hp).2.1,hr _ _ (h.mem p hp).2.2⟩,h.nodup,h.ord⟩
theorem CI.cut {U : List LL} {R : LL → LL → Prop} {m : List (LL × LL)} (h : CI U R m) {i j : Nat} {l up top : LL} (hi : m[i]? = some (l,up)) (hj : m[j]? = some (up,top)) (ht : ∀ x y z,R x y → R y z → R x z) :
    CI U R (m.set i (l,top)) ∧ (m.set i (l,top)).map (·.1) = m.map (·.1):=by
  have hil : i < m.length:=(List.getElem?_eq_some_iff.1 hi).1
  have hij : i < j:=by
    rcases Nat.lt_or_ge i j with h' | h'
    · exact h'
    · exact absurd rfl (h.ord j i _ _ hj hi h')
  have hm : (m.set i (l,top)).map (·.1) = m.map (·.1):=by
    rw [List.map_set]
    apply List.ext_getElem? 
    intro k
    by_cases hk : i = k
    · subst hk
      rw [List.getElem?_set_self (by simpa using hil),List.getElem?_map,hi]; rfl
    · rw [List.getElem?_set_ne hk]
  have m1:=h.mem _ (List.mem_of_getElem? hi)
  have m2:=h.mem _ (List.mem_of_getElem? hj)
  refine ⟨⟨fun p hp=>?_,by rw [hm]; exact h.nodup,fun a b p q ha hb hab=>?_⟩,hm⟩
  · rcases List.mem_or_eq_of_mem_set hp with hp | rfl
    · exact h.mem p hp
    · exact ⟨m1.1,m2.2.1,ht _ _ _ m1.2.2 m2.2.2⟩
  · have keys : ∀ (c : Nat) (r : LL × LL),(m.set i (l,top))[c]? = some r → ∃ s,m[c]? = some (r.1,s):=fun c r hc=>by
      by_cases hci : i = c
      · subst hci
        rw [List.getElem?_set_self hil] at hc
        cases hc
        exact ⟨up,hi⟩
      · rw [List.getElem?_set_ne hci] at hc
        exact ⟨r.2,hc⟩
    obtain ⟨s,hs⟩:=keys a p ha
    by_cases hbi : i = b
    · subst hbi
      rw [List.getElem?_set_self hil] at hb
      cases hb
      exact h.ord a j (p.1,s) (up,top) hs hj (by omega)
    · rw [List.getElem?_set_ne hbi] at hb
      exact h.ord a b (p.1,s) q hs hb hab
theorem CI.push {U : List LL} {R : LL → LL → Prop} {m : List (LL × LL)} (h : CI U R m) {x y : LL} (hx : x ∈ U) (hy : y ∈ U) (hr : R x y) (hnx : ∀ p ∈ m,p.1 ≠ x) (hny : ∀ p ∈ m,p.1 ≠ y) (hne : x ≠ y) : CI U R (m ++ [(x,y)]):=by
  refine ⟨fun p hp=>?_,?_,fun a b p q ha hb hab=>?_⟩
  · rcases List.mem_append.1 hp with hp | hp
    · exact h.mem p hp
    · obtain rfl:=List.mem_singleton.1 hp
      exact ⟨hx,hy,hr⟩
  · rw [List.map_append,List.nodup_append]
    refine ⟨h.nodup,by simp,fun a ha b hb=>?_⟩
    simp at hb
    obtain ⟨p,hp,rfl⟩:=List.mem_map.1 ha
    rw [hb]
    exact hnx p hp
  · rcases Nat.lt_or_ge b m.length with hbl | hbl
    · rw [List.getElem?_append_left hbl] at hb
      rw [List.getElem?_append_left (by omega)] at ha
      exact h.ord a b p q ha hb hab
    · have hb':=(List.getElem?_eq_some_iff.1 hb).1
      simp only [List.length_append,List.length_singleton] at hb'
      obtain rfl : b = m.length:=by omega
      simp at hb
      subst hb
      rcases Nat.lt_or_ge a m.length with hal | hal
      · rw [List.getElem?_append_left hal] at ha
        exact hny p (List.mem_of_getElem? ha)
      · obtain rfl : a = m.length:=by omega
        simp at ha
        subst ha
        exact hne
theorem es_closed (n : Nat) (m : List (LL × LL)) : boxClosed n (.mapb (esOf m)) = true:=by
  simp only [boxClosed,List.all_eq_true,esOf,List.mem_map]
  rintro e ⟨p,_,rfl⟩
  rfl
def posA (ks : List AV) (es : List (AV × AV)) : Nat :=
  match findA KK ks es 0 with
  | some (some (j,_))=>es.length - j
  | _=>0
def mu (a i : Nat) (A : List Box) : Nat :=
  match A.getD a .dead,A.getD i .dead with
  | .cells ks,.mapb es=>posA ks es
  | _,_=>0
theorem posA_es (x : LL) (m : List (LL × LL)) : posA (kvC x) (esOf m) = match fnd x m 0 with
    | some (j,_)=>m.length - j
    | none=>0:=by
  unfold posA
  rw [find_es]
  cases fnd x m 0 with
  | none=>rfl
  | some q=>simp [esOf]
theorem fnd_keys (x : LL) : ∀ {m m' : List (LL × LL)} (n : Nat),m.map (·.1) = m'.map (·.1) → (fnd x m n).map (·.1) = (fnd x m' n).map (·.1)
  | [],[],n,_=>rfl
  | [],_ :: _,n,h=>by simp at h
  | _ :: _,[],n,h=>by simp at h
  | p :: m,p' :: m',n,h=>by
    simp only [List.map_cons,List.cons.injEq] at h
    simp only [fnd,h.1]
    split
    · rfl
    · exact fnd_keys x (n + 1) h.2
theorem posA_keys (x : LL) {m m' : List (LL × LL)} (h : m.map (·.1) = m'.map (·.1)) : posA (kvC x) (esOf m) = posA (kvC x) (esOf m'):=by
  have hl : m.length = m'.length:=by have:=congrArg List.length h; simpa using this
  have hk:=fnd_keys x 0 h
  rw [posA_es,posA_es]
  cases h1 : fnd x m 0 with
  | none=>cases h2 : fnd x m' 0 with
    | none=>rfl
    | some b=>rw [h1,h2] at hk; simp at hk
  | some a=>cases h2 : fnd x m' 0 with
    | none=>rw [h1,h2] at hk; simp at hk
    | some b =>
      rw [h1,h2] at hk
      obtain ⟨a1,a2⟩:=a
      obtain ⟨b1,b2⟩:=b
      simp at hk
      subst hk
      simp only [hl]
set_option maxRecDepth 100000 in
theorem impl_find {U : List LL} (hU : Univ U) {R : LL → LL → Prop} (hR : ∀ x,R x x) (hRt : ∀ x y z,R x y → R y z → R x z) (m : List (LL × LL)) (hm : CI U R m) (l : LL) (hl : l ∈ U) (i : Nat) (A : List Box) (hi : i < A.length) (hA : A.getD i .dead = .mapb (esOf m)) :
    ACalls Try.prog 106 [.map i,.agg (kvC l)] A (fun r A'=>∃ x m',r = .agg (kvC x) ∧ x ∈ U ∧ R l x ∧ (∀ p ∈ m',p.1 ≠ x) ∧ CI U R m' ∧ m'.map (·.1) = m.map (·.1) ∧ A' = A.set i (.mapb (esOf m'))):=by
  have hgA : ∀ X (B : List Box),(A.set i X ++ B).getD i .dead = X:=fun X B=>by rw [getD_app1 _ _ _ _ (by simpa using hi),getD_set1 hi]
  have hset : A.set i (.mapb (esOf m)) = A:=by
    apply List.ext_getElem? 
    intro k
    by_cases hk : i = k
    · subst hk
      rw [List.getElem?_set_self hi]
      have : A[i]? = some A[i]:=List.getElem?_eq_getElem hi
      simp [List.getD,hi] at hA
      rw [this,hA]
    · rw [List.getElem?_set_ne hk]
  rw [kvC]
  refine acalls_enter (cf:=cf 29 [0,1,3,4,5,6,7,8,16,24]) foll Try.func106 Try.ntmps106 (by simp [cf]) ?_
  simp only [Try.f106,EnterK_some,zW,zX,zD,builtinA,isLeaf,const1,Nat.reduceAdd,Nat.reduceMul,Nat.reduceSub,Nat.reduceLT,Nat.reduceLeDiff,Nat.reduceEqDiff,Nat.reduceBEq,Nat.reduceBNe,reduceIte,reduceCtorEq,Int.reduceToNat,Int.reduceLT,Int.reduceLE,Int.reduceEq,Int.reduceNe,Int.reduceNeg,ustrA,ti85,ti181,mi85,cf,Try.results106]
  refine aloop_intro [0,3,4] (fun e A'=>∃ l' m' B,e = [(0,.map i),(3,.ptr A.length 0),(4,.ptr (A.length + 1) 0)] ∧ A' = A.set i (.mapb (esOf m')) ++ (.cells (kvC l') :: .cells [.nilp,.int .i64 0] :: B) ∧ l' ∈ U ∧ R l l' ∧ CI U R m' ∧ m'.map (·.1) = m.map (·.1)) (fun _ A'=>mu A.length i A') ?_ ?_
  · simp only [zW,zX,zD,builtinA,isLeaf,const1,Nat.reduceAdd,Nat.reduceMul,Nat.reduceSub,Nat.reduceLT,Nat.reduceLeDiff,Nat.reduceEqDiff,Nat.reduceBEq,Nat.reduceBNe,reduceIte,reduceCtorEq,Int.reduceToNat,Int.reduceLT,Int.reduceLE,Int.reduceEq,Int.reduceNe,Int.reduceNeg,ustrA,ti85,ti181,mi85,cf,Try.results106]
    exact ⟨l,m,[],by rw [hset]; rfl,hl,hR l,hm,rfl⟩
  · rintro e A' ⟨l',m',B,rfl,rfl,hl',hr',hm',hk'⟩
    have hmu : mu A.length i (A.set i (.mapb (esOf m')) ++ (.cells (kvC l') :: .cells [.nilp,.int .i64 0] :: B)) = posA (kvC l') (esOf m'):=by
      unfold mu
      rw [hgA,getD_sapp0]; rfl
    rw [hmu]
    have hf:=find_es l' m' 0
    rw [kvC] at hf ⊢
    cases hfl : fnd l' m' 0 with
    | none =>
      rw [hfl] at hf
      simp only [Option.map_none] at hf
      simp only [zW,zX,zD,builtinA,isLeaf,const1,Nat.reduceAdd,Nat.reduceMul,Nat.reduceSub,Nat.reduceLT,Nat.reduceLeDiff,Nat.reduceEqDiff,Nat.reduceBEq,Nat.reduceBNe,reduceIte,reduceCtorEq,Int.reduceToNat,Int.reduceLT,Int.reduceLE,Int.reduceEq,Int.reduceNe,Int.reduceNeg,ustrA,ti85,ti181,mi85,cf,Try.results106,hi,hf]
      refine ⟨outer_set A _ i _ (es_closed _ _),l',m',rfl,hl',hr',fun p hp e=>fnd_none hfl p hp (by rw [e]),hm',hk',rfl⟩
    | some q =>
      obtain ⟨j,up⟩:=q
      rw [hfl] at hf
      simp only [Option.map_some] at hf
      obtain ⟨_,hj,hj1,hj2⟩:=fnd_some hfl
      simp only [Nat.sub_zero] at hj hj1 hj2
      have hmj : m'[j]? = some (l',up):=by
        have e1 : m'[j]? = some m'[j]:=List.getElem?_eq_getElem hj
        have e2 : m'.getD j (l',l') = m'[j]:=by simp [List.getD,hj]
        rw [e2] at hj1 hj2
        have:=hU.inj _ (hm'.mem _ (List.getElem_mem hj)).1 _ hl' hj1
        rw [e1]
        congr 1
        exact Prod.ext this hj2
      have hup:=(hm'.mem _ (List.mem_of_getElem? hmj)).2
      have hru : R l up:=hRt _ _ _ hr' hup.2
      have hf2:=find_es up m' 0
      rw [kvC] at hf2
      rw [kvC] at hf
      have hpl : posA (kvC l') (esOf m') = m'.length - j:=by rw [posA_es,hfl]
      cases hfu : fnd up m' 0 with
      | none =>
        rw [hfu] at hf2
        simp only [Option.map_none] at hf2
        have hpu : posA (kvC up) (esOf m') = 0:=by rw [posA_es,hfu]
        simp only [zW,zX,zD,builtinA,isLeaf,const1,Nat.reduceAdd,Nat.reduceMul,Nat.reduceSub,Nat.reduceLT,Nat.reduceLeDiff,Nat.reduceEqDiff,Nat.reduceBEq,Nat.reduceBNe,reduceIte,reduceCtorEq,Int.reduceToNat,Int.reduceLT,Int.reduceLE,Int.reduceEq,Int.reduceNe,Int.reduceNeg,ustrA,ti85,ti181,mi85,cf,Try.results106,hi,hf,hf2,LoopK_eq]
        refine ⟨⟨up,m',B ++ [.cells (kvC up),.cells [.nilp,.int .i64 0]],rfl,hup.1,hru,hm',hk'⟩,?_⟩
        unfold mu
        rw [hgA,getD_sapp0]
        show posA (kvC up) (esOf m') < _
        rw [hpu]
        rw [kvC] at hpl
        rw [hpl]
        omega
      | some q2 =>
        obtain ⟨j2,top⟩:=q2
        rw [hfu] at hf2
        simp only [Option.map_some] at hf2
        rw [kvC] at hf2
        obtain ⟨_,hk,hk1,hk2⟩:=fnd_some hfu
        simp only [Nat.sub_zero] at hk hk1 hk2
        have hmk : m'[j2]? = some (up,top):=by
          have e1 : m'[j2]? = some m'[j2]:=List.getElem?_eq_getElem hk
          have e2 : m'.getD j2 (up,up) = m'[j2]:=by simp [List.getD,hk]
          rw [e2] at hk1 hk2
          have:=hU.inj _ (hm'.mem _ (List.getElem_mem hk)).1 _ hup.1 hk1
          rw [e1]
          congr 1
          exact Prod.ext this hk2
        have hjj : j < j2:=by
          rcases Nat.lt_or_ge j j2 with h' | h'
          · exact h'
          · exact absurd rfl (hm'.ord j2 j _ _ hmk hmj h')
        obtain ⟨c1,c2⟩:=hm'.cut hmj hmk hRt
        have hes : (esOf m').set j (.agg [.ivptr l'.b l'.off (encI l'.hd),.int .i64 (l'.ks.length : Nat)],.agg [.ivptr top.b top.off (encI top.hd),.int .i64 (top.ks.length : Nat)]) = esOf (m'.set j (l',top)):=by
          unfold esOf
          rw [List.map_set]
          rfl
        have hpu : posA (kvC up) (esOf (m'.set j (l',top))) = m'.length - j2:=by rw [posA_keys up c2,posA_es,hfu]
        simp only [zW,zX,zD,builtinA,isLeaf,const1,Nat.reduceAdd,Nat.reduceMul,Nat.reduceSub,Nat.reduceLT,Nat.reduceLeDiff,Nat.reduceEqDiff,Nat.reduceBEq,Nat.reduceBNe,reduceIte,reduceCtorEq,Int.reduceToNat,Int.reduceLT,Int.reduceLE,Int.reduceEq,Int.reduceNe,Int.reduceNeg,ustrA,ti85,ti181,mi85,cf,Try.results106,hi,hf,hf2,hes,LoopK_eq]
        refine ⟨⟨up,m'.set j (l',top),B ++ [.cells (kvC up),.cells (kvC top)],rfl,hup.1,hru,c1,c2.trans hk'⟩,?_⟩
        unfold mu
        rw [hgA,getD_sapp0]
        show posA (kvC up) (esOf (m'.set j (l',top))) < _
        rw [hpu]
        rw [kvC] at hpl
        rw [hpl]
        omega
def kidsV (t : IEx) : AV :=
  match below t with
  | none=>.slice []
  | some x=>.islice x.b x.off (encIs x.ks)
def hdX : IEx → Int × Int × List UInt8 × List UInt8
  | .mk k q m n _ _ _ _=>(k,q,m,n)
def argX : IEx → TT
  | .mk _ _ _ _ a _ _ _=>a
theorem encI_eq (t : IEx) : encI t = [.int .i64 (hdX t).1,.int .i64 (hdX t).2.1,.str (hdX t).2.2.1,.str (hdX t).2.2.2,.int .i64 (tNode (argX t)).1,.str (tNode (argX t)).2.1,.str (tNode (argX t)).2.2.1,tKids (argX t),kidsV t]:=by
  obtain ⟨k,q,m,n,a,b,o,ks⟩:=t
  cases ks <;> simp [encI,hdX,argX,kidsV,below,LL.ks,encIs]
set_option maxRecDepth 100000 in
theorem impl_join {U : List LL} (hU : Univ U) {R : LL → LL → Prop} (hR : ∀ x,R x x) (hRt : ∀ x y z,R x y → R y z → R x z) (hRs : ∀ x y,R x y → R y x) (m : List (LL × LL)) (hm : CI U R m) (x y : LL) (hx : x ∈ U) (hy : y ∈ U) (i : Nat) (A : List Box) (hi : i < A.length) (hA : A.getD i .dead = .mapb (esOf m)) :
    ACalls Try.prog 85 [.map i,.islice x.b x.off (encIs x.ks),.islice y.b y.off (encIs y.ks)] A (fun r A'=>∃ m',A' = A.set i (.mapb (esOf m')) ∧
      ((r = .bool false ∧ R x y ∧ CI U R m' ∧ m'.length = m.length) ∨ (r = .bool true ∧ m'.length = m.length + 1 ∧ ∀ R' : LL → LL → Prop,(∀ a b,R a b → R' a b) → (∀ a b,R' a b → R' b a) → (∀ a b c,R' a b → R' b c → R' a c) → R' x y → CI U R' m'))):=by
  have hgA : ∀ X (B : List Box),(A.set i X ++ B).getD i .dead = X:=fun X B=>by rw [getD_app1 _ _ _ _ (by simpa using hi),getD_set1 hi]
  have hxl : (encIs x.ks).length = x.ks.length:=encIs_length _
  have hyl : (encIs y.ks).length = y.ks.length:=encIs_length _
  have hx0 : decide (((x.ks.length : Nat) : Int) = 0) = false:=decide_eq_false (by simp [LL.ks]; omega)
  have hxg : (encIs x.ks).getD 0 [] = encI x.hd:=by simp [LL.ks,encIs]
  have hyg : (encIs y.ks).getD 0 [] = encI y.hd:=by simp [LL.ks,encIs]
  have hxp : 0 < x.ks.length:=by simp [LL.ks]
  have hyp : 0 < y.ks.length:=by simp [LL.ks]
  refine acalls_enter (cf:=cf 32 [0,1,2,6,7,8,11,28]) foll Try.func85 Try.ntmps85 (by simp [cf]) ?_
  simp only [Try.f85,EnterK_some,zW,zX,zD,builtinA,isLeaf,const1,Nat.reduceAdd,Nat.reduceMul,Nat.reduceSub,Nat.reduceLT,Nat.reduceLeDiff,Nat.reduceEqDiff,Nat.reduceBEq,Nat.reduceBNe,reduceIte,reduceCtorEq,Int.reduceToNat,Int.reduceLT,Int.reduceLE,Int.reduceEq,Int.reduceNe,Int.reduceNeg,ustrA,ti3,ti51,ti53,ti85,ti181,ca106,mi85,ks181,cf,Try.results85]
  simp only [zW,zX,zD,builtinA,isLeaf,const1,Nat.reduceAdd,Nat.reduceMul,Nat.reduceSub,Nat.reduceLT,Nat.reduceLeDiff,Nat.reduceEqDiff,Nat.reduceBEq,Nat.reduceBNe,reduceIte,reduceCtorEq,Int.reduceToNat,Int.reduceLT,Int.reduceLE,Int.reduceEq,Int.reduceNe,Int.reduceNeg,ustrA,ti3,ti51,ti53,ti85,ti181,ca106,mi85,ks181,cf,Try.results85,hxl,hyl,hx0,hxg,hyg,encI_length]
  refine ⟨by omega,?_⟩
  refine callK_intro (by simp only [zW,zX,zD,builtinA,isLeaf,const1,Nat.reduceAdd,Nat.reduceMul,Nat.reduceSub,Nat.reduceLT,Nat.reduceLeDiff,Nat.reduceEqDiff,Nat.reduceBEq,Nat.reduceBNe,reduceIte,reduceCtorEq,Int.reduceToNat,Int.reduceLT,Int.reduceLE,Int.reduceEq,Int.reduceNe,Int.reduceNeg,ustrA]; rfl) (impl_find hU hR hRt m hm x hx i _ hi hA) ?_ rfl
  rintro v A' ⟨x',m1,rfl,hx',hrx,hnx,hm1,hk1,rfl⟩
  rw [kvC]
  simp only [zW,zX,zD,builtinA,isLeaf,const1,Nat.reduceAdd,Nat.reduceMul,Nat.reduceSub,Nat.reduceLT,Nat.reduceLeDiff,Nat.reduceEqDiff,Nat.reduceBEq,Nat.reduceBNe,reduceIte,reduceCtorEq,Int.reduceToNat,Int.reduceLT,Int.reduceLE,Int.reduceEq,Int.reduceNe,Int.reduceNeg,ustrA,ti3,ti51,ti53,ti85,ti181,ca106,mi85,ks181,cf,Try.results85,hi,hxl,hyl,hx0,hxg,hyg,encI_length]
  refine ⟨by omega,?_⟩
  refine callK_intro (by simp only [zW,zX,zD,builtinA,isLeaf,const1,Nat.reduceAdd,Nat.reduceMul,Nat.reduceSub,Nat.reduceLT,Nat.reduceLeDiff,Nat.reduceEqDiff,Nat.reduceBEq,Nat.reduceBNe,reduceIte,reduceCtorEq,Int.reduceToNat,Int.reduceLT,Int.reduceLE,Int.reduceEq,Int.reduceNe,Int.reduceNeg,ustrA]; rfl) (impl_find hU hR hRt m1 hm1 y hy i _ (by simp; omega) (hgA _ _)) ?_ rfl
  rintro v A' ⟨y',m2,rfl,hy',hry,hny,hm2,hk2,rfl⟩
  have hnx2 : ∀ p ∈ m2,p.1 ≠ x':=fun p hp e=>by
    have : p.1 ∈ m2.map (·.1):=List.mem_map_of_mem hp
    rw [hk2] at this
    obtain ⟨q,hq,he⟩:=List.mem_map.1 this
    exact hnx q hq (he.trans e)
  have hlen : m2.length = m.length:=by
    have h1:=congrArg List.length hk1
    have h2:=congrArg List.length hk2
    simp at h1 h2
    omega
  rw [kvC]
  by_cases he : x' = y'
  · subst he
    simp only [zW,zX,zD,builtinA,isLeaf,const1,Nat.reduceAdd,Nat.reduceMul,Nat.reduceSub,Nat.reduceLT,Nat.reduceLeDiff,Nat.reduceEqDiff,Nat.reduceBEq,Nat.reduceBNe,reduceIte,reduceCtorEq,Int.reduceToNat,Int.reduceLT,Int.reduceLE,Int.reduceEq,Int.reduceNe,Int.reduceNeg,ustrA,ti3,ti51,ti53,ti85,ti181,ca106,mi85,ks181,cf,Try.results85,hi,hxl,hyl,encI_length]
    exact ⟨outer_set A _ i _ (es_closed _ _),m2,rfl,.inl ⟨hRt _ _ _ hrx (hRs _ _ hry),hm2,hlen⟩⟩
  · have hne : (decide (x'.b = y'.b ∧ x'.off = y'.off) && decide (((x'.ks.length : Nat) : Int) = ((y'.ks.length : Nat) : Int))) = false:=by
      rw [Bool.eq_false_iff]
      intro hh
      simp only [Bool.and_eq_true,decide_eq_true_eq] at hh
      refine he (hU.inj _ hx' _ hy' ?_)
      simp only [LL.idn,Prod.mk.injEq]
      exact ⟨hh.1.1,hh.1.2,by omega⟩
    have hfn : fnd x' m2 0 = none:=by
      cases hq : fnd x' m2 0 with
      | none=>rfl
      | some q =>
        obtain ⟨j,v⟩:=q
        obtain ⟨_,hj,hj1,_⟩:=fnd_some hq
        simp only [Nat.sub_zero] at hj hj1
        have e2 : m2.getD j (x',x') = m2[j]:=by simp [List.getD,hj]
        rw [e2] at hj1
        exact absurd (hU.inj _ (hm2.mem _ (List.getElem_mem hj)).1 _ hx' hj1) (hnx2 _ (List.getElem_mem hj))
    have hf:=find_es x' m2 0
    rw [hfn,kvC] at hf
    simp only [Option.map_none] at hf
    have hes : esOf m2 ++ [(.agg [.ivptr x'.b x'.off (encI x'.hd),.int .i64 (x'.ks.length : Nat)],.agg [.ivptr y'.b y'.off (encI y'.hd),.int .i64 (y'.ks.length : Nat)])] = esOf (m2 ++ [(x',y')]):=by
      simp [esOf,kvC]
    simp only [zW,zX,zD,builtinA,isLeaf,const1,Nat.reduceAdd,Nat.reduceMul,Nat.reduceSub,Nat.reduceLT,Nat.reduceLeDiff,Nat.reduceEqDiff,Nat.reduceBEq,Nat.reduceBNe,reduceIte,reduceCtorEq,Int.reduceToNat,Int.reduceLT,Int.reduceLE,Int.reduceEq,Int.reduceNe,Int.reduceNeg,ustrA,ti3,ti51,ti53,ti85,ti181,ca106,mi85,ks181,cf,Try.results85,hi,hxl,hyl,encI_length]
    rw [hne]
    simp only [zW,zX,zD,builtinA,isLeaf,const1,Nat.reduceAdd,Nat.reduceMul,Nat.reduceSub,Nat.reduceLT,Nat.reduceLeDiff,Nat.reduceEqDiff,Nat.reduceBEq,Nat.reduceBNe,reduceIte,reduceCtorEq,Int.reduceToNat,Int.reduceLT,Int.reduceLE,Int.reduceEq,Int.reduceNe,Int.reduceNeg,ustrA,ti3,ti51,ti53,ti85,ti181,ca106,mi85,ks181,cf,Try.results85,hi,hf,hes]
    refine ⟨outer_set A _ i _ (es_closed _ _),m2 ++ [(x',y')],rfl,.inr ⟨by simp [hlen],fun R' h1 h2 h3 h4=>?_⟩⟩
    exact (hm2.mono h1).push hx' hy' (h3 _ _ _ (h2 _ _ (h1 _ _ hrx)) (h3 _ _ _ h4 (h1 _ _ hry))) hnx2 hny he
end Go.Proofs.Ytijlnkfiadajhaa.SX
/- The program's comparison of expressions: what its parts do. -/
set_option linter.unusedVariables false
set_option linter.unusedSimpArgs false
namespace Go.Proofs.Ytijlnkfiadajhaa
open Go.Abs
abbrev tLL:=LL
abbrev tUniv (U : List tLL) : Prop:=Univ U
abbrev tBelow (a : TT):=below a
abbrev tEs (m : List (tLL × tLL)):=esOf m
abbrev tClS (U : List tLL) (m : List (tLL × tLL)) : Prop:=ClS U m
def tEnc (a : TT) : List AV:=[.int .i64 (tNode a).1,.str (tNode a).2.1,.str (tNode a).2.2.1,tKids a]
theorem tKids_frz (a : TT) (A : List Box) : frz1 (tKids a) A = some (tKids a,A):=frz1_kidsV a A
structure TU (U : List tLL) (a : TT) : Prop where
  mem : ∀ x,tBelow a = some x → x ∈ U
structure TUs (U : List tLL) : Prop where
  univ : tUniv U
  len : U.length ≤ 100000000
  lens : ∀ x ∈ U,x.ks.length ≤ 1000000000
theorem tSame {U : List tLL} (hU : TUs U) (a b : TT) (ha : TU U a) (hb : TU U b) (i : Nat) (m0 : List (tLL × tLL)) (h0 : tClS U m0) (A : List Box) (hi : i < A.length) (hA : A.getD i .dead = .mapb (tEs m0)) :
    ACalls Try.prog 49 [.agg [tF1,tF2,.map i],.agg (tEnc a),.agg (tEnc b)] A (fun r A'=>∃ m',A' = A.set i (.mapb (tEs m')) ∧ r = .bool (decide (tErase a = tErase b)) ∧ (tErase a = tErase b → tClS U m')):=by
  have h:=sameI hU.univ hU.len hU.lens a b ha.mem hb.mem i m0 h0 A hi hA
  rw [tEnc_eq,tEnc_eq] at h
  exact h
theorem t_set {A : List Box} {i : Nat} {X : Box} (h : A.getD i .dead = X) (hi : i < A.length) : A.set i X = A:=set_at h hi
theorem tEs_closed (n : Nat) (m : List (tLL × tLL)) : boxClosed n (.mapb (tEs m)) = true:=es_closed n m
end Go.Proofs.Ytijlnkfiadajhaa
namespace Go.Proofs.Ytijlnkfiadajhaa.SX
open Go.Abs
theorem encI_take (t : IEx) : List.take 9 (encI t) = encI t:=by rw [encI_eq]; rfl
theorem encI_drop (t : IEx) : List.drop 9 (encI t) = []:=by rw [encI_eq]; rfl
theorem frz1_kidsV (t : IEx) (A : List Box) : frz1 (kidsV t) A = some (kidsV t,A):=by
  unfold kidsV
  cases below t <;> rfl
theorem frzL_encI (t : IEx) (A : List Box) : frzL (encI t) A = some (encI t,A):=by
  rw [encI_eq]
  have h1:=tKids_frz (argX t) A
  have h2:=frz1_kidsV t A
  have e1 : ∀ (k : IntKind) (n : Int),frz1 (.int k n) A = some (.int k n,A):=fun _ _=>rfl
  have e2 : ∀ x,frz1 (.str x) A = some (.str x,A):=fun _=>rfl
  simp only [frzL,h1,h2,e1,e2]
theorem kids_cases (t : IEx) : (below t = none ∧ kidsV t = .slice [] ∧ (node t).2 = 0) ∨ ∃ x,below t = some x ∧ kidsV t = .islice x.b x.off (encIs x.ks) ∧ (node t).2 = x.ks.length:=by
  cases h : below t with
  | none =>
    obtain ⟨k,q,m,n,a,b,o,rfl⟩:=below_none h
    exact .inl ⟨rfl,by simp [kidsV,below],by simp [node]⟩
  | some x =>
    refine .inr ⟨x,rfl,by simp [kidsV,h],?_⟩
    obtain ⟨k,q,m,n,a,rfl⟩:=below_ks h
    rfl
def xF1 : AV:=.func (.func 81) [] []
def xF2 (bt : Nat) : AV:=.func (.func 82) [] [.ptr bt 0]
def lab (t : IEx) : Int × Int × List UInt8 × List UInt8 × Ty:=(node t).1
def klen (t : IEx) : Nat:=(node t).2
theorem node_iff (s t : IEx) : node s = node t ↔ lab s = lab t ∧ klen s = klen t:=by
  simp only [lab,klen,Prod.ext_iff]
theorem lab_eq (t : IEx) : lab t = ((hdX t).1,(hdX t).2.1,(hdX t).2.2.1,(hdX t).2.2.2,tErase (argX t)):=by
  obtain ⟨k,q,m,n,a,b,o,ks⟩:=t
  rfl
theorem lab_iff (s t : IEx) : lab s = lab t ↔ (hdX s).1 = (hdX t).1 ∧ (hdX s).2.1 = (hdX t).2.1 ∧ (hdX s).2.2.1 = (hdX t).2.2.1 ∧ (hdX s).2.2.2 = (hdX t).2.2.2 ∧ tErase (argX s) = tErase (argX t):=by
  rw [lab_eq,lab_eq]
  simp only [Prod.mk.injEq]
set_option maxRecDepth 100000 in
theorem tcI_kids (t : IEx) (A : List Box) : ACalls Try.prog 81 [.agg (encI t)] A (fun r A'=>r = kidsV t ∧ A' = A):=by
  rw [encI_eq]
  rcases kids_cases t with ⟨_,e1,n1⟩ | ⟨x,_,e1,n1⟩ <;> rw [e1]
  · refine acalls_enter (cf:=cf 5 [0,1,2]) foll Try.func81 Try.ntmps81 (by simp [cf]) ?_
    simp only [Try.f81,EnterK_some,zW,zX,zD,builtinA,isLeaf,const1,Nat.reduceAdd,Nat.reduceMul,Nat.reduceSub,Nat.reduceLT,Nat.reduceLeDiff,Nat.reduceEqDiff,Nat.reduceBEq,Nat.reduceBNe,reduceIte,reduceCtorEq,Int.reduceToNat,Int.reduceLT,Int.reduceLE,Int.reduceEq,Int.reduceNe,Int.reduceNeg,ustrA,ti51,ti53,cf,Try.results81]
  · refine acalls_enter (cf:=cf 5 [0,1,2]) foll Try.func81 Try.ntmps81 (by simp [cf]) ?_
    simp only [Try.f81,EnterK_some,zW,zX,zD,builtinA,isLeaf,const1,Nat.reduceAdd,Nat.reduceMul,Nat.reduceSub,Nat.reduceLT,Nat.reduceLeDiff,Nat.reduceEqDiff,Nat.reduceBEq,Nat.reduceBNe,reduceIte,reduceCtorEq,Int.reduceToNat,Int.reduceLT,Int.reduceLE,Int.reduceEq,Int.reduceNe,Int.reduceNeg,ustrA,ti51,ti53,cf,Try.results81]
set_option maxRecDepth 100000 in
theorem tcI_same {UT : List tLL} (hU : TUs UT) (s t : IEx) (hs : TU UT (argX s)) (ht : TU UT (argX t)) (bt it : Nat) (mt : List (tLL × tLL)) (hc : tClS UT mt) (A : List Box) (hb : bt < A.length) (hi : it < A.length) (hbt : A.getD bt .dead = .cells [tF1,tF2,.map it]) (hA : A.getD it .dead = .mapb (tEs mt)) :
    ACalls Try.prog 82 [.agg (encI s),.agg (encI t),.ptr bt 0] A (fun r A'=>∃ mt',A' = A.set it (.mapb (tEs mt')) ∧ r = .bool (decide (lab s = lab t)) ∧ (lab s = lab t → tClS UT mt')):=by
  have hli:=lab_iff s t
  have hset:=t_set hA hi
  have hno : ¬ lab s = lab t → ∀ (A' : List Box),A' = A → ∃ mt',A' = A.set it (.mapb (tEs mt')) ∧ AV.bool false = .bool (decide (lab s = lab t)) ∧ (lab s = lab t → tClS UT mt'):=fun h A' e=>⟨mt,by rw [hset]; exact e,by rw [decide_eq_false h],fun h'=>absurd h' h⟩
  rw [encI_eq,encI_eq]
  by_cases h1 : (hdX s).1 = (hdX t).1
  · by_cases h2 : (hdX s).2.1 = (hdX t).2.1
    · by_cases h3 : (hdX s).2.2.1 = (hdX t).2.2.1
      · by_cases h4 : (hdX s).2.2.2 = (hdX t).2.2.2
        · have hbt1 : ∀ L,(A ++ L).getD bt .dead = .cells [tF1,tF2,.map it]:=fun L=>by rw [Abs.getD_append_left hb]; exact hbt
          have hsm:=tSame hU (argX s) (argX t) hs ht it mt hc
          simp only [tEnc] at hsm
          refine acalls_enter (cf:=cf 40 [0,1,2,3,4,5]) foll Try.func82 Try.ntmps82 (by simp [cf]) ?_
          simp only [Try.f82,EnterK_some,zW,zX,zD,builtinA,isLeaf,const1,Nat.reduceAdd,Nat.reduceMul,Nat.reduceSub,Nat.reduceLT,Nat.reduceLeDiff,Nat.reduceEqDiff,Nat.reduceBEq,Nat.reduceBNe,reduceIte,reduceCtorEq,Int.reduceToNat,Int.reduceLT,Int.reduceLE,Int.reduceEq,Int.reduceNe,Int.reduceNeg,ustrA,ti3,ti9,ti50,ti53,ti78,ca49,cf,Try.results82]
          simp only [zW,zX,zD,builtinA,isLeaf,const1,Nat.reduceAdd,Nat.reduceMul,Nat.reduceSub,Nat.reduceLT,Nat.reduceLeDiff,Nat.reduceEqDiff,Nat.reduceBEq,Nat.reduceBNe,reduceIte,reduceCtorEq,Int.reduceToNat,Int.reduceLT,Int.reduceLE,Int.reduceEq,Int.reduceNe,Int.reduceNeg,ustrA,ti3,ti9,ti50,ti53,ti78,ca49,cf,Try.results82,decide_eq_true h1,decide_eq_true h2,decide_eq_true h3,decide_eq_true h4,hbt1]
          refine callO_intro (hsm _ (by simp; omega) (by rw [Abs.getD_append_left hi]; exact hA)) ?_
          rintro r A2 ⟨m',rfl,rfl,hcl⟩
          have hsa : ∀ X (L : List Box),(A ++ L).set it X = A.set it X ++ L:=fun X L=>List.set_append_left _ _ hi
          have hd : decide (tErase (argX s) = tErase (argX t)) = decide (lab s = lab t):=by
            rw [Bool.eq_iff_iff,decide_eq_true_eq,decide_eq_true_eq,hli]
            exact ⟨fun h=>⟨h1,h2,h3,h4,h⟩,fun h=>h.2.2.2.2⟩
          rw [hsa,hd]
          simp only [zW,zX,zD,builtinA,isLeaf,const1,Nat.reduceAdd,Nat.reduceMul,Nat.reduceSub,Nat.reduceLT,Nat.reduceLeDiff,Nat.reduceEqDiff,Nat.reduceBEq,Nat.reduceBNe,reduceIte,reduceCtorEq,Int.reduceToNat,Int.reduceLT,Int.reduceLE,Int.reduceEq,Int.reduceNe,Int.reduceNeg,ustrA,ti3,ti9,ti50,ti53,ti78,ca49,cf,Try.results82]
          exact ⟨outer_set A _ it _ (tEs_closed _ _),m',rfl,fun h=>hcl (hli.1 h).2.2.2.2⟩
        · have hn : ¬ lab s = lab t:=fun h=>h4 (hli.1 h).2.2.2.1
          refine acalls_enter (cf:=cf 40 [0,1,2,3,4,5]) foll Try.func82 Try.ntmps82 (by simp [cf]) ?_
          simp only [Try.f82,EnterK_some,zW,zX,zD,builtinA,isLeaf,const1,Nat.reduceAdd,Nat.reduceMul,Nat.reduceSub,Nat.reduceLT,Nat.reduceLeDiff,Nat.reduceEqDiff,Nat.reduceBEq,Nat.reduceBNe,reduceIte,reduceCtorEq,Int.reduceToNat,Int.reduceLT,Int.reduceLE,Int.reduceEq,Int.reduceNe,Int.reduceNeg,ustrA,ti3,ti9,ti50,ti53,ti78,ca49,cf,Try.results82]
          simp only [zW,zX,zD,builtinA,isLeaf,const1,Nat.reduceAdd,Nat.reduceMul,Nat.reduceSub,Nat.reduceLT,Nat.reduceLeDiff,Nat.reduceEqDiff,Nat.reduceBEq,Nat.reduceBNe,reduceIte,reduceCtorEq,Int.reduceToNat,Int.reduceLT,Int.reduceLE,Int.reduceEq,Int.reduceNe,Int.reduceNeg,ustrA,ti3,ti9,ti50,ti53,ti78,ca49,cf,Try.results82,decide_eq_true h1,decide_eq_true h2,decide_eq_true h3,decide_eq_false h4]
          exact hno hn _ rfl
      · have hn : ¬ lab s = lab t:=fun h=>h3 (hli.1 h).2.2.1
        refine acalls_enter (cf:=cf 40 [0,1,2,3,4,5]) foll Try.func82 Try.ntmps82 (by simp [cf]) ?_
        simp only [Try.f82,EnterK_some,zW,zX,zD,builtinA,isLeaf,const1,Nat.reduceAdd,Nat.reduceMul,Nat.reduceSub,Nat.reduceLT,Nat.reduceLeDiff,Nat.reduceEqDiff,Nat.reduceBEq,Nat.reduceBNe,reduceIte,reduceCtorEq,Int.reduceToNat,Int.reduceLT,Int.reduceLE,Int.reduceEq,Int.reduceNe,Int.reduceNeg,ustrA,ti3,ti9,ti50,ti53,ti78,ca49,cf,Try.results82]
        simp only [zW,zX,zD,builtinA,isLeaf,const1,Nat.reduceAdd,Nat.reduceMul,Nat.reduceSub,Nat.reduceLT,Nat.reduceLeDiff,Nat.reduceEqDiff,Nat.reduceBEq,Nat.reduceBNe,reduceIte,reduceCtorEq,Int.reduceToNat,Int.reduceLT,Int.reduceLE,Int.reduceEq,Int.reduceNe,Int.reduceNeg,ustrA,ti3,ti9,ti50,ti53,ti78,ca49,cf,Try.results82,decide_eq_true h1,decide_eq_true h2,decide_eq_false h3]
        exact hno hn _ rfl
    · have hn : ¬ lab s = lab t:=fun h=>h2 (hli.1 h).2.1
      refine acalls_enter (cf:=cf 40 [0,1,2,3,4,5]) foll Try.func82 Try.ntmps82 (by simp [cf]) ?_
      simp only [Try.f82,EnterK_some,zW,zX,zD,builtinA,isLeaf,const1,Nat.reduceAdd,Nat.reduceMul,Nat.reduceSub,Nat.reduceLT,Nat.reduceLeDiff,Nat.reduceEqDiff,Nat.reduceBEq,Nat.reduceBNe,reduceIte,reduceCtorEq,Int.reduceToNat,Int.reduceLT,Int.reduceLE,Int.reduceEq,Int.reduceNe,Int.reduceNeg,ustrA,ti3,ti9,ti50,ti53,ti78,ca49,cf,Try.results82]
      simp only [zW,zX,zD,builtinA,isLeaf,const1,Nat.reduceAdd,Nat.reduceMul,Nat.reduceSub,Nat.reduceLT,Nat.reduceLeDiff,Nat.reduceEqDiff,Nat.reduceBEq,Nat.reduceBNe,reduceIte,reduceCtorEq,Int.reduceToNat,Int.reduceLT,Int.reduceLE,Int.reduceEq,Int.reduceNe,Int.reduceNeg,ustrA,ti3,ti9,ti50,ti53,ti78,ca49,cf,Try.results82,decide_eq_true h1,decide_eq_false h2]
      exact hno hn _ rfl
  · have hn : ¬ lab s = lab t:=fun h=>h1 (hli.1 h).1
    refine acalls_enter (cf:=cf 40 [0,1,2,3,4,5]) foll Try.func82 Try.ntmps82 (by simp [cf]) ?_
    simp only [Try.f82,EnterK_some,zW,zX,zD,builtinA,isLeaf,const1,Nat.reduceAdd,Nat.reduceMul,Nat.reduceSub,Nat.reduceLT,Nat.reduceLeDiff,Nat.reduceEqDiff,Nat.reduceBEq,Nat.reduceBNe,reduceIte,reduceCtorEq,Int.reduceToNat,Int.reduceLT,Int.reduceLE,Int.reduceEq,Int.reduceNe,Int.reduceNeg,ustrA,ti3,ti9,ti50,ti53,ti78,ca49,cf,Try.results82]
    simp only [zW,zX,zD,builtinA,isLeaf,const1,Nat.reduceAdd,Nat.reduceMul,Nat.reduceSub,Nat.reduceLT,Nat.reduceLeDiff,Nat.reduceEqDiff,Nat.reduceBEq,Nat.reduceBNe,reduceIte,reduceCtorEq,Int.reduceToNat,Int.reduceLT,Int.reduceLE,Int.reduceEq,Int.reduceNe,Int.reduceNeg,ustrA,ti3,ti9,ti50,ti53,ti78,ca49,cf,Try.results82,decide_eq_false h1]
    exact hno hn _ rfl
set_option maxRecDepth 100000 in
theorem impl_join0 (i : Nat) (A : List Box) : ACalls Try.prog 85 [.map i,.slice [],.slice []] A (fun r A'=>r = .bool false ∧ A' = A):=by
  have h0 : decide (((0 : Nat) : Int) = 0) = true:=rfl
  refine acalls_enter (cf:=cf 32 [0,1,2,6,7,8,11,28]) foll Try.func85 Try.ntmps85 (by simp [cf]) ?_
  simp only [Try.f85,EnterK_some,zW,zX,zD,builtinA,isLeaf,const1,Nat.reduceAdd,Nat.reduceMul,Nat.reduceSub,Nat.reduceLT,Nat.reduceLeDiff,Nat.reduceEqDiff,Nat.reduceBEq,Nat.reduceBNe,reduceIte,reduceCtorEq,Int.reduceToNat,Int.reduceLT,Int.reduceLE,Int.reduceEq,Int.reduceNe,Int.reduceNeg,ustrA,ti3,ti51,ti53,ti85,ti181,ca106,mi85,ks181,cf,Try.results85]
  try simp only [zW,zX,zD,builtinA,isLeaf,const1,Nat.reduceAdd,Nat.reduceMul,Nat.reduceSub,Nat.reduceLT,Nat.reduceLeDiff,Nat.reduceEqDiff,Nat.reduceBEq,Nat.reduceBNe,reduceIte,reduceCtorEq,Int.reduceToNat,Int.reduceLT,Int.reduceLE,Int.reduceEq,Int.reduceNe,Int.reduceNeg,ustrA,ti3,ti51,ti53,ti85,ti181,ca106,mi85,ks181,cf,Try.results85,h0]
inductive WI where
  | ini
  | pr (x y : LL)
def WI.l1 (a0 : IEx) : WI → List IEx
  | .ini=>[a0]
  | .pr x _=>x.ks
def WI.l2 (b0 : IEx) : WI → List IEx
  | .ini=>[b0]
  | .pr _ y=>y.ks
def WI.row (a0 b0 : IEx) : WI → List AV
  | .ini=>[.slice (encIs [a0]),.slice (encIs [b0])]
  | .pr x y=>[.islice x.b x.off (encIs x.ks),.islice y.b y.off (encIs y.ks)]
structure SI (U : List LL) (a0 b0 : IEx) (m J : List (LL × LL)) (W : List WI) (cur : Option WI) : Prop where
  ci : CI U (Eqv J) m
  js : ∀ p ∈ J,Bis (Eqv J) p.1 p.2 ∨ WI.pr p.1 p.2 ∈ W ∨ cur = some (.pr p.1 p.2)
  ini : Near (Eqv J) a0 b0 ∨ WI.ini ∈ W ∨ cur = some .ini
  ws : ∀ x y,(WI.pr x y ∈ W ∨ cur = some (.pr x y)) → x ∈ U ∧ y ∈ U ∧ x.ks.length = y.ks.length
  er : erase a0 = erase b0 → ∀ w,(w ∈ W ∨ cur = some w) → erases (w.l1 a0) = erases (w.l2 b0)
theorem Near.mono {R R' : LL → LL → Prop} (h : ∀ x y,R x y → R' x y) {s t : IEx} (k : Near R s t) : Near R' s t :=
  ⟨k.1,k.2.imp id fun ⟨x,y,a,b,c⟩=>⟨x,y,a,b,h _ _ c⟩⟩
theorem Bis.mono {R R' : LL → LL → Prop} (h : ∀ x y,R x y → R' x y) {x y : LL} (k : Bis R x y) : Bis R' x y :=
  ⟨k.1,fun i hi=>(k.2 i hi).mono h⟩
theorem SI.pop {U : List LL} {a0 b0 : IEx} {m J : List (LL × LL)} {W : List WI} {w : WI} (h : SI U a0 b0 m J (W ++ [w]) none) : SI U a0 b0 m J W (some w):=by
  refine ⟨h.ci,fun p hp=>?_,?_,fun x y hw=>h.ws x y (.inl ?_),fun he v hv=>h.er he v (.inl ?_)⟩
  · rcases h.js p hp with h | h | h
    · exact .inl h
    · rcases List.mem_append.1 h with h | h
      · exact .inr (.inl h)
      · exact .inr (.inr (by rw [List.mem_singleton.1 h]))
    · cases h
  · rcases h.ini with h | h | h
    · exact .inl h
    · rcases List.mem_append.1 h with h | h
      · exact .inr (.inl h)
      · exact .inr (.inr (by rw [List.mem_singleton.1 h]))
    · cases h
  · rcases hw with hw | hw
    · exact List.mem_append_left _ hw
    · cases hw; simp
  · rcases hv with hv | hv
    · exact List.mem_append_left _ hv
    · cases hv; simp
theorem SI.done {U : List LL} {a0 b0 : IEx} {m J : List (LL × LL)} {W : List WI} {w : WI} (h : SI U a0 b0 m J W (some w)) (hl : (w.l1 a0).length = (w.l2 b0).length)
    (hn : ∀ i,i < (w.l1 a0).length → Near (Eqv J) ((w.l1 a0).getD i it0) ((w.l2 b0).getD i it0)) : SI U a0 b0 m J W none:=by
  refine ⟨h.ci,fun p hp=>?_,?_,fun x y hw=>?_,fun he v hv=>?_⟩
  · rcases h.js p hp with h | h | h
    · exact .inl h
    · exact .inr (.inl h)
    · cases h
      exact .inl ⟨hl,hn⟩
  · rcases h.ini with h | h | h
    · exact .inl h
    · exact .inr (.inl h)
    · cases h
      exact .inl (by simpa [WI.l1,WI.l2] using hn 0 (by simp [WI.l1]))
  · rcases hw with hw | hw
    · exact h.ws x y (.inl hw)
    · cases hw
  · rcases hv with hv | hv
    · exact h.er he v (.inl hv)
    · cases hv
theorem SI.same {U : List LL} {a0 b0 : IEx} {m m' J : List (LL × LL)} {W : List WI} {c : Option WI} (h : SI U a0 b0 m J W c) (hc : CI U (Eqv J) m') : SI U a0 b0 m' J W c :=
  ⟨hc,h.js,h.ini,h.ws,h.er⟩
theorem eqv_more {J : List (LL × LL)} (q : LL × LL) : ∀ x y,Eqv J x y → Eqv (q :: J) x y:=fun x y h=>h.mono fun p hp=>List.mem_cons_of_mem _ hp
theorem SI.more {U : List LL} {a0 b0 : IEx} {m m' J : List (LL × LL)} {W : List WI} {c : Option WI} (h : SI U a0 b0 m J W c) {x y : LL} (hx : x ∈ U) (hy : y ∈ U) (hl : x.ks.length = y.ks.length) (hc : CI U (Eqv ((x,y) :: J)) m')
    (he : erase a0 = erase b0 → erases x.ks = erases y.ks) : SI U a0 b0 m' ((x,y) :: J) (W ++ [.pr x y]) c:=by
  refine ⟨hc,fun p hp=>?_,?_,fun u v hw=>?_,fun hh v hv=>?_⟩
  · rcases List.mem_cons.1 hp with rfl | hp
    · exact .inr (.inl (by simp))
    · rcases h.js p hp with h | h | h
      · exact .inl (h.mono (eqv_more _))
      · exact .inr (.inl (List.mem_append_left _ h))
      · exact .inr (.inr h)
  · rcases h.ini with h | h | h
    · exact .inl (h.mono (eqv_more _))
    · exact .inr (.inl (List.mem_append_left _ h))
    · exact .inr (.inr h)
  · rcases hw with hw | hw
    · rcases List.mem_append.1 hw with hw | hw
      · exact h.ws u v (.inl hw)
      · have:=List.mem_singleton.1 hw
        cases this
        exact ⟨hx,hy,hl⟩
    · exact h.ws u v (.inr hw)
  · rcases hv with hv | hv
    · rcases List.mem_append.1 hv with hv | hv
      · exact h.er hh v (.inl hv)
      · have:=List.mem_singleton.1 hv
        subst this
        exact he hh
    · exact h.er hh v (.inr hv)
theorem SI.fin {U : List LL} {a0 b0 : IEx} {m J : List (LL × LL)} (h : SI U a0 b0 m J [] none) : erase a0 = erase b0:=by
  have hj : ∀ p ∈ J,Bis (Eqv J) p.1 p.2:=fun p hp=>by
    rcases h.js p hp with h | h | h
    · exact h
    · simp at h
    · cases h
  have hi : Near (Eqv J) a0 b0:=by
    rcases h.ini with h | h | h
    · exact h
    · simp at h
    · cases h
  exact near_erase hi fun x y _ _ hr=>same_all hj _ x y (Nat.le_refl _) hr
theorem erases_at {l l' : List IEx} (h : erases l = erases l') (i : Nat) : erase (l.getD i it0) = erase (l'.getD i it0):=by
  rw [erases_map,erases_map] at h
  have hl : l.length = l'.length:=by have:=congrArg List.length h; simpa using this
  rcases Nat.lt_or_ge i l.length with hi | hi
  · have:=congrArg (fun z=>z.getD i (erase it0)) h
    simpa [List.getD,hi,show i < l'.length by omega] using this
  · simp [List.getD,Nat.not_lt.2 hi,show ¬ i < l'.length by omega]
theorem erase_node {s t : IEx} (h : erase s = erase t) : node s = node t:=by
  obtain ⟨k,q,m,n,a,b,o,ks⟩:=s
  obtain ⟨k',q',m',n',a',b',o',ks'⟩:=t
  rw [erase,erase] at h
  injection h with h1 h2 h3 h4 h5 h6
  have : ks.length = ks'.length:=by
    rw [erases_map,erases_map] at h6
    have:=congrArg List.length h6
    simpa using this
  simp [node,h1,h2,h3,h4,h5,this]
theorem erase_kids {s t : IEx} {x y : LL} (h : erase s = erase t) (hx : below s = some x) (hy : below t = some y) : erases x.ks = erases y.ks:=by
  obtain ⟨k,q,m,n,a,rfl⟩:=below_ks hx
  obtain ⟨k',q',m',n',a',rfl⟩:=below_ks hy
  rw [erase,erase] at h
  injection h
theorem CI.le {U : List LL} {R : LL → LL → Prop} {m : List (LL × LL)} (h : CI U R m) : m.length ≤ U.length:=by
  haveI : DecidableEq LL:=fun a b=>Classical.propDecidable (a = b)
  have:=nodup_le (m.map (·.1)) U h.nodup fun x hx=>by
    obtain ⟨p,hp,rfl⟩:=List.mem_map.1 hx
    exact (h.mem p hp).1
  simpa using this
def ClS (U : List LL) (m : List (LL × LL)) : Prop:=∃ J,CI U (Eqv J) m ∧ ∀ p ∈ J,Bis (Eqv J) p.1 p.2
theorem SI.cls {U : List LL} {a0 b0 : IEx} {m J : List (LL × LL)} (h : SI U a0 b0 m J [] none) : ClS U m:=⟨J,h.ci,fun p hp=>by
  rcases h.js p hp with h | h | h
  · exact h
  · simp at h
  · cases h⟩
theorem ClS.le {U : List LL} {m : List (LL × LL)} (h : ClS U m) : m.length ≤ U.length:=by obtain ⟨J,h,_⟩:=h; exact h.le
def esLen (N a : Nat) (A : List Box) : Nat :=
  match A.getD a .dead with
  | .mapb es=>N - es.length
  | _=>0
def rowLen (A : List Box) : AV → Nat
  | .own q=>match A.getD q .dead with
    | .row _ rows _=>rows.length
    | _=>0
  | _=>0
def muI (n : Nat) (e : Env) : Nat :=
  match Abs.look 36 e with
  | .int _ i=>n - i.toNat
  | _=>0
def muT (N a : Nat) (e : Env) (A : List Box) : Nat:=2 * esLen N a A + rowLen A (Abs.look 7 e)
end Go.Proofs.Ytijlnkfiadajhaa.SX
