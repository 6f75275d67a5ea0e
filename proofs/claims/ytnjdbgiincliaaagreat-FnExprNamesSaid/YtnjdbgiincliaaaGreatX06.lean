/- SameM. -/
import Derived.Test.YtnjdbgiincliaaaGreatX05
import Derived.Test.YtnjdbgiincliaaaGreatAbsW3
/- The program's comparison of types, with what is known of earlier ones. -/
set_option linter.unusedVariables false
set_option linter.unusedSimpArgs false
namespace Go.Proofs.YtnjdbgiincliaaaGreat
open Go.Abs
inductive ITy where
  | mk (k : Int) (m n : List UInt8) (b off : Nat) (kids : List ITy)
theorem ITy.ind {M : ITy → Prop} (h : ∀ k m n b o ks,(∀ t ∈ ks,M t) → M (.mk k m n b o ks)) : ∀ t,M t
  | .mk k m n b o ks=>h k m n b o ks fun t ht=>ITy.ind h t
termination_by t=>SizeOf.sizeOf t
decreasing_by
  have:=List.sizeOf_lt_of_mem ht
  simp only [ITy.mk.sizeOf_spec]
  omega
mutual
def encI : ITy → List AV
  | .mk k m n b o []=>[.int .i64 k,.str m,.str n,.slice []]
  | .mk k m n b o (t :: ks)=>[.int .i64 k,.str m,.str n,.islice b o (encI t :: encIs ks)]
def encIs : List ITy → List (List AV)
  | []=>[]
  | t :: l=>encI t :: encIs l
end
mutual
def erase : ITy → Ty
  | .mk k m n _ _ ks=>.mk k m n (erases ks)
def erases : List ITy → List Ty
  | []=>[]
  | t :: l=>erase t :: erases l
end
mutual
def isz : ITy → Nat
  | .mk _ _ _ _ _ ks=>1 + iszs ks
def iszs : List ITy → Nat
  | []=>0
  | t :: l=>isz t + iszs l
end
theorem encIs_map : ∀ l,encIs l = l.map encI
  | []=>rfl
  | t :: l=>by rw [encIs,encIs_map l]; rfl
theorem encIs_length (l : List ITy) : (encIs l).length = l.length:=by rw [encIs_map]; simp
theorem erases_map : ∀ l,erases l = l.map erase
  | []=>rfl
  | t :: l=>by rw [erases,erases_map l]; rfl
def it0 : ITy:=.mk 0 [] [] 0 0 []
theorem encIs_getD {l : List ITy} {i : Nat} (h : i < l.length) : (encIs l).getD i [] = encI (l.getD i it0):=by
  rw [encIs_map]; simp [List.getD,h]
theorem encI_length (t : ITy) : (encI t).length = 4:=by
  obtain ⟨k,m,n,b,o,ks⟩:=t
  cases ks <;> rw [encI] <;> rfl
theorem encI_leaf (t : ITy) : ∀ v ∈ encI t,isLeaf v = true:=by
  obtain ⟨k,m,n,b,o,ks⟩:=t
  cases ks <;> rw [encI] <;> simp [isLeaf]
theorem iszs_mem {t : ITy} {l : List ITy} (h : t ∈ l) : isz t ≤ iszs l:=by
  induction l with
  | nil=>simp at h
  | cons u l ih =>
    rw [iszs]
    rcases List.mem_cons.1 h with rfl | h
    · omega
    · have:=ih h; omega
structure LL where
  b : Nat
  off : Nat
  hd : ITy
  tl : List ITy
def LL.ks (x : LL) : List ITy:=x.hd :: x.tl
def LL.idn (x : LL) : Nat × Nat × Nat:=(x.b,x.off,x.ks.length)
def LL.sz (x : LL) : Nat:=iszs x.ks
def below : ITy → Option LL
  | .mk _ _ _ _ _ []=>none
  | .mk _ _ _ b o (t :: ks)=>some ⟨b,o,t,ks⟩
def node : ITy → Int × List UInt8 × List UInt8 × Nat
  | .mk k m n _ _ ks=>(k,m,n,ks.length)
structure Univ (U : List LL) : Prop where
  inj : ∀ x ∈ U,∀ y ∈ U,x.idn = y.idn → x = y
  down : ∀ x ∈ U,∀ t ∈ x.ks,∀ y,below t = some y → y ∈ U
inductive Eqv (J : List (LL × LL)) : LL → LL → Prop
  | base {x y : LL} : (x,y) ∈ J → Eqv J x y
  | refl (x : LL) : Eqv J x x
  | symm {x y : LL} : Eqv J x y → Eqv J y x
  | trans {x y z : LL} : Eqv J x y → Eqv J y z → Eqv J x z
theorem Eqv.mono {J J' : List (LL × LL)} (hs : ∀ p ∈ J,p ∈ J') {x y : LL} (h : Eqv J x y) : Eqv J' x y:=by
  induction h with
  | base h=>exact .base (hs _ h)
  | refl x=>exact .refl x
  | symm _ ih=>exact .symm ih
  | trans _ _ ih1 ih2=>exact .trans ih1 ih2
def Near (R : LL → LL → Prop) (s t : ITy) : Prop :=
  node s = node t ∧ ((below s = none ∧ below t = none) ∨ ∃ x y,below s = some x ∧ below t = some y ∧ R x y)
def Bis (R : LL → LL → Prop) (x y : LL) : Prop:=x.ks.length = y.ks.length ∧ ∀ i,i < x.ks.length → Near R (x.ks.getD i it0) (y.ks.getD i it0)
theorem Near.refl {R : LL → LL → Prop} (hr : ∀ x,R x x) (s : ITy) : Near R s s:=by
  refine ⟨rfl,?_⟩
  cases h : below s with
  | none=>exact .inl ⟨rfl,rfl⟩
  | some x=>exact .inr ⟨x,x,rfl,rfl,hr x⟩
theorem Near.symm {R : LL → LL → Prop} (hs : ∀ x y,R x y → R y x) {s t : ITy} (h : Near R s t) : Near R t s:=by
  refine ⟨h.1.symm,?_⟩
  rcases h.2 with ⟨h1,h2⟩ | ⟨x,y,h1,h2,h3⟩
  · exact .inl ⟨h2,h1⟩
  · exact .inr ⟨y,x,h2,h1,hs _ _ h3⟩
theorem Near.trans {R : LL → LL → Prop} (ht : ∀ x y z,R x y → R y z → R x z) {s t u : ITy} (h : Near R s t) (k : Near R t u) : Near R s u:=by
  refine ⟨h.1.trans k.1,?_⟩
  rcases h.2 with ⟨h1,h2⟩ | ⟨x,y,h1,h2,h3⟩
  · rcases k.2 with ⟨k1,k2⟩ | ⟨x',y',k1,k2,k3⟩
    · exact .inl ⟨h1,k2⟩
    · rw [h2] at k1; cases k1
  · rcases k.2 with ⟨k1,k2⟩ | ⟨x',y',k1,k2,k3⟩
    · rw [h2] at k1; cases k1
    · rw [h2] at k1; cases k1
      exact .inr ⟨x,y',h1,k2,ht _ _ _ h3 k3⟩
theorem bis_all {J : List (LL × LL)} (hj : ∀ p ∈ J,Bis (Eqv J) p.1 p.2) {x y : LL} (h : Eqv J x y) : Bis (Eqv J) x y:=by
  induction h with
  | base h=>exact hj _ h
  | refl x=>exact ⟨rfl,fun i _=>Near.refl (fun x=>.refl x) _⟩
  | symm _ ih=>exact ⟨ih.1.symm,fun i hi=>(ih.2 i (by rw [ih.1]; exact hi)).symm fun _ _ h=>.symm h⟩
  | trans _ _ ih1 ih2=>exact ⟨ih1.1.trans ih2.1,fun i hi=>(ih1.2 i hi).trans (fun _ _ _ h k=>.trans h k) (ih2.2 i (by rw [← ih1.1]; exact hi))⟩
theorem below_ks {t : ITy} {x : LL} (h : below t = some x) : ∃ k m n,t = .mk k m n x.b x.off x.ks:=by
  obtain ⟨k,m,n,b,o,ks⟩:=t
  cases ks with
  | nil=>simp [below] at h
  | cons t ks=>simp [below] at h; subst h; exact ⟨k,m,n,rfl⟩
theorem below_none {t : ITy} (h : below t = none) : ∃ k m n b o,t = .mk k m n b o []:=by
  obtain ⟨k,m,n,b,o,ks⟩:=t
  cases ks with
  | nil=>exact ⟨k,m,n,b,o,rfl⟩
  | cons t ks=>simp [below] at h
theorem erases_ext {l l' : List ITy} (hl : l.length = l'.length) (h : ∀ i,i < l.length → erase (l.getD i it0) = erase (l'.getD i it0)) : erases l = erases l':=by
  induction l generalizing l' with
  | nil=>cases l' with
    | nil=>rfl
    | cons=>simp at hl
  | cons t l ih=>cases l' with
    | nil=>simp at hl
    | cons t' l' =>
      rw [erases,erases]
      have h0:=h 0 (by simp)
      simp only [List.getD_cons_zero] at h0
      rw [h0,ih (by simpa using hl) fun i hi=>by have:=h (i + 1) (by simpa using hi); simpa using this]
theorem near_erase {R : LL → LL → Prop} {s t : ITy} (h : Near R s t) (hr : ∀ x y,below s = some x → below t = some y → R x y → erases x.ks = erases y.ks) : erase s = erase t:=by
  obtain ⟨h1,h2⟩:=h
  rcases h2 with ⟨a,b⟩ | ⟨x,y,a,b,c⟩
  · obtain ⟨k,m,n,b1,o1,rfl⟩:=below_none a
    obtain ⟨k',m',n',b2,o2,rfl⟩:=below_none b
    simp only [node,Prod.mk.injEq] at h1
    obtain ⟨rfl,rfl,rfl,_⟩:=h1
    rw [erase,erase]
  · have he:=hr x y a b c
    obtain ⟨k,m,n,rfl⟩:=below_ks a
    obtain ⟨k',m',n',rfl⟩:=below_ks b
    simp only [node,Prod.mk.injEq] at h1
    obtain ⟨rfl,rfl,rfl,_⟩:=h1
    rw [erase,erase,he]
theorem same_all {J : List (LL × LL)} (hj : ∀ p ∈ J,Bis (Eqv J) p.1 p.2) : ∀ (n : Nat) (x y : LL),x.sz ≤ n → Eqv J x y → erases x.ks = erases y.ks:=by
  intro n
  induction n with
  | zero =>
    intro x y hn
    exfalso
    have : 1 ≤ x.sz:=by
      unfold LL.sz LL.ks
      rw [iszs]
      obtain ⟨k,m,n,b,o,ks⟩:=x.hd
      rw [isz]; omega
    omega
  | succ n ih =>
    intro x y hn h
    obtain ⟨h1,h2⟩:=bis_all hj h
    refine erases_ext h1 fun i hi=>near_erase (h2 i hi) fun u v hu hv hr=>ih u v ?_ hr
    have hm : x.ks.getD i it0 ∈ x.ks:=Abs.getD_mem hi
    have:=iszs_mem hm
    obtain ⟨k,m,nn,he⟩:=below_ks hu
    rw [he,isz] at this
    unfold LL.sz at hn ⊢
    omega
theorem nodup_le {α : Type} [DecidableEq α] : ∀ (l U : List α),l.Nodup → (∀ x ∈ l,x ∈ U) → l.length ≤ U.length
  | [],U,_,_=>by simp
  | x :: l,U,hn,hs=>by
    have hx:=hs x (by simp)
    obtain ⟨h1,h2⟩:=List.nodup_cons.1 hn
    have:=nodup_le l (U.erase x) h2 fun y hy=>by
      have hne : y ≠ x:=fun e=>h1 (e ▸ hy)
      exact (List.mem_erase_of_ne hne).2 (hs y (by simp [hy]))
    rw [List.length_erase_of_mem hx] at this
    have : 0 < U.length:=List.length_pos_of_mem hx
    simp only [List.length_cons]
    omega
end Go.Proofs.YtnjdbgiincliaaaGreat
namespace Go.Proofs.YtnjdbgiincliaaaGreat
open Go.Abs
def kvC (x : LL) : List AV:=[.ivptr x.b x.off (encI x.hd),.int .i64 (x.ks.length : Nat)]
def esOf (m : List (LL × LL)) : List (AV × AV):=m.map fun p=>(.agg (kvC p.1),.agg (kvC p.2))
abbrev KK : List (Nat × TK):=[(0,.ptr 36),(1,.int .i64)]
def fnd (l : LL) : List (LL × LL) → Nat → Option (Nat × LL)
  | [],_=>none
  | p :: m,i=>if l.idn = p.1.idn then some (i,p.2) else fnd l m (i + 1)
theorem kv_eq (x y : LL) : eqK KK (kvC x) (kvC y) = some (decide (x.idn = y.idn)):=by
  have : decide (x.idn = y.idn) = (decide (x.b = y.b ∧ x.off = y.off) && (decide (((x.ks.length : Nat) : Int) = ((y.ks.length : Nat) : Int)) && true)):=by
    rw [Bool.eq_iff_iff]
    simp [LL.idn,Prod.mk.injEq]
    omega
  rw [this]
  simp [KK,eqK,kvC,c1A]
theorem find_es (l : LL) : ∀ (m : List (LL × LL)) (n : Nat),findA KK (kvC l) (esOf m) n = some ((fnd l m n).map fun p=>(p.1,.agg (kvC p.2)))
  | [],n=>rfl
  | p :: m,n=>by
    have ih:=find_es l m (n + 1)
    simp only [esOf,List.map_cons,findA,fnd]
    rw [if_pos (show (kvC p.1).length = (kvC l).length from rfl),kv_eq]
    by_cases h : l.idn = p.1.idn
    · simp [h]
    · simp only [decide_eq_false h,if_neg h]
      exact ih
theorem fnd_some {l : LL} : ∀ {m : List (LL × LL)} {n j : Nat} {v : LL},fnd l m n = some (j,v) → n ≤ j ∧ j - n < m.length ∧ (m.getD (j - n) (l,l)).1.idn = l.idn ∧ (m.getD (j - n) (l,l)).2 = v
  | [],n,j,v,h=>by simp [fnd] at h
  | p :: m,n,j,v,h=>by
    simp only [fnd] at h
    split at h
    · rename_i he
      injection h with h; injection h with h1 h2
      subst h1; subst h2
      simp [he]
    · obtain ⟨h1,h2,h3,h4⟩:=fnd_some h
      have e : j - n = (j - (n + 1)) + 1:=by omega
      rw [e]
      exact ⟨by omega,by simp; omega,by simpa using h3,by simpa using h4⟩
theorem fnd_none {l : LL} : ∀ {m : List (LL × LL)} {n : Nat},fnd l m n = none → ∀ p ∈ m,p.1.idn ≠ l.idn
  | [],n,_=>by simp
  | p :: m,n,h=>by
    simp only [fnd] at h
    split at h
    · cases h
    · rename_i he
      intro q hq
      rcases List.mem_cons.1 hq with rfl | hq
      · exact fun e=>he e.symm
      · exact fnd_none h q hq
structure CI (U : List LL) (R : LL → LL → Prop) (m : List (LL × LL)) : Prop where
  mem : ∀ p ∈ m,p.1 ∈ U ∧ p.2 ∈ U ∧ R p.1 p.2
  nodup : (m.map (·.1)).Nodup
  ord : ∀ (i j : Nat) (p q : LL × LL),m[i]? = some p → m[j]? = some q → i ≤ j → p.1 ≠ q.2
theorem CI.mono {U : List LL} {R R' : LL → LL → Prop} {m : List (LL × LL)} (h : CI U R m) (hr : ∀ x y,R x y → R' x y) : CI U R' m :=
  ⟨fun p hp=>⟨(h.mem p hp).1,(h.mem p hp).2.1,hr _ _ (h.mem p hp).2.2⟩,h.nodup,h.ord⟩
theorem CI.cut {U : List LL} {R : LL → LL → Prop} {m : List (LL × LL)} (h : CI U R m) {i j : Nat} {l up top : LL} (hi : m[i]? = some (l,up)) (hj : m[j]? = some (up,top)) (ht : ∀ x y z,R x y → R y z → R x z) :
    CI U R (m.set i (l,top)) ∧ (m.set i (l,top)).map (·.1) = m.map (·.1):=by
  have hil : i < m.length:=(List.getElem?_eq_some_iff.1 hi).1
  have hij : i < j:=by
    rcases Nat.lt_or_ge i j with h' | h'
    · exact h'
    · exact absurd rfl (h.ord j i _ _ hj hi h')
  have hm : (m.set i (l,top)).map (·.1) = m.map (·.1):=by
    rw [List.map_set]
    apply List.ext_getElem? 
    intro k
    by_cases hk : i = k
    · subst hk
      rw [List.getElem?_set_self (by simpa using hil),List.getElem?_map,hi]; rfl
    · rw [List.getElem?_set_ne hk]
  have m1:=h.mem _ (List.mem_of_getElem? hi)
  have m2:=h.mem _ (List.mem_of_getElem? hj)
  refine ⟨⟨fun p hp=>?_,by rw [hm]; exact h.nodup,fun a b p q ha hb hab=>?_⟩,hm⟩
  · rcases List.mem_or_eq_of_mem_set hp with hp | rfl
    · exact h.mem p hp
    · exact ⟨m1.1,m2.2.1,ht _ _ _ m1.2.2 m2.2.2⟩
  · have keys : ∀ (c : Nat) (r : LL × LL),(m.set i (l,top))[c]? = some r → ∃ s,m[c]? = some (r.1,s):=fun c r hc=>by
      by_cases hci : i = c
      · subst hci
        rw [List.getElem?_set_self hil] at hc
        cases hc
        exact ⟨up,hi⟩
      · rw [List.getElem?_set_ne hci] at hc
        exact ⟨r.2,hc⟩
    obtain ⟨s,hs⟩:=keys a p ha
    by_cases hbi : i = b
    · subst hbi
      rw [List.getElem?_set_self hil] at hb
      cases hb
      exact h.ord a j (p.1,s) (up,top) hs hj (by omega)
    · rw [List.getElem?_set_ne hbi] at hb
      exact h.ord a b (p.1,s) q hs hb hab
theorem CI.push {U : List LL} {R : LL → LL → Prop} {m : List (LL × LL)} (h : CI U R m) {x y : LL} (hx : x ∈ U) (hy : y ∈ U) (hr : R x y) (hnx : ∀ p ∈ m,p.1 ≠ x) (hny : ∀ p ∈ m,p.1 ≠ y) (hne : x ≠ y) : CI U R (m ++ [(x,y)]):=by
  refine ⟨fun p hp=>?_,?_,fun a b p q ha hb hab=>?_⟩
  · rcases List.mem_append.1 hp with hp | hp
    · exact h.mem p hp
    · obtain rfl:=List.mem_singleton.1 hp
      exact ⟨hx,hy,hr⟩
  · rw [List.map_append,List.nodup_append]
    refine ⟨h.nodup,by simp,fun a ha b hb=>?_⟩
    simp at hb
    obtain ⟨p,hp,rfl⟩:=List.mem_map.1 ha
    rw [hb]
    exact hnx p hp
  · rcases Nat.lt_or_ge b m.length with hbl | hbl
    · rw [List.getElem?_append_left hbl] at hb
      rw [List.getElem?_append_left (by omega)] at ha
      exact h.ord a b p q ha hb hab
    · have hb':=(List.getElem?_eq_some_iff.1 hb).1
      simp only [List.length_append,List.length_singleton] at hb'
      obtain rfl : b = m.length:=by omega
      simp at hb
      subst hb
      rcases Nat.lt_or_ge a m.length with hal | hal
      · rw [List.getElem?_append_left hal] at ha
        exact hny p (List.mem_of_getElem? ha)
      · obtain rfl : a = m.length:=by omega
        simp at ha
        subst ha
        exact hne
theorem es_closed (n : Nat) (m : List (LL × LL)) : boxClosed n (.mapb (esOf m)) = true:=by
  simp only [boxClosed,List.all_eq_true,esOf,List.mem_map]
  rintro e ⟨p,_,rfl⟩
  rfl
def posA (ks : List AV) (es : List (AV × AV)) : Nat :=
  match findA KK ks es 0 with
  | some (some (j,_))=>es.length - j
  | _=>0
def mu (a i : Nat) (A : List Box) : Nat :=
  match A.getD a .dead,A.getD i .dead with
  | .cells ks,.mapb es=>posA ks es
  | _,_=>0
theorem posA_es (x : LL) (m : List (LL × LL)) : posA (kvC x) (esOf m) = match fnd x m 0 with
    | some (j,_)=>m.length - j
    | none=>0:=by
  unfold posA
  rw [find_es]
  cases fnd x m 0 with
  | none=>rfl
  | some q=>simp [esOf]
theorem fnd_keys (x : LL) : ∀ {m m' : List (LL × LL)} (n : Nat),m.map (·.1) = m'.map (·.1) → (fnd x m n).map (·.1) = (fnd x m' n).map (·.1)
  | [],[],n,_=>rfl
  | [],_ :: _,n,h=>by simp at h
  | _ :: _,[],n,h=>by simp at h
  | p :: m,p' :: m',n,h=>by
    simp only [List.map_cons,List.cons.injEq] at h
    simp only [fnd,h.1]
    split
    · rfl
    · exact fnd_keys x (n + 1) h.2
theorem posA_keys (x : LL) {m m' : List (LL × LL)} (h : m.map (·.1) = m'.map (·.1)) : posA (kvC x) (esOf m) = posA (kvC x) (esOf m'):=by
  have hl : m.length = m'.length:=by have:=congrArg List.length h; simpa using this
  have hk:=fnd_keys x 0 h
  rw [posA_es,posA_es]
  cases h1 : fnd x m 0 with
  | none=>cases h2 : fnd x m' 0 with
    | none=>rfl
    | some b=>rw [h1,h2] at hk; simp at hk
  | some a=>cases h2 : fnd x m' 0 with
    | none=>rw [h1,h2] at hk; simp at hk
    | some b =>
      rw [h1,h2] at hk
      obtain ⟨a1,a2⟩:=a
      obtain ⟨b1,b2⟩:=b
      simp at hk
      subst hk
      simp only [hl]
set_option maxRecDepth 100000 in
theorem impl_find {U : List LL} (hU : Univ U) {R : LL → LL → Prop} (hR : ∀ x,R x x) (hRt : ∀ x y z,R x y → R y z → R x z) (m : List (LL × LL)) (hm : CI U R m) (l : LL) (hl : l ∈ U) (i : Nat) (A : List Box) (hi : i < A.length) (hA : A.getD i .dead = .mapb (esOf m)) :
    ACalls Tryz.prog 290 [.map i,.agg (kvC l)] A (fun r A'=>∃ x m',r = .agg (kvC x) ∧ x ∈ U ∧ R l x ∧ (∀ p ∈ m',p.1 ≠ x) ∧ CI U R m' ∧ m'.map (·.1) = m.map (·.1) ∧ A' = A.set i (.mapb (esOf m'))):=by
  have hgA : ∀ X (B : List Box),(A.set i X ++ B).getD i .dead = X:=fun X B=>by rw [getD_app1 _ _ _ _ (by simpa using hi),getD_set1 hi]
  have hset : A.set i (.mapb (esOf m)) = A:=by
    apply List.ext_getElem? 
    intro k
    by_cases hk : i = k
    · subst hk
      rw [List.getElem?_set_self hi]
      have : A[i]? = some A[i]:=List.getElem?_eq_getElem hi
      simp [List.getD,hi] at hA
      rw [this,hA]
    · rw [List.getElem?_set_ne hk]
  rw [kvC]
  refine acalls_enter (cf:=cf 29 [0,1,3,4,5,6,7,8,16,24]) foll Tryz.func290 Tryz.ntmps290 (by simp [cf]) ?_
  simp only [Tryz.f290,EnterK_some,zW,zX,zD,builtinA,isLeaf,const1,Nat.reduceAdd,Nat.reduceMul,Nat.reduceSub,Nat.reduceLT,Nat.reduceLeDiff,Nat.reduceEqDiff,Nat.reduceBEq,Nat.reduceBNe,reduceIte,reduceCtorEq,Int.reduceToNat,Int.reduceLT,Int.reduceLE,Int.reduceEq,Int.reduceNe,Int.reduceNeg,ustrA,ti165,ti419,mi165,cf,Tryz.results290]
  refine aloop_intro [0,3,4] (fun e A'=>∃ l' m' B,e = [(0,.map i),(3,.ptr A.length 0),(4,.ptr (A.length + 1) 0)] ∧ A' = A.set i (.mapb (esOf m')) ++ (.cells (kvC l') :: .cells [.nilp,.int .i64 0] :: B) ∧ l' ∈ U ∧ R l l' ∧ CI U R m' ∧ m'.map (·.1) = m.map (·.1)) (fun _ A'=>mu A.length i A') ?_ ?_
  · simp only [zW,zX,zD,builtinA,isLeaf,const1,Nat.reduceAdd,Nat.reduceMul,Nat.reduceSub,Nat.reduceLT,Nat.reduceLeDiff,Nat.reduceEqDiff,Nat.reduceBEq,Nat.reduceBNe,reduceIte,reduceCtorEq,Int.reduceToNat,Int.reduceLT,Int.reduceLE,Int.reduceEq,Int.reduceNe,Int.reduceNeg,ustrA,ti165,ti419,mi165,cf,Tryz.results290]
    exact ⟨l,m,[],by rw [hset]; rfl,hl,hR l,hm,rfl⟩
  · rintro e A' ⟨l',m',B,rfl,rfl,hl',hr',hm',hk'⟩
    have hmu : mu A.length i (A.set i (.mapb (esOf m')) ++ (.cells (kvC l') :: .cells [.nilp,.int .i64 0] :: B)) = posA (kvC l') (esOf m'):=by
      unfold mu
      rw [hgA,getD_sapp0]; rfl
    rw [hmu]
    have hf:=find_es l' m' 0
    rw [kvC] at hf ⊢
    cases hfl : fnd l' m' 0 with
    | none =>
      rw [hfl] at hf
      simp only [Option.map_none] at hf
      simp only [zW,zX,zD,builtinA,isLeaf,const1,Nat.reduceAdd,Nat.reduceMul,Nat.reduceSub,Nat.reduceLT,Nat.reduceLeDiff,Nat.reduceEqDiff,Nat.reduceBEq,Nat.reduceBNe,reduceIte,reduceCtorEq,Int.reduceToNat,Int.reduceLT,Int.reduceLE,Int.reduceEq,Int.reduceNe,Int.reduceNeg,ustrA,ti165,ti419,mi165,cf,Tryz.results290,hi,hf]
      refine ⟨outer_set A _ i _ (es_closed _ _),l',m',rfl,hl',hr',fun p hp e=>fnd_none hfl p hp (by rw [e]),hm',hk',rfl⟩
    | some q =>
      obtain ⟨j,up⟩:=q
      rw [hfl] at hf
      simp only [Option.map_some] at hf
      obtain ⟨_,hj,hj1,hj2⟩:=fnd_some hfl
      simp only [Nat.sub_zero] at hj hj1 hj2
      have hmj : m'[j]? = some (l',up):=by
        have e1 : m'[j]? = some m'[j]:=List.getElem?_eq_getElem hj
        have e2 : m'.getD j (l',l') = m'[j]:=by simp [List.getD,hj]
        rw [e2] at hj1 hj2
        have:=hU.inj _ (hm'.mem _ (List.getElem_mem hj)).1 _ hl' hj1
        rw [e1]
        congr 1
        exact Prod.ext this hj2
      have hup:=(hm'.mem _ (List.mem_of_getElem? hmj)).2
      have hru : R l up:=hRt _ _ _ hr' hup.2
      have hf2:=find_es up m' 0
      rw [kvC] at hf2
      rw [kvC] at hf
      have hpl : posA (kvC l') (esOf m') = m'.length - j:=by rw [posA_es,hfl]
      cases hfu : fnd up m' 0 with
      | none =>
        rw [hfu] at hf2
        simp only [Option.map_none] at hf2
        have hpu : posA (kvC up) (esOf m') = 0:=by rw [posA_es,hfu]
        simp only [zW,zX,zD,builtinA,isLeaf,const1,Nat.reduceAdd,Nat.reduceMul,Nat.reduceSub,Nat.reduceLT,Nat.reduceLeDiff,Nat.reduceEqDiff,Nat.reduceBEq,Nat.reduceBNe,reduceIte,reduceCtorEq,Int.reduceToNat,Int.reduceLT,Int.reduceLE,Int.reduceEq,Int.reduceNe,Int.reduceNeg,ustrA,ti165,ti419,mi165,cf,Tryz.results290,hi,hf,hf2,LoopK_eq]
        refine ⟨⟨up,m',B ++ [.cells (kvC up),.cells [.nilp,.int .i64 0]],rfl,hup.1,hru,hm',hk'⟩,?_⟩
        unfold mu
        rw [hgA,getD_sapp0]
        show posA (kvC up) (esOf m') < _
        rw [hpu]
        rw [kvC] at hpl
        rw [hpl]
        omega
      | some q2 =>
        obtain ⟨j2,top⟩:=q2
        rw [hfu] at hf2
        simp only [Option.map_some] at hf2
        rw [kvC] at hf2
        obtain ⟨_,hk,hk1,hk2⟩:=fnd_some hfu
        simp only [Nat.sub_zero] at hk hk1 hk2
        have hmk : m'[j2]? = some (up,top):=by
          have e1 : m'[j2]? = some m'[j2]:=List.getElem?_eq_getElem hk
          have e2 : m'.getD j2 (up,up) = m'[j2]:=by simp [List.getD,hk]
          rw [e2] at hk1 hk2
          have:=hU.inj _ (hm'.mem _ (List.getElem_mem hk)).1 _ hup.1 hk1
          rw [e1]
          congr 1
          exact Prod.ext this hk2
        have hjj : j < j2:=by
          rcases Nat.lt_or_ge j j2 with h' | h'
          · exact h'
          · exact absurd rfl (hm'.ord j2 j _ _ hmk hmj h')
        obtain ⟨c1,c2⟩:=hm'.cut hmj hmk hRt
        have hes : (esOf m').set j (.agg [.ivptr l'.b l'.off (encI l'.hd),.int .i64 (l'.ks.length : Nat)],.agg [.ivptr top.b top.off (encI top.hd),.int .i64 (top.ks.length : Nat)]) = esOf (m'.set j (l',top)):=by
          unfold esOf
          rw [List.map_set]
          rfl
        have hpu : posA (kvC up) (esOf (m'.set j (l',top))) = m'.length - j2:=by rw [posA_keys up c2,posA_es,hfu]
        simp only [zW,zX,zD,builtinA,isLeaf,const1,Nat.reduceAdd,Nat.reduceMul,Nat.reduceSub,Nat.reduceLT,Nat.reduceLeDiff,Nat.reduceEqDiff,Nat.reduceBEq,Nat.reduceBNe,reduceIte,reduceCtorEq,Int.reduceToNat,Int.reduceLT,Int.reduceLE,Int.reduceEq,Int.reduceNe,Int.reduceNeg,ustrA,ti165,ti419,mi165,cf,Tryz.results290,hi,hf,hf2,hes,LoopK_eq]
        refine ⟨⟨up,m'.set j (l',top),B ++ [.cells (kvC up),.cells (kvC top)],rfl,hup.1,hru,c1,c2.trans hk'⟩,?_⟩
        unfold mu
        rw [hgA,getD_sapp0]
        show posA (kvC up) (esOf (m'.set j (l',top))) < _
        rw [hpu]
        rw [kvC] at hpl
        rw [hpl]
        omega
def kidsV (t : ITy) : AV :=
  match below t with
  | none=>.slice []
  | some x=>.islice x.b x.off (encIs x.ks)
theorem encI_eq (t : ITy) : encI t = [.int .i64 (node t).1,.str (node t).2.1,.str (node t).2.2.1,kidsV t]:=by
  obtain ⟨k,m,n,b,o,ks⟩:=t
  cases ks <;> simp [encI,node,kidsV,below,LL.ks,encIs]
set_option maxRecDepth 100000 in
theorem impl_join {U : List LL} (hU : Univ U) {R : LL → LL → Prop} (hR : ∀ x,R x x) (hRt : ∀ x y z,R x y → R y z → R x z) (hRs : ∀ x y,R x y → R y x) (m : List (LL × LL)) (hm : CI U R m) (x y : LL) (hx : x ∈ U) (hy : y ∈ U) (i : Nat) (A : List Box) (hi : i < A.length) (hA : A.getD i .dead = .mapb (esOf m)) :
    ACalls Tryz.prog 259 [.map i,.islice x.b x.off (encIs x.ks),.islice y.b y.off (encIs y.ks)] A (fun r A'=>∃ m',A' = A.set i (.mapb (esOf m')) ∧
      ((r = .bool false ∧ R x y ∧ CI U R m' ∧ m'.length = m.length) ∨ (r = .bool true ∧ m'.length = m.length + 1 ∧ ∀ R' : LL → LL → Prop,(∀ a b,R a b → R' a b) → (∀ a b,R' a b → R' b a) → (∀ a b c,R' a b → R' b c → R' a c) → R' x y → CI U R' m'))):=by
  have hgA : ∀ X (B : List Box),(A.set i X ++ B).getD i .dead = X:=fun X B=>by rw [getD_app1 _ _ _ _ (by simpa using hi),getD_set1 hi]
  have hxl : (encIs x.ks).length = x.ks.length:=encIs_length _
  have hyl : (encIs y.ks).length = y.ks.length:=encIs_length _
  have hx0 : decide (((x.ks.length : Nat) : Int) = 0) = false:=decide_eq_false (by simp [LL.ks]; omega)
  have hxg : (encIs x.ks).getD 0 [] = encI x.hd:=by simp [LL.ks,encIs]
  have hyg : (encIs y.ks).getD 0 [] = encI y.hd:=by simp [LL.ks,encIs]
  have hxp : 0 < x.ks.length:=by simp [LL.ks]
  have hyp : 0 < y.ks.length:=by simp [LL.ks]
  refine acalls_enter (cf:=cf 32 [0,1,2,6,7,8,11,28]) foll Tryz.func259 Tryz.ntmps259 (by simp [cf]) ?_
  simp only [Tryz.f259,EnterK_some,zW,zX,zD,builtinA,isLeaf,const1,Nat.reduceAdd,Nat.reduceMul,Nat.reduceSub,Nat.reduceLT,Nat.reduceLeDiff,Nat.reduceEqDiff,Nat.reduceBEq,Nat.reduceBNe,reduceIte,reduceCtorEq,Int.reduceToNat,Int.reduceLT,Int.reduceLE,Int.reduceEq,Int.reduceNe,Int.reduceNeg,ustrA,ti3,ti34,ti36,ti165,ti419,ca290,mi165,ks419,cf,Tryz.results259]
  simp only [zW,zX,zD,builtinA,isLeaf,const1,Nat.reduceAdd,Nat.reduceMul,Nat.reduceSub,Nat.reduceLT,Nat.reduceLeDiff,Nat.reduceEqDiff,Nat.reduceBEq,Nat.reduceBNe,reduceIte,reduceCtorEq,Int.reduceToNat,Int.reduceLT,Int.reduceLE,Int.reduceEq,Int.reduceNe,Int.reduceNeg,ustrA,ti3,ti34,ti36,ti165,ti419,ca290,mi165,ks419,cf,Tryz.results259,hxl,hyl,hx0,hxg,hyg,encI_length]
  refine ⟨by omega,?_⟩
  refine callK_intro (by simp only [zW,zX,zD,builtinA,isLeaf,const1,Nat.reduceAdd,Nat.reduceMul,Nat.reduceSub,Nat.reduceLT,Nat.reduceLeDiff,Nat.reduceEqDiff,Nat.reduceBEq,Nat.reduceBNe,reduceIte,reduceCtorEq,Int.reduceToNat,Int.reduceLT,Int.reduceLE,Int.reduceEq,Int.reduceNe,Int.reduceNeg,ustrA]; rfl) (impl_find hU hR hRt m hm x hx i _ hi hA) ?_ rfl
  rintro v A' ⟨x',m1,rfl,hx',hrx,hnx,hm1,hk1,rfl⟩
  rw [kvC]
  simp only [zW,zX,zD,builtinA,isLeaf,const1,Nat.reduceAdd,Nat.reduceMul,Nat.reduceSub,Nat.reduceLT,Nat.reduceLeDiff,Nat.reduceEqDiff,Nat.reduceBEq,Nat.reduceBNe,reduceIte,reduceCtorEq,Int.reduceToNat,Int.reduceLT,Int.reduceLE,Int.reduceEq,Int.reduceNe,Int.reduceNeg,ustrA,ti3,ti34,ti36,ti165,ti419,ca290,mi165,ks419,cf,Tryz.results259,hi,hxl,hyl,hx0,hxg,hyg,encI_length]
  refine ⟨by omega,?_⟩
  refine callK_intro (by simp only [zW,zX,zD,builtinA,isLeaf,const1,Nat.reduceAdd,Nat.reduceMul,Nat.reduceSub,Nat.reduceLT,Nat.reduceLeDiff,Nat.reduceEqDiff,Nat.reduceBEq,Nat.reduceBNe,reduceIte,reduceCtorEq,Int.reduceToNat,Int.reduceLT,Int.reduceLE,Int.reduceEq,Int.reduceNe,Int.reduceNeg,ustrA]; rfl) (impl_find hU hR hRt m1 hm1 y hy i _ (by simp; omega) (hgA _ _)) ?_ rfl
  rintro v A' ⟨y',m2,rfl,hy',hry,hny,hm2,hk2,rfl⟩
  have hnx2 : ∀ p ∈ m2,p.1 ≠ x':=fun p hp e=>by
    have : p.1 ∈ m2.map (·.1):=List.mem_map_of_mem hp
    rw [hk2] at this
    obtain ⟨q,hq,he⟩:=List.mem_map.1 this
    exact hnx q hq (he.trans e)
  have hlen : m2.length = m.length:=by
    have h1:=congrArg List.length hk1
    have h2:=congrArg List.length hk2
    simp at h1 h2
    omega
  rw [kvC]
  by_cases he : x' = y'
  · subst he
    simp only [zW,zX,zD,builtinA,isLeaf,const1,Nat.reduceAdd,Nat.reduceMul,Nat.reduceSub,Nat.reduceLT,Nat.reduceLeDiff,Nat.reduceEqDiff,Nat.reduceBEq,Nat.reduceBNe,reduceIte,reduceCtorEq,Int.reduceToNat,Int.reduceLT,Int.reduceLE,Int.reduceEq,Int.reduceNe,Int.reduceNeg,ustrA,ti3,ti34,ti36,ti165,ti419,ca290,mi165,ks419,cf,Tryz.results259,hi,hxl,hyl,encI_length]
    exact ⟨outer_set A _ i _ (es_closed _ _),m2,rfl,.inl ⟨hRt _ _ _ hrx (hRs _ _ hry),hm2,hlen⟩⟩
  · have hne : (decide (x'.b = y'.b ∧ x'.off = y'.off) && decide (((x'.ks.length : Nat) : Int) = ((y'.ks.length : Nat) : Int))) = false:=by
      rw [Bool.eq_false_iff]
      intro hh
      simp only [Bool.and_eq_true,decide_eq_true_eq] at hh
      refine he (hU.inj _ hx' _ hy' ?_)
      simp only [LL.idn,Prod.mk.injEq]
      exact ⟨hh.1.1,hh.1.2,by omega⟩
    have hfn : fnd x' m2 0 = none:=by
      cases hq : fnd x' m2 0 with
      | none=>rfl
      | some q =>
        obtain ⟨j,v⟩:=q
        obtain ⟨_,hj,hj1,_⟩:=fnd_some hq
        simp only [Nat.sub_zero] at hj hj1
        have e2 : m2.getD j (x',x') = m2[j]:=by simp [List.getD,hj]
        rw [e2] at hj1
        exact absurd (hU.inj _ (hm2.mem _ (List.getElem_mem hj)).1 _ hx' hj1) (hnx2 _ (List.getElem_mem hj))
    have hf:=find_es x' m2 0
    rw [hfn,kvC] at hf
    simp only [Option.map_none] at hf
    have hes : esOf m2 ++ [(.agg [.ivptr x'.b x'.off (encI x'.hd),.int .i64 (x'.ks.length : Nat)],.agg [.ivptr y'.b y'.off (encI y'.hd),.int .i64 (y'.ks.length : Nat)])] = esOf (m2 ++ [(x',y')]):=by
      simp [esOf,kvC]
    simp only [zW,zX,zD,builtinA,isLeaf,const1,Nat.reduceAdd,Nat.reduceMul,Nat.reduceSub,Nat.reduceLT,Nat.reduceLeDiff,Nat.reduceEqDiff,Nat.reduceBEq,Nat.reduceBNe,reduceIte,reduceCtorEq,Int.reduceToNat,Int.reduceLT,Int.reduceLE,Int.reduceEq,Int.reduceNe,Int.reduceNeg,ustrA,ti3,ti34,ti36,ti165,ti419,ca290,mi165,ks419,cf,Tryz.results259,hi,hxl,hyl,encI_length]
    rw [hne]
    simp only [zW,zX,zD,builtinA,isLeaf,const1,Nat.reduceAdd,Nat.reduceMul,Nat.reduceSub,Nat.reduceLT,Nat.reduceLeDiff,Nat.reduceEqDiff,Nat.reduceBEq,Nat.reduceBNe,reduceIte,reduceCtorEq,Int.reduceToNat,Int.reduceLT,Int.reduceLE,Int.reduceEq,Int.reduceNe,Int.reduceNeg,ustrA,ti3,ti34,ti36,ti165,ti419,ca290,mi165,ks419,cf,Tryz.results259,hi,hf,hes]
    refine ⟨outer_set A _ i _ (es_closed _ _),m2 ++ [(x',y')],rfl,.inr ⟨by simp [hlen],fun R' h1 h2 h3 h4=>?_⟩⟩
    exact (hm2.mono h1).push hx' hy' (h3 _ _ _ (h2 _ _ (h1 _ _ hrx)) (h3 _ _ _ h4 (h1 _ _ hry))) hnx2 hny he
end Go.Proofs.YtnjdbgiincliaaaGreat
namespace Go.Proofs.YtnjdbgiincliaaaGreat
open Go.Abs
theorem encI_take (t : ITy) : List.take 4 (encI t) = encI t:=by rw [encI_eq]; rfl
theorem encI_drop (t : ITy) : List.drop 4 (encI t) = []:=by rw [encI_eq]; rfl
theorem frz1_kidsV (t : ITy) (A : List Box) : frz1 (kidsV t) A = some (kidsV t,A):=by
  unfold kidsV
  cases below t <;> rfl
theorem frzL_encI (t : ITy) (A : List Box) : frzL (encI t) A = some (encI t,A):=by
  rw [encI_eq]
  unfold kidsV
  cases below t <;> rfl
theorem kids_cases (t : ITy) : (below t = none ∧ kidsV t = .slice [] ∧ (node t).2.2.2 = 0) ∨ ∃ x,below t = some x ∧ kidsV t = .islice x.b x.off (encIs x.ks) ∧ (node t).2.2.2 = x.ks.length:=by
  cases h : below t with
  | none =>
    obtain ⟨k,m,n,b,o,rfl⟩:=below_none h
    exact .inl ⟨rfl,by simp [kidsV,below],by simp [node]⟩
  | some x =>
    refine .inr ⟨x,rfl,by simp [kidsV,h],?_⟩
    obtain ⟨k,m,n,rfl⟩:=below_ks h
    rfl
def tF1 : AV:=.func (.func 193) [] []
def tF2 : AV:=.func (.func 194) [] []
def lab (t : ITy) : Int × List UInt8 × List UInt8:=((node t).1,(node t).2.1,(node t).2.2.1)
def klen (t : ITy) : Nat:=(node t).2.2.2
theorem node_iff (s t : ITy) : node s = node t ↔ lab s = lab t ∧ klen s = klen t:=by
  simp only [lab,klen,Prod.ext_iff]
  exact ⟨fun ⟨a,b,c,d⟩=>⟨⟨a,b,c⟩,d⟩,fun ⟨⟨a,b,c⟩,d⟩=>⟨a,b,c,d⟩⟩
set_option maxRecDepth 100000 in
theorem tcI_kids (t : ITy) (A : List Box) : ACalls Tryz.prog 193 [.agg (encI t)] A (fun r A'=>r = kidsV t ∧ A' = A):=by
  rw [encI_eq]
  rcases kids_cases t with ⟨_,e1,n1⟩ | ⟨x,_,e1,n1⟩ <;> rw [e1]
  · refine acalls_enter (cf:=cf 5 [0,1,2]) foll Tryz.func193 Tryz.ntmps193 (by simp [cf]) ?_
    simp only [Tryz.f193,EnterK_some,zW,zX,zD,builtinA,isLeaf,const1,Nat.reduceAdd,Nat.reduceMul,Nat.reduceSub,Nat.reduceLT,Nat.reduceLeDiff,Nat.reduceEqDiff,Nat.reduceBEq,Nat.reduceBNe,reduceIte,reduceCtorEq,Int.reduceToNat,Int.reduceLT,Int.reduceLE,Int.reduceEq,Int.reduceNe,Int.reduceNeg,ustrA,ti34,ti36,cf,Tryz.results193]
  · refine acalls_enter (cf:=cf 5 [0,1,2]) foll Tryz.func193 Tryz.ntmps193 (by simp [cf]) ?_
    simp only [Tryz.f193,EnterK_some,zW,zX,zD,builtinA,isLeaf,const1,Nat.reduceAdd,Nat.reduceMul,Nat.reduceSub,Nat.reduceLT,Nat.reduceLeDiff,Nat.reduceEqDiff,Nat.reduceBEq,Nat.reduceBNe,reduceIte,reduceCtorEq,Int.reduceToNat,Int.reduceLT,Int.reduceLE,Int.reduceEq,Int.reduceNe,Int.reduceNeg,ustrA,ti34,ti36,cf,Tryz.results193]
set_option maxRecDepth 100000 in
theorem tcI_same (s t : ITy) (A : List Box) : ACalls Tryz.prog 194 [.agg (encI s),.agg (encI t)] A (fun r A'=>r = .bool (decide (lab s = lab t)) ∧ A' = A):=by
  have hd : decide (lab s = lab t) = (decide ((node s).1 = (node t).1) && (decide ((node s).2.1 = (node t).2.1) && decide ((node s).2.2.1 = (node t).2.2.1))):=by
    rw [Bool.eq_iff_iff]
    simp only [lab,decide_eq_true_eq,Bool.and_eq_true,Prod.ext_iff]
  rw [hd,encI_eq,encI_eq]
  by_cases h1 : (node s).1 = (node t).1
  · by_cases h2 : (node s).2.1 = (node t).2.1
    · refine acalls_enter (cf:=cf 24 [0,1,2,3,4]) foll Tryz.func194 Tryz.ntmps194 (by simp [cf]) ?_
      simp only [Tryz.f194,EnterK_some,zW,zX,zD,builtinA,isLeaf,const1,Nat.reduceAdd,Nat.reduceMul,Nat.reduceSub,Nat.reduceLT,Nat.reduceLeDiff,Nat.reduceEqDiff,Nat.reduceBEq,Nat.reduceBNe,reduceIte,reduceCtorEq,Int.reduceToNat,Int.reduceLT,Int.reduceLE,Int.reduceEq,Int.reduceNe,Int.reduceNeg,ustrA,ti3,ti9,ti36,cf,Tryz.results194]
      simp only [zW,zX,zD,builtinA,isLeaf,const1,Nat.reduceAdd,Nat.reduceMul,Nat.reduceSub,Nat.reduceLT,Nat.reduceLeDiff,Nat.reduceEqDiff,Nat.reduceBEq,Nat.reduceBNe,reduceIte,reduceCtorEq,Int.reduceToNat,Int.reduceLT,Int.reduceLE,Int.reduceEq,Int.reduceNe,Int.reduceNeg,ustrA,ti3,ti9,ti36,cf,Tryz.results194,decide_eq_true h1,decide_eq_true h2]
    · refine acalls_enter (cf:=cf 24 [0,1,2,3,4]) foll Tryz.func194 Tryz.ntmps194 (by simp [cf]) ?_
      simp only [Tryz.f194,EnterK_some,zW,zX,zD,builtinA,isLeaf,const1,Nat.reduceAdd,Nat.reduceMul,Nat.reduceSub,Nat.reduceLT,Nat.reduceLeDiff,Nat.reduceEqDiff,Nat.reduceBEq,Nat.reduceBNe,reduceIte,reduceCtorEq,Int.reduceToNat,Int.reduceLT,Int.reduceLE,Int.reduceEq,Int.reduceNe,Int.reduceNeg,ustrA,ti3,ti9,ti36,cf,Tryz.results194]
      simp only [zW,zX,zD,builtinA,isLeaf,const1,Nat.reduceAdd,Nat.reduceMul,Nat.reduceSub,Nat.reduceLT,Nat.reduceLeDiff,Nat.reduceEqDiff,Nat.reduceBEq,Nat.reduceBNe,reduceIte,reduceCtorEq,Int.reduceToNat,Int.reduceLT,Int.reduceLE,Int.reduceEq,Int.reduceNe,Int.reduceNeg,ustrA,ti3,ti9,ti36,cf,Tryz.results194,decide_eq_true h1,decide_eq_false h2]
  · refine acalls_enter (cf:=cf 24 [0,1,2,3,4]) foll Tryz.func194 Tryz.ntmps194 (by simp [cf]) ?_
    simp only [Tryz.f194,EnterK_some,zW,zX,zD,builtinA,isLeaf,const1,Nat.reduceAdd,Nat.reduceMul,Nat.reduceSub,Nat.reduceLT,Nat.reduceLeDiff,Nat.reduceEqDiff,Nat.reduceBEq,Nat.reduceBNe,reduceIte,reduceCtorEq,Int.reduceToNat,Int.reduceLT,Int.reduceLE,Int.reduceEq,Int.reduceNe,Int.reduceNeg,ustrA,ti3,ti9,ti36,cf,Tryz.results194]
    simp only [zW,zX,zD,builtinA,isLeaf,const1,Nat.reduceAdd,Nat.reduceMul,Nat.reduceSub,Nat.reduceLT,Nat.reduceLeDiff,Nat.reduceEqDiff,Nat.reduceBEq,Nat.reduceBNe,reduceIte,reduceCtorEq,Int.reduceToNat,Int.reduceLT,Int.reduceLE,Int.reduceEq,Int.reduceNe,Int.reduceNeg,ustrA,ti3,ti9,ti36,cf,Tryz.results194,decide_eq_false h1]
set_option maxRecDepth 100000 in
theorem impl_join0 (i : Nat) (A : List Box) : ACalls Tryz.prog 259 [.map i,.slice [],.slice []] A (fun r A'=>r = .bool false ∧ A' = A):=by
  have h0 : decide (((0 : Nat) : Int) = 0) = true:=rfl
  refine acalls_enter (cf:=cf 32 [0,1,2,6,7,8,11,28]) foll Tryz.func259 Tryz.ntmps259 (by simp [cf]) ?_
  simp only [Tryz.f259,EnterK_some,zW,zX,zD,builtinA,isLeaf,const1,Nat.reduceAdd,Nat.reduceMul,Nat.reduceSub,Nat.reduceLT,Nat.reduceLeDiff,Nat.reduceEqDiff,Nat.reduceBEq,Nat.reduceBNe,reduceIte,reduceCtorEq,Int.reduceToNat,Int.reduceLT,Int.reduceLE,Int.reduceEq,Int.reduceNe,Int.reduceNeg,ustrA,ti3,ti34,ti36,ti165,ti419,ca290,mi165,ks419,cf,Tryz.results259]
  simp only [zW,zX,zD,builtinA,isLeaf,const1,Nat.reduceAdd,Nat.reduceMul,Nat.reduceSub,Nat.reduceLT,Nat.reduceLeDiff,Nat.reduceEqDiff,Nat.reduceBEq,Nat.reduceBNe,reduceIte,reduceCtorEq,Int.reduceToNat,Int.reduceLT,Int.reduceLE,Int.reduceEq,Int.reduceNe,Int.reduceNeg,ustrA,ti3,ti34,ti36,ti165,ti419,ca290,mi165,ks419,cf,Tryz.results259,h0]
inductive WI where
  | ini
  | pr (x y : LL)
def WI.l1 (a0 : ITy) : WI → List ITy
  | .ini=>[a0]
  | .pr x _=>x.ks
def WI.l2 (b0 : ITy) : WI → List ITy
  | .ini=>[b0]
  | .pr _ y=>y.ks
def WI.row (a0 b0 : ITy) : WI → List AV
  | .ini=>[.slice (encIs [a0]),.slice (encIs [b0])]
  | .pr x y=>[.islice x.b x.off (encIs x.ks),.islice y.b y.off (encIs y.ks)]
structure SI (U : List LL) (a0 b0 : ITy) (m J : List (LL × LL)) (W : List WI) (cur : Option WI) : Prop where
  ci : CI U (Eqv J) m
  js : ∀ p ∈ J,Bis (Eqv J) p.1 p.2 ∨ WI.pr p.1 p.2 ∈ W ∨ cur = some (.pr p.1 p.2)
  ini : Near (Eqv J) a0 b0 ∨ WI.ini ∈ W ∨ cur = some .ini
  ws : ∀ x y,(WI.pr x y ∈ W ∨ cur = some (.pr x y)) → x ∈ U ∧ y ∈ U ∧ x.ks.length = y.ks.length
  er : erase a0 = erase b0 → ∀ w,(w ∈ W ∨ cur = some w) → erases (w.l1 a0) = erases (w.l2 b0)
theorem Near.mono {R R' : LL → LL → Prop} (h : ∀ x y,R x y → R' x y) {s t : ITy} (k : Near R s t) : Near R' s t :=
  ⟨k.1,k.2.imp id fun ⟨x,y,a,b,c⟩=>⟨x,y,a,b,h _ _ c⟩⟩
theorem Bis.mono {R R' : LL → LL → Prop} (h : ∀ x y,R x y → R' x y) {x y : LL} (k : Bis R x y) : Bis R' x y :=
  ⟨k.1,fun i hi=>(k.2 i hi).mono h⟩
theorem SI.pop {U : List LL} {a0 b0 : ITy} {m J : List (LL × LL)} {W : List WI} {w : WI} (h : SI U a0 b0 m J (W ++ [w]) none) : SI U a0 b0 m J W (some w):=by
  refine ⟨h.ci,fun p hp=>?_,?_,fun x y hw=>h.ws x y (.inl ?_),fun he v hv=>h.er he v (.inl ?_)⟩
  · rcases h.js p hp with h | h | h
    · exact .inl h
    · rcases List.mem_append.1 h with h | h
      · exact .inr (.inl h)
      · exact .inr (.inr (by rw [List.mem_singleton.1 h]))
    · cases h
  · rcases h.ini with h | h | h
    · exact .inl h
    · rcases List.mem_append.1 h with h | h
      · exact .inr (.inl h)
      · exact .inr (.inr (by rw [List.mem_singleton.1 h]))
    · cases h
  · rcases hw with hw | hw
    · exact List.mem_append_left _ hw
    · cases hw; simp
  · rcases hv with hv | hv
    · exact List.mem_append_left _ hv
    · cases hv; simp
theorem SI.done {U : List LL} {a0 b0 : ITy} {m J : List (LL × LL)} {W : List WI} {w : WI} (h : SI U a0 b0 m J W (some w)) (hl : (w.l1 a0).length = (w.l2 b0).length)
    (hn : ∀ i,i < (w.l1 a0).length → Near (Eqv J) ((w.l1 a0).getD i it0) ((w.l2 b0).getD i it0)) : SI U a0 b0 m J W none:=by
  refine ⟨h.ci,fun p hp=>?_,?_,fun x y hw=>?_,fun he v hv=>?_⟩
  · rcases h.js p hp with h | h | h
    · exact .inl h
    · exact .inr (.inl h)
    · cases h
      exact .inl ⟨hl,hn⟩
  · rcases h.ini with h | h | h
    · exact .inl h
    · exact .inr (.inl h)
    · cases h
      exact .inl (by simpa [WI.l1,WI.l2] using hn 0 (by simp [WI.l1]))
  · rcases hw with hw | hw
    · exact h.ws x y (.inl hw)
    · cases hw
  · rcases hv with hv | hv
    · exact h.er he v (.inl hv)
    · cases hv
theorem SI.same {U : List LL} {a0 b0 : ITy} {m m' J : List (LL × LL)} {W : List WI} {c : Option WI} (h : SI U a0 b0 m J W c) (hc : CI U (Eqv J) m') : SI U a0 b0 m' J W c :=
  ⟨hc,h.js,h.ini,h.ws,h.er⟩
theorem eqv_more {J : List (LL × LL)} (q : LL × LL) : ∀ x y,Eqv J x y → Eqv (q :: J) x y:=fun x y h=>h.mono fun p hp=>List.mem_cons_of_mem _ hp
theorem SI.more {U : List LL} {a0 b0 : ITy} {m m' J : List (LL × LL)} {W : List WI} {c : Option WI} (h : SI U a0 b0 m J W c) {x y : LL} (hx : x ∈ U) (hy : y ∈ U) (hl : x.ks.length = y.ks.length) (hc : CI U (Eqv ((x,y) :: J)) m')
    (he : erase a0 = erase b0 → erases x.ks = erases y.ks) : SI U a0 b0 m' ((x,y) :: J) (W ++ [.pr x y]) c:=by
  refine ⟨hc,fun p hp=>?_,?_,fun u v hw=>?_,fun hh v hv=>?_⟩
  · rcases List.mem_cons.1 hp with rfl | hp
    · exact .inr (.inl (by simp))
    · rcases h.js p hp with h | h | h
      · exact .inl (h.mono (eqv_more _))
      · exact .inr (.inl (List.mem_append_left _ h))
      · exact .inr (.inr h)
  · rcases h.ini with h | h | h
    · exact .inl (h.mono (eqv_more _))
    · exact .inr (.inl (List.mem_append_left _ h))
    · exact .inr (.inr h)
  · rcases hw with hw | hw
    · rcases List.mem_append.1 hw with hw | hw
      · exact h.ws u v (.inl hw)
      · have:=List.mem_singleton.1 hw
        cases this
        exact ⟨hx,hy,hl⟩
    · exact h.ws u v (.inr hw)
  · rcases hv with hv | hv
    · rcases List.mem_append.1 hv with hv | hv
      · exact h.er hh v (.inl hv)
      · have:=List.mem_singleton.1 hv
        subst this
        exact he hh
    · exact h.er hh v (.inr hv)
theorem SI.fin {U : List LL} {a0 b0 : ITy} {m J : List (LL × LL)} (h : SI U a0 b0 m J [] none) : erase a0 = erase b0:=by
  have hj : ∀ p ∈ J,Bis (Eqv J) p.1 p.2:=fun p hp=>by
    rcases h.js p hp with h | h | h
    · exact h
    · simp at h
    · cases h
  have hi : Near (Eqv J) a0 b0:=by
    rcases h.ini with h | h | h
    · exact h
    · simp at h
    · cases h
  exact near_erase hi fun x y _ _ hr=>same_all hj _ x y (Nat.le_refl _) hr
theorem erases_at {l l' : List ITy} (h : erases l = erases l') (i : Nat) : erase (l.getD i it0) = erase (l'.getD i it0):=by
  rw [erases_map,erases_map] at h
  have hl : l.length = l'.length:=by have:=congrArg List.length h; simpa using this
  rcases Nat.lt_or_ge i l.length with hi | hi
  · have:=congrArg (fun z=>z.getD i (erase it0)) h
    simpa [List.getD,hi,show i < l'.length by omega] using this
  · simp [List.getD,Nat.not_lt.2 hi,show ¬ i < l'.length by omega]
theorem erase_node {s t : ITy} (h : erase s = erase t) : node s = node t:=by
  obtain ⟨k,m,n,b,o,ks⟩:=s
  obtain ⟨k',m',n',b',o',ks'⟩:=t
  rw [erase,erase] at h
  injection h with h1 h2 h3 h4
  have : ks.length = ks'.length:=by
    rw [erases_map,erases_map] at h4
    have:=congrArg List.length h4
    simpa using this
  simp [node,h1,h2,h3,this]
theorem erase_kids {s t : ITy} {x y : LL} (h : erase s = erase t) (hx : below s = some x) (hy : below t = some y) : erases x.ks = erases y.ks:=by
  obtain ⟨k,m,n,rfl⟩:=below_ks hx
  obtain ⟨k',m',n',rfl⟩:=below_ks hy
  rw [erase,erase] at h
  injection h
theorem CI.le {U : List LL} {R : LL → LL → Prop} {m : List (LL × LL)} (h : CI U R m) : m.length ≤ U.length:=by
  haveI : DecidableEq LL:=fun a b=>Classical.propDecidable (a = b)
  have:=nodup_le (m.map (·.1)) U h.nodup fun x hx=>by
    obtain ⟨p,hp,rfl⟩:=List.mem_map.1 hx
    exact (h.mem p hp).1
  simpa using this
def ClS (U : List LL) (m : List (LL × LL)) : Prop:=∃ J,CI U (Eqv J) m ∧ ∀ p ∈ J,Bis (Eqv J) p.1 p.2
theorem SI.cls {U : List LL} {a0 b0 : ITy} {m J : List (LL × LL)} (h : SI U a0 b0 m J [] none) : ClS U m:=⟨J,h.ci,fun p hp=>by
  rcases h.js p hp with h | h | h
  · exact h
  · simp at h
  · cases h⟩
theorem ClS.le {U : List LL} {m : List (LL × LL)} (h : ClS U m) : m.length ≤ U.length:=by obtain ⟨J,h,_⟩:=h; exact h.le
def esLen (N a : Nat) (A : List Box) : Nat :=
  match A.getD a .dead with
  | .mapb es=>N - es.length
  | _=>0
def rowLen (A : List Box) : AV → Nat
  | .own q=>match A.getD q .dead with
    | .row _ rows _=>rows.length
    | _=>0
  | _=>0
def muI (n : Nat) (e : Env) : Nat :=
  match Abs.look 36 e with
  | .int _ i=>n - i.toNat
  | _=>0
def muT (N a : Nat) (e : Env) (A : List Box) : Nat:=2 * esLen N a A + rowLen A (Abs.look 7 e)
end Go.Proofs.YtnjdbgiincliaaaGreat
namespace Go.Proofs.YtnjdbgiincliaaaGreat
open Go.Abs
theorem set_at {A : List Box} {i : Nat} {X : Box} (h : A.getD i .dead = X) (hi : i < A.length) : A.set i X = A:=by
  apply List.ext_getElem?
  intro k
  by_cases hk : i = k
  · subst hk
    rw [List.getElem?_set_self hi]
    have e : A[i]? = some A[i]:=List.getElem?_eq_getElem hi
    simp [List.getD,hi] at h
    rw [e,h]
  · rw [List.getElem?_set_ne hk]
set_option maxRecDepth 100000 in
set_option maxHeartbeats 4000000 in
theorem sameI {U : List LL} (hU : Univ U) (hN : U.length ≤ 100000000) (hL : ∀ x ∈ U,x.ks.length ≤ 1000000000) (a0 b0 : ITy) (ha : ∀ x,below a0 = some x → x ∈ U) (hb : ∀ x,below b0 = some x → x ∈ U)
    (i : Nat) (m0 : List (LL × LL)) (h0 : ClS U m0) (A : List Box) (hi : i < A.length) (hA : A.getD i .dead = .mapb (esOf m0)) :
    ACalls Tryz.prog 197 [.agg [tF1,tF2,.map i],.agg (encI a0),.agg (encI b0)] A (fun r A'=>∃ m',A' = A.set i (.mapb (esOf m')) ∧ r = .bool (decide (erase a0 = erase b0)) ∧ (erase a0 = erase b0 → ClS U m')):=by
  have hgA : ∀ X (B : List Box),(A.set i X ++ B).getD i .dead = X:=fun X B=>by rw [getD_app1 _ _ _ _ (by simpa using hi),getD_set1 hi]
  have hout : ∀ m (L : List Box),Outer A (A.set i (.mapb (esOf m)) ++ L):=fun m L=>outer_set A _ i _ (es_closed _ _)
  simp only [tF1,tF2]
  refine acalls_enter (cf:=cf 82 [0,1,2,3,4,5,6,7,8,9,10,11,12,21,34,35,36,37,69,76]) foll Tryz.func197 Tryz.ntmps197 (by simp [cf]) ?_
  simp only [Tryz.f197,EnterK_some,zW,zX,zD,builtinA,isLeaf,const1,Nat.reduceAdd,Nat.reduceMul,Nat.reduceSub,Nat.reduceLT,Nat.reduceLeDiff,Nat.reduceEqDiff,Nat.reduceBEq,Nat.reduceBNe,reduceIte,reduceCtorEq,Int.reduceToNat,Int.reduceLT,Int.reduceLE,Int.reduceEq,Int.reduceNe,Int.reduceNeg,ustrA,ti3,ti34,ti36,ti67,ti163,ti165,ti167,ti366,ti367,ca259,cf,Tryz.results197]
  simp only [zW,zX,zD,builtinA,isLeaf,const1,Nat.reduceAdd,Nat.reduceMul,Nat.reduceSub,Nat.reduceLT,Nat.reduceLeDiff,Nat.reduceEqDiff,Nat.reduceBEq,Nat.reduceBNe,reduceIte,reduceCtorEq,Int.reduceToNat,Int.reduceLT,Int.reduceLE,Int.reduceEq,Int.reduceNe,Int.reduceNeg,ustrA,ti3,ti34,ti36,ti67,ti163,ti165,ti167,ti366,ti367,ca259,cf,Tryz.results197,encI_length,encI_take,encI_drop,frzL_encI]
  refine ⟨encI_leaf a0,encI_leaf b0,?_,?_⟩
  · intro v hv
    rcases List.mem_cons.1 hv with rfl | hv
    · rfl
    · rcases List.mem_cons.1 hv with rfl | hv
      · rfl
      · cases hv
  have hmu : ∀ v (m : List (LL × LL)) (B : List Box) j (W : List WI),B.getD j .dead = .row 2 (W.map (WI.row a0 b0)) 0 → muT U.length i [(3,v),(7,.own (A.length + (j + 3)))] (A.set i (.mapb (esOf m)) ++ (.cells [tF1,tF2,.map i] :: .cells (encI a0) :: .cells (encI b0) :: B)) = 2 * (U.length - m.length) + W.length:=fun v m B j W hB=>by
    unfold muT esLen rowLen
    have e2 : (A.set i (.mapb (esOf m)) ++ (.cells [tF1,tF2,.map i] :: .cells (encI a0) :: .cells (encI b0) :: B)).getD (A.length + (j + 3)) .dead = .row 2 (W.map (WI.row a0 b0)) 0:=(getD_sapp _ _ _ _ _ _).trans hB
    have e3 : Abs.look 7 [(3,v),(7,AV.own (A.length + (j + 3)))] = .own (A.length + (j + 3)):=rfl
    rw [hgA,e3]
    simp only []
    rw [e2]
    simp [esOf]
  have hst:=set_at hA hi
  simp only [tF1,tF2] at hmu
  refine aloop_intro [3,7] (fun e A'=>∃ m J W B j,e = [(3,.ptr A.length 0),(7,.own (A.length + (j + 3)))] ∧ A' = A.set i (.mapb (esOf m)) ++ (.cells [tF1,tF2,.map i] :: .cells (encI a0) :: .cells (encI b0) :: B) ∧ j < B.length ∧ B.getD j .dead = .row 2 (W.map (WI.row a0 b0)) 0 ∧ 2 * (U.length - m.length) + W.length ≤ 2 * U.length + 1 ∧ SI U a0 b0 m J W none) (muT U.length i) ?_ ?_
  · simp only [zW,zX,zD,builtinA,isLeaf,const1,Nat.reduceAdd,Nat.reduceMul,Nat.reduceSub,Nat.reduceLT,Nat.reduceLeDiff,Nat.reduceEqDiff,Nat.reduceBEq,Nat.reduceBNe,reduceIte,reduceCtorEq,Int.reduceToNat,Int.reduceLT,Int.reduceLE,Int.reduceEq,Int.reduceNe,Int.reduceNeg,ustrA,ti3,ti34,ti36,ti67,ti163,ti165,ti167,ti366,ti367,ca259,cf,Tryz.results197]
    obtain ⟨J0,hc0,hb0⟩:=h0
    refine ⟨m0,J0,[.ini],[.row 4 [encI a0] 1,.row 4 [encI b0] 1,.row 2 [[.slice [encI a0],.slice [encI b0]]] 0],2,rfl,by rw [hst]; rfl,by simp,rfl,by simp; omega,⟨hc0,fun p hp=>.inl (hb0 p hp),.inr (.inl (by simp)),by simp,fun he w hw=>?_⟩⟩
    have : w = .ini:=by simpa using hw
    subst this
    simp [WI.l1,WI.l2,erases,he]
  · rintro e A' ⟨m,J,W,B,j,rfl,rfl,hj,hB,hW,hS⟩
    have hw1 : W.length ≤ 1000000000:=by omega
    have hgj : ∀ X Y Z : Box,∀ d : Box,(X :: Y :: Z :: B).getD (j + 3) d = B.getD j d:=fun _ _ _ _=>rfl
    rcases List.eq_nil_or_concat W with rfl | ⟨W0,w,rfl⟩
    · have hz : decide ((0 : Int) < ((0 : Nat) : Int)) = false:=rfl
      have hS':=hS.fin
      have hcl:=hS.cls
      simp only [tF1,tF2]
      simp only [zW,zX,zD,builtinA,isLeaf,const1,Nat.reduceAdd,Nat.reduceMul,Nat.reduceSub,Nat.reduceLT,Nat.reduceLeDiff,Nat.reduceEqDiff,Nat.reduceBEq,Nat.reduceBNe,reduceIte,reduceCtorEq,Int.reduceToNat,Int.reduceLT,Int.reduceLE,Int.reduceEq,Int.reduceNe,Int.reduceNeg,ustrA,ti3,ti34,ti36,ti67,ti163,ti165,ti167,ti366,ti367,ca259,cf,Tryz.results197,hgj,hB,hz,decide_eq_true hS']
      exact ⟨hout _ _,m,rfl,fun _=>hcl⟩
    · have hwl : ((W0 ++ [w]).map (WI.row a0 b0)).length = W0.length + 1:=by simp
      have hcut : ((W0 ++ [w]).map (WI.row a0 b0)).take W0.length = W0.map (WI.row a0 b0):=by simp
      have hgw : ((W0 ++ [w]).map (WI.row a0 b0)).getD W0.length [] = w.row a0 b0:=by simp [List.getD]
      have hz : decide ((0 : Int) < ((W0.length + 1 : Nat) : Int)) = true:=decide_eq_true (by omega)
      have hm1 : ((W0.length + 1 : Nat) : Int) - 1 = (W0.length : Nat):=by omega
      have hW1 : 2 * (U.length - m.length) + (W0.length + 1) ≤ 2 * U.length + 1:=by simpa using hW
      rw [List.concat_eq_append] at hB hS
      have hB2 : ∀ L : List Box,(B ++ L).getD j .dead = .row 2 ((W0 ++ [w]).map (WI.row a0 b0)) 0:=fun L=>by rw [getD_app1 _ _ _ _ hj,hB]
      have hww : IntKind.i64.wrap ((W0.length : Nat) : Int) = (W0.length : Nat):=wrap64 (by omega) (by omega)
      have hq : ∀ (X Y : Box) (L : List Box) (d : Box),((B ++ [X]).set j Y ++ L).getD B.length d = X:=fun X Y L d=>by
        have h1 : B.length < ((B ++ [X]).set j Y).length:=by simp
        have h2 : j ≠ B.length:=by omega
        rw [getD_app1 _ _ _ _ h1,Go.Abs.getD_set_ne' h2,getD_app0]
        rfl
      have hq2 : ∀ (X Y Z d : Box),((B ++ [X]).set j Y ++ [Z]).getD (B.length + 1) d = Z:=fun X Y Z d=>by
        have e : ((B ++ [X]).set j Y).length = B.length + 1:=by simp
        rw [← e,getD_app0]
        rfl
      have hmm:=hmu (.ptr A.length 0) m B j _ hB
      simp only [tF1,tF2] at hmm ⊢
      rw [hmm,List.length_append,List.length_singleton]
      cases w with
      | ini =>
        have hn1 : (encIs [a0]).length = 1:=encIs_length _
        simp only [zW,zX,zD,builtinA,isLeaf,const1,Nat.reduceAdd,Nat.reduceMul,Nat.reduceSub,Nat.reduceLT,Nat.reduceLeDiff,Nat.reduceEqDiff,Nat.reduceBEq,Nat.reduceBNe,reduceIte,reduceCtorEq,Int.reduceToNat,Int.reduceLT,Int.reduceLE,Int.reduceEq,Int.reduceNe,Int.reduceNeg,ustrA,ti3,ti34,ti36,ti67,ti163,ti165,ti167,ti366,ti367,ca259,cf,Tryz.results197,hgj,hB,hB2,hwl,hcut,hgw,WI.row,hz,hm1,hww,hq,hn1]
        refine ⟨⟨by omega,by omega⟩,⟨by omega,by omega⟩,?_⟩
        refine aloop_intro [3,7,8,34,35,36] (fun e A'=>∃ k m' J' W' B' j',e = [(3,.ptr A.length 0),(7,.own (A.length + (j' + 3))),(8,.ptr (A.length + (B.length + 3)) 0),(34,.slice (encIs [a0])),(35,.int .i64 ((1 : Nat) : Int)),(36,.int .i64 (k : Nat))]
          ∧ A' = A.set i (.mapb (esOf m')) ++ (.cells [tF1,tF2,.map i] :: .cells (encI a0) :: .cells (encI b0) :: B') ∧ j' < B'.length ∧ B'.getD j' .dead = .row 2 (W'.map (WI.row a0 b0)) 0 ∧ B.length < B'.length ∧ B'.getD B.length .dead = .cells [.slice (encIs [a0]),.slice (encIs [b0])]
          ∧ 2 * (U.length - m'.length) + W'.length ≤ 2 * (U.length - m.length) + W0.length ∧ k ≤ 1 ∧ SI U a0 b0 m' J' W' (some .ini) ∧ ∀ q,q < k → Near (Eqv J') ([a0].getD q it0) ([b0].getD q it0)) (fun e _=>muI 1 e) ?_ ?_
        · refine ⟨0,m,J,W0,_,B.length + 1,rfl,rfl,by simp,hq2 _ _ _ _,by simp only [List.length_append,List.length_set,List.length_singleton]; omega,hq _ _ _ _,Nat.le_refl _,Nat.zero_le _,hS.pop,by simp⟩
        · rintro e A' ⟨k,m',J',W',B',j',rfl,rfl,hj',hB',hq',hBq,hle,hk,hS',hnear⟩
          have hgj' : ∀ X Y Z : Box,∀ (k : Nat) (d : Box),(X :: Y :: Z :: B').getD (k + 3) d = B'.getD k d:=fun _ _ _ _ _=>rfl
          have hcl:=hS'.ci.le
          have hW' : W'.length ≤ 600000000:=by omega
          have hWb : 2 * (U.length - m'.length) + W'.length ≤ 2 * U.length + 1:=by omega
          have hxy : 1 = [b0].length:=rfl
          have hB2' : ∀ L : List Box,(B' ++ L).getD j' .dead = .row 2 (W'.map (WI.row a0 b0)) 0:=fun L=>by rw [getD_app1 _ _ _ _ hj',hB']
          have hBq2 : ∀ L : List Box,(B' ++ L).getD B.length .dead = .cells [.slice (encIs [a0]),.slice (encIs [b0])]:=fun L=>by rw [getD_app1 _ _ _ _ hq',hBq]
          have hjq : j' ≠ B.length:=fun e=>by rw [e,hBq] at hB'; cases hB'
          have hq3 : ∀ (X Y Z W V R d : Box),((B' ++ [X,Y,Z,W]).set j' V ++ [R]).getD (B'.length + 4) d = R:=fun X Y Z W V R d=>by
            have e : ((B' ++ [X,Y,Z,W]).set j' V).length = B'.length + 4:=by simp
            rw [← e,getD_app0]
            rfl
          have hq4 : ∀ (X Y Z W V : Box) (L : List Box),((B' ++ [X,Y,Z,W]).set j' V ++ L).getD B.length .dead = .cells [.slice (encIs [a0]),.slice (encIs [b0])]:=fun X Y Z W V L=>by
            have h1 : B.length < ((B' ++ [X,Y,Z,W]).set j' V).length:=by simp only [List.length_append,List.length_set,List.length_cons,List.length_nil]; omega
            rw [getD_app1 _ _ _ _ h1,Go.Abs.getD_set_ne' hjq,hBq2]
          have hset : ∀ X Y (L : List Box),(A.set i X ++ L).set i Y = A.set i Y ++ L:=fun X Y L=>by rw [List.set_append_left _ _ (by simpa using hi),List.set_set]
          have hNb : 1 ≤ 1000000000:=by omega
          simp only [tF1,tF2]
          by_cases hlt : k < 1
          · have hlt1 : decide (((k : Nat) : Int) < ((1 : Nat) : Int)) = true:=decide_eq_true (by have h0 : k < 1:=hlt; omega)
            have hgx : (encIs [a0]).getD k [] = encI ([a0].getD k it0):=encIs_getD hlt
            have hgy : (encIs [b0]).getD k [] = encI ([b0].getD k it0):=encIs_getD (by omega)
            have hn2 : (encIs [b0]).length = 1:=(encIs_length _).trans hxy.symm
            generalize hs : [a0].getD k it0 = s at hgx
            generalize ht : [b0].getD k it0 = t at hgy
            simp only [zW,zX,zD,builtinA,isLeaf,const1,Nat.reduceAdd,Nat.reduceMul,Nat.reduceSub,Nat.reduceLT,Nat.reduceLeDiff,Nat.reduceEqDiff,Nat.reduceBEq,Nat.reduceBNe,reduceIte,reduceCtorEq,Int.reduceToNat,Int.reduceLT,Int.reduceLE,Int.reduceEq,Int.reduceNe,Int.reduceNeg,ustrA,ti3,ti34,ti36,ti67,ti163,ti165,ti167,ti366,ti367,ca259,cf,Tryz.results197,hgj',hB',hBq,hlt1,hgx,hgy,hn1,hn2,hB2',hBq2,encI_length,encI_take,encI_drop,frzL_encI]
            refine ⟨⟨by omega,by have h0 : k < 1:=hlt; omega⟩,⟨by omega,by have h0 : k < 1:=hlt; omega⟩,?_⟩
            have hks:=fun A=>tcI_kids s A
            have hkt:=fun A=>tcI_kids t A
            refine .inr (drawE_intro [(false,0,1),(false,0,1),(false,0,1),(false,0,1),(false,0,1),(false,0,1),(false,0,1),(false,0,1),(false,0,1),(true,0,0),(true,1,1)] [A.set i (.mapb (esOf m')) ++ (.cells [tF1,tF2,.map i] :: .cells (encI a0) :: .cells (encI b0) :: (B' ++ [.cells (encI s),.cells (encI t)])),A.set i (.mapb (esOf m')) ++ (.cells [tF1,tF2,.map i] :: .cells (encI a0) :: .cells (encI b0) :: (B' ++ [.cells (encI s),.cells (encI t),.cells [.nils,.nils]])),A.set i (.mapb (esOf m')) ++ (.cells [tF1,tF2,.map i] :: .cells (encI a0) :: .cells (encI b0) :: (B' ++ [.cells (encI s),.cells (encI t),.cells [kidsV s,kidsV t]]))] 2 rfl (by kernel_rfl) (by kernel_rfl) (by kernel_rfl) (by kernel_rfl) (by kernel_rfl) (by kernel_rfl) ?_)
            simp only [tF1,tF2]
            simp only [zW,zX,zD,builtinA,isLeaf,const1,Nat.reduceAdd,Nat.reduceMul,Nat.reduceSub,Nat.reduceLT,Nat.reduceLeDiff,Nat.reduceEqDiff,Nat.reduceBEq,Nat.reduceBNe,reduceIte,reduceCtorEq,Int.reduceToNat,Int.reduceLT,Int.reduceLE,Int.reduceEq,Int.reduceNe,Int.reduceNeg,ustrA,ti3,ti34,ti36,ti67,ti163,ti165,ti167,ti366,ti367,ca259,cf,Tryz.results197,encI_take]
            refine ⟨by rw [encI_length]; omega,by rw [encI_length]; omega,?_⟩
            refine wpG_callv _ _ _ _ _ _ _ _ _ _ _ _ _ _ _ _ _ ?_
            simp only [zW,zX,zD,builtinA,isLeaf,const1,Nat.reduceAdd,Nat.reduceMul,Nat.reduceSub,Nat.reduceLT,Nat.reduceLeDiff,Nat.reduceEqDiff,Nat.reduceBEq,Nat.reduceBNe,reduceIte,reduceCtorEq,Int.reduceToNat,Int.reduceLT,Int.reduceLE,Int.reduceEq,Int.reduceNe,Int.reduceNeg,ustrA,ti3,ti34,ti36,ti67,ti163,ti165,ti167,ti366,ti367,ca259,cf,Tryz.results197,CallVE_eq,List.nil_append,List.append_nil]
            refine ⟨by kernel_rfl,callEN_intro (fun A=>by simp only [zW,zX,zD,builtinA,isLeaf,const1,Nat.reduceAdd,Nat.reduceMul,Nat.reduceSub,Nat.reduceLT,Nat.reduceLeDiff,Nat.reduceEqDiff,Nat.reduceBEq,Nat.reduceBNe,reduceIte,reduceCtorEq,Int.reduceToNat,Int.reduceLT,Int.reduceLE,Int.reduceEq,Int.reduceNe,Int.reduceNeg,ustrA,frzL_encI,Option.map_some]) hks ?_ rfl rfl⟩
            simp only [zW,zX,zD,builtinA,isLeaf,const1,Nat.reduceAdd,Nat.reduceMul,Nat.reduceSub,Nat.reduceLT,Nat.reduceLeDiff,Nat.reduceEqDiff,Nat.reduceBEq,Nat.reduceBNe,reduceIte,reduceCtorEq,Int.reduceToNat,Int.reduceLT,Int.reduceLE,Int.reduceEq,Int.reduceNe,Int.reduceNeg,ustrA,ti3,ti34,ti36,ti67,ti163,ti165,ti167,ti366,ti367,ca259,cf,Tryz.results197,encI_take]
            refine ⟨by rw [encI_length]; omega,by rw [encI_length]; omega,?_⟩
            refine wpG_callv _ _ _ _ _ _ _ _ _ _ _ _ _ _ _ _ _ ?_
            simp only [zW,zX,zD,builtinA,isLeaf,const1,Nat.reduceAdd,Nat.reduceMul,Nat.reduceSub,Nat.reduceLT,Nat.reduceLeDiff,Nat.reduceEqDiff,Nat.reduceBEq,Nat.reduceBNe,reduceIte,reduceCtorEq,Int.reduceToNat,Int.reduceLT,Int.reduceLE,Int.reduceEq,Int.reduceNe,Int.reduceNeg,ustrA,ti3,ti34,ti36,ti67,ti163,ti165,ti167,ti366,ti367,ca259,cf,Tryz.results197,CallVE_eq,List.nil_append,List.append_nil]
            refine ⟨by kernel_rfl,callEN_intro (fun A=>by simp only [zW,zX,zD,builtinA,isLeaf,const1,Nat.reduceAdd,Nat.reduceMul,Nat.reduceSub,Nat.reduceLT,Nat.reduceLeDiff,Nat.reduceEqDiff,Nat.reduceBEq,Nat.reduceBNe,reduceIte,reduceCtorEq,Int.reduceToNat,Int.reduceLT,Int.reduceLE,Int.reduceEq,Int.reduceNe,Int.reduceNeg,ustrA,frzL_encI,Option.map_some]) hkt ?_ rfl rfl⟩
            have hbx : ∀ z,below s = some z → z ∈ U:=fun z hz=>ha z (by have hk0 : k = 0:=(by omega); subst hk0; simp at hs; subst hs; exact hz)
            have hby : ∀ z,below t = some z → z ∈ U:=fun z hz=>hb z (by have hk0 : k = 0:=(by omega); subst hk0; simp at ht; subst ht; exact hz)
            have hi1 : IntKind.i64.wrap ((k : Int) + 1) = ((k + 1 : Nat) : Int):=by rw [wrap64 (by omega) (by have h0 : k < 1:=hlt; omega)]; rfl
            have hnr : ∀ J2,(∀ x y,Eqv J' x y → Eqv J2 x y) → Near (Eqv J2) s t → ∀ q,q < k + 1 → Near (Eqv J2) ([a0].getD q it0) ([b0].getD q it0):=fun J2 hj hn q hq=>by
              rcases Nat.lt_or_ge q k with h | h
              · exact (hnear q h).mono hj
              · obtain rfl : q = k:=by omega
                rw [hs,ht]; exact hn
            have hmi : 1 - (((k + 1 : Nat) : Int)).toNat < 1 - ((k : Nat) : Int).toNat:=by have h0 : k < 1:=hlt; simp only [Int.toNat_natCast]; omega
            have hne : ¬ node s = node t → ¬ erase a0 = erase b0:=fun hn he=>hn (by
              have:=erases_at (hS'.er he _ (.inr rfl)) k
              simp only [WI.l1,WI.l2] at this
              rw [hs,ht] at this
              exact erase_node this)
            have hl1 : ∀ X Y Z : Box,j' < (B' ++ [X,Y,Z]).length:=fun X Y Z=>by rw [List.length_append]; omega
            have hl2 : ∀ X Y Z : Box,B.length < (B' ++ [X,Y,Z]).length:=fun X Y Z=>by rw [List.length_append]; omega
            have hb1 : (0 : Int) ≤ (k : Nat) ∧ ((k : Nat) : Int) < ((1 : Nat) : Int):=⟨by omega,by have h0 : k < 1:=hlt; omega⟩
            rcases kids_cases s with ⟨k1,e1,n1⟩ | ⟨x',k1,e1,n1⟩ <;> rcases kids_cases t with ⟨k2,e2,n2⟩ | ⟨y',k2,e2,n2⟩
            · have d0 : decide (¬ ((0 : Nat) : Int) = ((0 : Nat) : Int)) = false:=rfl
              by_cases hlab : lab s = lab t
              · have hnode : node s = node t:=(node_iff s t).2 ⟨hlab,by unfold klen; rw [n1,n2]⟩
                simp only [zW,zX,zD,builtinA,isLeaf,const1,Nat.reduceAdd,Nat.reduceMul,Nat.reduceSub,Nat.reduceLT,Nat.reduceLeDiff,Nat.reduceEqDiff,Nat.reduceBEq,Nat.reduceBNe,reduceIte,reduceCtorEq,Int.reduceToNat,Int.reduceLT,Int.reduceLE,Int.reduceEq,Int.reduceNe,Int.reduceNeg,ustrA,ti3,ti34,ti36,ti67,ti163,ti165,ti167,ti366,ti367,ca259,cf,Tryz.results197,e1,e2,d0,encI_take]
                refine ⟨by rw [encI_length]; omega,by rw [encI_length]; omega,?_⟩
                refine wpO_callv _ _ _ _ _ _ _ _ _ _ _ _ _ _ _ ?_
                simp only [zW,zX,zD,builtinA,isLeaf,const1,Nat.reduceAdd,Nat.reduceMul,Nat.reduceSub,Nat.reduceLT,Nat.reduceLeDiff,Nat.reduceEqDiff,Nat.reduceBEq,Nat.reduceBNe,reduceIte,reduceCtorEq,Int.reduceToNat,Int.reduceLT,Int.reduceLE,Int.reduceEq,Int.reduceNe,Int.reduceNeg,ustrA,ti3,ti34,ti36,ti67,ti163,ti165,ti167,ti366,ti367,ca259,cf,Tryz.results197,List.nil_append,List.append_nil]
                refine ⟨by kernel_rfl,?_⟩
                refine callK_intro (by simp only [zW,zX,zD,builtinA,isLeaf,const1,Nat.reduceAdd,Nat.reduceMul,Nat.reduceSub,Nat.reduceLT,Nat.reduceLeDiff,Nat.reduceEqDiff,Nat.reduceBEq,Nat.reduceBNe,reduceIte,reduceCtorEq,Int.reduceToNat,Int.reduceLT,Int.reduceLE,Int.reduceEq,Int.reduceNe,Int.reduceNeg,ustrA,frzL_encI,Option.map_some,List.cons_append,List.nil_append] <;> rfl) (tcI_same s t _) ?_ rfl
                rintro r A2 ⟨rfl,rfl⟩
                simp only [zW,zX,zD,builtinA,isLeaf,const1,Nat.reduceAdd,Nat.reduceMul,Nat.reduceSub,Nat.reduceLT,Nat.reduceLeDiff,Nat.reduceEqDiff,Nat.reduceBEq,Nat.reduceBNe,reduceIte,reduceCtorEq,Int.reduceToNat,Int.reduceLT,Int.reduceLE,Int.reduceEq,Int.reduceNe,Int.reduceNeg,ustrA,ti3,ti34,ti36,ti67,ti163,ti165,ti167,ti366,ti367,ca259,cf,Tryz.results197,decide_eq_true hlab]
                refine callK_intro (by simp only [zW,zX,zD,builtinA,isLeaf,const1,Nat.reduceAdd,Nat.reduceMul,Nat.reduceSub,Nat.reduceLT,Nat.reduceLeDiff,Nat.reduceEqDiff,Nat.reduceBEq,Nat.reduceBNe,reduceIte,reduceCtorEq,Int.reduceToNat,Int.reduceLT,Int.reduceLE,Int.reduceEq,Int.reduceNe,Int.reduceNeg,ustrA,Option.map_some] <;> rfl) (impl_join0 _ _) ?_ rfl
                rintro r A2 ⟨rfl,rfl⟩
                simp only [zW,zX,zD,builtinA,isLeaf,const1,Nat.reduceAdd,Nat.reduceMul,Nat.reduceSub,Nat.reduceLT,Nat.reduceLeDiff,Nat.reduceEqDiff,Nat.reduceBEq,Nat.reduceBNe,reduceIte,reduceCtorEq,Int.reduceToNat,Int.reduceLT,Int.reduceLE,Int.reduceEq,Int.reduceNe,Int.reduceNeg,ustrA,ti3,ti34,ti36,ti67,ti163,ti165,ti167,ti366,ti367,ca259,cf,Tryz.results197,hi1,LoopK_eq]
                exact ⟨⟨k + 1,m',J',W',_,j',rfl,rfl,hl1 _ _ _,hB2' _,hl2 _ _ _,hBq2 _,hle,hlt,hS',hnr J' (fun _ _ h=>h) ⟨hnode,.inl ⟨k1,k2⟩⟩⟩,hmi⟩
              · have hne':=hne (fun h=>hlab ((node_iff s t).1 h).1)
                simp only [zW,zX,zD,builtinA,isLeaf,const1,Nat.reduceAdd,Nat.reduceMul,Nat.reduceSub,Nat.reduceLT,Nat.reduceLeDiff,Nat.reduceEqDiff,Nat.reduceBEq,Nat.reduceBNe,reduceIte,reduceCtorEq,Int.reduceToNat,Int.reduceLT,Int.reduceLE,Int.reduceEq,Int.reduceNe,Int.reduceNeg,ustrA,ti3,ti34,ti36,ti67,ti163,ti165,ti167,ti366,ti367,ca259,cf,Tryz.results197,e1,e2,d0,encI_take]
                refine ⟨by rw [encI_length]; omega,by rw [encI_length]; omega,?_⟩
                refine wpO_callv _ _ _ _ _ _ _ _ _ _ _ _ _ _ _ ?_
                simp only [zW,zX,zD,builtinA,isLeaf,const1,Nat.reduceAdd,Nat.reduceMul,Nat.reduceSub,Nat.reduceLT,Nat.reduceLeDiff,Nat.reduceEqDiff,Nat.reduceBEq,Nat.reduceBNe,reduceIte,reduceCtorEq,Int.reduceToNat,Int.reduceLT,Int.reduceLE,Int.reduceEq,Int.reduceNe,Int.reduceNeg,ustrA,ti3,ti34,ti36,ti67,ti163,ti165,ti167,ti366,ti367,ca259,cf,Tryz.results197,List.nil_append,List.append_nil]
                refine ⟨by kernel_rfl,?_⟩
                refine callK_intro (by simp only [zW,zX,zD,builtinA,isLeaf,const1,Nat.reduceAdd,Nat.reduceMul,Nat.reduceSub,Nat.reduceLT,Nat.reduceLeDiff,Nat.reduceEqDiff,Nat.reduceBEq,Nat.reduceBNe,reduceIte,reduceCtorEq,Int.reduceToNat,Int.reduceLT,Int.reduceLE,Int.reduceEq,Int.reduceNe,Int.reduceNeg,ustrA,frzL_encI,Option.map_some,List.cons_append,List.nil_append] <;> rfl) (tcI_same s t _) ?_ rfl
                rintro r A2 ⟨rfl,rfl⟩
                simp only [zW,zX,zD,builtinA,isLeaf,const1,Nat.reduceAdd,Nat.reduceMul,Nat.reduceSub,Nat.reduceLT,Nat.reduceLeDiff,Nat.reduceEqDiff,Nat.reduceBEq,Nat.reduceBNe,reduceIte,reduceCtorEq,Int.reduceToNat,Int.reduceLT,Int.reduceLE,Int.reduceEq,Int.reduceNe,Int.reduceNeg,ustrA,ti3,ti34,ti36,ti67,ti163,ti165,ti167,ti366,ti367,ca259,cf,Tryz.results197,decide_eq_false hlab,decide_eq_false hne']
                exact ⟨hout _ _,m',rfl,fun h=>absurd h hne'⟩
            · have hyp : 0 < y'.ks.length:=by simp [LL.ks]
              have d0 : decide (((0 : Nat) : Int) = ((y'.ks.length : Nat) : Int)) = false:=decide_eq_false (by omega)
              have hne':=hne (fun h=>by have:=((node_iff s t).1 h).2; unfold klen at this; rw [n1,n2] at this; omega)
              simp only [zW,zX,zD,builtinA,isLeaf,const1,Nat.reduceAdd,Nat.reduceMul,Nat.reduceSub,Nat.reduceLT,Nat.reduceLeDiff,Nat.reduceEqDiff,Nat.reduceBEq,Nat.reduceBNe,reduceIte,reduceCtorEq,Int.reduceToNat,Int.reduceLT,Int.reduceLE,Int.reduceEq,Int.reduceNe,Int.reduceNeg,ustrA,ti3,ti34,ti36,ti67,ti163,ti165,ti167,ti366,ti367,ca259,cf,Tryz.results197,e1,e2,d0,encIs_length,encI_take,decide_eq_false hne']
              exact ⟨hout _ _,m',rfl,fun h=>absurd h hne'⟩
            · have hxp : 0 < x'.ks.length:=by simp [LL.ks]
              have d0 : decide (((x'.ks.length : Nat) : Int) = ((0 : Nat) : Int)) = false:=decide_eq_false (by omega)
              have hne':=hne (fun h=>by have:=((node_iff s t).1 h).2; unfold klen at this; rw [n1,n2] at this; omega)
              simp only [zW,zX,zD,builtinA,isLeaf,const1,Nat.reduceAdd,Nat.reduceMul,Nat.reduceSub,Nat.reduceLT,Nat.reduceLeDiff,Nat.reduceEqDiff,Nat.reduceBEq,Nat.reduceBNe,reduceIte,reduceCtorEq,Int.reduceToNat,Int.reduceLT,Int.reduceLE,Int.reduceEq,Int.reduceNe,Int.reduceNeg,ustrA,ti3,ti34,ti36,ti67,ti163,ti165,ti167,ti366,ti367,ca259,cf,Tryz.results197,e1,e2,d0,encIs_length,encI_take,decide_eq_false hne']
              exact ⟨hout _ _,m',rfl,fun h=>absurd h hne'⟩
            · by_cases hll : x'.ks.length = y'.ks.length
              · have d0 : decide (((x'.ks.length : Nat) : Int) = ((y'.ks.length : Nat) : Int)) = true:=decide_eq_true (by omega)
                by_cases hlab : lab s = lab t
                · have hnode : node s = node t:=(node_iff s t).2 ⟨hlab,by unfold klen; rw [n1,n2,hll]⟩
                  simp only [zW,zX,zD,builtinA,isLeaf,const1,Nat.reduceAdd,Nat.reduceMul,Nat.reduceSub,Nat.reduceLT,Nat.reduceLeDiff,Nat.reduceEqDiff,Nat.reduceBEq,Nat.reduceBNe,reduceIte,reduceCtorEq,Int.reduceToNat,Int.reduceLT,Int.reduceLE,Int.reduceEq,Int.reduceNe,Int.reduceNeg,ustrA,ti3,ti34,ti36,ti67,ti163,ti165,ti167,ti366,ti367,ca259,cf,Tryz.results197,e1,e2,d0,encIs_length,encI_take]
                  refine ⟨by rw [encI_length]; omega,by rw [encI_length]; omega,?_⟩
                  refine wpO_callv _ _ _ _ _ _ _ _ _ _ _ _ _ _ _ ?_
                  simp only [zW,zX,zD,builtinA,isLeaf,const1,Nat.reduceAdd,Nat.reduceMul,Nat.reduceSub,Nat.reduceLT,Nat.reduceLeDiff,Nat.reduceEqDiff,Nat.reduceBEq,Nat.reduceBNe,reduceIte,reduceCtorEq,Int.reduceToNat,Int.reduceLT,Int.reduceLE,Int.reduceEq,Int.reduceNe,Int.reduceNeg,ustrA,ti3,ti34,ti36,ti67,ti163,ti165,ti167,ti366,ti367,ca259,cf,Tryz.results197,List.nil_append,List.append_nil]
                  refine ⟨by kernel_rfl,?_⟩
                  refine callK_intro (by simp only [zW,zX,zD,builtinA,isLeaf,const1,Nat.reduceAdd,Nat.reduceMul,Nat.reduceSub,Nat.reduceLT,Nat.reduceLeDiff,Nat.reduceEqDiff,Nat.reduceBEq,Nat.reduceBNe,reduceIte,reduceCtorEq,Int.reduceToNat,Int.reduceLT,Int.reduceLE,Int.reduceEq,Int.reduceNe,Int.reduceNeg,ustrA,frzL_encI,Option.map_some,List.cons_append,List.nil_append] <;> rfl) (tcI_same s t _) ?_ rfl
                  rintro r A2 ⟨rfl,rfl⟩
                  simp only [zW,zX,zD,builtinA,isLeaf,const1,Nat.reduceAdd,Nat.reduceMul,Nat.reduceSub,Nat.reduceLT,Nat.reduceLeDiff,Nat.reduceEqDiff,Nat.reduceBEq,Nat.reduceBNe,reduceIte,reduceCtorEq,Int.reduceToNat,Int.reduceLT,Int.reduceLE,Int.reduceEq,Int.reduceNe,Int.reduceNeg,ustrA,ti3,ti34,ti36,ti67,ti163,ti165,ti167,ti366,ti367,ca259,cf,Tryz.results197,decide_eq_true hlab]
                  refine callK_intro (by simp only [zW,zX,zD,builtinA,isLeaf,const1,Nat.reduceAdd,Nat.reduceMul,Nat.reduceSub,Nat.reduceLT,Nat.reduceLeDiff,Nat.reduceEqDiff,Nat.reduceBEq,Nat.reduceBNe,reduceIte,reduceCtorEq,Int.reduceToNat,Int.reduceLT,Int.reduceLE,Int.reduceEq,Int.reduceNe,Int.reduceNeg,ustrA] <;> rfl) (impl_join hU (fun x=>.refl x) (fun _ _ _ h k=>.trans h k) (fun _ _ h=>.symm h) m' hS'.ci x' y' (hbx x' k1) (hby y' k2) i _ (by simp; omega) (hgA _ _)) ?_ rfl
                  rintro v A3 ⟨m2,rfl,⟨rfl,hr,hc2,hm2⟩ | ⟨rfl,hm2,hc2⟩⟩
                  · simp only [zW,zX,zD,builtinA,isLeaf,const1,Nat.reduceAdd,Nat.reduceMul,Nat.reduceSub,Nat.reduceLT,Nat.reduceLeDiff,Nat.reduceEqDiff,Nat.reduceBEq,Nat.reduceBNe,reduceIte,reduceCtorEq,Int.reduceToNat,Int.reduceLT,Int.reduceLE,Int.reduceEq,Int.reduceNe,Int.reduceNeg,ustrA,ti3,ti34,ti36,ti67,ti163,ti165,ti167,ti366,ti367,ca259,cf,Tryz.results197,hset,hi1,LoopK_eq]
                    exact ⟨⟨k + 1,m2,J',W',_,j',rfl,rfl,hl1 _ _ _,hB2' _,hl2 _ _ _,hBq2 _,by rw [hm2]; exact hle,hlt,hS'.same hc2,hnr J' (fun _ _ h=>h) ⟨hnode,.inr ⟨x',y',k1,k2,hr⟩⟩⟩,hmi⟩
                  · have hSm:=hS'.more (hbx x' k1) (hby y' k2) hll (hc2 (Eqv ((x',y') :: J')) (eqv_more _) (fun _ _ h=>.symm h) (fun _ _ _ h k=>.trans h k) (.base (by simp))) (fun he=>by
                      have:=erases_at (hS'.er he _ (.inr rfl)) k
                      simp only [WI.l1,WI.l2] at this
                      rw [hs,ht] at this
                      exact erase_kids this k1 k2)
                    have hsl:=hSm.ci.le
                    have hrow : W'.map (WI.row a0 b0) ++ [[.islice x'.b x'.off (encIs x'.ks),.islice y'.b y'.off (encIs y'.ks)]] = (W' ++ [WI.pr x' y']).map (WI.row a0 b0):=by simp [WI.row]
                    have hleaf : ∀ v ∈ [AV.islice x'.b x'.off (encIs x'.ks),.islice y'.b y'.off (encIs y'.ks)],isLeaf v = true:=by simp [isLeaf]
                    simp only [zW,zX,zD,builtinA,isLeaf,const1,Nat.reduceAdd,Nat.reduceMul,Nat.reduceSub,Nat.reduceLT,Nat.reduceLeDiff,Nat.reduceEqDiff,Nat.reduceBEq,Nat.reduceBNe,reduceIte,reduceCtorEq,Int.reduceToNat,Int.reduceLT,Int.reduceLE,Int.reduceEq,Int.reduceNe,Int.reduceNeg,ustrA,ti3,ti34,ti36,ti67,ti163,ti165,ti167,ti366,ti367,ca259,cf,Tryz.results197,hset,hgj',hB2',hrow,hi1,LoopK_eq]
                    refine ⟨fun v hv=>hleaf v hv,⟨by simp,by rw [List.length_map]; omega⟩,⟨k + 1,m2,(x',y') :: J',W' ++ [.pr x' y'],_,B'.length + 4,rfl,rfl,?_,hq3 _ _ _ _ _ _ _,?_,hq4 _ _ _ _ _ _,?_,hlt,hSm,hnr _ (eqv_more _) ⟨hnode,.inr ⟨x',y',k1,k2,.base (by simp)⟩⟩⟩,hmi⟩
                    · simp only [List.length_append,List.length_set,List.length_cons,List.length_nil]; omega
                    · simp only [List.length_append,List.length_set,List.length_cons,List.length_nil]; omega
                    · rw [List.length_append,List.length_singleton]; omega
                · have hne':=hne (fun h=>hlab ((node_iff s t).1 h).1)
                  simp only [zW,zX,zD,builtinA,isLeaf,const1,Nat.reduceAdd,Nat.reduceMul,Nat.reduceSub,Nat.reduceLT,Nat.reduceLeDiff,Nat.reduceEqDiff,Nat.reduceBEq,Nat.reduceBNe,reduceIte,reduceCtorEq,Int.reduceToNat,Int.reduceLT,Int.reduceLE,Int.reduceEq,Int.reduceNe,Int.reduceNeg,ustrA,ti3,ti34,ti36,ti67,ti163,ti165,ti167,ti366,ti367,ca259,cf,Tryz.results197,e1,e2,d0,encIs_length,encI_take]
                  refine ⟨by rw [encI_length]; omega,by rw [encI_length]; omega,?_⟩
                  refine wpO_callv _ _ _ _ _ _ _ _ _ _ _ _ _ _ _ ?_
                  simp only [zW,zX,zD,builtinA,isLeaf,const1,Nat.reduceAdd,Nat.reduceMul,Nat.reduceSub,Nat.reduceLT,Nat.reduceLeDiff,Nat.reduceEqDiff,Nat.reduceBEq,Nat.reduceBNe,reduceIte,reduceCtorEq,Int.reduceToNat,Int.reduceLT,Int.reduceLE,Int.reduceEq,Int.reduceNe,Int.reduceNeg,ustrA,ti3,ti34,ti36,ti67,ti163,ti165,ti167,ti366,ti367,ca259,cf,Tryz.results197,List.nil_append,List.append_nil]
                  refine ⟨by kernel_rfl,?_⟩
                  refine callK_intro (by simp only [zW,zX,zD,builtinA,isLeaf,const1,Nat.reduceAdd,Nat.reduceMul,Nat.reduceSub,Nat.reduceLT,Nat.reduceLeDiff,Nat.reduceEqDiff,Nat.reduceBEq,Nat.reduceBNe,reduceIte,reduceCtorEq,Int.reduceToNat,Int.reduceLT,Int.reduceLE,Int.reduceEq,Int.reduceNe,Int.reduceNeg,ustrA,frzL_encI,Option.map_some,List.cons_append,List.nil_append] <;> rfl) (tcI_same s t _) ?_ rfl
                  rintro r A2 ⟨rfl,rfl⟩
                  simp only [zW,zX,zD,builtinA,isLeaf,const1,Nat.reduceAdd,Nat.reduceMul,Nat.reduceSub,Nat.reduceLT,Nat.reduceLeDiff,Nat.reduceEqDiff,Nat.reduceBEq,Nat.reduceBNe,reduceIte,reduceCtorEq,Int.reduceToNat,Int.reduceLT,Int.reduceLE,Int.reduceEq,Int.reduceNe,Int.reduceNeg,ustrA,ti3,ti34,ti36,ti67,ti163,ti165,ti167,ti366,ti367,ca259,cf,Tryz.results197,decide_eq_false hlab,decide_eq_false hne']
                  exact ⟨hout _ _,m',rfl,fun h=>absurd h hne'⟩
              · have d0 : decide (((x'.ks.length : Nat) : Int) = ((y'.ks.length : Nat) : Int)) = false:=decide_eq_false (by omega)
                have hne':=hne (fun h=>by have:=((node_iff s t).1 h).2; unfold klen at this; rw [n1,n2] at this; omega)
                simp only [zW,zX,zD,builtinA,isLeaf,const1,Nat.reduceAdd,Nat.reduceMul,Nat.reduceSub,Nat.reduceLT,Nat.reduceLeDiff,Nat.reduceEqDiff,Nat.reduceBEq,Nat.reduceBNe,reduceIte,reduceCtorEq,Int.reduceToNat,Int.reduceLT,Int.reduceLE,Int.reduceEq,Int.reduceNe,Int.reduceNeg,ustrA,ti3,ti34,ti36,ti67,ti163,ti165,ti167,ti366,ti367,ca259,cf,Tryz.results197,e1,e2,d0,encIs_length,encI_take,decide_eq_false hne']
                exact ⟨hout _ _,m',rfl,fun h=>absurd h hne'⟩
          · have hlt1 : decide (((k : Nat) : Int) < ((1 : Nat) : Int)) = false:=decide_eq_false (by have h0 : ¬ k < 1:=hlt; omega)
            have hmu2:=hmu (.ptr A.length 0) m' B' j' W' hB'
            simp only [zW,zX,zD,builtinA,isLeaf,const1,Nat.reduceAdd,Nat.reduceMul,Nat.reduceSub,Nat.reduceLT,Nat.reduceLeDiff,Nat.reduceEqDiff,Nat.reduceBEq,Nat.reduceBNe,reduceIte,reduceCtorEq,Int.reduceToNat,Int.reduceLT,Int.reduceLE,Int.reduceEq,Int.reduceNe,Int.reduceNeg,ustrA,ti3,ti34,ti36,ti67,ti163,ti165,ti167,ti366,ti367,ca259,cf,Tryz.results197,hgj',hB',hBq,hlt1,LoopK_eq]
            have hdn:=hS'.done hxy (fun q hq=>hnear q (by
              have hq' : q < 1:=hq
              have h0 : ¬ k < 1:=hlt
              omega))
            refine ⟨⟨m',J',W',B',j',rfl,rfl,hj',hB',hWb,hdn⟩,?_⟩
            rw [hmu2]
            omega
      | pr x y =>
        have hn1 : (encIs x.ks).length = x.ks.length:=encIs_length _
        simp only [zW,zX,zD,builtinA,isLeaf,const1,Nat.reduceAdd,Nat.reduceMul,Nat.reduceSub,Nat.reduceLT,Nat.reduceLeDiff,Nat.reduceEqDiff,Nat.reduceBEq,Nat.reduceBNe,reduceIte,reduceCtorEq,Int.reduceToNat,Int.reduceLT,Int.reduceLE,Int.reduceEq,Int.reduceNe,Int.reduceNeg,ustrA,ti3,ti34,ti36,ti67,ti163,ti165,ti167,ti366,ti367,ca259,cf,Tryz.results197,hgj,hB,hB2,hwl,hcut,hgw,WI.row,hz,hm1,hww,hq,hn1]
        refine ⟨⟨by omega,by omega⟩,⟨by omega,by omega⟩,?_⟩
        refine aloop_intro [3,7,8,34,35,36] (fun e A'=>∃ k m' J' W' B' j',e = [(3,.ptr A.length 0),(7,.own (A.length + (j' + 3))),(8,.ptr (A.length + (B.length + 3)) 0),(34,.islice x.b x.off (encIs x.ks)),(35,.int .i64 ((x.ks.length : Nat) : Int)),(36,.int .i64 (k : Nat))]
          ∧ A' = A.set i (.mapb (esOf m')) ++ (.cells [tF1,tF2,.map i] :: .cells (encI a0) :: .cells (encI b0) :: B') ∧ j' < B'.length ∧ B'.getD j' .dead = .row 2 (W'.map (WI.row a0 b0)) 0 ∧ B.length < B'.length ∧ B'.getD B.length .dead = .cells [.islice x.b x.off (encIs x.ks),.islice y.b y.off (encIs y.ks)]
          ∧ 2 * (U.length - m'.length) + W'.length ≤ 2 * (U.length - m.length) + W0.length ∧ k ≤ x.ks.length ∧ SI U a0 b0 m' J' W' (some (.pr x y)) ∧ ∀ q,q < k → Near (Eqv J') (x.ks.getD q it0) (y.ks.getD q it0)) (fun e _=>muI x.ks.length e) ?_ ?_
        · refine ⟨0,m,J,W0,_,B.length + 1,rfl,rfl,by simp,hq2 _ _ _ _,by simp only [List.length_append,List.length_set,List.length_singleton]; omega,hq _ _ _ _,Nat.le_refl _,Nat.zero_le _,hS.pop,by simp⟩
        · rintro e A' ⟨k,m',J',W',B',j',rfl,rfl,hj',hB',hq',hBq,hle,hk,hS',hnear⟩
          have hgj' : ∀ X Y Z : Box,∀ (k : Nat) (d : Box),(X :: Y :: Z :: B').getD (k + 3) d = B'.getD k d:=fun _ _ _ _ _=>rfl
          have hcl:=hS'.ci.le
          have hW' : W'.length ≤ 600000000:=by omega
          have hWb : 2 * (U.length - m'.length) + W'.length ≤ 2 * U.length + 1:=by omega
          have hxy : x.ks.length = y.ks.length:=(hS'.ws x y (.inr rfl)).2.2
          have hB2' : ∀ L : List Box,(B' ++ L).getD j' .dead = .row 2 (W'.map (WI.row a0 b0)) 0:=fun L=>by rw [getD_app1 _ _ _ _ hj',hB']
          have hBq2 : ∀ L : List Box,(B' ++ L).getD B.length .dead = .cells [.islice x.b x.off (encIs x.ks),.islice y.b y.off (encIs y.ks)]:=fun L=>by rw [getD_app1 _ _ _ _ hq',hBq]
          have hjq : j' ≠ B.length:=fun e=>by rw [e,hBq] at hB'; cases hB'
          have hq3 : ∀ (X Y Z W V R d : Box),((B' ++ [X,Y,Z,W]).set j' V ++ [R]).getD (B'.length + 4) d = R:=fun X Y Z W V R d=>by
            have e : ((B' ++ [X,Y,Z,W]).set j' V).length = B'.length + 4:=by simp
            rw [← e,getD_app0]
            rfl
          have hq4 : ∀ (X Y Z W V : Box) (L : List Box),((B' ++ [X,Y,Z,W]).set j' V ++ L).getD B.length .dead = .cells [.islice x.b x.off (encIs x.ks),.islice y.b y.off (encIs y.ks)]:=fun X Y Z W V L=>by
            have h1 : B.length < ((B' ++ [X,Y,Z,W]).set j' V).length:=by simp only [List.length_append,List.length_set,List.length_cons,List.length_nil]; omega
            rw [getD_app1 _ _ _ _ h1,Go.Abs.getD_set_ne' hjq,hBq2]
          have hset : ∀ X Y (L : List Box),(A.set i X ++ L).set i Y = A.set i Y ++ L:=fun X Y L=>by rw [List.set_append_left _ _ (by simpa using hi),List.set_set]
          have hNb : x.ks.length ≤ 1000000000:=hL x (hS'.ws x y (.inr rfl)).1
          simp only [tF1,tF2]
          by_cases hlt : k < x.ks.length
          · have hlt1 : decide (((k : Nat) : Int) < ((x.ks.length : Nat) : Int)) = true:=decide_eq_true (by have h0 : k < x.ks.length:=hlt; omega)
            have hgx : (encIs x.ks).getD k [] = encI (x.ks.getD k it0):=encIs_getD hlt
            have hgy : (encIs y.ks).getD k [] = encI (y.ks.getD k it0):=encIs_getD (by omega)
            have hn2 : (encIs y.ks).length = x.ks.length:=(encIs_length _).trans hxy.symm
            generalize hs : x.ks.getD k it0 = s at hgx
            generalize ht : y.ks.getD k it0 = t at hgy
            simp only [zW,zX,zD,builtinA,isLeaf,const1,Nat.reduceAdd,Nat.reduceMul,Nat.reduceSub,Nat.reduceLT,Nat.reduceLeDiff,Nat.reduceEqDiff,Nat.reduceBEq,Nat.reduceBNe,reduceIte,reduceCtorEq,Int.reduceToNat,Int.reduceLT,Int.reduceLE,Int.reduceEq,Int.reduceNe,Int.reduceNeg,ustrA,ti3,ti34,ti36,ti67,ti163,ti165,ti167,ti366,ti367,ca259,cf,Tryz.results197,hgj',hB',hBq,hlt1,hgx,hgy,hn1,hn2,hB2',hBq2,encI_length,encI_take,encI_drop,frzL_encI]
            refine ⟨⟨by omega,by have h0 : k < x.ks.length:=hlt; omega⟩,⟨by omega,by have h0 : k < x.ks.length:=hlt; omega⟩,?_⟩
            have hks:=fun A=>tcI_kids s A
            have hkt:=fun A=>tcI_kids t A
            refine .inr (drawE_intro [(false,0,1),(false,0,1),(false,0,1),(false,0,1),(false,0,1),(false,0,1),(false,0,1),(false,0,1),(false,0,1),(true,0,0),(true,1,1)] [A.set i (.mapb (esOf m')) ++ (.cells [tF1,tF2,.map i] :: .cells (encI a0) :: .cells (encI b0) :: (B' ++ [.cells (encI s),.cells (encI t)])),A.set i (.mapb (esOf m')) ++ (.cells [tF1,tF2,.map i] :: .cells (encI a0) :: .cells (encI b0) :: (B' ++ [.cells (encI s),.cells (encI t),.cells [.nils,.nils]])),A.set i (.mapb (esOf m')) ++ (.cells [tF1,tF2,.map i] :: .cells (encI a0) :: .cells (encI b0) :: (B' ++ [.cells (encI s),.cells (encI t),.cells [kidsV s,kidsV t]]))] 2 rfl (by kernel_rfl) (by kernel_rfl) (by kernel_rfl) (by kernel_rfl) (by kernel_rfl) (by kernel_rfl) ?_)
            simp only [tF1,tF2]
            simp only [zW,zX,zD,builtinA,isLeaf,const1,Nat.reduceAdd,Nat.reduceMul,Nat.reduceSub,Nat.reduceLT,Nat.reduceLeDiff,Nat.reduceEqDiff,Nat.reduceBEq,Nat.reduceBNe,reduceIte,reduceCtorEq,Int.reduceToNat,Int.reduceLT,Int.reduceLE,Int.reduceEq,Int.reduceNe,Int.reduceNeg,ustrA,ti3,ti34,ti36,ti67,ti163,ti165,ti167,ti366,ti367,ca259,cf,Tryz.results197,encI_take]
            refine ⟨by rw [encI_length]; omega,by rw [encI_length]; omega,?_⟩
            refine wpG_callv _ _ _ _ _ _ _ _ _ _ _ _ _ _ _ _ _ ?_
            simp only [zW,zX,zD,builtinA,isLeaf,const1,Nat.reduceAdd,Nat.reduceMul,Nat.reduceSub,Nat.reduceLT,Nat.reduceLeDiff,Nat.reduceEqDiff,Nat.reduceBEq,Nat.reduceBNe,reduceIte,reduceCtorEq,Int.reduceToNat,Int.reduceLT,Int.reduceLE,Int.reduceEq,Int.reduceNe,Int.reduceNeg,ustrA,ti3,ti34,ti36,ti67,ti163,ti165,ti167,ti366,ti367,ca259,cf,Tryz.results197,CallVE_eq,List.nil_append,List.append_nil]
            refine ⟨by kernel_rfl,callEN_intro (fun A=>by simp only [zW,zX,zD,builtinA,isLeaf,const1,Nat.reduceAdd,Nat.reduceMul,Nat.reduceSub,Nat.reduceLT,Nat.reduceLeDiff,Nat.reduceEqDiff,Nat.reduceBEq,Nat.reduceBNe,reduceIte,reduceCtorEq,Int.reduceToNat,Int.reduceLT,Int.reduceLE,Int.reduceEq,Int.reduceNe,Int.reduceNeg,ustrA,frzL_encI,Option.map_some]) hks ?_ rfl rfl⟩
            simp only [zW,zX,zD,builtinA,isLeaf,const1,Nat.reduceAdd,Nat.reduceMul,Nat.reduceSub,Nat.reduceLT,Nat.reduceLeDiff,Nat.reduceEqDiff,Nat.reduceBEq,Nat.reduceBNe,reduceIte,reduceCtorEq,Int.reduceToNat,Int.reduceLT,Int.reduceLE,Int.reduceEq,Int.reduceNe,Int.reduceNeg,ustrA,ti3,ti34,ti36,ti67,ti163,ti165,ti167,ti366,ti367,ca259,cf,Tryz.results197,encI_take]
            refine ⟨by rw [encI_length]; omega,by rw [encI_length]; omega,?_⟩
            refine wpG_callv _ _ _ _ _ _ _ _ _ _ _ _ _ _ _ _ _ ?_
            simp only [zW,zX,zD,builtinA,isLeaf,const1,Nat.reduceAdd,Nat.reduceMul,Nat.reduceSub,Nat.reduceLT,Nat.reduceLeDiff,Nat.reduceEqDiff,Nat.reduceBEq,Nat.reduceBNe,reduceIte,reduceCtorEq,Int.reduceToNat,Int.reduceLT,Int.reduceLE,Int.reduceEq,Int.reduceNe,Int.reduceNeg,ustrA,ti3,ti34,ti36,ti67,ti163,ti165,ti167,ti366,ti367,ca259,cf,Tryz.results197,CallVE_eq,List.nil_append,List.append_nil]
            refine ⟨by kernel_rfl,callEN_intro (fun A=>by simp only [zW,zX,zD,builtinA,isLeaf,const1,Nat.reduceAdd,Nat.reduceMul,Nat.reduceSub,Nat.reduceLT,Nat.reduceLeDiff,Nat.reduceEqDiff,Nat.reduceBEq,Nat.reduceBNe,reduceIte,reduceCtorEq,Int.reduceToNat,Int.reduceLT,Int.reduceLE,Int.reduceEq,Int.reduceNe,Int.reduceNeg,ustrA,frzL_encI,Option.map_some]) hkt ?_ rfl rfl⟩
            have hbx : ∀ z,below s = some z → z ∈ U:=fun z hz=>hU.down x (hS'.ws x y (.inr rfl)).1 s (hs ▸ Go.Abs.getD_mem hlt) z hz
            have hby : ∀ z,below t = some z → z ∈ U:=fun z hz=>hU.down y (hS'.ws x y (.inr rfl)).2.1 t (ht ▸ Go.Abs.getD_mem (by omega)) z hz
            have hi1 : IntKind.i64.wrap ((k : Int) + 1) = ((k + 1 : Nat) : Int):=by rw [wrap64 (by omega) (by have h0 : k < x.ks.length:=hlt; omega)]; rfl
            have hnr : ∀ J2,(∀ x y,Eqv J' x y → Eqv J2 x y) → Near (Eqv J2) s t → ∀ q,q < k + 1 → Near (Eqv J2) (x.ks.getD q it0) (y.ks.getD q it0):=fun J2 hj hn q hq=>by
              rcases Nat.lt_or_ge q k with h | h
              · exact (hnear q h).mono hj
              · obtain rfl : q = k:=by omega
                rw [hs,ht]; exact hn
            have hmi : x.ks.length - (((k + 1 : Nat) : Int)).toNat < x.ks.length - ((k : Nat) : Int).toNat:=by have h0 : k < x.ks.length:=hlt; simp only [Int.toNat_natCast]; omega
            have hne : ¬ node s = node t → ¬ erase a0 = erase b0:=fun hn he=>hn (by
              have:=erases_at (hS'.er he _ (.inr rfl)) k
              simp only [WI.l1,WI.l2] at this
              rw [hs,ht] at this
              exact erase_node this)
            have hl1 : ∀ X Y Z : Box,j' < (B' ++ [X,Y,Z]).length:=fun X Y Z=>by rw [List.length_append]; omega
            have hl2 : ∀ X Y Z : Box,B.length < (B' ++ [X,Y,Z]).length:=fun X Y Z=>by rw [List.length_append]; omega
            have hb1 : (0 : Int) ≤ (k : Nat) ∧ ((k : Nat) : Int) < ((x.ks.length : Nat) : Int):=⟨by omega,by have h0 : k < x.ks.length:=hlt; omega⟩
            rcases kids_cases s with ⟨k1,e1,n1⟩ | ⟨x',k1,e1,n1⟩ <;> rcases kids_cases t with ⟨k2,e2,n2⟩ | ⟨y',k2,e2,n2⟩
            · have d0 : decide (¬ ((0 : Nat) : Int) = ((0 : Nat) : Int)) = false:=rfl
              by_cases hlab : lab s = lab t
              · have hnode : node s = node t:=(node_iff s t).2 ⟨hlab,by unfold klen; rw [n1,n2]⟩
                simp only [zW,zX,zD,builtinA,isLeaf,const1,Nat.reduceAdd,Nat.reduceMul,Nat.reduceSub,Nat.reduceLT,Nat.reduceLeDiff,Nat.reduceEqDiff,Nat.reduceBEq,Nat.reduceBNe,reduceIte,reduceCtorEq,Int.reduceToNat,Int.reduceLT,Int.reduceLE,Int.reduceEq,Int.reduceNe,Int.reduceNeg,ustrA,ti3,ti34,ti36,ti67,ti163,ti165,ti167,ti366,ti367,ca259,cf,Tryz.results197,e1,e2,d0,encI_take]
                refine ⟨by rw [encI_length]; omega,by rw [encI_length]; omega,?_⟩
                refine wpO_callv _ _ _ _ _ _ _ _ _ _ _ _ _ _ _ ?_
                simp only [zW,zX,zD,builtinA,isLeaf,const1,Nat.reduceAdd,Nat.reduceMul,Nat.reduceSub,Nat.reduceLT,Nat.reduceLeDiff,Nat.reduceEqDiff,Nat.reduceBEq,Nat.reduceBNe,reduceIte,reduceCtorEq,Int.reduceToNat,Int.reduceLT,Int.reduceLE,Int.reduceEq,Int.reduceNe,Int.reduceNeg,ustrA,ti3,ti34,ti36,ti67,ti163,ti165,ti167,ti366,ti367,ca259,cf,Tryz.results197,List.nil_append,List.append_nil]
                refine ⟨by kernel_rfl,?_⟩
                refine callK_intro (by simp only [zW,zX,zD,builtinA,isLeaf,const1,Nat.reduceAdd,Nat.reduceMul,Nat.reduceSub,Nat.reduceLT,Nat.reduceLeDiff,Nat.reduceEqDiff,Nat.reduceBEq,Nat.reduceBNe,reduceIte,reduceCtorEq,Int.reduceToNat,Int.reduceLT,Int.reduceLE,Int.reduceEq,Int.reduceNe,Int.reduceNeg,ustrA,frzL_encI,Option.map_some,List.cons_append,List.nil_append] <;> rfl) (tcI_same s t _) ?_ rfl
                rintro r A2 ⟨rfl,rfl⟩
                simp only [zW,zX,zD,builtinA,isLeaf,const1,Nat.reduceAdd,Nat.reduceMul,Nat.reduceSub,Nat.reduceLT,Nat.reduceLeDiff,Nat.reduceEqDiff,Nat.reduceBEq,Nat.reduceBNe,reduceIte,reduceCtorEq,Int.reduceToNat,Int.reduceLT,Int.reduceLE,Int.reduceEq,Int.reduceNe,Int.reduceNeg,ustrA,ti3,ti34,ti36,ti67,ti163,ti165,ti167,ti366,ti367,ca259,cf,Tryz.results197,decide_eq_true hlab]
                refine callK_intro (by simp only [zW,zX,zD,builtinA,isLeaf,const1,Nat.reduceAdd,Nat.reduceMul,Nat.reduceSub,Nat.reduceLT,Nat.reduceLeDiff,Nat.reduceEqDiff,Nat.reduceBEq,Nat.reduceBNe,reduceIte,reduceCtorEq,Int.reduceToNat,Int.reduceLT,Int.reduceLE,Int.reduceEq,Int.reduceNe,Int.reduceNeg,ustrA,Option.map_some] <;> rfl) (impl_join0 _ _) ?_ rfl
                rintro r A2 ⟨rfl,rfl⟩
                simp only [zW,zX,zD,builtinA,isLeaf,const1,Nat.reduceAdd,Nat.reduceMul,Nat.reduceSub,Nat.reduceLT,Nat.reduceLeDiff,Nat.reduceEqDiff,Nat.reduceBEq,Nat.reduceBNe,reduceIte,reduceCtorEq,Int.reduceToNat,Int.reduceLT,Int.reduceLE,Int.reduceEq,Int.reduceNe,Int.reduceNeg,ustrA,ti3,ti34,ti36,ti67,ti163,ti165,ti167,ti366,ti367,ca259,cf,Tryz.results197,hi1,LoopK_eq]
                exact ⟨⟨k + 1,m',J',W',_,j',rfl,rfl,hl1 _ _ _,hB2' _,hl2 _ _ _,hBq2 _,hle,hlt,hS',hnr J' (fun _ _ h=>h) ⟨hnode,.inl ⟨k1,k2⟩⟩⟩,hmi⟩
              · have hne':=hne (fun h=>hlab ((node_iff s t).1 h).1)
                simp only [zW,zX,zD,builtinA,isLeaf,const1,Nat.reduceAdd,Nat.reduceMul,Nat.reduceSub,Nat.reduceLT,Nat.reduceLeDiff,Nat.reduceEqDiff,Nat.reduceBEq,Nat.reduceBNe,reduceIte,reduceCtorEq,Int.reduceToNat,Int.reduceLT,Int.reduceLE,Int.reduceEq,Int.reduceNe,Int.reduceNeg,ustrA,ti3,ti34,ti36,ti67,ti163,ti165,ti167,ti366,ti367,ca259,cf,Tryz.results197,e1,e2,d0,encI_take]
                refine ⟨by rw [encI_length]; omega,by rw [encI_length]; omega,?_⟩
                refine wpO_callv _ _ _ _ _ _ _ _ _ _ _ _ _ _ _ ?_
                simp only [zW,zX,zD,builtinA,isLeaf,const1,Nat.reduceAdd,Nat.reduceMul,Nat.reduceSub,Nat.reduceLT,Nat.reduceLeDiff,Nat.reduceEqDiff,Nat.reduceBEq,Nat.reduceBNe,reduceIte,reduceCtorEq,Int.reduceToNat,Int.reduceLT,Int.reduceLE,Int.reduceEq,Int.reduceNe,Int.reduceNeg,ustrA,ti3,ti34,ti36,ti67,ti163,ti165,ti167,ti366,ti367,ca259,cf,Tryz.results197,List.nil_append,List.append_nil]
                refine ⟨by kernel_rfl,?_⟩
                refine callK_intro (by simp only [zW,zX,zD,builtinA,isLeaf,const1,Nat.reduceAdd,Nat.reduceMul,Nat.reduceSub,Nat.reduceLT,Nat.reduceLeDiff,Nat.reduceEqDiff,Nat.reduceBEq,Nat.reduceBNe,reduceIte,reduceCtorEq,Int.reduceToNat,Int.reduceLT,Int.reduceLE,Int.reduceEq,Int.reduceNe,Int.reduceNeg,ustrA,frzL_encI,Option.map_some,List.cons_append,List.nil_append] <;> rfl) (tcI_same s t _) ?_ rfl
                rintro r A2 ⟨rfl,rfl⟩
                simp only [zW,zX,zD,builtinA,isLeaf,const1,Nat.reduceAdd,Nat.reduceMul,Nat.reduceSub,Nat.reduceLT,Nat.reduceLeDiff,Nat.reduceEqDiff,Nat.reduceBEq,Nat.reduceBNe,reduceIte,reduceCtorEq,Int.reduceToNat,Int.reduceLT,Int.reduceLE,Int.reduceEq,Int.reduceNe,Int.reduceNeg,ustrA,ti3,ti34,ti36,ti67,ti163,ti165,ti167,ti366,ti367,ca259,cf,Tryz.results197,decide_eq_false hlab,decide_eq_false hne']
                exact ⟨hout _ _,m',rfl,fun h=>absurd h hne'⟩
            · have hyp : 0 < y'.ks.length:=by simp [LL.ks]
              have d0 : decide (((0 : Nat) : Int) = ((y'.ks.length : Nat) : Int)) = false:=decide_eq_false (by omega)
              have hne':=hne (fun h=>by have:=((node_iff s t).1 h).2; unfold klen at this; rw [n1,n2] at this; omega)
              simp only [zW,zX,zD,builtinA,isLeaf,const1,Nat.reduceAdd,Nat.reduceMul,Nat.reduceSub,Nat.reduceLT,Nat.reduceLeDiff,Nat.reduceEqDiff,Nat.reduceBEq,Nat.reduceBNe,reduceIte,reduceCtorEq,Int.reduceToNat,Int.reduceLT,Int.reduceLE,Int.reduceEq,Int.reduceNe,Int.reduceNeg,ustrA,ti3,ti34,ti36,ti67,ti163,ti165,ti167,ti366,ti367,ca259,cf,Tryz.results197,e1,e2,d0,encIs_length,encI_take,decide_eq_false hne']
              exact ⟨hout _ _,m',rfl,fun h=>absurd h hne'⟩
            · have hxp : 0 < x'.ks.length:=by simp [LL.ks]
              have d0 : decide (((x'.ks.length : Nat) : Int) = ((0 : Nat) : Int)) = false:=decide_eq_false (by omega)
              have hne':=hne (fun h=>by have:=((node_iff s t).1 h).2; unfold klen at this; rw [n1,n2] at this; omega)
              simp only [zW,zX,zD,builtinA,isLeaf,const1,Nat.reduceAdd,Nat.reduceMul,Nat.reduceSub,Nat.reduceLT,Nat.reduceLeDiff,Nat.reduceEqDiff,Nat.reduceBEq,Nat.reduceBNe,reduceIte,reduceCtorEq,Int.reduceToNat,Int.reduceLT,Int.reduceLE,Int.reduceEq,Int.reduceNe,Int.reduceNeg,ustrA,ti3,ti34,ti36,ti67,ti163,ti165,ti167,ti366,ti367,ca259,cf,Tryz.results197,e1,e2,d0,encIs_length,encI_take,decide_eq_false hne']
              exact ⟨hout _ _,m',rfl,fun h=>absurd h hne'⟩
            · by_cases hll : x'.ks.length = y'.ks.length
              · have d0 : decide (((x'.ks.length : Nat) : Int) = ((y'.ks.length : Nat) : Int)) = true:=decide_eq_true (by omega)
                by_cases hlab : lab s = lab t
                · have hnode : node s = node t:=(node_iff s t).2 ⟨hlab,by unfold klen; rw [n1,n2,hll]⟩
                  simp only [zW,zX,zD,builtinA,isLeaf,const1,Nat.reduceAdd,Nat.reduceMul,Nat.reduceSub,Nat.reduceLT,Nat.reduceLeDiff,Nat.reduceEqDiff,Nat.reduceBEq,Nat.reduceBNe,reduceIte,reduceCtorEq,Int.reduceToNat,Int.reduceLT,Int.reduceLE,Int.reduceEq,Int.reduceNe,Int.reduceNeg,ustrA,ti3,ti34,ti36,ti67,ti163,ti165,ti167,ti366,ti367,ca259,cf,Tryz.results197,e1,e2,d0,encIs_length,encI_take]
                  refine ⟨by rw [encI_length]; omega,by rw [encI_length]; omega,?_⟩
                  refine wpO_callv _ _ _ _ _ _ _ _ _ _ _ _ _ _ _ ?_
                  simp only [zW,zX,zD,builtinA,isLeaf,const1,Nat.reduceAdd,Nat.reduceMul,Nat.reduceSub,Nat.reduceLT,Nat.reduceLeDiff,Nat.reduceEqDiff,Nat.reduceBEq,Nat.reduceBNe,reduceIte,reduceCtorEq,Int.reduceToNat,Int.reduceLT,Int.reduceLE,Int.reduceEq,Int.reduceNe,Int.reduceNeg,ustrA,ti3,ti34,ti36,ti67,ti163,ti165,ti167,ti366,ti367,ca259,cf,Tryz.results197,List.nil_append,List.append_nil]
                  refine ⟨by kernel_rfl,?_⟩
                  refine callK_intro (by simp only [zW,zX,zD,builtinA,isLeaf,const1,Nat.reduceAdd,Nat.reduceMul,Nat.reduceSub,Nat.reduceLT,Nat.reduceLeDiff,Nat.reduceEqDiff,Nat.reduceBEq,Nat.reduceBNe,reduceIte,reduceCtorEq,Int.reduceToNat,Int.reduceLT,Int.reduceLE,Int.reduceEq,Int.reduceNe,Int.reduceNeg,ustrA,frzL_encI,Option.map_some,List.cons_append,List.nil_append] <;> rfl) (tcI_same s t _) ?_ rfl
                  rintro r A2 ⟨rfl,rfl⟩
                  simp only [zW,zX,zD,builtinA,isLeaf,const1,Nat.reduceAdd,Nat.reduceMul,Nat.reduceSub,Nat.reduceLT,Nat.reduceLeDiff,Nat.reduceEqDiff,Nat.reduceBEq,Nat.reduceBNe,reduceIte,reduceCtorEq,Int.reduceToNat,Int.reduceLT,Int.reduceLE,Int.reduceEq,Int.reduceNe,Int.reduceNeg,ustrA,ti3,ti34,ti36,ti67,ti163,ti165,ti167,ti366,ti367,ca259,cf,Tryz.results197,decide_eq_true hlab]
                  refine callK_intro (by simp only [zW,zX,zD,builtinA,isLeaf,const1,Nat.reduceAdd,Nat.reduceMul,Nat.reduceSub,Nat.reduceLT,Nat.reduceLeDiff,Nat.reduceEqDiff,Nat.reduceBEq,Nat.reduceBNe,reduceIte,reduceCtorEq,Int.reduceToNat,Int.reduceLT,Int.reduceLE,Int.reduceEq,Int.reduceNe,Int.reduceNeg,ustrA] <;> rfl) (impl_join hU (fun x=>.refl x) (fun _ _ _ h k=>.trans h k) (fun _ _ h=>.symm h) m' hS'.ci x' y' (hbx x' k1) (hby y' k2) i _ (by simp; omega) (hgA _ _)) ?_ rfl
                  rintro v A3 ⟨m2,rfl,⟨rfl,hr,hc2,hm2⟩ | ⟨rfl,hm2,hc2⟩⟩
                  · simp only [zW,zX,zD,builtinA,isLeaf,const1,Nat.reduceAdd,Nat.reduceMul,Nat.reduceSub,Nat.reduceLT,Nat.reduceLeDiff,Nat.reduceEqDiff,Nat.reduceBEq,Nat.reduceBNe,reduceIte,reduceCtorEq,Int.reduceToNat,Int.reduceLT,Int.reduceLE,Int.reduceEq,Int.reduceNe,Int.reduceNeg,ustrA,ti3,ti34,ti36,ti67,ti163,ti165,ti167,ti366,ti367,ca259,cf,Tryz.results197,hset,hi1,LoopK_eq]
                    exact ⟨⟨k + 1,m2,J',W',_,j',rfl,rfl,hl1 _ _ _,hB2' _,hl2 _ _ _,hBq2 _,by rw [hm2]; exact hle,hlt,hS'.same hc2,hnr J' (fun _ _ h=>h) ⟨hnode,.inr ⟨x',y',k1,k2,hr⟩⟩⟩,hmi⟩
                  · have hSm:=hS'.more (hbx x' k1) (hby y' k2) hll (hc2 (Eqv ((x',y') :: J')) (eqv_more _) (fun _ _ h=>.symm h) (fun _ _ _ h k=>.trans h k) (.base (by simp))) (fun he=>by
                      have:=erases_at (hS'.er he _ (.inr rfl)) k
                      simp only [WI.l1,WI.l2] at this
                      rw [hs,ht] at this
                      exact erase_kids this k1 k2)
                    have hsl:=hSm.ci.le
                    have hrow : W'.map (WI.row a0 b0) ++ [[.islice x'.b x'.off (encIs x'.ks),.islice y'.b y'.off (encIs y'.ks)]] = (W' ++ [WI.pr x' y']).map (WI.row a0 b0):=by simp [WI.row]
                    have hleaf : ∀ v ∈ [AV.islice x'.b x'.off (encIs x'.ks),.islice y'.b y'.off (encIs y'.ks)],isLeaf v = true:=by simp [isLeaf]
                    simp only [zW,zX,zD,builtinA,isLeaf,const1,Nat.reduceAdd,Nat.reduceMul,Nat.reduceSub,Nat.reduceLT,Nat.reduceLeDiff,Nat.reduceEqDiff,Nat.reduceBEq,Nat.reduceBNe,reduceIte,reduceCtorEq,Int.reduceToNat,Int.reduceLT,Int.reduceLE,Int.reduceEq,Int.reduceNe,Int.reduceNeg,ustrA,ti3,ti34,ti36,ti67,ti163,ti165,ti167,ti366,ti367,ca259,cf,Tryz.results197,hset,hgj',hB2',hrow,hi1,LoopK_eq]
                    refine ⟨fun v hv=>hleaf v hv,⟨by simp,by rw [List.length_map]; omega⟩,⟨k + 1,m2,(x',y') :: J',W' ++ [.pr x' y'],_,B'.length + 4,rfl,rfl,?_,hq3 _ _ _ _ _ _ _,?_,hq4 _ _ _ _ _ _,?_,hlt,hSm,hnr _ (eqv_more _) ⟨hnode,.inr ⟨x',y',k1,k2,.base (by simp)⟩⟩⟩,hmi⟩
                    · simp only [List.length_append,List.length_set,List.length_cons,List.length_nil]; omega
                    · simp only [List.length_append,List.length_set,List.length_cons,List.length_nil]; omega
                    · rw [List.length_append,List.length_singleton]; omega
                · have hne':=hne (fun h=>hlab ((node_iff s t).1 h).1)
                  simp only [zW,zX,zD,builtinA,isLeaf,const1,Nat.reduceAdd,Nat.reduceMul,Nat.reduceSub,Nat.reduceLT,Nat.reduceLeDiff,Nat.reduceEqDiff,Nat.reduceBEq,Nat.reduceBNe,reduceIte,reduceCtorEq,Int.reduceToNat,Int.reduceLT,Int.reduceLE,Int.reduceEq,Int.reduceNe,Int.reduceNeg,ustrA,ti3,ti34,ti36,ti67,ti163,ti165,ti167,ti366,ti367,ca259,cf,Tryz.results197,e1,e2,d0,encIs_length,encI_take]
                  refine ⟨by rw [encI_length]; omega,by rw [encI_length]; omega,?_⟩
                  refine wpO_callv _ _ _ _ _ _ _ _ _ _ _ _ _ _ _ ?_
                  simp only [zW,zX,zD,builtinA,isLeaf,const1,Nat.reduceAdd,Nat.reduceMul,Nat.reduceSub,Nat.reduceLT,Nat.reduceLeDiff,Nat.reduceEqDiff,Nat.reduceBEq,Nat.reduceBNe,reduceIte,reduceCtorEq,Int.reduceToNat,Int.reduceLT,Int.reduceLE,Int.reduceEq,Int.reduceNe,Int.reduceNeg,ustrA,ti3,ti34,ti36,ti67,ti163,ti165,ti167,ti366,ti367,ca259,cf,Tryz.results197,List.nil_append,List.append_nil]
                  refine ⟨by kernel_rfl,?_⟩
                  refine callK_intro (by simp only [zW,zX,zD,builtinA,isLeaf,const1,Nat.reduceAdd,Nat.reduceMul,Nat.reduceSub,Nat.reduceLT,Nat.reduceLeDiff,Nat.reduceEqDiff,Nat.reduceBEq,Nat.reduceBNe,reduceIte,reduceCtorEq,Int.reduceToNat,Int.reduceLT,Int.reduceLE,Int.reduceEq,Int.reduceNe,Int.reduceNeg,ustrA,frzL_encI,Option.map_some,List.cons_append,List.nil_append] <;> rfl) (tcI_same s t _) ?_ rfl
                  rintro r A2 ⟨rfl,rfl⟩
                  simp only [zW,zX,zD,builtinA,isLeaf,const1,Nat.reduceAdd,Nat.reduceMul,Nat.reduceSub,Nat.reduceLT,Nat.reduceLeDiff,Nat.reduceEqDiff,Nat.reduceBEq,Nat.reduceBNe,reduceIte,reduceCtorEq,Int.reduceToNat,Int.reduceLT,Int.reduceLE,Int.reduceEq,Int.reduceNe,Int.reduceNeg,ustrA,ti3,ti34,ti36,ti67,ti163,ti165,ti167,ti366,ti367,ca259,cf,Tryz.results197,decide_eq_false hlab,decide_eq_false hne']
                  exact ⟨hout _ _,m',rfl,fun h=>absurd h hne'⟩
              · have d0 : decide (((x'.ks.length : Nat) : Int) = ((y'.ks.length : Nat) : Int)) = false:=decide_eq_false (by omega)
                have hne':=hne (fun h=>by have:=((node_iff s t).1 h).2; unfold klen at this; rw [n1,n2] at this; omega)
                simp only [zW,zX,zD,builtinA,isLeaf,const1,Nat.reduceAdd,Nat.reduceMul,Nat.reduceSub,Nat.reduceLT,Nat.reduceLeDiff,Nat.reduceEqDiff,Nat.reduceBEq,Nat.reduceBNe,reduceIte,reduceCtorEq,Int.reduceToNat,Int.reduceLT,Int.reduceLE,Int.reduceEq,Int.reduceNe,Int.reduceNeg,ustrA,ti3,ti34,ti36,ti67,ti163,ti165,ti167,ti366,ti367,ca259,cf,Tryz.results197,e1,e2,d0,encIs_length,encI_take,decide_eq_false hne']
                exact ⟨hout _ _,m',rfl,fun h=>absurd h hne'⟩
          · have hlt1 : decide (((k : Nat) : Int) < ((x.ks.length : Nat) : Int)) = false:=decide_eq_false (by have h0 : ¬ k < x.ks.length:=hlt; omega)
            have hmu2:=hmu (.ptr A.length 0) m' B' j' W' hB'
            simp only [zW,zX,zD,builtinA,isLeaf,const1,Nat.reduceAdd,Nat.reduceMul,Nat.reduceSub,Nat.reduceLT,Nat.reduceLeDiff,Nat.reduceEqDiff,Nat.reduceBEq,Nat.reduceBNe,reduceIte,reduceCtorEq,Int.reduceToNat,Int.reduceLT,Int.reduceLE,Int.reduceEq,Int.reduceNe,Int.reduceNeg,ustrA,ti3,ti34,ti36,ti67,ti163,ti165,ti167,ti366,ti367,ca259,cf,Tryz.results197,hgj',hB',hBq,hlt1,LoopK_eq]
            have hdn:=hS'.done hxy (fun q hq=>hnear q (by
              have hq' : q < x.ks.length:=hq
              have h0 : ¬ k < x.ks.length:=hlt
              omega))
            refine ⟨⟨m',J',W',B',j',rfl,rfl,hj',hB',hWb,hdn⟩,?_⟩
            rw [hmu2]
            omega
end Go.Proofs.YtnjdbgiincliaaaGreat
