/- SameAX, SameEX, Draw. -/
import Derived.Test.YtnjdbgiincliaaaGreatX09
import Derived.Test.YtnjdbgiincliaaaGreatAbsW3
/- Where the operands of an expression lie; the program's ExprSame. -/
set_option linter.unusedVariables false
set_option linter.unusedSimpArgs false
namespace Go.Proofs.YtnjdbgiincliaaaGreat
open Go.Abs
abbrev tLists (a : TT) : List tLL:=lists a
abbrev tNorm (a : TT) : Prop:=norm a
abbrev tLLok (G : Ghost) (w : World) (x : tLL) : Prop:=LLok G w x
theorem tT4 {G : Ghost} {w : World} {a : TT} {X : Nat → Value} : T4 G w a X ↔ ∀ j,j < 4 → RV G w ((tEnc a).getD j .bot) (X j):=by
  unfold T4
  rw [tEnc_eq a]
  rfl
theorem tUniq {G : Ghost} {w : World} (s t : TT) (X : Nat → Value) (hs : tNorm s) (ht : tNorm t) (h : ∀ j,j < 4 → RV G w ((tEnc s).getD j .bot) (X j)) (k : ∀ j,j < 4 → RV G w ((tEnc t).getD j .bot) (X j)) : s = t:=uniq s t X hs ht (tT4.2 h) (tT4.2 k)
theorem tAnnot {G : Ghost} {w : World} (τ : Ty) (X : Nat → Value) (h : ∀ j,j < 4 → RV G w ((enc τ).getD j .bot) (X j)) : ∃ t : TT,tErase t = τ ∧ tNorm t ∧ (∀ j,j < 4 → RV G w ((tEnc t).getD j .bot) (X j)) ∧ ∀ x ∈ tLists t,tLLok G w x:=by
  obtain ⟨t,h1,h2,h3,h4⟩:=annot τ X h
  exact ⟨t,h1,h2,tT4.1 h3,h4⟩
theorem tLists_len (a : TT) : (tLists a).length ≤ sz (tErase a):=lists_len a
theorem tLists_ks (x : tLL) (a : TT) (h : x ∈ tLists a) : x.ks.length ≤ sz (tErase a):=lists_ks x a h
theorem tLists_down (a : TT) : ∀ x ∈ tLists a,∀ u ∈ x.ks,∀ y,tBelow u = some y → y ∈ tLists a:=lists_down a
theorem tLists_top {a : TT} {x : tLL} (h : tBelow a = some x) : x ∈ tLists a:=by
  have:=lists_eq h
  unfold tLists
  rw [this]; simp
theorem tLLok_inj {G : Ghost} {w : World} {x y : tLL} (hx : tLLok G w x) (hy : tLLok G w y) (h : x.idn = y.idn) : x = y:=LLok.inj hx hy h
theorem tGd {α : Type} (l : List α) (i : Nat) (d : α) (h : i < l.length) : l.getD i d = l[i]:=by simp [List.getD,h]
theorem tList_of {α : Type} {P : Nat → α → Prop} (d : α) {n : Nat} (h : ∀ i,i < n → ∃ x,P i x) : ∃ l : List α,l.length = n ∧ ∀ i,i < n → P i (l.getD i d):=by
  induction n with
  | zero=>exact ⟨[],rfl,by omega⟩
  | succ n ih =>
    obtain ⟨l,hl,hp⟩:=ih fun i hi=>h i (by omega)
    obtain ⟨x,hx⟩:=h n (by omega)
    refine ⟨l ++ [x],by simp [hl],fun i hi=>?_⟩
    rcases Nat.lt_or_ge i n with h' | h'
    · rw [Abs.getD_append_left (by omega)]; exact hp i h'
    · obtain rfl : i = n:=by omega
      rw [Abs.getD_append_right (by omega),hl,Nat.sub_self]
      exact hx
end Go.Proofs.YtnjdbgiincliaaaGreat
namespace Go.Proofs.YtnjdbgiincliaaaGreat.SX
open Go.Abs
mutual
def lists : IEx → List LL
  | .mk _ _ _ _ _ _ _ []=>[]
  | .mk _ _ _ _ _ b o (t :: ks)=>⟨b,o,t,ks⟩ :: (lists t ++ listss ks)
def listss : List IEx → List LL
  | []=>[]
  | t :: l=>lists t ++ listss l
end
mutual
def argL : IEx → List tLL
  | .mk _ _ _ _ a _ _ ks=>tLists a ++ argLs ks
def argLs : List IEx → List tLL
  | []=>[]
  | t :: l=>argL t ++ argLs l
end
mutual
def norm : IEx → Prop
  | .mk _ _ _ _ a b o []=>tNorm a ∧ b = 0 ∧ o = 0
  | .mk _ _ _ _ a _ _ (t :: ks)=>tNorm a ∧ norm t ∧ norms ks
def norms : List IEx → Prop
  | []=>True
  | t :: l=>norm t ∧ norms l
end
theorem norm_arg (t : IEx) (h : norm t) : tNorm (argX t):=by
  obtain ⟨k,q,m,n,a,b,o,ks⟩:=t
  cases ks with
  | nil=>exact h.1
  | cons t ks=>exact h.1
theorem argLs_mem {x : tLL} : ∀ {l : List IEx},x ∈ argLs l ↔ ∃ t ∈ l,x ∈ argL t
  | []=>by simp [argLs]
  | t :: l=>by rw [argLs,List.mem_append,argLs_mem]; simp
theorem argL_own (t : IEx) : ∀ x ∈ tLists (argX t),x ∈ argL t:=by
  obtain ⟨k,q,m,n,a,b,o,ks⟩:=t
  intro x hx
  rw [argL]
  exact List.mem_append_left _ hx
theorem argL_below {t : IEx} {x : LL} (h : below t = some x) {u : IEx} (hu : u ∈ x.ks) : ∀ z ∈ argL u,z ∈ argL t:=by
  obtain ⟨k,q,m,n,a,rfl⟩:=below_ks h
  intro z hz
  rw [argL]
  exact List.mem_append_right _ (argLs_mem.2 ⟨u,hu,hz⟩)
mutual
theorem argL_down : ∀ (t : IEx) (x : tLL),x ∈ argL t → ∀ u ∈ x.ks,∀ y,tBelow u = some y → y ∈ argL t
  | .mk k q m n a b o ks,x,hx,u,hu,y,hy=>by
    rw [argL] at hx ⊢
    rcases List.mem_append.1 hx with hx | hx
    · exact List.mem_append_left _ (tLists_down a x hx u hu y hy)
    · exact List.mem_append_right _ (argLs_down ks x hx u hu y hy)
theorem argLs_down : ∀ (l : List IEx) (x : tLL),x ∈ argLs l → ∀ u ∈ x.ks,∀ y,tBelow u = some y → y ∈ argLs l
  | [],x,hx,u,hu,y,hy=>by simp [argLs] at hx
  | t :: l,x,hx,u,hu,y,hy=>by
    rw [argLs] at hx ⊢
    rcases List.mem_append.1 hx with hx | hx
    · exact List.mem_append_left _ (argL_down t x hx u hu y hy)
    · exact List.mem_append_right _ (argLs_down l x hx u hu y hy)
end
mutual
theorem argL_len : ∀ t : IEx,(argL t).length ≤ szX (erase t)
  | .mk k q m n a b o ks=>by
    have h1:=tLists_len a
    have h2:=argLs_len ks
    simp only [argL,erase,szX,List.length_append]
    omega
theorem argLs_len : ∀ l : List IEx,(argLs l).length ≤ szXs (erases l)
  | []=>by simp [argLs]
  | t :: l=>by
    have h1:=argL_len t
    have h2:=argLs_len l
    simp only [argLs,erases,szXs,List.length_append]
    omega
end
mutual
theorem argL_ks (x : tLL) : ∀ t : IEx,x ∈ argL t → x.ks.length ≤ szX (erase t)
  | .mk k q m n a b o ks=>fun h=>by
    simp only [argL,List.mem_append] at h
    simp only [erase,szX]
    rcases h with h | h
    · have:=tLists_ks x a h; omega
    · have:=argLs_ks x ks h; omega
theorem argLs_ks (x : tLL) : ∀ l : List IEx,x ∈ argLs l → x.ks.length ≤ szXs (erases l)
  | []=>by simp [argLs]
  | t :: l=>fun h=>by
    simp only [argLs,List.mem_append] at h
    simp only [erases,szXs]
    rcases h with h | h
    · have:=argL_ks x t h; omega
    · have:=argLs_ks x l h; omega
end
theorem norms_all : ∀ {l : List IEx},norms l ↔ ∀ t ∈ l,norm t
  | []=>by simp [norms]
  | t :: l=>by rw [norms,norms_all]; simp
theorem listss_mem {x : LL} : ∀ {l : List IEx},x ∈ listss l ↔ ∃ t ∈ l,x ∈ lists t
  | []=>by simp [listss]
  | t :: l=>by rw [listss,List.mem_append,listss_mem]; simp
theorem lists_eq {t : IEx} {x : LL} (h : below t = some x) : lists t = x :: listss x.ks:=by
  obtain ⟨k,q,m,n,a,b,o,ks⟩:=t
  cases ks with
  | nil=>simp [below] at h
  | cons u ks=>simp [below] at h; subst h; simp [lists,LL.ks,listss]
theorem lists_down (t : IEx) : ∀ x ∈ lists t,∀ u ∈ x.ks,∀ y,below u = some y → y ∈ lists t:=by
  induction t using IEx.ind with
  | h k q m n a b o ks ih =>
    cases ks with
    | nil=>simp [lists]
    | cons t ks =>
      intro x hx u hu y hy
      have he:=lists_eq (t:=.mk k q m n a b o (t :: ks)) (x:=⟨b,o,t,ks⟩) rfl
      rw [he] at hx ⊢
      have hsub : ∀ v ∈ (⟨b,o,t,ks⟩ : LL).ks,∀ z,z ∈ lists v → z ∈ listss (⟨b,o,t,ks⟩ : LL).ks:=fun v hv z hz=>listss_mem.2 ⟨v,hv,hz⟩
      rcases List.mem_cons.1 hx with rfl | hx
      · refine List.mem_cons_of_mem _ (hsub u hu y ?_)
        rw [lists_eq hy]; simp
      · obtain ⟨v,hv,hxv⟩:=listss_mem.1 hx
        exact List.mem_cons_of_mem _ (hsub v hv y (ih v hv x hxv u hu y hy))
mutual
theorem lists_len : ∀ t : IEx,(lists t).length ≤ szX (erase t)
  | .mk k q m n a b o []=>by simp [lists]
  | .mk k q m n a b o (t :: ks)=>by
    have h1:=lists_len t
    have h2:=listss_len ks
    simp only [lists,erase,erases,szX,szXs,List.length_cons,List.length_append]
    omega
theorem listss_len : ∀ l : List IEx,(listss l).length ≤ szXs (erases l)
  | []=>by simp [listss]
  | t :: l=>by
    have h1:=lists_len t
    have h2:=listss_len l
    simp only [listss,erases,szXs,List.length_append]
    omega
end
theorem islice_inv {G : Ghost} {w : World} {b off : Nat} {rows : List (List AV)} {x : Value} (h : RV G w (.islice b off rows) x) : ∃ cap sz,∃ X : Nat → Nat → Value,x = .slice (some ⟨b,off,none⟩) rows.length cap ∧ (∀ r ∈ rows,r.length = sz) ∧
    (∀ i j,i < rows.length → j < sz → w.cell? ⟨b,off + (i * sz + j),none⟩ = some (X i j)) ∧ ∀ i j,i < rows.length → j < sz → RV G w (Go.Abs.rowAt rows i j) (X i j):=Go.Proofs.YtnjdbgiincliaaaGreat.islice_inv h
theorem gd {α : Type} (l : List α) (i : Nat) (d : α) (h : i < l.length) : l.getD i d = l[i]:=tGd l i d h
mutual
theorem lists_ks (x : LL) : ∀ t : IEx,x ∈ lists t → x.ks.length ≤ szX (erase t)
  | .mk k q m n a b o []=>by simp [lists]
  | .mk k q m n a b o (t :: ks)=>fun h=>by
    simp only [lists,List.mem_cons,List.mem_append] at h
    simp only [erase,erases,szX,szXs]
    rcases h with rfl | h | h
    · have h1 : (erases ks).length = ks.length:=by rw [erases_map,List.length_map]
      show (t :: ks).length ≤ _
      simp only [List.length_cons]; omega
    · have:=lists_ks x t h; omega
    · have:=listss_ks x ks h; omega
theorem listss_ks (x : LL) : ∀ l : List IEx,x ∈ listss l → x.ks.length ≤ szXs (erases l)
  | []=>by simp [listss]
  | t :: l=>fun h=>by
    simp only [listss,List.mem_append] at h
    simp only [erases,szXs]
    rcases h with h | h
    · have:=lists_ks x t h; omega
    · have:=listss_ks x l h; omega
end
def R4 (G : Ghost) (w : World) (τ : Ex) (X : Nat → Value) : Prop:=∀ j,j < 9 → RV G w ((encX τ).getD j .bot) (X j)
def T4 (G : Ghost) (w : World) (t : IEx) (X : Nat → Value) : Prop:=∀ j,j < 9 → RV G w ((encI t).getD j .bot) (X j)
theorem T4.arg {G : Ghost} {w : World} {t : IEx} {X : Nat → Value} (h : T4 G w t X) : ∀ j,j < 4 → RV G w ((tEnc (argX t)).getD j .bot) (X (4 + j)):=fun j hj=>by
  have:=h (4 + j) (by omega)
  rw [encI_eq] at this
  match j,hj with
  | 0,_=>exact this
  | 1,_=>exact this
  | 2,_=>exact this
  | 3,_=>exact this
theorem uniq {G : Ghost} {w : World} (s : IEx) : ∀ (t : IEx) (X : Nat → Value),norm s → norm t → T4 G w s X → T4 G w t X → s = t:=by
  induction s using IEx.ind with
  | h k q m n a b o ks ih =>
    rintro ⟨k',q',m',n',a',b',o',ks'⟩ X hs ht h h'
    have ea : a = a':=tUniq a a' (fun j=>X (4 + j)) (norm_arg _ hs) (norm_arg _ ht) h.arg h'.arg
    have h0:=h 0 (by decide); have h1:=h 2 (by decide); have h2:=h 3 (by decide); have h3:=h 8 (by decide); have hq:=h 1 (by decide)
    have g0:=h' 0 (by decide); have g1:=h' 2 (by decide); have g2:=h' 3 (by decide); have g3:=h' 8 (by decide); have gq:=h' 1 (by decide)
    rw [encI_eq] at h0 h1 h2 h3 g0 g1 g2 g3 hq gq
    simp only [List.getD_cons_zero,List.getD_cons_succ,hdX] at h0 h1 h2 h3 g0 g1 g2 g3 hq gq
    generalize X 0 = v0 at h0 g0
    generalize X 1 = vq at hq gq
    generalize X 2 = v1 at h1 g1
    generalize X 3 = v2 at h2 g2
    generalize X 8 = v3 at h3 g3
    have e0 : k = k':=by cases h0; cases g0; rfl
    have eq : q = q':=by cases hq; cases gq; rfl
    have e1 : m = m':=by
      cases h1
      generalize hq : (⟨m.toArray⟩ : ByteArray) = q at g1
      cases g1
      injection hq with hq
      have:=congrArg Array.toList hq
      simpa using this
    have e2 : n = n':=by
      cases h2
      generalize hq : (⟨n.toArray⟩ : ByteArray) = q at g2
      cases g2
      injection hq with hq
      have:=congrArg Array.toList hq
      simpa using this
    subst e0; subst e1; subst e2; subst ea; subst eq
    have lens : ∀ (a : Option Addr) (l c : Nat),v3 = .slice a l c → (ks = [] → l = 0) ∧ (ks' = [] → l = 0) ∧ (ks ≠ [] → l = ks.length) ∧ (ks' ≠ [] → l = ks'.length):=by
      intro a l c hv
      subst hv
      refine ⟨fun e=>?_,fun e=>?_,fun e=>?_,fun e=>?_⟩
      · subst e; simp [kidsV,below] at h3; cases h3 <;> rfl
      · subst e; simp [kidsV,below] at g3; cases g3 <;> rfl
      · cases ks with
        | nil=>exact absurd rfl e
        | cons t ks=>simp [kidsV,below] at h3; cases h3; simp [LL.ks,encIs_length]
      · cases ks' with
        | nil=>exact absurd rfl e
        | cons t ks'=>simp [kidsV,below] at g3; cases g3; simp [LL.ks,encIs_length]
    have isS : ∃ a l c,v3 = .slice a l c:=by
      cases ks with
      | nil=>simp [kidsV,below] at h3; cases h3 <;> exact ⟨_,_,_,rfl⟩
      | cons t ks=>simp [kidsV,below] at h3; cases h3; exact ⟨_,_,_,rfl⟩
    obtain ⟨a,l,c,hv⟩:=isS
    obtain ⟨l1,l2,l3,l4⟩:=lens a l c hv
    cases ks with
    | nil =>
      cases ks' with
      | nil =>
        simp only [norm] at hs ht
        rw [hs.2.1,hs.2.2,ht.2.1,ht.2.2]
      | cons t ks' =>
        have a1:=l1 rfl
        have a2:=l4 (by simp)
        simp at a2; omega
    | cons t ks =>
      cases ks' with
      | nil =>
        have a1:=l2 rfl
        have a2:=l3 (by simp)
        simp at a2; omega
      | cons t' ks' =>
        have a1:=l3 (by simp)
        have a2:=l4 (by simp)
        simp only [kidsV,below] at h3 g3
        obtain ⟨cap,sz,X1,q1,r1,x1,z1⟩:=islice_inv h3
        obtain ⟨cap',sz',X2,q2,r2,x2,z2⟩:=islice_inv g3
        rw [q1] at q2
        simp only [Value.slice.injEq,Option.some.injEq,Addr.mk.injEq] at q2
        have hb : b = b':=q2.1.1
        have ho : o = o':=q2.1.2.1
        have hlen : (t :: ks).length = (t' :: ks').length:=by
          have:=q2.2.1
          rw [encIs_length,encIs_length] at this
          exact this
        subst hb; subst ho
        have n1 : (encIs (LL.ks ⟨b,o,t,ks⟩)).length = (t :: ks).length:=encIs_length _
        have n2 : (encIs (LL.ks ⟨b,o,t',ks'⟩)).length = (t' :: ks').length:=encIs_length _
        have e1 : sz = 9:=by
          have:=r1 (encI t) (by simp [LL.ks,encIs])
          rw [encI_length] at this; exact this.symm
        have e2 : sz' = 9:=by
          have:=r2 (encI t') (by simp [LL.ks,encIs])
          rw [encI_length] at this; exact this.symm
        subst e1; subst e2
        have key : (t :: ks) = (t' :: ks'):=by
          apply List.ext_getElem hlen
          intro i hi hi'
          have xe : ∀ j,j < 9 → X1 i j = X2 i j:=fun j hj=>by
            have:=(x1 i j (by omega) hj).symm.trans (x2 i j (by omega) hj)
            injection this
          have t1 : T4 G w ((t :: ks)[i]) (X1 i):=fun j hj=>by
            have:=z1 i j (by omega) hj
            unfold Go.Abs.rowAt at this
            rw [encIs_getD (show i < (LL.ks ⟨b,o,t,ks⟩).length from hi),gd _ _ _ (show i < (LL.ks ⟨b,o,t,ks⟩).length from hi)] at this
            exact this
          have t2 : T4 G w ((t' :: ks')[i]) (X1 i):=fun j hj=>by
            have:=z2 i j (by omega) hj
            unfold Go.Abs.rowAt at this
            rw [encIs_getD (show i < (LL.ks ⟨b,o,t',ks'⟩).length from hi'),gd _ _ _ (show i < (LL.ks ⟨b,o,t',ks'⟩).length from hi'),← xe j hj] at this
            exact this
          simp only [norm] at hs ht
          have ns : ∀ u ∈ (t :: ks),norm u:=fun u hu=>by
            rcases List.mem_cons.1 hu with rfl | hu
            · exact hs.2.1
            · exact norms_all.1 hs.2.2 u hu
          have nt : ∀ u ∈ (t' :: ks'),norm u:=fun u hu=>by
            rcases List.mem_cons.1 hu with rfl | hu
            · exact ht.2.1
            · exact norms_all.1 ht.2.2 u hu
          exact ih _ (List.getElem_mem hi) _ _ (ns _ (List.getElem_mem hi)) (nt _ (List.getElem_mem hi')) t1 t2
        rw [key]
def LLok (G : Ghost) (w : World) (x : LL) : Prop:=∃ Y : Nat → Nat → Value,(∀ t ∈ x.ks,norm t) ∧ ∀ i,i < x.ks.length → T4 G w (x.ks.getD i it0) (Y i) ∧ ∀ j,j < 9 → w.cell? ⟨x.b,x.off + (i * 9 + j),none⟩ = some (Y i j)
theorem LLok.inj {G : Ghost} {w : World} {x y : LL} (hx : LLok G w x) (hy : LLok G w y) (h : x.idn = y.idn) : x = y:=by
  obtain ⟨X,n1,h1⟩:=hx
  obtain ⟨Y,n2,h2⟩:=hy
  simp only [LL.idn,Prod.mk.injEq] at h
  obtain ⟨e1,e2,e3⟩:=h
  have key : x.ks = y.ks:=by
    apply List.ext_getElem e3
    intro i hi hi'
    obtain ⟨a1,a2⟩:=h1 i hi
    obtain ⟨b1,b2⟩:=h2 i hi'
    have xe : ∀ j,j < 9 → X i j = Y i j:=fun j hj=>by
      have c1:=a2 j hj
      have c2:=b2 j hj
      rw [e1,e2,c2] at c1
      injection c1 with c1
      exact c1.symm
    have g1 : x.ks.getD i it0 = x.ks[i]:=by simp [List.getD,hi]
    have g2 : y.ks.getD i it0 = y.ks[i]:=by simp [List.getD,hi']
    rw [g1] at a1
    rw [g2] at b1
    exact uniq _ _ (X i) (n1 _ (List.getElem_mem hi)) (n2 _ (List.getElem_mem hi')) a1 fun j hj=>by rw [xe j hj]; exact b1 j hj
  obtain ⟨b,o,h,t⟩:=x
  obtain ⟨b',o',h',t'⟩:=y
  simp only [LL.ks,List.cons.injEq] at key e1 e2
  obtain ⟨rfl,rfl⟩:=key
  subst e1; subst e2
  rfl
theorem annot {G : Ghost} {w : World} (τ : Ex) : ∀ (X : Nat → Value),R4 G w τ X → ∃ t,erase t = τ ∧ norm t ∧ T4 G w t X ∧ (∀ x ∈ lists t,LLok G w x) ∧ ∀ x ∈ argL t,tLLok G w x:=by
  induction τ using Ex.ind with
  | h k q m n ar ks ih =>
    intro X hX
    have ha:=tAnnot (G:=G) (w:=w) ar (fun j=>X (4 + j)) fun j hj=>by
      have:=hX (4 + j) (by omega)
      rw [encX] at this
      rw [encT4]
      match j,hj with
      | 0,_=>exact this
      | 1,_=>exact this
      | 2,_=>exact this
      | 3,_=>exact this
    obtain ⟨a,a1,a2,a3,a4⟩:=ha
    have cellsOk : ∀ (b o : Nat) (us : List IEx),RV G w (kidsV (.mk k q m n a b o us)) (X 8) → T4 G w (.mk k q m n a b o us) X:=fun b o us h8 j hj=>by
      have h0:=hX 0 (by decide); have hq:=hX 1 (by decide); have h1:=hX 2 (by decide); have h2:=hX 3 (by decide)
      rw [encX] at h0 h1 h2 hq
      rw [encI_eq]
      match j,hj with
      | 0,_=>exact h0
      | 1,_=>exact hq
      | 2,_=>exact h1
      | 3,_=>exact h2
      | 4,_=>exact a3 0 (by decide)
      | 5,_=>exact a3 1 (by decide)
      | 6,_=>exact a3 2 (by decide)
      | 7,_=>exact a3 3 (by decide)
      | 8,_=>exact h8
    have h3:=hX 8 (by decide)
    rw [encX] at h3
    simp only [List.getD_cons_zero,List.getD_cons_succ] at h3
    cases ks with
    | nil =>
      refine ⟨.mk k q m n a 0 0 [],by simp [erase,erases,a1],⟨a2,rfl,rfl⟩,cellsOk _ _ _ ?_,by simp [lists],fun x hx=>a4 x (by simpa [argL,argLs] using hx)⟩
      simpa [kidsV,below,encXs] using h3
    | cons t0 ks =>
      generalize hv : X 8 = v3 at h3
      generalize hL : encXs (t0 :: ks) = L at h3
      have hLl : L.length = (t0 :: ks).length:=by rw [← hL,encXs_length]
      cases h3 with
      | slice0=>simp at hLl
      | sliceE=>simp at hLl
      | slice _ b off cap sz Y hr hcap hx hI hz hh =>
        have hl : 0 < L.length:=by rw [hLl]; simp
        have r1 : sz = 9:=by
          have:=(hr _ (Abs.getD_mem (d:=[]) hl)).1
          rw [← hL,encXs_getD (by simp),encX_length] at this
          omega
        subst r1
        have each : ∀ i,i < (t0 :: ks).length → ∃ t,erase t = (t0 :: ks).getD i ex0 ∧ norm t ∧ T4 G w t (Y i) ∧ (∀ x ∈ lists t,LLok G w x) ∧ ∀ x ∈ argL t,tLLok G w x:=fun i hi=>by
          refine ih _ (Abs.getD_mem hi) (Y i) fun j hj=>?_
          have:=hh i j (by omega) hj
          unfold Go.Abs.rowAt at this
          rwa [← hL,encXs_getD hi] at this
        obtain ⟨ts,hts,hq⟩:=tList_of it0 each
        match ts,hts,hq with
        | u :: us,hts,hq =>
          have er : erases (u :: us) = t0 :: ks:=by
            rw [erases_map]
            apply List.ext_getElem (by simpa using hts)
            intro i hi hi'
            have:=(hq i hi').1
            have hil : i < (u :: us).length:=by simpa using hi
            rw [gd _ _ _ hil,gd _ _ _ hi'] at this
            rw [List.getElem_map]
            exact this
          have hxk : (⟨b,off,u,us⟩ : LL).ks = u :: us:=rfl
          have hok : LLok G w ⟨b,off,u,us⟩:=by
            refine ⟨Y,fun t ht=>?_,fun i hi=>?_⟩
            · rw [hxk] at ht
              obtain ⟨i,hi,rfl⟩:=List.mem_iff_getElem.1 ht
              have:=(hq i (by omega)).2.1
              rw [gd _ _ _ hi] at this
              exact this
            · rw [hxk] at hi ⊢
              exact ⟨(hq i (by omega)).2.2.1,fun j hj=>hx i j (by omega) hj⟩
          have mem : ∀ t ∈ u :: us,∃ i,i < (t0 :: ks).length ∧ (u :: us).getD i it0 = t:=fun t ht=>by
            obtain ⟨i,hi,rfl⟩:=List.mem_iff_getElem.1 ht
            exact ⟨i,by omega,gd _ _ _ hi⟩
          refine ⟨.mk k q m n a b off (u :: us),by rw [erase,er,a1],?_,cellsOk _ _ _ ?_,fun x hx'=>?_,fun x hx'=>?_⟩
          · have hn : ∀ t ∈ (u :: us),norm t:=hok.choose_spec.1
            simp only [norm]
            exact ⟨a2,hn u (by simp),norms_all.2 fun t ht=>hn t (by simp [ht])⟩
          · show RV G w (.islice b off (encIs (u :: us))) (X 8)
            rw [hv]
            have hil : (encIs (u :: us)).length = L.length:=by rw [encIs_length]; omega
            have:=RV.islice (G:=G) (w:=w) (encIs (u :: us)) b off cap 9 Y (fun r hr'=>by
                rw [encIs_map] at hr'
                obtain ⟨t,_,rfl⟩:=List.mem_map.1 hr'
                exact ⟨encI_length t,encI_leaf t⟩) (by omega) (fun i j hi hj=>hx i j (by omega) hj) (fun i j hi hj=>hI i j (by omega) hj) (hz hl (by decide)) (by decide) (by omega) (fun i j hi hj=>by
                unfold Go.Abs.rowAt
                rw [encIs_getD (by rw [encIs_length] at hi; exact hi)]
                exact (hq i (by rw [encIs_length] at hi; omega)).2.2.1 j hj)
            rw [hil] at this
            exact this
          · rw [lists_eq (t:=.mk k q m n a b off (u :: us)) (x:=⟨b,off,u,us⟩) rfl] at hx'
            rcases List.mem_cons.1 hx' with rfl | hx'
            · exact hok
            · obtain ⟨t,ht,hxt⟩:=listss_mem.1 hx'
              obtain ⟨i,hi,rfl⟩:=mem t ht
              exact (hq i hi).2.2.2.1 x hxt
          · rw [argL] at hx'
            rcases List.mem_append.1 hx' with hx' | hx'
            · exact a4 x hx'
            · obtain ⟨t,ht,hxt⟩:=argLs_mem.1 hx'
              obtain ⟨i,hi,rfl⟩:=mem t ht
              exact (hq i hi).2.2.2.2 x hxt
        | [],hts,_=>simp at hts
end Go.Proofs.YtnjdbgiincliaaaGreat.SX
/- The program's ExprSame answers whether two expressions are the same tree. -/
set_option linter.unusedVariables false
set_option linter.unusedSimpArgs false
namespace Go.Proofs.YtnjdbgiincliaaaGreat
open Go.Abs
theorem tc_new' (A : List Box) : ACalls Tryz.prog 108 [] A (fun r A'=>r = .agg [tF1,tF2,.map (A.length + 1)] ∧ A' = A ++ [.cells [tF1,tF2,.map (A.length + 1)],.mapb []]):=tc_new A
end Go.Proofs.YtnjdbgiincliaaaGreat
namespace Go.Proofs.YtnjdbgiincliaaaGreat.SX
open Go.Abs
set_option maxRecDepth 100000 in
theorem xc_new (it : Nat) (A : List Box) : ACalls Tryz.prog 153 [.agg [tF1,tF2,.map it]] A (fun r A'=>r = .agg [xF1,xF2 A.length,.map (A.length + 2)] ∧ A' = A ++ [.cells [tF1,tF2,.map it],.cells [xF1,xF2 A.length,.map (A.length + 2)],.mapb []]):=by
  simp only [xF1,xF2]
  refine acalls_enterK (cf:=cf 10 [0,1,2,3,4]) foll Tryz.func153 Tryz.ntmps153 (by simp [cf]) ?_
  simp only [Tryz.f153,EnterK_some,zW,zX,zD,builtinA,isLeaf,const1,Nat.reduceAdd,Nat.reduceMul,Nat.reduceSub,Nat.reduceLT,Nat.reduceLeDiff,Nat.reduceEqDiff,Nat.reduceBEq,Nat.reduceBNe,reduceIte,reduceCtorEq,Int.reduceToNat,Int.reduceLT,Int.reduceLE,Int.reduceEq,Int.reduceNe,Int.reduceNeg,ustrA,ti167,ti229,ti231,cf,Tryz.results153]
  exact ⟨rfl,rfl⟩
theorem argL_lists (t : IEx) : ∀ x ∈ lists t,∀ u ∈ x.ks,∀ z ∈ argL u,z ∈ argL t:=by
  induction t using IEx.ind with
  | h k q m n a b o ks ih =>
    cases ks with
    | nil=>simp [lists]
    | cons t ks =>
      intro x hx u hu z hz
      rw [lists_eq (t:=.mk k q m n a b o (t :: ks)) (x:=⟨b,o,t,ks⟩) rfl] at hx
      rcases List.mem_cons.1 hx with rfl | hx
      · exact argL_below (t:=.mk k q m n a b o (t :: ks)) (x:=⟨b,o,t,ks⟩) rfl hu z hz
      · obtain ⟨v,hv,hxv⟩:=listss_mem.1 hx
        exact argL_below (t:=.mk k q m n a b o (t :: ks)) (x:=⟨b,o,t,ks⟩) rfl hv z (ih v hv x hxv u hu z hz)
set_option maxRecDepth 100000 in
theorem impl_ExprSameI {U : List LL} (hU : Univ U) (hN : U.length ≤ 100000000) (hL : ∀ x ∈ U,x.ks.length ≤ 1000000000) (a0 b0 : IEx) (ha : ∀ x,below a0 = some x → x ∈ U) (hb : ∀ x,below b0 = some x → x ∈ U)
    {UT : List tLL} (hUT : TUs UT) (hTU : ∀ x ∈ U,∀ t ∈ x.ks,TU UT (argX t)) (hTa : TU UT (argX a0)) (hTb : TU UT (argX b0)) (A : List Box) :
    ACalls Tryz.prog 66 [.agg (encI a0),.agg (encI b0)] A (fun r A'=>r = .bool (decide (erase a0 = erase b0)) ∧ A' = A):=by
  have hc0 : ClS U []:=⟨[],⟨by simp,by simp,by simp⟩,by simp⟩
  have hct : tClS UT []:=⟨[],⟨by simp,by simp,by simp⟩,by simp⟩
  have g : ∀ k b,([Box.cells (encI a0),.cells (encI b0),.cells [tF1,tF2,.map (A.length + 3)],.mapb [],.cells [tF1,tF2,.map (A.length + 3)],.cells [xF1,xF2 (A.length + 4),.map (A.length + 6)],.mapb []] : List Box).getD k .dead = b → (A ++ [Box.cells (encI a0),.cells (encI b0),.cells [tF1,tF2,.map (A.length + 3)],.mapb [],.cells [tF1,tF2,.map (A.length + 3)],.cells [xF1,xF2 (A.length + 4),.map (A.length + 6)],.mapb []]).getD (A.length + k) .dead = b:=fun k b h=>by
    rw [Abs.getD_append_right (by omega),show A.length + k - A.length = k by omega]; exact h
  have hsm:=sameI hU hN hL a0 b0 ha hb hUT hTU hTa hTb (A.length + 6) [] hc0 (A.length + 3) (A.length + 4) [] hct (A ++ [Box.cells (encI a0),.cells (encI b0),.cells [tF1,tF2,.map (A.length + 3)],.mapb [],.cells [tF1,tF2,.map (A.length + 3)],.cells [xF1,xF2 (A.length + 4),.map (A.length + 6)],.mapb []]) (by simp) (g 6 _ rfl) (by simp) (by simp) (by omega) (by omega) (by omega) (g 3 _ rfl) (g 4 _ rfl)
  have htc:=tc_new' (A ++ [Box.cells (encI a0),.cells (encI b0)])
  have hxc:=xc_new (A.length + 3) (A ++ [Box.cells (encI a0),.cells (encI b0),.cells [tF1,tF2,.map (A.length + 3)],.mapb []])
  simp only [List.length_append,List.length_cons,List.length_nil,List.append_assoc,List.cons_append,List.nil_append,Nat.add_assoc,Nat.reduceAdd] at htc hxc
  refine acalls_enter (cf:=cf 10 [0,1,2,3,4]) foll Tryz.func66 Tryz.ntmps66 (by simp [cf]) ?_
  simp only [Tryz.f66,EnterK_some,zW,zX,zD,builtinA,isLeaf,const1,Nat.reduceAdd,Nat.reduceMul,Nat.reduceSub,Nat.reduceLT,Nat.reduceLeDiff,Nat.reduceEqDiff,Nat.reduceBEq,Nat.reduceBNe,reduceIte,reduceCtorEq,Int.reduceToNat,Int.reduceLT,Int.reduceLE,Int.reduceEq,Int.reduceNe,Int.reduceNeg,ustrA,ti39,ca108,ca153,ca154,cf,Tryz.results66]
  refine .inr (drawM_intro [4] .done [(true,0,0),(true,1,1),(false,0,2),(false,0,2),(true,2,2),(false,3,3)] [A ++ [.cells (encI a0),.cells (encI b0)],A ++ [.cells (encI a0),.cells (encI b0),.cells [tF1,tF2,.map (A.length + 3)],.mapb []],A ++ [.cells (encI a0),.cells (encI b0),.cells [tF1,tF2,.map (A.length + 3)],.mapb [],.cells [tF1,tF2,.map (A.length + 3)],.cells [xF1,xF2 (A.length + 4),.map (A.length + 6)],.mapb []]] 3 6 rfl (by kernel_rfl) (by kernel_rfl) ?_)
  simp only [zW,zX,zD,builtinA,isLeaf,const1,Nat.reduceAdd,Nat.reduceMul,Nat.reduceSub,Nat.reduceLT,Nat.reduceLeDiff,Nat.reduceEqDiff,Nat.reduceBEq,Nat.reduceBNe,reduceIte,reduceCtorEq,Int.reduceToNat,Int.reduceLT,Int.reduceLE,Int.reduceEq,Int.reduceNe,Int.reduceNeg,ustrA,ti39,ca108,ca153,ca154,cf,Tryz.results66,wpMG_cons,wpMG_nil,wpY_done_eq,List.take_succ_cons,List.take_zero,List.drop_succ_cons,List.drop_zero]
  refine callEO_intro htc ?_ rfl
  simp only [zW,zX,zD,builtinA,isLeaf,const1,Nat.reduceAdd,Nat.reduceMul,Nat.reduceSub,Nat.reduceLT,Nat.reduceLeDiff,Nat.reduceEqDiff,Nat.reduceBEq,Nat.reduceBNe,reduceIte,reduceCtorEq,Int.reduceToNat,Int.reduceLT,Int.reduceLE,Int.reduceEq,Int.reduceNe,Int.reduceNeg,ustrA,ti39,ca108,ca153,ca154,cf,Tryz.results66,wpMG_cons,wpMG_nil,wpY_done_eq,encI_take,List.take_succ_cons,List.take_zero,List.drop_succ_cons,List.drop_zero]
  refine callEO_intro hxc ?_ rfl
  simp only [zW,zX,zD,builtinA,isLeaf,const1,Nat.reduceAdd,Nat.reduceMul,Nat.reduceSub,Nat.reduceLT,Nat.reduceLeDiff,Nat.reduceEqDiff,Nat.reduceBEq,Nat.reduceBNe,reduceIte,reduceCtorEq,Int.reduceToNat,Int.reduceLT,Int.reduceLE,Int.reduceEq,Int.reduceNe,Int.reduceNeg,ustrA,ti39,ca108,ca153,ca154,cf,Tryz.results66,wpMG_cons,wpMG_nil,wpY_done_eq,encI_take,List.take_succ_cons,List.take_zero,List.drop_succ_cons,List.drop_zero]
  refine ⟨by rw [encI_length]; omega,by rw [encI_length]; omega,by rw [encI_length]; omega,by rw [encI_length]; omega,?_⟩
  refine callO_intro hsm ?_
  rintro r A2 ⟨m',mt',rfl,rfl,_⟩
  refine ⟨[[],[],[],_],rfl,?_⟩
  have hS : ∀ (X Y : Box) (L : List Box),((A ++ L).set (A.length + 6) X).set (A.length + 3) Y = A ++ (L.set 6 X).set 3 Y:=fun X Y L=>by rw [Abs.set_app,Abs.set_app]
  rw [hS]
  simp only [zW,zX,zD,builtinA,isLeaf,const1,Nat.reduceAdd,Nat.reduceMul,Nat.reduceSub,Nat.reduceLT,Nat.reduceLeDiff,Nat.reduceEqDiff,Nat.reduceBEq,Nat.reduceBNe,reduceIte,reduceCtorEq,Int.reduceToNat,Int.reduceLT,Int.reduceLE,Int.reduceEq,Int.reduceNe,Int.reduceNeg,ustrA,ti39,ca108,ca153,ca154,cf,Tryz.results66,wpMG_nil,wpY_done_eq,List.drop_succ_cons,List.drop_zero]
theorem impl_ExprSame (a b : Ex) (ha : szX a ≤ 10000000) (hb : szX b ≤ 10000000) (A : List Box) :
    ACalls Tryz.prog 66 [.agg (encX a),.agg (encX b)] A (fun r A'=>r = .bool (decide (a = b)) ∧ A' = A):=by
  intro G w base xs hH hx
  have hx':=hx
  obtain ⟨x,y,hxy,h1,h2⟩:=hx.two
  cases h1 with
  | agg _ us hus huc huh =>
    cases h2 with
    | agg _ vs hvs hvc hvh =>
      have la:=encX_length a
      have lb:=encX_length b
      obtain ⟨s,e1,n1,t1,k1,m1⟩:=annot (G:=G) (w:=w) a (fun j=>us.getD j undef) fun j hj=>huh j (by omega)
      obtain ⟨t,e2,n2,t2,k2,m2⟩:=annot (G:=G) (w:=w) b (fun j=>vs.getD j undef) fun j hj=>hvh j (by omega)
      have hU : Univ (lists s ++ lists t):=by
        refine ⟨fun p hp q hq he=>?_,fun p hp u hu z hz=>?_⟩
        · have okp : LLok G w p:=(List.mem_append.1 hp).elim (k1 p) (k2 p)
          have okq : LLok G w q:=(List.mem_append.1 hq).elim (k1 q) (k2 q)
          exact okp.inj okq he
        · rcases List.mem_append.1 hp with h | h
          · exact List.mem_append_left _ (lists_down s p h u hu z hz)
          · exact List.mem_append_right _ (lists_down t p h u hu z hz)
      have hN : (lists s ++ lists t).length ≤ 100000000:=by
        have q1:=lists_len s
        have q2:=lists_len t
        rw [e1] at q1
        rw [e2] at q2
        rw [List.length_append]; omega
      have hL : ∀ z ∈ lists s ++ lists t,z.ks.length ≤ 1000000000:=fun z hz=>by
        rcases List.mem_append.1 hz with h | h
        · have:=lists_ks z s h; rw [e1] at this; omega
        · have:=lists_ks z t h; rw [e2] at this; omega
      have hs : ∀ z,below s = some z → z ∈ lists s ++ lists t:=fun z hz=>List.mem_append_left _ (by rw [lists_eq hz]; simp)
      have ht : ∀ z,below t = some z → z ∈ lists s ++ lists t:=fun z hz=>List.mem_append_right _ (by rw [lists_eq hz]; simp)
      have hUT : TUs (argL s ++ argL t):=by
        refine ⟨⟨fun p hp q hq he=>?_,fun p hp u hu z hz=>?_⟩,?_,fun z hz=>?_⟩
        · exact tLLok_inj ((List.mem_append.1 hp).elim (m1 p) (m2 p)) ((List.mem_append.1 hq).elim (m1 q) (m2 q)) he
        · rcases List.mem_append.1 hp with h | h
          · exact List.mem_append_left _ (argL_down s p h u hu z hz)
          · exact List.mem_append_right _ (argL_down t p h u hu z hz)
        · have q1:=argL_len s
          have q2:=argL_len t
          rw [e1] at q1
          rw [e2] at q2
          rw [List.length_append]; omega
        · rcases List.mem_append.1 hz with h | h
          · have:=argL_ks z s h; rw [e1] at this; omega
          · have:=argL_ks z t h; rw [e2] at this; omega
      have hTa : TU (argL s ++ argL t) (argX s):=⟨fun x hx=>List.mem_append_left _ (argL_own s x (tLists_top hx))⟩
      have hTb : TU (argL s ++ argL t) (argX t):=⟨fun x hx=>List.mem_append_right _ (argL_own t x (tLists_top hx))⟩
      have hTU : ∀ x ∈ lists s ++ lists t,∀ u ∈ x.ks,TU (argL s ++ argL t) (argX u):=fun x hx u hu=>⟨fun z hz=>by
        have hz':=argL_own u z (tLists_top hz)
        rcases List.mem_append.1 hx with h | h
        · exact List.mem_append_left _ (argL_lists s x h u hu z hz')
        · exact List.mem_append_right _ (argL_lists t x h u hu z hz')⟩
      have key:=impl_ExprSameI hU hN hL s t hs ht hUT hTU hTa hTb A
      rw [e1,e2] at key
      refine key G w base xs hH ?_
      rw [hxy]
      refine .cons (.agg _ us (by rw [encI_length]; omega) huc fun j hj=>t1 j (by rw [encI_length] at hj; exact hj)) (.cons (.agg _ vs (by rw [encI_length]; omega) hvc fun j hj=>t2 j (by rw [encI_length] at hj; exact hj)) .nil)
end Go.Proofs.YtnjdbgiincliaaaGreat.SX
/- The source of the drawn arguments. -/
set_option linter.unusedVariables false
set_option linter.unusedSimpArgs false
namespace Go.Proofs.YtnjdbgiincliaaaGreat
open Go.Abs
def Rd (bs : List UInt8) (p : Nat) : Box:=.cells [.aslice (byteRows bs),.int .i64 p]
theorem rd_closed (n : Nat) (bs : List UInt8) (p : Nat) : boxClosed n (Rd bs p) = true:=rfl
theorem byteRows_length (bs : List UInt8) : (byteRows bs).length = bs.length:=by simp [byteRows]
theorem byteRows_getD {bs : List UInt8} {i : Nat} (h : i < bs.length) : (byteRows bs).getD i [] = [.int .u8 ((bs.getD i 0).toNat : Nat)]:=by simp [byteRows,List.getD,h]
theorem byte_lt (b : UInt8) : (b.toNat : Int) < 256:=by have:=b.toNat_lt; omega
theorem xor_wrap {X : Nat} (h : X < 2 ^ 62) : 0 ≤ IntKind.i64.wrap ((BitVec.ofInt IntKind.i64.bits (X : Int) ^^^ BitVec.ofInt IntKind.i64.bits (IntKind.i64.wrap ((X : Int).tdiv 64))).toNat : Int):=by
  have h1 : ((X : Int).tdiv 64) = ((X / 64 : Nat) : Int):=rfl
  have h2 : X / 64 < 2 ^ 62:=by omega
  have h4 : IntKind.i64.wrap ((X / 64 : Nat) : Int) = ((X / 64 : Nat) : Int):=wrap64 (by omega) (by omega)
  rw [h1,h4]
  show 0 ≤ IntKind.i64.wrap ((BitVec.ofInt 64 (X : Int) ^^^ BitVec.ofInt 64 ((X / 64 : Nat) : Int)).toNat : Int)
  have e1 : (BitVec.ofInt 64 (X : Int)).toNat = X:=by rw [BitVec.toNat_ofInt]; omega
  have e2 : (BitVec.ofInt 64 ((X / 64 : Nat) : Int)).toNat = X / 64:=by rw [BitVec.toNat_ofInt]; omega
  rw [BitVec.toNat_xor,e1,e2]
  have h3:=Nat.xor_lt_two_pow h h2
  rw [wrap64 (by omega) (by omega)]
  omega
set_option maxRecDepth 100000 in
theorem spec_l17Open (bs : List UInt8) (A : List Box) : ACalls Tryz.prog 98 [.aslice (byteRows bs)] A (fun r A'=>∃ bs',bs'.length ≤ 2000 ∧ r = .ptr A.length 0 ∧ A' = A ++ [Rd bs' 0]):=by
  refine acalls_enterK (cf:=cf 11 [0,2,5]) foll Tryz.func98 Tryz.ntmps98 (by simp [cf]) ?_
  simp only [Tryz.f98,EnterK_some,zW,zX,zD,builtinA,isLeaf,const1,ustrA,simprocAttr,ti3,ti5,ti57,ti271,cf,Tryz.results98]
  refine condK_intro (fun h=>?_) (fun h=>?_)
  · simp [byteRows_length] at h
    simp only [zW,zX,zD,builtinA,isLeaf,const1,ustrA,simprocAttr,ti3,ti5,ti57,ti271,cf,Tryz.results98]
    refine ⟨⟨by simp [byteRows],by rw [byteRows_length]; omega⟩,bs.take 2000,(by rw [List.length_take]; omega),by simp [Rd,byteRows,List.map_take]⟩
  · have h' : bs.length ≤ 2000:=by simp [byteRows_length] at h; omega
    simp only [zW,zX,zD,builtinA,isLeaf,const1,ustrA,simprocAttr,ti3,ti5,ti57,ti271,cf,Tryz.results98]
    exact ⟨bs,h',rfl⟩
set_option maxRecDepth 100000 in
theorem spec_pick (bs : List UInt8) (p : Nat) (n : Int) (i : Nat) (A : List Box) (hi : i < A.length) (hA : A.getD i .dead = Rd bs p) (hp : p < 2 ^ 40) (hn : n < 2 ^ 40) :
    ACalls Tryz.prog 115 [.ptr i 0,.int .i64 n] A (fun r A'=>∃ j : Int,r = .int .i64 j ∧ 0 ≤ j ∧ (1 ≤ n → j < n) ∧ A' = A.set i (Rd bs (p + 1))):=by
  rw [Rd] at hA
  have hp1 : IntKind.i64.wrap ((p : Int) + 1) = ((p + 1 : Nat) : Int):=by rw [wrap64 (by omega) (by omega)]; rfl
  refine acalls_enter (cf:=cf 99 [0,1,4,5,6,24,36]) foll Tryz.func115 Tryz.ntmps115 (by simp [cf]) ?_
  simp only [Tryz.f115,EnterK_some,zW,zX,zD,builtinA,isLeaf,const1,ustrA,simprocAttr,ti3,ti5,ti57,ti271,cf,Tryz.results115]
  simp only [zW,zX,zD,builtinA,isLeaf,const1,ustrA,simprocAttr,ti3,ti5,ti57,ti271,cf,Tryz.results115,hA,hi,hp1]
  have hout : Outer A (A.set i (.cells [.aslice (byteRows bs),.int .i64 ((p + 1 : Nat) : Int)])):=outer_set0 A i _ rfl
  by_cases hn1 : n < 1
  · have e1 : decide (n < 1) = true:=decide_eq_true hn1
    simp only [zW,zX,zD,builtinA,isLeaf,const1,ustrA,simprocAttr,ti3,ti5,ti57,ti271,cf,Tryz.results115,hA,hi,hp1,e1]
    exact ⟨hout,0,rfl,by omega,by omega,rfl⟩
  · have e1 : decide (n < 1) = false:=decide_eq_false hn1
    simp only [zW,zX,zD,builtinA,isLeaf,const1,ustrA,simprocAttr,ti3,ti5,ti57,ti271,cf,Tryz.results115,hA,hi,hp1,e1,byteRows_length]
    by_cases hb : bs.length = 0
    · have e2 : decide ((bs.length : Int) = 0) = true:=decide_eq_true (by omega)
      simp only [zW,zX,zD,builtinA,isLeaf,const1,ustrA,simprocAttr,ti3,ti5,ti57,ti271,cf,Tryz.results115,hA,hi,hp1,e1,e2,byteRows_length]
      exact ⟨hout,0,rfl,by omega,by omega,rfl⟩
    · have e2 : decide ((bs.length : Int) = 0) = false:=decide_eq_false (by omega)
      have hp2 : IntKind.i64.wrap (((p + 1 : Nat) : Int) - 1) = (p : Int):=by rw [wrap64 (by omega) (by omega)]; omega
      simp only [zW,zX,zD,builtinA,isLeaf,const1,ustrA,simprocAttr,ti3,ti5,ti57,ti271,cf,Tryz.results115,hA,hi,hp1,hp2,e1,e2,byteRows_length]
      by_cases hk : p < bs.length
      · have e3 : decide ((p : Int) < bs.length) = true:=decide_eq_true (by omega)
        simp only [zW,zX,zD,builtinA,isLeaf,const1,ustrA,simprocAttr,ti3,ti5,ti57,ti271,cf,Tryz.results115,hA,hi,hp1,hp2,e1,e2,e3,byteRows_length,byteRows_getD hk]
        have hb0:=byte_lt (bs.getD p 0)
        rw [wrap64 (by omega) (by omega)]
        have hr0:=Int.tmod_nonneg n (show (0 : Int) ≤ ((bs.getD p 0).toNat : Nat) by omega)
        have hr1:=Int.tmod_lt_of_pos (((bs.getD p 0).toNat : Nat) : Int) (show (0 : Int) < n by omega)
        exact ⟨by omega,by omega,hout,_,rfl,hr0,fun _=>hr1,rfl⟩
      · have e3 : decide ((p : Int) < bs.length) = false:=decide_eq_false (by omega)
        simp only [zW,zX,zD,builtinA,isLeaf,const1,ustrA,simprocAttr,ti3,ti5,ti57,ti271,cf,Tryz.results115,hA,hi,hp1,hp2,e1,e2,e3,byteRows_length]
        refine .inl ⟨by kernel_rfl,by kernel_rfl,?_⟩
        obtain ⟨L,hL⟩ : ∃ L,L = bs.length:=⟨_,rfl⟩
        have hL0 : 0 < L:=by omega
        have hm0 : p % L < L:=Nat.mod_lt _ hL0
        have hm1 : (p * 7 + 3) % L < L:=Nat.mod_lt _ hL0
        have hq : p / L ≤ p:=Nat.div_le_self _ _
        obtain ⟨b0,hb0⟩ : ∃ b0 : Nat,b0 = (bs.getD (p % L) 0).toNat:=⟨_,rfl⟩
        obtain ⟨b1,hb1⟩ : ∃ b1 : Nat,b1 = (bs.getD ((p * 7 + 3) % L) 0).toNat:=⟨_,rfl⟩
        have hb0l : b0 < 256:=by rw [hb0]; exact (bs.getD (p % L) 0).toNat_lt
        have hb1l : b1 < 256:=by rw [hb1]; exact (bs.getD ((p * 7 + 3) % L) 0).toNat_lt
        have g0 : (byteRows bs).getD (p % L) [] = [.int .u8 (b0 : Int)]:=by rw [byteRows_getD (by omega),hb0]
        have g1 : (byteRows bs).getD ((p * 7 + 3) % L) [] = [.int .u8 (b1 : Int)]:=by rw [byteRows_getD (by omega),hb1]
        obtain ⟨q,hqd⟩ : ∃ q,q = p / L:=⟨_,rfl⟩
        have t0 : ((p : Int)).tmod (L : Int) = ((p % L : Nat) : Int):=rfl
        have t1 : (((p * 7 + 3 : Nat)) : Int).tmod (L : Int) = (((p * 7 + 3) % L : Nat) : Int):=rfl
        have t2 : ((p : Int)).tdiv (L : Int) = (q : Int):=by rw [hqd]; rfl
        have w0 : IntKind.i64.wrap (b0 : Int) = b0:=wrap64 (by omega) (by omega)
        have w1 : IntKind.i64.wrap ((b0 : Int) * 131) = ((b0 * 131 : Nat) : Int):=by rw [wrap64 (by omega) (by omega)]; omega
        have w2 : IntKind.i64.wrap (b1 : Int) = b1:=wrap64 (by omega) (by omega)
        have w3 : IntKind.i64.wrap ((b1 : Int) * 1117) = ((b1 * 1117 : Nat) : Int):=by rw [wrap64 (by omega) (by omega)]; omega
        have w4 : IntKind.i64.wrap ((p : Int) * 7) = ((p * 7 : Nat) : Int):=by rw [wrap64 (by omega) (by omega)]; omega
        have w5 : IntKind.i64.wrap (((p * 7 : Nat) : Int) + 3) = ((p * 7 + 3 : Nat) : Int):=by rw [wrap64 (by omega) (by omega)]; omega
        have w6 : IntKind.i64.wrap (((b0 * 131 : Nat) : Int) + ((b1 * 1117 : Nat) : Int)) = ((b0 * 131 + b1 * 1117 : Nat) : Int):=by rw [wrap64 (by omega) (by omega)]; omega
        have w7 : IntKind.i64.wrap ((p : Int) * 29) = ((p * 29 : Nat) : Int):=by rw [wrap64 (by omega) (by omega)]; omega
        have w8 : IntKind.i64.wrap (((b0 * 131 + b1 * 1117 : Nat) : Int) + ((p * 29 : Nat) : Int)) = ((b0 * 131 + b1 * 1117 + p * 29 : Nat) : Int):=by rw [wrap64 (by omega) (by omega)]; omega
        have w9 : IntKind.i64.wrap (q : Int) = q:=wrap64 (by omega) (by omega)
        have wa : IntKind.i64.wrap ((q : Int) * 53) = ((q * 53 : Nat) : Int):=by rw [wrap64 (by omega) (by omega)]; omega
        have wb : IntKind.i64.wrap (((b0 * 131 + b1 * 1117 + p * 29 : Nat) : Int) + ((q * 53 : Nat) : Int)) = ((b0 * 131 + b1 * 1117 + p * 29 + q * 53 : Nat) : Int):=by rw [wrap64 (by omega) (by omega)]; omega
        rw [← hL]
        simp only [zW,zX,zD,builtinA,isLeaf,const1,ustrA,simprocAttr,ti3,ti5,ti57,ti271,cf,Tryz.results115,hA,hi,hp1,hp2,e1,e2,e3,byteRows_length,← hL,t0,t1,t2,w0,w1,w2,w3,w4,w5,w6,w7,w8,w9,wa,wb,g0,g1]
        obtain ⟨X,hX⟩ : ∃ X,X = b0 * 131 + b1 * 1117 + p * 29 + q * 53:=⟨_,rfl⟩
        have hXl : X < 2 ^ 62:=by omega
        rw [← hX]
        have hx:=xor_wrap hXl
        refine ⟨by omega,⟨by omega,by omega⟩,by omega,⟨by omega,by omega⟩,by omega,by omega,hout,_,rfl,Int.tmod_nonneg n hx,fun _=>Int.tmod_lt_of_pos _ (by omega),rfl⟩
set_option maxRecDepth 100000 in
theorem spec_of (bs : List UInt8) (p : Nat) (l : List (List UInt8)) (i : Nat) (A : List Box) (hi : i < A.length) (hA : A.getD i .dead = Rd bs p) (hp : p < 2 ^ 40) (hl : 0 < l.length ∧ l.length < 1000) :
    ACalls Tryz.prog 101 [.ptr i 0,.slice (l.map fun s=>[.str s])] A (fun r A'=>∃ s,r = .str s ∧ s ∈ l ∧ A' = A.set i (Rd bs (p + 1))):=by
  have hll : (l.map fun s=>[AV.str s]).length = l.length:=by simp
  refine acalls_enter (cf:=cf 12 [0,1,4]) foll Tryz.func101 Tryz.ntmps101 (by simp [cf]) ?_
  simp only [Tryz.f101,EnterK_some,zW,zX,zD,builtinA,isLeaf,const1,ustrA,simprocAttr,ti9,ti48,ca115,cf,Tryz.results101]
  simp only [hll]
  refine callK_intro (by simp only [zW,zX,zD,builtinA,isLeaf,const1,ustrA,simprocAttr]; rfl) (spec_pick bs p _ i _ hi hA hp (by omega)) ?_ rfl
  rintro v A' ⟨j,rfl,h0,h1,rfl⟩
  obtain ⟨k,rfl⟩:=Int.eq_ofNat_of_zero_le h0
  have hk : k < l.length:=by have:=h1 (by omega); omega
  have hg : (l.map fun s=>[AV.str s]).getD k [] = [.str (l.getD k [])]:=by simp [List.getD,hk]
  simp only [zW,zX,zD,builtinA,isLeaf,const1,ustrA,simprocAttr,ti9,ti48,ca115,cf,Tryz.results101,hi,hll,hg]
  exact ⟨⟨by omega,by omega⟩,outer_set0 A i _ (rd_closed _ _ _),_,rfl,Abs.getD_mem hk⟩
set_option maxRecDepth 100000 in
theorem spec_num (bs : List UInt8) (p : Nat) (l : List Int) (i : Nat) (A : List Box) (hi : i < A.length) (hA : A.getD i .dead = Rd bs p) (hp : p < 2 ^ 40) (hl : 0 < l.length ∧ l.length < 1000) :
    ACalls Tryz.prog 186 [.ptr i 0,.slice (l.map fun s=>[.int .i64 s])] A (fun r A'=>∃ s,r = .int .i64 s ∧ s ∈ l ∧ A' = A.set i (Rd bs (p + 1))):=by
  have hll : (l.map fun s=>[AV.int .i64 s]).length = l.length:=by simp
  refine acalls_enter (cf:=cf 12 [0,1,4]) foll Tryz.func186 Tryz.ntmps186 (by simp [cf]) ?_
  simp only [Tryz.f186,EnterK_some,zW,zX,zD,builtinA,isLeaf,const1,ustrA,simprocAttr,ti3,ti273,ca115,cf,Tryz.results186]
  simp only [hll]
  refine callK_intro (by simp only [zW,zX,zD,builtinA,isLeaf,const1,ustrA,simprocAttr]; rfl) (spec_pick bs p _ i _ hi hA hp (by omega)) ?_ rfl
  rintro v A' ⟨j,rfl,h0,h1,rfl⟩
  obtain ⟨k,rfl⟩:=Int.eq_ofNat_of_zero_le h0
  have hk : k < l.length:=by have:=h1 (by omega); omega
  have hg : (l.map fun s=>[AV.int .i64 s]).getD k [] = [.int .i64 (l.getD k 0)]:=by simp [List.getD,hk]
  simp only [zW,zX,zD,builtinA,isLeaf,const1,ustrA,simprocAttr,ti3,ti273,ca115,cf,Tryz.results186,hi,hll,hg]
  exact ⟨⟨by omega,by omega⟩,outer_set0 A i _ (rd_closed _ _ _),_,rfl,Abs.getD_mem hk⟩
end Go.Proofs.YtnjdbgiincliaaaGreat
