/- SameAX, SameEX, ExLaw, Items, ExSameS. -/
import Derived.Test.YtijlnkfiadajhaaK05
import Derived.Test.YtijlnkfiadajhaaAbsW3
/- Where the operands of an expression lie; the program's ExprSame. -/
set_option linter.unusedVariables false
set_option linter.unusedSimpArgs false
namespace Go.Proofs.Ytijlnkfiadajhaa
open Go.Abs
abbrev tLists (a : TT) : List tLL:=lists a
abbrev tNorm (a : TT) : Prop:=norm a
abbrev tLLok (G : Ghost) (w : World) (x : tLL) : Prop:=LLok G w x
theorem tT4 {G : Ghost} {w : World} {a : TT} {X : Nat → Value} : T4 G w a X ↔ ∀ j,j < 4 → RV G w ((tEnc a).getD j .bot) (X j):=by
  unfold T4
  rw [tEnc_eq a]
  rfl
theorem tUniq {G : Ghost} {w : World} (s t : TT) (X : Nat → Value) (hs : tNorm s) (ht : tNorm t) (h : ∀ j,j < 4 → RV G w ((tEnc s).getD j .bot) (X j)) (k : ∀ j,j < 4 → RV G w ((tEnc t).getD j .bot) (X j)) : s = t:=uniq s t X hs ht (tT4.2 h) (tT4.2 k)
theorem tAnnot {G : Ghost} {w : World} (τ : Ty) (X : Nat → Value) (h : ∀ j,j < 4 → RV G w ((enc τ).getD j .bot) (X j)) : ∃ t : TT,tErase t = τ ∧ tNorm t ∧ (∀ j,j < 4 → RV G w ((tEnc t).getD j .bot) (X j)) ∧ ∀ x ∈ tLists t,tLLok G w x:=by
  obtain ⟨t,h1,h2,h3,h4⟩:=annot τ X h
  exact ⟨t,h1,h2,tT4.1 h3,h4⟩
theorem tLists_len (a : TT) : (tLists a).length ≤ sz (tErase a):=lists_len a
theorem tLists_ks (x : tLL) (a : TT) (h : x ∈ tLists a) : x.ks.length ≤ sz (tErase a):=lists_ks x a h
theorem tLists_down (a : TT) : ∀ x ∈ tLists a,∀ u ∈ x.ks,∀ y,tBelow u = some y → y ∈ tLists a:=lists_down a
theorem tLists_top {a : TT} {x : tLL} (h : tBelow a = some x) : x ∈ tLists a:=by
  have:=lists_eq h
  unfold tLists
  rw [this]; simp
theorem tGd {α : Type} (l : List α) (i : Nat) (d : α) (h : i < l.length) : l.getD i d = l[i]:=by simp [List.getD,h]
theorem tList_of {α : Type} {P : Nat → α → Prop} (d : α) {n : Nat} (h : ∀ i,i < n → ∃ x,P i x) : ∃ l : List α,l.length = n ∧ ∀ i,i < n → P i (l.getD i d):=by
  induction n with
  | zero=>exact ⟨[],rfl,by omega⟩
  | succ n ih =>
    obtain ⟨l,hl,hp⟩:=ih fun i hi=>h i (by omega)
    obtain ⟨x,hx⟩:=h n (by omega)
    refine ⟨l ++ [x],by simp [hl],fun i hi=>?_⟩
    rcases Nat.lt_or_ge i n with h' | h'
    · rw [Abs.getD_append_left (by omega)]; exact hp i h'
    · obtain rfl : i = n:=by omega
      rw [Abs.getD_append_right (by omega),hl,Nat.sub_self]
      exact hx
end Go.Proofs.Ytijlnkfiadajhaa
namespace Go.Proofs.Ytijlnkfiadajhaa.SX
open Go.Abs
mutual
def lists : IEx → List LL
  | .mk _ _ _ _ _ _ _ []=>[]
  | .mk _ _ _ _ _ b o (t :: ks)=>⟨b,o,t,ks⟩ :: (lists t ++ listss ks)
def listss : List IEx → List LL
  | []=>[]
  | t :: l=>lists t ++ listss l
end
mutual
def argL : IEx → List tLL
  | .mk _ _ _ _ a _ _ ks=>tLists a ++ argLs ks
def argLs : List IEx → List tLL
  | []=>[]
  | t :: l=>argL t ++ argLs l
end
mutual
def norm : IEx → Prop
  | .mk _ _ _ _ a b o []=>tNorm a ∧ b = 0 ∧ o = 0
  | .mk _ _ _ _ a _ _ (t :: ks)=>tNorm a ∧ norm t ∧ norms ks
def norms : List IEx → Prop
  | []=>True
  | t :: l=>norm t ∧ norms l
end
theorem norm_arg (t : IEx) (h : norm t) : tNorm (argX t):=by
  obtain ⟨k,q,m,n,a,b,o,ks⟩:=t
  cases ks with
  | nil=>exact h.1
  | cons t ks=>exact h.1
theorem argLs_mem {x : tLL} : ∀ {l : List IEx},x ∈ argLs l ↔ ∃ t ∈ l,x ∈ argL t
  | []=>by simp [argLs]
  | t :: l=>by rw [argLs,List.mem_append,argLs_mem]; simp
theorem argL_own (t : IEx) : ∀ x ∈ tLists (argX t),x ∈ argL t:=by
  obtain ⟨k,q,m,n,a,b,o,ks⟩:=t
  intro x hx
  rw [argL]
  exact List.mem_append_left _ hx
theorem argL_below {t : IEx} {x : LL} (h : below t = some x) {u : IEx} (hu : u ∈ x.ks) : ∀ z ∈ argL u,z ∈ argL t:=by
  obtain ⟨k,q,m,n,a,rfl⟩:=below_ks h
  intro z hz
  rw [argL]
  exact List.mem_append_right _ (argLs_mem.2 ⟨u,hu,hz⟩)
mutual
theorem argL_down : ∀ (t : IEx) (x : tLL),x ∈ argL t → ∀ u ∈ x.ks,∀ y,tBelow u = some y → y ∈ argL t
  | .mk k q m n a b o ks,x,hx,u,hu,y,hy=>by
    rw [argL] at hx ⊢
    rcases List.mem_append.1 hx with hx | hx
    · exact List.mem_append_left _ (tLists_down a x hx u hu y hy)
    · exact List.mem_append_right _ (argLs_down ks x hx u hu y hy)
theorem argLs_down : ∀ (l : List IEx) (x : tLL),x ∈ argLs l → ∀ u ∈ x.ks,∀ y,tBelow u = some y → y ∈ argLs l
  | [],x,hx,u,hu,y,hy=>by simp [argLs] at hx
  | t :: l,x,hx,u,hu,y,hy=>by
    rw [argLs] at hx ⊢
    rcases List.mem_append.1 hx with hx | hx
    · exact List.mem_append_left _ (argL_down t x hx u hu y hy)
    · exact List.mem_append_right _ (argLs_down l x hx u hu y hy)
end
mutual
theorem argL_len : ∀ t : IEx,(argL t).length ≤ szX (erase t)
  | .mk k q m n a b o ks=>by
    have h1:=tLists_len a
    have h2:=argLs_len ks
    simp only [argL,erase,szX,List.length_append]
    omega
theorem argLs_len : ∀ l : List IEx,(argLs l).length ≤ szXs (erases l)
  | []=>by simp [argLs]
  | t :: l=>by
    have h1:=argL_len t
    have h2:=argLs_len l
    simp only [argLs,erases,szXs,List.length_append]
    omega
end
mutual
theorem argL_ks (x : tLL) : ∀ t : IEx,x ∈ argL t → x.ks.length ≤ szX (erase t)
  | .mk k q m n a b o ks=>fun h=>by
    simp only [argL,List.mem_append] at h
    simp only [erase,szX]
    rcases h with h | h
    · have:=tLists_ks x a h; omega
    · have:=argLs_ks x ks h; omega
theorem argLs_ks (x : tLL) : ∀ l : List IEx,x ∈ argLs l → x.ks.length ≤ szXs (erases l)
  | []=>by simp [argLs]
  | t :: l=>fun h=>by
    simp only [argLs,List.mem_append] at h
    simp only [erases,szXs]
    rcases h with h | h
    · have:=argL_ks x t h; omega
    · have:=argLs_ks x l h; omega
end
theorem norms_all : ∀ {l : List IEx},norms l ↔ ∀ t ∈ l,norm t
  | []=>by simp [norms]
  | t :: l=>by rw [norms,norms_all]; simp
theorem listss_mem {x : LL} : ∀ {l : List IEx},x ∈ listss l ↔ ∃ t ∈ l,x ∈ lists t
  | []=>by simp [listss]
  | t :: l=>by rw [listss,List.mem_append,listss_mem]; simp
theorem lists_eq {t : IEx} {x : LL} (h : below t = some x) : lists t = x :: listss x.ks:=by
  obtain ⟨k,q,m,n,a,b,o,ks⟩:=t
  cases ks with
  | nil=>simp [below] at h
  | cons u ks=>simp [below] at h; subst h; simp [lists,LL.ks,listss]
theorem lists_down (t : IEx) : ∀ x ∈ lists t,∀ u ∈ x.ks,∀ y,below u = some y → y ∈ lists t:=by
  induction t using IEx.ind with
  | h k q m n a b o ks ih =>
    cases ks with
    | nil=>simp [lists]
    | cons t ks =>
      intro x hx u hu y hy
      have he:=lists_eq (t:=.mk k q m n a b o (t :: ks)) (x:=⟨b,o,t,ks⟩) rfl
      rw [he] at hx ⊢
      have hsub : ∀ v ∈ (⟨b,o,t,ks⟩ : LL).ks,∀ z,z ∈ lists v → z ∈ listss (⟨b,o,t,ks⟩ : LL).ks:=fun v hv z hz=>listss_mem.2 ⟨v,hv,hz⟩
      rcases List.mem_cons.1 hx with rfl | hx
      · refine List.mem_cons_of_mem _ (hsub u hu y ?_)
        rw [lists_eq hy]; simp
      · obtain ⟨v,hv,hxv⟩:=listss_mem.1 hx
        exact List.mem_cons_of_mem _ (hsub v hv y (ih v hv x hxv u hu y hy))
mutual
theorem lists_len : ∀ t : IEx,(lists t).length ≤ szX (erase t)
  | .mk k q m n a b o []=>by simp [lists]
  | .mk k q m n a b o (t :: ks)=>by
    have h1:=lists_len t
    have h2:=listss_len ks
    simp only [lists,erase,erases,szX,szXs,List.length_cons,List.length_append]
    omega
theorem listss_len : ∀ l : List IEx,(listss l).length ≤ szXs (erases l)
  | []=>by simp [listss]
  | t :: l=>by
    have h1:=lists_len t
    have h2:=listss_len l
    simp only [listss,erases,szXs,List.length_append]
    omega
end
theorem islice_inv {G : Ghost} {w : World} {b off : Nat} {rows : List (List AV)} {x : Value} (h : RV G w (.islice b off rows) x) : ∃ cap sz,∃ X : Nat → Nat → Value,x = .slice (some ⟨b,off,none⟩) rows.length cap ∧ (∀ r ∈ rows,r.length = sz) ∧
    (∀ i j,i < rows.length → j < sz → w.cell? ⟨b,off + (i * sz + j),none⟩ = some (X i j)) ∧ ∀ i j,i < rows.length → j < sz → RV G w (Go.Abs.rowAt rows i j) (X i j):=Go.Proofs.Ytijlnkfiadajhaa.islice_inv h
theorem gd {α : Type} (l : List α) (i : Nat) (d : α) (h : i < l.length) : l.getD i d = l[i]:=tGd l i d h
mutual
theorem lists_ks (x : LL) : ∀ t : IEx,x ∈ lists t → x.ks.length ≤ szX (erase t)
  | .mk k q m n a b o []=>by simp [lists]
  | .mk k q m n a b o (t :: ks)=>fun h=>by
    simp only [lists,List.mem_cons,List.mem_append] at h
    simp only [erase,erases,szX,szXs]
    rcases h with rfl | h | h
    · have h1 : (erases ks).length = ks.length:=by rw [erases_map,List.length_map]
      show (t :: ks).length ≤ _
      simp only [List.length_cons]; omega
    · have:=lists_ks x t h; omega
    · have:=listss_ks x ks h; omega
theorem listss_ks (x : LL) : ∀ l : List IEx,x ∈ listss l → x.ks.length ≤ szXs (erases l)
  | []=>by simp [listss]
  | t :: l=>fun h=>by
    simp only [listss,List.mem_append] at h
    simp only [erases,szXs]
    rcases h with h | h
    · have:=lists_ks x t h; omega
    · have:=listss_ks x l h; omega
end
def R4 (G : Ghost) (w : World) (τ : Ex) (X : Nat → Value) : Prop:=∀ j,j < 9 → RV G w ((encX τ).getD j .bot) (X j)
def T4 (G : Ghost) (w : World) (t : IEx) (X : Nat → Value) : Prop:=∀ j,j < 9 → RV G w ((encI t).getD j .bot) (X j)
theorem T4.arg {G : Ghost} {w : World} {t : IEx} {X : Nat → Value} (h : T4 G w t X) : ∀ j,j < 4 → RV G w ((tEnc (argX t)).getD j .bot) (X (4 + j)):=fun j hj=>by
  have:=h (4 + j) (by omega)
  rw [encI_eq] at this
  match j,hj with
  | 0,_=>exact this
  | 1,_=>exact this
  | 2,_=>exact this
  | 3,_=>exact this
theorem uniq {G : Ghost} {w : World} (s : IEx) : ∀ (t : IEx) (X : Nat → Value),norm s → norm t → T4 G w s X → T4 G w t X → s = t:=by
  induction s using IEx.ind with
  | h k q m n a b o ks ih =>
    rintro ⟨k',q',m',n',a',b',o',ks'⟩ X hs ht h h'
    have ea : a = a':=tUniq a a' (fun j=>X (4 + j)) (norm_arg _ hs) (norm_arg _ ht) h.arg h'.arg
    have h0:=h 0 (by decide); have h1:=h 2 (by decide); have h2:=h 3 (by decide); have h3:=h 8 (by decide); have hq:=h 1 (by decide)
    have g0:=h' 0 (by decide); have g1:=h' 2 (by decide); have g2:=h' 3 (by decide); have g3:=h' 8 (by decide); have gq:=h' 1 (by decide)
    rw [encI_eq] at h0 h1 h2 h3 g0 g1 g2 g3 hq gq
    simp only [List.getD_cons_zero,List.getD_cons_succ,hdX] at h0 h1 h2 h3 g0 g1 g2 g3 hq gq
    generalize X 0 = v0 at h0 g0
    generalize X 1 = vq at hq gq
    generalize X 2 = v1 at h1 g1
    generalize X 3 = v2 at h2 g2
    generalize X 8 = v3 at h3 g3
    have e0 : k = k':=by cases h0; cases g0; rfl
    have eq : q = q':=by cases hq; cases gq; rfl
    have e1 : m = m':=by
      cases h1
      generalize hq : (⟨m.toArray⟩ : ByteArray) = q at g1
      cases g1
      injection hq with hq
      have:=congrArg Array.toList hq
      simpa using this
    have e2 : n = n':=by
      cases h2
      generalize hq : (⟨n.toArray⟩ : ByteArray) = q at g2
      cases g2
      injection hq with hq
      have:=congrArg Array.toList hq
      simpa using this
    subst e0; subst e1; subst e2; subst ea; subst eq
    have lens : ∀ (a : Option Addr) (l c : Nat),v3 = .slice a l c → (ks = [] → l = 0) ∧ (ks' = [] → l = 0) ∧ (ks ≠ [] → l = ks.length) ∧ (ks' ≠ [] → l = ks'.length):=by
      intro a l c hv
      subst hv
      refine ⟨fun e=>?_,fun e=>?_,fun e=>?_,fun e=>?_⟩
      · subst e; simp [kidsV,below] at h3; cases h3 <;> rfl
      · subst e; simp [kidsV,below] at g3; cases g3 <;> rfl
      · cases ks with
        | nil=>exact absurd rfl e
        | cons t ks=>simp [kidsV,below] at h3; cases h3; simp [LL.ks,encIs_length]
      · cases ks' with
        | nil=>exact absurd rfl e
        | cons t ks'=>simp [kidsV,below] at g3; cases g3; simp [LL.ks,encIs_length]
    have isS : ∃ a l c,v3 = .slice a l c:=by
      cases ks with
      | nil=>simp [kidsV,below] at h3; cases h3 <;> exact ⟨_,_,_,rfl⟩
      | cons t ks=>simp [kidsV,below] at h3; cases h3; exact ⟨_,_,_,rfl⟩
    obtain ⟨a,l,c,hv⟩:=isS
    obtain ⟨l1,l2,l3,l4⟩:=lens a l c hv
    cases ks with
    | nil =>
      cases ks' with
      | nil =>
        simp only [norm] at hs ht
        rw [hs.2.1,hs.2.2,ht.2.1,ht.2.2]
      | cons t ks' =>
        have a1:=l1 rfl
        have a2:=l4 (by simp)
        simp at a2; omega
    | cons t ks =>
      cases ks' with
      | nil =>
        have a1:=l2 rfl
        have a2:=l3 (by simp)
        simp at a2; omega
      | cons t' ks' =>
        have a1:=l3 (by simp)
        have a2:=l4 (by simp)
        simp only [kidsV,below] at h3 g3
        obtain ⟨cap,sz,X1,q1,r1,x1,z1⟩:=islice_inv h3
        obtain ⟨cap',sz',X2,q2,r2,x2,z2⟩:=islice_inv g3
        rw [q1] at q2
        simp only [Value.slice.injEq,Option.some.injEq,Addr.mk.injEq] at q2
        have hb : b = b':=q2.1.1
        have ho : o = o':=q2.1.2.1
        have hlen : (t :: ks).length = (t' :: ks').length:=by
          have:=q2.2.1
          rw [encIs_length,encIs_length] at this
          exact this
        subst hb; subst ho
        have n1 : (encIs (LL.ks ⟨b,o,t,ks⟩)).length = (t :: ks).length:=encIs_length _
        have n2 : (encIs (LL.ks ⟨b,o,t',ks'⟩)).length = (t' :: ks').length:=encIs_length _
        have e1 : sz = 9:=by
          have:=r1 (encI t) (by simp [LL.ks,encIs])
          rw [encI_length] at this; exact this.symm
        have e2 : sz' = 9:=by
          have:=r2 (encI t') (by simp [LL.ks,encIs])
          rw [encI_length] at this; exact this.symm
        subst e1; subst e2
        have key : (t :: ks) = (t' :: ks'):=by
          apply List.ext_getElem hlen
          intro i hi hi'
          have xe : ∀ j,j < 9 → X1 i j = X2 i j:=fun j hj=>by
            have:=(x1 i j (by omega) hj).symm.trans (x2 i j (by omega) hj)
            injection this
          have t1 : T4 G w ((t :: ks)[i]) (X1 i):=fun j hj=>by
            have:=z1 i j (by omega) hj
            unfold Go.Abs.rowAt at this
            rw [encIs_getD (show i < (LL.ks ⟨b,o,t,ks⟩).length from hi),gd _ _ _ (show i < (LL.ks ⟨b,o,t,ks⟩).length from hi)] at this
            exact this
          have t2 : T4 G w ((t' :: ks')[i]) (X1 i):=fun j hj=>by
            have:=z2 i j (by omega) hj
            unfold Go.Abs.rowAt at this
            rw [encIs_getD (show i < (LL.ks ⟨b,o,t',ks'⟩).length from hi'),gd _ _ _ (show i < (LL.ks ⟨b,o,t',ks'⟩).length from hi'),← xe j hj] at this
            exact this
          simp only [norm] at hs ht
          have ns : ∀ u ∈ (t :: ks),norm u:=fun u hu=>by
            rcases List.mem_cons.1 hu with rfl | hu
            · exact hs.2.1
            · exact norms_all.1 hs.2.2 u hu
          have nt : ∀ u ∈ (t' :: ks'),norm u:=fun u hu=>by
            rcases List.mem_cons.1 hu with rfl | hu
            · exact ht.2.1
            · exact norms_all.1 ht.2.2 u hu
          exact ih _ (List.getElem_mem hi) _ _ (ns _ (List.getElem_mem hi)) (nt _ (List.getElem_mem hi')) t1 t2
        rw [key]
def LLok (G : Ghost) (w : World) (x : LL) : Prop:=∃ Y : Nat → Nat → Value,(∀ t ∈ x.ks,norm t) ∧ ∀ i,i < x.ks.length → T4 G w (x.ks.getD i it0) (Y i) ∧ ∀ j,j < 9 → w.cell? ⟨x.b,x.off + (i * 9 + j),none⟩ = some (Y i j)
theorem LLok.inj {G : Ghost} {w : World} {x y : LL} (hx : LLok G w x) (hy : LLok G w y) (h : x.idn = y.idn) : x = y:=by
  obtain ⟨X,n1,h1⟩:=hx
  obtain ⟨Y,n2,h2⟩:=hy
  simp only [LL.idn,Prod.mk.injEq] at h
  obtain ⟨e1,e2,e3⟩:=h
  have key : x.ks = y.ks:=by
    apply List.ext_getElem e3
    intro i hi hi'
    obtain ⟨a1,a2⟩:=h1 i hi
    obtain ⟨b1,b2⟩:=h2 i hi'
    have xe : ∀ j,j < 9 → X i j = Y i j:=fun j hj=>by
      have c1:=a2 j hj
      have c2:=b2 j hj
      rw [e1,e2,c2] at c1
      injection c1 with c1
      exact c1.symm
    have g1 : x.ks.getD i it0 = x.ks[i]:=by simp [List.getD,hi]
    have g2 : y.ks.getD i it0 = y.ks[i]:=by simp [List.getD,hi']
    rw [g1] at a1
    rw [g2] at b1
    exact uniq _ _ (X i) (n1 _ (List.getElem_mem hi)) (n2 _ (List.getElem_mem hi')) a1 fun j hj=>by rw [xe j hj]; exact b1 j hj
  obtain ⟨b,o,h,t⟩:=x
  obtain ⟨b',o',h',t'⟩:=y
  simp only [LL.ks,List.cons.injEq] at key e1 e2
  obtain ⟨rfl,rfl⟩:=key
  subst e1; subst e2
  rfl
theorem annot {G : Ghost} {w : World} (τ : Ex) : ∀ (X : Nat → Value),R4 G w τ X → ∃ t,erase t = τ ∧ norm t ∧ T4 G w t X ∧ (∀ x ∈ lists t,LLok G w x) ∧ ∀ x ∈ argL t,tLLok G w x:=by
  induction τ using Ex.ind with
  | h k q m n ar ks ih =>
    intro X hX
    have ha:=tAnnot (G:=G) (w:=w) ar (fun j=>X (4 + j)) fun j hj=>by
      have:=hX (4 + j) (by omega)
      rw [encX] at this
      rw [encT4]
      match j,hj with
      | 0,_=>exact this
      | 1,_=>exact this
      | 2,_=>exact this
      | 3,_=>exact this
    obtain ⟨a,a1,a2,a3,a4⟩:=ha
    have cellsOk : ∀ (b o : Nat) (us : List IEx),RV G w (kidsV (.mk k q m n a b o us)) (X 8) → T4 G w (.mk k q m n a b o us) X:=fun b o us h8 j hj=>by
      have h0:=hX 0 (by decide); have hq:=hX 1 (by decide); have h1:=hX 2 (by decide); have h2:=hX 3 (by decide)
      rw [encX] at h0 h1 h2 hq
      rw [encI_eq]
      match j,hj with
      | 0,_=>exact h0
      | 1,_=>exact hq
      | 2,_=>exact h1
      | 3,_=>exact h2
      | 4,_=>exact a3 0 (by decide)
      | 5,_=>exact a3 1 (by decide)
      | 6,_=>exact a3 2 (by decide)
      | 7,_=>exact a3 3 (by decide)
      | 8,_=>exact h8
    have h3:=hX 8 (by decide)
    rw [encX] at h3
    simp only [List.getD_cons_zero,List.getD_cons_succ] at h3
    cases ks with
    | nil =>
      refine ⟨.mk k q m n a 0 0 [],by simp [erase,erases,a1],⟨a2,rfl,rfl⟩,cellsOk _ _ _ ?_,by simp [lists],fun x hx=>a4 x (by simpa [argL,argLs] using hx)⟩
      simpa [kidsV,below,encXs] using h3
    | cons t0 ks =>
      generalize hv : X 8 = v3 at h3
      generalize hL : encXs (t0 :: ks) = L at h3
      have hLl : L.length = (t0 :: ks).length:=by rw [← hL,encXs_length]
      cases h3 with
      | slice0=>simp at hLl
      | sliceE=>simp at hLl
      | slice _ b off cap sz Y hr hcap hx hI hz hh =>
        have hl : 0 < L.length:=by rw [hLl]; simp
        have r1 : sz = 9:=by
          have:=(hr _ (Abs.getD_mem (d:=[]) hl)).1
          rw [← hL,encXs_getD (by simp),encX_length] at this
          omega
        subst r1
        have each : ∀ i,i < (t0 :: ks).length → ∃ t,erase t = (t0 :: ks).getD i ex0 ∧ norm t ∧ T4 G w t (Y i) ∧ (∀ x ∈ lists t,LLok G w x) ∧ ∀ x ∈ argL t,tLLok G w x:=fun i hi=>by
          refine ih _ (Abs.getD_mem hi) (Y i) fun j hj=>?_
          have:=hh i j (by omega) hj
          unfold Go.Abs.rowAt at this
          rwa [← hL,encXs_getD hi] at this
        obtain ⟨ts,hts,hq⟩:=tList_of it0 each
        match ts,hts,hq with
        | u :: us,hts,hq =>
          have er : erases (u :: us) = t0 :: ks:=by
            rw [erases_map]
            apply List.ext_getElem (by simpa using hts)
            intro i hi hi'
            have:=(hq i hi').1
            have hil : i < (u :: us).length:=by simpa using hi
            rw [gd _ _ _ hil,gd _ _ _ hi'] at this
            rw [List.getElem_map]
            exact this
          have hxk : (⟨b,off,u,us⟩ : LL).ks = u :: us:=rfl
          have hok : LLok G w ⟨b,off,u,us⟩:=by
            refine ⟨Y,fun t ht=>?_,fun i hi=>?_⟩
            · rw [hxk] at ht
              obtain ⟨i,hi,rfl⟩:=List.mem_iff_getElem.1 ht
              have:=(hq i (by omega)).2.1
              rw [gd _ _ _ hi] at this
              exact this
            · rw [hxk] at hi ⊢
              exact ⟨(hq i (by omega)).2.2.1,fun j hj=>hx i j (by omega) hj⟩
          have mem : ∀ t ∈ u :: us,∃ i,i < (t0 :: ks).length ∧ (u :: us).getD i it0 = t:=fun t ht=>by
            obtain ⟨i,hi,rfl⟩:=List.mem_iff_getElem.1 ht
            exact ⟨i,by omega,gd _ _ _ hi⟩
          refine ⟨.mk k q m n a b off (u :: us),by rw [erase,er,a1],?_,cellsOk _ _ _ ?_,fun x hx'=>?_,fun x hx'=>?_⟩
          · have hn : ∀ t ∈ (u :: us),norm t:=hok.choose_spec.1
            simp only [norm]
            exact ⟨a2,hn u (by simp),norms_all.2 fun t ht=>hn t (by simp [ht])⟩
          · show RV G w (.islice b off (encIs (u :: us))) (X 8)
            rw [hv]
            have hil : (encIs (u :: us)).length = L.length:=by rw [encIs_length]; omega
            have:=RV.islice (G:=G) (w:=w) (encIs (u :: us)) b off cap 9 Y (fun r hr'=>by
                rw [encIs_map] at hr'
                obtain ⟨t,_,rfl⟩:=List.mem_map.1 hr'
                exact ⟨encI_length t,encI_leaf t⟩) (by omega) (fun i j hi hj=>hx i j (by omega) hj) (fun i j hi hj=>hI i j (by omega) hj) (hz hl (by decide)) (by decide) (by omega) (fun i j hi hj=>by
                unfold Go.Abs.rowAt
                rw [encIs_getD (by rw [encIs_length] at hi; exact hi)]
                exact (hq i (by rw [encIs_length] at hi; omega)).2.2.1 j hj)
            rw [hil] at this
            exact this
          · rw [lists_eq (t:=.mk k q m n a b off (u :: us)) (x:=⟨b,off,u,us⟩) rfl] at hx'
            rcases List.mem_cons.1 hx' with rfl | hx'
            · exact hok
            · obtain ⟨t,ht,hxt⟩:=listss_mem.1 hx'
              obtain ⟨i,hi,rfl⟩:=mem t ht
              exact (hq i hi).2.2.2.1 x hxt
          · rw [argL] at hx'
            rcases List.mem_append.1 hx' with hx' | hx'
            · exact a4 x hx'
            · obtain ⟨t,ht,hxt⟩:=argLs_mem.1 hx'
              obtain ⟨i,hi,rfl⟩:=mem t ht
              exact (hq i hi).2.2.2.2 x hxt
        | [],hts,_=>simp at hts
end Go.Proofs.Ytijlnkfiadajhaa.SX
/- The program's ExprSame answers whether two expressions are the same tree. -/
set_option linter.unusedVariables false
set_option linter.unusedSimpArgs false
namespace Go.Proofs.Ytijlnkfiadajhaa
open Go.Abs
end Go.Proofs.Ytijlnkfiadajhaa
namespace Go.Proofs.Ytijlnkfiadajhaa.SX
open Go.Abs
set_option maxRecDepth 100000 in
theorem xc_new (it : Nat) (A : List Box) : ACalls Try.prog 45 [.agg [tF1,tF2,.map it]] A (fun r A'=>r = .agg [xF1,xF2 A.length,.map (A.length + 2)] ∧ A' = A ++ [.cells [tF1,tF2,.map it],.cells [xF1,xF2 A.length,.map (A.length + 2)],.mapb []]):=by
  simp only [xF1,xF2]
  refine acalls_enterK (cf:=cf 10 [0,1,2,3,4]) foll Try.func45 Try.ntmps45 (by simp [cf]) ?_
  simp only [Try.f45,EnterK_some,zW,zX,zD,builtinA,isLeaf,const1,Nat.reduceAdd,Nat.reduceMul,Nat.reduceSub,Nat.reduceLT,Nat.reduceLeDiff,Nat.reduceEqDiff,Nat.reduceBEq,Nat.reduceBNe,reduceIte,reduceCtorEq,Int.reduceToNat,Int.reduceLT,Int.reduceLE,Int.reduceEq,Int.reduceNe,Int.reduceNeg,ustrA,ti78,ti85,ti87,cf,Try.results45]
  exact ⟨rfl,rfl⟩
theorem argL_lists (t : IEx) : ∀ x ∈ lists t,∀ u ∈ x.ks,∀ z ∈ argL u,z ∈ argL t:=by
  induction t using IEx.ind with
  | h k q m n a b o ks ih =>
    cases ks with
    | nil=>simp [lists]
    | cons t ks =>
      intro x hx u hu z hz
      rw [lists_eq (t:=.mk k q m n a b o (t :: ks)) (x:=⟨b,o,t,ks⟩) rfl] at hx
      rcases List.mem_cons.1 hx with rfl | hx
      · exact argL_below (t:=.mk k q m n a b o (t :: ks)) (x:=⟨b,o,t,ks⟩) rfl hu z hz
      · obtain ⟨v,hv,hxv⟩:=listss_mem.1 hx
        exact argL_below (t:=.mk k q m n a b o (t :: ks)) (x:=⟨b,o,t,ks⟩) rfl hv z (ih v hv x hxv u hu z hz)
end Go.Proofs.Ytijlnkfiadajhaa.SX
/- From a law's argument, an expression, to a tree. -/
set_option linter.unusedVariables false
set_option linter.unusedSimpArgs false
namespace Go.Proofs.Ytijlnkfiadajhaa
open Go.Abs Go.RowKit Go.ChangeShapes Go.WideShapes Go.ChangeAt Go.ChangeMaps
theorem nine {α : Type} {l : List α} (h : l.length = 9) : ∃ a b c d e f g i j,l = [a,b,c,d,e,f,g,i,j]:=by
  match l,h with
  | [a,b,c,d,e,f,g,i,j],_=>exact ⟨a,b,c,d,e,f,g,i,j,rfl⟩
theorem cX : Try.prog.cellsOf 42 = 9:=by kernel_rfl
theorem cXS : Try.prog.cellsOf 40 = 1:=by kernel_rfl
theorem ex_of {t : TypeId} {cz : List AV} (h : Cells Try.prog t cz) :
    (t = 42 → ∃ x,cz = encXA x ∧ x.Ok) ∧ (t = 40 → ∃ ks,cz = [.aslice (encXAs ks)] ∧ ks.length < 2 ^ 63 ∧ ∀ k ∈ ks,k.Ok):=by
  induction h with
  | int h1 h2=>exact ⟨fun e=>(by subst e; rw [Try.underlying42] at h1; injection h1 with h1; cases h1),fun e=>(by subst e; rw [Try.underlying40] at h1; injection h1 with h1; cases h1)⟩
  | bool h1=>exact ⟨fun e=>(by subst e; rw [Try.underlying42] at h1; injection h1 with h1; cases h1),fun e=>(by subst e; rw [Try.underlying40] at h1; injection h1 with h1; cases h1)⟩
  | str h1=>exact ⟨fun e=>(by subst e; rw [Try.underlying42] at h1; injection h1 with h1; cases h1),fun e=>(by subst e; rw [Try.underlying40] at h1; injection h1 with h1; cases h1)⟩
  | slice h1 h2 h3 ih =>
    refine ⟨fun e=>(by subst e; rw [Try.underlying42] at h1; injection h1 with h1; cases h1),fun e=>?_⟩
    subst e
    rw [Try.underlying40] at h1
    injection h1 with h1
    injection h1 with h1
    obtain ⟨ks,k1,k2,k3⟩:=list_enc (f:=encXA) (Q:=Ex.Ok) fun r hr=>(ih r hr).1 h1.symm
    have hm : maxLen = 2 ^ 63 - 1:=rfl
    refine ⟨ks,by rw [encXAs_map,k1],?_,k3⟩
    rw [k2]
    omega
  | @struct t fs cs h1 h2 h3 ih =>
    refine ⟨fun e=>?_,fun e=>(by subst e; rw [Try.underlying40] at h1; injection h1 with h1; cases h1)⟩
    subst e
    rw [Try.underlying42] at h1
    injection h1 with h1
    injection h1 with h1
    subst h1
    rw [cX] at h2
    obtain ⟨a,b,c,d,e,f,g,i,j,rfl⟩:=nine h2
    simp only [List.mem_cons,List.not_mem_nil,or_false,forall_eq_or_imp,forall_eq,c3,c9,cS,cT,cXS,List.drop_zero,List.drop_succ_cons,List.take_succ_cons,List.take_zero] at h3 ih
    obtain ⟨k,e1⟩:=cells_int Try.underlying3 h3.1
    obtain ⟨i',e2⟩:=cells_int Try.underlying3 h3.2.1
    obtain ⟨m,e3,l3⟩:=cells_str Try.underlying9 h3.2.2.1
    obtain ⟨s,e4,l4⟩:=cells_str Try.underlying9 h3.2.2.2.1
    obtain ⟨τ,e5,l5⟩:=(ty_of h3.2.2.2.2.1).1 rfl
    obtain ⟨ks,e6,l6,l7⟩:=ih.2.2.2.2.2.2 trivial
    injection e1 with e1; injection e2 with e2; injection e3 with e3; injection e4 with e4; injection e6 with e6
    rw [encTA4] at e5
    injection e5 with e5 e7; injection e7 with e7 e8; injection e8 with e8 e9; injection e9 with e9
    subst e1; subst e2; subst e3; subst e4; subst e5; subst e6; subst e7; subst e8; subst e9
    have hm : maxLen = 2 ^ 63 - 1:=rfl
    exact ⟨.mk k i' m s τ ks,rfl,.mk (by omega) (by omega) l5 l6 l7⟩
section
variable {H : Type} {enc' : TypeId × Value → H} {W : World}
end
end Go.Proofs.Ytijlnkfiadajhaa
/- Items of structures as data, and what the laws' helpers do with lists of them. -/
set_option linter.unusedVariables false
set_option linter.unusedSimpArgs false
namespace Go.Proofs.Ytijlnkfiadajhaa
open Go.Abs
structure ItI where
  kind : Int
  name : List UInt8
  typ : Ty
  xk : Int
  xi : Int
  xm : List UInt8
  xn : List UInt8
  xt : Ty
  xs : List Ex
def ItI.ex (x : ItI) : Ex:=.mk x.xk x.xi x.xm x.xn x.xt x.xs
def itm0 : ItI:=⟨0,[],ty0,0,0,[],[],ty0,[]⟩
def iE (x : ItI) : List AV:=[.int .i64 x.kind,.str x.name,.int .i64 x.typ.kind,.str x.typ.mod,.str x.typ.name,.slice (encs x.typ.kids),.int .i64 x.xk,.int .i64 x.xi,.str x.xm,.str x.xn,.int .i64 x.xt.kind,.str x.xt.mod,.str x.xt.name,.slice (encs x.xt.kids),.slice (encXs x.xs)]
def iEA (x : ItI) : List AV:=[.int .i64 x.kind,.str x.name,.int .i64 x.typ.kind,.str x.typ.mod,.str x.typ.name,.aslice (encAs x.typ.kids),.int .i64 x.xk,.int .i64 x.xi,.str x.xm,.str x.xn,.int .i64 x.xt.kind,.str x.xt.mod,.str x.xt.name,.aslice (encAs x.xt.kids),.aslice (encXAs x.xs)]
def iEs (l : List ItI) : List (List AV):=l.map iE
def iEAs (l : List ItI) : List (List AV):=l.map iEA
def szJ (x : ItI) : Nat:=x.name.length + sz x.typ + szX x.ex
def szJs (l : List ItI) : Nat:=(l.map szJ).sum
def ItI.Ok (x : ItI) : Prop:=x.name.length < 2 ^ 63 ∧ x.typ.Ok ∧ x.ex.Ok
def zit : List AV:=[.int .i64 0,.str [],.int .i64 0,.str [],.str [],.slice [],.int .i64 0,.int .i64 0,.str [],.str [],.int .i64 0,.str [],.str [],.slice [],.slice []]
theorem iE_length (x : ItI) : (iE x).length = 15:=rfl
theorem iEA_length (x : ItI) : (iEA x).length = 15:=rfl
theorem iE_take (x : ItI) : List.take 15 (iE x) = iE x:=rfl
theorem iEA_take (x : ItI) : List.take 15 (iEA x) = iEA x:=rfl
theorem iE_leaf (x : ItI) : ∀ v ∈ iE x,isLeaf v = true:=by simp [iE,isLeaf]
theorem frzL_iE (x : ItI) (A : List Box) : frzL (iE x) A = some (iE x,A):=rfl
theorem frzL_iEA (x : ItI) (A : List Box) : frzL (iEA x) A = some (iEA x,A):=rfl
theorem iEs_length (l : List ItI) : (iEs l).length = l.length:=by simp [iEs]
theorem iEAs_length (l : List ItI) : (iEAs l).length = l.length:=by simp [iEAs]
theorem iEs_getD {l : List ItI} {i : Nat} (h : i < l.length) : (iEs l).getD i [] = iE (l.getD i itm0):=by simp [iEs,List.getD,h]
theorem iEAs_getD {l : List ItI} {i : Nat} (h : i < l.length) : (iEAs l).getD i [] = iEA (l.getD i itm0):=by simp [iEAs,List.getD,h]
theorem it_mem {l : List ItI} {i : Nat} (h : i < l.length) : l.getD i itm0 ∈ l:=by simp [List.getD,h]
theorem it_take {l : List ItI} {i : Nat} (h : i < l.length) : l.take (i + 1) = l.take i ++ [l.getD i itm0]:=by
  rw [List.take_add_one]; simp [List.getD,h]
theorem szJs_take {l : List ItI} {i : Nat} (h : i < l.length) : szJs (l.take (i + 1)) = szJs (l.take i) + szJ (l.getD i itm0):=by
  rw [it_take h]; simp [szJs]
theorem szJs_le (l : List ItI) (i : Nat) : szJs (l.take i) ≤ szJs l:=by
  have h : szJs l = szJs (l.take i) + szJs (l.drop i):=by
    conv=>lhs; rw [← List.take_append_drop i l]
    simp only [szJs,List.map_append,List.sum_append]
  omega
theorem szJs_mem {x : ItI} {l : List ItI} (h : x ∈ l) : szJ x ≤ szJs l:=by
  induction l with
  | nil=>simp at h
  | cons y l ih =>
    simp only [szJs,List.map_cons,List.sum_cons] at ih ⊢
    rcases List.mem_cons.1 h with rfl | h
    · omega
    · have:=ih h; omega
set_option maxRecDepth 100000 in
theorem laws_szItem (x : ItI) (hx : x.Ok) (l : Int) (A : List Box) (h0 : 0 ≤ l) (h1 : l ≤ 1048576) :
    ACalls Try.prog 51 [.agg (iEA x),.int .i64 l] A (fun v A'=>v = .int .i64 (left l (szJ x)) ∧ A' = A):=by
  have hw : IntKind.i64.wrap (l - ↑x.name.length) = l - x.name.length:=wrap64 (by have:=hx.1; omega) (by have:=hx.1; omega)
  have hszT:=fun (l : Int) A (h0 : 0 ≤ l) (h1 : l ≤ 1048576)=>laws_szType x.typ hx.2.1 l A h0 h1
  have hszX:=fun (l : Int) A (h0 : 0 ≤ l) (h1 : l ≤ 1048576)=>laws_szExpr x.ex hx.2.2 l A h0 h1
  rw [encTA4] at hszT
  simp only [ItI.ex,encXA] at hszX
  have hs3 : szJ x = x.name.length + sz x.typ + szX (Ex.mk x.xk x.xi x.xm x.xn x.xt x.xs):=rfl
  generalize szX (Ex.mk x.xk x.xi x.xm x.xn x.xt x.xs) = zx at *
  generalize sz x.typ = zt at *
  rw [hs3,iEA]
  refine acalls_enter (cf:=cf 25 [0,1,2,4,11,17,23]) foll Try.func51 Try.ntmps51 (by simp [cf]) ?_
  simp only [Try.f51,EnterK_some,zW,zX,zD,builtinA,isLeaf,const1,ustrA,simprocAttr,ti3,ti9,ti39,ti42,ti125,ca34,ca66,cf,Try.results51]
  rw [hw]
  refine condK_intro (fun h=>?_) (fun h=>?_)
  · simp only [zW,zX,zD,builtinA,isLeaf,const1,ustrA,simprocAttr,ti3,ti9,ti39,ti42,ti125,ca34,ca66,cf,Try.results51]
    rw [left,if_neg (by simp at h; omega)]
  · simp only [decide_eq_false_iff_not] at h
    simp only [zW,zX,zD,builtinA,isLeaf,const1,ustrA,simprocAttr,ti3,ti9,ti39,ti42,ti125,ca34,ca66,cf,Try.results51]
    refine callK_intro (by simp only [zW,zX,zD,builtinA,isLeaf,const1,ustrA,simprocAttr,Option.map_some]; rfl) (hszT _ _ (by omega) (by omega)) ?_ rfl; rintro v A' ⟨rfl,rfl⟩
    by_cases hf : (((x.name.length + zt : Nat)) : Int) ≤ l
    · have hv : left (l - ↑x.name.length) zt = l - (x.name.length + zt : Nat):=by
        rw [left,if_pos (by omega)]; omega
      have hn : decide (l - ((x.name.length + zt : Nat) : Int) < 0) = false:=by simp only [decide_eq_false_iff_not]; omega
      rw [hv]
      simp only [zW,zX,zD,builtinA,isLeaf,const1,ustrA,simprocAttr,ti3,ti9,ti39,ti42,ti125,ca34,ca66,cf,Try.results51,hn]
      refine callK_intro (by simp only [zW,zX,zD,builtinA,isLeaf,const1,ustrA,simprocAttr,Option.map_some]; rfl) (hszX _ _ (by omega) (by omega)) ?_ rfl; rintro v A' ⟨rfl,rfl⟩
      by_cases hg : (((x.name.length + zt + zx : Nat)) : Int) ≤ l
      · have hv2 : left (l - ((x.name.length + zt : Nat) : Int)) zx = l - (x.name.length + zt + zx : Nat):=by
          rw [left,if_pos (by omega)]; omega
        have hn2 : decide (l - ((x.name.length + zt + zx : Nat) : Int) < 0) = false:=by simp only [decide_eq_false_iff_not]; omega
        rw [hv2,left,if_pos hg]
        simp only [zW,zX,zD,builtinA,isLeaf,const1,ustrA,simprocAttr,ti3,ti9,ti39,ti42,ti125,ca34,ca66,cf,Try.results51,hn2]
      · have hv2 : left (l - ((x.name.length + zt : Nat) : Int)) zx = -1:=by rw [left,if_neg (by omega)]
        rw [hv2,left,if_neg hg]
        simp only [zW,zX,zD,builtinA,isLeaf,const1,ustrA,simprocAttr,ti3,ti9,ti39,ti42,ti125,ca34,ca66,cf,Try.results51]
    · have hv : left (l - ↑x.name.length) zt = -1:=by
        rw [left,if_neg (by omega)]
      rw [hv,left,if_neg (by omega)]
      simp only [zW,zX,zD,builtinA,isLeaf,const1,ustrA,simprocAttr,ti3,ti9,ti39,ti42,ti125,ca34,ca66,cf,Try.results51]
set_option maxRecDepth 100000 in
theorem laws_szItemS (ks : List ItI) (hl : ks.length < 2 ^ 63) (hk : ∀ t ∈ ks,t.Ok) (l : Int) (A : List Box) (h0 : 0 ≤ l) (h1 : l ≤ 1048576) :
    ACalls Try.prog 21 [.aslice (iEAs ks),.int .i64 l] A (fun v A'=>v = .int .i64 (left l (ks.length + szJs ks)) ∧ A' = A):=by
  have hw : IntKind.i64.wrap (l - ↑(iEAs ks).length) = l - ks.length:=by rw [iEAs_length]; exact wrap64 (by omega) (by omega)
  refine acalls_enter (cf:=cf 27 [0,1,4,5,11,15,25]) foll Try.func21 Try.ntmps21 (by simp [cf]) ?_
  simp only [Try.f21,EnterK_some,zW,zX,zD,builtinA,isLeaf,const1,ustrA,simprocAttr,ti3,ti23,ti125,ca51,cf,Try.results21]
  rw [hw]
  refine condK_intro (fun h=>?_) (fun h=>?_)
  · simp only [zW,zX,zD,builtinA,isLeaf,const1,ustrA,simprocAttr,ti3,ti23,ti125,ca51,cf,Try.results21]
    have : ¬ ((ks.length + szJs ks : Nat) : Int) ≤ l:=by simp at h; omega
    rw [left,if_neg this]
  · simp only [zW,zX,zD,builtinA,isLeaf,const1,ustrA,simprocAttr,ti3,ti23,ti125,ca51,cf,Try.results21]
    refine aloop_intro [0,1,5] (fun e A'=>∃ i,i ≤ ks.length ∧ ((ks.length + szJs (ks.take i) : Nat) : Int) ≤ l ∧ e = [(0,.aslice (iEAs ks)),(1,.int .i64 (l - (ks.length + szJs (ks.take i) : Nat))),(5,.int .i64 i)] ∧ A' = A) (fun e _=>ks.length - (intOf (Abs.look 5 e)).toNat) ?_ ?_
    · refine ⟨0,by omega,?_,?_,rfl⟩
      · simp at h; simp [szJs]; omega
      · simp only [zW,zX,zD,builtinA,isLeaf,const1,ustrA,simprocAttr,ti3,ti23,ti125,ca51,cf,Try.results21]
        simp [szJs]
    · rintro e A' ⟨i,hi,hle,rfl,rfl⟩
      simp only [zW,zX,zD,builtinA,isLeaf,const1,ustrA,simprocAttr,ti3,ti23,ti125,ca51,cf,Try.results21]
      refine condK_intro (fun h2=>?_) (fun h2=>?_)
      · have hi2 : i < ks.length:=by simp [iEAs_length] at h2; exact h2
        have he:=iEAs_getD hi2
        have hm:=it_mem hi2
        have hs:=szJs_take hi2
        simp only [zW,zX,zD,builtinA,isLeaf,const1,ustrA,simprocAttr,ti3,ti23,ti125,ca51,cf,Try.results21,he,iEA_length,iEA_take,iEAs_length]
        refine ⟨⟨by omega,by omega⟩,?_⟩
        refine callK_intro (by simp only [zW,zX,zD,builtinA,isLeaf,const1,ustrA,simprocAttr,frzL_iEA,Option.map_some]; rfl) (laws_szItem _ (hk _ hm) _ _ (by omega) (by omega)) ?_ rfl; rintro v A' ⟨rfl,rfl⟩
        by_cases hf : ((ks.length + szJs (ks.take (i + 1)) : Nat) : Int) ≤ l
        · have hv : left (l - ((ks.length + szJs (ks.take i) : Nat) : Int)) (szJ (ks.getD i itm0)) = l - ((ks.length + szJs (ks.take (i + 1)) : Nat) : Int):=by
            rw [left,if_pos (by omega)]; omega
          have hn : decide (l - ((ks.length + szJs (ks.take (i + 1)) : Nat) : Int) < 0) = false:=by simp only [decide_eq_false_iff_not]; omega
          have hi1 : IntKind.i64.wrap ((i : Int) + 1) = ((i + 1 : Nat) : Int):=by rw [wrap64 (by omega) (by omega)]; rfl
          rw [hv]
          simp only [zW,zX,zD,builtinA,isLeaf,const1,ustrA,simprocAttr,ti3,ti23,ti125,ca51,cf,Try.results21,hn,hi1,LoopK_eq,iEAs_length]
          refine ⟨⟨i + 1,by omega,hf,rfl⟩,?_⟩
          simp only [intOf]
          omega
        · have hv : left (l - ((ks.length + szJs (ks.take i) : Nat) : Int)) (szJ (ks.getD i itm0)) = -1:=by
            rw [left,if_neg (by omega)]
          have hz:=szJs_le ks (i + 1)
          rw [hv,left,if_neg (by omega)]
          simp only [zW,zX,zD,builtinA,isLeaf,const1,ustrA,simprocAttr,ti3,ti23,ti125,ca51,cf,Try.results21]
      · simp only [zW,zX,zD,builtinA,isLeaf,const1,ustrA,simprocAttr,ti3,ti23,ti125,ca51,cf,Try.results21]
        have : i = ks.length:=by simp [iEAs_length] at h2; omega
        subst this
        rw [List.take_length] at hle ⊢
        rw [left,if_pos hle]
set_option maxRecDepth 100000 in
theorem laws_toItem (x : ItI) (hx : szJ x ≤ 1048576) (A : List Box) : ACalls Try.prog 54 [.agg (iEA x)] A (fun v A'=>v = .agg (iE x) ∧ A' = A):=by
  have h1 : sz x.typ ≤ 1048576:=by rw [szJ] at hx; omega
  have h2 : szX x.ex ≤ 1048576:=by rw [szJ] at hx; omega
  have hT:=fun A=>laws_toType x.typ h1 A
  have hX:=fun A=>laws_toExpr x.ex h2 A
  rw [encTA4,encT4] at hT
  simp only [ItI.ex,encXA,encX] at hX
  rw [iEA,iE]
  refine acalls_enter (cf:=cf 19 [0,1,2,3]) foll Try.func54 Try.ntmps54 (by simp [cf]) ?_
  simp only [Try.f54,EnterK_some,zW,zX,zD,builtinA,isLeaf,const1,ustrA,simprocAttr,ti3,ti9,ti39,ti42,ti50,ti53,ti125,ti130,ca36,ca69,cf,Try.results54]
  refine callK_intro (by simp only [zW,zX,zD,builtinA,isLeaf,const1,ustrA,simprocAttr,Option.map_some]; rfl) (hT _) ?_ rfl; rintro v A' ⟨rfl,rfl⟩
  simp only [zW,zX,zD,builtinA,isLeaf,const1,ustrA,simprocAttr,ti3,ti9,ti39,ti42,ti50,ti53,ti125,ti130,ca36,ca69,cf,Try.results54]
  refine callK_intro (by simp only [zW,zX,zD,builtinA,isLeaf,const1,ustrA,simprocAttr,Option.map_some]; rfl) (hX _) ?_ rfl; rintro v A' ⟨rfl,rfl⟩
  simp only [zW,zX,zD,builtinA,isLeaf,const1,ustrA,simprocAttr,ti3,ti9,ti39,ti42,ti50,ti53,ti125,ti130,ca36,ca69,cf,Try.results54]
theorem irow_step {l : List ItI} {i : Nat} (h : i < l.length) : (iEs (l.take i) ++ List.replicate (l.length - i) zit).set i (iE (l.getD i itm0) ++ List.drop 15 ((iEs (l.take i) ++ List.replicate (l.length - i) zit).getD i [])) = iEs (l.take (i + 1)) ++ List.replicate (l.length - (i + 1)) zit:=by
  have e1 : (iEs (l.take i)).length = i:=by rw [iEs_length]; simp; omega
  have e2 : List.drop 15 ((iEs (l.take i) ++ List.replicate (l.length - i) zit).getD i []) = []:=by
    have e3 : l.length - i = (l.length - (i + 1)) + 1:=by omega
    rw [List.getD,List.getElem?_append_right (by omega),e1,Nat.sub_self,e3,List.replicate_succ]
    rfl
  have e4 : l.length - i = (l.length - (i + 1)) + 1:=by omega
  rw [e2,List.append_nil,List.set_append_right _ _ (by omega),e1,Nat.sub_self,e4,List.replicate_succ,List.set_cons_zero]
  simp only [iEs]
  rw [List.take_add_one,List.map_append,List.append_assoc]
  simp [List.getD,h]
set_option maxRecDepth 100000 in
theorem laws_toItemS (ks : List ItI) (hl : ks.length ≤ 1048576) (hk : szJs ks ≤ 1048576) (A : List Box) :
    ACalls Try.prog 26 [.aslice (iEAs ks)] A (fun v A'=>v = .slice (iEs ks) ∧ A' = A):=by
  have hl2 : ((iEAs ks).length : Int) ≤ 1048576:=by rw [iEAs_length]; omega
  refine acalls_enter (cf:=cf 23 [0,2,3,4,11]) foll Try.func26 Try.ntmps26 (by simp [cf]) ?_
  simp only [Try.f26,EnterK_some,zW,zX,zD,builtinA,isLeaf,const1,ustrA,simprocAttr,ti3,ti23,ti30,ti125,ti130,ca54,cf,Try.results26]
  refine ⟨⟨by omega,by omega,by omega⟩,?_⟩
  refine aloop_intro [0,3,4] (fun e A'=>∃ i,i ≤ ks.length ∧ e = [(0,.aslice (iEAs ks)),(3,.own A.length),(4,.int .i64 i)] ∧ A' = A ++ [.row 15 (iEs (ks.take i) ++ List.replicate (ks.length - i) zit) 0]) (fun e _=>ks.length - (intOf (Abs.look 4 e)).toNat) ?_ ?_
  · simp only [zW,zX,zD,builtinA,isLeaf,const1,ustrA,simprocAttr,ti3,ti23,ti30,ti125,ti130,ca54,cf,Try.results26]
    exact ⟨0,by omega,rfl,by rw [iEAs_length]; simp [iEs,zit]⟩
  · rintro e A' ⟨i,hi,rfl,rfl⟩
    simp only [zW,zX,zD,builtinA,isLeaf,const1,ustrA,simprocAttr,ti3,ti23,ti30,ti125,ti130,ca54,cf,Try.results26,iEAs_length]
    refine condK_intro (fun h2=>?_) (fun h2=>?_)
    · have hi2 : i < ks.length:=by simpa using h2
      have he:=iEAs_getD hi2
      have hm:=it_mem hi2
      have hzm:=szJs_mem hm
      simp only [zW,zX,zD,builtinA,isLeaf,const1,ustrA,simprocAttr,ti3,ti23,ti30,ti125,ti130,ca54,cf,Try.results26,he,iEA_length,iEA_take,iEAs_length]
      refine ⟨⟨by omega,by omega⟩,?_⟩
      refine callK_intro (by simp only [zW,zX,zD,builtinA,isLeaf,const1,ustrA,simprocAttr,frzL_iEA,Option.map_some]; rfl) (laws_toItem _ (by omega) _) ?_ rfl; rintro v A' ⟨rfl,rfl⟩
      have hi1 : IntKind.i64.wrap ((i : Int) + 1) = ((i + 1 : Nat) : Int):=by rw [wrap64 (by omega) (by omega)]; rfl
      simp only [zW,zX,zD,builtinA,isLeaf,const1,ustrA,simprocAttr,ti3,ti23,ti30,ti125,ti130,ca54,cf,Try.results26,iE_length,frzL_iE,irow_step hi2,hi1,LoopK_eq]
      have hlen : (iEs (List.take i ks)).length + (List.replicate (ks.length - i) zit).length = ks.length:=by
        simp [iEs_length]; omega
      rw [hlen]
      refine ⟨⟨by omega,by omega⟩,⟨by omega,by omega,fun v hv=>iE_leaf _ v hv⟩,⟨i + 1,by omega,rfl,rfl⟩,?_⟩
      simp only [intOf]
      omega
    · simp only [zW,zX,zD,builtinA,isLeaf,const1,ustrA,simprocAttr,ti3,ti23,ti30,ti125,ti130,ca54,cf,Try.results26]
      have : i = ks.length:=by simp at h2; omega
      subst this
      simp [List.take_length]
set_option maxRecDepth 100000 in
theorem laws_eqItem (x : ItI) (hx : x.Ok) (A : List Box) : ACalls Try.prog 63 [.agg (iE x),.agg (iE x)] A (fun v A'=>v = .bool true ∧ A' = A):=by
  have hT:=fun A=>laws_eqType x.typ hx.2.1 A
  have hX:=fun A=>laws_eqExpr x.ex hx.2.2 A
  rw [encT4] at hT
  simp only [ItI.ex,encX] at hX
  rw [iE]
  refine acalls_enter (cf:=cf 27 [0,1,2,3,4,9,14,20,26]) foll Try.func63 Try.ntmps63 (by simp [cf]) ?_
  simp only [Try.f63,EnterK_some,zW,zX,zD,builtinA,isLeaf,const1,ustrA,simprocAttr,ti3,ti9,ti50,ti53,ti130,ca40,ca74,cf,Try.results63]
  refine callK_intro (by simp only [zW,zX,zD,builtinA,isLeaf,const1,ustrA,simprocAttr,Option.map_some]; rfl) (hT _) ?_ rfl; rintro v A' ⟨rfl,rfl⟩
  simp only [zW,zX,zD,builtinA,isLeaf,const1,ustrA,simprocAttr,ti3,ti9,ti50,ti53,ti130,ca40,ca74,cf,Try.results63]
  refine callK_intro (by simp only [zW,zX,zD,builtinA,isLeaf,const1,ustrA,simprocAttr,Option.map_some]; rfl) (hX _) ?_ rfl; rintro v A' ⟨rfl,rfl⟩
  simp only [zW,zX,zD,builtinA,isLeaf,const1,ustrA,simprocAttr,ti3,ti9,ti50,ti53,ti130,ca40,ca74,cf,Try.results63]
set_option maxRecDepth 100000 in
theorem laws_eqItemS (ks : List ItI) (hl : ks.length < 2 ^ 63) (hk : ∀ t ∈ ks,t.Ok) (A : List Box) :
    ACalls Try.prog 31 [.slice (iEs ks),.slice (iEs ks)] A (fun v A'=>v = .bool true ∧ A' = A):=by
  refine acalls_enter (cf:=cf 27 [0,1,4,5,10,14,26]) foll Try.func31 Try.ntmps31 (by simp [cf]) ?_
  simp only [Try.f31,EnterK_some,zW,zX,zD,builtinA,isLeaf,const1,ustrA,simprocAttr,ti3,ti30,ti130,ca63,cf,Try.results31]
  refine aloop_intro [0,1,5] (fun e A'=>∃ i,i ≤ ks.length ∧ e = [(0,.slice (iEs ks)),(1,.slice (iEs ks)),(5,.int .i64 i)] ∧ A' = A) (fun e _=>ks.length - (intOf (Abs.look 5 e)).toNat) ?_ ?_
  · simp only [zW,zX,zD,builtinA,isLeaf,const1,ustrA,simprocAttr,ti3,ti30,ti130,ca63,cf,Try.results31]
    exact ⟨0,by omega,rfl⟩
  · rintro e A' ⟨i,hi,rfl,rfl⟩
    simp only [zW,zX,zD,builtinA,isLeaf,const1,ustrA,simprocAttr,ti3,ti30,ti130,ca63,cf,Try.results31,iEs_length]
    refine condK_intro (fun h2=>?_) (fun h2=>?_)
    · have hi2 : i < ks.length:=by simpa using h2
      have he:=iEs_getD hi2
      have hm:=it_mem hi2
      have hi1 : IntKind.i64.wrap ((i : Int) + 1) = ((i + 1 : Nat) : Int):=by rw [wrap64 (by omega) (by omega)]; rfl
      simp only [zW,zX,zD,builtinA,isLeaf,const1,ustrA,simprocAttr,ti3,ti30,ti130,ca63,cf,Try.results31,he,iE_length,iE_take,iEs_length]
      refine .inl ⟨by kernel_rfl,by kernel_rfl,⟨by omega,by omega⟩,⟨by omega,by omega⟩,?_⟩
      refine callD_intro (by simp only [zW,zX,zD,builtinA,isLeaf,const1,ustrA,simprocAttr,frzL_iE,Option.map_some] <;> rfl) (laws_eqItem _ (hk _ hm) _) ?_ rfl
      simp only [zW,zX,zD,builtinA,isLeaf,const1,ustrA,simprocAttr,ti3,ti30,ti130,ca63,cf,Try.results31,hi1,LoopK_eq]
      refine ⟨⟨i + 1,by omega,rfl⟩,?_⟩
      simp only [intOf]
      omega
    · simp only [zW,zX,zD,builtinA,isLeaf,const1,ustrA,simprocAttr,ti3,ti30,ti130,ca63,cf,Try.results31]
end Go.Proofs.Ytijlnkfiadajhaa
/- The document's ExprSame. -/
set_option linter.unusedVariables false
set_option linter.unusedSimpArgs false
namespace Go.Proofs.Ytijlnkfiadajhaa
open Go.Abs
theorem take_eqX {l l' : List Ex} (hl : l.length = l'.length) (h : ∀ i,i < l.length → l.getD i ex0 = l'.getD i ex0) : l = l':=by
  apply List.ext_getElem hl
  intro i hi hi'
  have:=h i hi
  rw [gdS _ _ _ hi,gdS _ _ _ hi'] at this
  exact this
set_option maxRecDepth 100000 in
set_option maxHeartbeats 2000000 in
theorem spec_ExprSame (σ : Ex) (hσ : σ.Ok) : ∀ (τ : Ex) (A : List Box),ACalls Try.prog 18 [.agg (encX σ),.agg (encX τ)] A (fun r A'=>r = .bool (decide (σ = τ)) ∧ A' = A):=by
  induction σ using Ex.ind with
  | h k q m n a ks ih =>
    rintro ⟨k',q',m',n',a',ks'⟩ A
    cases hσ with
    | mk hm hn hao hks hok =>
    have hta:=spec_TypeSame a hao a'
    rw [encT4,encT4] at hta
    rw [encX,encX]
    have no : ∀ P : Prop,(Ex.mk k q m n a ks = .mk k' q' m' n' a' ks' → P) → ¬ P → decide (Ex.mk k q m n a ks = .mk k' q' m' n' a' ks') = false:=fun P h1 h2=>decide_eq_false fun e=>h2 (h1 e)
    by_cases h1 : k = k'
    · by_cases h2 : q = q'
      · by_cases h3 : m = m'
        · by_cases h4 : n = n'
          · by_cases h5 : a = a'
            · by_cases h6 : ks.length = ks'.length
              · have d6 : decide (((ks.length : Nat) : Int) = (ks'.length : Nat)) = true:=decide_eq_true (by omega)
                refine acalls_enter (cf:=cf 68 [0,1,2,3,4,5,48,53,67]) foll Try.func18 Try.ntmps18 (by simp [cf]) ?_
                simp only [Try.f18,EnterK_some,zW,zX,zD,builtinA,isLeaf,const1,ustrA,simprocAttr,ti3,ti9,ti50,ti51,ti53,ca18,ca48,cf,Try.results18]
                simp only [zW,zX,zD,builtinA,isLeaf,const1,ustrA,simprocAttr,ti3,ti9,ti50,ti51,ti53,ca18,ca48,cf,Try.results18,decide_eq_true h1,decide_eq_true h2,decide_eq_true h3,decide_eq_true h4,Bool.not_true]
                refine callK_intro (by simp only [zW,zX,zD,builtinA,isLeaf,const1,ustrA,simprocAttr,Option.map_some]; rfl) (hta _) ?_ rfl; rintro v A' ⟨rfl,rfl⟩
                simp only [zW,zX,zD,builtinA,isLeaf,const1,ustrA,simprocAttr,ti3,ti9,ti50,ti51,ti53,ca18,ca48,cf,Try.results18,decide_eq_true h5,d6,encXs_length,Bool.not_true]
                refine aloop_intro [2,3,5] (fun e A'=>∃ i,i ≤ ks.length ∧ e = [(2,.ptr A.length 0),(3,.ptr (A.length + 1) 0),(5,.int .i64 i)] ∧ A' = A ++ [.cells [.int .i64 k,.int .i64 q,.str m,.str n,.int .i64 a.kind,.str a.mod,.str a.name,.slice (encs a.kids),.slice (encXs ks)],.cells [.int .i64 k',.int .i64 q',.str m',.str n',.int .i64 a'.kind,.str a'.mod,.str a'.name,.slice (encs a'.kids),.slice (encXs ks')]] ∧ ∀ j,j < i → ks.getD j ex0 = ks'.getD j ex0) (fun e _=>ks.length - (intOf (Abs.look 5 e)).toNat) ?_ ?_
                · simp only [zW,zX,zD,builtinA,isLeaf,const1,ustrA,simprocAttr,ti3,ti9,ti50,ti51,ti53,ca18,ca48,cf,Try.results18]
                  exact ⟨0,by omega,rfl,by simp⟩
                · rintro e A' ⟨i,hi,rfl,rfl,heq⟩
                  have hl' : (encXs ks').length = ks.length:=(encXs_length _).trans h6.symm
                  by_cases hlt : i < ks.length
                  · have hlt1 : decide (((i : Nat) : Int) < (ks.length : Nat)) = true:=decide_eq_true (by omega)
                    have he:=encXs_getD hlt
                    have he':=encXs_getD (show i < ks'.length by omega)
                    have hm:=Abs.getD_mem (d:=ex0) hlt
                    have hi1 : IntKind.i64.wrap ((i : Int) + 1) = ((i + 1 : Nat) : Int):=by rw [wrap64 (by omega) (by omega)]; rfl
                    simp only [zW,zX,zD,builtinA,isLeaf,const1,ustrA,simprocAttr,ti3,ti9,ti50,ti51,ti53,ca18,ca48,cf,Try.results18,hlt1,he,he',hl',encX_length,encX_take,encXs_length]
                    refine .inl ⟨by kernel_rfl,by kernel_rfl,⟨by omega,by omega⟩,⟨by omega,by omega⟩,?_⟩
                    refine callD_intro (by simp only [zW,zX,zD,builtinA,isLeaf,const1,ustrA,simprocAttr,frzL_encX,Option.map_some] <;> rfl) (ih _ hm (hok _ hm) (ks'.getD i ex0) _) ?_ rfl
                    by_cases hq : ks.getD i ex0 = ks'.getD i ex0
                    · simp only [zW,zX,zD,builtinA,isLeaf,const1,ustrA,simprocAttr,ti3,ti9,ti50,ti51,ti53,ca18,ca48,cf,Try.results18,decide_eq_true hq,Bool.not_true,hi1,LoopK_eq]
                      refine ⟨⟨i + 1,by omega,rfl,fun j hj=>?_⟩,?_⟩
                      · rcases Nat.lt_or_ge j i with h | h
                        · exact heq j h
                        · obtain rfl : j = i:=by omega
                          exact hq
                      · simp only [intOf]
                        omega
                    · rw [no (ks.getD i ex0 = ks'.getD i ex0) (fun e=>by injection e with _ _ _ _ _ e; rw [e]) hq]
                      simp only [zW,zX,zD,builtinA,isLeaf,const1,ustrA,simprocAttr,ti3,ti9,ti50,ti51,ti53,ca18,ca48,cf,Try.results18,decide_eq_false hq,Bool.not_false]
                  · have hlt1 : decide (((i : Nat) : Int) < (ks.length : Nat)) = false:=decide_eq_false (by omega)
                    have : ks = ks':=take_eqX h6 fun j hj=>heq j (by omega)
                    have hd : decide (Ex.mk k q m n a ks = Ex.mk k' q' m' n' a' ks') = true:=decide_eq_true (by rw [h1,h2,h3,h4,h5,this])
                    simp only [zW,zX,zD,builtinA,isLeaf,const1,ustrA,simprocAttr,ti3,ti9,ti50,ti51,ti53,ca18,ca48,cf,Try.results18,hlt1,hl',encXs_length]
                    rw [hd]
              · have d6 : decide (((ks.length : Nat) : Int) = (ks'.length : Nat)) = false:=decide_eq_false (by omega)
                rw [no (ks.length = ks'.length) (fun e=>by injection e with _ _ _ _ _ e; rw [e]) h6]
                refine acalls_enter (cf:=cf 68 [0,1,2,3,4,5,48,53,67]) foll Try.func18 Try.ntmps18 (by simp [cf]) ?_
                simp only [Try.f18,EnterK_some,zW,zX,zD,builtinA,isLeaf,const1,ustrA,simprocAttr,ti3,ti9,ti50,ti51,ti53,ca18,ca48,cf,Try.results18]
                simp only [zW,zX,zD,builtinA,isLeaf,const1,ustrA,simprocAttr,ti3,ti9,ti50,ti51,ti53,ca18,ca48,cf,Try.results18,decide_eq_true h1,decide_eq_true h2,decide_eq_true h3,decide_eq_true h4,Bool.not_true]
                refine callK_intro (by simp only [zW,zX,zD,builtinA,isLeaf,const1,ustrA,simprocAttr,Option.map_some]; rfl) (hta _) ?_ rfl; rintro v A' ⟨rfl,rfl⟩
                simp only [zW,zX,zD,builtinA,isLeaf,const1,ustrA,simprocAttr,ti3,ti9,ti50,ti51,ti53,ca18,ca48,cf,Try.results18,decide_eq_true h5,d6,encXs_length,Bool.not_true,Bool.not_false]
            · rw [no (a = a') (fun e=>by injection e) h5]
              refine acalls_enter (cf:=cf 68 [0,1,2,3,4,5,48,53,67]) foll Try.func18 Try.ntmps18 (by simp [cf]) ?_
              simp only [Try.f18,EnterK_some,zW,zX,zD,builtinA,isLeaf,const1,ustrA,simprocAttr,ti3,ti9,ti50,ti51,ti53,ca18,ca48,cf,Try.results18]
              simp only [zW,zX,zD,builtinA,isLeaf,const1,ustrA,simprocAttr,ti3,ti9,ti50,ti51,ti53,ca18,ca48,cf,Try.results18,decide_eq_true h1,decide_eq_true h2,decide_eq_true h3,decide_eq_true h4,Bool.not_true]
              refine callK_intro (by simp only [zW,zX,zD,builtinA,isLeaf,const1,ustrA,simprocAttr,Option.map_some]; rfl) (hta _) ?_ rfl; rintro v A' ⟨rfl,rfl⟩
              simp only [zW,zX,zD,builtinA,isLeaf,const1,ustrA,simprocAttr,ti3,ti9,ti50,ti51,ti53,ca18,ca48,cf,Try.results18,decide_eq_false h5,Bool.not_true,Bool.not_false]
          · rw [no (n = n') (fun e=>by injection e) h4]
            refine acalls_enter (cf:=cf 68 [0,1,2,3,4,5,48,53,67]) foll Try.func18 Try.ntmps18 (by simp [cf]) ?_
            simp only [Try.f18,EnterK_some,zW,zX,zD,builtinA,isLeaf,const1,ustrA,simprocAttr,ti3,ti9,ti50,ti51,ti53,ca18,ca48,cf,Try.results18]
            simp only [zW,zX,zD,builtinA,isLeaf,const1,ustrA,simprocAttr,ti3,ti9,ti50,ti51,ti53,ca18,ca48,cf,Try.results18,decide_eq_true h1,decide_eq_true h2,decide_eq_true h3,decide_eq_false h4,Bool.not_true,Bool.not_false]
        · rw [no (m = m') (fun e=>by injection e) h3]
          refine acalls_enter (cf:=cf 68 [0,1,2,3,4,5,48,53,67]) foll Try.func18 Try.ntmps18 (by simp [cf]) ?_
          simp only [Try.f18,EnterK_some,zW,zX,zD,builtinA,isLeaf,const1,ustrA,simprocAttr,ti3,ti9,ti50,ti51,ti53,ca18,ca48,cf,Try.results18]
          simp only [zW,zX,zD,builtinA,isLeaf,const1,ustrA,simprocAttr,ti3,ti9,ti50,ti51,ti53,ca18,ca48,cf,Try.results18,decide_eq_true h1,decide_eq_true h2,decide_eq_false h3,Bool.not_true,Bool.not_false]
      · rw [no (q = q') (fun e=>by injection e) h2]
        refine acalls_enter (cf:=cf 68 [0,1,2,3,4,5,48,53,67]) foll Try.func18 Try.ntmps18 (by simp [cf]) ?_
        simp only [Try.f18,EnterK_some,zW,zX,zD,builtinA,isLeaf,const1,ustrA,simprocAttr,ti3,ti9,ti50,ti51,ti53,ca18,ca48,cf,Try.results18]
        simp only [zW,zX,zD,builtinA,isLeaf,const1,ustrA,simprocAttr,ti3,ti9,ti50,ti51,ti53,ca18,ca48,cf,Try.results18,decide_eq_true h1,decide_eq_false h2,Bool.not_true,Bool.not_false]
    · rw [no (k = k') (fun e=>by injection e) h1]
      refine acalls_enter (cf:=cf 68 [0,1,2,3,4,5,48,53,67]) foll Try.func18 Try.ntmps18 (by simp [cf]) ?_
      simp only [Try.f18,EnterK_some,zW,zX,zD,builtinA,isLeaf,const1,ustrA,simprocAttr,ti3,ti9,ti50,ti51,ti53,ca18,ca48,cf,Try.results18]
      simp only [zW,zX,zD,builtinA,isLeaf,const1,ustrA,simprocAttr,ti3,ti9,ti50,ti51,ti53,ca18,ca48,cf,Try.results18,decide_eq_false h1,Bool.not_true,Bool.not_false]
end Go.Proofs.Ytijlnkfiadajhaa
