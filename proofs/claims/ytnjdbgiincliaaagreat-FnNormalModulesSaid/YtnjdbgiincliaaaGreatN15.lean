/- SameA2, SigEq. -/
import Derived.Test.YtnjdbgiincliaaaGreatN14
import Derived.Test.YtnjdbgiincliaaaGreatAbsW3
/- Where the parts of a type lie; the program's TypeSame. -/
set_option linter.unusedVariables false
set_option linter.unusedSimpArgs false
namespace Go.Proofs.YtnjdbgiincliaaaGreat
open Go.Abs
mutual
def lists : ITy → List LL
  | .mk _ _ _ _ _ []=>[]
  | .mk _ _ _ b o (t :: ks)=>⟨b,o,t,ks⟩ :: (lists t ++ listss ks)
def listss : List ITy → List LL
  | []=>[]
  | t :: l=>lists t ++ listss l
end
mutual
def norm : ITy → Prop
  | .mk _ _ _ b o []=>b = 0 ∧ o = 0
  | .mk _ _ _ _ _ (t :: ks)=>norm t ∧ norms ks
def norms : List ITy → Prop
  | []=>True
  | t :: l=>norm t ∧ norms l
end
theorem norms_all : ∀ {l : List ITy},norms l ↔ ∀ t ∈ l,norm t
  | []=>by simp [norms]
  | t :: l=>by rw [norms,norms_all]; simp
theorem listss_mem {x : LL} : ∀ {l : List ITy},x ∈ listss l ↔ ∃ t ∈ l,x ∈ lists t
  | []=>by simp [listss]
  | t :: l=>by rw [listss,List.mem_append,listss_mem]; simp
theorem lists_eq {t : ITy} {x : LL} (h : below t = some x) : lists t = x :: listss x.ks:=by
  obtain ⟨k,m,n,b,o,ks⟩:=t
  cases ks with
  | nil=>simp [below] at h
  | cons u ks=>simp [below] at h; subst h; simp [lists,LL.ks,listss]
theorem lists_down (t : ITy) : ∀ x ∈ lists t,∀ u ∈ x.ks,∀ y,below u = some y → y ∈ lists t:=by
  induction t using ITy.ind with
  | h k m n b o ks ih =>
    cases ks with
    | nil=>simp [lists]
    | cons t ks =>
      intro x hx u hu y hy
      have he:=lists_eq (t:=.mk k m n b o (t :: ks)) (x:=⟨b,o,t,ks⟩) rfl
      rw [he] at hx ⊢
      have hsub : ∀ v ∈ (⟨b,o,t,ks⟩ : LL).ks,∀ z,z ∈ lists v → z ∈ listss (⟨b,o,t,ks⟩ : LL).ks:=fun v hv z hz=>listss_mem.2 ⟨v,hv,hz⟩
      rcases List.mem_cons.1 hx with rfl | hx
      · refine List.mem_cons_of_mem _ (hsub u hu y ?_)
        rw [lists_eq hy]; simp
      · obtain ⟨v,hv,hxv⟩:=listss_mem.1 hx
        exact List.mem_cons_of_mem _ (hsub v hv y (ih v hv x hxv u hu y hy))
mutual
theorem lists_len : ∀ t : ITy,(lists t).length ≤ sz (erase t)
  | .mk k m n b o []=>by simp [lists]
  | .mk k m n b o (t :: ks)=>by
    have h1:=lists_len t
    have h2:=listss_len ks
    simp only [lists,erase,erases,sz,szs,List.length_cons,List.length_append]
    omega
theorem listss_len : ∀ l : List ITy,(listss l).length ≤ szs (erases l)
  | []=>by simp [listss]
  | t :: l=>by
    have h1:=lists_len t
    have h2:=listss_len l
    simp only [listss,erases,szs,List.length_append]
    omega
end
theorem gd {α : Type} (l : List α) (i : Nat) (d : α) (h : i < l.length) : l.getD i d = l[i]:=by simp [List.getD,h]
theorem islice_inv {G : Ghost} {w : World} {b off : Nat} {rows : List (List AV)} {x : Value} (h : RV G w (.islice b off rows) x) : ∃ cap sz,∃ X : Nat → Nat → Value,x = .slice (some ⟨b,off,none⟩) rows.length cap ∧ (∀ r ∈ rows,r.length = sz) ∧
    (∀ i j,i < rows.length → j < sz → w.cell? ⟨b,off + (i * sz + j),none⟩ = some (X i j)) ∧ ∀ i j,i < rows.length → j < sz → RV G w (Go.Abs.rowAt rows i j) (X i j):=by
  cases h with
  | islice _ _ _ cap sz X hr hcap hx hI hz hsz hl hh=>exact ⟨cap,sz,X,rfl,fun r hr'=>(hr r hr').1,hx,hh⟩
mutual
theorem lists_ks (x : LL) : ∀ t : ITy,x ∈ lists t → x.ks.length ≤ sz (erase t)
  | .mk k m n b o []=>by simp [lists]
  | .mk k m n b o (t :: ks)=>fun h=>by
    simp only [lists,List.mem_cons,List.mem_append] at h
    simp only [erase,erases,sz,szs]
    rcases h with rfl | h | h
    · have h1 : (erases ks).length = ks.length:=by rw [erases_map,List.length_map]
      show (t :: ks).length ≤ _
      simp only [List.length_cons]; omega
    · have:=lists_ks x t h; omega
    · have:=listss_ks x ks h; omega
theorem listss_ks (x : LL) : ∀ l : List ITy,x ∈ listss l → x.ks.length ≤ szs (erases l)
  | []=>by simp [listss]
  | t :: l=>fun h=>by
    simp only [listss,List.mem_append] at h
    simp only [erases,szs]
    rcases h with h | h
    · have:=lists_ks x t h; omega
    · have:=listss_ks x l h; omega
end
def R4 (G : Ghost) (w : World) (τ : Ty) (X : Nat → Value) : Prop:=∀ j,j < 4 → RV G w ((enc τ).getD j .bot) (X j)
def T4 (G : Ghost) (w : World) (t : ITy) (X : Nat → Value) : Prop:=∀ j,j < 4 → RV G w ((encI t).getD j .bot) (X j)
theorem uniq {G : Ghost} {w : World} (s : ITy) : ∀ (t : ITy) (X : Nat → Value),norm s → norm t → T4 G w s X → T4 G w t X → s = t:=by
  induction s using ITy.ind with
  | h k m n b o ks ih =>
    rintro ⟨k',m',n',b',o',ks'⟩ X hs ht h h'
    have h0:=h 0 (by decide); have h1:=h 1 (by decide); have h2:=h 2 (by decide); have h3:=h 3 (by decide)
    have g0:=h' 0 (by decide); have g1:=h' 1 (by decide); have g2:=h' 2 (by decide); have g3:=h' 3 (by decide)
    rw [encI_eq] at h0 h1 h2 h3 g0 g1 g2 g3
    simp only [List.getD_cons_zero,List.getD_cons_succ,node] at h0 h1 h2 h3 g0 g1 g2 g3
    generalize X 0 = v0 at h0 g0
    generalize X 1 = v1 at h1 g1
    generalize X 2 = v2 at h2 g2
    generalize X 3 = v3 at h3 g3
    have e0 : k = k':=by cases h0; cases g0; rfl
    have e1 : m = m':=by
      cases h1
      generalize hq : (⟨m.toArray⟩ : ByteArray) = q at g1
      cases g1
      injection hq with hq
      have:=congrArg Array.toList hq
      simpa using this
    have e2 : n = n':=by
      cases h2
      generalize hq : (⟨n.toArray⟩ : ByteArray) = q at g2
      cases g2
      injection hq with hq
      have:=congrArg Array.toList hq
      simpa using this
    subst e0; subst e1; subst e2
    have lens : ∀ (a : Option Addr) (l c : Nat),v3 = .slice a l c → (ks = [] → l = 0) ∧ (ks' = [] → l = 0) ∧ (ks ≠ [] → l = ks.length) ∧ (ks' ≠ [] → l = ks'.length):=by
      intro a l c hv
      subst hv
      refine ⟨fun e=>?_,fun e=>?_,fun e=>?_,fun e=>?_⟩
      · subst e; simp [kidsV,below] at h3; cases h3 <;> rfl
      · subst e; simp [kidsV,below] at g3; cases g3 <;> rfl
      · cases ks with
        | nil=>exact absurd rfl e
        | cons t ks=>simp [kidsV,below] at h3; cases h3; simp [LL.ks,encIs_length]
      · cases ks' with
        | nil=>exact absurd rfl e
        | cons t ks'=>simp [kidsV,below] at g3; cases g3; simp [LL.ks,encIs_length]
    have isS : ∃ a l c,v3 = .slice a l c:=by
      cases ks with
      | nil=>simp [kidsV,below] at h3; cases h3 <;> exact ⟨_,_,_,rfl⟩
      | cons t ks=>simp [kidsV,below] at h3; cases h3; exact ⟨_,_,_,rfl⟩
    obtain ⟨a,l,c,hv⟩:=isS
    obtain ⟨l1,l2,l3,l4⟩:=lens a l c hv
    cases ks with
    | nil =>
      cases ks' with
      | nil =>
        simp only [norm] at hs ht
        rw [hs.1,hs.2,ht.1,ht.2]
      | cons t ks' =>
        have a1:=l1 rfl
        have a2:=l4 (by simp)
        simp at a2; omega
    | cons t ks =>
      cases ks' with
      | nil =>
        have a1:=l2 rfl
        have a2:=l3 (by simp)
        simp at a2; omega
      | cons t' ks' =>
        have a1:=l3 (by simp)
        have a2:=l4 (by simp)
        simp only [kidsV,below] at h3 g3
        obtain ⟨cap,sz,X1,q1,r1,x1,z1⟩:=islice_inv h3
        obtain ⟨cap',sz',X2,q2,r2,x2,z2⟩:=islice_inv g3
        rw [q1] at q2
        simp only [Value.slice.injEq,Option.some.injEq,Addr.mk.injEq] at q2
        have hb : b = b':=q2.1.1
        have ho : o = o':=q2.1.2.1
        have hlen : (t :: ks).length = (t' :: ks').length:=by
          have:=q2.2.1
          rw [encIs_length,encIs_length] at this
          exact this
        subst hb; subst ho
        have n1 : (encIs (LL.ks ⟨b,o,t,ks⟩)).length = (t :: ks).length:=encIs_length _
        have n2 : (encIs (LL.ks ⟨b,o,t',ks'⟩)).length = (t' :: ks').length:=encIs_length _
        have e1 : sz = 4:=by
          have:=r1 (encI t) (by simp [LL.ks,encIs])
          rw [encI_length] at this; exact this.symm
        have e2 : sz' = 4:=by
          have:=r2 (encI t') (by simp [LL.ks,encIs])
          rw [encI_length] at this; exact this.symm
        subst e1; subst e2
        have key : (t :: ks) = (t' :: ks'):=by
          apply List.ext_getElem hlen
          intro i hi hi'
          have xe : ∀ j,j < 4 → X1 i j = X2 i j:=fun j hj=>by
            have:=(x1 i j (by omega) hj).symm.trans (x2 i j (by omega) hj)
            injection this
          have t1 : T4 G w ((t :: ks)[i]) (X1 i):=fun j hj=>by
            have:=z1 i j (by omega) hj
            unfold Go.Abs.rowAt at this
            rw [encIs_getD (show i < (LL.ks ⟨b,o,t,ks⟩).length from hi),gd _ _ _ (show i < (LL.ks ⟨b,o,t,ks⟩).length from hi)] at this
            exact this
          have t2 : T4 G w ((t' :: ks')[i]) (X1 i):=fun j hj=>by
            have:=z2 i j (by omega) hj
            unfold Go.Abs.rowAt at this
            rw [encIs_getD (show i < (LL.ks ⟨b,o,t',ks'⟩).length from hi'),gd _ _ _ (show i < (LL.ks ⟨b,o,t',ks'⟩).length from hi'),← xe j hj] at this
            exact this
          simp only [norm] at hs ht
          have ns : ∀ u ∈ (t :: ks),norm u:=fun u hu=>by
            rcases List.mem_cons.1 hu with rfl | hu
            · exact hs.1
            · exact norms_all.1 hs.2 u hu
          have nt : ∀ u ∈ (t' :: ks'),norm u:=fun u hu=>by
            rcases List.mem_cons.1 hu with rfl | hu
            · exact ht.1
            · exact norms_all.1 ht.2 u hu
          exact ih _ (List.getElem_mem hi) _ _ (ns _ (List.getElem_mem hi)) (nt _ (List.getElem_mem hi')) t1 t2
        rw [key]
def LLok (G : Ghost) (w : World) (x : LL) : Prop:=∃ Y : Nat → Nat → Value,(∀ t ∈ x.ks,norm t) ∧ ∀ i,i < x.ks.length → T4 G w (x.ks.getD i it0) (Y i) ∧ ∀ j,j < 4 → w.cell? ⟨x.b,x.off + (i * 4 + j),none⟩ = some (Y i j)
theorem LLok.inj {G : Ghost} {w : World} {x y : LL} (hx : LLok G w x) (hy : LLok G w y) (h : x.idn = y.idn) : x = y:=by
  obtain ⟨X,n1,h1⟩:=hx
  obtain ⟨Y,n2,h2⟩:=hy
  simp only [LL.idn,Prod.mk.injEq] at h
  obtain ⟨e1,e2,e3⟩:=h
  have key : x.ks = y.ks:=by
    apply List.ext_getElem e3
    intro i hi hi'
    obtain ⟨a1,a2⟩:=h1 i hi
    obtain ⟨b1,b2⟩:=h2 i hi'
    have xe : ∀ j,j < 4 → X i j = Y i j:=fun j hj=>by
      have c1:=a2 j hj
      have c2:=b2 j hj
      rw [e1,e2,c2] at c1
      injection c1 with c1
      exact c1.symm
    have g1 : x.ks.getD i it0 = x.ks[i]:=by simp [List.getD,hi]
    have g2 : y.ks.getD i it0 = y.ks[i]:=by simp [List.getD,hi']
    rw [g1] at a1
    rw [g2] at b1
    exact uniq _ _ (X i) (n1 _ (List.getElem_mem hi)) (n2 _ (List.getElem_mem hi')) a1 fun j hj=>by rw [xe j hj]; exact b1 j hj
  obtain ⟨b,o,h,t⟩:=x
  obtain ⟨b',o',h',t'⟩:=y
  simp only [LL.ks,List.cons.injEq] at key e1 e2
  obtain ⟨rfl,rfl⟩:=key
  subst e1; subst e2
  rfl
theorem annot {G : Ghost} {w : World} (τ : Ty) : ∀ (X : Nat → Value),R4 G w τ X → ∃ t,erase t = τ ∧ norm t ∧ T4 G w t X ∧ ∀ x ∈ lists t,LLok G w x:=by
  induction τ using Ty.ind with
  | h k m n ks ih =>
    intro X hX
    have h0:=hX 0 (by decide); have h1:=hX 1 (by decide); have h2:=hX 2 (by decide); have h3:=hX 3 (by decide)
    rw [enc] at h0 h1 h2 h3
    simp only [List.getD_cons_zero,List.getD_cons_succ] at h0 h1 h2 h3
    cases ks with
    | nil =>
      refine ⟨.mk k m n 0 0 [],by simp [erase,erases],⟨rfl,rfl⟩,fun j hj=>?_,by simp [lists]⟩
      rw [encI]
      match j,hj with
      | 0,_=>exact h0
      | 1,_=>exact h1
      | 2,_=>exact h2
      | 3,_=>simpa [encs] using h3
    | cons t0 ks =>
      generalize hv : X 3 = v3 at h3
      generalize hL : encs (t0 :: ks) = L at h3
      have hLl : L.length = (t0 :: ks).length:=by rw [← hL,encs_length]
      cases h3 with
      | slice0=>simp at hLl
      | sliceE=>simp at hLl
      | slice _ b off cap sz Y hr hcap hx hI hz hh =>
        have hl : 0 < L.length:=by rw [hLl]; simp
        have r1 : sz = 4:=by
          have:=(hr _ (Abs.getD_mem (d:=[]) hl)).1
          rw [← hL,encs_getD (by simp),enc_length] at this
          omega
        subst r1
        have each : ∀ i,i < (t0 :: ks).length → ∃ t,erase t = (t0 :: ks).getD i ty0 ∧ norm t ∧ T4 G w t (Y i) ∧ ∀ x ∈ lists t,LLok G w x:=fun i hi=>by
          refine ih _ (getD_mem hi) (Y i) fun j hj=>?_
          have:=hh i j (by omega) hj
          unfold Go.Abs.rowAt at this
          rwa [← hL,encs_getD hi] at this
        obtain ⟨ts,hts,hq⟩:=list_of it0 each
        match ts,hts,hq with
        | u :: us,hts,hq =>
          have er : erases (u :: us) = t0 :: ks:=by
            rw [erases_map]
            apply List.ext_getElem (by simpa using hts)
            intro i hi hi'
            have:=(hq i hi').1
            have hil : i < (u :: us).length:=by simpa using hi
            rw [gd _ _ _ hil,gd _ _ _ hi'] at this
            rw [List.getElem_map]
            exact this
          have hxk : (⟨b,off,u,us⟩ : LL).ks = u :: us:=rfl
          have hok : LLok G w ⟨b,off,u,us⟩:=by
            refine ⟨Y,fun t ht=>?_,fun i hi=>?_⟩
            · rw [hxk] at ht
              obtain ⟨i,hi,rfl⟩:=List.mem_iff_getElem.1 ht
              have:=(hq i (by omega)).2.1
              rw [gd _ _ _ hi] at this
              exact this
            · rw [hxk] at hi ⊢
              exact ⟨(hq i (by omega)).2.2.1,fun j hj=>hx i j (by omega) hj⟩
          refine ⟨.mk k m n b off (u :: us),by rw [erase,er],?_,fun j hj=>?_,fun x hx'=>?_⟩
          · have hn : ∀ t ∈ (u :: us),norm t:=hok.choose_spec.1
            simp only [norm]
            exact ⟨hn u (by simp),norms_all.2 fun t ht=>hn t (by simp [ht])⟩
          · rw [encI]
            match j,hj with
            | 0,_=>exact h0
            | 1,_=>exact h1
            | 2,_=>exact h2
            | 3,_ =>
              show RV G w (.islice b off (encIs (u :: us))) (X 3)
              rw [hv]
              have hil : (encIs (u :: us)).length = L.length:=by rw [encIs_length]; omega
              have:=RV.islice (G:=G) (w:=w) (encIs (u :: us)) b off cap 4 Y (fun r hr'=>by
                  rw [encIs_map] at hr'
                  obtain ⟨t,_,rfl⟩:=List.mem_map.1 hr'
                  exact ⟨encI_length t,encI_leaf t⟩) (by omega) (fun i j hi hj=>hx i j (by omega) hj) (fun i j hi hj=>hI i j (by omega) hj) (hz hl (by decide)) (by decide) (by omega) (fun i j hi hj=>by
                  unfold Go.Abs.rowAt
                  rw [encIs_getD (by rw [encIs_length] at hi; exact hi)]
                  exact (hq i (by rw [encIs_length] at hi; omega)).2.2.1 j hj)
              rw [hil] at this
              exact this
          · rw [lists_eq (t:=.mk k m n b off (u :: us)) (x:=⟨b,off,u,us⟩) rfl] at hx'
            rcases List.mem_cons.1 hx' with rfl | hx'
            · exact hok
            · obtain ⟨t,ht,hxt⟩:=listss_mem.1 hx'
              rw [hxk] at ht
              obtain ⟨i,hi,rfl⟩:=List.mem_iff_getElem.1 ht
              have:=(hq i (by omega)).2.2.2 x
              have e : (u :: us).getD i it0 = (u :: us)[i]:=gd _ _ _ hi
              rw [e] at this
              exact this hxt
        | [],hts,_=>simp at hts
set_option maxRecDepth 100000 in
theorem tc_new (A : List Box) : ACalls Tryz.prog 108 [] A (fun r A'=>r = .agg [tF1,tF2,.map (A.length + 1)] ∧ A' = A ++ [.cells [tF1,tF2,.map (A.length + 1)],.mapb []]):=by
  simp only [tF1,tF2]
  refine acalls_enterK (cf:=cf 7 [0,1,2]) foll Tryz.func108 Tryz.ntmps108 (by simp [cf]) ?_
  simp only [Tryz.f108,EnterK_some,zW,zX,zD,builtinA,isLeaf,const1,ustrA,simprocAttr,ti165,ti167,cf,Tryz.results108]
end Go.Proofs.YtnjdbgiincliaaaGreat
/- The program's SigSame answers whether two lists of items are the same. -/
set_option linter.unusedVariables false
set_option linter.unusedSimpArgs false
namespace Go.Proofs.YtnjdbgiincliaaaGreat
open Go.Abs
theorem set_eq {A : List Box} {i : Nat} {X : Box} (hi : i < A.length) (h : A.getD i .dead = X) : A.set i X = A:=by
  subst h
  apply List.ext_getElem (by simp)
  intro k h1 h2
  by_cases e : i = k
  · subst e; simp [List.getD,h2]
  · rw [List.getElem_set_ne e]
structure SigJ where
  kind : Int
  name : List UInt8
  typ : ITy
def sj0 : SigJ:=⟨0,[],it0⟩
def jE (x : SigJ) : List AV:=.int .i64 x.kind :: .str x.name :: encI x.typ
def jEs (l : List SigJ) : List (List AV):=l.map jE
def erJ (x : SigJ) : SigI:=⟨x.kind,x.name,erase x.typ⟩
theorem jE_length (x : SigJ) : (jE x).length = 6:=by simp [jE,encI_length]
theorem jE_take (x : SigJ) : List.take 6 (jE x) = jE x:=List.take_of_length_le (by rw [jE_length]; exact Nat.le_refl _)
theorem jE_drop0 (x : SigJ) : (jE x).getD 0 .bot = .int .i64 x.kind:=rfl
theorem jE_drop1 (x : SigJ) : (List.drop 1 (jE x)).getD 0 .bot = .str x.name:=rfl
theorem jE_drop2 (x : SigJ) : List.drop 2 (jE x) = encI x.typ:=rfl
theorem jE_len1 (x : SigJ) : (List.drop 1 (jE x)).length = 5:=by rw [List.length_drop,jE_length]
theorem jE_leaf (x : SigJ) : ∀ v ∈ jE x,isLeaf v = true:=by
  intro v hv
  simp only [jE,List.mem_cons] at hv
  rcases hv with rfl | rfl | hv
  · rfl
  · rfl
  · exact encI_leaf _ v hv
theorem frzL_jE (x : SigJ) (A : List Box) : frzL (jE x) A = some (jE x,A):=frzL_leaf _ _ (jE_leaf x)
theorem jEs_length (l : List SigJ) : (jEs l).length = l.length:=by simp [jEs]
theorem jEs_getD {l : List SigJ} {i : Nat} (h : i < l.length) : (jEs l).getD i [] = jE (l.getD i sj0):=by simp [jEs,List.getD,h]
theorem sj_mem {l : List SigJ} {i : Nat} (h : i < l.length) : l.getD i sj0 ∈ l:=by simp [List.getD,h]
theorem sj_drop {l : List SigJ} {i : Nat} (h : i < l.length) : l.drop i = l.getD i sj0 :: l.drop (i + 1):=by
  have : l.getD i sj0 = l[i]:=by simp [List.getD,h]
  rw [this,List.getElem_cons_drop h]
set_option maxRecDepth 100000 in
theorem same_item {U : List LL} (hU : Univ U) (hN : U.length ≤ 100000000) (hL : ∀ x ∈ U,x.ks.length ≤ 1000000000) (x y : SigJ) (hx : ∀ z,below x.typ = some z → z ∈ U) (hy : ∀ z,below y.typ = some z → z ∈ U)
    (c it is : Nat) (m0 : List (LL × LL)) (h0 : ClS U m0) (A : List Box) (hc : c < A.length) (hi : it < A.length) (hci : c ≠ it) (hAc : A.getD c .dead = .cells [tF1,tF2,.map it,.map is]) (hA : A.getD it .dead = .mapb (esOf m0)) :
    ACalls Tryz.prog 196 [.agg (jE x),.agg (jE y),.ptr c 0] A (fun r A'=>∃ m',A' = A.set it (.mapb (esOf m')) ∧ r = .bool (siB (erJ x) (erJ y)) ∧ (siB (erJ x) (erJ y) = true → ClS U m')):=by
  have hs0 : A.set it (.mapb (esOf m0)) = A:=set_eq hi hA
  have hout : ∀ m (L : List Box),Outer A (A.set it (.mapb (esOf m)) ++ L):=fun m L=>outer_set A _ it _ (es_closed _ _)
  have hL0 : ∀ L : List Box,Outer A (A ++ L):=fun L=>by have:=hout m0 L; rwa [hs0] at this
  refine acalls_enter (cf:=cf 27 [0,1,2,3,4,5]) foll Tryz.func196 Tryz.ntmps196 (by simp [cf]) ?_
  simp only [Tryz.f196,EnterK_some,zW,zX,zD,builtinA,isLeaf,const1,ustrA,simprocAttr,ti3,ti9,ti36,ti69,ti167,ti171,ca197,cf,Tryz.results196]
  simp only [zW,zX,zD,builtinA,isLeaf,const1,ustrA,simprocAttr,ti3,ti9,ti36,ti69,ti167,ti171,ca197,cf,Tryz.results196,jE_length,jE_take,jE_drop0,jE_drop1,jE_len1,jE_drop2,frzL_jE]
  by_cases k1 : x.kind = y.kind
  · simp only [zW,zX,zD,builtinA,isLeaf,const1,ustrA,simprocAttr,ti3,ti9,ti36,ti69,ti167,ti171,ca197,cf,Tryz.results196,decide_eq_true k1,jE_length,jE_take,jE_drop0,jE_drop1,jE_len1,jE_drop2]
    by_cases k2 : x.name = y.name
    · have hsm:=sameI hU hN hL x.typ y.typ hx hy it m0 h0 (A ++ [Box.cells (jE x),.cells (jE y)]) (by simp; omega) (by rw [Abs.getD_append_left hi]; exact hA)
      have hAc2 : (A ++ [Box.cells (jE x),.cells (jE y)]).getD c .dead = .cells [tF1,tF2,.map it,.map is]:=by rw [Abs.getD_append_left hc]; exact hAc
      simp only [zW,zX,zD,builtinA,isLeaf,const1,ustrA,simprocAttr,ti3,ti9,ti36,ti69,ti167,ti171,ca197,cf,Tryz.results196,decide_eq_true k2,hAc2,jE_length,jE_take,jE_drop0,jE_drop1,jE_len1,jE_drop2,encI_take,encI_length]
      refine callO_intro hsm ?_
      rintro r A' ⟨m',rfl,rfl,hm'⟩
      rw [List.set_append_left _ _ hi]
      simp only [zW,zX,zD,builtinA,isLeaf,const1,ustrA,simprocAttr,ti3,ti9,ti36,ti69,ti167,ti171,ca197,cf,Tryz.results196]
      exact ⟨hout _ _,m',rfl,by simp [siB,erJ,k1,k2],fun h=>hm' (by simpa [siB,erJ,k1,k2] using h)⟩
    · simp only [zW,zX,zD,builtinA,isLeaf,const1,ustrA,simprocAttr,ti3,ti9,ti36,ti69,ti167,ti171,ca197,cf,Tryz.results196,decide_eq_false k2,jE_len1]
      exact ⟨m0,hs0.symm,by simp [siB,erJ,k2],fun h=>by simp [siB,erJ,k2] at h⟩
  · simp only [zW,zX,zD,builtinA,isLeaf,const1,ustrA,simprocAttr,ti3,ti9,ti36,ti69,ti167,ti171,ca197,cf,Tryz.results196,decide_eq_false k1]
    exact ⟨m0,hs0.symm,by simp [siB,erJ,k1],fun h=>by simp [siB,erJ,k1] at h⟩
theorem sisB_map (a b : List SigJ) {i : Nat} (hi : i < a.length) (hj : i < b.length) : sisB ((a.drop i).map erJ) ((b.drop i).map erJ) = (siB (erJ (a.getD i sj0)) (erJ (b.getD i sj0)) && sisB ((a.drop (i + 1)).map erJ) ((b.drop (i + 1)).map erJ)):=by
  rw [sj_drop hi,sj_drop hj,List.map_cons,List.map_cons,sisB]
set_option maxRecDepth 100000 in
theorem eq_items {U : List LL} (hU : Univ U) (hN : U.length ≤ 100000000) (hL : ∀ x ∈ U,x.ks.length ≤ 1000000000) (a b : List SigJ) (ha : ∀ x ∈ a,∀ z,below x.typ = some z → z ∈ U) (hb : ∀ x ∈ b,∀ z,below x.typ = some z → z ∈ U) (hla : a.length ≤ 1048576)
    (b1 o1 b2 o2 c it is : Nat) (m0 : List (LL × LL)) (h0 : ClS U m0) (A : List Box) (hc : c < A.length) (hi : it < A.length) (hci : c ≠ it) (hAc : A.getD c .dead = .cells [tF1,tF2,.map it,.map is]) (hA : A.getD it .dead = .mapb (esOf m0)) :
    ACalls Tryz.prog 258 [.islice b1 o1 (jEs a),.islice b2 o2 (jEs b),.func (.func 196) [] [.ptr c 0]] A (fun r A'=>∃ m',A' = A.set it (.mapb (esOf m')) ∧ r = .bool (sisB (a.map erJ) (b.map erJ))):=by
  have hs0 : A.set it (.mapb (esOf m0)) = A:=set_eq hi hA
  have hout : ∀ m (L : List Box),Outer A (A.set it (.mapb (esOf m)) ++ L):=fun m L=>outer_set A _ it _ (es_closed _ _)
  have hL0 : ∀ L : List Box,Outer A (A ++ L):=fun L=>by have:=hout m0 L; rwa [hs0] at this
  by_cases hl : a.length = b.length
  · have hd : decide ((a.length : Int) = (b.length : Int)) = true:=decide_eq_true (by omega)
    refine acalls_enter (cf:=cf 32 [0,1,2,6,7,8,9,14,15,16,17,18,30]) foll Tryz.func258 Tryz.ntmps258 (by simp [cf]) ?_
    simp only [Tryz.f258,EnterK_some,zW,zX,zD,builtinA,isLeaf,const1,ustrA,simprocAttr,ti3,ti50,ti69,cf,Tryz.results258]
    simp only [zW,zX,zD,builtinA,isLeaf,const1,ustrA,simprocAttr,ti3,ti50,ti69,cf,Tryz.results258,jEs_length,hd]
    refine aloop_intro [1,2,15,16,17] (fun e A'=>∃ (i : Nat) (B : List Box) (m : List (LL × LL)),i ≤ a.length ∧ sisB ((a.drop i).map erJ) ((b.drop i).map erJ) = sisB (a.map erJ) (b.map erJ) ∧ e = [(1,.islice b2 o2 (jEs b)),(2,.func (.func 196) [] [.ptr c 0]),(15,.islice b1 o1 (jEs a)),(16,.int .i64 a.length),(17,.int .i64 i)] ∧ A' = A.set it (.mapb (esOf m)) ++ B ∧ ClS U m) (fun e _=>a.length - (intOf (Abs.look 17 e)).toNat) ?_ ?_
    · simp only [zW,zX,zD,builtinA,isLeaf,const1,ustrA,simprocAttr,ti3,ti50,ti69,cf,Tryz.results258,jEs_length]
      exact ⟨0,[],m0,by omega,rfl,rfl,by rw [hs0]; simp,h0⟩
    · rintro e A' ⟨i,B,m,hi2,hq,rfl,rfl,hm⟩
      simp only [zW,zX,zD,builtinA,isLeaf,const1,ustrA,simprocAttr,ti3,ti50,ti69,cf,Tryz.results258,jEs_length]
      refine condK_intro (fun h2=>?_) (fun h2=>?_)
      · have hi3 : i < a.length:=by simpa using h2
        have hj2 : i < b.length:=by omega
        rw [sisB_map a b hi3 hj2] at hq
        have e1:=jEs_getD hi3
        have e2:=jEs_getD hj2
        have hxa:=ha _ (sj_mem hi3)
        have hxb:=hb _ (sj_mem hj2)
        have hi1 : IntKind.i64.wrap ((i : Int) + 1) = ((i + 1 : Nat) : Int):=by rw [wrap64 (by omega) (by omega)]; rfl
        generalize a.getD i sj0 = x at *
        generalize b.getD i sj0 = y at *
        have pa : (0 : Int) ≤ (i : Int) ∧ (i : Int) < (a.length : Int):=⟨by omega,by omega⟩
        have pb : (0 : Int) ≤ (i : Int) ∧ (i : Int) < (b.length : Int):=⟨by omega,by omega⟩
        have hcall:=fun L=>same_item hU hN hL x y hxa hxb c it is m hm (A.set it (.mapb (esOf m)) ++ L) (by simp; omega) (by simp; omega) hci (by rw [Abs.getD_append_left (by simpa using hc),Abs.getD_set_ne' (Ne.symm hci)]; exact hAc) (by rw [Abs.getD_append_left (by simpa using hi),Abs.getD_set_self hi])
        simp only [zW,zX,zD,builtinA,isLeaf,const1,ustrA,simprocAttr,ti3,ti50,ti69,cf,Tryz.results258,e1,e2,jE_length,jE_take,jEs_length]
        refine ⟨pa,pb,?_⟩
        refine wpO_callv _ _ _ _ _ _ _ _ _ _ _ _ _ _ _ ?_
        simp only [zW,zX,zD,builtinA,isLeaf,const1,ustrA,simprocAttr,ti3,ti50,ti69,cf,Tryz.results258]
        refine ⟨by kernel_rfl,?_⟩
        refine callK_intro (by simp only [zW,zX,zD,builtinA,isLeaf,const1,ustrA,simprocAttr,frzL_jE,Option.map_some,List.nil_append,List.append_nil] <;> rfl) (hcall _) ?_ rfl
        rintro r A' ⟨m',rfl,rfl,hm'⟩
        rw [List.set_append_left _ _ (by simpa using hi),List.set_set]
        cases hh : siB (erJ x) (erJ y) with
        | true =>
          rw [hh,Bool.true_and] at hq
          simp only [zW,zX,zD,builtinA,isLeaf,const1,ustrA,simprocAttr,ti3,ti50,ti69,cf,Tryz.results258,hi1,LoopK_eq]
          refine ⟨⟨i + 1,_,m',by omega,hq,rfl,rfl,hm' hh⟩,?_⟩
          simp only [intOf]; omega
        | false =>
          rw [hh,Bool.false_and] at hq
          simp only [zW,zX,zD,builtinA,isLeaf,const1,ustrA,simprocAttr,ti3,ti50,ti69,cf,Tryz.results258]
          exact ⟨hout _ _,m',rfl,by rw [← hq]⟩
      · have : i = a.length:=by simp at h2; omega
        subst this
        have hb0 : b.drop a.length = []:=by simp; omega
        rw [List.drop_length,hb0,List.map_nil,sisB] at hq
        simp only [zW,zX,zD,builtinA,isLeaf,const1,ustrA,simprocAttr,ti3,ti50,ti69,cf,Tryz.results258]
        exact ⟨hout _ _,m,rfl,by rw [← hq]⟩
  · have hd : decide ((a.length : Int) = (b.length : Int)) = false:=decide_eq_false (by omega)
    rw [sisB_len (by simpa using hl)]
    refine acalls_enter (cf:=cf 32 [0,1,2,6,7,8,9,14,15,16,17,18,30]) foll Tryz.func258 Tryz.ntmps258 (by simp [cf]) ?_
    simp only [Tryz.f258,EnterK_some,zW,zX,zD,builtinA,isLeaf,const1,ustrA,simprocAttr,ti3,ti50,ti69,cf,Tryz.results258]
    simp only [zW,zX,zD,builtinA,isLeaf,const1,ustrA,simprocAttr,ti3,ti50,ti69,cf,Tryz.results258,jEs_length,hd]
    exact ⟨m0,hs0.symm⟩
structure SL where
  b : Nat
  off : Nat
  hd : SigJ
  tl : List SigJ
def SL.ks (x : SL) : List SigJ:=x.hd :: x.tl
def SL.idn (x : SL) : Nat × Nat × Nat:=(x.b,x.off,x.ks.length)
def kvJ (x : SL) : List AV:=[.ivptr x.b x.off (jE x.hd),.int .i64 (x.ks.length : Nat)]
set_option maxRecDepth 100000 in
theorem find_new (l : SL) (i : Nat) (A : List Box) (hi : i < A.length) (hA : A.getD i .dead = .mapb []) :
    ACalls Tryz.prog 289 [.map i,.agg (kvJ l)] A (fun r A'=>r = .agg (kvJ l) ∧ A' = A):=by
  rw [kvJ]
  refine acalls_enter (cf:=cf 29 [0,1,3,4,5,6,7,8,16,24]) foll Tryz.func289 Tryz.ntmps289 (by simp [cf]) ?_
  simp only [Tryz.f289,EnterK_some,zW,zX,zD,builtinA,isLeaf,const1,ustrA,simprocAttr,ti169,ti415,mi169,cf,Tryz.results289]
  refine aloop_intro [0,3,4] (fun e A'=>e = [(0,.map i),(3,.ptr A.length 0),(4,.ptr (A.length + 1) 0)] ∧ A' = A ++ [.cells [.ivptr l.b l.off (jE l.hd),.int .i64 (l.ks.length : Nat)],.cells [.nilp,.int .i64 0]]) (fun _ A'=>0) ?_ ?_
  · simp only [zW,zX,zD,builtinA,isLeaf,const1,ustrA,simprocAttr,ti169,ti415,mi169,cf,Tryz.results289]
  · rintro e A' ⟨rfl,rfl⟩
    simp only [zW,zX,zD,builtinA,isLeaf,const1,ustrA,simprocAttr,ti169,ti415,mi169,cf,Tryz.results289,hi,hA,findA]
theorem mapb_closed1 (n : Nat) (x y : SL) : boxClosed n (.mapb [(.agg (kvJ x),.agg (kvJ y))]) = true:=by
  simp only [boxClosed,List.all_eq_true,List.mem_singleton]
  rintro e rfl
  rfl
theorem sisB_self : ∀ a : List SigI,sisB a a = true
  | []=>rfl
  | x :: a=>by simp [sisB,siB,sisB_self a]
set_option maxRecDepth 100000 in
theorem join_new (x y : SL) (i : Nat) (A : List Box) (hi : i < A.length) (hA : A.getD i .dead = .mapb []) :
    ACalls Tryz.prog 257 [.map i,.islice x.b x.off (jEs x.ks),.islice y.b y.off (jEs y.ks)] A (fun r A'=>(r = .bool false ∧ x.idn = y.idn ∧ A' = A) ∨ (r = .bool true ∧ A' = A.set i (.mapb [(.agg (kvJ x),.agg (kvJ y))]))):=by
  have hxl : (jEs x.ks).length = x.ks.length:=jEs_length _
  have hyl : (jEs y.ks).length = y.ks.length:=jEs_length _
  have hx0 : decide (((x.ks.length : Nat) : Int) = 0) = false:=decide_eq_false (by simp [SL.ks]; omega)
  have hxg : (jEs x.ks).getD 0 [] = jE x.hd:=by simp [SL.ks,jEs]
  have hyg : (jEs y.ks).getD 0 [] = jE y.hd:=by simp [SL.ks,jEs]
  have hxp : 0 < x.ks.length:=by simp [SL.ks]
  have hyp : 0 < y.ks.length:=by simp [SL.ks]
  refine acalls_enter (cf:=cf 32 [0,1,2,6,7,8,11,28]) foll Tryz.func257 Tryz.ntmps257 (by simp [cf]) ?_
  simp only [Tryz.f257,EnterK_some,zW,zX,zD,builtinA,isLeaf,const1,ustrA,simprocAttr,ti3,ti50,ti69,ti169,ti415,ca289,mi169,ks415,cf,Tryz.results257]
  simp only [zW,zX,zD,builtinA,isLeaf,const1,ustrA,simprocAttr,ti3,ti50,ti69,ti169,ti415,ca289,mi169,ks415,cf,Tryz.results257,hxl,hyl,hx0,hxg,hyg,jE_length]
  refine ⟨by omega,?_⟩
  refine callK_intro (by simp only [zW,zX,zD,builtinA,isLeaf,const1,ustrA,simprocAttr]; rfl) (find_new x i _ hi hA) ?_ rfl
  rintro v A' ⟨rfl,rfl⟩
  rw [kvJ]
  simp only [zW,zX,zD,builtinA,isLeaf,const1,ustrA,simprocAttr,ti3,ti50,ti69,ti169,ti415,ca289,mi169,ks415,cf,Tryz.results257,hi,hxl,hyl,hx0,hxg,hyg,jE_length]
  refine ⟨by omega,?_⟩
  refine callK_intro (by simp only [zW,zX,zD,builtinA,isLeaf,const1,ustrA,simprocAttr]; rfl) (find_new y i _ (by simp; omega) (by first | exact hA | (rw [Abs.getD_append_left hi]; exact hA))) ?_ rfl
  rintro v A' ⟨rfl,rfl⟩
  rw [kvJ]
  by_cases he : (decide (x.b = y.b ∧ x.off = y.off) && decide (((x.ks.length : Nat) : Int) = ((y.ks.length : Nat) : Int))) = true
  · have hid : x.idn = y.idn:=by
      simp only [Bool.and_eq_true,decide_eq_true_eq] at he
      simp only [SL.idn,Prod.mk.injEq]
      exact ⟨he.1.1,he.1.2,by omega⟩
    simp only [zW,zX,zD,builtinA,isLeaf,const1,ustrA,simprocAttr,ti3,ti50,ti69,ti169,ti415,ca289,mi169,ks415,cf,Tryz.results257,hi,hxl,hyl,jE_length]
    rw [he]
    simp only [zW,zX,zD,builtinA,isLeaf,const1,ustrA,simprocAttr,ti3,ti50,ti69,ti169,ti415,ca289,mi169,ks415,cf,Tryz.results257]
    exact .inl hid
  · rw [Bool.not_eq_true] at he
    simp only [zW,zX,zD,builtinA,isLeaf,const1,ustrA,simprocAttr,ti3,ti50,ti69,ti169,ti415,ca289,mi169,ks415,cf,Tryz.results257,hi,hxl,hyl,jE_length]
    rw [he]
    simp only [zW,zX,zD,builtinA,isLeaf,const1,ustrA,simprocAttr,ti3,ti50,ti69,ti169,ti415,ca289,mi169,ks415,cf,Tryz.results257,hi,hA,findA]
    exact outer_set A' _ i _ (mapb_closed1 _ x y)
set_option maxRecDepth 100000 in
theorem join_nil (i : Nat) (A : List Box) : ACalls Tryz.prog 257 [.map i,.slice [],.slice []] A (fun r A'=>r = .bool false ∧ A' = A):=by
  refine acalls_enter (cf:=cf 32 [0,1,2,6,7,8,11,28]) foll Tryz.func257 Tryz.ntmps257 (by simp [cf]) ?_
  simp only [Tryz.f257,EnterK_some,zW,zX,zD,builtinA,isLeaf,const1,ustrA,simprocAttr,ti3,ti50,ti69,ti169,ti415,ca289,mi169,ks415,cf,Tryz.results257]
def oV : Option SL → AV
  | none=>.slice []
  | some x=>.islice x.b x.off (jEs x.ks)
def oK : Option SL → List SigJ
  | none=>[]
  | some x=>x.ks
def Two (it is : Nat) (A A' : List Box) : Prop:=A'.length = A.length ∧ (∀ k,k ≠ it → k ≠ is → A'.getD k .dead = A.getD k .dead) ∧ (∀ n,boxClosed n (A'.getD it .dead) = true) ∧ ∀ n,boxClosed n (A'.getD is .dead) = true
theorem Two.outer {it is : Nat} {A A' : List Box} (h : Two it is A A') (L : List Box) : Outer A (A' ++ L):=by
  obtain ⟨h1,h2,h3,h4⟩:=h
  refine ⟨by simp; omega,fun k hk=>?_⟩
  rw [Abs.getD_append_left (by omega)]
  by_cases e1 : k = it
  · subst e1; exact .inr (h3 _)
  · by_cases e2 : k = is
    · subst e2; exact .inr (h4 _)
    · exact .inl (h2 k e1 e2)
set_option maxRecDepth 100000 in
theorem same_new {U : List LL} (hU : Univ U) (hN : U.length ≤ 100000000) (hL : ∀ x ∈ U,x.ks.length ≤ 1000000000) (x y : Option SL) (hid : ∀ a b,x = some a → y = some b → a.idn = b.idn → a.ks = b.ks) (ha : ∀ t ∈ oK x,∀ z,below t.typ = some z → z ∈ U) (hb : ∀ t ∈ oK y,∀ z,below t.typ = some z → z ∈ U) (hla : (oK x).length ≤ 1048576)
    (c it is : Nat) (m0 : List (LL × LL)) (h0 : ClS U m0) (A : List Box) (hc : c < A.length) (hi : it < A.length) (his : is < A.length) (hci : c ≠ it) (hcs : c ≠ is) (hts : it ≠ is) (hAc : A.getD c .dead = .cells [tF1,tF2,.map it,.map is]) (hA : A.getD it .dead = .mapb (esOf m0)) (hAs : A.getD is .dead = .mapb []) :
    ACalls Tryz.prog 195 [.map is,oV x,oV y,.func (.func 196) [] [.ptr c 0]] A (fun r A'=>r = .bool (sisB ((oK x).map erJ) ((oK y).map erJ)) ∧ Two it is A A'):=by
  have hT : Two it is A A:=⟨rfl,fun _ _ _=>rfl,fun n=>by rw [hA]; exact es_closed n m0,fun n=>by rw [hAs]; rfl⟩
  have hTA : Outer A A:=.refl A
  have hTA2 : A.take A.length = A:=List.take_length
  cases x with
  | none =>
    cases y with
    | none =>
      simp only [oV,oK]
      refine acalls_enter (cf:=cf 27 [0,1,2,3,8]) foll Tryz.func195 Tryz.ntmps195 (by simp [cf]) ?_
      simp only [Tryz.f195,EnterK_some,zW,zX,zD,builtinA,isLeaf,const1,ustrA,simprocAttr,ti3,ti50,ti69,ca257,ca258,cf,Tryz.results195]
      refine callO_intro (join_nil is A) ?_
      rintro r A' ⟨rfl,rfl⟩
      simp only [zW,zX,zD,builtinA,isLeaf,const1,ustrA,simprocAttr,ti3,ti50,ti69,ca257,ca258,cf,Tryz.results195]
      exact ⟨rfl,hT⟩
    | some y =>
      have hd : decide ((0 : Int) = (y.ks.length : Int)) = false:=decide_eq_false (by simp [SL.ks]; omega)
      simp only [oV,oK]
      refine acalls_enter (cf:=cf 27 [0,1,2,3,8]) foll Tryz.func195 Tryz.ntmps195 (by simp [cf]) ?_
      simp only [Tryz.f195,EnterK_some,zW,zX,zD,builtinA,isLeaf,const1,ustrA,simprocAttr,ti3,ti50,ti69,ca257,ca258,cf,Tryz.results195]
      simp only [zW,zX,zD,builtinA,isLeaf,const1,ustrA,simprocAttr,ti3,ti50,ti69,ca257,ca258,cf,Tryz.results195,jEs_length,hd]
      exact ⟨by simp [SL.ks,sisB],hT⟩
  | some x =>
    cases y with
    | none =>
      have hd : decide ((x.ks.length : Int) = 0) = false:=decide_eq_false (by simp [SL.ks]; omega)
      simp only [oV,oK]
      refine acalls_enter (cf:=cf 27 [0,1,2,3,8]) foll Tryz.func195 Tryz.ntmps195 (by simp [cf]) ?_
      simp only [Tryz.f195,EnterK_some,zW,zX,zD,builtinA,isLeaf,const1,ustrA,simprocAttr,ti3,ti50,ti69,ca257,ca258,cf,Tryz.results195]
      simp only [zW,zX,zD,builtinA,isLeaf,const1,ustrA,simprocAttr,ti3,ti50,ti69,ca257,ca258,cf,Tryz.results195,jEs_length,hd]
      exact ⟨by simp [SL.ks,sisB],hT⟩
    | some y =>
      simp only [oV,oK] at ha hb hla ⊢
      by_cases hl : x.ks.length = y.ks.length
      · have hd : decide ((x.ks.length : Int) = (y.ks.length : Int)) = true:=decide_eq_true (by omega)
        refine acalls_enter (cf:=cf 27 [0,1,2,3,8]) foll Tryz.func195 Tryz.ntmps195 (by simp [cf]) ?_
        simp only [Tryz.f195,EnterK_some,zW,zX,zD,builtinA,isLeaf,const1,ustrA,simprocAttr,ti3,ti50,ti69,ca257,ca258,cf,Tryz.results195]
        simp only [zW,zX,zD,builtinA,isLeaf,const1,ustrA,simprocAttr,ti3,ti50,ti69,ca257,ca258,cf,Tryz.results195,jEs_length,hd]
        refine callO_intro (join_new x y is A his hAs) ?_
        rintro r A' (⟨rfl,he,rfl⟩ | ⟨rfl,rfl⟩)
        · simp only [zW,zX,zD,builtinA,isLeaf,const1,ustrA,simprocAttr,ti3,ti50,ti69,ca257,ca258,cf,Tryz.results195]
          exact ⟨by rw [hid x y rfl rfl he,sisB_self],hT⟩
        · have heq:=eq_items hU hN hL x.ks y.ks ha hb hla x.b x.off y.b y.off c it is m0 h0 (A.set is (.mapb [(.agg (kvJ x),.agg (kvJ y))])) (by simpa using hc) (by simpa using hi) hci (by rw [Abs.getD_set_ne' (Ne.symm hcs)]; exact hAc) (by rw [Abs.getD_set_ne' (Ne.symm hts)]; exact hA)
          simp only [zW,zX,zD,builtinA,isLeaf,const1,ustrA,simprocAttr,ti3,ti50,ti69,ca257,ca258,cf,Tryz.results195]
          refine callO_intro heq ?_
          rintro r A' ⟨m',rfl,rfl⟩
          have hT2 : Two it is A ((A.set is (.mapb [(.agg (kvJ x),.agg (kvJ y))])).set it (.mapb (esOf m'))):=by
            refine ⟨by simp,fun k h1 h2=>by rw [Abs.getD_set_ne' (Ne.symm h1),Abs.getD_set_ne' (Ne.symm h2)],fun n=>?_,fun n=>?_⟩
            · rw [Abs.getD_set_self (by simpa using hi)]; exact es_closed n m'
            · rw [Abs.getD_set_ne' hts,Abs.getD_set_self his]; exact mapb_closed1 n x y
          generalize (A.set is (.mapb [(.agg (kvJ x),.agg (kvJ y))])).set it (.mapb (esOf m')) = A2 at *
          simp only [zW,zX,zD,builtinA,isLeaf,const1,ustrA,simprocAttr,ti3,ti50,ti69,ca257,ca258,cf,Tryz.results195]
          exact ⟨by have:=hT2.outer []; rwa [List.append_nil] at this,by rw [List.take_of_length_le (Nat.le_of_eq hT2.1)]; exact hT2⟩
      · have hd : decide ((x.ks.length : Int) = (y.ks.length : Int)) = false:=decide_eq_false (by omega)
        refine acalls_enter (cf:=cf 27 [0,1,2,3,8]) foll Tryz.func195 Tryz.ntmps195 (by simp [cf]) ?_
        simp only [Tryz.f195,EnterK_some,zW,zX,zD,builtinA,isLeaf,const1,ustrA,simprocAttr,ti3,ti50,ti69,ca257,ca258,cf,Tryz.results195]
        simp only [zW,zX,zD,builtinA,isLeaf,const1,ustrA,simprocAttr,ti3,ti50,ti69,ca257,ca258,cf,Tryz.results195,jEs_length,hd]
        exact ⟨by rw [sisB_len (by simpa using hl)],hT⟩
theorem Two.cut {it is : Nat} {A L A' : List Box} (h : Two it is (A ++ L) A') (hi : it < A.length) (his : is < A.length) : Outer A A' ∧ Two it is A (A'.take A.length):=by
  obtain ⟨h1,h2,h3,h4⟩:=h
  have hl : A.length ≤ A'.length:=by rw [h1]; simp
  have hg : ∀ k,k < A.length → (A'.take A.length).getD k .dead = A'.getD k .dead:=fun k hk=>by simp [List.getD,List.getElem?_take,hk]
  refine ⟨⟨hl,fun k hk=>?_⟩,by simp; omega,fun k e1 e2=>?_,fun n=>?_,fun n=>?_⟩
  · by_cases e1 : k = it
    · subst e1; exact .inr (h3 _)
    · by_cases e2 : k = is
      · subst e2; exact .inr (h4 _)
      · left; rw [h2 k e1 e2,Abs.getD_append_left hk]
  · by_cases hk : k < A.length
    · rw [hg k hk,h2 k e1 e2,Abs.getD_append_left hk]
    · have e3 : (A'.take A.length).length = A.length:=by simp; omega
      simp [List.getD,List.getElem?_take,hk]
  · rw [hg _ hi]; exact h3 n
  · rw [hg _ his]; exact h4 n
theorem Two.far {it is : Nat} {A L A' : List Box} (h : Two it is (A ++ L) A') (hi : A.length ≤ it) (his : A.length ≤ is) : Outer A A' ∧ A'.take A.length = A:=by
  obtain ⟨h1,h2,h3,h4⟩:=h
  have hl : A.length ≤ A'.length:=by rw [h1]; simp
  have hg : ∀ k,k < A.length → A'.getD k .dead = A.getD k .dead:=fun k hk=>by
    rw [h2 k (by omega) (by omega),Abs.getD_append_left hk]
  refine ⟨⟨hl,fun k hk=>.inl (hg k hk)⟩,?_⟩
  refine List.ext_getElem (by simp; omega) fun k e1 e2=>?_
  have:=hg k e2
  simp only [List.getD,show k < A'.length by omega,e2,List.getElem?_eq_getElem,Option.getD_some] at this
  rw [List.getElem_take,this]
set_option maxRecDepth 100000 in
theorem cmp_same {U : List LL} (hU : Univ U) (hN : U.length ≤ 100000000) (hL : ∀ x ∈ U,x.ks.length ≤ 1000000000) (x y : Option SL) (hid : ∀ a b,x = some a → y = some b → a.idn = b.idn → a.ks = b.ks) (ha : ∀ t ∈ oK x,∀ z,below t.typ = some z → z ∈ U) (hb : ∀ t ∈ oK y,∀ z,below t.typ = some z → z ∈ U) (hla : (oK x).length ≤ 1048576)
    (it is : Nat) (m0 : List (LL × LL)) (h0 : ClS U m0) (A : List Box) (hi : it < A.length) (his : is < A.length) (hts : it ≠ is) (hA : A.getD it .dead = .mapb (esOf m0)) (hAs : A.getD is .dead = .mapb []) :
    ACalls Tryz.prog 109 [.agg [tF1,tF2,.map it,.map is],oV x,oV y] A (fun r A'=>r = .bool (sisB ((oK x).map erJ) ((oK y).map erJ)) ∧ Two it is A A'):=by
  have hs:=same_new hU hN hL x y hid ha hb hla A.length it is m0 h0 (A ++ [Box.cells [tF1,tF2,.map it,.map is]]) (by simp) (by simp; omega) (by simp; omega) (by omega) (by omega) hts
    (by rw [Abs.getD_append_right (Nat.le_refl _)]; simp) (by rw [Abs.getD_append_left hi]; exact hA) (by rw [Abs.getD_append_left his]; exact hAs)
  generalize oV x = vx at *
  generalize oV y = vy at *
  refine acalls_enter (cf:=cf 13 [0,1,2,3,6]) foll Tryz.func109 Tryz.ntmps109 (by simp [cf]) ?_
  simp only [Tryz.f109,EnterK_some,zW,zX,zD,builtinA,isLeaf,const1,ustrA,simprocAttr,ti169,ti171,ca195,cf,Tryz.results109]
  refine callO_intro hs ?_
  rintro r A' ⟨rfl,hT⟩
  obtain ⟨q1,q2⟩:=hT.cut hi his
  simp only [zW,zX,zD,builtinA,isLeaf,const1,ustrA,simprocAttr,ti169,ti171,ca195,cf,Tryz.results109]
  exact ⟨q1,q2⟩
set_option maxRecDepth 100000 in
theorem sc_new (it : Nat) (A : List Box) (hi : it < A.length) : ACalls Tryz.prog 107 [.agg [tF1,tF2,.map it]] A (fun r A'=>∃ k B,r = .agg [tF1,tF2,.map it,.map (A.length + k)] ∧ A' = A ++ B ∧ k < B.length ∧ B.getD k .dead = .mapb []):=by
  simp only [tF1,tF2]
  refine acalls_enterK (cf:=cf 6 [0,1,2]) foll Tryz.func107 Tryz.ntmps107 (by simp [cf]) ?_
  simp only [Tryz.f107,EnterK_some,zW,zX,zD,builtinA,isLeaf,const1,ustrA,simprocAttr,ti167,ti169,ti171,cf,Tryz.results107]
  exact ⟨2,_,rfl,rfl,by simp,rfl⟩
set_option maxRecDepth 100000 in
theorem impl_SigSameI {U : List LL} (hU : Univ U) (hN : U.length ≤ 100000000) (hL : ∀ x ∈ U,x.ks.length ≤ 1000000000) (x y : Option SL) (hid : ∀ a b,x = some a → y = some b → a.idn = b.idn → a.ks = b.ks) (ha : ∀ t ∈ oK x,∀ z,below t.typ = some z → z ∈ U) (hb : ∀ t ∈ oK y,∀ z,below t.typ = some z → z ∈ U) (hla : (oK x).length ≤ 1048576) (A : List Box) :
    ACalls Tryz.prog 34 [oV x,oV y] A (fun r A'=>r = .bool (sisB ((oK x).map erJ) ((oK y).map erJ)) ∧ A' = A):=by
  have hc0 : ClS U []:=⟨[],⟨by simp,by simp,by simp⟩,by simp⟩
  have hs:=fun is (B : List Box) h1 h2 h3 h4=>cmp_same hU hN hL x y hid ha hb hla (A.length + 1) is [] hc0 (A ++ B) h1 h2 h3 h4
  generalize oV x = vx at *
  generalize oV y = vy at *
  refine acalls_enter (cf:=cf 10 [0,1,4]) foll Tryz.func34 Tryz.ntmps34 (by simp [cf]) ?_
  simp only [Tryz.f34,EnterK_some,zW,zX,zD,builtinA,isLeaf,const1,ustrA,simprocAttr,ca107,ca108,ca109,cf,Tryz.results34]
  refine callO_intro (tc_new A) ?_
  rintro r A' ⟨rfl,rfl⟩
  simp only [zW,zX,zD,builtinA,isLeaf,const1,ustrA,simprocAttr,ca107,ca108,ca109,cf,Tryz.results34]
  refine callO_intro (sc_new (A.length + 1) _ (by simp)) ?_
  rintro r A' ⟨k,B,rfl,rfl,hk,hB⟩
  simp only [zW,zX,zD,builtinA,isLeaf,const1,ustrA,simprocAttr,ca107,ca108,ca109,cf,Tryz.results34]
  refine callO_intro (hs (A.length + 2 + k) _ (by simp) (by simp; omega) (by omega) (by rw [Abs.getD_append_right (by omega),show A.length + 1 - A.length = 1 by omega]; rfl) (by rw [Abs.getD_append_right (by omega),show A.length + 2 + k - A.length = k + 1 + 1 by omega]; simpa using hB)) ?_
  rintro r A' ⟨rfl,hT⟩
  obtain ⟨q1,q2⟩:=hT.far (by omega) (by omega)
  simp only [zW,zX,zD,builtinA,isLeaf,const1,ustrA,simprocAttr,ca107,ca108,ca109,cf,Tryz.results34,q2]
  exact q1
def SLok (G : Ghost) (w : World) (x : SL) : Prop:=∃ Y : Nat → Nat → Value,(∀ t ∈ x.ks,norm t.typ) ∧ ∀ i,i < x.ks.length → (∀ j,j < 6 → RV G w ((jE (x.ks.getD i sj0)).getD j .bot) (Y i j)) ∧ ∀ j,j < 6 → w.cell? ⟨x.b,x.off + (i * 6 + j),none⟩ = some (Y i j)
theorem jE_uniq {G : Ghost} {w : World} (s t : SigJ) (X : Nat → Value) (hs : norm s.typ) (ht : norm t.typ) (h : ∀ j,j < 6 → RV G w ((jE s).getD j .bot) (X j)) (h' : ∀ j,j < 6 → RV G w ((jE t).getD j .bot) (X j)) : s = t:=by
  have h0:=h 0 (by decide)
  have h1:=h 1 (by decide)
  have g0:=h' 0 (by decide)
  have g1:=h' 1 (by decide)
  have e:=uniq s.typ t.typ (fun j=>X (j + 2)) hs ht (fun j hj=>h (j + 2) (by omega)) (fun j hj=>h' (j + 2) (by omega))
  obtain ⟨k,n,ty⟩:=s
  obtain ⟨k',n',ty'⟩:=t
  simp only [jE,List.getD_cons_zero,List.getD_cons_succ] at h0 h1 g0 g1 e
  generalize X 0 = v0 at h0 g0
  generalize X 1 = v1 at h1 g1
  have e0 : k = k':=by cases h0; cases g0; rfl
  have e1 : n = n':=by cases h1; cases g1; rfl
  subst e0; subst e1; subst e
  rfl
theorem SLok.inj {G : Ghost} {w : World} {x y : SL} (hx : SLok G w x) (hy : SLok G w y) (h : x.idn = y.idn) : x.ks = y.ks:=by
  obtain ⟨X,n1,h1⟩:=hx
  obtain ⟨Y,n2,h2⟩:=hy
  simp only [SL.idn,Prod.mk.injEq] at h
  obtain ⟨e1,e2,e3⟩:=h
  apply List.ext_getElem e3
  intro i hi hi'
  obtain ⟨a1,a2⟩:=h1 i hi
  obtain ⟨b1,b2⟩:=h2 i hi'
  have xe : ∀ j,j < 6 → X i j = Y i j:=fun j hj=>by
    have c1:=a2 j hj
    have c2:=b2 j hj
    rw [e1,e2,c2] at c1
    injection c1 with c1
    exact c1.symm
  have g1 : x.ks.getD i sj0 = x.ks[i]:=by simp [List.getD,hi]
  have g2 : y.ks.getD i sj0 = y.ks[i]:=by simp [List.getD,hi']
  rw [g1] at a1
  rw [g2] at b1
  exact jE_uniq _ _ (X i) (n1 _ (List.getElem_mem hi)) (n2 _ (List.getElem_mem hi')) a1 fun j hj=>by rw [xe j hj]; exact b1 j hj
theorem annotS {G : Ghost} {w : World} (a : List SigI) (v : Value) (h : RV G w (.slice (sEs a)) v) : ∃ o : Option SL,(oK o).map erJ = a ∧ RV G w (oV o) v ∧ (∀ x ∈ oK o,norm x.typ ∧ ∀ z ∈ lists x.typ,LLok G w z) ∧ ∀ x,o = some x → SLok G w x:=by
  rcases Classical.em (a = []) with rfl | hne
  · exact ⟨none,rfl,h,by simp [oK],by simp⟩
  · generalize hr0 : sEs a = rows0 at h
    cases h with
    | slice0=>exact absurd (List.map_eq_nil_iff.1 hr0) hne
    | sliceE=>exact absurd (List.map_eq_nil_iff.1 hr0) hne
    | slice _ b off cap sz X hr hcap hx hI hz hh =>
      subst hr0
      have hla : 0 < a.length:=List.length_pos_iff.2 hne
      have hsz : sz = 6:=by
        have:=(hr (sE (a.getD 0 si0)) (List.mem_map.2 ⟨_,si_mem hla,rfl⟩)).1
        rw [← this,sE_length]
      subst hsz
      have hrow : ∀ i,i < a.length → R4 G w (a.getD i si0).typ (fun j=>X i (2 + j)):=fun i hi j hj=>by
        have:=hh i (2 + j) (by rw [sEs_length]; exact hi) (by omega)
        unfold Abs.rowAt at this
        rw [sEs_getD hi] at this
        have e : (sE (a.getD i si0)).getD (2 + j) .bot = (enc (a.getD i si0).typ).getD j .bot:=by rw [Nat.add_comm]; rfl
        rwa [e] at this
      have hex : ∀ i,∃ t : ITy,i < a.length → erase t = (a.getD i si0).typ ∧ norm t ∧ T4 G w t (fun j=>X i (2 + j)) ∧ ∀ z ∈ lists t,LLok G w z:=fun i=>by
        rcases Nat.lt_or_ge i a.length with hi | hi
        · obtain ⟨t,h1,h2,h3,h4⟩:=annot (G:=G) (w:=w) _ _ (hrow i hi)
          exact ⟨t,fun _=>⟨h1,h2,h3,h4⟩⟩
        · exact ⟨it0,fun h=>by omega⟩
      obtain ⟨T,hT⟩:=Classical.axiomOfChoice hex
      obtain ⟨L,hL⟩ : ∃ L,L = (List.range a.length).map fun i=>(⟨(a.getD i si0).kind,(a.getD i si0).name,T i⟩ : SigJ):=⟨_,rfl⟩
      have hlen : L.length = a.length:=by rw [hL]; simp
      have hget : ∀ i,i < a.length → L.getD i sj0 = ⟨(a.getD i si0).kind,(a.getD i si0).name,T i⟩:=fun i hi=>by rw [hL]; simp [List.getD,hi]
      have hcell : ∀ i j,i < a.length → j < 6 → RV G w ((jE (L.getD i sj0)).getD j .bot) (X i j):=fun i j hi hj=>by
        have h0:=hh i j (by rw [sEs_length]; exact hi) hj
        unfold Abs.rowAt at h0
        rw [sEs_getD hi] at h0
        rw [hget i hi]
        match j,hj with
        | 0,_=>exact h0
        | 1,_=>exact h0
        | j + 2,hj =>
          have:=(hT i hi).2.2.1 j (by omega)
          rw [show (fun j=>X i (2 + j)) j = X i (j + 2) by rw [Nat.add_comm]] at this
          exact this
      have hnorm : ∀ x ∈ L,norm x.typ ∧ ∀ z ∈ lists x.typ,LLok G w z:=fun x hx=>by
        rw [hL] at hx
        obtain ⟨i,hi,rfl⟩:=List.mem_map.1 hx
        have:=hT i (by simpa using hi)
        exact ⟨this.2.1,this.2.2.2⟩
      have hmap : L.map erJ = a:=by
        rw [hL]
        apply List.ext_getElem (by simp)
        intro i h1 h2
        have hi : i < a.length:=h2
        simp only [List.getElem_map,List.getElem_range,erJ,(hT i hi).1]
        simp [List.getD,hi]
      clear hL
      match L,hlen with
      | [],hlen=>simp at hlen; omega
      | u :: us,hlen =>
        have hk : (⟨b,off,u,us⟩ : SL).ks = u :: us:=rfl
        have hjl : (jEs (u :: us)).length = (sEs a).length:=by rw [jEs_length,sEs_length,hlen]
        refine ⟨some ⟨b,off,u,us⟩,hmap,?_,hnorm,fun x hx=>?_⟩
        · have := RV.islice (G := G) (w := w) (jEs (u :: us)) b off cap 6 X (fun r hr' => by
              obtain ⟨x,_,rfl⟩:=List.mem_map.1 hr'
              exact ⟨jE_length x,jE_leaf x⟩) (by rw [hjl]; exact hcap) (fun i j hi hj=>hx i j (by rw [← hjl]; exact hi) hj) (fun i j hi hj=>hI i j (by rw [← hjl]; exact hi) hj) (hz (by rw [sEs_length]; exact hla) (by decide)) (by decide) (by rw [hjl,sEs_length]; exact hla) (fun i j hi hj=>by
              unfold Go.Abs.rowAt
              rw [jEs_getD (by rw [jEs_length] at hi; exact hi)]
              exact hcell i j (by rw [jEs_length,hlen] at hi; exact hi) hj)
          rw [hjl] at this
          exact this
        · cases hx
          exact ⟨X,fun t ht=>(hnorm t ht).1,fun i hi=>⟨fun j hj=>hcell i j (by rw [hk,hlen] at hi; exact hi) hj,fun j hj=>hx i j (by rw [hk,hlen] at hi; rw [sEs_length]; exact hi) hj⟩⟩
theorem lens_items (a : List SigJ) : (a.flatMap fun x=>lists x.typ).length ≤ szIs (a.map erJ):=by
  induction a with
  | nil=>simp [szIs]
  | cons x a ih =>
    have h:=lists_len x.typ
    simp only [List.flatMap_cons,List.length_append,szIs,List.map_cons,List.sum_cons,szI,erJ] at ih ⊢
    have e : ((a.map erJ).map fun x=>x.name.length + sz x.typ).sum = szIs (a.map erJ):=rfl
    simp only [szIs,erJ] at e
    omega
theorem impl_SigSame (a b : List SigI) (ha : a.length + szIs a ≤ 1048576) (hb : b.length + szIs b ≤ 1048576) (A : List Box) : ACalls Tryz.prog 34 [.slice (sEs a),.slice (sEs b)] A (fun r A'=>r = .bool (sisB a b) ∧ A' = A):=by
  intro G w base xs hH hx
  obtain ⟨x,y,hxy,h1,h2⟩:=hx.two
  obtain ⟨o1,e1,r1,k1,l1⟩:=annotS a x h1
  obtain ⟨o2,e2,r2,k2,l2⟩:=annotS b y h2
  obtain ⟨s,hs1⟩ : ∃ s,s = oK o1:=⟨_,rfl⟩
  obtain ⟨t,ht1⟩ : ∃ t,t = oK o2:=⟨_,rfl⟩
  rw [← hs1] at e1 k1
  rw [← ht1] at e2 k2
  have hU : Univ ((s.flatMap fun x=>lists x.typ) ++ (t.flatMap fun x=>lists x.typ)):=by
    refine ⟨fun p hp q hq he=>?_,fun p hp u hu z hz=>?_⟩
    · have ok : ∀ p ∈ (s.flatMap fun x=>lists x.typ) ++ (t.flatMap fun x=>lists x.typ),LLok G w p:=fun p hp=>by
        rcases List.mem_append.1 hp with h | h
        · obtain ⟨x,hx,h⟩:=List.mem_flatMap.1 h; exact (k1 x hx).2 p h
        · obtain ⟨x,hx,h⟩:=List.mem_flatMap.1 h; exact (k2 x hx).2 p h
      exact (ok p hp).inj (ok q hq) he
    · rcases List.mem_append.1 hp with h | h
      · obtain ⟨x,hx,h⟩:=List.mem_flatMap.1 h
        exact List.mem_append_left _ (List.mem_flatMap.2 ⟨x,hx,lists_down x.typ p h u hu z hz⟩)
      · obtain ⟨x,hx,h⟩:=List.mem_flatMap.1 h
        exact List.mem_append_right _ (List.mem_flatMap.2 ⟨x,hx,lists_down x.typ p h u hu z hz⟩)
  have hN : ((s.flatMap fun x=>lists x.typ) ++ (t.flatMap fun x=>lists x.typ)).length ≤ 100000000:=by
    have q1:=lens_items s
    have q2:=lens_items t
    rw [e1] at q1
    rw [e2] at q2
    rw [List.length_append]; omega
  have hks : ∀ (l : List SigJ) (n : Nat),szIs (l.map erJ) ≤ n → ∀ x ∈ l,∀ z ∈ lists x.typ,z.ks.length ≤ n:=fun l n hn x hx z hz=>by
    have h1:=lists_ks z x.typ hz
    have h2:=szIs_mem (x:=erJ x) (l:=l.map erJ) (List.mem_map.2 ⟨x,hx,rfl⟩)
    have h3 : sz (erase x.typ) ≤ szI (erJ x):=by simp only [szI,erJ]; omega
    omega
  have hL : ∀ z ∈ (s.flatMap fun x=>lists x.typ) ++ (t.flatMap fun x=>lists x.typ),z.ks.length ≤ 1000000000:=fun z hz=>by
    rcases List.mem_append.1 hz with h | h
    · obtain ⟨x,hx,h⟩:=List.mem_flatMap.1 h
      have:=hks s 1048576 (by rw [e1]; omega) x hx z h; omega
    · obtain ⟨x,hx,h⟩:=List.mem_flatMap.1 h
      have:=hks t 1048576 (by rw [e2]; omega) x hx z h; omega
  have hs : ∀ x ∈ s,∀ z,below x.typ = some z → z ∈ (s.flatMap fun x=>lists x.typ) ++ (t.flatMap fun x=>lists x.typ):=fun x hx z hz=>List.mem_append_left _ (List.mem_flatMap.2 ⟨x,hx,by rw [lists_eq hz]; simp⟩)
  have ht : ∀ x ∈ t,∀ z,below x.typ = some z → z ∈ (s.flatMap fun x=>lists x.typ) ++ (t.flatMap fun x=>lists x.typ):=fun x hx z hz=>List.mem_append_right _ (List.mem_flatMap.2 ⟨x,hx,by rw [lists_eq hz]; simp⟩)
  have hsl : s.length = a.length:=by rw [← e1]; simp
  have key:=impl_SigSameI hU hN hL o1 o2 (fun p q hp hq he=>(l1 p hp).inj (l2 q hq) he) (by rw [← hs1]; exact hs) (by rw [← ht1]; exact ht) (by rw [← hs1]; omega) A
  rw [← hs1,← ht1,e1,e2] at key
  refine key G w base xs hH ?_
  rw [hxy]
  exact .cons r1 (.cons r2 .nil)
end Go.Proofs.YtnjdbgiincliaaaGreat
