/- SameA2, SamePX, SameCX. -/
import Derived.Test.YtnjdbgiincliaaaGreatX06
import Derived.Test.YtnjdbgiincliaaaGreatAbsW3
/- Where the parts of a type lie; the program's TypeSame. -/
set_option linter.unusedVariables false
set_option linter.unusedSimpArgs false
namespace Go.Proofs.YtnjdbgiincliaaaGreat
open Go.Abs
mutual
def lists : ITy → List LL
  | .mk _ _ _ _ _ []=>[]
  | .mk _ _ _ b o (t :: ks)=>⟨b,o,t,ks⟩ :: (lists t ++ listss ks)
def listss : List ITy → List LL
  | []=>[]
  | t :: l=>lists t ++ listss l
end
mutual
def norm : ITy → Prop
  | .mk _ _ _ b o []=>b = 0 ∧ o = 0
  | .mk _ _ _ _ _ (t :: ks)=>norm t ∧ norms ks
def norms : List ITy → Prop
  | []=>True
  | t :: l=>norm t ∧ norms l
end
theorem norms_all : ∀ {l : List ITy},norms l ↔ ∀ t ∈ l,norm t
  | []=>by simp [norms]
  | t :: l=>by rw [norms,norms_all]; simp
theorem listss_mem {x : LL} : ∀ {l : List ITy},x ∈ listss l ↔ ∃ t ∈ l,x ∈ lists t
  | []=>by simp [listss]
  | t :: l=>by rw [listss,List.mem_append,listss_mem]; simp
theorem lists_eq {t : ITy} {x : LL} (h : below t = some x) : lists t = x :: listss x.ks:=by
  obtain ⟨k,m,n,b,o,ks⟩:=t
  cases ks with
  | nil=>simp [below] at h
  | cons u ks=>simp [below] at h; subst h; simp [lists,LL.ks,listss]
theorem lists_down (t : ITy) : ∀ x ∈ lists t,∀ u ∈ x.ks,∀ y,below u = some y → y ∈ lists t:=by
  induction t using ITy.ind with
  | h k m n b o ks ih =>
    cases ks with
    | nil=>simp [lists]
    | cons t ks =>
      intro x hx u hu y hy
      have he:=lists_eq (t:=.mk k m n b o (t :: ks)) (x:=⟨b,o,t,ks⟩) rfl
      rw [he] at hx ⊢
      have hsub : ∀ v ∈ (⟨b,o,t,ks⟩ : LL).ks,∀ z,z ∈ lists v → z ∈ listss (⟨b,o,t,ks⟩ : LL).ks:=fun v hv z hz=>listss_mem.2 ⟨v,hv,hz⟩
      rcases List.mem_cons.1 hx with rfl | hx
      · refine List.mem_cons_of_mem _ (hsub u hu y ?_)
        rw [lists_eq hy]; simp
      · obtain ⟨v,hv,hxv⟩:=listss_mem.1 hx
        exact List.mem_cons_of_mem _ (hsub v hv y (ih v hv x hxv u hu y hy))
mutual
theorem lists_len : ∀ t : ITy,(lists t).length ≤ sz (erase t)
  | .mk k m n b o []=>by simp [lists]
  | .mk k m n b o (t :: ks)=>by
    have h1:=lists_len t
    have h2:=listss_len ks
    simp only [lists,erase,erases,sz,szs,List.length_cons,List.length_append]
    omega
theorem listss_len : ∀ l : List ITy,(listss l).length ≤ szs (erases l)
  | []=>by simp [listss]
  | t :: l=>by
    have h1:=lists_len t
    have h2:=listss_len l
    simp only [listss,erases,szs,List.length_append]
    omega
end
theorem gd {α : Type} (l : List α) (i : Nat) (d : α) (h : i < l.length) : l.getD i d = l[i]:=by simp [List.getD,h]
theorem islice_inv {G : Ghost} {w : World} {b off : Nat} {rows : List (List AV)} {x : Value} (h : RV G w (.islice b off rows) x) : ∃ cap sz,∃ X : Nat → Nat → Value,x = .slice (some ⟨b,off,none⟩) rows.length cap ∧ (∀ r ∈ rows,r.length = sz) ∧
    (∀ i j,i < rows.length → j < sz → w.cell? ⟨b,off + (i * sz + j),none⟩ = some (X i j)) ∧ ∀ i j,i < rows.length → j < sz → RV G w (Go.Abs.rowAt rows i j) (X i j):=by
  cases h with
  | islice _ _ _ cap sz X hr hcap hx hI hz hsz hl hh=>exact ⟨cap,sz,X,rfl,fun r hr'=>(hr r hr').1,hx,hh⟩
mutual
theorem lists_ks (x : LL) : ∀ t : ITy,x ∈ lists t → x.ks.length ≤ sz (erase t)
  | .mk k m n b o []=>by simp [lists]
  | .mk k m n b o (t :: ks)=>fun h=>by
    simp only [lists,List.mem_cons,List.mem_append] at h
    simp only [erase,erases,sz,szs]
    rcases h with rfl | h | h
    · have h1 : (erases ks).length = ks.length:=by rw [erases_map,List.length_map]
      show (t :: ks).length ≤ _
      simp only [List.length_cons]; omega
    · have:=lists_ks x t h; omega
    · have:=listss_ks x ks h; omega
theorem listss_ks (x : LL) : ∀ l : List ITy,x ∈ listss l → x.ks.length ≤ szs (erases l)
  | []=>by simp [listss]
  | t :: l=>fun h=>by
    simp only [listss,List.mem_append] at h
    simp only [erases,szs]
    rcases h with h | h
    · have:=lists_ks x t h; omega
    · have:=listss_ks x l h; omega
end
def R4 (G : Ghost) (w : World) (τ : Ty) (X : Nat → Value) : Prop:=∀ j,j < 4 → RV G w ((enc τ).getD j .bot) (X j)
def T4 (G : Ghost) (w : World) (t : ITy) (X : Nat → Value) : Prop:=∀ j,j < 4 → RV G w ((encI t).getD j .bot) (X j)
theorem uniq {G : Ghost} {w : World} (s : ITy) : ∀ (t : ITy) (X : Nat → Value),norm s → norm t → T4 G w s X → T4 G w t X → s = t:=by
  induction s using ITy.ind with
  | h k m n b o ks ih =>
    rintro ⟨k',m',n',b',o',ks'⟩ X hs ht h h'
    have h0:=h 0 (by decide); have h1:=h 1 (by decide); have h2:=h 2 (by decide); have h3:=h 3 (by decide)
    have g0:=h' 0 (by decide); have g1:=h' 1 (by decide); have g2:=h' 2 (by decide); have g3:=h' 3 (by decide)
    rw [encI_eq] at h0 h1 h2 h3 g0 g1 g2 g3
    simp only [List.getD_cons_zero,List.getD_cons_succ,node] at h0 h1 h2 h3 g0 g1 g2 g3
    generalize X 0 = v0 at h0 g0
    generalize X 1 = v1 at h1 g1
    generalize X 2 = v2 at h2 g2
    generalize X 3 = v3 at h3 g3
    have e0 : k = k':=by cases h0; cases g0; rfl
    have e1 : m = m':=by
      cases h1
      generalize hq : (⟨m.toArray⟩ : ByteArray) = q at g1
      cases g1
      injection hq with hq
      have:=congrArg Array.toList hq
      simpa using this
    have e2 : n = n':=by
      cases h2
      generalize hq : (⟨n.toArray⟩ : ByteArray) = q at g2
      cases g2
      injection hq with hq
      have:=congrArg Array.toList hq
      simpa using this
    subst e0; subst e1; subst e2
    have lens : ∀ (a : Option Addr) (l c : Nat),v3 = .slice a l c → (ks = [] → l = 0) ∧ (ks' = [] → l = 0) ∧ (ks ≠ [] → l = ks.length) ∧ (ks' ≠ [] → l = ks'.length):=by
      intro a l c hv
      subst hv
      refine ⟨fun e=>?_,fun e=>?_,fun e=>?_,fun e=>?_⟩
      · subst e; simp [kidsV,below] at h3; cases h3 <;> rfl
      · subst e; simp [kidsV,below] at g3; cases g3 <;> rfl
      · cases ks with
        | nil=>exact absurd rfl e
        | cons t ks=>simp [kidsV,below] at h3; cases h3; simp [LL.ks,encIs_length]
      · cases ks' with
        | nil=>exact absurd rfl e
        | cons t ks'=>simp [kidsV,below] at g3; cases g3; simp [LL.ks,encIs_length]
    have isS : ∃ a l c,v3 = .slice a l c:=by
      cases ks with
      | nil=>simp [kidsV,below] at h3; cases h3 <;> exact ⟨_,_,_,rfl⟩
      | cons t ks=>simp [kidsV,below] at h3; cases h3; exact ⟨_,_,_,rfl⟩
    obtain ⟨a,l,c,hv⟩:=isS
    obtain ⟨l1,l2,l3,l4⟩:=lens a l c hv
    cases ks with
    | nil =>
      cases ks' with
      | nil =>
        simp only [norm] at hs ht
        rw [hs.1,hs.2,ht.1,ht.2]
      | cons t ks' =>
        have a1:=l1 rfl
        have a2:=l4 (by simp)
        simp at a2; omega
    | cons t ks =>
      cases ks' with
      | nil =>
        have a1:=l2 rfl
        have a2:=l3 (by simp)
        simp at a2; omega
      | cons t' ks' =>
        have a1:=l3 (by simp)
        have a2:=l4 (by simp)
        simp only [kidsV,below] at h3 g3
        obtain ⟨cap,sz,X1,q1,r1,x1,z1⟩:=islice_inv h3
        obtain ⟨cap',sz',X2,q2,r2,x2,z2⟩:=islice_inv g3
        rw [q1] at q2
        simp only [Value.slice.injEq,Option.some.injEq,Addr.mk.injEq] at q2
        have hb : b = b':=q2.1.1
        have ho : o = o':=q2.1.2.1
        have hlen : (t :: ks).length = (t' :: ks').length:=by
          have:=q2.2.1
          rw [encIs_length,encIs_length] at this
          exact this
        subst hb; subst ho
        have n1 : (encIs (LL.ks ⟨b,o,t,ks⟩)).length = (t :: ks).length:=encIs_length _
        have n2 : (encIs (LL.ks ⟨b,o,t',ks'⟩)).length = (t' :: ks').length:=encIs_length _
        have e1 : sz = 4:=by
          have:=r1 (encI t) (by simp [LL.ks,encIs])
          rw [encI_length] at this; exact this.symm
        have e2 : sz' = 4:=by
          have:=r2 (encI t') (by simp [LL.ks,encIs])
          rw [encI_length] at this; exact this.symm
        subst e1; subst e2
        have key : (t :: ks) = (t' :: ks'):=by
          apply List.ext_getElem hlen
          intro i hi hi'
          have xe : ∀ j,j < 4 → X1 i j = X2 i j:=fun j hj=>by
            have:=(x1 i j (by omega) hj).symm.trans (x2 i j (by omega) hj)
            injection this
          have t1 : T4 G w ((t :: ks)[i]) (X1 i):=fun j hj=>by
            have:=z1 i j (by omega) hj
            unfold Go.Abs.rowAt at this
            rw [encIs_getD (show i < (LL.ks ⟨b,o,t,ks⟩).length from hi),gd _ _ _ (show i < (LL.ks ⟨b,o,t,ks⟩).length from hi)] at this
            exact this
          have t2 : T4 G w ((t' :: ks')[i]) (X1 i):=fun j hj=>by
            have:=z2 i j (by omega) hj
            unfold Go.Abs.rowAt at this
            rw [encIs_getD (show i < (LL.ks ⟨b,o,t',ks'⟩).length from hi'),gd _ _ _ (show i < (LL.ks ⟨b,o,t',ks'⟩).length from hi'),← xe j hj] at this
            exact this
          simp only [norm] at hs ht
          have ns : ∀ u ∈ (t :: ks),norm u:=fun u hu=>by
            rcases List.mem_cons.1 hu with rfl | hu
            · exact hs.1
            · exact norms_all.1 hs.2 u hu
          have nt : ∀ u ∈ (t' :: ks'),norm u:=fun u hu=>by
            rcases List.mem_cons.1 hu with rfl | hu
            · exact ht.1
            · exact norms_all.1 ht.2 u hu
          exact ih _ (List.getElem_mem hi) _ _ (ns _ (List.getElem_mem hi)) (nt _ (List.getElem_mem hi')) t1 t2
        rw [key]
def LLok (G : Ghost) (w : World) (x : LL) : Prop:=∃ Y : Nat → Nat → Value,(∀ t ∈ x.ks,norm t) ∧ ∀ i,i < x.ks.length → T4 G w (x.ks.getD i it0) (Y i) ∧ ∀ j,j < 4 → w.cell? ⟨x.b,x.off + (i * 4 + j),none⟩ = some (Y i j)
theorem LLok.inj {G : Ghost} {w : World} {x y : LL} (hx : LLok G w x) (hy : LLok G w y) (h : x.idn = y.idn) : x = y:=by
  obtain ⟨X,n1,h1⟩:=hx
  obtain ⟨Y,n2,h2⟩:=hy
  simp only [LL.idn,Prod.mk.injEq] at h
  obtain ⟨e1,e2,e3⟩:=h
  have key : x.ks = y.ks:=by
    apply List.ext_getElem e3
    intro i hi hi'
    obtain ⟨a1,a2⟩:=h1 i hi
    obtain ⟨b1,b2⟩:=h2 i hi'
    have xe : ∀ j,j < 4 → X i j = Y i j:=fun j hj=>by
      have c1:=a2 j hj
      have c2:=b2 j hj
      rw [e1,e2,c2] at c1
      injection c1 with c1
      exact c1.symm
    have g1 : x.ks.getD i it0 = x.ks[i]:=by simp [List.getD,hi]
    have g2 : y.ks.getD i it0 = y.ks[i]:=by simp [List.getD,hi']
    rw [g1] at a1
    rw [g2] at b1
    exact uniq _ _ (X i) (n1 _ (List.getElem_mem hi)) (n2 _ (List.getElem_mem hi')) a1 fun j hj=>by rw [xe j hj]; exact b1 j hj
  obtain ⟨b,o,h,t⟩:=x
  obtain ⟨b',o',h',t'⟩:=y
  simp only [LL.ks,List.cons.injEq] at key e1 e2
  obtain ⟨rfl,rfl⟩:=key
  subst e1; subst e2
  rfl
theorem annot {G : Ghost} {w : World} (τ : Ty) : ∀ (X : Nat → Value),R4 G w τ X → ∃ t,erase t = τ ∧ norm t ∧ T4 G w t X ∧ ∀ x ∈ lists t,LLok G w x:=by
  induction τ using Ty.ind with
  | h k m n ks ih =>
    intro X hX
    have h0:=hX 0 (by decide); have h1:=hX 1 (by decide); have h2:=hX 2 (by decide); have h3:=hX 3 (by decide)
    rw [enc] at h0 h1 h2 h3
    simp only [List.getD_cons_zero,List.getD_cons_succ] at h0 h1 h2 h3
    cases ks with
    | nil =>
      refine ⟨.mk k m n 0 0 [],by simp [erase,erases],⟨rfl,rfl⟩,fun j hj=>?_,by simp [lists]⟩
      rw [encI]
      match j,hj with
      | 0,_=>exact h0
      | 1,_=>exact h1
      | 2,_=>exact h2
      | 3,_=>simpa [encs] using h3
    | cons t0 ks =>
      generalize hv : X 3 = v3 at h3
      generalize hL : encs (t0 :: ks) = L at h3
      have hLl : L.length = (t0 :: ks).length:=by rw [← hL,encs_length]
      cases h3 with
      | slice0=>simp at hLl
      | sliceE=>simp at hLl
      | slice _ b off cap sz Y hr hcap hx hI hz hh =>
        have hl : 0 < L.length:=by rw [hLl]; simp
        have r1 : sz = 4:=by
          have:=(hr _ (Abs.getD_mem (d:=[]) hl)).1
          rw [← hL,encs_getD (by simp),enc_length] at this
          omega
        subst r1
        have each : ∀ i,i < (t0 :: ks).length → ∃ t,erase t = (t0 :: ks).getD i ty0 ∧ norm t ∧ T4 G w t (Y i) ∧ ∀ x ∈ lists t,LLok G w x:=fun i hi=>by
          refine ih _ (getD_mem hi) (Y i) fun j hj=>?_
          have:=hh i j (by omega) hj
          unfold Go.Abs.rowAt at this
          rwa [← hL,encs_getD hi] at this
        obtain ⟨ts,hts,hq⟩:=list_of it0 each
        match ts,hts,hq with
        | u :: us,hts,hq =>
          have er : erases (u :: us) = t0 :: ks:=by
            rw [erases_map]
            apply List.ext_getElem (by simpa using hts)
            intro i hi hi'
            have:=(hq i hi').1
            have hil : i < (u :: us).length:=by simpa using hi
            rw [gd _ _ _ hil,gd _ _ _ hi'] at this
            rw [List.getElem_map]
            exact this
          have hxk : (⟨b,off,u,us⟩ : LL).ks = u :: us:=rfl
          have hok : LLok G w ⟨b,off,u,us⟩:=by
            refine ⟨Y,fun t ht=>?_,fun i hi=>?_⟩
            · rw [hxk] at ht
              obtain ⟨i,hi,rfl⟩:=List.mem_iff_getElem.1 ht
              have:=(hq i (by omega)).2.1
              rw [gd _ _ _ hi] at this
              exact this
            · rw [hxk] at hi ⊢
              exact ⟨(hq i (by omega)).2.2.1,fun j hj=>hx i j (by omega) hj⟩
          refine ⟨.mk k m n b off (u :: us),by rw [erase,er],?_,fun j hj=>?_,fun x hx'=>?_⟩
          · have hn : ∀ t ∈ (u :: us),norm t:=hok.choose_spec.1
            simp only [norm]
            exact ⟨hn u (by simp),norms_all.2 fun t ht=>hn t (by simp [ht])⟩
          · rw [encI]
            match j,hj with
            | 0,_=>exact h0
            | 1,_=>exact h1
            | 2,_=>exact h2
            | 3,_ =>
              show RV G w (.islice b off (encIs (u :: us))) (X 3)
              rw [hv]
              have hil : (encIs (u :: us)).length = L.length:=by rw [encIs_length]; omega
              have:=RV.islice (G:=G) (w:=w) (encIs (u :: us)) b off cap 4 Y (fun r hr'=>by
                  rw [encIs_map] at hr'
                  obtain ⟨t,_,rfl⟩:=List.mem_map.1 hr'
                  exact ⟨encI_length t,encI_leaf t⟩) (by omega) (fun i j hi hj=>hx i j (by omega) hj) (fun i j hi hj=>hI i j (by omega) hj) (hz hl (by decide)) (by decide) (by omega) (fun i j hi hj=>by
                  unfold Go.Abs.rowAt
                  rw [encIs_getD (by rw [encIs_length] at hi; exact hi)]
                  exact (hq i (by rw [encIs_length] at hi; omega)).2.2.1 j hj)
              rw [hil] at this
              exact this
          · rw [lists_eq (t:=.mk k m n b off (u :: us)) (x:=⟨b,off,u,us⟩) rfl] at hx'
            rcases List.mem_cons.1 hx' with rfl | hx'
            · exact hok
            · obtain ⟨t,ht,hxt⟩:=listss_mem.1 hx'
              rw [hxk] at ht
              obtain ⟨i,hi,rfl⟩:=List.mem_iff_getElem.1 ht
              have:=(hq i (by omega)).2.2.2 x
              have e : (u :: us).getD i it0 = (u :: us)[i]:=gd _ _ _ hi
              rw [e] at this
              exact this hxt
        | [],hts,_=>simp at hts
set_option maxRecDepth 100000 in
theorem tc_new (A : List Box) : ACalls Tryz.prog 108 [] A (fun r A'=>r = .agg [tF1,tF2,.map (A.length + 1)] ∧ A' = A ++ [.cells [tF1,tF2,.map (A.length + 1)],.mapb []]):=by
  simp only [tF1,tF2]
  refine acalls_enterK (cf:=cf 7 [0,1,2]) foll Tryz.func108 Tryz.ntmps108 (by simp [cf]) ?_
  simp only [Tryz.f108,EnterK_some,zW,zX,zD,builtinA,isLeaf,const1,ustrA,simprocAttr,ti165,ti167,cf,Tryz.results108]
end Go.Proofs.YtnjdbgiincliaaaGreat
/- Expressions whose lists of operands have a place, and the classes of such lists. -/
set_option linter.unusedVariables false
set_option linter.unusedSimpArgs false
namespace Go.Proofs.YtnjdbgiincliaaaGreat
noncomputable instance decEx : DecidableEq Ex:=fun a b=>Classical.propDecidable (a = b)
abbrev TT:=ITy
def tNode:=node
def tKids:=kidsV
def tErase:=erase
theorem tEnc_eq (t : TT) : encI t = [Go.Abs.AV.int .i64 (tNode t).1,.str (tNode t).2.1,.str (tNode t).2.2.1,tKids t]:=encI_eq t
theorem tKids_leaf (t : TT) : Go.Abs.isLeaf (tKids t) = true:=by unfold tKids kidsV; split <;> rfl
end Go.Proofs.YtnjdbgiincliaaaGreat
namespace Go.Proofs.YtnjdbgiincliaaaGreat.SX
open Go.Abs
inductive IEx where
  | mk (k q : Int) (m n : List UInt8) (a : TT) (b off : Nat) (kids : List IEx)
theorem IEx.ind {M : IEx → Prop} (h : ∀ k q m n a b o ks,(∀ t ∈ ks,M t) → M (.mk k q m n a b o ks)) : ∀ t,M t
  | .mk k q m n a b o ks=>h k q m n a b o ks fun t ht=>IEx.ind h t
termination_by t=>SizeOf.sizeOf t
decreasing_by
  have:=List.sizeOf_lt_of_mem ht
  simp only [IEx.mk.sizeOf_spec]
  omega
mutual
def encI : IEx → List AV
  | .mk k q m n a b o []=>[.int .i64 k,.int .i64 q,.str m,.str n,.int .i64 (tNode a).1,.str (tNode a).2.1,.str (tNode a).2.2.1,tKids a,.slice []]
  | .mk k q m n a b o (t :: ks)=>[.int .i64 k,.int .i64 q,.str m,.str n,.int .i64 (tNode a).1,.str (tNode a).2.1,.str (tNode a).2.2.1,tKids a,.islice b o (encI t :: encIs ks)]
def encIs : List IEx → List (List AV)
  | []=>[]
  | t :: l=>encI t :: encIs l
end
mutual
def erase : IEx → Ex
  | .mk k q m n a _ _ ks=>.mk k q m n (tErase a) (erases ks)
def erases : List IEx → List Ex
  | []=>[]
  | t :: l=>erase t :: erases l
end
mutual
def isz : IEx → Nat
  | .mk _ _ _ _ _ _ _ ks=>1 + iszs ks
def iszs : List IEx → Nat
  | []=>0
  | t :: l=>isz t + iszs l
end
theorem encIs_map : ∀ l,encIs l = l.map encI
  | []=>rfl
  | t :: l=>by rw [encIs,encIs_map l]; rfl
theorem encIs_length (l : List IEx) : (encIs l).length = l.length:=by rw [encIs_map]; simp
theorem erases_map : ∀ l,erases l = l.map erase
  | []=>rfl
  | t :: l=>by rw [erases,erases_map l]; rfl
def it0 : IEx:=.mk 0 0 [] [] (Go.Proofs.YtnjdbgiincliaaaGreat.it0) 0 0 []
theorem encIs_getD {l : List IEx} {i : Nat} (h : i < l.length) : (encIs l).getD i [] = encI (l.getD i it0):=by
  rw [encIs_map]; simp [List.getD,h]
theorem encI_length (t : IEx) : (encI t).length = 9:=by
  obtain ⟨k,q,m,n,a,b,o,ks⟩:=t
  cases ks <;> rw [encI] <;> rfl
theorem encI_leaf (t : IEx) : ∀ v ∈ encI t,isLeaf v = true:=by
  obtain ⟨k,q,m,n,a,b,o,ks⟩:=t
  have:=tKids_leaf a
  cases ks <;> rw [encI] <;> simp [isLeaf] <;> exact this
theorem iszs_mem {t : IEx} {l : List IEx} (h : t ∈ l) : isz t ≤ iszs l:=by
  induction l with
  | nil=>simp at h
  | cons u l ih =>
    rw [iszs]
    rcases List.mem_cons.1 h with rfl | h
    · omega
    · have:=ih h; omega
structure LL where
  b : Nat
  off : Nat
  hd : IEx
  tl : List IEx
def LL.ks (x : LL) : List IEx:=x.hd :: x.tl
def LL.idn (x : LL) : Nat × Nat × Nat:=(x.b,x.off,x.ks.length)
def LL.sz (x : LL) : Nat:=iszs x.ks
def below : IEx → Option LL
  | .mk _ _ _ _ _ _ _ []=>none
  | .mk _ _ _ _ _ b o (t :: ks)=>some ⟨b,o,t,ks⟩
def node : IEx → (Int × Int × List UInt8 × List UInt8 × Ty) × Nat
  | .mk k q m n a _ _ ks=>((k,q,m,n,tErase a),ks.length)
structure Univ (U : List LL) : Prop where
  inj : ∀ x ∈ U,∀ y ∈ U,x.idn = y.idn → x = y
  down : ∀ x ∈ U,∀ t ∈ x.ks,∀ y,below t = some y → y ∈ U
inductive Eqv (J : List (LL × LL)) : LL → LL → Prop
  | base {x y : LL} : (x,y) ∈ J → Eqv J x y
  | refl (x : LL) : Eqv J x x
  | symm {x y : LL} : Eqv J x y → Eqv J y x
  | trans {x y z : LL} : Eqv J x y → Eqv J y z → Eqv J x z
theorem Eqv.mono {J J' : List (LL × LL)} (hs : ∀ p ∈ J,p ∈ J') {x y : LL} (h : Eqv J x y) : Eqv J' x y:=by
  induction h with
  | base h=>exact .base (hs _ h)
  | refl x=>exact .refl x
  | symm _ ih=>exact .symm ih
  | trans _ _ ih1 ih2=>exact .trans ih1 ih2
def Near (R : LL → LL → Prop) (s t : IEx) : Prop :=
  node s = node t ∧ ((below s = none ∧ below t = none) ∨ ∃ x y,below s = some x ∧ below t = some y ∧ R x y)
def Bis (R : LL → LL → Prop) (x y : LL) : Prop:=x.ks.length = y.ks.length ∧ ∀ i,i < x.ks.length → Near R (x.ks.getD i it0) (y.ks.getD i it0)
theorem Near.refl {R : LL → LL → Prop} (hr : ∀ x,R x x) (s : IEx) : Near R s s:=by
  refine ⟨rfl,?_⟩
  cases h : below s with
  | none=>exact .inl ⟨rfl,rfl⟩
  | some x=>exact .inr ⟨x,x,rfl,rfl,hr x⟩
theorem Near.symm {R : LL → LL → Prop} (hs : ∀ x y,R x y → R y x) {s t : IEx} (h : Near R s t) : Near R t s:=by
  refine ⟨h.1.symm,?_⟩
  rcases h.2 with ⟨h1,h2⟩ | ⟨x,y,h1,h2,h3⟩
  · exact .inl ⟨h2,h1⟩
  · exact .inr ⟨y,x,h2,h1,hs _ _ h3⟩
theorem Near.trans {R : LL → LL → Prop} (ht : ∀ x y z,R x y → R y z → R x z) {s t u : IEx} (h : Near R s t) (k : Near R t u) : Near R s u:=by
  refine ⟨h.1.trans k.1,?_⟩
  rcases h.2 with ⟨h1,h2⟩ | ⟨x,y,h1,h2,h3⟩
  · rcases k.2 with ⟨k1,k2⟩ | ⟨x',y',k1,k2,k3⟩
    · exact .inl ⟨h1,k2⟩
    · rw [h2] at k1; cases k1
  · rcases k.2 with ⟨k1,k2⟩ | ⟨x',y',k1,k2,k3⟩
    · rw [h2] at k1; cases k1
    · rw [h2] at k1; cases k1
      exact .inr ⟨x,y',h1,k2,ht _ _ _ h3 k3⟩
theorem bis_all {J : List (LL × LL)} (hj : ∀ p ∈ J,Bis (Eqv J) p.1 p.2) {x y : LL} (h : Eqv J x y) : Bis (Eqv J) x y:=by
  induction h with
  | base h=>exact hj _ h
  | refl x=>exact ⟨rfl,fun i _=>Near.refl (fun x=>.refl x) _⟩
  | symm _ ih=>exact ⟨ih.1.symm,fun i hi=>(ih.2 i (by rw [ih.1]; exact hi)).symm fun _ _ h=>.symm h⟩
  | trans _ _ ih1 ih2=>exact ⟨ih1.1.trans ih2.1,fun i hi=>(ih1.2 i hi).trans (fun _ _ _ h k=>.trans h k) (ih2.2 i (by rw [← ih1.1]; exact hi))⟩
theorem below_ks {t : IEx} {x : LL} (h : below t = some x) : ∃ k q m n a,t = .mk k q m n a x.b x.off x.ks:=by
  obtain ⟨k,q,m,n,a,b,o,ks⟩:=t
  cases ks with
  | nil=>simp [below] at h
  | cons t ks=>simp [below] at h; subst h; exact ⟨k,q,m,n,a,rfl⟩
theorem below_none {t : IEx} (h : below t = none) : ∃ k q m n a b o,t = .mk k q m n a b o []:=by
  obtain ⟨k,q,m,n,a,b,o,ks⟩:=t
  cases ks with
  | nil=>exact ⟨k,q,m,n,a,b,o,rfl⟩
  | cons t ks=>simp [below] at h
theorem erases_ext {l l' : List IEx} (hl : l.length = l'.length) (h : ∀ i,i < l.length → erase (l.getD i it0) = erase (l'.getD i it0)) : erases l = erases l':=by
  induction l generalizing l' with
  | nil=>cases l' with
    | nil=>rfl
    | cons=>simp at hl
  | cons t l ih=>cases l' with
    | nil=>simp at hl
    | cons t' l' =>
      rw [erases,erases]
      have h0:=h 0 (by simp)
      simp only [List.getD_cons_zero] at h0
      rw [h0,ih (by simpa using hl) fun i hi=>by have:=h (i + 1) (by simpa using hi); simpa using this]
theorem near_erase {R : LL → LL → Prop} {s t : IEx} (h : Near R s t) (hr : ∀ x y,below s = some x → below t = some y → R x y → erases x.ks = erases y.ks) : erase s = erase t:=by
  obtain ⟨h1,h2⟩:=h
  rcases h2 with ⟨ha,hb⟩ | ⟨x,y,ha,hb,hc⟩
  · obtain ⟨k,q,m,n,a,b1,o1,rfl⟩:=below_none ha
    obtain ⟨k',q',m',n',a',b2,o2,rfl⟩:=below_none hb
    simp only [node,Prod.mk.injEq] at h1
    obtain ⟨⟨rfl,rfl,rfl,rfl,h2⟩,_⟩:=h1
    rw [erase,erase,h2]
  · have he:=hr x y ha hb hc
    obtain ⟨k,q,m,n,a,rfl⟩:=below_ks ha
    obtain ⟨k',q',m',n',a',rfl⟩:=below_ks hb
    simp only [node,Prod.mk.injEq] at h1
    obtain ⟨⟨rfl,rfl,rfl,rfl,h2⟩,_⟩:=h1
    rw [erase,erase,he,h2]
theorem same_all {J : List (LL × LL)} (hj : ∀ p ∈ J,Bis (Eqv J) p.1 p.2) : ∀ (n : Nat) (x y : LL),x.sz ≤ n → Eqv J x y → erases x.ks = erases y.ks:=by
  intro n
  induction n with
  | zero =>
    intro x y hn
    exfalso
    have : 1 ≤ x.sz:=by
      unfold LL.sz LL.ks
      rw [iszs]
      obtain ⟨k,q,m,n,a,b,o,ks⟩:=x.hd
      rw [isz]; omega
    omega
  | succ n ih =>
    intro x y hn h
    obtain ⟨h1,h2⟩:=bis_all hj h
    refine erases_ext h1 fun i hi=>near_erase (h2 i hi) fun u v hu hv hr=>ih u v ?_ hr
    have hm : x.ks.getD i it0 ∈ x.ks:=Abs.getD_mem hi
    have:=iszs_mem hm
    obtain ⟨k,q,m,nn,a,he⟩:=below_ks hu
    rw [he,isz] at this
    unfold LL.sz at hn ⊢
    omega
theorem nodup_le {α : Type} [DecidableEq α] : ∀ (l U : List α),l.Nodup → (∀ x ∈ l,x ∈ U) → l.length ≤ U.length
  | [],U,_,_=>by simp
  | x :: l,U,hn,hs=>by
    have hx:=hs x (by simp)
    obtain ⟨h1,h2⟩:=List.nodup_cons.1 hn
    have:=nodup_le l (U.erase x) h2 fun y hy=>by
      have hne : y ≠ x:=fun e=>h1 (e ▸ hy)
      exact (List.mem_erase_of_ne hne).2 (hs y (by simp [hy]))
    rw [List.length_erase_of_mem hx] at this
    have : 0 < U.length:=List.length_pos_of_mem hx
    simp only [List.length_cons]
    omega
end Go.Proofs.YtnjdbgiincliaaaGreat.SX
/- The classes of lists, in the program's map. -/
set_option linter.unusedVariables false
set_option linter.unusedSimpArgs false
namespace Go.Proofs.YtnjdbgiincliaaaGreat.SX
open Go.Abs
def kvC (x : LL) : List AV:=[.ivptr x.b x.off (encI x.hd),.int .i64 (x.ks.length : Nat)]
def esOf (m : List (LL × LL)) : List (AV × AV):=m.map fun p=>(.agg (kvC p.1),.agg (kvC p.2))
abbrev KK : List (Nat × TK):=[(0,.ptr 39),(1,.int .i64)]
def fnd (l : LL) : List (LL × LL) → Nat → Option (Nat × LL)
  | [],_=>none
  | p :: m,i=>if l.idn = p.1.idn then some (i,p.2) else fnd l m (i + 1)
theorem kv_eq (x y : LL) : eqK KK (kvC x) (kvC y) = some (decide (x.idn = y.idn)):=by
  have : decide (x.idn = y.idn) = (decide (x.b = y.b ∧ x.off = y.off) && (decide (((x.ks.length : Nat) : Int) = ((y.ks.length : Nat) : Int)) && true)):=by
    rw [Bool.eq_iff_iff]
    simp [LL.idn,Prod.mk.injEq]
    omega
  rw [this]
  simp [KK,eqK,kvC,c1A]
theorem find_es (l : LL) : ∀ (m : List (LL × LL)) (n : Nat),findA KK (kvC l) (esOf m) n = some ((fnd l m n).map fun p=>(p.1,.agg (kvC p.2)))
  | [],n=>rfl
  | p :: m,n=>by
    have ih:=find_es l m (n + 1)
    simp only [esOf,List.map_cons,findA,fnd]
    rw [if_pos (show (kvC p.1).length = (kvC l).length from rfl),kv_eq]
    by_cases h : l.idn = p.1.idn
    · simp [h]
    · simp only [decide_eq_false h,if_neg h]
      exact ih
theorem fnd_some {l : LL} : ∀ {m : List (LL × LL)} {n j : Nat} {v : LL},fnd l m n = some (j,v) → n ≤ j ∧ j - n < m.length ∧ (m.getD (j - n) (l,l)).1.idn = l.idn ∧ (m.getD (j - n) (l,l)).2 = v
  | [],n,j,v,h=>by simp [fnd] at h
  | p :: m,n,j,v,h=>by
    simp only [fnd] at h
    split at h
    · rename_i he
      injection h with h; injection h with h1 h2
      subst h1; subst h2
      simp [he]
    · obtain ⟨h1,h2,h3,h4⟩:=fnd_some h
      have e : j - n = (j - (n + 1)) + 1:=by omega
      rw [e]
      exact ⟨by omega,by simp; omega,by simpa using h3,by simpa using h4⟩
theorem fnd_none {l : LL} : ∀ {m : List (LL × LL)} {n : Nat},fnd l m n = none → ∀ p ∈ m,p.1.idn ≠ l.idn
  | [],n,_=>by simp
  | p :: m,n,h=>by
    simp only [fnd] at h
    split at h
    · cases h
    · rename_i he
      intro q hq
      rcases List.mem_cons.1 hq with rfl | hq
      · exact fun e=>he e.symm
      · exact fnd_none h q hq
structure CI (U : List LL) (R : LL → LL → Prop) (m : List (LL × LL)) : Prop where
  mem : ∀ p ∈ m,p.1 ∈ U ∧ p.2 ∈ U ∧ R p.1 p.2
  nodup : (m.map (·.1)).Nodup
  ord : ∀ (i j : Nat) (p q : LL × LL),m[i]? = some p → m[j]? = some q → i ≤ j → p.1 ≠ q.2
theorem CI.mono {U : List LL} {R R' : LL → LL → Prop} {m : List (LL × LL)} (h : CI U R m) (hr : ∀ x y,R x y → R' x y) : CI U R' m :=
  ⟨fun p hp=>⟨(h.mem p hp).1,(h.mem p hp).2.1,hr _ _ (h.mem p hp).2.2⟩,h.nodup,h.ord⟩
theorem CI.cut {U : List LL} {R : LL → LL → Prop} {m : List (LL × LL)} (h : CI U R m) {i j : Nat} {l up top : LL} (hi : m[i]? = some (l,up)) (hj : m[j]? = some (up,top)) (ht : ∀ x y z,R x y → R y z → R x z) :
    CI U R (m.set i (l,top)) ∧ (m.set i (l,top)).map (·.1) = m.map (·.1):=by
  have hil : i < m.length:=(List.getElem?_eq_some_iff.1 hi).1
  have hij : i < j:=by
    rcases Nat.lt_or_ge i j with h' | h'
    · exact h'
    · exact absurd rfl (h.ord j i _ _ hj hi h')
  have hm : (m.set i (l,top)).map (·.1) = m.map (·.1):=by
    rw [List.map_set]
    apply List.ext_getElem? 
    intro k
    by_cases hk : i = k
    · subst hk
      rw [List.getElem?_set_self (by simpa using hil),List.getElem?_map,hi]; rfl
    · rw [List.getElem?_set_ne hk]
  have m1:=h.mem _ (List.mem_of_getElem? hi)
  have m2:=h.mem _ (List.mem_of_getElem? hj)
  refine ⟨⟨fun p hp=>?_,by rw [hm]; exact h.nodup,fun a b p q ha hb hab=>?_⟩,hm⟩
  · rcases List.mem_or_eq_of_mem_set hp with hp | rfl
    · exact h.mem p hp
    · exact ⟨m1.1,m2.2.1,ht _ _ _ m1.2.2 m2.2.2⟩
  · have keys : ∀ (c : Nat) (r : LL × LL),(m.set i (l,top))[c]? = some r → ∃ s,m[c]? = some (r.1,s):=fun c r hc=>by
      by_cases hci : i = c
      · subst hci
        rw [List.getElem?_set_self hil] at hc
        cases hc
        exact ⟨up,hi⟩
      · rw [List.getElem?_set_ne hci] at hc
        exact ⟨r.2,hc⟩
    obtain ⟨s,hs⟩:=keys a p ha
    by_cases hbi : i = b
    · subst hbi
      rw [List.getElem?_set_self hil] at hb
      cases hb
      exact h.ord a j (p.1,s) (up,top) hs hj (by omega)
    · rw [List.getElem?_set_ne hbi] at hb
      exact h.ord a b (p.1,s) q hs hb hab
theorem CI.push {U : List LL} {R : LL → LL → Prop} {m : List (LL × LL)} (h : CI U R m) {x y : LL} (hx : x ∈ U) (hy : y ∈ U) (hr : R x y) (hnx : ∀ p ∈ m,p.1 ≠ x) (hny : ∀ p ∈ m,p.1 ≠ y) (hne : x ≠ y) : CI U R (m ++ [(x,y)]):=by
  refine ⟨fun p hp=>?_,?_,fun a b p q ha hb hab=>?_⟩
  · rcases List.mem_append.1 hp with hp | hp
    · exact h.mem p hp
    · obtain rfl:=List.mem_singleton.1 hp
      exact ⟨hx,hy,hr⟩
  · rw [List.map_append,List.nodup_append]
    refine ⟨h.nodup,by simp,fun a ha b hb=>?_⟩
    simp at hb
    obtain ⟨p,hp,rfl⟩:=List.mem_map.1 ha
    rw [hb]
    exact hnx p hp
  · rcases Nat.lt_or_ge b m.length with hbl | hbl
    · rw [List.getElem?_append_left hbl] at hb
      rw [List.getElem?_append_left (by omega)] at ha
      exact h.ord a b p q ha hb hab
    · have hb':=(List.getElem?_eq_some_iff.1 hb).1
      simp only [List.length_append,List.length_singleton] at hb'
      obtain rfl : b = m.length:=by omega
      simp at hb
      subst hb
      rcases Nat.lt_or_ge a m.length with hal | hal
      · rw [List.getElem?_append_left hal] at ha
        exact hny p (List.mem_of_getElem? ha)
      · obtain rfl : a = m.length:=by omega
        simp at ha
        subst ha
        exact hne
theorem es_closed (n : Nat) (m : List (LL × LL)) : boxClosed n (.mapb (esOf m)) = true:=by
  simp only [boxClosed,List.all_eq_true,esOf,List.mem_map]
  rintro e ⟨p,_,rfl⟩
  rfl
def posA (ks : List AV) (es : List (AV × AV)) : Nat :=
  match findA KK ks es 0 with
  | some (some (j,_))=>es.length - j
  | _=>0
def mu (a i : Nat) (A : List Box) : Nat :=
  match A.getD a .dead,A.getD i .dead with
  | .cells ks,.mapb es=>posA ks es
  | _,_=>0
theorem posA_es (x : LL) (m : List (LL × LL)) : posA (kvC x) (esOf m) = match fnd x m 0 with
    | some (j,_)=>m.length - j
    | none=>0:=by
  unfold posA
  rw [find_es]
  cases fnd x m 0 with
  | none=>rfl
  | some q=>simp [esOf]
theorem fnd_keys (x : LL) : ∀ {m m' : List (LL × LL)} (n : Nat),m.map (·.1) = m'.map (·.1) → (fnd x m n).map (·.1) = (fnd x m' n).map (·.1)
  | [],[],n,_=>rfl
  | [],_ :: _,n,h=>by simp at h
  | _ :: _,[],n,h=>by simp at h
  | p :: m,p' :: m',n,h=>by
    simp only [List.map_cons,List.cons.injEq] at h
    simp only [fnd,h.1]
    split
    · rfl
    · exact fnd_keys x (n + 1) h.2
theorem posA_keys (x : LL) {m m' : List (LL × LL)} (h : m.map (·.1) = m'.map (·.1)) : posA (kvC x) (esOf m) = posA (kvC x) (esOf m'):=by
  have hl : m.length = m'.length:=by have:=congrArg List.length h; simpa using this
  have hk:=fnd_keys x 0 h
  rw [posA_es,posA_es]
  cases h1 : fnd x m 0 with
  | none=>cases h2 : fnd x m' 0 with
    | none=>rfl
    | some b=>rw [h1,h2] at hk; simp at hk
  | some a=>cases h2 : fnd x m' 0 with
    | none=>rw [h1,h2] at hk; simp at hk
    | some b =>
      rw [h1,h2] at hk
      obtain ⟨a1,a2⟩:=a
      obtain ⟨b1,b2⟩:=b
      simp at hk
      subst hk
      simp only [hl]
set_option maxRecDepth 100000 in
theorem impl_find {U : List LL} (hU : Univ U) {R : LL → LL → Prop} (hR : ∀ x,R x x) (hRt : ∀ x y z,R x y → R y z → R x z) (m : List (LL × LL)) (hm : CI U R m) (l : LL) (hl : l ∈ U) (i : Nat) (A : List Box) (hi : i < A.length) (hA : A.getD i .dead = .mapb (esOf m)) :
    ACalls Tryz.prog 282 [.map i,.agg (kvC l)] A (fun r A'=>∃ x m',r = .agg (kvC x) ∧ x ∈ U ∧ R l x ∧ (∀ p ∈ m',p.1 ≠ x) ∧ CI U R m' ∧ m'.map (·.1) = m.map (·.1) ∧ A' = A.set i (.mapb (esOf m'))):=by
  have hgA : ∀ X (B : List Box),(A.set i X ++ B).getD i .dead = X:=fun X B=>by rw [getD_app1 _ _ _ _ (by simpa using hi),getD_set1 hi]
  have hset : A.set i (.mapb (esOf m)) = A:=by
    apply List.ext_getElem? 
    intro k
    by_cases hk : i = k
    · subst hk
      rw [List.getElem?_set_self hi]
      have : A[i]? = some A[i]:=List.getElem?_eq_getElem hi
      simp [List.getD,hi] at hA
      rw [this,hA]
    · rw [List.getElem?_set_ne hk]
  rw [kvC]
  refine acalls_enter (cf:=cf 29 [0,1,3,4,5,6,7,8,16,24]) foll Tryz.func282 Tryz.ntmps282 (by simp [cf]) ?_
  simp only [Tryz.f282,EnterK_some,zW,zX,zD,builtinA,isLeaf,const1,Nat.reduceAdd,Nat.reduceMul,Nat.reduceSub,Nat.reduceLT,Nat.reduceLeDiff,Nat.reduceEqDiff,Nat.reduceBEq,Nat.reduceBNe,reduceIte,reduceCtorEq,Int.reduceToNat,Int.reduceLT,Int.reduceLE,Int.reduceEq,Int.reduceNe,Int.reduceNeg,ustrA,ti229,ti406,mi229,cf,Tryz.results282]
  refine aloop_intro [0,3,4] (fun e A'=>∃ l' m' B,e = [(0,.map i),(3,.ptr A.length 0),(4,.ptr (A.length + 1) 0)] ∧ A' = A.set i (.mapb (esOf m')) ++ (.cells (kvC l') :: .cells [.nilp,.int .i64 0] :: B) ∧ l' ∈ U ∧ R l l' ∧ CI U R m' ∧ m'.map (·.1) = m.map (·.1)) (fun _ A'=>mu A.length i A') ?_ ?_
  · simp only [zW,zX,zD,builtinA,isLeaf,const1,Nat.reduceAdd,Nat.reduceMul,Nat.reduceSub,Nat.reduceLT,Nat.reduceLeDiff,Nat.reduceEqDiff,Nat.reduceBEq,Nat.reduceBNe,reduceIte,reduceCtorEq,Int.reduceToNat,Int.reduceLT,Int.reduceLE,Int.reduceEq,Int.reduceNe,Int.reduceNeg,ustrA,ti229,ti406,mi229,cf,Tryz.results282]
    exact ⟨l,m,[],by rw [hset]; rfl,hl,hR l,hm,rfl⟩
  · rintro e A' ⟨l',m',B,rfl,rfl,hl',hr',hm',hk'⟩
    have hmu : mu A.length i (A.set i (.mapb (esOf m')) ++ (.cells (kvC l') :: .cells [.nilp,.int .i64 0] :: B)) = posA (kvC l') (esOf m'):=by
      unfold mu
      rw [hgA,getD_sapp0]; rfl
    rw [hmu]
    have hf:=find_es l' m' 0
    rw [kvC] at hf ⊢
    cases hfl : fnd l' m' 0 with
    | none =>
      rw [hfl] at hf
      simp only [Option.map_none] at hf
      simp only [zW,zX,zD,builtinA,isLeaf,const1,Nat.reduceAdd,Nat.reduceMul,Nat.reduceSub,Nat.reduceLT,Nat.reduceLeDiff,Nat.reduceEqDiff,Nat.reduceBEq,Nat.reduceBNe,reduceIte,reduceCtorEq,Int.reduceToNat,Int.reduceLT,Int.reduceLE,Int.reduceEq,Int.reduceNe,Int.reduceNeg,ustrA,ti229,ti406,mi229,cf,Tryz.results282,hi,hf]
      refine ⟨outer_set A _ i _ (es_closed _ _),l',m',rfl,hl',hr',fun p hp e=>fnd_none hfl p hp (by rw [e]),hm',hk',rfl⟩
    | some q =>
      obtain ⟨j,up⟩:=q
      rw [hfl] at hf
      simp only [Option.map_some] at hf
      obtain ⟨_,hj,hj1,hj2⟩:=fnd_some hfl
      simp only [Nat.sub_zero] at hj hj1 hj2
      have hmj : m'[j]? = some (l',up):=by
        have e1 : m'[j]? = some m'[j]:=List.getElem?_eq_getElem hj
        have e2 : m'.getD j (l',l') = m'[j]:=by simp [List.getD,hj]
        rw [e2] at hj1 hj2
        have:=hU.inj _ (hm'.mem _ (List.getElem_mem hj)).1 _ hl' hj1
        rw [e1]
        congr 1
        exact Prod.ext this hj2
      have hup:=(hm'.mem _ (List.mem_of_getElem? hmj)).2
      have hru : R l up:=hRt _ _ _ hr' hup.2
      have hf2:=find_es up m' 0
      rw [kvC] at hf2
      rw [kvC] at hf
      have hpl : posA (kvC l') (esOf m') = m'.length - j:=by rw [posA_es,hfl]
      cases hfu : fnd up m' 0 with
      | none =>
        rw [hfu] at hf2
        simp only [Option.map_none] at hf2
        have hpu : posA (kvC up) (esOf m') = 0:=by rw [posA_es,hfu]
        simp only [zW,zX,zD,builtinA,isLeaf,const1,Nat.reduceAdd,Nat.reduceMul,Nat.reduceSub,Nat.reduceLT,Nat.reduceLeDiff,Nat.reduceEqDiff,Nat.reduceBEq,Nat.reduceBNe,reduceIte,reduceCtorEq,Int.reduceToNat,Int.reduceLT,Int.reduceLE,Int.reduceEq,Int.reduceNe,Int.reduceNeg,ustrA,ti229,ti406,mi229,cf,Tryz.results282,hi,hf,hf2,LoopK_eq]
        refine ⟨⟨up,m',B ++ [.cells (kvC up),.cells [.nilp,.int .i64 0]],rfl,hup.1,hru,hm',hk'⟩,?_⟩
        unfold mu
        rw [hgA,getD_sapp0]
        show posA (kvC up) (esOf m') < _
        rw [hpu]
        rw [kvC] at hpl
        rw [hpl]
        omega
      | some q2 =>
        obtain ⟨j2,top⟩:=q2
        rw [hfu] at hf2
        simp only [Option.map_some] at hf2
        rw [kvC] at hf2
        obtain ⟨_,hk,hk1,hk2⟩:=fnd_some hfu
        simp only [Nat.sub_zero] at hk hk1 hk2
        have hmk : m'[j2]? = some (up,top):=by
          have e1 : m'[j2]? = some m'[j2]:=List.getElem?_eq_getElem hk
          have e2 : m'.getD j2 (up,up) = m'[j2]:=by simp [List.getD,hk]
          rw [e2] at hk1 hk2
          have:=hU.inj _ (hm'.mem _ (List.getElem_mem hk)).1 _ hup.1 hk1
          rw [e1]
          congr 1
          exact Prod.ext this hk2
        have hjj : j < j2:=by
          rcases Nat.lt_or_ge j j2 with h' | h'
          · exact h'
          · exact absurd rfl (hm'.ord j2 j _ _ hmk hmj h')
        obtain ⟨c1,c2⟩:=hm'.cut hmj hmk hRt
        have hes : (esOf m').set j (.agg [.ivptr l'.b l'.off (encI l'.hd),.int .i64 (l'.ks.length : Nat)],.agg [.ivptr top.b top.off (encI top.hd),.int .i64 (top.ks.length : Nat)]) = esOf (m'.set j (l',top)):=by
          unfold esOf
          rw [List.map_set]
          rfl
        have hpu : posA (kvC up) (esOf (m'.set j (l',top))) = m'.length - j2:=by rw [posA_keys up c2,posA_es,hfu]
        simp only [zW,zX,zD,builtinA,isLeaf,const1,Nat.reduceAdd,Nat.reduceMul,Nat.reduceSub,Nat.reduceLT,Nat.reduceLeDiff,Nat.reduceEqDiff,Nat.reduceBEq,Nat.reduceBNe,reduceIte,reduceCtorEq,Int.reduceToNat,Int.reduceLT,Int.reduceLE,Int.reduceEq,Int.reduceNe,Int.reduceNeg,ustrA,ti229,ti406,mi229,cf,Tryz.results282,hi,hf,hf2,hes,LoopK_eq]
        refine ⟨⟨up,m'.set j (l',top),B ++ [.cells (kvC up),.cells (kvC top)],rfl,hup.1,hru,c1,c2.trans hk'⟩,?_⟩
        unfold mu
        rw [hgA,getD_sapp0]
        show posA (kvC up) (esOf (m'.set j (l',top))) < _
        rw [hpu]
        rw [kvC] at hpl
        rw [hpl]
        omega
def kidsV (t : IEx) : AV :=
  match below t with
  | none=>.slice []
  | some x=>.islice x.b x.off (encIs x.ks)
def hdX : IEx → Int × Int × List UInt8 × List UInt8
  | .mk k q m n _ _ _ _=>(k,q,m,n)
def argX : IEx → TT
  | .mk _ _ _ _ a _ _ _=>a
theorem encI_eq (t : IEx) : encI t = [.int .i64 (hdX t).1,.int .i64 (hdX t).2.1,.str (hdX t).2.2.1,.str (hdX t).2.2.2,.int .i64 (tNode (argX t)).1,.str (tNode (argX t)).2.1,.str (tNode (argX t)).2.2.1,tKids (argX t),kidsV t]:=by
  obtain ⟨k,q,m,n,a,b,o,ks⟩:=t
  cases ks <;> simp [encI,hdX,argX,kidsV,below,LL.ks,encIs]
set_option maxRecDepth 100000 in
theorem impl_join {U : List LL} (hU : Univ U) {R : LL → LL → Prop} (hR : ∀ x,R x x) (hRt : ∀ x y z,R x y → R y z → R x z) (hRs : ∀ x y,R x y → R y x) (m : List (LL × LL)) (hm : CI U R m) (x y : LL) (hx : x ∈ U) (hy : y ∈ U) (i : Nat) (A : List Box) (hi : i < A.length) (hA : A.getD i .dead = .mapb (esOf m)) :
    ACalls Tryz.prog 234 [.map i,.islice x.b x.off (encIs x.ks),.islice y.b y.off (encIs y.ks)] A (fun r A'=>∃ m',A' = A.set i (.mapb (esOf m')) ∧
      ((r = .bool false ∧ R x y ∧ CI U R m' ∧ m'.length = m.length) ∨ (r = .bool true ∧ m'.length = m.length + 1 ∧ ∀ R' : LL → LL → Prop,(∀ a b,R a b → R' a b) → (∀ a b,R' a b → R' b a) → (∀ a b c,R' a b → R' b c → R' a c) → R' x y → CI U R' m'))):=by
  have hgA : ∀ X (B : List Box),(A.set i X ++ B).getD i .dead = X:=fun X B=>by rw [getD_app1 _ _ _ _ (by simpa using hi),getD_set1 hi]
  have hxl : (encIs x.ks).length = x.ks.length:=encIs_length _
  have hyl : (encIs y.ks).length = y.ks.length:=encIs_length _
  have hx0 : decide (((x.ks.length : Nat) : Int) = 0) = false:=decide_eq_false (by simp [LL.ks]; omega)
  have hxg : (encIs x.ks).getD 0 [] = encI x.hd:=by simp [LL.ks,encIs]
  have hyg : (encIs y.ks).getD 0 [] = encI y.hd:=by simp [LL.ks,encIs]
  have hxp : 0 < x.ks.length:=by simp [LL.ks]
  have hyp : 0 < y.ks.length:=by simp [LL.ks]
  refine acalls_enter (cf:=cf 32 [0,1,2,6,7,8,11,28]) foll Tryz.func234 Tryz.ntmps234 (by simp [cf]) ?_
  simp only [Tryz.f234,EnterK_some,zW,zX,zD,builtinA,isLeaf,const1,Nat.reduceAdd,Nat.reduceMul,Nat.reduceSub,Nat.reduceLT,Nat.reduceLeDiff,Nat.reduceEqDiff,Nat.reduceBEq,Nat.reduceBNe,reduceIte,reduceCtorEq,Int.reduceToNat,Int.reduceLT,Int.reduceLE,Int.reduceEq,Int.reduceNe,Int.reduceNeg,ustrA,ti3,ti37,ti39,ti229,ti406,ca282,mi229,ks406,cf,Tryz.results234]
  simp only [zW,zX,zD,builtinA,isLeaf,const1,Nat.reduceAdd,Nat.reduceMul,Nat.reduceSub,Nat.reduceLT,Nat.reduceLeDiff,Nat.reduceEqDiff,Nat.reduceBEq,Nat.reduceBNe,reduceIte,reduceCtorEq,Int.reduceToNat,Int.reduceLT,Int.reduceLE,Int.reduceEq,Int.reduceNe,Int.reduceNeg,ustrA,ti3,ti37,ti39,ti229,ti406,ca282,mi229,ks406,cf,Tryz.results234,hxl,hyl,hx0,hxg,hyg,encI_length]
  refine ⟨by omega,?_⟩
  refine callK_intro (by simp only [zW,zX,zD,builtinA,isLeaf,const1,Nat.reduceAdd,Nat.reduceMul,Nat.reduceSub,Nat.reduceLT,Nat.reduceLeDiff,Nat.reduceEqDiff,Nat.reduceBEq,Nat.reduceBNe,reduceIte,reduceCtorEq,Int.reduceToNat,Int.reduceLT,Int.reduceLE,Int.reduceEq,Int.reduceNe,Int.reduceNeg,ustrA]; rfl) (impl_find hU hR hRt m hm x hx i _ hi hA) ?_ rfl
  rintro v A' ⟨x',m1,rfl,hx',hrx,hnx,hm1,hk1,rfl⟩
  rw [kvC]
  simp only [zW,zX,zD,builtinA,isLeaf,const1,Nat.reduceAdd,Nat.reduceMul,Nat.reduceSub,Nat.reduceLT,Nat.reduceLeDiff,Nat.reduceEqDiff,Nat.reduceBEq,Nat.reduceBNe,reduceIte,reduceCtorEq,Int.reduceToNat,Int.reduceLT,Int.reduceLE,Int.reduceEq,Int.reduceNe,Int.reduceNeg,ustrA,ti3,ti37,ti39,ti229,ti406,ca282,mi229,ks406,cf,Tryz.results234,hi,hxl,hyl,hx0,hxg,hyg,encI_length]
  refine ⟨by omega,?_⟩
  refine callK_intro (by simp only [zW,zX,zD,builtinA,isLeaf,const1,Nat.reduceAdd,Nat.reduceMul,Nat.reduceSub,Nat.reduceLT,Nat.reduceLeDiff,Nat.reduceEqDiff,Nat.reduceBEq,Nat.reduceBNe,reduceIte,reduceCtorEq,Int.reduceToNat,Int.reduceLT,Int.reduceLE,Int.reduceEq,Int.reduceNe,Int.reduceNeg,ustrA]; rfl) (impl_find hU hR hRt m1 hm1 y hy i _ (by simp; omega) (hgA _ _)) ?_ rfl
  rintro v A' ⟨y',m2,rfl,hy',hry,hny,hm2,hk2,rfl⟩
  have hnx2 : ∀ p ∈ m2,p.1 ≠ x':=fun p hp e=>by
    have : p.1 ∈ m2.map (·.1):=List.mem_map_of_mem hp
    rw [hk2] at this
    obtain ⟨q,hq,he⟩:=List.mem_map.1 this
    exact hnx q hq (he.trans e)
  have hlen : m2.length = m.length:=by
    have h1:=congrArg List.length hk1
    have h2:=congrArg List.length hk2
    simp at h1 h2
    omega
  rw [kvC]
  by_cases he : x' = y'
  · subst he
    simp only [zW,zX,zD,builtinA,isLeaf,const1,Nat.reduceAdd,Nat.reduceMul,Nat.reduceSub,Nat.reduceLT,Nat.reduceLeDiff,Nat.reduceEqDiff,Nat.reduceBEq,Nat.reduceBNe,reduceIte,reduceCtorEq,Int.reduceToNat,Int.reduceLT,Int.reduceLE,Int.reduceEq,Int.reduceNe,Int.reduceNeg,ustrA,ti3,ti37,ti39,ti229,ti406,ca282,mi229,ks406,cf,Tryz.results234,hi,hxl,hyl,encI_length]
    exact ⟨outer_set A _ i _ (es_closed _ _),m2,rfl,.inl ⟨hRt _ _ _ hrx (hRs _ _ hry),hm2,hlen⟩⟩
  · have hne : (decide (x'.b = y'.b ∧ x'.off = y'.off) && decide (((x'.ks.length : Nat) : Int) = ((y'.ks.length : Nat) : Int))) = false:=by
      rw [Bool.eq_false_iff]
      intro hh
      simp only [Bool.and_eq_true,decide_eq_true_eq] at hh
      refine he (hU.inj _ hx' _ hy' ?_)
      simp only [LL.idn,Prod.mk.injEq]
      exact ⟨hh.1.1,hh.1.2,by omega⟩
    have hfn : fnd x' m2 0 = none:=by
      cases hq : fnd x' m2 0 with
      | none=>rfl
      | some q =>
        obtain ⟨j,v⟩:=q
        obtain ⟨_,hj,hj1,_⟩:=fnd_some hq
        simp only [Nat.sub_zero] at hj hj1
        have e2 : m2.getD j (x',x') = m2[j]:=by simp [List.getD,hj]
        rw [e2] at hj1
        exact absurd (hU.inj _ (hm2.mem _ (List.getElem_mem hj)).1 _ hx' hj1) (hnx2 _ (List.getElem_mem hj))
    have hf:=find_es x' m2 0
    rw [hfn,kvC] at hf
    simp only [Option.map_none] at hf
    have hes : esOf m2 ++ [(.agg [.ivptr x'.b x'.off (encI x'.hd),.int .i64 (x'.ks.length : Nat)],.agg [.ivptr y'.b y'.off (encI y'.hd),.int .i64 (y'.ks.length : Nat)])] = esOf (m2 ++ [(x',y')]):=by
      simp [esOf,kvC]
    simp only [zW,zX,zD,builtinA,isLeaf,const1,Nat.reduceAdd,Nat.reduceMul,Nat.reduceSub,Nat.reduceLT,Nat.reduceLeDiff,Nat.reduceEqDiff,Nat.reduceBEq,Nat.reduceBNe,reduceIte,reduceCtorEq,Int.reduceToNat,Int.reduceLT,Int.reduceLE,Int.reduceEq,Int.reduceNe,Int.reduceNeg,ustrA,ti3,ti37,ti39,ti229,ti406,ca282,mi229,ks406,cf,Tryz.results234,hi,hxl,hyl,encI_length]
    rw [hne]
    simp only [zW,zX,zD,builtinA,isLeaf,const1,Nat.reduceAdd,Nat.reduceMul,Nat.reduceSub,Nat.reduceLT,Nat.reduceLeDiff,Nat.reduceEqDiff,Nat.reduceBEq,Nat.reduceBNe,reduceIte,reduceCtorEq,Int.reduceToNat,Int.reduceLT,Int.reduceLE,Int.reduceEq,Int.reduceNe,Int.reduceNeg,ustrA,ti3,ti37,ti39,ti229,ti406,ca282,mi229,ks406,cf,Tryz.results234,hi,hf,hes]
    refine ⟨outer_set A _ i _ (es_closed _ _),m2 ++ [(x',y')],rfl,.inr ⟨by simp [hlen],fun R' h1 h2 h3 h4=>?_⟩⟩
    exact (hm2.mono h1).push hx' hy' (h3 _ _ _ (h2 _ _ (h1 _ _ hrx)) (h3 _ _ _ h4 (h1 _ _ hry))) hnx2 hny he
end Go.Proofs.YtnjdbgiincliaaaGreat.SX
