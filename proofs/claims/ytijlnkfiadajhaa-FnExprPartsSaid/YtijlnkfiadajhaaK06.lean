/- SameA2, SamePX, ExSameS. -/
import Derived.Test.YtijlnkfiadajhaaK05
import Derived.Test.YtijlnkfiadajhaaAbsW3
/- Where the parts of a type lie; the program's TypeSame. -/
set_option linter.unusedVariables false
set_option linter.unusedSimpArgs false
namespace Go.Proofs.Ytijlnkfiadajhaa
open Go.Abs
mutual
def lists : ITy → List LL
  | .mk _ _ _ _ _ []=>[]
  | .mk _ _ _ b o (t :: ks)=>⟨b,o,t,ks⟩ :: (lists t ++ listss ks)
def listss : List ITy → List LL
  | []=>[]
  | t :: l=>lists t ++ listss l
end
mutual
def norm : ITy → Prop
  | .mk _ _ _ b o []=>b = 0 ∧ o = 0
  | .mk _ _ _ _ _ (t :: ks)=>norm t ∧ norms ks
def norms : List ITy → Prop
  | []=>True
  | t :: l=>norm t ∧ norms l
end
theorem norms_all : ∀ {l : List ITy},norms l ↔ ∀ t ∈ l,norm t
  | []=>by simp [norms]
  | t :: l=>by rw [norms,norms_all]; simp
theorem listss_mem {x : LL} : ∀ {l : List ITy},x ∈ listss l ↔ ∃ t ∈ l,x ∈ lists t
  | []=>by simp [listss]
  | t :: l=>by rw [listss,List.mem_append,listss_mem]; simp
theorem lists_eq {t : ITy} {x : LL} (h : below t = some x) : lists t = x :: listss x.ks:=by
  obtain ⟨k,m,n,b,o,ks⟩:=t
  cases ks with
  | nil=>simp [below] at h
  | cons u ks=>simp [below] at h; subst h; simp [lists,LL.ks,listss]
theorem lists_down (t : ITy) : ∀ x ∈ lists t,∀ u ∈ x.ks,∀ y,below u = some y → y ∈ lists t:=by
  induction t using ITy.ind with
  | h k m n b o ks ih =>
    cases ks with
    | nil=>simp [lists]
    | cons t ks =>
      intro x hx u hu y hy
      have he:=lists_eq (t:=.mk k m n b o (t :: ks)) (x:=⟨b,o,t,ks⟩) rfl
      rw [he] at hx ⊢
      have hsub : ∀ v ∈ (⟨b,o,t,ks⟩ : LL).ks,∀ z,z ∈ lists v → z ∈ listss (⟨b,o,t,ks⟩ : LL).ks:=fun v hv z hz=>listss_mem.2 ⟨v,hv,hz⟩
      rcases List.mem_cons.1 hx with rfl | hx
      · refine List.mem_cons_of_mem _ (hsub u hu y ?_)
        rw [lists_eq hy]; simp
      · obtain ⟨v,hv,hxv⟩:=listss_mem.1 hx
        exact List.mem_cons_of_mem _ (hsub v hv y (ih v hv x hxv u hu y hy))
mutual
theorem lists_len : ∀ t : ITy,(lists t).length ≤ sz (erase t)
  | .mk k m n b o []=>by simp [lists]
  | .mk k m n b o (t :: ks)=>by
    have h1:=lists_len t
    have h2:=listss_len ks
    simp only [lists,erase,erases,sz,szs,List.length_cons,List.length_append]
    omega
theorem listss_len : ∀ l : List ITy,(listss l).length ≤ szs (erases l)
  | []=>by simp [listss]
  | t :: l=>by
    have h1:=lists_len t
    have h2:=listss_len l
    simp only [listss,erases,szs,List.length_append]
    omega
end
theorem gd {α : Type} (l : List α) (i : Nat) (d : α) (h : i < l.length) : l.getD i d = l[i]:=by simp [List.getD,h]
theorem islice_inv {G : Ghost} {w : World} {b off : Nat} {rows : List (List AV)} {x : Value} (h : RV G w (.islice b off rows) x) : ∃ cap sz,∃ X : Nat → Nat → Value,x = .slice (some ⟨b,off,none⟩) rows.length cap ∧ (∀ r ∈ rows,r.length = sz) ∧
    (∀ i j,i < rows.length → j < sz → w.cell? ⟨b,off + (i * sz + j),none⟩ = some (X i j)) ∧ ∀ i j,i < rows.length → j < sz → RV G w (Go.Abs.rowAt rows i j) (X i j):=by
  cases h with
  | islice _ _ _ cap sz X hr hcap hx hI hz hsz hl hh=>exact ⟨cap,sz,X,rfl,fun r hr'=>(hr r hr').1,hx,hh⟩
mutual
theorem lists_ks (x : LL) : ∀ t : ITy,x ∈ lists t → x.ks.length ≤ sz (erase t)
  | .mk k m n b o []=>by simp [lists]
  | .mk k m n b o (t :: ks)=>fun h=>by
    simp only [lists,List.mem_cons,List.mem_append] at h
    simp only [erase,erases,sz,szs]
    rcases h with rfl | h | h
    · have h1 : (erases ks).length = ks.length:=by rw [erases_map,List.length_map]
      show (t :: ks).length ≤ _
      simp only [List.length_cons]; omega
    · have:=lists_ks x t h; omega
    · have:=listss_ks x ks h; omega
theorem listss_ks (x : LL) : ∀ l : List ITy,x ∈ listss l → x.ks.length ≤ szs (erases l)
  | []=>by simp [listss]
  | t :: l=>fun h=>by
    simp only [listss,List.mem_append] at h
    simp only [erases,szs]
    rcases h with h | h
    · have:=lists_ks x t h; omega
    · have:=listss_ks x l h; omega
end
def R4 (G : Ghost) (w : World) (τ : Ty) (X : Nat → Value) : Prop:=∀ j,j < 4 → RV G w ((enc τ).getD j .bot) (X j)
def T4 (G : Ghost) (w : World) (t : ITy) (X : Nat → Value) : Prop:=∀ j,j < 4 → RV G w ((encI t).getD j .bot) (X j)
theorem uniq {G : Ghost} {w : World} (s : ITy) : ∀ (t : ITy) (X : Nat → Value),norm s → norm t → T4 G w s X → T4 G w t X → s = t:=by
  induction s using ITy.ind with
  | h k m n b o ks ih =>
    rintro ⟨k',m',n',b',o',ks'⟩ X hs ht h h'
    have h0:=h 0 (by decide); have h1:=h 1 (by decide); have h2:=h 2 (by decide); have h3:=h 3 (by decide)
    have g0:=h' 0 (by decide); have g1:=h' 1 (by decide); have g2:=h' 2 (by decide); have g3:=h' 3 (by decide)
    rw [encI_eq] at h0 h1 h2 h3 g0 g1 g2 g3
    simp only [List.getD_cons_zero,List.getD_cons_succ,node] at h0 h1 h2 h3 g0 g1 g2 g3
    generalize X 0 = v0 at h0 g0
    generalize X 1 = v1 at h1 g1
    generalize X 2 = v2 at h2 g2
    generalize X 3 = v3 at h3 g3
    have e0 : k = k':=by cases h0; cases g0; rfl
    have e1 : m = m':=by
      cases h1
      generalize hq : (⟨m.toArray⟩ : ByteArray) = q at g1
      cases g1
      injection hq with hq
      have:=congrArg Array.toList hq
      simpa using this
    have e2 : n = n':=by
      cases h2
      generalize hq : (⟨n.toArray⟩ : ByteArray) = q at g2
      cases g2
      injection hq with hq
      have:=congrArg Array.toList hq
      simpa using this
    subst e0; subst e1; subst e2
    have lens : ∀ (a : Option Addr) (l c : Nat),v3 = .slice a l c → (ks = [] → l = 0) ∧ (ks' = [] → l = 0) ∧ (ks ≠ [] → l = ks.length) ∧ (ks' ≠ [] → l = ks'.length):=by
      intro a l c hv
      subst hv
      refine ⟨fun e=>?_,fun e=>?_,fun e=>?_,fun e=>?_⟩
      · subst e; simp [kidsV,below] at h3; cases h3 <;> rfl
      · subst e; simp [kidsV,below] at g3; cases g3 <;> rfl
      · cases ks with
        | nil=>exact absurd rfl e
        | cons t ks=>simp [kidsV,below] at h3; cases h3; simp [LL.ks,encIs_length]
      · cases ks' with
        | nil=>exact absurd rfl e
        | cons t ks'=>simp [kidsV,below] at g3; cases g3; simp [LL.ks,encIs_length]
    have isS : ∃ a l c,v3 = .slice a l c:=by
      cases ks with
      | nil=>simp [kidsV,below] at h3; cases h3 <;> exact ⟨_,_,_,rfl⟩
      | cons t ks=>simp [kidsV,below] at h3; cases h3; exact ⟨_,_,_,rfl⟩
    obtain ⟨a,l,c,hv⟩:=isS
    obtain ⟨l1,l2,l3,l4⟩:=lens a l c hv
    cases ks with
    | nil =>
      cases ks' with
      | nil =>
        simp only [norm] at hs ht
        rw [hs.1,hs.2,ht.1,ht.2]
      | cons t ks' =>
        have a1:=l1 rfl
        have a2:=l4 (by simp)
        simp at a2; omega
    | cons t ks =>
      cases ks' with
      | nil =>
        have a1:=l2 rfl
        have a2:=l3 (by simp)
        simp at a2; omega
      | cons t' ks' =>
        have a1:=l3 (by simp)
        have a2:=l4 (by simp)
        simp only [kidsV,below] at h3 g3
        obtain ⟨cap,sz,X1,q1,r1,x1,z1⟩:=islice_inv h3
        obtain ⟨cap',sz',X2,q2,r2,x2,z2⟩:=islice_inv g3
        rw [q1] at q2
        simp only [Value.slice.injEq,Option.some.injEq,Addr.mk.injEq] at q2
        have hb : b = b':=q2.1.1
        have ho : o = o':=q2.1.2.1
        have hlen : (t :: ks).length = (t' :: ks').length:=by
          have:=q2.2.1
          rw [encIs_length,encIs_length] at this
          exact this
        subst hb; subst ho
        have n1 : (encIs (LL.ks ⟨b,o,t,ks⟩)).length = (t :: ks).length:=encIs_length _
        have n2 : (encIs (LL.ks ⟨b,o,t',ks'⟩)).length = (t' :: ks').length:=encIs_length _
        have e1 : sz = 4:=by
          have:=r1 (encI t) (by simp [LL.ks,encIs])
          rw [encI_length] at this; exact this.symm
        have e2 : sz' = 4:=by
          have:=r2 (encI t') (by simp [LL.ks,encIs])
          rw [encI_length] at this; exact this.symm
        subst e1; subst e2
        have key : (t :: ks) = (t' :: ks'):=by
          apply List.ext_getElem hlen
          intro i hi hi'
          have xe : ∀ j,j < 4 → X1 i j = X2 i j:=fun j hj=>by
            have:=(x1 i j (by omega) hj).symm.trans (x2 i j (by omega) hj)
            injection this
          have t1 : T4 G w ((t :: ks)[i]) (X1 i):=fun j hj=>by
            have:=z1 i j (by omega) hj
            unfold Go.Abs.rowAt at this
            rw [encIs_getD (show i < (LL.ks ⟨b,o,t,ks⟩).length from hi),gd _ _ _ (show i < (LL.ks ⟨b,o,t,ks⟩).length from hi)] at this
            exact this
          have t2 : T4 G w ((t' :: ks')[i]) (X1 i):=fun j hj=>by
            have:=z2 i j (by omega) hj
            unfold Go.Abs.rowAt at this
            rw [encIs_getD (show i < (LL.ks ⟨b,o,t',ks'⟩).length from hi'),gd _ _ _ (show i < (LL.ks ⟨b,o,t',ks'⟩).length from hi'),← xe j hj] at this
            exact this
          simp only [norm] at hs ht
          have ns : ∀ u ∈ (t :: ks),norm u:=fun u hu=>by
            rcases List.mem_cons.1 hu with rfl | hu
            · exact hs.1
            · exact norms_all.1 hs.2 u hu
          have nt : ∀ u ∈ (t' :: ks'),norm u:=fun u hu=>by
            rcases List.mem_cons.1 hu with rfl | hu
            · exact ht.1
            · exact norms_all.1 ht.2 u hu
          exact ih _ (List.getElem_mem hi) _ _ (ns _ (List.getElem_mem hi)) (nt _ (List.getElem_mem hi')) t1 t2
        rw [key]
def LLok (G : Ghost) (w : World) (x : LL) : Prop:=∃ Y : Nat → Nat → Value,(∀ t ∈ x.ks,norm t) ∧ ∀ i,i < x.ks.length → T4 G w (x.ks.getD i it0) (Y i) ∧ ∀ j,j < 4 → w.cell? ⟨x.b,x.off + (i * 4 + j),none⟩ = some (Y i j)
theorem LLok.inj {G : Ghost} {w : World} {x y : LL} (hx : LLok G w x) (hy : LLok G w y) (h : x.idn = y.idn) : x = y:=by
  obtain ⟨X,n1,h1⟩:=hx
  obtain ⟨Y,n2,h2⟩:=hy
  simp only [LL.idn,Prod.mk.injEq] at h
  obtain ⟨e1,e2,e3⟩:=h
  have key : x.ks = y.ks:=by
    apply List.ext_getElem e3
    intro i hi hi'
    obtain ⟨a1,a2⟩:=h1 i hi
    obtain ⟨b1,b2⟩:=h2 i hi'
    have xe : ∀ j,j < 4 → X i j = Y i j:=fun j hj=>by
      have c1:=a2 j hj
      have c2:=b2 j hj
      rw [e1,e2,c2] at c1
      injection c1 with c1
      exact c1.symm
    have g1 : x.ks.getD i it0 = x.ks[i]:=by simp [List.getD,hi]
    have g2 : y.ks.getD i it0 = y.ks[i]:=by simp [List.getD,hi']
    rw [g1] at a1
    rw [g2] at b1
    exact uniq _ _ (X i) (n1 _ (List.getElem_mem hi)) (n2 _ (List.getElem_mem hi')) a1 fun j hj=>by rw [xe j hj]; exact b1 j hj
  obtain ⟨b,o,h,t⟩:=x
  obtain ⟨b',o',h',t'⟩:=y
  simp only [LL.ks,List.cons.injEq] at key e1 e2
  obtain ⟨rfl,rfl⟩:=key
  subst e1; subst e2
  rfl
theorem annot {G : Ghost} {w : World} (τ : Ty) : ∀ (X : Nat → Value),R4 G w τ X → ∃ t,erase t = τ ∧ norm t ∧ T4 G w t X ∧ ∀ x ∈ lists t,LLok G w x:=by
  induction τ using Ty.ind with
  | h k m n ks ih =>
    intro X hX
    have h0:=hX 0 (by decide); have h1:=hX 1 (by decide); have h2:=hX 2 (by decide); have h3:=hX 3 (by decide)
    rw [enc] at h0 h1 h2 h3
    simp only [List.getD_cons_zero,List.getD_cons_succ] at h0 h1 h2 h3
    cases ks with
    | nil =>
      refine ⟨.mk k m n 0 0 [],by simp [erase,erases],⟨rfl,rfl⟩,fun j hj=>?_,by simp [lists]⟩
      rw [encI]
      match j,hj with
      | 0,_=>exact h0
      | 1,_=>exact h1
      | 2,_=>exact h2
      | 3,_=>simpa [encs] using h3
    | cons t0 ks =>
      generalize hv : X 3 = v3 at h3
      generalize hL : encs (t0 :: ks) = L at h3
      have hLl : L.length = (t0 :: ks).length:=by rw [← hL,encs_length]
      cases h3 with
      | slice0=>simp at hLl
      | sliceE=>simp at hLl
      | slice _ b off cap sz Y hr hcap hx hI hz hh =>
        have hl : 0 < L.length:=by rw [hLl]; simp
        have r1 : sz = 4:=by
          have:=(hr _ (Abs.getD_mem (d:=[]) hl)).1
          rw [← hL,encs_getD (by simp),enc_length] at this
          omega
        subst r1
        have each : ∀ i,i < (t0 :: ks).length → ∃ t,erase t = (t0 :: ks).getD i ty0 ∧ norm t ∧ T4 G w t (Y i) ∧ ∀ x ∈ lists t,LLok G w x:=fun i hi=>by
          refine ih _ (getD_mem hi) (Y i) fun j hj=>?_
          have:=hh i j (by omega) hj
          unfold Go.Abs.rowAt at this
          rwa [← hL,encs_getD hi] at this
        obtain ⟨ts,hts,hq⟩:=list_of it0 each
        match ts,hts,hq with
        | u :: us,hts,hq =>
          have er : erases (u :: us) = t0 :: ks:=by
            rw [erases_map]
            apply List.ext_getElem (by simpa using hts)
            intro i hi hi'
            have:=(hq i hi').1
            have hil : i < (u :: us).length:=by simpa using hi
            rw [gd _ _ _ hil,gd _ _ _ hi'] at this
            rw [List.getElem_map]
            exact this
          have hxk : (⟨b,off,u,us⟩ : LL).ks = u :: us:=rfl
          have hok : LLok G w ⟨b,off,u,us⟩:=by
            refine ⟨Y,fun t ht=>?_,fun i hi=>?_⟩
            · rw [hxk] at ht
              obtain ⟨i,hi,rfl⟩:=List.mem_iff_getElem.1 ht
              have:=(hq i (by omega)).2.1
              rw [gd _ _ _ hi] at this
              exact this
            · rw [hxk] at hi ⊢
              exact ⟨(hq i (by omega)).2.2.1,fun j hj=>hx i j (by omega) hj⟩
          refine ⟨.mk k m n b off (u :: us),by rw [erase,er],?_,fun j hj=>?_,fun x hx'=>?_⟩
          · have hn : ∀ t ∈ (u :: us),norm t:=hok.choose_spec.1
            simp only [norm]
            exact ⟨hn u (by simp),norms_all.2 fun t ht=>hn t (by simp [ht])⟩
          · rw [encI]
            match j,hj with
            | 0,_=>exact h0
            | 1,_=>exact h1
            | 2,_=>exact h2
            | 3,_ =>
              show RV G w (.islice b off (encIs (u :: us))) (X 3)
              rw [hv]
              have hil : (encIs (u :: us)).length = L.length:=by rw [encIs_length]; omega
              have:=RV.islice (G:=G) (w:=w) (encIs (u :: us)) b off cap 4 Y (fun r hr'=>by
                  rw [encIs_map] at hr'
                  obtain ⟨t,_,rfl⟩:=List.mem_map.1 hr'
                  exact ⟨encI_length t,encI_leaf t⟩) (by omega) (fun i j hi hj=>hx i j (by omega) hj) (fun i j hi hj=>hI i j (by omega) hj) (hz hl (by decide)) (by decide) (by omega) (fun i j hi hj=>by
                  unfold Go.Abs.rowAt
                  rw [encIs_getD (by rw [encIs_length] at hi; exact hi)]
                  exact (hq i (by rw [encIs_length] at hi; omega)).2.2.1 j hj)
              rw [hil] at this
              exact this
          · rw [lists_eq (t:=.mk k m n b off (u :: us)) (x:=⟨b,off,u,us⟩) rfl] at hx'
            rcases List.mem_cons.1 hx' with rfl | hx'
            · exact hok
            · obtain ⟨t,ht,hxt⟩:=listss_mem.1 hx'
              rw [hxk] at ht
              obtain ⟨i,hi,rfl⟩:=List.mem_iff_getElem.1 ht
              have:=(hq i (by omega)).2.2.2 x
              have e : (u :: us).getD i it0 = (u :: us)[i]:=gd _ _ _ hi
              rw [e] at this
              exact this hxt
        | [],hts,_=>simp at hts
set_option maxRecDepth 100000 in
theorem tc_new (A : List Box) : ACalls Try.prog 46 [] A (fun r A'=>r = .agg [tF1,tF2,.map (A.length + 1)] ∧ A' = A ++ [.cells [tF1,tF2,.map (A.length + 1)],.mapb []]):=by
  simp only [tF1,tF2]
  refine acalls_enterK (cf:=cf 7 [0,1,2]) foll Try.func46 Try.ntmps46 (by simp [cf]) ?_
  simp only [Try.f46,EnterK_some,zW,zX,zD,builtinA,isLeaf,const1,ustrA,simprocAttr,ti76,ti78,cf,Try.results46]
set_option maxRecDepth 100000 in
theorem impl_TypeSameI {U : List LL} (hU : Univ U) (hN : U.length ≤ 100000000) (hL : ∀ x ∈ U,x.ks.length ≤ 1000000000) (a0 b0 : ITy) (ha : ∀ x,below a0 = some x → x ∈ U) (hb : ∀ x,below b0 = some x → x ∈ U) (A : List Box) :
    ACalls Try.prog 19 [.agg (encI a0),.agg (encI b0)] A (fun r A'=>r = .bool (decide (erase a0 = erase b0)) ∧ A' = A):=by
  have hc0 : ClS U []:=⟨[],⟨by simp,by simp,by simp⟩,by simp⟩
  have hg : (A ++ [Box.cells (encI a0),.cells (encI b0),.cells [tF1,tF2,.map (A.length + 3)],.mapb []]).getD (A.length + 3) .dead = .mapb (esOf []):=by
    rw [Abs.getD_append_right (by omega),show A.length + 3 - A.length = 3 by omega]; rfl
  have hsm:=sameI hU hN hL a0 b0 ha hb (A.length + 3) [] hc0 (A ++ [Box.cells (encI a0),.cells (encI b0),.cells [tF1,tF2,.map (A.length + 3)],.mapb []]) (by simp) hg
  have htc:=tc_new (A ++ [Box.cells (encI a0),.cells (encI b0)])
  simp only [List.length_append,List.length_cons,List.length_nil,List.append_assoc,List.cons_append,List.nil_append,Nat.add_assoc,Nat.reduceAdd] at htc
  refine acalls_enter (cf:=cf 9 [0,1,2,3,4]) foll Try.func19 Try.ntmps19 (by simp [cf]) ?_
  simp only [Try.f19,EnterK_some,zW,zX,zD,builtinA,isLeaf,const1,ustrA,simprocAttr,ti50,ca46,ca49,cf,Try.results19]
  refine .inr (drawM_intro [3] .done [(true,0,0),(false,0,1),(false,0,1),(true,1,1),(false,2,2)] [A ++ [.cells (encI a0),.cells (encI b0)],A ++ [.cells (encI a0),.cells (encI b0),.cells [tF1,tF2,.map (A.length + 3)],.mapb []]] 2 5 rfl (by kernel_rfl) (by kernel_rfl) ?_)
  simp only [zW,zX,zD,builtinA,isLeaf,const1,ustrA,simprocAttr,ti50,ca46,ca49,cf,Try.results19,wpMG_cons,wpMG_nil,wpY_done_eq,List.take_succ_cons,List.take_zero,List.drop_succ_cons,List.drop_zero]
  refine callEO_intro htc ?_ rfl
  simp only [zW,zX,zD,builtinA,isLeaf,const1,ustrA,simprocAttr,ti50,ca46,ca49,cf,Try.results19,wpMG_cons,wpMG_nil,wpY_done_eq,encI_take,List.take_succ_cons,List.take_zero,List.drop_succ_cons,List.drop_zero]
  refine ⟨by rw [encI_length]; omega,by rw [encI_length]; omega,by rw [encI_length]; omega,by rw [encI_length]; omega,?_⟩
  refine callO_intro hsm ?_
  rintro r A2 ⟨m',rfl,rfl,_⟩
  refine ⟨[[],[],_],rfl,?_⟩
  simp only [zW,zX,zD,builtinA,isLeaf,const1,ustrA,simprocAttr,ti50,ca46,ca49,cf,Try.results19,wpMG_nil,wpY_done_eq,List.drop_succ_cons,List.drop_zero]
theorem impl_TypeSame (a b : Ty) (ha : sz a ≤ 10000000) (hb : sz b ≤ 10000000) (A : List Box) :
    ACalls Try.prog 19 [.agg (enc a),.agg (enc b)] A (fun r A'=>r = .bool (decide (a = b)) ∧ A' = A):=by
  intro G w base xs hH hx
  have hx':=hx
  obtain ⟨x,y,hxy,h1,h2⟩:=hx.two
  cases h1 with
  | agg _ us hus huc huh =>
    cases h2 with
    | agg _ vs hvs hvc hvh =>
      have la:=enc_length a
      have lb:=enc_length b
      obtain ⟨s,e1,n1,t1,k1⟩:=annot (G:=G) (w:=w) a (fun j=>us.getD j undef) fun j hj=>huh j (by omega)
      obtain ⟨t,e2,n2,t2,k2⟩:=annot (G:=G) (w:=w) b (fun j=>vs.getD j undef) fun j hj=>hvh j (by omega)
      have hU : Univ (lists s ++ lists t):=by
        refine ⟨fun p hp q hq he=>?_,fun p hp u hu z hz=>?_⟩
        · have okp : LLok G w p:=(List.mem_append.1 hp).elim (k1 p) (k2 p)
          have okq : LLok G w q:=(List.mem_append.1 hq).elim (k1 q) (k2 q)
          exact okp.inj okq he
        · rcases List.mem_append.1 hp with h | h
          · exact List.mem_append_left _ (lists_down s p h u hu z hz)
          · exact List.mem_append_right _ (lists_down t p h u hu z hz)
      have hN : (lists s ++ lists t).length ≤ 100000000:=by
        have q1:=lists_len s
        have q2:=lists_len t
        rw [e1] at q1
        rw [e2] at q2
        rw [List.length_append]; omega
      have hL : ∀ z ∈ lists s ++ lists t,z.ks.length ≤ 1000000000:=fun z hz=>by
        rcases List.mem_append.1 hz with h | h
        · have:=lists_ks z s h; rw [e1] at this; omega
        · have:=lists_ks z t h; rw [e2] at this; omega
      have hs : ∀ z,below s = some z → z ∈ lists s ++ lists t:=fun z hz=>List.mem_append_left _ (by rw [lists_eq hz]; simp)
      have ht : ∀ z,below t = some z → z ∈ lists s ++ lists t:=fun z hz=>List.mem_append_right _ (by rw [lists_eq hz]; simp)
      have key:=impl_TypeSameI hU hN hL s t hs ht A
      rw [e1,e2] at key
      refine key G w base xs hH ?_
      rw [hxy]
      refine .cons (.agg _ us (by rw [encI_length]; omega) huc fun j hj=>t1 j (by rw [encI_length] at hj; exact hj)) (.cons (.agg _ vs (by rw [encI_length]; omega) hvc fun j hj=>t2 j (by rw [encI_length] at hj; exact hj)) .nil)
end Go.Proofs.Ytijlnkfiadajhaa
/- Expressions whose lists of operands have a place, and the classes of such lists. -/
set_option linter.unusedVariables false
set_option linter.unusedSimpArgs false
namespace Go.Proofs.Ytijlnkfiadajhaa
noncomputable instance decEx : DecidableEq Ex:=fun a b=>Classical.propDecidable (a = b)
abbrev TT:=ITy
def tNode:=node
def tKids:=kidsV
def tErase:=erase
theorem tEnc_eq (t : TT) : encI t = [Go.Abs.AV.int .i64 (tNode t).1,.str (tNode t).2.1,.str (tNode t).2.2.1,tKids t]:=encI_eq t
theorem tKids_leaf (t : TT) : Go.Abs.isLeaf (tKids t) = true:=by unfold tKids kidsV; split <;> rfl
end Go.Proofs.Ytijlnkfiadajhaa
namespace Go.Proofs.Ytijlnkfiadajhaa.SX
open Go.Abs
inductive IEx where
  | mk (k q : Int) (m n : List UInt8) (a : TT) (b off : Nat) (kids : List IEx)
theorem IEx.ind {M : IEx → Prop} (h : ∀ k q m n a b o ks,(∀ t ∈ ks,M t) → M (.mk k q m n a b o ks)) : ∀ t,M t
  | .mk k q m n a b o ks=>h k q m n a b o ks fun t ht=>IEx.ind h t
termination_by t=>SizeOf.sizeOf t
decreasing_by
  have:=List.sizeOf_lt_of_mem ht
  simp only [IEx.mk.sizeOf_spec]
  omega
mutual
def encI : IEx → List AV
  | .mk k q m n a b o []=>[.int .i64 k,.int .i64 q,.str m,.str n,.int .i64 (tNode a).1,.str (tNode a).2.1,.str (tNode a).2.2.1,tKids a,.slice []]
  | .mk k q m n a b o (t :: ks)=>[.int .i64 k,.int .i64 q,.str m,.str n,.int .i64 (tNode a).1,.str (tNode a).2.1,.str (tNode a).2.2.1,tKids a,.islice b o (encI t :: encIs ks)]
def encIs : List IEx → List (List AV)
  | []=>[]
  | t :: l=>encI t :: encIs l
end
mutual
def erase : IEx → Ex
  | .mk k q m n a _ _ ks=>.mk k q m n (tErase a) (erases ks)
def erases : List IEx → List Ex
  | []=>[]
  | t :: l=>erase t :: erases l
end
mutual
def isz : IEx → Nat
  | .mk _ _ _ _ _ _ _ ks=>1 + iszs ks
def iszs : List IEx → Nat
  | []=>0
  | t :: l=>isz t + iszs l
end
theorem encIs_map : ∀ l,encIs l = l.map encI
  | []=>rfl
  | t :: l=>by rw [encIs,encIs_map l]; rfl
theorem encIs_length (l : List IEx) : (encIs l).length = l.length:=by rw [encIs_map]; simp
theorem erases_map : ∀ l,erases l = l.map erase
  | []=>rfl
  | t :: l=>by rw [erases,erases_map l]; rfl
def it0 : IEx:=.mk 0 0 [] [] (Go.Proofs.Ytijlnkfiadajhaa.it0) 0 0 []
theorem encIs_getD {l : List IEx} {i : Nat} (h : i < l.length) : (encIs l).getD i [] = encI (l.getD i it0):=by
  rw [encIs_map]; simp [List.getD,h]
theorem encI_length (t : IEx) : (encI t).length = 9:=by
  obtain ⟨k,q,m,n,a,b,o,ks⟩:=t
  cases ks <;> rw [encI] <;> rfl
theorem encI_leaf (t : IEx) : ∀ v ∈ encI t,isLeaf v = true:=by
  obtain ⟨k,q,m,n,a,b,o,ks⟩:=t
  have:=tKids_leaf a
  cases ks <;> rw [encI] <;> simp [isLeaf] <;> exact this
theorem iszs_mem {t : IEx} {l : List IEx} (h : t ∈ l) : isz t ≤ iszs l:=by
  induction l with
  | nil=>simp at h
  | cons u l ih =>
    rw [iszs]
    rcases List.mem_cons.1 h with rfl | h
    · omega
    · have:=ih h; omega
structure LL where
  b : Nat
  off : Nat
  hd : IEx
  tl : List IEx
def LL.ks (x : LL) : List IEx:=x.hd :: x.tl
def LL.idn (x : LL) : Nat × Nat × Nat:=(x.b,x.off,x.ks.length)
def LL.sz (x : LL) : Nat:=iszs x.ks
def below : IEx → Option LL
  | .mk _ _ _ _ _ _ _ []=>none
  | .mk _ _ _ _ _ b o (t :: ks)=>some ⟨b,o,t,ks⟩
def node : IEx → (Int × Int × List UInt8 × List UInt8 × Ty) × Nat
  | .mk k q m n a _ _ ks=>((k,q,m,n,tErase a),ks.length)
structure Univ (U : List LL) : Prop where
  inj : ∀ x ∈ U,∀ y ∈ U,x.idn = y.idn → x = y
  down : ∀ x ∈ U,∀ t ∈ x.ks,∀ y,below t = some y → y ∈ U
inductive Eqv (J : List (LL × LL)) : LL → LL → Prop
  | base {x y : LL} : (x,y) ∈ J → Eqv J x y
  | refl (x : LL) : Eqv J x x
  | symm {x y : LL} : Eqv J x y → Eqv J y x
  | trans {x y z : LL} : Eqv J x y → Eqv J y z → Eqv J x z
theorem Eqv.mono {J J' : List (LL × LL)} (hs : ∀ p ∈ J,p ∈ J') {x y : LL} (h : Eqv J x y) : Eqv J' x y:=by
  induction h with
  | base h=>exact .base (hs _ h)
  | refl x=>exact .refl x
  | symm _ ih=>exact .symm ih
  | trans _ _ ih1 ih2=>exact .trans ih1 ih2
def Near (R : LL → LL → Prop) (s t : IEx) : Prop :=
  node s = node t ∧ ((below s = none ∧ below t = none) ∨ ∃ x y,below s = some x ∧ below t = some y ∧ R x y)
def Bis (R : LL → LL → Prop) (x y : LL) : Prop:=x.ks.length = y.ks.length ∧ ∀ i,i < x.ks.length → Near R (x.ks.getD i it0) (y.ks.getD i it0)
theorem Near.refl {R : LL → LL → Prop} (hr : ∀ x,R x x) (s : IEx) : Near R s s:=by
  refine ⟨rfl,?_⟩
  cases h : below s with
  | none=>exact .inl ⟨rfl,rfl⟩
  | some x=>exact .inr ⟨x,x,rfl,rfl,hr x⟩
theorem Near.symm {R : LL → LL → Prop} (hs : ∀ x y,R x y → R y x) {s t : IEx} (h : Near R s t) : Near R t s:=by
  refine ⟨h.1.symm,?_⟩
  rcases h.2 with ⟨h1,h2⟩ | ⟨x,y,h1,h2,h3⟩
  · exact .inl ⟨h2,h1⟩
  · exact .inr ⟨y,x,h2,h1,hs _ _ h3⟩
theorem Near.trans {R : LL → LL → Prop} (ht : ∀ x y z,R x y → R y z → R x z) {s t u : IEx} (h : Near R s t) (k : Near R t u) : Near R s u:=by
  refine ⟨h.1.trans k.1,?_⟩
  rcases h.2 with ⟨h1,h2⟩ | ⟨x,y,h1,h2,h3⟩
  · rcases k.2 with ⟨k1,k2⟩ | ⟨x',y',k1,k2,k3⟩
    · exact .inl ⟨h1,k2⟩
    · rw [h2] at k1; cases k1
  · rcases k.2 with ⟨k1,k2⟩ | ⟨x',y',k1,k2,k3⟩
    · rw [h2] at k1; cases k1
    · rw [h2] at k1; cases k1
      exact .inr ⟨x,y',h1,k2,ht _ _ _ h3 k3⟩
theorem bis_all {J : List (LL × LL)} (hj : ∀ p ∈ J,Bis (Eqv J) p.1 p.2) {x y : LL} (h : Eqv J x y) : Bis (Eqv J) x y:=by
  induction h with
  | base h=>exact hj _ h
  | refl x=>exact ⟨rfl,fun i _=>Near.refl (fun x=>.refl x) _⟩
  | symm _ ih=>exact ⟨ih.1.symm,fun i hi=>(ih.2 i (by rw [ih.1]; exact hi)).symm fun _ _ h=>.symm h⟩
  | trans _ _ ih1 ih2=>exact ⟨ih1.1.trans ih2.1,fun i hi=>(ih1.2 i hi).trans (fun _ _ _ h k=>.trans h k) (ih2.2 i (by rw [← ih1.1]; exact hi))⟩
theorem below_ks {t : IEx} {x : LL} (h : below t = some x) : ∃ k q m n a,t = .mk k q m n a x.b x.off x.ks:=by
  obtain ⟨k,q,m,n,a,b,o,ks⟩:=t
  cases ks with
  | nil=>simp [below] at h
  | cons t ks=>simp [below] at h; subst h; exact ⟨k,q,m,n,a,rfl⟩
theorem below_none {t : IEx} (h : below t = none) : ∃ k q m n a b o,t = .mk k q m n a b o []:=by
  obtain ⟨k,q,m,n,a,b,o,ks⟩:=t
  cases ks with
  | nil=>exact ⟨k,q,m,n,a,b,o,rfl⟩
  | cons t ks=>simp [below] at h
theorem erases_ext {l l' : List IEx} (hl : l.length = l'.length) (h : ∀ i,i < l.length → erase (l.getD i it0) = erase (l'.getD i it0)) : erases l = erases l':=by
  induction l generalizing l' with
  | nil=>cases l' with
    | nil=>rfl
    | cons=>simp at hl
  | cons t l ih=>cases l' with
    | nil=>simp at hl
    | cons t' l' =>
      rw [erases,erases]
      have h0:=h 0 (by simp)
      simp only [List.getD_cons_zero] at h0
      rw [h0,ih (by simpa using hl) fun i hi=>by have:=h (i + 1) (by simpa using hi); simpa using this]
theorem near_erase {R : LL → LL → Prop} {s t : IEx} (h : Near R s t) (hr : ∀ x y,below s = some x → below t = some y → R x y → erases x.ks = erases y.ks) : erase s = erase t:=by
  obtain ⟨h1,h2⟩:=h
  rcases h2 with ⟨ha,hb⟩ | ⟨x,y,ha,hb,hc⟩
  · obtain ⟨k,q,m,n,a,b1,o1,rfl⟩:=below_none ha
    obtain ⟨k',q',m',n',a',b2,o2,rfl⟩:=below_none hb
    simp only [node,Prod.mk.injEq] at h1
    obtain ⟨⟨rfl,rfl,rfl,rfl,h2⟩,_⟩:=h1
    rw [erase,erase,h2]
  · have he:=hr x y ha hb hc
    obtain ⟨k,q,m,n,a,rfl⟩:=below_ks ha
    obtain ⟨k',q',m',n',a',rfl⟩:=below_ks hb
    simp only [node,Prod.mk.injEq] at h1
    obtain ⟨⟨rfl,rfl,rfl,rfl,h2⟩,_⟩:=h1
    rw [erase,erase,he,h2]
theorem same_all {J : List (LL × LL)} (hj : ∀ p ∈ J,Bis (Eqv J) p.1 p.2) : ∀ (n : Nat) (x y : LL),x.sz ≤ n → Eqv J x y → erases x.ks = erases y.ks:=by
  intro n
  induction n with
  | zero =>
    intro x y hn
    exfalso
    have : 1 ≤ x.sz:=by
      unfold LL.sz LL.ks
      rw [iszs]
      obtain ⟨k,q,m,n,a,b,o,ks⟩:=x.hd
      rw [isz]; omega
    omega
  | succ n ih =>
    intro x y hn h
    obtain ⟨h1,h2⟩:=bis_all hj h
    refine erases_ext h1 fun i hi=>near_erase (h2 i hi) fun u v hu hv hr=>ih u v ?_ hr
    have hm : x.ks.getD i it0 ∈ x.ks:=Abs.getD_mem hi
    have:=iszs_mem hm
    obtain ⟨k,q,m,nn,a,he⟩:=below_ks hu
    rw [he,isz] at this
    unfold LL.sz at hn ⊢
    omega
theorem nodup_le {α : Type} [DecidableEq α] : ∀ (l U : List α),l.Nodup → (∀ x ∈ l,x ∈ U) → l.length ≤ U.length
  | [],U,_,_=>by simp
  | x :: l,U,hn,hs=>by
    have hx:=hs x (by simp)
    obtain ⟨h1,h2⟩:=List.nodup_cons.1 hn
    have:=nodup_le l (U.erase x) h2 fun y hy=>by
      have hne : y ≠ x:=fun e=>h1 (e ▸ hy)
      exact (List.mem_erase_of_ne hne).2 (hs y (by simp [hy]))
    rw [List.length_erase_of_mem hx] at this
    have : 0 < U.length:=List.length_pos_of_mem hx
    simp only [List.length_cons]
    omega
end Go.Proofs.Ytijlnkfiadajhaa.SX
/- The document's ExprSame. -/
set_option linter.unusedVariables false
set_option linter.unusedSimpArgs false
namespace Go.Proofs.Ytijlnkfiadajhaa
open Go.Abs
theorem take_eqX {l l' : List Ex} (hl : l.length = l'.length) (h : ∀ i,i < l.length → l.getD i ex0 = l'.getD i ex0) : l = l':=by
  apply List.ext_getElem hl
  intro i hi hi'
  have:=h i hi
  rw [gdS _ _ _ hi,gdS _ _ _ hi'] at this
  exact this
set_option maxRecDepth 100000 in
set_option maxHeartbeats 2000000 in
theorem spec_ExprSame (σ : Ex) (hσ : σ.Ok) : ∀ (τ : Ex) (A : List Box),ACalls Try.prog 18 [.agg (encX σ),.agg (encX τ)] A (fun r A'=>r = .bool (decide (σ = τ)) ∧ A' = A):=by
  induction σ using Ex.ind with
  | h k q m n a ks ih =>
    rintro ⟨k',q',m',n',a',ks'⟩ A
    cases hσ with
    | mk hm hn hao hks hok =>
    have hta:=spec_TypeSame a hao a'
    rw [encT4,encT4] at hta
    rw [encX,encX]
    have no : ∀ P : Prop,(Ex.mk k q m n a ks = .mk k' q' m' n' a' ks' → P) → ¬ P → decide (Ex.mk k q m n a ks = .mk k' q' m' n' a' ks') = false:=fun P h1 h2=>decide_eq_false fun e=>h2 (h1 e)
    by_cases h1 : k = k'
    · by_cases h2 : q = q'
      · by_cases h3 : m = m'
        · by_cases h4 : n = n'
          · by_cases h5 : a = a'
            · by_cases h6 : ks.length = ks'.length
              · have d6 : decide (((ks.length : Nat) : Int) = (ks'.length : Nat)) = true:=decide_eq_true (by omega)
                refine acalls_enter (cf:=cf 68 [0,1,2,3,4,5,48,53,67]) foll Try.func18 Try.ntmps18 (by simp [cf]) ?_
                simp only [Try.f18,EnterK_some,zW,zX,zD,builtinA,isLeaf,const1,ustrA,simprocAttr,ti3,ti9,ti50,ti51,ti53,ca18,ca48,cf,Try.results18]
                simp only [zW,zX,zD,builtinA,isLeaf,const1,ustrA,simprocAttr,ti3,ti9,ti50,ti51,ti53,ca18,ca48,cf,Try.results18,decide_eq_true h1,decide_eq_true h2,decide_eq_true h3,decide_eq_true h4,Bool.not_true]
                refine callK_intro (by simp only [zW,zX,zD,builtinA,isLeaf,const1,ustrA,simprocAttr,Option.map_some]; rfl) (hta _) ?_ rfl; rintro v A' ⟨rfl,rfl⟩
                simp only [zW,zX,zD,builtinA,isLeaf,const1,ustrA,simprocAttr,ti3,ti9,ti50,ti51,ti53,ca18,ca48,cf,Try.results18,decide_eq_true h5,d6,encXs_length,Bool.not_true]
                refine aloop_intro [2,3,5] (fun e A'=>∃ i,i ≤ ks.length ∧ e = [(2,.ptr A.length 0),(3,.ptr (A.length + 1) 0),(5,.int .i64 i)] ∧ A' = A ++ [.cells [.int .i64 k,.int .i64 q,.str m,.str n,.int .i64 a.kind,.str a.mod,.str a.name,.slice (encs a.kids),.slice (encXs ks)],.cells [.int .i64 k',.int .i64 q',.str m',.str n',.int .i64 a'.kind,.str a'.mod,.str a'.name,.slice (encs a'.kids),.slice (encXs ks')]] ∧ ∀ j,j < i → ks.getD j ex0 = ks'.getD j ex0) (fun e _=>ks.length - (intOf (Abs.look 5 e)).toNat) ?_ ?_
                · simp only [zW,zX,zD,builtinA,isLeaf,const1,ustrA,simprocAttr,ti3,ti9,ti50,ti51,ti53,ca18,ca48,cf,Try.results18]
                  exact ⟨0,by omega,rfl,by simp⟩
                · rintro e A' ⟨i,hi,rfl,rfl,heq⟩
                  have hl' : (encXs ks').length = ks.length:=(encXs_length _).trans h6.symm
                  by_cases hlt : i < ks.length
                  · have hlt1 : decide (((i : Nat) : Int) < (ks.length : Nat)) = true:=decide_eq_true (by omega)
                    have he:=encXs_getD hlt
                    have he':=encXs_getD (show i < ks'.length by omega)
                    have hm:=Abs.getD_mem (d:=ex0) hlt
                    have hi1 : IntKind.i64.wrap ((i : Int) + 1) = ((i + 1 : Nat) : Int):=by rw [wrap64 (by omega) (by omega)]; rfl
                    simp only [zW,zX,zD,builtinA,isLeaf,const1,ustrA,simprocAttr,ti3,ti9,ti50,ti51,ti53,ca18,ca48,cf,Try.results18,hlt1,he,he',hl',encX_length,encX_take,encXs_length]
                    refine .inl ⟨by kernel_rfl,by kernel_rfl,⟨by omega,by omega⟩,⟨by omega,by omega⟩,?_⟩
                    refine callD_intro (by simp only [zW,zX,zD,builtinA,isLeaf,const1,ustrA,simprocAttr,frzL_encX,Option.map_some] <;> rfl) (ih _ hm (hok _ hm) (ks'.getD i ex0) _) ?_ rfl
                    by_cases hq : ks.getD i ex0 = ks'.getD i ex0
                    · simp only [zW,zX,zD,builtinA,isLeaf,const1,ustrA,simprocAttr,ti3,ti9,ti50,ti51,ti53,ca18,ca48,cf,Try.results18,decide_eq_true hq,Bool.not_true,hi1,LoopK_eq]
                      refine ⟨⟨i + 1,by omega,rfl,fun j hj=>?_⟩,?_⟩
                      · rcases Nat.lt_or_ge j i with h | h
                        · exact heq j h
                        · obtain rfl : j = i:=by omega
                          exact hq
                      · simp only [intOf]
                        omega
                    · rw [no (ks.getD i ex0 = ks'.getD i ex0) (fun e=>by injection e with _ _ _ _ _ e; rw [e]) hq]
                      simp only [zW,zX,zD,builtinA,isLeaf,const1,ustrA,simprocAttr,ti3,ti9,ti50,ti51,ti53,ca18,ca48,cf,Try.results18,decide_eq_false hq,Bool.not_false]
                  · have hlt1 : decide (((i : Nat) : Int) < (ks.length : Nat)) = false:=decide_eq_false (by omega)
                    have : ks = ks':=take_eqX h6 fun j hj=>heq j (by omega)
                    have hd : decide (Ex.mk k q m n a ks = Ex.mk k' q' m' n' a' ks') = true:=decide_eq_true (by rw [h1,h2,h3,h4,h5,this])
                    simp only [zW,zX,zD,builtinA,isLeaf,const1,ustrA,simprocAttr,ti3,ti9,ti50,ti51,ti53,ca18,ca48,cf,Try.results18,hlt1,hl',encXs_length]
                    rw [hd]
              · have d6 : decide (((ks.length : Nat) : Int) = (ks'.length : Nat)) = false:=decide_eq_false (by omega)
                rw [no (ks.length = ks'.length) (fun e=>by injection e with _ _ _ _ _ e; rw [e]) h6]
                refine acalls_enter (cf:=cf 68 [0,1,2,3,4,5,48,53,67]) foll Try.func18 Try.ntmps18 (by simp [cf]) ?_
                simp only [Try.f18,EnterK_some,zW,zX,zD,builtinA,isLeaf,const1,ustrA,simprocAttr,ti3,ti9,ti50,ti51,ti53,ca18,ca48,cf,Try.results18]
                simp only [zW,zX,zD,builtinA,isLeaf,const1,ustrA,simprocAttr,ti3,ti9,ti50,ti51,ti53,ca18,ca48,cf,Try.results18,decide_eq_true h1,decide_eq_true h2,decide_eq_true h3,decide_eq_true h4,Bool.not_true]
                refine callK_intro (by simp only [zW,zX,zD,builtinA,isLeaf,const1,ustrA,simprocAttr,Option.map_some]; rfl) (hta _) ?_ rfl; rintro v A' ⟨rfl,rfl⟩
                simp only [zW,zX,zD,builtinA,isLeaf,const1,ustrA,simprocAttr,ti3,ti9,ti50,ti51,ti53,ca18,ca48,cf,Try.results18,decide_eq_true h5,d6,encXs_length,Bool.not_true,Bool.not_false]
            · rw [no (a = a') (fun e=>by injection e) h5]
              refine acalls_enter (cf:=cf 68 [0,1,2,3,4,5,48,53,67]) foll Try.func18 Try.ntmps18 (by simp [cf]) ?_
              simp only [Try.f18,EnterK_some,zW,zX,zD,builtinA,isLeaf,const1,ustrA,simprocAttr,ti3,ti9,ti50,ti51,ti53,ca18,ca48,cf,Try.results18]
              simp only [zW,zX,zD,builtinA,isLeaf,const1,ustrA,simprocAttr,ti3,ti9,ti50,ti51,ti53,ca18,ca48,cf,Try.results18,decide_eq_true h1,decide_eq_true h2,decide_eq_true h3,decide_eq_true h4,Bool.not_true]
              refine callK_intro (by simp only [zW,zX,zD,builtinA,isLeaf,const1,ustrA,simprocAttr,Option.map_some]; rfl) (hta _) ?_ rfl; rintro v A' ⟨rfl,rfl⟩
              simp only [zW,zX,zD,builtinA,isLeaf,const1,ustrA,simprocAttr,ti3,ti9,ti50,ti51,ti53,ca18,ca48,cf,Try.results18,decide_eq_false h5,Bool.not_true,Bool.not_false]
          · rw [no (n = n') (fun e=>by injection e) h4]
            refine acalls_enter (cf:=cf 68 [0,1,2,3,4,5,48,53,67]) foll Try.func18 Try.ntmps18 (by simp [cf]) ?_
            simp only [Try.f18,EnterK_some,zW,zX,zD,builtinA,isLeaf,const1,ustrA,simprocAttr,ti3,ti9,ti50,ti51,ti53,ca18,ca48,cf,Try.results18]
            simp only [zW,zX,zD,builtinA,isLeaf,const1,ustrA,simprocAttr,ti3,ti9,ti50,ti51,ti53,ca18,ca48,cf,Try.results18,decide_eq_true h1,decide_eq_true h2,decide_eq_true h3,decide_eq_false h4,Bool.not_true,Bool.not_false]
        · rw [no (m = m') (fun e=>by injection e) h3]
          refine acalls_enter (cf:=cf 68 [0,1,2,3,4,5,48,53,67]) foll Try.func18 Try.ntmps18 (by simp [cf]) ?_
          simp only [Try.f18,EnterK_some,zW,zX,zD,builtinA,isLeaf,const1,ustrA,simprocAttr,ti3,ti9,ti50,ti51,ti53,ca18,ca48,cf,Try.results18]
          simp only [zW,zX,zD,builtinA,isLeaf,const1,ustrA,simprocAttr,ti3,ti9,ti50,ti51,ti53,ca18,ca48,cf,Try.results18,decide_eq_true h1,decide_eq_true h2,decide_eq_false h3,Bool.not_true,Bool.not_false]
      · rw [no (q = q') (fun e=>by injection e) h2]
        refine acalls_enter (cf:=cf 68 [0,1,2,3,4,5,48,53,67]) foll Try.func18 Try.ntmps18 (by simp [cf]) ?_
        simp only [Try.f18,EnterK_some,zW,zX,zD,builtinA,isLeaf,const1,ustrA,simprocAttr,ti3,ti9,ti50,ti51,ti53,ca18,ca48,cf,Try.results18]
        simp only [zW,zX,zD,builtinA,isLeaf,const1,ustrA,simprocAttr,ti3,ti9,ti50,ti51,ti53,ca18,ca48,cf,Try.results18,decide_eq_true h1,decide_eq_false h2,Bool.not_true,Bool.not_false]
    · rw [no (k = k') (fun e=>by injection e) h1]
      refine acalls_enter (cf:=cf 68 [0,1,2,3,4,5,48,53,67]) foll Try.func18 Try.ntmps18 (by simp [cf]) ?_
      simp only [Try.f18,EnterK_some,zW,zX,zD,builtinA,isLeaf,const1,ustrA,simprocAttr,ti3,ti9,ti50,ti51,ti53,ca18,ca48,cf,Try.results18]
      simp only [zW,zX,zD,builtinA,isLeaf,const1,ustrA,simprocAttr,ti3,ti9,ti50,ti51,ti53,ca18,ca48,cf,Try.results18,decide_eq_false h1,Bool.not_true,Bool.not_false]
end Go.Proofs.Ytijlnkfiadajhaa
