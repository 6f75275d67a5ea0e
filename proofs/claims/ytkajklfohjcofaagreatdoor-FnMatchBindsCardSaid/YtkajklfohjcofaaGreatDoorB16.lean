/- SameA2, MkBd, SigFT, ValSame, AsM. -/
import Derived.Test.YtkajklfohjcofaaGreatDoorB15
import Derived.Test.YtkajklfohjcofaaGreatDoorAbsW3
import Derived.Test.YtkajklfohjcofaaGreatDoorRows
import Derived.WalkKit
import Derived.LaidEql
import Derived.RowKitTokens
/- Where the parts of a type lie; the program's TypeSame. -/
set_option linter.unusedVariables false
set_option linter.unusedSimpArgs false
namespace Go.Proofs.YtkajklfohjcofaaGreatDoor
open Go.Abs
mutual
def lists : ITy → List LL
  | .mk _ _ _ _ _ []=>[]
  | .mk _ _ _ b o (t :: ks)=>⟨b,o,t,ks⟩ :: (lists t ++ listss ks)
def listss : List ITy → List LL
  | []=>[]
  | t :: l=>lists t ++ listss l
end
mutual
def norm : ITy → Prop
  | .mk _ _ _ b o []=>b = 0 ∧ o = 0
  | .mk _ _ _ _ _ (t :: ks)=>norm t ∧ norms ks
def norms : List ITy → Prop
  | []=>True
  | t :: l=>norm t ∧ norms l
end
theorem norms_all : ∀ {l : List ITy},norms l ↔ ∀ t ∈ l,norm t
  | []=>by simp [norms]
  | t :: l=>by rw [norms,norms_all]; simp
theorem listss_mem {x : LL} : ∀ {l : List ITy},x ∈ listss l ↔ ∃ t ∈ l,x ∈ lists t
  | []=>by simp [listss]
  | t :: l=>by rw [listss,List.mem_append,listss_mem]; simp
theorem lists_eq {t : ITy} {x : LL} (h : below t = some x) : lists t = x :: listss x.ks:=by
  obtain ⟨k,m,n,b,o,ks⟩:=t
  cases ks with
  | nil=>simp [below] at h
  | cons u ks=>simp [below] at h; subst h; simp [lists,LL.ks,listss]
theorem lists_down (t : ITy) : ∀ x ∈ lists t,∀ u ∈ x.ks,∀ y,below u = some y → y ∈ lists t:=by
  induction t using ITy.ind with
  | h k m n b o ks ih =>
    cases ks with
    | nil=>simp [lists]
    | cons t ks =>
      intro x hx u hu y hy
      have he:=lists_eq (t:=.mk k m n b o (t :: ks)) (x:=⟨b,o,t,ks⟩) rfl
      rw [he] at hx ⊢
      have hsub : ∀ v ∈ (⟨b,o,t,ks⟩ : LL).ks,∀ z,z ∈ lists v → z ∈ listss (⟨b,o,t,ks⟩ : LL).ks:=fun v hv z hz=>listss_mem.2 ⟨v,hv,hz⟩
      rcases List.mem_cons.1 hx with rfl | hx
      · refine List.mem_cons_of_mem _ (hsub u hu y ?_)
        rw [lists_eq hy]; simp
      · obtain ⟨v,hv,hxv⟩:=listss_mem.1 hx
        exact List.mem_cons_of_mem _ (hsub v hv y (ih v hv x hxv u hu y hy))
mutual
theorem lists_len : ∀ t : ITy,(lists t).length ≤ sz (erase t)
  | .mk k m n b o []=>by simp [lists]
  | .mk k m n b o (t :: ks)=>by
    have h1:=lists_len t
    have h2:=listss_len ks
    simp only [lists,erase,erases,sz,szs,List.length_cons,List.length_append]
    omega
theorem listss_len : ∀ l : List ITy,(listss l).length ≤ szs (erases l)
  | []=>by simp [listss]
  | t :: l=>by
    have h1:=lists_len t
    have h2:=listss_len l
    simp only [listss,erases,szs,List.length_append]
    omega
end
theorem gd {α : Type} (l : List α) (i : Nat) (d : α) (h : i < l.length) : l.getD i d = l[i]:=by simp [List.getD,h]
theorem islice_inv {G : Ghost} {w : World} {b off : Nat} {rows : List (List AV)} {x : Value} (h : RV G w (.islice b off rows) x) : ∃ cap sz,∃ X : Nat → Nat → Value,x = .slice (some ⟨b,off,none⟩) rows.length cap ∧ (∀ r ∈ rows,r.length = sz) ∧
    (∀ i j,i < rows.length → j < sz → w.cell? ⟨b,off + (i * sz + j),none⟩ = some (X i j)) ∧ ∀ i j,i < rows.length → j < sz → RV G w (Go.Abs.rowAt rows i j) (X i j):=by
  cases h with
  | islice _ _ _ cap sz X hr hcap hx hI hz hsz hl hh=>exact ⟨cap,sz,X,rfl,fun r hr'=>(hr r hr').1,hx,hh⟩
mutual
theorem lists_ks (x : LL) : ∀ t : ITy,x ∈ lists t → x.ks.length ≤ sz (erase t)
  | .mk k m n b o []=>by simp [lists]
  | .mk k m n b o (t :: ks)=>fun h=>by
    simp only [lists,List.mem_cons,List.mem_append] at h
    simp only [erase,erases,sz,szs]
    rcases h with rfl | h | h
    · have h1 : (erases ks).length = ks.length:=by rw [erases_map,List.length_map]
      show (t :: ks).length ≤ _
      simp only [List.length_cons]; omega
    · have:=lists_ks x t h; omega
    · have:=listss_ks x ks h; omega
theorem listss_ks (x : LL) : ∀ l : List ITy,x ∈ listss l → x.ks.length ≤ szs (erases l)
  | []=>by simp [listss]
  | t :: l=>fun h=>by
    simp only [listss,List.mem_append] at h
    simp only [erases,szs]
    rcases h with h | h
    · have:=lists_ks x t h; omega
    · have:=listss_ks x l h; omega
end
def R4 (G : Ghost) (w : World) (τ : Ty) (X : Nat → Value) : Prop:=∀ j,j < 4 → RV G w ((enc τ).getD j .bot) (X j)
def T4 (G : Ghost) (w : World) (t : ITy) (X : Nat → Value) : Prop:=∀ j,j < 4 → RV G w ((encI t).getD j .bot) (X j)
theorem uniq {G : Ghost} {w : World} (s : ITy) : ∀ (t : ITy) (X : Nat → Value),norm s → norm t → T4 G w s X → T4 G w t X → s = t:=by
  induction s using ITy.ind with
  | h k m n b o ks ih =>
    rintro ⟨k',m',n',b',o',ks'⟩ X hs ht h h'
    have h0:=h 0 (by decide); have h1:=h 1 (by decide); have h2:=h 2 (by decide); have h3:=h 3 (by decide)
    have g0:=h' 0 (by decide); have g1:=h' 1 (by decide); have g2:=h' 2 (by decide); have g3:=h' 3 (by decide)
    rw [encI_eq] at h0 h1 h2 h3 g0 g1 g2 g3
    simp only [List.getD_cons_zero,List.getD_cons_succ,node] at h0 h1 h2 h3 g0 g1 g2 g3
    generalize X 0 = v0 at h0 g0
    generalize X 1 = v1 at h1 g1
    generalize X 2 = v2 at h2 g2
    generalize X 3 = v3 at h3 g3
    have e0 : k = k':=by cases h0; cases g0; rfl
    have e1 : m = m':=by
      cases h1
      generalize hq : (⟨m.toArray⟩ : ByteArray) = q at g1
      cases g1
      injection hq with hq
      have:=congrArg Array.toList hq
      simpa using this
    have e2 : n = n':=by
      cases h2
      generalize hq : (⟨n.toArray⟩ : ByteArray) = q at g2
      cases g2
      injection hq with hq
      have:=congrArg Array.toList hq
      simpa using this
    subst e0; subst e1; subst e2
    have lens : ∀ (a : Option Addr) (l c : Nat),v3 = .slice a l c → (ks = [] → l = 0) ∧ (ks' = [] → l = 0) ∧ (ks ≠ [] → l = ks.length) ∧ (ks' ≠ [] → l = ks'.length):=by
      intro a l c hv
      subst hv
      refine ⟨fun e=>?_,fun e=>?_,fun e=>?_,fun e=>?_⟩
      · subst e; simp [kidsV,below] at h3; cases h3 <;> rfl
      · subst e; simp [kidsV,below] at g3; cases g3 <;> rfl
      · cases ks with
        | nil=>exact absurd rfl e
        | cons t ks=>simp [kidsV,below] at h3; cases h3; simp [LL.ks,encIs_length]
      · cases ks' with
        | nil=>exact absurd rfl e
        | cons t ks'=>simp [kidsV,below] at g3; cases g3; simp [LL.ks,encIs_length]
    have isS : ∃ a l c,v3 = .slice a l c:=by
      cases ks with
      | nil=>simp [kidsV,below] at h3; cases h3 <;> exact ⟨_,_,_,rfl⟩
      | cons t ks=>simp [kidsV,below] at h3; cases h3; exact ⟨_,_,_,rfl⟩
    obtain ⟨a,l,c,hv⟩:=isS
    obtain ⟨l1,l2,l3,l4⟩:=lens a l c hv
    cases ks with
    | nil =>
      cases ks' with
      | nil =>
        simp only [norm] at hs ht
        rw [hs.1,hs.2,ht.1,ht.2]
      | cons t ks' =>
        have a1:=l1 rfl
        have a2:=l4 (by simp)
        simp at a2; omega
    | cons t ks =>
      cases ks' with
      | nil =>
        have a1:=l2 rfl
        have a2:=l3 (by simp)
        simp at a2; omega
      | cons t' ks' =>
        have a1:=l3 (by simp)
        have a2:=l4 (by simp)
        simp only [kidsV,below] at h3 g3
        obtain ⟨cap,sz,X1,q1,r1,x1,z1⟩:=islice_inv h3
        obtain ⟨cap',sz',X2,q2,r2,x2,z2⟩:=islice_inv g3
        rw [q1] at q2
        simp only [Value.slice.injEq,Option.some.injEq,Addr.mk.injEq] at q2
        have hb : b = b':=q2.1.1
        have ho : o = o':=q2.1.2.1
        have hlen : (t :: ks).length = (t' :: ks').length:=by
          have:=q2.2.1
          rw [encIs_length,encIs_length] at this
          exact this
        subst hb; subst ho
        have n1 : (encIs (LL.ks ⟨b,o,t,ks⟩)).length = (t :: ks).length:=encIs_length _
        have n2 : (encIs (LL.ks ⟨b,o,t',ks'⟩)).length = (t' :: ks').length:=encIs_length _
        have e1 : sz = 4:=by
          have:=r1 (encI t) (by simp [LL.ks,encIs])
          rw [encI_length] at this; exact this.symm
        have e2 : sz' = 4:=by
          have:=r2 (encI t') (by simp [LL.ks,encIs])
          rw [encI_length] at this; exact this.symm
        subst e1; subst e2
        have key : (t :: ks) = (t' :: ks'):=by
          apply List.ext_getElem hlen
          intro i hi hi'
          have xe : ∀ j,j < 4 → X1 i j = X2 i j:=fun j hj=>by
            have:=(x1 i j (by omega) hj).symm.trans (x2 i j (by omega) hj)
            injection this
          have t1 : T4 G w ((t :: ks)[i]) (X1 i):=fun j hj=>by
            have:=z1 i j (by omega) hj
            unfold Go.Abs.rowAt at this
            rw [encIs_getD (show i < (LL.ks ⟨b,o,t,ks⟩).length from hi),gd _ _ _ (show i < (LL.ks ⟨b,o,t,ks⟩).length from hi)] at this
            exact this
          have t2 : T4 G w ((t' :: ks')[i]) (X1 i):=fun j hj=>by
            have:=z2 i j (by omega) hj
            unfold Go.Abs.rowAt at this
            rw [encIs_getD (show i < (LL.ks ⟨b,o,t',ks'⟩).length from hi'),gd _ _ _ (show i < (LL.ks ⟨b,o,t',ks'⟩).length from hi'),← xe j hj] at this
            exact this
          simp only [norm] at hs ht
          have ns : ∀ u ∈ (t :: ks),norm u:=fun u hu=>by
            rcases List.mem_cons.1 hu with rfl | hu
            · exact hs.1
            · exact norms_all.1 hs.2 u hu
          have nt : ∀ u ∈ (t' :: ks'),norm u:=fun u hu=>by
            rcases List.mem_cons.1 hu with rfl | hu
            · exact ht.1
            · exact norms_all.1 ht.2 u hu
          exact ih _ (List.getElem_mem hi) _ _ (ns _ (List.getElem_mem hi)) (nt _ (List.getElem_mem hi')) t1 t2
        rw [key]
def LLok (G : Ghost) (w : World) (x : LL) : Prop:=∃ Y : Nat → Nat → Value,(∀ t ∈ x.ks,norm t) ∧ ∀ i,i < x.ks.length → T4 G w (x.ks.getD i it0) (Y i) ∧ ∀ j,j < 4 → w.cell? ⟨x.b,x.off + (i * 4 + j),none⟩ = some (Y i j)
theorem LLok.inj {G : Ghost} {w : World} {x y : LL} (hx : LLok G w x) (hy : LLok G w y) (h : x.idn = y.idn) : x = y:=by
  obtain ⟨X,n1,h1⟩:=hx
  obtain ⟨Y,n2,h2⟩:=hy
  simp only [LL.idn,Prod.mk.injEq] at h
  obtain ⟨e1,e2,e3⟩:=h
  have key : x.ks = y.ks:=by
    apply List.ext_getElem e3
    intro i hi hi'
    obtain ⟨a1,a2⟩:=h1 i hi
    obtain ⟨b1,b2⟩:=h2 i hi'
    have xe : ∀ j,j < 4 → X i j = Y i j:=fun j hj=>by
      have c1:=a2 j hj
      have c2:=b2 j hj
      rw [e1,e2,c2] at c1
      injection c1 with c1
      exact c1.symm
    have g1 : x.ks.getD i it0 = x.ks[i]:=by simp [List.getD,hi]
    have g2 : y.ks.getD i it0 = y.ks[i]:=by simp [List.getD,hi']
    rw [g1] at a1
    rw [g2] at b1
    exact uniq _ _ (X i) (n1 _ (List.getElem_mem hi)) (n2 _ (List.getElem_mem hi')) a1 fun j hj=>by rw [xe j hj]; exact b1 j hj
  obtain ⟨b,o,h,t⟩:=x
  obtain ⟨b',o',h',t'⟩:=y
  simp only [LL.ks,List.cons.injEq] at key e1 e2
  obtain ⟨rfl,rfl⟩:=key
  subst e1; subst e2
  rfl
theorem annot {G : Ghost} {w : World} (τ : Ty) : ∀ (X : Nat → Value),R4 G w τ X → ∃ t,erase t = τ ∧ norm t ∧ T4 G w t X ∧ ∀ x ∈ lists t,LLok G w x:=by
  induction τ using Ty.ind with
  | h k m n ks ih =>
    intro X hX
    have h0:=hX 0 (by decide); have h1:=hX 1 (by decide); have h2:=hX 2 (by decide); have h3:=hX 3 (by decide)
    rw [enc] at h0 h1 h2 h3
    simp only [List.getD_cons_zero,List.getD_cons_succ] at h0 h1 h2 h3
    cases ks with
    | nil =>
      refine ⟨.mk k m n 0 0 [],by simp [erase,erases],⟨rfl,rfl⟩,fun j hj=>?_,by simp [lists]⟩
      rw [encI]
      match j,hj with
      | 0,_=>exact h0
      | 1,_=>exact h1
      | 2,_=>exact h2
      | 3,_=>simpa [encs] using h3
    | cons t0 ks =>
      generalize hv : X 3 = v3 at h3
      generalize hL : encs (t0 :: ks) = L at h3
      have hLl : L.length = (t0 :: ks).length:=by rw [← hL,encs_length]
      cases h3 with
      | slice0=>simp at hLl
      | sliceE=>simp at hLl
      | slice _ b off cap sz Y hr hcap hx hI hz hh =>
        have hl : 0 < L.length:=by rw [hLl]; simp
        have r1 : sz = 4:=by
          have:=(hr _ (Abs.getD_mem (d:=[]) hl)).1
          rw [← hL,encs_getD (by simp),enc_length] at this
          omega
        subst r1
        have each : ∀ i,i < (t0 :: ks).length → ∃ t,erase t = (t0 :: ks).getD i ty0 ∧ norm t ∧ T4 G w t (Y i) ∧ ∀ x ∈ lists t,LLok G w x:=fun i hi=>by
          refine ih _ (getD_mem hi) (Y i) fun j hj=>?_
          have:=hh i j (by omega) hj
          unfold Go.Abs.rowAt at this
          rwa [← hL,encs_getD hi] at this
        obtain ⟨ts,hts,hq⟩:=list_of it0 each
        match ts,hts,hq with
        | u :: us,hts,hq =>
          have er : erases (u :: us) = t0 :: ks:=by
            rw [erases_map]
            apply List.ext_getElem (by simpa using hts)
            intro i hi hi'
            have:=(hq i hi').1
            have hil : i < (u :: us).length:=by simpa using hi
            rw [gd _ _ _ hil,gd _ _ _ hi'] at this
            rw [List.getElem_map]
            exact this
          have hxk : (⟨b,off,u,us⟩ : LL).ks = u :: us:=rfl
          have hok : LLok G w ⟨b,off,u,us⟩:=by
            refine ⟨Y,fun t ht=>?_,fun i hi=>?_⟩
            · rw [hxk] at ht
              obtain ⟨i,hi,rfl⟩:=List.mem_iff_getElem.1 ht
              have:=(hq i (by omega)).2.1
              rw [gd _ _ _ hi] at this
              exact this
            · rw [hxk] at hi ⊢
              exact ⟨(hq i (by omega)).2.2.1,fun j hj=>hx i j (by omega) hj⟩
          refine ⟨.mk k m n b off (u :: us),by rw [erase,er],?_,fun j hj=>?_,fun x hx'=>?_⟩
          · have hn : ∀ t ∈ (u :: us),norm t:=hok.choose_spec.1
            simp only [norm]
            exact ⟨hn u (by simp),norms_all.2 fun t ht=>hn t (by simp [ht])⟩
          · rw [encI]
            match j,hj with
            | 0,_=>exact h0
            | 1,_=>exact h1
            | 2,_=>exact h2
            | 3,_ =>
              show RV G w (.islice b off (encIs (u :: us))) (X 3)
              rw [hv]
              have hil : (encIs (u :: us)).length = L.length:=by rw [encIs_length]; omega
              have:=RV.islice (G:=G) (w:=w) (encIs (u :: us)) b off cap 4 Y (fun r hr'=>by
                  rw [encIs_map] at hr'
                  obtain ⟨t,_,rfl⟩:=List.mem_map.1 hr'
                  exact ⟨encI_length t,encI_leaf t⟩) (by omega) (fun i j hi hj=>hx i j (by omega) hj) (fun i j hi hj=>hI i j (by omega) hj) (hz hl (by decide)) (by decide) (by omega) (fun i j hi hj=>by
                  unfold Go.Abs.rowAt
                  rw [encIs_getD (by rw [encIs_length] at hi; exact hi)]
                  exact (hq i (by rw [encIs_length] at hi; omega)).2.2.1 j hj)
              rw [hil] at this
              exact this
          · rw [lists_eq (t:=.mk k m n b off (u :: us)) (x:=⟨b,off,u,us⟩) rfl] at hx'
            rcases List.mem_cons.1 hx' with rfl | hx'
            · exact hok
            · obtain ⟨t,ht,hxt⟩:=listss_mem.1 hx'
              rw [hxk] at ht
              obtain ⟨i,hi,rfl⟩:=List.mem_iff_getElem.1 ht
              have:=(hq i (by omega)).2.2.2 x
              have e : (u :: us).getD i it0 = (u :: us)[i]:=gd _ _ _ hi
              rw [e] at this
              exact this hxt
        | [],hts,_=>simp at hts
set_option maxRecDepth 100000 in
theorem tc_new (A : List Box) : ACalls Tryz.prog 71 [] A (fun r A'=>r = .agg [tF1,tF2,.map (A.length + 1)] ∧ A' = A ++ [.cells [tF1,tF2,.map (A.length + 1)],.mapb []]):=by
  simp only [tF1,tF2]
  refine acalls_enterK (cf:=cf 7 [0,1,2]) foll Tryz.func71 Tryz.ntmps71 (by simp [cf]) ?_
  simp only [Tryz.f71,EnterK_some,zW,zX,zD,builtinA,isLeaf,const1,ustrA,simprocAttr,ti109,ti111,cf,Tryz.results71]
set_option maxRecDepth 100000 in
theorem impl_TypeSameI {U : List LL} (hU : Univ U) (hN : U.length ≤ 100000000) (hL : ∀ x ∈ U,x.ks.length ≤ 1000000000) (a0 b0 : ITy) (ha : ∀ x,below a0 = some x → x ∈ U) (hb : ∀ x,below b0 = some x → x ∈ U) (A : List Box) :
    ACalls Tryz.prog 36 [.agg (encI a0),.agg (encI b0)] A (fun r A'=>r = .bool (decide (erase a0 = erase b0)) ∧ A' = A):=by
  have hc0 : ClS U []:=⟨[],⟨by simp,by simp,by simp⟩,by simp⟩
  have hg : (A ++ [Box.cells (encI a0),.cells (encI b0),.cells [tF1,tF2,.map (A.length + 3)],.mapb []]).getD (A.length + 3) .dead = .mapb (esOf []):=by
    rw [Abs.getD_append_right (by omega),show A.length + 3 - A.length = 3 by omega]; rfl
  have hsm:=sameI hU hN hL a0 b0 ha hb (A.length + 3) [] hc0 (A ++ [Box.cells (encI a0),.cells (encI b0),.cells [tF1,tF2,.map (A.length + 3)],.mapb []]) (by simp) hg
  have htc:=tc_new (A ++ [Box.cells (encI a0),.cells (encI b0)])
  simp only [List.length_append,List.length_cons,List.length_nil,List.append_assoc,List.cons_append,List.nil_append,Nat.add_assoc,Nat.reduceAdd] at htc
  refine acalls_enter (cf:=cf 9 [0,1,2,3,4]) foll Tryz.func36 Tryz.ntmps36 (by simp [cf]) ?_
  simp only [Tryz.f36,EnterK_some,zW,zX,zD,builtinA,isLeaf,const1,ustrA,simprocAttr,ti45,ca71,ca72,cf,Tryz.results36]
  refine .inr (drawM_intro [3] .done [(true,0,0),(false,0,1),(false,0,1),(true,1,1),(false,2,2)] [A ++ [.cells (encI a0),.cells (encI b0)],A ++ [.cells (encI a0),.cells (encI b0),.cells [tF1,tF2,.map (A.length + 3)],.mapb []]] 2 5 rfl (by kernel_rfl) (by kernel_rfl) ?_)
  simp only [zW,zX,zD,builtinA,isLeaf,const1,ustrA,simprocAttr,ti45,ca71,ca72,cf,Tryz.results36,wpMG_cons,wpMG_nil,wpY_done_eq,List.take_succ_cons,List.take_zero,List.drop_succ_cons,List.drop_zero]
  refine callEO_intro htc ?_ rfl
  simp only [zW,zX,zD,builtinA,isLeaf,const1,ustrA,simprocAttr,ti45,ca71,ca72,cf,Tryz.results36,wpMG_cons,wpMG_nil,wpY_done_eq,encI_take,List.take_succ_cons,List.take_zero,List.drop_succ_cons,List.drop_zero]
  refine ⟨by rw [encI_length]; omega,by rw [encI_length]; omega,by rw [encI_length]; omega,by rw [encI_length]; omega,?_⟩
  refine callO_intro hsm ?_
  rintro r A2 ⟨m',rfl,rfl,_⟩
  refine ⟨[[],[],_],rfl,?_⟩
  simp only [zW,zX,zD,builtinA,isLeaf,const1,ustrA,simprocAttr,ti45,ca71,ca72,cf,Tryz.results36,wpMG_nil,wpY_done_eq,List.drop_succ_cons,List.drop_zero]
theorem impl_TypeSame (a b : Ty) (ha : sz a ≤ 10000000) (hb : sz b ≤ 10000000) (A : List Box) :
    ACalls Tryz.prog 36 [.agg (enc a),.agg (enc b)] A (fun r A'=>r = .bool (decide (a = b)) ∧ A' = A):=by
  intro G w base xs hH hx
  have hx':=hx
  obtain ⟨x,y,hxy,h1,h2⟩:=hx.two
  cases h1 with
  | agg _ us hus huc huh =>
    cases h2 with
    | agg _ vs hvs hvc hvh =>
      have la:=enc_length a
      have lb:=enc_length b
      obtain ⟨s,e1,n1,t1,k1⟩:=annot (G:=G) (w:=w) a (fun j=>us.getD j undef) fun j hj=>huh j (by omega)
      obtain ⟨t,e2,n2,t2,k2⟩:=annot (G:=G) (w:=w) b (fun j=>vs.getD j undef) fun j hj=>hvh j (by omega)
      have hU : Univ (lists s ++ lists t):=by
        refine ⟨fun p hp q hq he=>?_,fun p hp u hu z hz=>?_⟩
        · have okp : LLok G w p:=(List.mem_append.1 hp).elim (k1 p) (k2 p)
          have okq : LLok G w q:=(List.mem_append.1 hq).elim (k1 q) (k2 q)
          exact okp.inj okq he
        · rcases List.mem_append.1 hp with h | h
          · exact List.mem_append_left _ (lists_down s p h u hu z hz)
          · exact List.mem_append_right _ (lists_down t p h u hu z hz)
      have hN : (lists s ++ lists t).length ≤ 100000000:=by
        have q1:=lists_len s
        have q2:=lists_len t
        rw [e1] at q1
        rw [e2] at q2
        rw [List.length_append]; omega
      have hL : ∀ z ∈ lists s ++ lists t,z.ks.length ≤ 1000000000:=fun z hz=>by
        rcases List.mem_append.1 hz with h | h
        · have:=lists_ks z s h; rw [e1] at this; omega
        · have:=lists_ks z t h; rw [e2] at this; omega
      have hs : ∀ z,below s = some z → z ∈ lists s ++ lists t:=fun z hz=>List.mem_append_left _ (by rw [lists_eq hz]; simp)
      have ht : ∀ z,below t = some z → z ∈ lists s ++ lists t:=fun z hz=>List.mem_append_right _ (by rw [lists_eq hz]; simp)
      have key:=impl_TypeSameI hU hN hL s t hs ht A
      rw [e1,e2] at key
      refine key G w base xs hH ?_
      rw [hxy]
      refine .cons (.agg _ us (by rw [encI_length]; omega) huc fun j hj=>t1 j (by rw [encI_length] at hj; exact hj)) (.cons (.agg _ vs (by rw [encI_length]; omega) hvc fun j hj=>t2 j (by rw [encI_length] at hj; exact hj)) .nil)
end Go.Proofs.YtkajklfohjcofaaGreatDoor
/- The laws' comparison of two lists of bindings. -/
set_option linter.unusedVariables false
set_option linter.unusedSimpArgs false
namespace Go.Proofs.YtkajklfohjcofaaGreatDoor
open Go.Abs
set_option maxRecDepth 100000 in
theorem laws_mkBinds (ks : List BdI) (hl : ks.length < 2 ^ 62) (hz : ∀ b ∈ ks,sz b.typ ≤ 1048576) (A : List Box) :
    ACalls Tryz.prog 33 [.slice (bEs ks),.slice (bEs ks)] A (fun v A'=>v = .bool true ∧ A' = A):=by
  have hne : ∀ x : Int,decide (¬ x = x) = false:=fun x=>by simp
  have hns : ∀ x : List UInt8,decide (¬ x = x) = false:=fun x=>by simp
  refine acalls_enter (cf:=cf 55 [0,1,4,5,10,14,54]) foll Tryz.func33 Tryz.ntmps33 (by simp [cf]) ?_
  simp only [Tryz.f33,EnterK_some,zW,zX,zD,builtinA,isLeaf,const1,ustrA,simprocAttr,ti3,ti9,ti39,ti45,ti98,ca36,cf,Tryz.results33]
  refine aloop_intro [0,1,5] (fun e A'=>∃ i,i ≤ ks.length ∧ e = [(0,.slice (bEs ks)),(1,.slice (bEs ks)),(5,.int .i64 i)] ∧ A' = A) (fun e _=>ks.length - (intOf (Abs.look 5 e)).toNat) ?_ ?_
  · simp only [zW,zX,zD,builtinA,isLeaf,const1,ustrA,simprocAttr,ti3,ti9,ti39,ti45,ti98,ca36,cf,Tryz.results33]
    exact ⟨0,by omega,rfl⟩
  · rintro e A' ⟨i,hi,rfl,rfl⟩
    simp only [zW,zX,zD,builtinA,isLeaf,const1,ustrA,simprocAttr,ti3,ti9,ti39,ti45,ti98,ca36,cf,Tryz.results33,bEs_length]
    refine condK_intro (fun h2=>?_) (fun h2=>?_)
    · have hi2 : i < ks.length:=by simpa using h2
      have he:=bEs_getD hi2
      have hm:=hz _ (bd_mem hi2)
      have hi1 : IntKind.i64.wrap ((i : Int) + 1) = ((i + 1 : Nat) : Int):=by rw [wrap64 (by omega) (by omega)]; rfl
      have pi : (0 : Int) ≤ (i : Int) ∧ (i : Int) < (ks.length : Int):=⟨by omega,by omega⟩
      generalize ks.getD i bd0 = x at *
      obtain ⟨md,nm,t⟩:=x
      have hT:=fun A=>impl_TypeSame t t (by have : sz t ≤ 1048576:=hm; omega) (by have : sz t ≤ 1048576:=hm; omega) A
      rw [decide_eq_true (rfl : t = t)] at hT
      have hbE : bE ⟨md,nm,t⟩ = .str md :: .str nm :: enc t:=by cases t; simp [bE,enc,Ty.kind,Ty.mod,Ty.name,Ty.kids]
      rw [hbE] at he
      simp only [zW,zX,zD,builtinA,isLeaf,const1,ustrA,simprocAttr,ti3,ti9,ti39,ti45,ti98,ca36,cf,Tryz.results33,he,hns,bEs_length,enc_length,enc_take,frzL_enc,Option.map_some]
      refine .inl ⟨by kernel_rfl,by kernel_rfl,pi,pi,pi,pi,pi,pi,?_⟩
      refine callD_intro (by simp only [zW,zX,zD,builtinA,isLeaf,const1,ustrA,simprocAttr,enc_length,enc_take,frzL_enc,Option.map_some] <;> rfl) (hT _) ?_ rfl
      simp only [zW,zX,zD,builtinA,isLeaf,const1,ustrA,simprocAttr,ti3,ti9,ti39,ti45,ti98,ca36,cf,Tryz.results33,hi1,LoopK_eq]
      refine ⟨⟨i + 1,by omega,rfl⟩,?_⟩
      simp only [intOf]
      omega
    · simp only [zW,zX,zD,builtinA,isLeaf,const1,ustrA,simprocAttr,ti3,ti9,ti39,ti45,ti98,ca36,cf,Tryz.results33]
end Go.Proofs.YtkajklfohjcofaaGreatDoor
/- The program's FindType and FindVal. -/
set_option linter.unusedVariables false
set_option linter.unusedSimpArgs false
namespace Go.Proofs.YtkajklfohjcofaaGreatDoor
open Go.Abs
theorem subOut_none {A A' : List Box} {b b2 : Box} {r : AV} (h : SubOut (A ++ [b]) none r A') : SubOut A none r (A'.set A.length b2):=by
  obtain ⟨h1,h2,h3⟩:=h
  refine ⟨h1,by simp at h2 ⊢; omega,fun i hi=>?_⟩
  rw [List.getD_eq_getElem?_getD,List.getElem?_set_ne (by omega),← List.getD_eq_getElem?_getD,h3 i (by simp; omega),Abs.getD_append_left hi]
theorem subOut_some {A A' : List Box} {b b2 : Box} {r : AV} {v : VT} (h : SubOut (A ++ [b]) (some v) r A') : SubOut A (some v) r (A'.set A.length b2):=by
  obtain ⟨cs,S,h1,h2,h3,h4,h5,h6⟩:=h
  refine ⟨cs,S,h1,h2.frame fun i hi=>?_,h3,fun i hi=>by have:=h4 i hi; simp at this; omega,by simp at h5 ⊢; omega,fun i hi=>?_⟩
  · have:=h4 i hi
    simp at this
    rw [List.getD_eq_getElem?_getD,List.getElem?_set_ne (by omega),← List.getD_eq_getElem?_getD]
  · rw [List.getD_eq_getElem?_getD,List.getElem?_set_ne (by omega),← List.getD_eq_getElem?_getD,h6 i (by simp; omega),Abs.getD_append_left hi]
theorem subOut_box {A A' : List Box} {b : Box} {r : AV} : ∀ {o : Option VT},SubOut (A ++ [b]) o r A' → A.length < A'.length ∧ A'.getD A.length .dead = b ∧ ∃ k m n w f,r = .tuple [.agg [.int .i64 k,.str m,.str n,w],.bool f]
  | none,⟨h1,h2,h3⟩=>⟨by simp at h2; omega,by rw [h3 _ (by simp)]; simp [List.getD_eq_getElem?_getD],_,_,_,_,_,h1⟩
  | some v,⟨cs,S,h1,h2,h3,h4,h5,h6⟩=>by
    refine ⟨by simp at h5; omega,by rw [h6 _ (by simp)]; simp [List.getD_eq_getElem?_getD],?_⟩
    cases ht : toTy v with
    | mk k m n ks =>
      rw [ht] at h2
      obtain ⟨w,rfl,_⟩:=ownT_mk.1 h2
      exact ⟨_,_,_,_,_,h1⟩
theorem subOut_set {A A' : List Box} {b b2 : Box} {r : AV} {o : Option VT} (h : SubOut (A ++ [b]) o r A') : SubOut A o r (A'.set A.length b2):=by
  cases o with
  | none=>exact subOut_none h
  | some v=>exact subOut_some h
set_option maxRecDepth 100000 in
theorem impl_FindVal (s : List SigI) (hs : s.length ≤ 1048576) (ho : ∀ x ∈ s,x.Ok ∧ sz x.typ ≤ 1048576) (n : List UInt8) (A : List Box) : ACalls Tryz.prog 34 [.slice (sEs s),.str n] A (fun r A'=>∃ o,MeanIs s (true,n) o ∧ SubOut A o r A'):=by
  have hf:=impl_findMeaning s hs ho (true,n)
  simp only [kE] at hf
  refine acalls_enterK (cf:=cf 12 [0,1,4,5]) foll Tryz.func34 Tryz.ntmps34 (by simp [cf]) ?_
  simp only [Tryz.f34,EnterK_some,zW,zX,zD,builtinA,isLeaf,const1,ustrA,simprocAttr,ti45,ti68,ca67,cf,Tryz.results34]
  refine callO_intro (hf _) ?_
  rintro r A' ⟨o,hm,ho2⟩
  obtain ⟨hl,hb,k,m,n2,w,f,rfl⟩:=subOut_box ho2
  have hS : ∀ b2,SubOut A o _ (A'.set A.length b2):=fun b2=>subOut_set ho2
  simp only [zW,zX,zD,builtinA,isLeaf,const1,ustrA,simprocAttr,ti45,ti68,ca67,cf,Tryz.results34,hb,hl]
  exact ⟨o,hm,hS _⟩
end Go.Proofs.YtkajklfohjcofaaGreatDoor
/- Whether two types are equal, by the program's method. -/
set_option linter.unusedVariables false
set_option linter.unusedSimpArgs false
namespace Go.Proofs.YtkajklfohjcofaaGreatDoor
open Go.Abs
open Classical in
def SmM (v w : VT) : Prop:=∀ A,ACalls Tryz.prog ((pickF 211 218 181) v) [vX v,.iface (vT w) (vX w)] A (fun r A'=>r = .bool (decide (v = w)) ∧ A' = A)
set_option maxRecDepth 100000 in
theorem num_same (w : VT) : SmM .num w:=fun A=>by
  cases w with
  | num =>
    show ACalls Tryz.prog 211 [.agg [],.iface 207 (.agg [])] A _
    refine acalls_enter (cf:=cf 13 [0,1,4,6]) foll Tryz.func211 Tryz.ntmps211 (by simp [cf]) ?_
    simp only [Tryz.f211,EnterK_some,zW,zX,zD,builtinA,isLeaf,const1,ustrA,simprocAttr,ti92,ti207,za207,cf,Tryz.results211]
    simp only [zW,zX,zD,builtinA,isLeaf,const1,ustrA,simprocAttr,ti92,ti207,za207,cf,Tryz.results211,wpO_typeAssert,assert_yes]
  | nm a b =>
    show ACalls Tryz.prog 211 [.agg [],.iface 154 (.agg [.str a,.str b])] A _
    have has:=fun A=>assert_no [] 154 207 (.agg [.str a,.str b]) rfl (A:=A)
    refine acalls_enter (cf:=cf 13 [0,1,4,6]) foll Tryz.func211 Tryz.ntmps211 (by simp [cf]) ?_
    simp only [Tryz.f211,EnterK_some,zW,zX,zD,builtinA,isLeaf,const1,ustrA,simprocAttr,ti92,ti207,za207,cf,Tryz.results211]
    simp only [zW,zX,zD,builtinA,isLeaf,const1,ustrA,simprocAttr,ti92,ti207,za207,cf,Tryz.results211,wpO_typeAssert,has]
  | fn a b =>
    show ACalls Tryz.prog 211 [.agg [],.iface 218 (.agg [.iface (vT a) (vX a),.iface (vT b) (vX b)])] A _
    have has:=fun A=>assert_no [] 218 207 (.agg [.iface (vT a) (vX a),.iface (vT b) (vX b)]) rfl (A:=A)
    refine acalls_enter (cf:=cf 13 [0,1,4,6]) foll Tryz.func211 Tryz.ntmps211 (by simp [cf]) ?_
    simp only [Tryz.f211,EnterK_some,zW,zX,zD,builtinA,isLeaf,const1,ustrA,simprocAttr,ti92,ti207,za207,cf,Tryz.results211]
    simp only [zW,zX,zD,builtinA,isLeaf,const1,ustrA,simprocAttr,ti92,ti207,za207,cf,Tryz.results211,wpO_typeAssert,has]
set_option maxRecDepth 100000 in
theorem name_same (a b : List UInt8) (w : VT) : SmM (.nm a b) w:=fun A=>by
  cases w with
  | num =>
    show ACalls Tryz.prog 181 [.agg [.str a,.str b],.iface 207 (.agg [])] A _
    have has:=fun A=>assert_no [.str [],.str []] 207 154 (.agg []) rfl (A:=A)
    refine acalls_enter (cf:=cf 18 [0,1,2,4,5,6]) foll Tryz.func181 Tryz.ntmps181 (by simp [cf]) ?_
    simp only [Tryz.f181,EnterK_some,zW,zX,zD,builtinA,isLeaf,const1,ustrA,simprocAttr,ti92,ti154,ks154,za154,cf,Tryz.results181]
    simp only [zW,zX,zD,builtinA,isLeaf,const1,ustrA,simprocAttr,ti92,ti154,ks154,za154,cf,Tryz.results181,wpO_typeAssert,has]
  | nm c d =>
    show ACalls Tryz.prog 181 [.agg [.str a,.str b],.iface 154 (.agg [.str c,.str d])] A _
    refine acalls_enter (cf:=cf 18 [0,1,2,4,5,6]) foll Tryz.func181 Tryz.ntmps181 (by simp [cf]) ?_
    simp only [Tryz.f181,EnterK_some,zW,zX,zD,builtinA,isLeaf,const1,ustrA,simprocAttr,ti92,ti154,ks154,za154,cf,Tryz.results181]
    simp only [zW,zX,zD,builtinA,isLeaf,const1,ustrA,simprocAttr,ti92,ti154,ks154,za154,cf,Tryz.results181,wpO_typeAssert,assert_yes]
    simp
  | fn c d =>
    show ACalls Tryz.prog 181 [.agg [.str a,.str b],.iface 218 (.agg [.iface (vT c) (vX c),.iface (vT d) (vX d)])] A _
    have has:=fun A=>assert_no [.str [],.str []] 218 154 (.agg [.iface (vT c) (vX c),.iface (vT d) (vX d)]) rfl (A:=A)
    refine acalls_enter (cf:=cf 18 [0,1,2,4,5,6]) foll Tryz.func181 Tryz.ntmps181 (by simp [cf]) ?_
    simp only [Tryz.f181,EnterK_some,zW,zX,zD,builtinA,isLeaf,const1,ustrA,simprocAttr,ti92,ti154,ks154,za154,cf,Tryz.results181]
    simp only [zW,zX,zD,builtinA,isLeaf,const1,ustrA,simprocAttr,ti92,ti154,ks154,za154,cf,Tryz.results181,wpO_typeAssert,has]
open Classical in
set_option maxRecDepth 100000 in
theorem fun_same (a b : VT) (ha : ∀ w,SmM a w) (hb : ∀ w,SmM b w) (w : VT) : SmM (.fn a b) w:=fun A=>by
  cases w with
  | num =>
    show ACalls Tryz.prog 218 [.agg [.iface (vT a) (vX a),.iface (vT b) (vX b)],.iface 207 (.agg [])] A _
    have has:=fun A=>assert_no [.nili,.nili] 207 218 (.agg []) rfl (A:=A)
    refine acalls_enter (cf:=cf 27 [0,1,2,4,5,6]) foll Tryz.func218 Tryz.ntmps218 (by simp [cf]) ?_
    simp only [Tryz.f218,EnterK_some,zW,zX,zD,builtinA,isLeaf,const1,ustrA,simprocAttr,ti92,ti218,za218,cf,Tryz.results218]
    simp only [zW,zX,zD,builtinA,isLeaf,const1,ustrA,simprocAttr,ti92,ti218,za218,cf,Tryz.results218,wpO_typeAssert,has]
  | nm c d =>
    show ACalls Tryz.prog 218 [.agg [.iface (vT a) (vX a),.iface (vT b) (vX b)],.iface 154 (.agg [.str c,.str d])] A _
    have has:=fun A=>assert_no [.nili,.nili] 154 218 (.agg [.str c,.str d]) rfl (A:=A)
    refine acalls_enter (cf:=cf 27 [0,1,2,4,5,6]) foll Tryz.func218 Tryz.ntmps218 (by simp [cf]) ?_
    simp only [Tryz.f218,EnterK_some,zW,zX,zD,builtinA,isLeaf,const1,ustrA,simprocAttr,ti92,ti218,za218,cf,Tryz.results218]
    simp only [zW,zX,zD,builtinA,isLeaf,const1,ustrA,simprocAttr,ti92,ti218,za218,cf,Tryz.results218,wpO_typeAssert,has]
  | fn c d =>
    show ACalls Tryz.prog 218 [.agg [.iface (vT a) (vX a),.iface (vT b) (vX b)],.iface 218 (.agg [.iface (vT c) (vX c),.iface (vT d) (vX d)])] A _
    refine acalls_enter (cf:=cf 27 [0,1,2,4,5,6]) foll Tryz.func218 Tryz.ntmps218 (by simp [cf]) ?_
    simp only [Tryz.f218,EnterK_some,zW,zX,zD,builtinA,isLeaf,const1,ustrA,simprocAttr,ti92,ti218,za218,cf,Tryz.results218]
    simp only [zW,zX,zD,builtinA,isLeaf,const1,ustrA,simprocAttr,ti92,ti218,za218,cf,Tryz.results218,wpO_typeAssert,assert_yes]
    refine wpO_invoke _ _ _ _ _ _ _ _ _ _ _ _ _ _ _ _ ?_
    simp only [zW,zX,zD,builtinA,isLeaf,const1,ustrA,simprocAttr,ti92,ti218,za218,cf,Tryz.results218]
    refine meth_invK (met3 (by kernel_rfl) (by kernel_rfl) (by kernel_rfl) (by kernel_rfl) (by kernel_rfl) (by kernel_rfl)) (ha c _) rfl (fun _=>rfl) ?_
    rintro r A' ⟨rfl,rfl⟩
    by_cases h1 : a = c
    · rw [decide_eq_true h1]
      simp only [zW,zX,zD,builtinA,isLeaf,const1,ustrA,simprocAttr,ti92,ti218,za218,cf,Tryz.results218]
      refine wpO_invoke _ _ _ _ _ _ _ _ _ _ _ _ _ _ _ _ ?_
      simp only [zW,zX,zD,builtinA,isLeaf,const1,ustrA,simprocAttr,ti92,ti218,za218,cf,Tryz.results218]
      refine meth_invK (met3 (by kernel_rfl) (by kernel_rfl) (by kernel_rfl) (by kernel_rfl) (by kernel_rfl) (by kernel_rfl)) (hb d _) rfl (fun _=>rfl) ?_
      rintro r A' ⟨rfl,rfl⟩
      simp only [zW,zX,zD,builtinA,isLeaf,const1,ustrA,simprocAttr,ti92,ti218,za218,cf,Tryz.results218]
      simp [h1]
    · rw [decide_eq_false h1]
      simp only [zW,zX,zD,builtinA,isLeaf,const1,ustrA,simprocAttr,ti92,ti218,za218,cf,Tryz.results218]
      simp [h1]
theorem smM : ∀ v w : VT,SmM v w
  | .num,w=>num_same w
  | .nm a b,w=>name_same a b w
  | .fn a b,w=>fun_same a b (smM a) (smM b) w
end Go.Proofs.YtkajklfohjcofaaGreatDoor
/- errors.As where the target is the program's own error type and the error is of that type, or nil: Go's own text is walked, on the memory itself. -/
set_option linter.unusedVariables false
set_option linter.unusedSimpArgs false
namespace Go.Proofs.YtkajklfohjcofaaGreatDoor
open Go.Abs Go.RowKit Go.Extern
def hT (t : Nat) : Value:=.pointer (some ⟨1,t,none⟩)
def tT (t : Nat) : Value:=.iface 170 (.agg #[hT t])
def vT' (t : Nat) (a : Addr) (fl : Int) : Value:=.agg #[hT t,.pointer (some a),.int .u64 fl]
theorem as_valueOfP (t : Addr) (w : World) : (ReflectliteValue.unpack (.iface 75 (.pointer (some t)))).run Tryz.prog w = .ok (vT' 75 ⟨w.heap.size,0,none⟩ 150) (w.alloc (.cells #[.pointer (some t)] 75)):=by kernel_rfl
theorem as_type (a : Addr) (w : World) : (ReflectliteValue.methodAny (ReflectliteValue.valueError "reflectlite.Value.Type" 0) (fun t _ _ _=>ReflectliteType.toType t) #[vT' 75 a 150]).run Tryz.prog w = .ok (tT 75) w:=by kernel_rfl
theorem as_mKind (h : Value) (w : World) : (Go.method 358 170 (.agg #[h]) "Kind").run Tryz.prog w = .ok (163,h) w:=by kernel_rfl
theorem as_kindP (w : World) : ((ReflectliteType.abiMethod fun t=>(fun a : Nat=>Value.int IntKind.u8 (a : Int)) <$> Rtype.kind t) #[hT 75]).run Tryz.prog w = .ok (.int .u8 22) w:=by kernel_rfl
theorem as_kindT (w : World) : ((ReflectliteType.abiMethod fun t=>(fun a : Nat=>Value.int IntKind.u8 (a : Int)) <$> Rtype.kind t) #[hT 70]).run Tryz.prog w = .ok (.int .u8 25) w:=by kernel_rfl
theorem as_rlm (z : Sem Value) (f : TypeId → Addr → Nat → Nat → Sem Value) (v : Value) :
    ReflectliteValue.method z f #[v] = (do match ← ReflectliteValue.parts v with | none=>z | some (t,a,fl)=>f t a fl (fl % 32)):=rfl
theorem as_partsP (a : Addr) (w : World) : (ReflectliteValue.parts (vT' 75 a 150)).run Tryz.prog w = .ok (some (75,a,150)) w:=by kernel_rfl
theorem as_isNil (a p : Addr) (W : World) (ha : W.cell? a = some (.pointer (some p))) :
    (ReflectliteValue.method (ReflectliteValue.valueError "reflectlite.Value.IsNil" 0) ReflectliteValue.isNil #[vT' 75 a 150]).run Tryz.prog W = .ok (.bool false) W:=by
  rw [as_rlm]
  simp only [Sem.run_bind,as_partsP,Result.andThen]
  simp [ReflectliteValue.isNil,loadVar,isAgg,underlying,Tryz.underlying75,ha,Result.andThen]
theorem as_mElem (h : Value) (w : World) : (Go.method 358 170 (.agg #[h]) "Elem").run Tryz.prog w = .ok (193,.agg #[h]) w:=by kernel_rfl
theorem as_mImpl (h : Value) (w : World) : (Go.method 358 170 (.agg #[h]) "Implements").run Tryz.prog w = .ok (194,.agg #[h]) w:=by kernel_rfl
theorem as_mAsg (h : Value) (w : World) : (Go.method 358 170 (.agg #[h]) "AssignableTo").run Tryz.prog w = .ok (191,.agg #[h]) w:=by kernel_rfl
theorem as_elem (w : World) : (ReflectliteType.method ReflectliteType.elem #[.agg #[hT 75]]).run Tryz.prog w = .ok (tT 70) w:=by kernel_rfl
theorem as_impl (w : World) : (ReflectliteType.relation "Implements" ReflectliteType.implements_ #[.agg #[hT 70],tT 73]).run Tryz.prog w = .ok (.bool true) w:=by kernel_rfl
theorem as_typeOf (v : Value) (w : World) : (ReflectliteType.typeOf #[.iface 70 v]).run Tryz.prog w = .ok (tT 70) w:=by kernel_rfl
theorem as_asg (w : World) : (ReflectliteType.relation "AssignableTo" ReflectliteType.assignableTo #[.agg #[hT 70],tT 70]).run Tryz.prog w = .ok (.bool true) w:=by kernel_rfl
theorem as_valueOfT (x0 x1 x2 x3 : Value) (w : World) : (ReflectliteValue.unpack (.iface 70 (.agg #[x0,x1,x2,x3]))).run Tryz.prog w = .ok (vT' 70 ⟨w.heap.size,0,none⟩ 153) (w.alloc (.cells #[x0,x1,x2,x3] 70)):=by kernel_rfl
theorem as_elemOf (w : World) : (Rtype.elem? 75).run Tryz.prog w = .ok (some 70) w:=by kernel_rfl
theorem as_mk (p : Addr) (w : World) : (ReflectliteValue.mk 70 p ReflectliteValue.flagAddr).run Tryz.prog w = .ok (vT' 70 p 409) w:=by kernel_rfl
theorem as_elemV (a p : Addr) (W : World) (ha : W.cell? a = some (.pointer (some p))) :
    (ReflectliteValue.method (ReflectliteValue.valueError "reflectlite.Value.Elem" 0) ReflectliteValue.elem #[vT' 75 a 150]).run Tryz.prog W = .ok (vT' 70 p 409) W:=by
  rw [as_rlm]
  simp only [Sem.run_bind,as_partsP,Result.andThen]
  simp [ReflectliteValue.elem,loadVar,isAgg,underlying,Tryz.underlying75,ha,Result.andThen,as_elemOf,as_mk]
theorem as_rls (v x : Value) : ReflectliteValue.set #[v,x] = (do
    let (some (dst,a,fl),some (src,b,_)):=(← ReflectliteValue.parts v,← ReflectliteValue.parts x)
      | unsupported (.noEntry "extern/(internal/reflectlite.Value).Set.zeroValue")
    if fl / ReflectliteValue.flagAddr % 2 == 0 then unsupported (.noEntry "extern/(internal/reflectlite.Value).Set.unaddressable")
    let val ← loadVar src b
    if ← Rtype.directlyAssignable dst src then storeVar dst a val
    else if ← Rtype.implements dst src then
      if (← Rtype.kind src) == 20 then
        match val with
        | .nilIface=>unsupported (.noEntry "extern/reflectlite: a nil value of one interface type handed on as a value of another")
        | _=>storeVar dst a val
      else storeVar dst a (.iface src val)
    else panicString ("reflectlite.Set: value of type " ++ (← Rtype.spelt src) ++ " is not assignable to type " ++ (← Rtype.spelt dst))
    pure (.tuple #[])):=rfl
theorem as_partsA (a : Addr) (w : World) : (ReflectliteValue.parts (vT' 70 a 409)).run Tryz.prog w = .ok (some (70,a,409)) w:=by kernel_rfl
theorem as_partsT (a : Addr) (w : World) : (ReflectliteValue.parts (vT' 70 a 153)).run Tryz.prog w = .ok (some (70,a,153)) w:=by kernel_rfl
theorem as_direct (w : World) : (Rtype.directlyAssignable 70 70).run Tryz.prog w = .ok true w:=by kernel_rfl
theorem as_size (w : World) : (sizeOf 70).run Tryz.prog w = .ok 4 w:=by kernel_rfl
theorem as_set (ta : Addr) (b : Nat) (x0 x1 x2 x3 : Value) (W W' : World) (hb : W.heap[b]? = some (.cells #[x0,x1,x2,x3] 70 (0,0))) (hs : (storeVar 70 ta (.agg #[x0,x1,x2,x3])).run Tryz.prog W = .ok () W') :
    (ReflectliteValue.set #[vT' 70 ta 409,vT' 70 ⟨b,0,none⟩ 153]).run Tryz.prog W = .ok (.tuple #[]) W':=by
  have hl : (loadVar 70 ⟨b,0,none⟩).run Tryz.prog W = .ok (.agg #[x0,x1,x2,x3]) W:=by
    simp [loadVar,isAgg,underlying,Tryz.underlying70,Result.andThen,as_size,loadCells,loadCellsFrom,World.cell?,hb,Addr.add]
  rw [as_rls]
  simp only [Sem.run_bind,as_partsA,as_partsT,Result.andThen]
  simp [ReflectliteValue.flagAddr,hl,Result.andThen,as_direct,hs]
theorem as_alive {w : World} {a : Addr} {v : Value} (h : w.cell? a = some v) : a.block < w.heap.size:=by
  rcases Nat.lt_or_ge a.block w.heap.size with h1 | h1
  · exact h1
  · simp [World.cell?,Array.getElem?_eq_none h1] at h
set_option maxRecDepth 100000 in
set_option maxHeartbeats 4000000 in
theorem as_go (t a : Addr) (x0 x1 x2 x3 : Value) (w W' : World) (ha : w.cell? a = some (.pointer (some t)))
    (hs : (storeVar 70 t (.agg #[x0,x1,x2,x3])).run Tryz.prog ((w.alloc (.cells #[hT 75,.pointer (some a),.int .u64 150] 124)).alloc (.cells #[x0,x1,x2,x3] 70)) = .ok () W') :
    Calls Tryz.prog 83 #[.iface 70 (.agg #[x0,x1,x2,x3]),.iface 75 (.pointer (some t)),vT' 75 a 150,tT 70] w fun e w'=>e = .returned (.bool true) ∧ w' = W':=by
  have h6:=@run_callFunc_extern Tryz.prog 80 _ (fun args=>ReflectliteValue.unpack (args.getD 0 (.tuple #[]))) Tryz.func80 (by kernel_rfl) (by kernel_rfl) (by kernel_rfl) (by kernel_rfl)
  have h10:=@run_callFunc_extern Tryz.prog 113 _ ReflectliteType.typeOf Tryz.func113 (by kernel_rfl) (by kernel_rfl) (by kernel_rfl) (by kernel_rfl)
  have h35:=@run_callFunc_extern Tryz.prog 191 _ (ReflectliteType.relation "AssignableTo" ReflectliteType.assignableTo) Tryz.func191 (by kernel_rfl) (by kernel_rfl) (by kernel_rfl) (by kernel_rfl)
  have h11:=@run_callFunc_extern Tryz.prog 114 _ (ReflectliteValue.method (ReflectliteValue.valueError "reflectlite.Value.Elem" 0) ReflectliteValue.elem) Tryz.func114 (by kernel_rfl) (by kernel_rfl) (by kernel_rfl) (by kernel_rfl)
  have h12:=@run_callFunc_extern Tryz.prog 115 _ ReflectliteValue.set Tryz.func115 (by kernel_rfl) (by kernel_rfl) (by kernel_rfl) (by kernel_rfl)
  have tO:=as_typeOf
  have mA:=as_mAsg
  have aT:=as_asg
  have vO:=as_valueOfT
  have hal:=as_alive ha
  have el:=as_elemV a t (w.alloc (.cells #[hT 75,.pointer (some a),.int .u64 150] 124)) (by rw [World.cell?_alloc_lt _ _ a hal]; exact ha)
  have st:=as_set t (w.heap.size + 1) x0 x1 x2 x3 _ W' (by rw [show ∀ o o' : Obj,((w.alloc o).alloc o').heap = (w.heap.push o).push o' from fun _ _=>rfl,show w.heap.size + 1 = (w.heap.push _).size from (Array.size_push _).symm]; exact Array.getElem?_push_size) hs
  simp only [vT',tT,hT] at *
  go_enter Tryz.func83,Tryz.ntmps83
  go_wp2
  refine wp_loop_rounds 1 ?_
  rw [rounds_succ]
  go_wp2
  go_ret
  exact ⟨rfl,rfl⟩
set_option maxRecDepth 100000 in
set_option maxHeartbeats 4000000 in
theorem as_hit (t : Addr) (x0 x1 x2 x3 : Value) (w W' : World) (hg : w.cell? ⟨0,0,none⟩ = some (tT 73))
    (hs : (storeVar 70 t (.agg #[x0,x1,x2,x3])).run Tryz.prog ((((w.alloc (.cells #[.pointer (some t)] 75)).alloc (.cells #[hT 75,.pointer (some ⟨w.heap.size,0,none⟩),.int .u64 150] 124)).alloc (.cells #[hT 75,.pointer (some ⟨w.heap.size,0,none⟩),.int .u64 150] 124)).alloc (.cells #[x0,x1,x2,x3] 70)) = .ok () W') :
    Calls Tryz.prog 47 #[.iface 70 (.agg #[x0,x1,x2,x3]),.iface 75 (.pointer (some t))] w fun e w'=>e = .returned (.bool true) ∧ w' = W':=by
  have h6:=@run_callFunc_extern Tryz.prog 80 _ (fun args=>ReflectliteValue.unpack (args.getD 0 (.tuple #[]))) Tryz.func80 (by kernel_rfl) (by kernel_rfl) (by kernel_rfl) (by kernel_rfl)
  have h7:=@run_callFunc_extern Tryz.prog 81 _ (ReflectliteValue.methodAny (ReflectliteValue.valueError "reflectlite.Value.Type" 0) (fun t _ _ _=>ReflectliteType.toType t)) Tryz.func81 (by kernel_rfl) (by kernel_rfl) (by kernel_rfl) (by kernel_rfl)
  have h8:=@run_callFunc_extern Tryz.prog 82 _ (ReflectliteValue.method (ReflectliteValue.valueError "reflectlite.Value.IsNil" 0) ReflectliteValue.isNil) Tryz.func82 (by kernel_rfl) (by kernel_rfl) (by kernel_rfl) (by kernel_rfl)
  have h27:=@run_callFunc_extern Tryz.prog 163 _ (ReflectliteType.abiMethod fun t=>do pure (.int .u8 (← Rtype.kind t))) Tryz.func163 (by kernel_rfl) (by kernel_rfl) (by kernel_rfl) (by kernel_rfl)
  have h37:=@run_callFunc_extern Tryz.prog 193 _ (ReflectliteType.method ReflectliteType.elem) Tryz.func193 (by kernel_rfl) (by kernel_rfl) (by kernel_rfl) (by kernel_rfl)
  have h38:=@run_callFunc_extern Tryz.prog 194 _ (ReflectliteType.relation "Implements" ReflectliteType.implements_) Tryz.func194 (by kernel_rfl) (by kernel_rfl) (by kernel_rfl) (by kernel_rfl)
  have f6:=as_valueOfP
  have f7:=as_type
  have mK:=as_mKind
  have mE:=as_mElem
  have mI:=as_mImpl
  have k27:=as_kindP
  have k25:=as_kindT
  have e27:=as_elem
  have i25:=as_impl
  have hlt : 0 < w.heap.size:=as_alive hg
  have hp : ∀ o,((w.alloc (.cells #[.pointer (some t)] 75)).alloc o).cell? ⟨w.heap.size,0,none⟩ = some (.pointer (some t)):=fun o=>by
    rw [World.cell?_alloc_lt _ _ ⟨w.heap.size,0,none⟩ (by simp)]; simp
  have n8:=as_isNil ⟨w.heap.size,0,none⟩ t ((w.alloc (.cells #[.pointer (some t)] 75)).alloc (.cells #[hT 75,.pointer (some ⟨w.heap.size,0,none⟩),.int .u64 150] 124)) (hp _)
  have hg2 : ((w.alloc (.cells #[.pointer (some t)] 75)).alloc (.cells #[hT 75,.pointer (some ⟨w.heap.size,0,none⟩),.int .u64 150] 124)).cell? ⟨0,0,none⟩ = some (tT 73):=by
    rw [World.cell?_alloc_lt _ _ ⟨0,0,none⟩ (by simp),World.cell?_alloc_lt _ _ ⟨0,0,none⟩ hlt]; exact hg
  have go:=as_go t ⟨w.heap.size,0,none⟩ x0 x1 x2 x3 _ W' (hp _) hs
  clear hs
  simp only [vT',tT,hT] at *
  go_enter Tryz.func47,Tryz.ntmps47
  go_wp2_with (go_at_call 83; refine go.mono ?_; rintro e w' ⟨rfl,rfl⟩)
  go_ret
  exact ⟨rfl,rfl⟩
theorem hrel_skip {G : Ghost} {A : List Box} {w w' : World} {base : Nat} (h : HRel G A w base) (hk : Kept (fun _=>False) w w') : HRel G A w' base ∧ Ext G w G w':=by
  have e : Ext G w G w':=⟨Nat.le_refl _,fun _ _ x=>x,fun x o hx=>cell?_congr (hk.block x (h.imm x o hx) (fun f=>f)) o,fun _ _=>⟨rfl,rfl,rfl,rfl,rfl⟩,fun x o hx f=>hk.fz (h.imm x o hx) (fun f=>f) f⟩
  exact ⟨⟨h.n,fun i hi=>(h.box i hi).mono e (by rw [h.n]; exact hi) (fun hl=>hk.block _ (h.bnd i hi hl).2 (fun f=>f)) (fun _ _ x=>x),h.sep,fun i hi hl=>⟨(h.bnd i hi hl).1,Nat.lt_of_lt_of_le (h.bnd i hi hl).2 hk.size⟩,fun b o x=>Nat.lt_of_lt_of_le (h.imm b o x) hk.size,Nat.le_trans h.low hk.size,h.gv.block fun b hb=>hk.block b (by have:=h.low; omega) (fun f=>f)⟩,e⟩
theorem hrel_skip1 {G : Ghost} {A : List Box} {w : World} {base : Nat} (h : HRel G A w base) (o : Obj) : HRel G A (w.alloc o) base ∧ Ext G w G (w.alloc o) ∧ Below base w (w.alloc o) :=
  have k:=hrel_skip h (kept_alloc (w:=w) (o:=o))
  ⟨k.1,k.2,kept_alloc.below (fun _ f=>f.elim) h.low⟩
set_option maxRecDepth 100000 in
theorem As_hit (A : List Box) (i : Nat) (y0 y1 y2 y3 : AV) (us : List AV) (hi : i < A.length) (hb : A.getD i .dead = .cells us) (hu : us.length = 4) :
    ACalls Tryz.prog 47 [.iface 70 (.agg [y0,y1,y2,y3]),.ifp 75 i 0] A (fun r A'=>r = .bool true ∧ A' = A.set i (.cells [y0,y1,y2,y3])):=by
  intro G w base xs h hx
  obtain ⟨x,y,hxy,h1,h2⟩:=RL.two hx
  obtain ⟨xs⟩:=xs
  simp only at hxy
  subst hxy
  cases h1 with
  | iface _ _ x hv h1 =>
  cases h2 with
  | ifp _ _ _ hin =>
  have h1':=h1
  cases h1 with
  | agg _ x hs hc h1 =>
  obtain ⟨x⟩:=x
  match x,hs with
  | [x0,x1,x2,x3],_ =>
  have hg:=(h.gv _ rfl).2
  obtain ⟨k1,e1,b1⟩:=hrel_skip1 h (.cells #[.pointer (some ⟨G.blk i,0,none⟩)] 75)
  obtain ⟨k2,e2,b2⟩:=hrel_skip1 k1 (.cells #[hT 75,.pointer (some ⟨w.heap.size,0,none⟩),.int .u64 150] 124)
  obtain ⟨k3,e3,b3⟩:=hrel_skip1 k2 (.cells #[hT 75,.pointer (some ⟨w.heap.size,0,none⟩),.int .u64 150] 124)
  obtain ⟨k4,e4,b4⟩:=hrel_skip1 k3 (.cells #[x0,x1,x2,x3] 70)
  have e:=(((e1.trans e2).trans e3).trans e4)
  obtain ⟨w',G',q1,q2,q3,q4⟩:=store_ok (A:=A) (A':=A.set i (.cells [y0,y1,y2,y3])) (p:=.ptr i 0) (c:=0 + 4 ≤ us.length) ti70 (vs:=[y0,y1,y2,y3]) (v:=.agg [y0,y1,y2,y3]) (y:=.agg #[x0,x1,x2,x3]) rfl rfl (by simp only [storeA,hb]; simp [hu,List.drop_eq_nil_of_le (Nat.le_of_eq hu)]) (by omega) k4 (.ptr i 0 hin) (h1'.mono e)
  refine (as_hit ⟨G.blk i,0,none⟩ x0 x1 x2 x3 w w' hg q1).mono ?_
  rintro ev w'' ⟨rfl,rfl⟩
  exact ⟨_,_,_,G',rfl,⟨rfl,rfl⟩,.bool true,q2,e.trans q3,(((b1.trans b2).trans b3).trans b4).trans q4⟩
theorem As_nil (A : List Box) (v : AV) : ACalls Tryz.prog 47 [.nili,v] A (fun r A'=>r = .bool false ∧ A' = A):=by
  intro G w base xs h hx
  obtain ⟨x,y,hxy,h1,h2⟩:=RL.two hx
  obtain ⟨xs⟩:=xs
  simp only at hxy
  subst hxy
  cases h1
  have : Calls Tryz.prog 47 #[.nilIface,y] w fun e w'=>e = .returned (.bool false) ∧ w' = w:=by
    go_enter Tryz.func47,Tryz.ntmps47
    go_wp2
    go_ret
    exact ⟨rfl,rfl⟩
  refine this.mono ?_
  rintro ev w'' ⟨rfl,rfl⟩
  exact ⟨_,_,A,G,rfl,⟨rfl,rfl⟩,.bool false,h,Ext.refl _ _,Below.refl _ _⟩
end Go.Proofs.YtkajklfohjcofaaGreatDoor
