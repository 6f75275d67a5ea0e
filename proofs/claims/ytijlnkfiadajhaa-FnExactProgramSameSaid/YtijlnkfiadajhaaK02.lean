/- SameA2, SigD, SameSp, SigSame, SigEq. -/
import Derived.Test.YtijlnkfiadajhaaK01
import Derived.Test.YtijlnkfiadajhaaAbsW3
/- Where the parts of a type lie; the program's TypeSame. -/
set_option linter.unusedVariables false
set_option linter.unusedSimpArgs false
namespace Go.Proofs.Ytijlnkfiadajhaa
open Go.Abs
mutual
def lists : ITy → List LL
  | .mk _ _ _ _ _ []=>[]
  | .mk _ _ _ b o (t :: ks)=>⟨b,o,t,ks⟩ :: (lists t ++ listss ks)
def listss : List ITy → List LL
  | []=>[]
  | t :: l=>lists t ++ listss l
end
mutual
def norm : ITy → Prop
  | .mk _ _ _ b o []=>b = 0 ∧ o = 0
  | .mk _ _ _ _ _ (t :: ks)=>norm t ∧ norms ks
def norms : List ITy → Prop
  | []=>True
  | t :: l=>norm t ∧ norms l
end
theorem norms_all : ∀ {l : List ITy},norms l ↔ ∀ t ∈ l,norm t
  | []=>by simp [norms]
  | t :: l=>by rw [norms,norms_all]; simp
theorem listss_mem {x : LL} : ∀ {l : List ITy},x ∈ listss l ↔ ∃ t ∈ l,x ∈ lists t
  | []=>by simp [listss]
  | t :: l=>by rw [listss,List.mem_append,listss_mem]; simp
theorem lists_eq {t : ITy} {x : LL} (h : below t = some x) : lists t = x :: listss x.ks:=by
  obtain ⟨k,m,n,b,o,ks⟩:=t
  cases ks with
  | nil=>simp [below] at h
  | cons u ks=>simp [below] at h; subst h; simp [lists,LL.ks,listss]
theorem lists_down (t : ITy) : ∀ x ∈ lists t,∀ u ∈ x.ks,∀ y,below u = some y → y ∈ lists t:=by
  induction t using ITy.ind with
  | h k m n b o ks ih =>
    cases ks with
    | nil=>simp [lists]
    | cons t ks =>
      intro x hx u hu y hy
      have he:=lists_eq (t:=.mk k m n b o (t :: ks)) (x:=⟨b,o,t,ks⟩) rfl
      rw [he] at hx ⊢
      have hsub : ∀ v ∈ (⟨b,o,t,ks⟩ : LL).ks,∀ z,z ∈ lists v → z ∈ listss (⟨b,o,t,ks⟩ : LL).ks:=fun v hv z hz=>listss_mem.2 ⟨v,hv,hz⟩
      rcases List.mem_cons.1 hx with rfl | hx
      · refine List.mem_cons_of_mem _ (hsub u hu y ?_)
        rw [lists_eq hy]; simp
      · obtain ⟨v,hv,hxv⟩:=listss_mem.1 hx
        exact List.mem_cons_of_mem _ (hsub v hv y (ih v hv x hxv u hu y hy))
mutual
theorem lists_len : ∀ t : ITy,(lists t).length ≤ sz (erase t)
  | .mk k m n b o []=>by simp [lists]
  | .mk k m n b o (t :: ks)=>by
    have h1:=lists_len t
    have h2:=listss_len ks
    simp only [lists,erase,erases,sz,szs,List.length_cons,List.length_append]
    omega
theorem listss_len : ∀ l : List ITy,(listss l).length ≤ szs (erases l)
  | []=>by simp [listss]
  | t :: l=>by
    have h1:=lists_len t
    have h2:=listss_len l
    simp only [listss,erases,szs,List.length_append]
    omega
end
theorem gd {α : Type} (l : List α) (i : Nat) (d : α) (h : i < l.length) : l.getD i d = l[i]:=by simp [List.getD,h]
theorem islice_inv {G : Ghost} {w : World} {b off : Nat} {rows : List (List AV)} {x : Value} (h : RV G w (.islice b off rows) x) : ∃ cap sz,∃ X : Nat → Nat → Value,x = .slice (some ⟨b,off,none⟩) rows.length cap ∧ (∀ r ∈ rows,r.length = sz) ∧
    (∀ i j,i < rows.length → j < sz → w.cell? ⟨b,off + (i * sz + j),none⟩ = some (X i j)) ∧ ∀ i j,i < rows.length → j < sz → RV G w (Go.Abs.rowAt rows i j) (X i j):=by
  cases h with
  | islice _ _ _ cap sz X hr hcap hx hI hz hsz hl hh=>exact ⟨cap,sz,X,rfl,fun r hr'=>(hr r hr').1,hx,hh⟩
mutual
theorem lists_ks (x : LL) : ∀ t : ITy,x ∈ lists t → x.ks.length ≤ sz (erase t)
  | .mk k m n b o []=>by simp [lists]
  | .mk k m n b o (t :: ks)=>fun h=>by
    simp only [lists,List.mem_cons,List.mem_append] at h
    simp only [erase,erases,sz,szs]
    rcases h with rfl | h | h
    · have h1 : (erases ks).length = ks.length:=by rw [erases_map,List.length_map]
      show (t :: ks).length ≤ _
      simp only [List.length_cons]; omega
    · have:=lists_ks x t h; omega
    · have:=listss_ks x ks h; omega
theorem listss_ks (x : LL) : ∀ l : List ITy,x ∈ listss l → x.ks.length ≤ szs (erases l)
  | []=>by simp [listss]
  | t :: l=>fun h=>by
    simp only [listss,List.mem_append] at h
    simp only [erases,szs]
    rcases h with h | h
    · have:=lists_ks x t h; omega
    · have:=listss_ks x l h; omega
end
def R4 (G : Ghost) (w : World) (τ : Ty) (X : Nat → Value) : Prop:=∀ j,j < 4 → RV G w ((enc τ).getD j .bot) (X j)
def T4 (G : Ghost) (w : World) (t : ITy) (X : Nat → Value) : Prop:=∀ j,j < 4 → RV G w ((encI t).getD j .bot) (X j)
theorem uniq {G : Ghost} {w : World} (s : ITy) : ∀ (t : ITy) (X : Nat → Value),norm s → norm t → T4 G w s X → T4 G w t X → s = t:=by
  induction s using ITy.ind with
  | h k m n b o ks ih =>
    rintro ⟨k',m',n',b',o',ks'⟩ X hs ht h h'
    have h0:=h 0 (by decide); have h1:=h 1 (by decide); have h2:=h 2 (by decide); have h3:=h 3 (by decide)
    have g0:=h' 0 (by decide); have g1:=h' 1 (by decide); have g2:=h' 2 (by decide); have g3:=h' 3 (by decide)
    rw [encI_eq] at h0 h1 h2 h3 g0 g1 g2 g3
    simp only [List.getD_cons_zero,List.getD_cons_succ,node] at h0 h1 h2 h3 g0 g1 g2 g3
    generalize X 0 = v0 at h0 g0
    generalize X 1 = v1 at h1 g1
    generalize X 2 = v2 at h2 g2
    generalize X 3 = v3 at h3 g3
    have e0 : k = k':=by cases h0; cases g0; rfl
    have e1 : m = m':=by
      cases h1
      generalize hq : (⟨m.toArray⟩ : ByteArray) = q at g1
      cases g1
      injection hq with hq
      have:=congrArg Array.toList hq
      simpa using this
    have e2 : n = n':=by
      cases h2
      generalize hq : (⟨n.toArray⟩ : ByteArray) = q at g2
      cases g2
      injection hq with hq
      have:=congrArg Array.toList hq
      simpa using this
    subst e0; subst e1; subst e2
    have lens : ∀ (a : Option Addr) (l c : Nat),v3 = .slice a l c → (ks = [] → l = 0) ∧ (ks' = [] → l = 0) ∧ (ks ≠ [] → l = ks.length) ∧ (ks' ≠ [] → l = ks'.length):=by
      intro a l c hv
      subst hv
      refine ⟨fun e=>?_,fun e=>?_,fun e=>?_,fun e=>?_⟩
      · subst e; simp [kidsV,below] at h3; cases h3 <;> rfl
      · subst e; simp [kidsV,below] at g3; cases g3 <;> rfl
      · cases ks with
        | nil=>exact absurd rfl e
        | cons t ks=>simp [kidsV,below] at h3; cases h3; simp [LL.ks,encIs_length]
      · cases ks' with
        | nil=>exact absurd rfl e
        | cons t ks'=>simp [kidsV,below] at g3; cases g3; simp [LL.ks,encIs_length]
    have isS : ∃ a l c,v3 = .slice a l c:=by
      cases ks with
      | nil=>simp [kidsV,below] at h3; cases h3 <;> exact ⟨_,_,_,rfl⟩
      | cons t ks=>simp [kidsV,below] at h3; cases h3; exact ⟨_,_,_,rfl⟩
    obtain ⟨a,l,c,hv⟩:=isS
    obtain ⟨l1,l2,l3,l4⟩:=lens a l c hv
    cases ks with
    | nil =>
      cases ks' with
      | nil =>
        simp only [norm] at hs ht
        rw [hs.1,hs.2,ht.1,ht.2]
      | cons t ks' =>
        have a1:=l1 rfl
        have a2:=l4 (by simp)
        simp at a2; omega
    | cons t ks =>
      cases ks' with
      | nil =>
        have a1:=l2 rfl
        have a2:=l3 (by simp)
        simp at a2; omega
      | cons t' ks' =>
        have a1:=l3 (by simp)
        have a2:=l4 (by simp)
        simp only [kidsV,below] at h3 g3
        obtain ⟨cap,sz,X1,q1,r1,x1,z1⟩:=islice_inv h3
        obtain ⟨cap',sz',X2,q2,r2,x2,z2⟩:=islice_inv g3
        rw [q1] at q2
        simp only [Value.slice.injEq,Option.some.injEq,Addr.mk.injEq] at q2
        have hb : b = b':=q2.1.1
        have ho : o = o':=q2.1.2.1
        have hlen : (t :: ks).length = (t' :: ks').length:=by
          have:=q2.2.1
          rw [encIs_length,encIs_length] at this
          exact this
        subst hb; subst ho
        have n1 : (encIs (LL.ks ⟨b,o,t,ks⟩)).length = (t :: ks).length:=encIs_length _
        have n2 : (encIs (LL.ks ⟨b,o,t',ks'⟩)).length = (t' :: ks').length:=encIs_length _
        have e1 : sz = 4:=by
          have:=r1 (encI t) (by simp [LL.ks,encIs])
          rw [encI_length] at this; exact this.symm
        have e2 : sz' = 4:=by
          have:=r2 (encI t') (by simp [LL.ks,encIs])
          rw [encI_length] at this; exact this.symm
        subst e1; subst e2
        have key : (t :: ks) = (t' :: ks'):=by
          apply List.ext_getElem hlen
          intro i hi hi'
          have xe : ∀ j,j < 4 → X1 i j = X2 i j:=fun j hj=>by
            have:=(x1 i j (by omega) hj).symm.trans (x2 i j (by omega) hj)
            injection this
          have t1 : T4 G w ((t :: ks)[i]) (X1 i):=fun j hj=>by
            have:=z1 i j (by omega) hj
            unfold Go.Abs.rowAt at this
            rw [encIs_getD (show i < (LL.ks ⟨b,o,t,ks⟩).length from hi),gd _ _ _ (show i < (LL.ks ⟨b,o,t,ks⟩).length from hi)] at this
            exact this
          have t2 : T4 G w ((t' :: ks')[i]) (X1 i):=fun j hj=>by
            have:=z2 i j (by omega) hj
            unfold Go.Abs.rowAt at this
            rw [encIs_getD (show i < (LL.ks ⟨b,o,t',ks'⟩).length from hi'),gd _ _ _ (show i < (LL.ks ⟨b,o,t',ks'⟩).length from hi'),← xe j hj] at this
            exact this
          simp only [norm] at hs ht
          have ns : ∀ u ∈ (t :: ks),norm u:=fun u hu=>by
            rcases List.mem_cons.1 hu with rfl | hu
            · exact hs.1
            · exact norms_all.1 hs.2 u hu
          have nt : ∀ u ∈ (t' :: ks'),norm u:=fun u hu=>by
            rcases List.mem_cons.1 hu with rfl | hu
            · exact ht.1
            · exact norms_all.1 ht.2 u hu
          exact ih _ (List.getElem_mem hi) _ _ (ns _ (List.getElem_mem hi)) (nt _ (List.getElem_mem hi')) t1 t2
        rw [key]
def LLok (G : Ghost) (w : World) (x : LL) : Prop:=∃ Y : Nat → Nat → Value,(∀ t ∈ x.ks,norm t) ∧ ∀ i,i < x.ks.length → T4 G w (x.ks.getD i it0) (Y i) ∧ ∀ j,j < 4 → w.cell? ⟨x.b,x.off + (i * 4 + j),none⟩ = some (Y i j)
theorem LLok.inj {G : Ghost} {w : World} {x y : LL} (hx : LLok G w x) (hy : LLok G w y) (h : x.idn = y.idn) : x = y:=by
  obtain ⟨X,n1,h1⟩:=hx
  obtain ⟨Y,n2,h2⟩:=hy
  simp only [LL.idn,Prod.mk.injEq] at h
  obtain ⟨e1,e2,e3⟩:=h
  have key : x.ks = y.ks:=by
    apply List.ext_getElem e3
    intro i hi hi'
    obtain ⟨a1,a2⟩:=h1 i hi
    obtain ⟨b1,b2⟩:=h2 i hi'
    have xe : ∀ j,j < 4 → X i j = Y i j:=fun j hj=>by
      have c1:=a2 j hj
      have c2:=b2 j hj
      rw [e1,e2,c2] at c1
      injection c1 with c1
      exact c1.symm
    have g1 : x.ks.getD i it0 = x.ks[i]:=by simp [List.getD,hi]
    have g2 : y.ks.getD i it0 = y.ks[i]:=by simp [List.getD,hi']
    rw [g1] at a1
    rw [g2] at b1
    exact uniq _ _ (X i) (n1 _ (List.getElem_mem hi)) (n2 _ (List.getElem_mem hi')) a1 fun j hj=>by rw [xe j hj]; exact b1 j hj
  obtain ⟨b,o,h,t⟩:=x
  obtain ⟨b',o',h',t'⟩:=y
  simp only [LL.ks,List.cons.injEq] at key e1 e2
  obtain ⟨rfl,rfl⟩:=key
  subst e1; subst e2
  rfl
theorem annot {G : Ghost} {w : World} (τ : Ty) : ∀ (X : Nat → Value),R4 G w τ X → ∃ t,erase t = τ ∧ norm t ∧ T4 G w t X ∧ ∀ x ∈ lists t,LLok G w x:=by
  induction τ using Ty.ind with
  | h k m n ks ih =>
    intro X hX
    have h0:=hX 0 (by decide); have h1:=hX 1 (by decide); have h2:=hX 2 (by decide); have h3:=hX 3 (by decide)
    rw [enc] at h0 h1 h2 h3
    simp only [List.getD_cons_zero,List.getD_cons_succ] at h0 h1 h2 h3
    cases ks with
    | nil =>
      refine ⟨.mk k m n 0 0 [],by simp [erase,erases],⟨rfl,rfl⟩,fun j hj=>?_,by simp [lists]⟩
      rw [encI]
      match j,hj with
      | 0,_=>exact h0
      | 1,_=>exact h1
      | 2,_=>exact h2
      | 3,_=>simpa [encs] using h3
    | cons t0 ks =>
      generalize hv : X 3 = v3 at h3
      generalize hL : encs (t0 :: ks) = L at h3
      have hLl : L.length = (t0 :: ks).length:=by rw [← hL,encs_length]
      cases h3 with
      | slice0=>simp at hLl
      | sliceE=>simp at hLl
      | slice _ b off cap sz Y hr hcap hx hI hz hh =>
        have hl : 0 < L.length:=by rw [hLl]; simp
        have r1 : sz = 4:=by
          have:=(hr _ (Abs.getD_mem (d:=[]) hl)).1
          rw [← hL,encs_getD (by simp),enc_length] at this
          omega
        subst r1
        have each : ∀ i,i < (t0 :: ks).length → ∃ t,erase t = (t0 :: ks).getD i ty0 ∧ norm t ∧ T4 G w t (Y i) ∧ ∀ x ∈ lists t,LLok G w x:=fun i hi=>by
          refine ih _ (getD_mem hi) (Y i) fun j hj=>?_
          have:=hh i j (by omega) hj
          unfold Go.Abs.rowAt at this
          rwa [← hL,encs_getD hi] at this
        obtain ⟨ts,hts,hq⟩:=list_of it0 each
        match ts,hts,hq with
        | u :: us,hts,hq =>
          have er : erases (u :: us) = t0 :: ks:=by
            rw [erases_map]
            apply List.ext_getElem (by simpa using hts)
            intro i hi hi'
            have:=(hq i hi').1
            have hil : i < (u :: us).length:=by simpa using hi
            rw [gd _ _ _ hil,gd _ _ _ hi'] at this
            rw [List.getElem_map]
            exact this
          have hxk : (⟨b,off,u,us⟩ : LL).ks = u :: us:=rfl
          have hok : LLok G w ⟨b,off,u,us⟩:=by
            refine ⟨Y,fun t ht=>?_,fun i hi=>?_⟩
            · rw [hxk] at ht
              obtain ⟨i,hi,rfl⟩:=List.mem_iff_getElem.1 ht
              have:=(hq i (by omega)).2.1
              rw [gd _ _ _ hi] at this
              exact this
            · rw [hxk] at hi ⊢
              exact ⟨(hq i (by omega)).2.2.1,fun j hj=>hx i j (by omega) hj⟩
          refine ⟨.mk k m n b off (u :: us),by rw [erase,er],?_,fun j hj=>?_,fun x hx'=>?_⟩
          · have hn : ∀ t ∈ (u :: us),norm t:=hok.choose_spec.1
            simp only [norm]
            exact ⟨hn u (by simp),norms_all.2 fun t ht=>hn t (by simp [ht])⟩
          · rw [encI]
            match j,hj with
            | 0,_=>exact h0
            | 1,_=>exact h1
            | 2,_=>exact h2
            | 3,_ =>
              show RV G w (.islice b off (encIs (u :: us))) (X 3)
              rw [hv]
              have hil : (encIs (u :: us)).length = L.length:=by rw [encIs_length]; omega
              have:=RV.islice (G:=G) (w:=w) (encIs (u :: us)) b off cap 4 Y (fun r hr'=>by
                  rw [encIs_map] at hr'
                  obtain ⟨t,_,rfl⟩:=List.mem_map.1 hr'
                  exact ⟨encI_length t,encI_leaf t⟩) (by omega) (fun i j hi hj=>hx i j (by omega) hj) (fun i j hi hj=>hI i j (by omega) hj) (hz hl (by decide)) (by decide) (by omega) (fun i j hi hj=>by
                  unfold Go.Abs.rowAt
                  rw [encIs_getD (by rw [encIs_length] at hi; exact hi)]
                  exact (hq i (by rw [encIs_length] at hi; omega)).2.2.1 j hj)
              rw [hil] at this
              exact this
          · rw [lists_eq (t:=.mk k m n b off (u :: us)) (x:=⟨b,off,u,us⟩) rfl] at hx'
            rcases List.mem_cons.1 hx' with rfl | hx'
            · exact hok
            · obtain ⟨t,ht,hxt⟩:=listss_mem.1 hx'
              rw [hxk] at ht
              obtain ⟨i,hi,rfl⟩:=List.mem_iff_getElem.1 ht
              have:=(hq i (by omega)).2.2.2 x
              have e : (u :: us).getD i it0 = (u :: us)[i]:=gd _ _ _ hi
              rw [e] at this
              exact this hxt
        | [],hts,_=>simp at hts
set_option maxRecDepth 100000 in
theorem tc_new (A : List Box) : ACalls Try.prog 46 [] A (fun r A'=>r = .agg [tF1,tF2,.map (A.length + 1)] ∧ A' = A ++ [.cells [tF1,tF2,.map (A.length + 1)],.mapb []]):=by
  simp only [tF1,tF2]
  refine acalls_enterK (cf:=cf 7 [0,1,2]) foll Try.func46 Try.ntmps46 (by simp [cf]) ?_
  simp only [Try.f46,EnterK_some,zW,zX,zD,builtinA,isLeaf,const1,ustrA,simprocAttr,ti76,ti78,cf,Try.results46]
end Go.Proofs.Ytijlnkfiadajhaa
/- Items of signatures as data. -/
set_option linter.unusedVariables false
set_option linter.unusedSimpArgs false
namespace Go.Proofs.Ytijlnkfiadajhaa
open Go.Abs
structure SigI where
  kind : Int
  name : List UInt8
  typ : Ty
def si0 : SigI:=⟨0,[],ty0⟩
def sE (x : SigI) : List AV:=.int .i64 x.kind :: .str x.name :: enc x.typ
def sEA (x : SigI) : List AV:=.int .i64 x.kind :: .str x.name :: encA x.typ
def sEs (l : List SigI) : List (List AV):=l.map sE
def sEAs (l : List SigI) : List (List AV):=l.map sEA
def szI (x : SigI) : Nat:=x.name.length + sz x.typ
def szIs (l : List SigI) : Nat:=(l.map szI).sum
def SigI.Ok (x : SigI) : Prop:=x.name.length < 2 ^ 63 ∧ x.typ.Ok
def zsi : List AV:=[.int .i64 0,.str [],.int .i64 0,.str [],.str [],.slice []]
theorem sE_length (x : SigI) : (sE x).length = 6:=by simp [sE,enc_length]
theorem sEA_length (x : SigI) : (sEA x).length = 6:=by simp [sEA,encA_length]
theorem sE_take (x : SigI) : List.take 6 (sE x) = sE x:=List.take_of_length_le (by rw [sE_length]; exact Nat.le_refl _)
theorem sEA_take (x : SigI) : List.take 6 (sEA x) = sEA x:=List.take_of_length_le (by rw [sEA_length]; exact Nat.le_refl _)
theorem sE_leaf (x : SigI) : ∀ v ∈ sE x,isLeaf v = true:=by
  intro v hv
  simp only [sE,List.mem_cons] at hv
  rcases hv with rfl | rfl | hv
  · rfl
  · rfl
  · exact enc_leaf _ v hv
theorem frzL_leaf : ∀ (l : List AV) (A : List Box),(∀ v ∈ l,isLeaf v = true) → frzL l A = some (l,A)
  | [],A,_=>rfl
  | v :: l,A,h=>by
    have h1 : frz1 v A = some (v,A):=by
      have:=h v (by simp)
      cases v <;> simp [isLeaf] at this <;> rfl
    simp only [frzL,h1,frzL_leaf l A fun x hx=>h x (by simp [hx])]
theorem frzL_sE (x : SigI) (A : List Box) : frzL (sE x) A = some (sE x,A):=frzL_leaf _ _ (sE_leaf x)
theorem sEA_leaf (x : SigI) : ∀ v ∈ sEA x,isLeaf v = true:=by
  intro v hv
  simp only [sEA,List.mem_cons] at hv
  rcases hv with rfl | rfl | hv
  · rfl
  · rfl
  · cases ht : x.typ with
    | mk k m n ks =>
      rw [ht,encA] at hv
      simp at hv
      rcases hv with rfl | rfl | rfl | rfl <;> rfl
theorem frzL_sEA (x : SigI) (A : List Box) : frzL (sEA x) A = some (sEA x,A):=frzL_leaf _ _ (sEA_leaf x)
theorem sEs_length (l : List SigI) : (sEs l).length = l.length:=by simp [sEs]
theorem sEAs_length (l : List SigI) : (sEAs l).length = l.length:=by simp [sEAs]
theorem sEs_getD {l : List SigI} {i : Nat} (h : i < l.length) : (sEs l).getD i [] = sE (l.getD i si0):=by simp [sEs,List.getD,h]
theorem sEAs_getD {l : List SigI} {i : Nat} (h : i < l.length) : (sEAs l).getD i [] = sEA (l.getD i si0):=by simp [sEAs,List.getD,h]
theorem si_mem {l : List SigI} {i : Nat} (h : i < l.length) : l.getD i si0 ∈ l:=by simp [List.getD,h]
theorem si_take {l : List SigI} {i : Nat} (h : i < l.length) : l.take (i + 1) = l.take i ++ [l.getD i si0]:=by
  rw [List.take_add_one]; simp [List.getD,h]
theorem szIs_take {l : List SigI} {i : Nat} (h : i < l.length) : szIs (l.take (i + 1)) = szIs (l.take i) + szI (l.getD i si0):=by
  rw [si_take h]; simp [szIs]
theorem szIs_le (l : List SigI) (i : Nat) : szIs (l.take i) ≤ szIs l:=by
  have h : szIs l = szIs (l.take i) + szIs (l.drop i):=by
    conv=>lhs; rw [← List.take_append_drop i l]
    simp only [szIs,List.map_append,List.sum_append]
  omega
theorem szIs_mem {x : SigI} {l : List SigI} (h : x ∈ l) : szI x ≤ szIs l:=by
  induction l with
  | nil=>simp at h
  | cons y l ih =>
    simp only [szIs,List.map_cons,List.sum_cons] at ih ⊢
    rcases List.mem_cons.1 h with rfl | h
    · omega
    · have:=ih h; omega
theorem encCl (n : Nat) (t : Ty) : (enc t).all (closed1 n) = true:=List.all_eq_true.2 fun x hx=>leaf_closed1 (enc_leaf t x hx)
theorem encD (t : Ty) : List.drop 4 (enc t) = []:=List.drop_of_length_le (by rw [enc_length]; exact Nat.le_refl _)
end Go.Proofs.Ytijlnkfiadajhaa
/- The document's TypeSame, by itself. -/
set_option linter.unusedVariables false
set_option linter.unusedSimpArgs false
namespace Go.Proofs.Ytijlnkfiadajhaa
open Go.Abs
theorem gdS {α : Type} (l : List α) (i : Nat) (d : α) (h : i < l.length) : l.getD i d = l[i]:=by simp [List.getD,h]
theorem take_eq_all {l l' : List Ty} (hl : l.length = l'.length) (h : ∀ i,i < l.length → l.getD i ty0 = l'.getD i ty0) : l = l':=by
  apply List.ext_getElem hl
  intro i hi hi'
  have:=h i hi
  rw [gdS _ _ _ hi,gdS _ _ _ hi'] at this
  exact this
set_option maxRecDepth 100000 in
set_option maxHeartbeats 2000000 in
theorem spec_TypeSame (σ : Ty) (hσ : σ.Ok) : ∀ (τ : Ty) (A : List Box),ACalls Try.prog 48 [.agg (enc σ),.agg (enc τ)] A (fun r A'=>r = .bool (decide (σ = τ)) ∧ A' = A):=by
  induction σ using Ty.ind with
  | h k m n ks ih =>
    rintro ⟨k',m',n',ks'⟩ A
    obtain ⟨hm,hn,hks,hok⟩:=hσ
    rw [enc,enc]
    by_cases h1 : k = k'
    · by_cases h2 : m = m'
      · by_cases h3 : n = n'
        · by_cases h4 : ks.length = ks'.length
          · have g1 : decide (k = k') = true:=decide_eq_true h1
            have g2 : decide (m = m') = true:=decide_eq_true h2
            have g3 : decide (n = n') = true:=decide_eq_true h3
            have g4 : decide (((ks.length : Nat) : Int) = (ks'.length : Nat)) = true:=decide_eq_true (by omega)
            refine acalls_enter (cf:=cf 53 [0,1,2,3,4,5,33,38,52]) foll Try.func48 Try.ntmps48 (by simp [cf]) ?_
            simp only [Try.f48,EnterK_some,zW,zX,zD,builtinA,isLeaf,const1,ustrA,simprocAttr,ti3,ti9,ti48,ti50,ca48,cf,Try.results48]
            simp only [zW,zX,zD,builtinA,isLeaf,const1,ustrA,simprocAttr,ti3,ti9,ti48,ti50,ca48,cf,Try.results48,g1,g2,g3,g4,encs_length,Bool.not_true]
            refine aloop_intro [2,3,5] (fun e A'=>∃ i,i ≤ ks.length ∧ e = [(2,.ptr A.length 0),(3,.ptr (A.length + 1) 0),(5,.int .i64 i)] ∧ A' = A ++ [.cells [.int .i64 k,.str m,.str n,.slice (encs ks)],.cells [.int .i64 k',.str m',.str n',.slice (encs ks')]] ∧ ∀ j,j < i → ks.getD j ty0 = ks'.getD j ty0) (fun e _=>ks.length - (intOf (Abs.look 5 e)).toNat) ?_ ?_
            · simp only [zW,zX,zD,builtinA,isLeaf,const1,ustrA,simprocAttr,ti3,ti9,ti48,ti50,ca48,cf,Try.results48]
              exact ⟨0,by omega,rfl,by simp⟩
            · rintro e A' ⟨i,hi,rfl,rfl,heq⟩
              have hl' : (encs ks').length = ks.length:=(encs_length _).trans h4.symm
              by_cases hlt : i < ks.length
              · have hlt1 : decide (((i : Nat) : Int) < (ks.length : Nat)) = true:=decide_eq_true (by omega)
                have he:=encs_getD hlt
                have he':=encs_getD (show i < ks'.length by omega)
                have hm:=getD_mem hlt
                have hi1 : IntKind.i64.wrap ((i : Int) + 1) = ((i + 1 : Nat) : Int):=by rw [wrap64 (by omega) (by omega)]; rfl
                simp only [zW,zX,zD,builtinA,isLeaf,const1,ustrA,simprocAttr,ti3,ti9,ti48,ti50,ca48,cf,Try.results48,hlt1,he,he',hl',enc_length,enc_take,encs_length]
                refine .inl ⟨by kernel_rfl,by kernel_rfl,⟨by omega,by omega⟩,⟨by omega,by omega⟩,?_⟩
                refine callD_intro (by simp only [zW,zX,zD,builtinA,isLeaf,const1,ustrA,simprocAttr,frzL_enc,Option.map_some] <;> rfl) (ih _ hm (hok _ hm) (ks'.getD i ty0) _) ?_ rfl
                by_cases hq : ks.getD i ty0 = ks'.getD i ty0
                · simp only [zW,zX,zD,builtinA,isLeaf,const1,ustrA,simprocAttr,ti3,ti9,ti48,ti50,ca48,cf,Try.results48,decide_eq_true hq,Bool.not_true,hi1,LoopK_eq]
                  refine ⟨⟨i + 1,by omega,rfl,fun j hj=>?_⟩,?_⟩
                  · rcases Nat.lt_or_ge j i with h | h
                    · exact heq j h
                    · obtain rfl : j = i:=by omega
                      exact hq
                  · simp only [intOf]
                    omega
                · have hd : decide (Ty.mk k m n ks = Ty.mk k' m' n' ks') = false:=decide_eq_false (fun e=>by injection e with _ _ _ e; exact hq (by rw [e]))
                  rw [hd]
                  simp only [zW,zX,zD,builtinA,isLeaf,const1,ustrA,simprocAttr,ti3,ti9,ti48,ti50,ca48,cf,Try.results48,decide_eq_false hq,Bool.not_false]
              · have hlt1 : decide (((i : Nat) : Int) < (ks.length : Nat)) = false:=decide_eq_false (by omega)
                have : ks = ks':=take_eq_all h4 fun j hj=>heq j (by omega)
                have hd : decide (Ty.mk k m n ks = Ty.mk k' m' n' ks') = true:=decide_eq_true (by rw [h1,h2,h3,this])
                simp only [zW,zX,zD,builtinA,isLeaf,const1,ustrA,simprocAttr,ti3,ti9,ti48,ti50,ca48,cf,Try.results48,hlt1,hl',encs_length]
                rw [hd]
          · have hd : decide (Ty.mk k m n ks = Ty.mk k' m' n' ks') = false:=decide_eq_false (fun e=>by injection e with _ _ _ e; exact h4 (congrArg _ e))
            rw [hd]
            refine acalls_enter (cf:=cf 53 [0,1,2,3,4,5,33,38,52]) foll Try.func48 Try.ntmps48 (by simp [cf]) ?_
            simp only [Try.f48,EnterK_some,zW,zX,zD,builtinA,isLeaf,const1,ustrA,simprocAttr,ti3,ti9,ti48,ti50,ca48,cf,Try.results48]
            simp only [zW,zX,zD,builtinA,isLeaf,const1,ustrA,simprocAttr,ti3,ti9,ti48,ti50,ca48,cf,Try.results48,decide_eq_true h1,decide_eq_true h2,decide_eq_true h3,(decide_eq_false (by omega) : decide (((ks.length : Nat) : Int) = (ks'.length : Nat)) = false),encs_length,Bool.not_true,Bool.not_false]
        · have hd : decide (Ty.mk k m n ks = Ty.mk k' m' n' ks') = false:=decide_eq_false (fun e=>by injection e with _ _ e _; exact h3 e)
          rw [hd]
          refine acalls_enter (cf:=cf 53 [0,1,2,3,4,5,33,38,52]) foll Try.func48 Try.ntmps48 (by simp [cf]) ?_
          simp only [Try.f48,EnterK_some,zW,zX,zD,builtinA,isLeaf,const1,ustrA,simprocAttr,ti3,ti9,ti48,ti50,ca48,cf,Try.results48]
          simp only [zW,zX,zD,builtinA,isLeaf,const1,ustrA,simprocAttr,ti3,ti9,ti48,ti50,ca48,cf,Try.results48,decide_eq_true h1,decide_eq_true h2,decide_eq_false h3,Bool.not_true,Bool.not_false]
      · have hd : decide (Ty.mk k m n ks = Ty.mk k' m' n' ks') = false:=decide_eq_false (fun e=>by injection e with _ e _ _; exact h2 e)
        rw [hd]
        refine acalls_enter (cf:=cf 53 [0,1,2,3,4,5,33,38,52]) foll Try.func48 Try.ntmps48 (by simp [cf]) ?_
        simp only [Try.f48,EnterK_some,zW,zX,zD,builtinA,isLeaf,const1,ustrA,simprocAttr,ti3,ti9,ti48,ti50,ca48,cf,Try.results48]
        simp only [zW,zX,zD,builtinA,isLeaf,const1,ustrA,simprocAttr,ti3,ti9,ti48,ti50,ca48,cf,Try.results48,decide_eq_true h1,decide_eq_false h2,Bool.not_true,Bool.not_false]
    · have hd : decide (Ty.mk k m n ks = Ty.mk k' m' n' ks') = false:=decide_eq_false (fun e=>by injection e with e _ _ _; exact h1 e)
      rw [hd]
      refine acalls_enter (cf:=cf 53 [0,1,2,3,4,5,33,38,52]) foll Try.func48 Try.ntmps48 (by simp [cf]) ?_
      simp only [Try.f48,EnterK_some,zW,zX,zD,builtinA,isLeaf,const1,ustrA,simprocAttr,ti3,ti9,ti48,ti50,ca48,cf,Try.results48]
      simp only [zW,zX,zD,builtinA,isLeaf,const1,ustrA,simprocAttr,ti3,ti9,ti48,ti50,ca48,cf,Try.results48,decide_eq_false h1,Bool.not_true,Bool.not_false]
end Go.Proofs.Ytijlnkfiadajhaa
/- Equality of signatures: the program's and the model's. -/
set_option linter.unusedVariables false
set_option linter.unusedSimpArgs false
namespace Go.Proofs.Ytijlnkfiadajhaa
open Go.Abs
noncomputable def siB (x y : SigI) : Bool:=(decide (x.kind = y.kind) && decide (x.name = y.name)) && decide (x.typ = y.typ)
noncomputable def sisB : List SigI → List SigI → Bool
  | [],[]=>true
  | x :: a,y :: b=>siB x y && sisB a b
  | _,_=>false
theorem si_drop {l : List SigI} {i : Nat} (h : i < l.length) : l.drop i = l.getD i si0 :: l.drop (i + 1):=by
  have : l.getD i si0 = l[i]:=by simp [List.getD,h]
  rw [this,List.getElem_cons_drop h]
theorem sisB_len : ∀ {a b : List SigI},a.length ≠ b.length → sisB a b = false
  | [],[],h=>absurd rfl h
  | [],_ :: _,_=>by simp [sisB]
  | _ :: _,[],_=>by simp [sisB]
  | x :: a,y :: b,h=>by simp [sisB,sisB_len (a:=a) (b:=b) (by simpa using h)]
set_option maxRecDepth 100000 in
theorem spec_SigSame (a b : List SigI) (ha : ∀ x ∈ a,x.Ok) (hla : a.length ≤ 1048576) (A : List Box) : ACalls Try.prog 24 [.slice (sEs a),.slice (sEs b)] A (fun r A'=>r = .bool (sisB a b) ∧ A' = A):=by
  by_cases hl : a.length = b.length
  · have hd : decide ((a.length : Int) = (b.length : Int)) = true:=decide_eq_true (by omega)
    refine acalls_enter (cf:=cf 55 [0,1,4,5,10,14,54]) foll Try.func24 Try.ntmps24 (by simp [cf]) ?_
    simp only [Try.f24,EnterK_some,zW,zX,zD,builtinA,isLeaf,const1,ustrA,simprocAttr,ti3,ti9,ti31,ti50,ti132,ca48,cf,Try.results24]
    simp only [zW,zX,zD,builtinA,isLeaf,const1,ustrA,simprocAttr,ti3,ti9,ti31,ti50,ti132,ca48,cf,Try.results24,sEs_length,hd]
    refine aloop_intro [0,1,5] (fun e A'=>∃ i,i ≤ a.length ∧ sisB (a.drop i) (b.drop i) = sisB a b ∧ e = [(0,.slice (sEs a)),(1,.slice (sEs b)),(5,.int .i64 i)] ∧ A' = A) (fun e _=>a.length - (intOf (Abs.look 5 e)).toNat) ?_ ?_
    · simp only [zW,zX,zD,builtinA,isLeaf,const1,ustrA,simprocAttr,ti3,ti9,ti31,ti50,ti132,ca48,cf,Try.results24]
      exact ⟨0,by omega,rfl,rfl⟩
    · rintro e A' ⟨i,hi,hq,rfl,rfl⟩
      simp only [zW,zX,zD,builtinA,isLeaf,const1,ustrA,simprocAttr,ti3,ti9,ti31,ti50,ti132,ca48,cf,Try.results24,sEs_length]
      refine condK_intro (fun h2=>?_) (fun h2=>?_)
      · have hi2 : i < a.length:=by simpa using h2
        have hj2 : i < b.length:=by omega
        rw [si_drop hi2,si_drop hj2,sisB] at hq
        have e1:=sEs_getD hi2
        have e2:=sEs_getD hj2
        have hm:=ha _ (si_mem hi2)
        have hi1 : IntKind.i64.wrap ((i : Int) + 1) = ((i + 1 : Nat) : Int):=by rw [wrap64 (by omega) (by omega)]; rfl
        generalize a.getD i si0 = x at *
        generalize b.getD i si0 = y at *
        have pa : (0 : Int) ≤ (i : Int) ∧ (i : Int) < (a.length : Int):=⟨by omega,by omega⟩
        have pb : (0 : Int) ≤ (i : Int) ∧ (i : Int) < (b.length : Int):=⟨by omega,by omega⟩
        simp only [sE] at e1 e2
        simp only [zW,zX,zD,builtinA,isLeaf,const1,ustrA,simprocAttr,ti3,ti9,ti31,ti50,ti132,ca48,cf,Try.results24,e1,e2,enc_length,enc_take,sEs_length]
        refine .inl ⟨by kernel_rfl,by kernel_rfl,pa,pb,?_⟩
        by_cases k1 : x.kind = y.kind
        · simp only [zW,zX,zD,builtinA,isLeaf,const1,ustrA,simprocAttr,ti3,ti9,ti31,ti50,ti132,ca48,cf,Try.results24,decide_eq_true k1,e1,e2,enc_length,enc_take,sEs_length]
          refine ⟨pa,pb,?_⟩
          by_cases k2 : x.name = y.name
          · simp only [zW,zX,zD,builtinA,isLeaf,const1,ustrA,simprocAttr,ti3,ti9,ti31,ti50,ti132,ca48,cf,Try.results24,decide_eq_true k2,e1,e2,enc_length,enc_take,sEs_length]
            refine ⟨pa,pb,?_⟩
            refine callD_intro (by simp only [zW,zX,zD,builtinA,isLeaf,const1,ustrA,simprocAttr,frzL_enc,Option.map_some] <;> rfl) (spec_TypeSame x.typ hm.2 y.typ _) ?_ rfl
            by_cases k3 : x.typ = y.typ
            · have : siB x y = true:=by simp [siB,k1,k2,k3]
              rw [this,Bool.true_and] at hq
              simp only [zW,zX,zD,builtinA,isLeaf,const1,ustrA,simprocAttr,ti3,ti9,ti31,ti50,ti132,ca48,cf,Try.results24,decide_eq_true k3,hi1,LoopK_eq]
              refine ⟨⟨i + 1,by omega,hq,rfl⟩,?_⟩
              simp only [intOf]; omega
            · have : siB x y = false:=by simp [siB,k3]
              rw [this,Bool.false_and] at hq
              simp only [zW,zX,zD,builtinA,isLeaf,const1,ustrA,simprocAttr,ti3,ti9,ti31,ti50,ti132,ca48,cf,Try.results24,decide_eq_false k3]
              rw [← hq]
          · have : siB x y = false:=by simp [siB,k2]
            rw [this,Bool.false_and] at hq
            simp only [zW,zX,zD,builtinA,isLeaf,const1,ustrA,simprocAttr,ti3,ti9,ti31,ti50,ti132,ca48,cf,Try.results24,decide_eq_false k2]
            rw [← hq]
        · have : siB x y = false:=by simp [siB,k1]
          rw [this,Bool.false_and] at hq
          simp only [zW,zX,zD,builtinA,isLeaf,const1,ustrA,simprocAttr,ti3,ti9,ti31,ti50,ti132,ca48,cf,Try.results24,decide_eq_false k1]
          rw [← hq]
      · have : i = a.length:=by simp at h2; omega
        subst this
        have hb0 : b.drop a.length = []:=by simp; omega
        rw [List.drop_length,hb0,sisB] at hq
        simp only [zW,zX,zD,builtinA,isLeaf,const1,ustrA,simprocAttr,ti3,ti9,ti31,ti50,ti132,ca48,cf,Try.results24]
        rw [← hq]
  · have hd : decide ((a.length : Int) = (b.length : Int)) = false:=decide_eq_false (by omega)
    rw [sisB_len hl]
    refine acalls_enter (cf:=cf 55 [0,1,4,5,10,14,54]) foll Try.func24 Try.ntmps24 (by simp [cf]) ?_
    simp only [Try.f24,EnterK_some,zW,zX,zD,builtinA,isLeaf,const1,ustrA,simprocAttr,ti3,ti9,ti31,ti50,ti132,ca48,cf,Try.results24]
    simp only [zW,zX,zD,builtinA,isLeaf,const1,ustrA,simprocAttr,ti3,ti9,ti31,ti50,ti132,ca48,cf,Try.results24,sEs_length,hd]
end Go.Proofs.Ytijlnkfiadajhaa
/- The program's SigSame answers whether two lists of items are the same. -/
set_option linter.unusedVariables false
set_option linter.unusedSimpArgs false
namespace Go.Proofs.Ytijlnkfiadajhaa
open Go.Abs
theorem set_eq {A : List Box} {i : Nat} {X : Box} (hi : i < A.length) (h : A.getD i .dead = X) : A.set i X = A:=by
  subst h
  apply List.ext_getElem (by simp)
  intro k h1 h2
  by_cases e : i = k
  · subst e; simp [List.getD,h2]
  · rw [List.getElem_set_ne e]
structure SigJ where
  kind : Int
  name : List UInt8
  typ : ITy
def sj0 : SigJ:=⟨0,[],it0⟩
def jE (x : SigJ) : List AV:=.int .i64 x.kind :: .str x.name :: encI x.typ
def jEs (l : List SigJ) : List (List AV):=l.map jE
def erJ (x : SigJ) : SigI:=⟨x.kind,x.name,erase x.typ⟩
theorem jE_length (x : SigJ) : (jE x).length = 6:=by simp [jE,encI_length]
theorem jE_take (x : SigJ) : List.take 6 (jE x) = jE x:=List.take_of_length_le (by rw [jE_length]; exact Nat.le_refl _)
theorem jE_drop0 (x : SigJ) : (jE x).getD 0 .bot = .int .i64 x.kind:=rfl
theorem jE_drop1 (x : SigJ) : (List.drop 1 (jE x)).getD 0 .bot = .str x.name:=rfl
theorem jE_drop2 (x : SigJ) : List.drop 2 (jE x) = encI x.typ:=rfl
theorem jE_len1 (x : SigJ) : (List.drop 1 (jE x)).length = 5:=by rw [List.length_drop,jE_length]
theorem jE_leaf (x : SigJ) : ∀ v ∈ jE x,isLeaf v = true:=by
  intro v hv
  simp only [jE,List.mem_cons] at hv
  rcases hv with rfl | rfl | hv
  · rfl
  · rfl
  · exact encI_leaf _ v hv
theorem frzL_jE (x : SigJ) (A : List Box) : frzL (jE x) A = some (jE x,A):=frzL_leaf _ _ (jE_leaf x)
theorem jEs_length (l : List SigJ) : (jEs l).length = l.length:=by simp [jEs]
theorem jEs_getD {l : List SigJ} {i : Nat} (h : i < l.length) : (jEs l).getD i [] = jE (l.getD i sj0):=by simp [jEs,List.getD,h]
set_option maxRecDepth 100000 in
theorem same_item {U : List LL} (hU : Univ U) (hN : U.length ≤ 100000000) (hL : ∀ x ∈ U,x.ks.length ≤ 1000000000) (x y : SigJ) (hx : ∀ z,below x.typ = some z → z ∈ U) (hy : ∀ z,below y.typ = some z → z ∈ U)
    (c it is : Nat) (m0 : List (LL × LL)) (h0 : ClS U m0) (A : List Box) (hc : c < A.length) (hi : it < A.length) (hci : c ≠ it) (hAc : A.getD c .dead = .cells [tF1,tF2,.map it,.map is]) (hA : A.getD it .dead = .mapb (esOf m0)) :
    ACalls Try.prog 92 [.agg (jE x),.agg (jE y),.ptr c 0] A (fun r A'=>∃ m',A' = A.set it (.mapb (esOf m')) ∧ r = .bool (siB (erJ x) (erJ y)) ∧ (siB (erJ x) (erJ y) = true → ClS U m')):=by
  have hs0 : A.set it (.mapb (esOf m0)) = A:=set_eq hi hA
  have hout : ∀ m (L : List Box),Outer A (A.set it (.mapb (esOf m)) ++ L):=fun m L=>outer_set A _ it _ (es_closed _ _)
  have hL0 : ∀ L : List Box,Outer A (A ++ L):=fun L=>by have:=hout m0 L; rwa [hs0] at this
  refine acalls_enter (cf:=cf 27 [0,1,2,3,4,5]) foll Try.func92 Try.ntmps92 (by simp [cf]) ?_
  simp only [Try.f92,EnterK_some,zW,zX,zD,builtinA,isLeaf,const1,ustrA,simprocAttr,ti3,ti9,ti50,ti78,ti82,ti132,ca49,cf,Try.results92]
  simp only [zW,zX,zD,builtinA,isLeaf,const1,ustrA,simprocAttr,ti3,ti9,ti50,ti78,ti82,ti132,ca49,cf,Try.results92,jE_length,jE_take,jE_drop0,jE_drop1,jE_len1,jE_drop2,frzL_jE]
  by_cases k1 : x.kind = y.kind
  · simp only [zW,zX,zD,builtinA,isLeaf,const1,ustrA,simprocAttr,ti3,ti9,ti50,ti78,ti82,ti132,ca49,cf,Try.results92,decide_eq_true k1,jE_length,jE_take,jE_drop0,jE_drop1,jE_len1,jE_drop2]
    by_cases k2 : x.name = y.name
    · have hsm:=sameI hU hN hL x.typ y.typ hx hy it m0 h0 (A ++ [Box.cells (jE x),.cells (jE y)]) (by simp; omega) (by rw [Abs.getD_append_left hi]; exact hA)
      have hAc2 : (A ++ [Box.cells (jE x),.cells (jE y)]).getD c .dead = .cells [tF1,tF2,.map it,.map is]:=by rw [Abs.getD_append_left hc]; exact hAc
      simp only [zW,zX,zD,builtinA,isLeaf,const1,ustrA,simprocAttr,ti3,ti9,ti50,ti78,ti82,ti132,ca49,cf,Try.results92,decide_eq_true k2,hAc2,jE_length,jE_take,jE_drop0,jE_drop1,jE_len1,jE_drop2,encI_take,encI_length]
      refine callO_intro hsm ?_
      rintro r A' ⟨m',rfl,rfl,hm'⟩
      rw [List.set_append_left _ _ hi]
      simp only [zW,zX,zD,builtinA,isLeaf,const1,ustrA,simprocAttr,ti3,ti9,ti50,ti78,ti82,ti132,ca49,cf,Try.results92]
      exact ⟨hout _ _,m',rfl,by simp [siB,erJ,k1,k2],fun h=>hm' (by simpa [siB,erJ,k1,k2] using h)⟩
    · simp only [zW,zX,zD,builtinA,isLeaf,const1,ustrA,simprocAttr,ti3,ti9,ti50,ti78,ti82,ti132,ca49,cf,Try.results92,decide_eq_false k2,jE_len1]
      exact ⟨m0,hs0.symm,by simp [siB,erJ,k2],fun h=>by simp [siB,erJ,k2] at h⟩
  · simp only [zW,zX,zD,builtinA,isLeaf,const1,ustrA,simprocAttr,ti3,ti9,ti50,ti78,ti82,ti132,ca49,cf,Try.results92,decide_eq_false k1]
    exact ⟨m0,hs0.symm,by simp [siB,erJ,k1],fun h=>by simp [siB,erJ,k1] at h⟩
structure SL where
  b : Nat
  off : Nat
  hd : SigJ
  tl : List SigJ
def SL.ks (x : SL) : List SigJ:=x.hd :: x.tl
def SL.idn (x : SL) : Nat × Nat × Nat:=(x.b,x.off,x.ks.length)
def kvJ (x : SL) : List AV:=[.ivptr x.b x.off (jE x.hd),.int .i64 (x.ks.length : Nat)]
def oV : Option SL → AV
  | none=>.slice []
  | some x=>.islice x.b x.off (jEs x.ks)
def oK : Option SL → List SigJ
  | none=>[]
  | some x=>x.ks
def Two (it is : Nat) (A A' : List Box) : Prop:=A'.length = A.length ∧ (∀ k,k ≠ it → k ≠ is → A'.getD k .dead = A.getD k .dead) ∧ (∀ n,boxClosed n (A'.getD it .dead) = true) ∧ ∀ n,boxClosed n (A'.getD is .dead) = true
theorem Two.outer {it is : Nat} {A A' : List Box} (h : Two it is A A') (L : List Box) : Outer A (A' ++ L):=by
  obtain ⟨h1,h2,h3,h4⟩:=h
  refine ⟨by simp; omega,fun k hk=>?_⟩
  rw [Abs.getD_append_left (by omega)]
  by_cases e1 : k = it
  · subst e1; exact .inr (h3 _)
  · by_cases e2 : k = is
    · subst e2; exact .inr (h4 _)
    · exact .inl (h2 k e1 e2)
theorem Two.cut {it is : Nat} {A L A' : List Box} (h : Two it is (A ++ L) A') (hi : it < A.length) (his : is < A.length) : Outer A A' ∧ Two it is A (A'.take A.length):=by
  obtain ⟨h1,h2,h3,h4⟩:=h
  have hl : A.length ≤ A'.length:=by rw [h1]; simp
  have hg : ∀ k,k < A.length → (A'.take A.length).getD k .dead = A'.getD k .dead:=fun k hk=>by simp [List.getD,List.getElem?_take,hk]
  refine ⟨⟨hl,fun k hk=>?_⟩,by simp; omega,fun k e1 e2=>?_,fun n=>?_,fun n=>?_⟩
  · by_cases e1 : k = it
    · subst e1; exact .inr (h3 _)
    · by_cases e2 : k = is
      · subst e2; exact .inr (h4 _)
      · left; rw [h2 k e1 e2,Abs.getD_append_left hk]
  · by_cases hk : k < A.length
    · rw [hg k hk,h2 k e1 e2,Abs.getD_append_left hk]
    · have e3 : (A'.take A.length).length = A.length:=by simp; omega
      simp [List.getD,List.getElem?_take,hk]
  · rw [hg _ hi]; exact h3 n
  · rw [hg _ his]; exact h4 n
theorem Two.far {it is : Nat} {A L A' : List Box} (h : Two it is (A ++ L) A') (hi : A.length ≤ it) (his : A.length ≤ is) : Outer A A' ∧ A'.take A.length = A:=by
  obtain ⟨h1,h2,h3,h4⟩:=h
  have hl : A.length ≤ A'.length:=by rw [h1]; simp
  have hg : ∀ k,k < A.length → A'.getD k .dead = A.getD k .dead:=fun k hk=>by
    rw [h2 k (by omega) (by omega),Abs.getD_append_left hk]
  refine ⟨⟨hl,fun k hk=>.inl (hg k hk)⟩,?_⟩
  refine List.ext_getElem (by simp; omega) fun k e1 e2=>?_
  have:=hg k e2
  simp only [List.getD,show k < A'.length by omega,e2,List.getElem?_eq_getElem,Option.getD_some] at this
  rw [List.getElem_take,this]
set_option maxRecDepth 100000 in
theorem sc_new (it : Nat) (A : List Box) (hi : it < A.length) : ACalls Try.prog 56 [.agg [tF1,tF2,.map it]] A (fun r A'=>∃ k B,r = .agg [tF1,tF2,.map it,.map (A.length + k)] ∧ A' = A ++ B ∧ k < B.length ∧ B.getD k .dead = .mapb []):=by
  simp only [tF1,tF2]
  refine acalls_enterK (cf:=cf 6 [0,1,2]) foll Try.func56 Try.ntmps56 (by simp [cf]) ?_
  simp only [Try.f56,EnterK_some,zW,zX,zD,builtinA,isLeaf,const1,ustrA,simprocAttr,ti78,ti80,ti82,cf,Try.results56]
  exact ⟨2,_,rfl,rfl,by simp,rfl⟩
def SLok (G : Ghost) (w : World) (x : SL) : Prop:=∃ Y : Nat → Nat → Value,(∀ t ∈ x.ks,norm t.typ) ∧ ∀ i,i < x.ks.length → (∀ j,j < 6 → RV G w ((jE (x.ks.getD i sj0)).getD j .bot) (Y i j)) ∧ ∀ j,j < 6 → w.cell? ⟨x.b,x.off + (i * 6 + j),none⟩ = some (Y i j)
theorem jE_uniq {G : Ghost} {w : World} (s t : SigJ) (X : Nat → Value) (hs : norm s.typ) (ht : norm t.typ) (h : ∀ j,j < 6 → RV G w ((jE s).getD j .bot) (X j)) (h' : ∀ j,j < 6 → RV G w ((jE t).getD j .bot) (X j)) : s = t:=by
  have h0:=h 0 (by decide)
  have h1:=h 1 (by decide)
  have g0:=h' 0 (by decide)
  have g1:=h' 1 (by decide)
  have e:=uniq s.typ t.typ (fun j=>X (j + 2)) hs ht (fun j hj=>h (j + 2) (by omega)) (fun j hj=>h' (j + 2) (by omega))
  obtain ⟨k,n,ty⟩:=s
  obtain ⟨k',n',ty'⟩:=t
  simp only [jE,List.getD_cons_zero,List.getD_cons_succ] at h0 h1 g0 g1 e
  generalize X 0 = v0 at h0 g0
  generalize X 1 = v1 at h1 g1
  have e0 : k = k':=by cases h0; cases g0; rfl
  have e1 : n = n':=by cases h1; cases g1; rfl
  subst e0; subst e1; subst e
  rfl
theorem SLok.inj {G : Ghost} {w : World} {x y : SL} (hx : SLok G w x) (hy : SLok G w y) (h : x.idn = y.idn) : x.ks = y.ks:=by
  obtain ⟨X,n1,h1⟩:=hx
  obtain ⟨Y,n2,h2⟩:=hy
  simp only [SL.idn,Prod.mk.injEq] at h
  obtain ⟨e1,e2,e3⟩:=h
  apply List.ext_getElem e3
  intro i hi hi'
  obtain ⟨a1,a2⟩:=h1 i hi
  obtain ⟨b1,b2⟩:=h2 i hi'
  have xe : ∀ j,j < 6 → X i j = Y i j:=fun j hj=>by
    have c1:=a2 j hj
    have c2:=b2 j hj
    rw [e1,e2,c2] at c1
    injection c1 with c1
    exact c1.symm
  have g1 : x.ks.getD i sj0 = x.ks[i]:=by simp [List.getD,hi]
  have g2 : y.ks.getD i sj0 = y.ks[i]:=by simp [List.getD,hi']
  rw [g1] at a1
  rw [g2] at b1
  exact jE_uniq _ _ (X i) (n1 _ (List.getElem_mem hi)) (n2 _ (List.getElem_mem hi')) a1 fun j hj=>by rw [xe j hj]; exact b1 j hj
theorem annotS {G : Ghost} {w : World} (a : List SigI) (v : Value) (h : RV G w (.slice (sEs a)) v) : ∃ o : Option SL,(oK o).map erJ = a ∧ RV G w (oV o) v ∧ (∀ x ∈ oK o,norm x.typ ∧ ∀ z ∈ lists x.typ,LLok G w z) ∧ ∀ x,o = some x → SLok G w x:=by
  rcases Classical.em (a = []) with rfl | hne
  · exact ⟨none,rfl,h,by simp [oK],by simp⟩
  · generalize hr0 : sEs a = rows0 at h
    cases h with
    | slice0=>exact absurd (List.map_eq_nil_iff.1 hr0) hne
    | sliceE=>exact absurd (List.map_eq_nil_iff.1 hr0) hne
    | slice _ b off cap sz X hr hcap hx hI hz hh =>
      subst hr0
      have hla : 0 < a.length:=List.length_pos_iff.2 hne
      have hsz : sz = 6:=by
        have:=(hr (sE (a.getD 0 si0)) (List.mem_map.2 ⟨_,si_mem hla,rfl⟩)).1
        rw [← this,sE_length]
      subst hsz
      have hrow : ∀ i,i < a.length → R4 G w (a.getD i si0).typ (fun j=>X i (2 + j)):=fun i hi j hj=>by
        have:=hh i (2 + j) (by rw [sEs_length]; exact hi) (by omega)
        unfold Abs.rowAt at this
        rw [sEs_getD hi] at this
        have e : (sE (a.getD i si0)).getD (2 + j) .bot = (enc (a.getD i si0).typ).getD j .bot:=by rw [Nat.add_comm]; rfl
        rwa [e] at this
      have hex : ∀ i,∃ t : ITy,i < a.length → erase t = (a.getD i si0).typ ∧ norm t ∧ T4 G w t (fun j=>X i (2 + j)) ∧ ∀ z ∈ lists t,LLok G w z:=fun i=>by
        rcases Nat.lt_or_ge i a.length with hi | hi
        · obtain ⟨t,h1,h2,h3,h4⟩:=annot (G:=G) (w:=w) _ _ (hrow i hi)
          exact ⟨t,fun _=>⟨h1,h2,h3,h4⟩⟩
        · exact ⟨it0,fun h=>by omega⟩
      obtain ⟨T,hT⟩:=Classical.axiomOfChoice hex
      obtain ⟨L,hL⟩ : ∃ L,L = (List.range a.length).map fun i=>(⟨(a.getD i si0).kind,(a.getD i si0).name,T i⟩ : SigJ):=⟨_,rfl⟩
      have hlen : L.length = a.length:=by rw [hL]; simp
      have hget : ∀ i,i < a.length → L.getD i sj0 = ⟨(a.getD i si0).kind,(a.getD i si0).name,T i⟩:=fun i hi=>by rw [hL]; simp [List.getD,hi]
      have hcell : ∀ i j,i < a.length → j < 6 → RV G w ((jE (L.getD i sj0)).getD j .bot) (X i j):=fun i j hi hj=>by
        have h0:=hh i j (by rw [sEs_length]; exact hi) hj
        unfold Abs.rowAt at h0
        rw [sEs_getD hi] at h0
        rw [hget i hi]
        match j,hj with
        | 0,_=>exact h0
        | 1,_=>exact h0
        | j + 2,hj =>
          have:=(hT i hi).2.2.1 j (by omega)
          rw [show (fun j=>X i (2 + j)) j = X i (j + 2) by rw [Nat.add_comm]] at this
          exact this
      have hnorm : ∀ x ∈ L,norm x.typ ∧ ∀ z ∈ lists x.typ,LLok G w z:=fun x hx=>by
        rw [hL] at hx
        obtain ⟨i,hi,rfl⟩:=List.mem_map.1 hx
        have:=hT i (by simpa using hi)
        exact ⟨this.2.1,this.2.2.2⟩
      have hmap : L.map erJ = a:=by
        rw [hL]
        apply List.ext_getElem (by simp)
        intro i h1 h2
        have hi : i < a.length:=h2
        simp only [List.getElem_map,List.getElem_range,erJ,(hT i hi).1]
        simp [List.getD,hi]
      clear hL
      match L,hlen with
      | [],hlen=>simp at hlen; omega
      | u :: us,hlen =>
        have hk : (⟨b,off,u,us⟩ : SL).ks = u :: us:=rfl
        have hjl : (jEs (u :: us)).length = (sEs a).length:=by rw [jEs_length,sEs_length,hlen]
        refine ⟨some ⟨b,off,u,us⟩,hmap,?_,hnorm,fun x hx=>?_⟩
        · have := RV.islice (G := G) (w := w) (jEs (u :: us)) b off cap 6 X (fun r hr' => by
              obtain ⟨x,_,rfl⟩:=List.mem_map.1 hr'
              exact ⟨jE_length x,jE_leaf x⟩) (by rw [hjl]; exact hcap) (fun i j hi hj=>hx i j (by rw [← hjl]; exact hi) hj) (fun i j hi hj=>hI i j (by rw [← hjl]; exact hi) hj) (hz (by rw [sEs_length]; exact hla) (by decide)) (by decide) (by rw [hjl,sEs_length]; exact hla) (fun i j hi hj=>by
              unfold Go.Abs.rowAt
              rw [jEs_getD (by rw [jEs_length] at hi; exact hi)]
              exact hcell i j (by rw [jEs_length,hlen] at hi; exact hi) hj)
          rw [hjl] at this
          exact this
        · cases hx
          exact ⟨X,fun t ht=>(hnorm t ht).1,fun i hi=>⟨fun j hj=>hcell i j (by rw [hk,hlen] at hi; exact hi) hj,fun j hj=>hx i j (by rw [hk,hlen] at hi; rw [sEs_length]; exact hi) hj⟩⟩
theorem lens_items (a : List SigJ) : (a.flatMap fun x=>lists x.typ).length ≤ szIs (a.map erJ):=by
  induction a with
  | nil=>simp [szIs]
  | cons x a ih =>
    have h:=lists_len x.typ
    simp only [List.flatMap_cons,List.length_append,szIs,List.map_cons,List.sum_cons,szI,erJ] at ih ⊢
    have e : ((a.map erJ).map fun x=>x.name.length + sz x.typ).sum = szIs (a.map erJ):=rfl
    simp only [szIs,erJ] at e
    omega
end Go.Proofs.Ytijlnkfiadajhaa
