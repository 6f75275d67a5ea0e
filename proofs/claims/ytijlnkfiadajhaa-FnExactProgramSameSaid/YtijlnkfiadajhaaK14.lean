/- AnnG, PrSame, PrSpec. -/
import Derived.Test.YtijlnkfiadajhaaK13
import Derived.Test.YtijlnkfiadajhaaAbsW3
/- Programs in their places: what the memory of the arguments says. -/
set_option linter.unusedVariables false
set_option linter.unusedSimpArgs false
namespace Go.Proofs.Ytijlnkfiadajhaa
open Go.Abs
theorem opt_uniq {α : Type} {G : Ghost} {w : World} (b off : α → Nat) (rows : α → List (List AV)) (hp : ∀ x,0 < (rows x).length) (f : Option α → AV) (h0 : f none = .slice []) (h1 : ∀ x,f (some x) = .islice (b x) (off x) (rows x)) {o o' : Option α} {v : Value} (h : RV G w (f o) v) (h' : RV G w (f o') v)
    (hu : ∀ x y,o = some x → o' = some y → b x = b y → off x = off y → (rows x).length = (rows y).length → x = y) : o = o':=by
  cases o with
  | none =>
    cases o' with
    | none=>rfl
    | some s =>
      exfalso
      rw [h0] at h
      rw [h1] at h'
      have hp:=hp s
      generalize rows s = rs at *
      generalize hz : (AV.slice []) = z at h
      cases h' with
      | islice =>
        generalize hn : rs.length = n0 at *
        generalize b s = b0 at *
        generalize off s = o0 at *
        cases h
        all_goals first | (exfalso; omega) | (cases hz; done) | (injection hz with hz; subst hz; simp at hp; done) | (injection hz with hz; subst hz; simp at hn; omega)
  | some s =>
    cases o' with
    | none =>
      exfalso
      rw [h0] at h'
      rw [h1] at h
      have hp:=hp s
      generalize rows s = rs at *
      generalize hz : (AV.slice []) = z at h'
      cases h with
      | islice =>
        generalize hn : rs.length = n0 at *
        generalize b s = b0 at *
        generalize off s = o0 at *
        cases h'
        all_goals first | (exfalso; omega) | (cases hz; done) | (injection hz with hz; subst hz; simp at hp; done) | (injection hz with hz; subst hz; simp at hn; omega)
    | some s' =>
      rw [h1] at h h'
      have hu:=hu s s' rfl rfl
      generalize rows s = rs at *
      generalize rows s' = rs' at *
      cases h with
      | islice =>
        generalize hb : b s = b0 at *
        generalize ho : off s = o0 at *
        generalize hn : rs.length = n0 at *
        cases h' with
        | islice=>rw [hu rfl rfl rfl]
theorem oVP_uniq {G : Ghost} {w : World} {o o' : Option CP.PL} {v : Value} (h : RV G w (CP.oVP o) v) (h' : RV G w (CP.oVP o') v) (hs : ∀ s,o = some s → PLok G w s) (hs' : ∀ s,o' = some s → PLok G w s) : o = o' :=
  opt_uniq CP.PL.b CP.PL.off (fun x=>qEs x.ks) (fun x=>by rw [qEs_length]; simp [CP.PL.ks]) CP.oVP rfl (fun _=>rfl) h h' fun x y h1 h2 e1 e2 e3=>(hs x h1).inj (hs' y h2) (by rw [qEs_length,qEs_length] at e3; simp only [CP.PL.idn,Prod.mk.injEq]; exact ⟨e1,e2,e3⟩)
theorem oVK_uniq {G : Ghost} {w : World} {o o' : Option KL} {v : Value} (h : RV G w (oVK o) v) (h' : RV G w (oVK o') v) (hs : ∀ s,o = some s → KLok G w s) (hs' : ∀ s,o' = some s → KLok G w s) : o = o' :=
  opt_uniq KL.b KL.off (fun x=>kEs x.ks) (fun x=>by rw [kEs_length]; simp [KL.ks]) oVK rfl (fun _=>rfl) h h' fun x y h1 h2 e1 e2 e3=>(hs x h1).eq (hs' y h2) (by rw [kEs_length,kEs_length] at e3; simp only [KL.idn,Prod.mk.injEq]; exact ⟨e1,e2,e3⟩)
theorem str_uniq {G : Ghost} {w : World} {a b : List UInt8} {v : Value} (h : RV G w (.str a) v) (h' : RV G w (.str b) v) : a = b:=by cases h; cases h'; rfl
def ALok (G : Ghost) (w : World) (x : CA.AL) : Prop:=∃ Y : Nat → Value,∀ i,i < x.ks.length → RV G w (.str (x.ks.getD i [])) (Y i) ∧ w.cell? ⟨x.b,x.off + (i * 1 + 0),none⟩ = some (Y i)
theorem ALok.inj {G : Ghost} {w : World} {x y : CA.AL} (hx : ALok G w x) (hy : ALok G w y) (h : x.idn = y.idn) : x = y:=by
  obtain ⟨X,h1⟩:=hx
  obtain ⟨Y,h2⟩:=hy
  simp only [CA.AL.idn,Prod.mk.injEq] at h
  obtain ⟨e1,e2,e3⟩:=h
  have hk : x.ks = y.ks:=by
    apply List.ext_getElem e3
    intro i hi hi'
    obtain ⟨a1,a2⟩:=h1 i hi
    obtain ⟨b1,b2⟩:=h2 i hi'
    rw [e1,e2,b2] at a2
    injection a2 with a2
    have g1 : x.ks.getD i [] = x.ks[i]:=by simp [List.getD,hi]
    have g2 : y.ks.getD i [] = y.ks[i]:=by simp [List.getD,hi']
    rw [g1,← a2] at a1
    rw [g2] at b1
    exact str_uniq a1 b1
  obtain ⟨b,o,hd,tl⟩:=x
  obtain ⟨b',o',hd',tl'⟩:=y
  simp only [CA.AL.ks,List.cons.injEq] at hk e1 e2
  obtain ⟨rfl,rfl⟩:=hk
  subst e1; subst e2
  rfl
theorem oVA_uniq {G : Ghost} {w : World} {o o' : Option CA.AL} {v : Value} (h : RV G w (CA.oVA o) v) (h' : RV G w (CA.oVA o') v) (hs : ∀ s,o = some s → ALok G w s) (hs' : ∀ s,o' = some s → ALok G w s) : o = o' :=
  opt_uniq CA.AL.b CA.AL.off (fun x=>aEs x.ks) (fun x=>by rw [aEs_length]; simp [CA.AL.ks]) CA.oVA rfl (fun _=>rfl) h h' fun x y h1 h2 e1 e2 e3=>(hs x h1).inj (hs' y h2) (by rw [aEs_length,aEs_length] at e3; simp only [CA.AL.idn,Prod.mk.injEq]; exact ⟨e1,e2,e3⟩)
theorem annotA {G : Ghost} {w : World} (a : Nms) (v : Value) (h : RV G w (.slice (aEs a)) v) : ∃ o : Option CA.AL,CA.oKA o = a ∧ RV G w (CA.oVA o) v ∧ ∀ x,o = some x → ALok G w x:=by
  rcases Classical.em (a = []) with rfl | hne
  · exact ⟨none,rfl,h,by simp⟩
  · generalize hr0 : aEs a = rows0 at h
    cases h with
    | slice0=>exact absurd (List.map_eq_nil_iff.1 hr0) hne
    | sliceE=>exact absurd (List.map_eq_nil_iff.1 hr0) hne
    | slice _ b off cap sz X hr hcap hx hI hz hh =>
      subst hr0
      have hla : 0 < a.length:=List.length_pos_iff.2 hne
      have hsz : sz = 1:=by
        have:=(hr [AV.str (a.getD 0 [])] (List.mem_map.2 ⟨_,ns_mem hla,rfl⟩)).1
        rw [← this]; rfl
      subst hsz
      have hrow : ∀ i,i < a.length → RV G w (.str (a.getD i [])) (X i 0):=fun i hi=>by
        have h0:=hh i 0 (by rw [aEs_length]; exact hi) (by omega)
        unfold Abs.rowAt at h0
        rw [aEs_getD hi] at h0
        exact h0
      match a,hne with
      | u :: us,_ =>
        have hk : (⟨b,off,u,us⟩ : CA.AL).ks = u :: us:=rfl
        refine ⟨some ⟨b,off,u,us⟩,rfl,?_,fun x hx2=>?_⟩
        · exact RV.islice (G:=G) (w:=w) (aEs (u :: us)) b off cap 1 X hr hcap hx hI (hz (by rw [aEs_length]; exact hla) (by decide)) (by decide) (by rw [aEs_length]; exact hla) hh
        · cases hx2
          exact ⟨fun i=>X i 0,fun i hi=>⟨hrow i hi,hx i 0 (by rw [aEs_length]; exact hi) (by decide)⟩⟩
structure KnD (G : Ghost) (w : World) (x : DeJ) : Prop where
  un : KnUn G w x.un
  ar : ∀ l,x.args = some l → ALok G w l
def DLok (G : Ghost) (w : World) (x : CD.DL) : Prop:=∃ Y : Nat → Nat → Value,(∀ t ∈ x.ks,KnD G w t) ∧ ∀ i,i < x.ks.length → (∀ j,j < 7 → RV G w ((eE (x.ks.getD i ej0)).getD j .bot) (Y i j)) ∧ ∀ j,j < 7 → w.cell? ⟨x.b,x.off + (i * 7 + j),none⟩ = some (Y i j)
theorem eE_uniq {G : Ghost} {w : World} (s t : DeJ) (X : Nat → Value) (hs : KnD G w s) (ht : KnD G w t) (h : ∀ j,j < 7 → RV G w ((eE s).getD j .bot) (X j)) (h' : ∀ j,j < 7 → RV G w ((eE t).getD j .bot) (X j)) : s = t:=by
  have e0:=str_uniq (h 0 (by decide)) (h' 0 (by decide))
  have e1:=oVP_uniq (h 1 (by decide)) (h' 1 (by decide)) hs.un.p2 ht.un.p2
  have e2:=oVK_uniq (h 2 (by decide)) (h' 2 (by decide)) hs.un.b2 ht.un.b2
  have e3:=oV_uniq (h 3 (by decide)) (h' 3 (by decide)) hs.un.f2 ht.un.f2
  have e4:=str_uniq (h 4 (by decide)) (h' 4 (by decide))
  have e5:=str_uniq (h 5 (by decide)) (h' 5 (by decide))
  have e6:=oVA_uniq (h 6 (by decide)) (h' 6 (by decide)) hs.ar ht.ar
  obtain ⟨⟨a,b,c,d⟩,e,f,g⟩:=s
  obtain ⟨⟨a',b',c',d'⟩,e',f',g'⟩:=t
  simp only at e0 e1 e2 e3 e4 e5 e6
  subst e0; subst e1; subst e2; subst e3; subst e4; subst e5; subst e6
  rfl
theorem DLok.inj {G : Ghost} {w : World} {x y : CD.DL} (hx : DLok G w x) (hy : DLok G w y) (h : x.idn = y.idn) : x = y:=by
  obtain ⟨X,n1,h1⟩:=hx
  obtain ⟨Y,n2,h2⟩:=hy
  simp only [CD.DL.idn,Prod.mk.injEq] at h
  obtain ⟨e1,e2,e3⟩:=h
  have hk : x.ks = y.ks:=by
    apply List.ext_getElem e3
    intro i hi hi'
    obtain ⟨a1,a2⟩:=h1 i hi
    obtain ⟨b1,b2⟩:=h2 i hi'
    have xe : ∀ j,j < 7 → X i j = Y i j:=fun j hj=>by
      have c1:=a2 j hj
      have c2:=b2 j hj
      rw [e1,e2,c2] at c1
      injection c1 with c1
      exact c1.symm
    have g1 : x.ks.getD i ej0 = x.ks[i]:=by simp [List.getD,hi]
    have g2 : y.ks.getD i ej0 = y.ks[i]:=by simp [List.getD,hi']
    rw [g1] at a1
    rw [g2] at b1
    exact eE_uniq _ _ (X i) (n1 _ (List.getElem_mem hi)) (n2 _ (List.getElem_mem hi')) a1 fun j hj=>by rw [xe j hj]; exact b1 j hj
  obtain ⟨b,o,hd,tl⟩:=x
  obtain ⟨b',o',hd',tl'⟩:=y
  simp only [CD.DL.ks,List.cons.injEq] at hk e1 e2
  obtain ⟨rfl,rfl⟩:=hk
  subst e1; subst e2
  rfl
theorem annotD1 {G : Ghost} {w : World} (d : DeI) (X : Nat → Value) (h : ∀ j,j < 7 → RV G w ((dE d).getD j .bot) (X j)) : ∃ x : DeJ,erD x = d ∧ (∀ j,j < 7 → RV G w ((eE x).getD j .bot) (X j)) ∧ KnD G w x:=by
  obtain ⟨u,e1,r1,k1⟩:=annotU d.un X fun j hj=>by
    match j,hj with
    | 0,_=>exact h 0 (by decide)
    | 1,_=>exact h 1 (by decide)
    | 2,_=>exact h 2 (by decide)
    | 3,_=>exact h 3 (by decide)
  obtain ⟨o,e2,r2,k2⟩:=annotA d.args _ (h 6 (by decide))
  refine ⟨⟨u,d.made,d.functor,o⟩,?_,fun j hj=>?_,⟨k1,k2⟩⟩
  · obtain ⟨a,b,c,e⟩:=d
    simp only at e1 e2
    simp only [erD,e1,e2]
  · match j,hj with
    | 0,_=>exact r1 0 (by decide)
    | 1,_=>exact r1 1 (by decide)
    | 2,_=>exact r1 2 (by decide)
    | 3,_=>exact r1 3 (by decide)
    | 4,_=>exact h 4 (by decide)
    | 5,_=>exact h 5 (by decide)
    | 6,_=>exact r2
theorem annotD {G : Ghost} {w : World} (a : List DeI) (v : Value) (h : RV G w (.slice (dEs a)) v) : ∃ o : Option CD.DL,(CD.oKD o).map erD = a ∧ RV G w (CD.oVD o) v ∧ (∀ x ∈ CD.oKD o,KnD G w x) ∧ ∀ x,o = some x → DLok G w x:=by
  rcases Classical.em (a = []) with rfl | hne
  · exact ⟨none,rfl,h,by simp [CD.oKD],by simp⟩
  · generalize hr0 : dEs a = rows0 at h
    cases h with
    | slice0=>exact absurd (List.map_eq_nil_iff.1 hr0) hne
    | sliceE=>exact absurd (List.map_eq_nil_iff.1 hr0) hne
    | slice _ b off cap sz X hr hcap hx hI hz hh =>
      subst hr0
      have hla : 0 < a.length:=List.length_pos_iff.2 hne
      have hsz : sz = 7:=by
        have:=(hr (dE (a.getD 0 de0)) (List.mem_map.2 ⟨_,de_mem hla,rfl⟩)).1
        rw [← this,dE_length]
      subst hsz
      have hrow : ∀ i,i < a.length → ∀ j,j < 7 → RV G w ((dE (a.getD i de0)).getD j .bot) (X i j):=fun i hi j hj=>by
        have h0:=hh i j (by rw [dEs_length]; exact hi) hj
        unfold Abs.rowAt at h0
        rwa [dEs_getD hi] at h0
      have hex : ∀ i,∃ x : DeJ,i < a.length → erD x = a.getD i de0 ∧ (∀ j,j < 7 → RV G w ((eE x).getD j .bot) (X i j)) ∧ KnD G w x:=fun i=>by
        rcases Nat.lt_or_ge i a.length with hi | hi
        · obtain ⟨x,h1,h2,h3⟩:=annotD1 (a.getD i de0) (X i) (hrow i hi)
          exact ⟨x,fun _=>⟨h1,h2,h3⟩⟩
        · exact ⟨ej0,fun h=>by omega⟩
      obtain ⟨T,hT⟩:=Classical.axiomOfChoice hex
      obtain ⟨L,hL⟩ : ∃ L,L = (List.range a.length).map T:=⟨_,rfl⟩
      have hlen : L.length = a.length:=by rw [hL]; simp
      have hget : ∀ i,i < a.length → L.getD i ej0 = T i:=fun i hi=>by rw [hL]; simp [List.getD,hi]
      have hcell : ∀ i j,i < a.length → j < 7 → RV G w ((eE (L.getD i ej0)).getD j .bot) (X i j):=fun i j hi hj=>by
        rw [hget i hi]; exact (hT i hi).2.1 j hj
      have hkn : ∀ x ∈ L,KnD G w x:=fun x hx=>by
        rw [hL] at hx
        obtain ⟨i,hi,rfl⟩:=List.mem_map.1 hx
        exact (hT i (by simpa using hi)).2.2
      have hmap : L.map erD = a:=by
        rw [hL]
        apply List.ext_getElem (by simp)
        intro i h1 h2
        have hi : i < a.length:=h2
        have e : a.getD i de0 = a[i]:=by simp [List.getD,hi]
        simp only [List.getElem_map,List.getElem_range,(hT i hi).1]
        rw [e]
      clear hL
      match L,hlen with
      | [],hlen=>simp at hlen; omega
      | u :: us,hlen =>
        have hk : (⟨b,off,u,us⟩ : CD.DL).ks = u :: us:=rfl
        have hjl : (eEs (u :: us)).length = (dEs a).length:=by rw [eEs_length,dEs_length,hlen]
        refine ⟨some ⟨b,off,u,us⟩,hmap,?_,hkn,fun x hx=>?_⟩
        · have := RV.islice (G := G) (w := w) (eEs (u :: us)) b off cap 7 X (fun r hr' => by
              obtain ⟨x,_,rfl⟩:=List.mem_map.1 hr'
              exact ⟨eE_length x,eE_leaf x⟩) (by rw [hjl]; exact hcap) (fun i j hi hj=>hx i j (by rw [← hjl]; exact hi) hj) (fun i j hi hj=>hI i j (by rw [← hjl]; exact hi) hj) (hz (by rw [dEs_length]; exact hla) (by decide)) (by decide) (by rw [hjl,dEs_length]; exact hla) (fun i j hi hj=>by
              unfold Go.Abs.rowAt
              rw [eEs_getD (by rw [eEs_length] at hi; exact hi)]
              exact hcell i j (by rw [eEs_length,hlen] at hi; exact hi) hj)
          rw [hjl] at this
          exact this
        · cases hx
          exact ⟨X,hkn,fun i hi=>⟨fun j hj=>hcell i j (by rw [hk,hlen] at hi; exact hi) hj,fun j hj=>hx i j (by rw [hk,hlen] at hi; rw [dEs_length]; exact hi) hj⟩⟩
def erG (p : PrJ) : PrI:=⟨(CD.oKD p.decls).map erD,SX.erase p.main⟩
structure KnPr (G : Ghost) (w : World) (p : PrJ) : Prop where
  d1 : ∀ x ∈ CD.oKD p.decls,KnD G w x
  d2 : ∀ x,p.decls = some x → DLok G w x
  m1 : ∀ z ∈ SX.lists p.main,SX.LLok G w z
  m2 : ∀ z ∈ SX.argL p.main,LLok G w z
theorem annotG {G : Ghost} {w : World} (p : PrI) (X : Nat → Value) (h : ∀ j,j < 10 → RV G w ((gE p).getD j .bot) (X j)) : ∃ x : PrJ,erG x = p ∧ (∀ j,j < 10 → RV G w ((gJ x).getD j .bot) (X j)) ∧ KnPr G w x:=by
  obtain ⟨o,e1,r1,k1,l1⟩:=annotD p.decls _ (h 0 (by decide))
  obtain ⟨m,g1,g2,g3,g4,g5⟩:=SX.annot (G:=G) (w:=w) p.main (fun j=>X (j + 1)) fun j hj=>h (j + 1) (by omega)
  refine ⟨⟨o,m⟩,?_,fun j hj=>?_,⟨k1,l1,g4,g5⟩⟩
  · obtain ⟨a,b⟩:=p
    simp only at e1 g1
    simp only [erG,e1,g1]
  · cases j with
    | zero=>exact r1
    | succ j=>exact g3 j (by omega)
end Go.Proofs.Ytijlnkfiadajhaa
/- ProgramSame, by the program and by the model. -/
set_option linter.unusedVariables false
set_option linter.unusedSimpArgs false
namespace Go.Proofs.Ytijlnkfiadajhaa
open Go.Abs
noncomputable def deIB (x y : DeI) : Bool:=((decide (x.made = y.made) && decide (x.functor = y.functor)) && CG.allB nmEq x.args y.args) && unB x.un y.un
noncomputable def prB (p q : PrI) : Bool:=CG.allB deIB p.decls q.decls && decide (p.main = q.main)
theorem deB_er (x y : DeJ) : deB x y = deIB (erD x) (erD y):=by rw [deB,deIB,unJB_er]; rfl
theorem allD_er : ∀ a b : List DeJ,CG.allB deB a b = CG.allB deIB (a.map erD) (b.map erD)
  | [],[]=>rfl
  | [],_ :: _=>rfl
  | _ :: _,[]=>rfl
  | x :: a,y :: b=>by rw [CG.allB,List.map_cons,List.map_cons,CG.allB,allD_er a b,deB_er]
theorem prJB_er (x y : PrJ) : prJB x y = prB (erG x) (erG y):=by rw [prJB,prB,allD_er]; rfl
theorem szD_un (x : DeJ) : szU (erU x.un) + (CA.oKA x.args).length ≤ szD (erD x):=by simp only [szD,szD2,szD1,erD]; omega
theorem sum_un : ∀ ds : List DeJ,szUs (ds.map (·.un)) ≤ szDs (ds.map erD)
  | []=>by simp [szUs,szDs]
  | d :: ds=>by
    have ih:=sum_un ds
    have h:=szD_un d
    simp only [szUs,szDs,List.map_cons,List.sum_cons] at ih ⊢
    omega
theorem impl_ProgramSame (p q : PrI) (hp : szG p ≤ 1048576) (hq : szG q ≤ 1048576) (A : List Box) : ACalls Try.prog 14 [.agg (gE p),.agg (gE q)] A (fun r A'=>r = .bool (prB p q) ∧ A' = A):=by
  intro G w base xs hH hx
  obtain ⟨a,b,hxy,h1,h2⟩:=hx.two
  have hgl : ∀ x : PrJ,(gJ x).length = 10:=fun x=>by simp [gJ,SX.encI_length]
  have key : ∀ (u : PrI) (a : Value),RV G w (.agg (gE u)) a → ∃ x : PrJ,erG x = u ∧ RV G w (.agg (gJ x)) a ∧ KnPr G w x:=fun u a h=>by
    have hl:=gE_length u
    have hX : ∀ X : Nat → Value,(∀ j,j < 10 → RV G w ((gE u).getD j .bot) (X j)) → _:=annotG (G:=G) (w:=w) u
    generalize gE u = cs at *
    cases h with
    | agg _ ys hs hc hh =>
      obtain ⟨x,e,hr,hk⟩:=hX (fun j=>ys.getD j undef) fun j hj=>hh j (by omega)
      exact ⟨x,e,.agg _ _ (by rw [hgl]; omega) hc fun j hj=>hr j (by rw [hgl] at hj; exact hj),hk⟩
  obtain ⟨x,e1,r1,k1⟩:=key p a h1
  obtain ⟨y,e2,r2,k2⟩:=key q b h2
  obtain ⟨ds,hds⟩ : ∃ ds,ds = CD.oKD x.decls ++ CD.oKD y.decls:=⟨_,rfl⟩
  have z1 : szDs ((CD.oKD x.decls).map erD) + (CD.oKD x.decls).length + szX (SX.erase x.main) ≤ 1048576:=by have h:=hp; rw [← e1] at h; simp only [szG,szG1,erG,List.length_map] at h; omega
  have z2 : szDs ((CD.oKD y.decls).map erD) + (CD.oKD y.decls).length + szX (SX.erase y.main) ≤ 1048576:=by have h:=hq; rw [← e2] at h; simp only [szG,szG1,erG,List.length_map] at h; omega
  have hkd : ∀ d ∈ ds,KnD G w d:=fun d hd=>by
    rw [hds] at hd
    exact (List.mem_append.1 hd).elim (k1.d1 d) (k2.d1 d)
  have hdz : ∀ d ∈ ds,szD (erD d) ≤ 1048576:=fun d hd=>by
    rw [hds] at hd
    rcases List.mem_append.1 hd with h | h
    · have:=szDs_mem (x:=erD d) (l:=(CD.oKD x.decls).map erD) (List.mem_map.2 ⟨d,h,rfl⟩); omega
    · have:=szDs_mem (x:=erD d) (l:=(CD.oKD y.decls).map erD) (List.mem_map.2 ⟨d,h,rfl⟩); omega
  have hdt : szUs (ds.map (·.un)) ≤ 10000000:=by
    have h:=sum_un ds
    have h3 : szDs (ds.map erD) = szDs ((CD.oKD x.decls).map erD) + szDs ((CD.oKD y.decls).map erD):=by rw [hds]; simp [szDs]
    omega
  have hU:=knU_of (G:=G) (w:=w) (ds.map (·.un)) [x.main,y.main] (fun u hu=>by obtain ⟨d,h,rfl⟩:=List.mem_map.1 hu; exact (hkd d h).un) (by simp; exact ⟨⟨k1.m1,k1.m2⟩,k2.m1,k2.m2⟩)
    (fun u hu=>by obtain ⟨d,h,rfl⟩:=List.mem_map.1 hu; have:=szD_un d; have:=hdz d h; omega) hdt (by simp [szXs2]; omega)
  have hdx : ∀ o : Option CD.DL,(∀ l,o = some l → ∀ t ∈ l.ks,t ∈ ds) → ∀ l ∈ o.toList,∀ t ∈ l.ks,t ∈ ds:=fun o h l hl=>h l (by simpa using hl)
  have hmd : ∀ l ∈ x.decls.toList ++ y.decls.toList,∀ t ∈ l.ks,t ∈ ds:=fun l hl t ht=>by
    rw [hds]
    rcases List.mem_append.1 hl with h | h
    · exact List.mem_append_left _ (by rw [show x.decls = some l by simpa using h]; exact ht)
    · exact List.mem_append_right _ (by rw [show y.decls = some l by simpa using h]; exact ht)
  have hKG : KnG (TofU ((ds.map (·.un)).flatMap sigsU) ((ds.map (·.un)).flatMap (·.body.toList)) [x.main,y.main]) (XofU ((ds.map (·.un)).flatMap (·.body.toList)) [x.main,y.main]) ((ds.map (·.un)).flatMap sigsU) ((ds.map (·.un)).flatMap (·.body.toList)) ((ds.map (·.un)).flatMap (·.params.toList)) (ds.flatMap (·.args.toList)) (x.decls.toList ++ y.decls.toList):=by
    refine ⟨hU.1,fun a ha b hb he=>?_,fun a ha=>?_,fun a ha b hb he=>?_,fun l hl=>⟨fun t ht=>⟨hU.2 t.un (List.mem_map.2 ⟨t,hmd l hl t ht,rfl⟩),fun a h=>List.mem_flatMap.2 ⟨t,hmd l hl t ht,by simp [h]⟩⟩,?_⟩⟩
    · obtain ⟨d,h1,h2⟩:=List.mem_flatMap.1 ha
      obtain ⟨d',h3,h4⟩:=List.mem_flatMap.1 hb
      exact ((hkd d h1).ar a (by simpa using h2)).inj ((hkd d' h3).ar b (by simpa using h4)) he
    · obtain ⟨d,h1,h2⟩:=List.mem_flatMap.1 ha
      have h3:=szD_un d
      have h4:=hdz d h1
      rw [show d.args = some a by simpa using h2] at h3
      simp only [CA.oKA] at h3
      omega
    · have hok : ∀ l ∈ x.decls.toList ++ y.decls.toList,DLok G w l:=fun l hl=>by
        rcases List.mem_append.1 hl with h | h
        · exact k1.d2 l (by simpa using h)
        · exact k2.d2 l (by simpa using h)
      exact (hok a ha).inj (hok b hb) he
    · rcases List.mem_append.1 hl with h | h
      · rw [show x.decls = some l by simpa using h] at z1; simp only [CD.oKD] at z1; omega
      · rw [show y.decls = some l by simpa using h] at z2; simp only [CD.oKD] at z2; omega
  have hm : ∀ e ∈ [x.main,y.main],(∀ z,SX.below e = some z → z ∈ XofU ((ds.map (·.un)).flatMap (·.body.toList)) [x.main,y.main]) ∧ TU (TofU ((ds.map (·.un)).flatMap sigsU) ((ds.map (·.un)).flatMap (·.body.toList)) [x.main,y.main]) (SX.argX e):=fun e he =>
    ⟨fun z hz=>List.mem_append_right _ (List.mem_flatMap.2 ⟨e,he,by rw [SX.lists_eq hz]; simp⟩),⟨fun z hz=>List.mem_append_right _ (List.mem_append_right _ (List.mem_flatMap.2 ⟨e,he,SX.argL_own e z (tLists_top hz)⟩))⟩⟩
  have hc:=impl_ProgramSameI hKG x y (fun l h=>List.mem_append_left _ (by simp [h])) (fun l h=>List.mem_append_right _ (by simp [h])) (hm _ (by simp)) (hm _ (by simp)) A
  rw [prJB_er,e1,e2] at hc
  refine hc G w base xs hH ?_
  rw [hxy]
  exact .cons r1 (.cons r2 .nil)
end Go.Proofs.Ytijlnkfiadajhaa
/- The model's ProgramSame. -/
set_option linter.unusedVariables false
set_option linter.unusedSimpArgs false
namespace Go.Proofs.Ytijlnkfiadajhaa
open Go.Abs
set_option maxRecDepth 100000 in
set_option maxHeartbeats 2000000 in
theorem spec_ProgramSame (p q : PrI) (hp : p.Ok) (hz : szG p ≤ 1048576) (A : List Box) : ACalls Try.prog 12 [.agg (gE p),.agg (gE q)] A (fun r A'=>r = .bool (prB p q) ∧ A' = A):=by
  obtain ⟨⟨hd1,hd2⟩,hm⟩:=hp
  have l1 : p.decls.length ≤ 1048576 ∧ szDs p.decls ≤ 1048576:=by unfold szG szG1 at hz; omega
  have hex:=fun A=>spec_ExprSame p.main hm q.main A
  have hun : ∀ x ∈ p.decls,∀ (y : DeI) A,ACalls Try.prog 7 [.agg (uE x.un),.agg (uE y.un)] A (fun r A'=>r = .bool (unB x.un y.un) ∧ A' = A):=fun x hx y A=>spec_UnitSame x.un y.un (hd2 x hx).1 (by have:=szDs_mem hx; unfold szD szD2 szD1 at this; omega) A
  have hal : ∀ x ∈ p.decls,x.args.length ≤ 1048576:=fun x hx=>by have:=szDs_mem hx; unfold szD at this; omega
  rw [gE,gE]
  by_cases h2 : p.decls.length = q.decls.length
  · have d2 : decide ((p.decls.length : Int) = (q.decls.length : Int)) = true:=decide_eq_true (by omega)
    have d2' : decide (¬ (p.decls.length : Int) = (q.decls.length : Int)) = false:=decide_eq_false (fun h=>h (by omega))
    by_cases h3 : p.main = q.main
    · have hpr : prB p q = CG.allB deIB p.decls q.decls:=by rw [prB,decide_eq_true h3,Bool.and_true]
      have e3 : decide (p.main = q.main) = true:=decide_eq_true h3
      rw [hpr]
      rw [e3] at hex
      refine acalls_enter (cf:=cf 88 [0,1,2,3,4,5,6,7,8,23,28,69,74,87]) foll Try.func12 Try.ntmps12 (by simp [cf]) ?_
      simp only [Try.f12,EnterK_some,zW,zX,zD,builtinA,isLeaf,const1,ustrA,simprocAttr,ti3,ti9,ti33,ti47,ti53,ti55,ti100,ti102,ca7,ca18,cf,Try.results12]
      refine ⟨by omega,by omega,?_⟩
      simp only [zW,zX,zD,builtinA,isLeaf,const1,ustrA,simprocAttr,ti3,ti9,ti33,ti47,ti53,ti55,ti100,ti102,ca7,ca18,cf,Try.results12,dEs_length,d2,d2',encX_take,encX_length]
      refine callK_intro (by simp only [zW,zX,zD,builtinA,isLeaf,const1,ustrA,simprocAttr,frzL_encX,Option.map_some]; rfl) (hex _) ?_ rfl; rintro v A' ⟨rfl,rfl⟩
      simp only [zW,zX,zD,builtinA,isLeaf,const1,ustrA,simprocAttr,ti3,ti9,ti33,ti47,ti53,ti55,ti100,ti102,ca7,ca18,cf,Try.results12]
      refine aloop_intro [2,3,5] (fun e A'=>∃ i B,i ≤ p.decls.length ∧ CG.allB deIB (p.decls.drop i) (q.decls.drop i) = CG.allB deIB p.decls q.decls ∧ e = [(2,.ptr A.length 0),(3,.ptr (A.length + 1) 0),(5,.int .i64 (i : Nat))] ∧ A' = A ++ (.cells (.slice (dEs p.decls) :: encX p.main) :: .cells (.slice (dEs q.decls) :: encX q.main) :: B)) (fun e _=>p.decls.length - (intOf (Abs.look 5 e)).toNat) ?_ ?_
      · simp only [zW,zX,zD,builtinA,isLeaf,const1,ustrA,simprocAttr,ti3,ti9,ti33,ti47,ti53,ti55,ti100,ti102,ca7,ca18,cf,Try.results12]
        exact ⟨0,[],by omega,rfl,rfl,rfl⟩
      · rintro e A' ⟨i,B,hi,hq,rfl,rfl⟩
        by_cases hlt : i < p.decls.length
        · have d1 : decide ((i : Int) < (p.decls.length : Int)) = true:=by simp; omega
          have pi : 0 ≤ (i : Int) ∧ (i : Int) < (p.decls.length : Int):=by omega
          have pj : 0 ≤ (i : Int) ∧ (i : Int) < (q.decls.length : Int):=by omega
          have hj : i < q.decls.length:=by omega
          have hg:=dEs_getD hlt
          have hg2:=dEs_getD hj
          have hpc:=hun _ (de_mem hlt) (q.decls.getD i de0)
          have hla:=hal _ (de_mem hlt)
          rw [CG.allB_at de0 p.decls q.decls hlt hj] at hq
          have hi1 : IntKind.i64.wrap ((i : Int) + 1) = ((i + 1 : Nat) : Int):=by rw [wrap64 (by omega) (by omega)]; rfl
          generalize p.decls.getD i de0 = x at *
          generalize q.decls.getD i de0 = y at *
          simp only [dE] at hg hg2
          rw [uE,uE] at hpc
          simp only [zW,zX,zD,builtinA,isLeaf,const1,ustrA,simprocAttr,ti3,ti9,ti33,ti47,ti53,ti55,ti100,ti102,ca7,ca18,cf,Try.results12,dEs_length,d1,hg]
          refine ⟨by omega,by omega,pi,?_⟩
          simp only [zW,zX,zD,builtinA,isLeaf,const1,ustrA,simprocAttr,ti3,ti9,ti33,ti47,ti53,ti55,ti100,ti102,ca7,ca18,cf,Try.results12,dEs_length,hg2]
          refine ⟨by omega,pj,?_⟩
          have hno : deIB x y = false → AV.bool false = AV.bool (CG.allB deIB p.decls q.decls):=fun h=>by rw [← hq,h,Bool.false_and]
          cases hr1 : unB x.un y.un with
          | false =>
            have hdf:=hno (by rw [deIB,hr1,Bool.and_false])
            rw [hr1] at hpc
            refine callK_intro (by simp only [zW,zX,zD,builtinA,isLeaf,const1,ustrA,simprocAttr,Option.map_some]; rfl) (hpc _) ?_ rfl; rintro v A' ⟨rfl,rfl⟩
            simp only [zW,zX,zD,builtinA,isLeaf,const1,ustrA,simprocAttr,ti3,ti9,ti33,ti47,ti53,ti55,ti100,ti102,ca7,ca18,cf,Try.results12]
            exact hdf
          | true =>
            rw [hr1] at hpc
            refine callK_intro (by simp only [zW,zX,zD,builtinA,isLeaf,const1,ustrA,simprocAttr,Option.map_some]; rfl) (hpc _) ?_ rfl; rintro v A' ⟨rfl,rfl⟩
            by_cases m1 : x.made = y.made
            · by_cases m2 : x.functor = y.functor
              · by_cases m3 : x.args.length = y.args.length
                · have d3 : decide ((x.args.length : Int) = (y.args.length : Int)) = true:=decide_eq_true (by omega)
                  have hde : deIB x y = CG.allB nmEq x.args y.args:=by rw [deIB,hr1,decide_eq_true m1,decide_eq_true m2]; simp
                  simp only [zW,zX,zD,builtinA,isLeaf,const1,ustrA,simprocAttr,ti3,ti9,ti33,ti47,ti53,ti55,ti100,ti102,ca7,ca18,cf,Try.results12,m1,m2,aEs_length,d3]
                  refine aloop_intro [2,3,5,6,7,8] (fun e A'=>∃ k,k ≤ x.args.length ∧ CG.allB nmEq (x.args.drop k) (y.args.drop k) = CG.allB nmEq x.args y.args ∧ e = [(2,.ptr A.length 0),(3,.ptr (A.length + 1) 0),(5,.int .i64 (i : Nat)),(6,.ptr (A.length + (B.length + 1 + 1)) 0),(7,.ptr (A.length + (B.length + 1 + 1 + 1)) 0),(8,.int .i64 (k : Nat))] ∧ A' = A ++ (.cells (.slice (dEs p.decls) :: encX p.main) :: .cells (.slice (dEs q.decls) :: encX q.main) :: (B ++ [.cells [.str x.un.name,.slice (pEs x.un.params),.slice (iEs x.un.body),.slice (sEs x.un.face),.str y.made,.str y.functor,.slice (aEs x.args)],.cells [.str y.un.name,.slice (pEs y.un.params),.slice (iEs y.un.body),.slice (sEs y.un.face),.str y.made,.str y.functor,.slice (aEs y.args)]]))) (fun e _=>x.args.length - (intOf (Abs.look 8 e)).toNat) ?_ ?_
                  · simp only [zW,zX,zD,builtinA,isLeaf,const1,ustrA,simprocAttr,ti3,ti9,ti33,ti47,ti53,ti55,ti100,ti102,ca7,ca18,cf,Try.results12]
                    exact ⟨0,by omega,rfl,rfl⟩
                  · rintro e A' ⟨k,hk,hqk,rfl,rfl⟩
                    by_cases hkl : k < x.args.length
                    · have d4 : decide ((k : Int) < (x.args.length : Int)) = true:=by simp; omega
                      have pk : 0 ≤ (k : Int) ∧ (k : Int) < (x.args.length : Int):=by omega
                      have pk2 : 0 ≤ (k : Int) ∧ (k : Int) < (y.args.length : Int):=by omega
                      have hg3:=aEs_getD hkl
                      have hg4:=aEs_getD (show k < y.args.length by omega)
                      have hk1 : IntKind.i64.wrap ((k : Int) + 1) = ((k + 1 : Nat) : Int):=by rw [wrap64 (by omega) (by omega)]; rfl
                      rw [CG.allB_at [] x.args y.args hkl (by omega)] at hqk
                      generalize x.args.getD k [] = s at *
                      generalize y.args.getD k [] = t at *
                      by_cases hst : s = t
                      · rw [show nmEq s t = true from decide_eq_true hst,Bool.true_and] at hqk
                        simp only [zW,zX,zD,builtinA,isLeaf,const1,ustrA,simprocAttr,ti3,ti9,ti33,ti47,ti53,ti55,ti100,ti102,ca7,ca18,cf,Try.results12,aEs_length,d4,hg3,hg4,hst]
                        refine .inl ⟨by kernel_rfl,by kernel_rfl,pk,pk2,?_⟩
                        simp only [zW,zX,zD,builtinA,isLeaf,const1,ustrA,simprocAttr,ti3,ti9,ti33,ti47,ti53,ti55,ti100,ti102,ca7,ca18,cf,Try.results12,hk1,LoopK_eq]
                        refine ⟨⟨k + 1,by omega,hqk,rfl⟩,?_⟩
                        simp only [intOf]; omega
                      · rw [show nmEq s t = false from decide_eq_false hst,Bool.false_and] at hqk
                        have hdf:=hno (by rw [hde,← hqk])
                        simp only [zW,zX,zD,builtinA,isLeaf,const1,ustrA,simprocAttr,ti3,ti9,ti33,ti47,ti53,ti55,ti100,ti102,ca7,ca18,cf,Try.results12,aEs_length,d4,hg3,hg4]
                        refine .inl ⟨by kernel_rfl,by kernel_rfl,pk,pk2,?_⟩
                        simp only [zW,zX,zD,builtinA,isLeaf,const1,ustrA,simprocAttr,ti3,ti9,ti33,ti47,ti53,ti55,ti100,ti102,ca7,ca18,cf,Try.results12,hst]
                        exact hdf
                    · have d4 : decide ((k : Int) < (x.args.length : Int)) = false:=by simp; omega
                      have : k = x.args.length:=by omega
                      subst this
                      have hb0 : y.args.drop x.args.length = []:=by simp; omega
                      rw [List.drop_length,hb0,CG.allB] at hqk
                      rw [hde,← hqk,Bool.true_and] at hq
                      simp only [zW,zX,zD,builtinA,isLeaf,const1,ustrA,simprocAttr,ti3,ti9,ti33,ti47,ti53,ti55,ti100,ti102,ca7,ca18,cf,Try.results12,aEs_length,d4,hi1,LoopK_eq]
                      refine ⟨⟨i + 1,_,by omega,hq,rfl,rfl⟩,?_⟩
                      simp only [intOf]; omega
                · have d3 : decide ((x.args.length : Int) = (y.args.length : Int)) = false:=decide_eq_false (by omega)
                  have hdf:=hno (by rw [deIB,CG.allB_len m3,Bool.and_false,Bool.false_and])
                  simp only [zW,zX,zD,builtinA,isLeaf,const1,ustrA,simprocAttr,ti3,ti9,ti33,ti47,ti53,ti55,ti100,ti102,ca7,ca18,cf,Try.results12,m1,m2,aEs_length,d3]
                  exact hdf
              · have hdf:=hno (by rw [deIB,decide_eq_false m2,Bool.and_false,Bool.false_and,Bool.false_and])
                simp only [zW,zX,zD,builtinA,isLeaf,const1,ustrA,simprocAttr,ti3,ti9,ti33,ti47,ti53,ti55,ti100,ti102,ca7,ca18,cf,Try.results12,m1,decide_eq_false m2,m2]
                exact hdf
            · have hdf:=hno (by rw [deIB,decide_eq_false m1,Bool.false_and,Bool.false_and,Bool.false_and])
              simp only [zW,zX,zD,builtinA,isLeaf,const1,ustrA,simprocAttr,ti3,ti9,ti33,ti47,ti53,ti55,ti100,ti102,ca7,ca18,cf,Try.results12,decide_eq_false m1,m1]
              exact hdf
        · have d1 : decide ((i : Int) < (p.decls.length : Int)) = false:=by simp; omega
          have : i = p.decls.length:=by omega
          subst this
          have hb0 : q.decls.drop p.decls.length = []:=by simp; omega
          rw [List.drop_length,hb0,CG.allB] at hq
          simp only [zW,zX,zD,builtinA,isLeaf,const1,ustrA,simprocAttr,ti3,ti9,ti33,ti47,ti53,ti55,ti100,ti102,ca7,ca18,cf,Try.results12,dEs_length,d1]
          exact ⟨by omega,by rw [← hq]⟩
    · have hpr : prB p q = false:=by rw [prB,decide_eq_false h3,Bool.and_false]
      have e3 : decide (p.main = q.main) = false:=decide_eq_false h3
      rw [hpr]
      rw [e3] at hex
      refine acalls_enter (cf:=cf 88 [0,1,2,3,4,5,6,7,8,23,28,69,74,87]) foll Try.func12 Try.ntmps12 (by simp [cf]) ?_
      simp only [Try.f12,EnterK_some,zW,zX,zD,builtinA,isLeaf,const1,ustrA,simprocAttr,ti3,ti9,ti33,ti47,ti53,ti55,ti100,ti102,ca7,ca18,cf,Try.results12]
      refine ⟨by omega,by omega,?_⟩
      simp only [zW,zX,zD,builtinA,isLeaf,const1,ustrA,simprocAttr,ti3,ti9,ti33,ti47,ti53,ti55,ti100,ti102,ca7,ca18,cf,Try.results12,dEs_length,d2,d2',encX_take,encX_length]
      refine callK_intro (by simp only [zW,zX,zD,builtinA,isLeaf,const1,ustrA,simprocAttr,frzL_encX,Option.map_some]; rfl) (hex _) ?_ rfl; rintro v A' ⟨rfl,rfl⟩
      simp only [zW,zX,zD,builtinA,isLeaf,const1,ustrA,simprocAttr,ti3,ti9,ti33,ti47,ti53,ti55,ti100,ti102,ca7,ca18,cf,Try.results12]
  · have d2 : decide ((p.decls.length : Int) = (q.decls.length : Int)) = false:=decide_eq_false (by omega)
    have d2' : decide (¬ (p.decls.length : Int) = (q.decls.length : Int)) = true:=decide_eq_true (by omega)
    have hpr : prB p q = false:=by rw [prB,CG.allB_len h2,Bool.false_and]
    rw [hpr]
    refine acalls_enter (cf:=cf 88 [0,1,2,3,4,5,6,7,8,23,28,69,74,87]) foll Try.func12 Try.ntmps12 (by simp [cf]) ?_
    simp only [Try.f12,EnterK_some,zW,zX,zD,builtinA,isLeaf,const1,ustrA,simprocAttr,ti3,ti9,ti33,ti47,ti53,ti55,ti100,ti102,ca7,ca18,cf,Try.results12]
    refine ⟨by omega,by omega,?_⟩
    simp only [zW,zX,zD,builtinA,isLeaf,const1,ustrA,simprocAttr,ti3,ti9,ti33,ti47,ti53,ti55,ti100,ti102,ca7,ca18,cf,Try.results12,dEs_length,d2,d2']
end Go.Proofs.Ytijlnkfiadajhaa
