/- Where the parts of a type lie; the program's TypeSame. -/
import Derived.Test.YtebgneaehhaclaaSameM
import Derived.Test.YtebgneaehhaclaaAbsW3
set_option linter.unusedVariables false
set_option linter.unusedSimpArgs false
namespace Go.Proofs.Ytebgneaehhaclaa
open Go.Abs

mutual
def lists : ITy → List LL
  | .mk _ _ _ _ _ [] => []
  | .mk _ _ _ b o (t :: ks) => ⟨b, o, t, ks⟩ :: (lists t ++ listss ks)
def listss : List ITy → List LL
  | [] => []
  | t :: l => lists t ++ listss l
end
mutual
def norm : ITy → Prop
  | .mk _ _ _ b o [] => b = 0 ∧ o = 0
  | .mk _ _ _ _ _ (t :: ks) => norm t ∧ norms ks
def norms : List ITy → Prop
  | [] => True
  | t :: l => norm t ∧ norms l
end
theorem norms_all : ∀ {l : List ITy}, norms l ↔ ∀ t ∈ l, norm t
  | [] => by simp [norms]
  | t :: l => by rw [norms, norms_all]; simp
theorem listss_mem {x : LL} : ∀ {l : List ITy}, x ∈ listss l ↔ ∃ t ∈ l, x ∈ lists t
  | [] => by simp [listss]
  | t :: l => by rw [listss, List.mem_append, listss_mem]; simp
theorem lists_eq {t : ITy} {x : LL} (h : below t = some x) : lists t = x :: listss x.ks := by
  obtain ⟨k, m, n, b, o, ks⟩ := t
  cases ks with
  | nil => simp [below] at h
  | cons u ks => simp [below] at h; subst h; simp [lists, LL.ks, listss]
theorem lists_none {t : ITy} (h : below t = none) : lists t = [] := by
  obtain ⟨k, m, n, b, o, rfl⟩ := below_none h
  simp [lists]
theorem lists_down (t : ITy) : ∀ x ∈ lists t, ∀ u ∈ x.ks, ∀ y, below u = some y → y ∈ lists t := by
  induction t using ITy.ind with
  | h k m n b o ks ih =>
    cases ks with
    | nil => simp [lists]
    | cons t ks =>
      intro x hx u hu y hy
      have he := lists_eq (t := .mk k m n b o (t :: ks)) (x := ⟨b, o, t, ks⟩) rfl
      rw [he] at hx ⊢
      have hsub : ∀ v ∈ (⟨b, o, t, ks⟩ : LL).ks, ∀ z, z ∈ lists v → z ∈ listss (⟨b, o, t, ks⟩ : LL).ks := fun v hv z hz => listss_mem.2 ⟨v, hv, hz⟩
      rcases List.mem_cons.1 hx with rfl | hx
      · refine List.mem_cons_of_mem _ (hsub u hu y ?_)
        rw [lists_eq hy]; simp
      · obtain ⟨v, hv, hxv⟩ := listss_mem.1 hx
        exact List.mem_cons_of_mem _ (hsub v hv y (ih v hv x hxv u hu y hy))
mutual
theorem lists_len : ∀ t : ITy, (lists t).length ≤ sz (erase t)
  | .mk k m n b o [] => by simp [lists]
  | .mk k m n b o (t :: ks) => by
    have h1 := lists_len t
    have h2 := listss_len ks
    simp only [lists, erase, erases, sz, szs, List.length_cons, List.length_append]
    omega
theorem listss_len : ∀ l : List ITy, (listss l).length ≤ szs (erases l)
  | [] => by simp [listss]
  | t :: l => by
    have h1 := lists_len t
    have h2 := listss_len l
    simp only [listss, erases, szs, List.length_append]
    omega
end

theorem gd {α : Type} (l : List α) (i : Nat) (d : α) (h : i < l.length) : l.getD i d = l[i] := by simp [List.getD, h]
theorem islice_inv {G : Ghost} {w : World} {b off : Nat} {rows : List (List AV)} {x : Value} (h : RV G w (.islice b off rows) x) : ∃ cap sz, ∃ X : Nat → Nat → Value, x = .slice (some ⟨b, off, none⟩) rows.length cap ∧ (∀ r ∈ rows, r.length = sz) ∧
    (∀ i j, i < rows.length → j < sz → w.cell? ⟨b, off + (i * sz + j), none⟩ = some (X i j)) ∧ ∀ i j, i < rows.length → j < sz → RV G w (Go.Abs.rowAt rows i j) (X i j) := by
  cases h with
  | islice _ _ _ cap sz X hr hcap hx hI hz hsz hl hh => exact ⟨cap, sz, X, rfl, fun r hr' => (hr r hr').1, hx, hh⟩
mutual
theorem lists_ks (x : LL) : ∀ t : ITy, x ∈ lists t → x.ks.length ≤ sz (erase t)
  | .mk k m n b o [] => by simp [lists]
  | .mk k m n b o (t :: ks) => fun h => by
    simp only [lists, List.mem_cons, List.mem_append] at h
    simp only [erase, erases, sz, szs]
    rcases h with rfl | h | h
    · have h1 : (erases ks).length = ks.length := by rw [erases_map, List.length_map]
      show (t :: ks).length ≤ _
      simp only [List.length_cons]; omega
    · have := lists_ks x t h; omega
    · have := listss_ks x ks h; omega
theorem listss_ks (x : LL) : ∀ l : List ITy, x ∈ listss l → x.ks.length ≤ szs (erases l)
  | [] => by simp [listss]
  | t :: l => fun h => by
    simp only [listss, List.mem_append] at h
    simp only [erases, szs]
    rcases h with h | h
    · have := lists_ks x t h; omega
    · have := listss_ks x l h; omega
end

def R4 (G : Ghost) (w : World) (τ : Ty) (X : Nat → Value) : Prop := ∀ j, j < 4 → RV G w ((enc τ).getD j .bot) (X j)
def T4 (G : Ghost) (w : World) (t : ITy) (X : Nat → Value) : Prop := ∀ j, j < 4 → RV G w ((encI t).getD j .bot) (X j)

theorem uniq {G : Ghost} {w : World} (s : ITy) : ∀ (t : ITy) (X : Nat → Value), norm s → norm t → T4 G w s X → T4 G w t X → s = t := by
  induction s using ITy.ind with
  | h k m n b o ks ih =>
    rintro ⟨k', m', n', b', o', ks'⟩ X hs ht h h'
    have h0 := h 0 (by decide); have h1 := h 1 (by decide); have h2 := h 2 (by decide); have h3 := h 3 (by decide)
    have g0 := h' 0 (by decide); have g1 := h' 1 (by decide); have g2 := h' 2 (by decide); have g3 := h' 3 (by decide)
    rw [encI_eq] at h0 h1 h2 h3 g0 g1 g2 g3
    simp only [List.getD_cons_zero, List.getD_cons_succ, node] at h0 h1 h2 h3 g0 g1 g2 g3
    generalize X 0 = v0 at h0 g0
    generalize X 1 = v1 at h1 g1
    generalize X 2 = v2 at h2 g2
    generalize X 3 = v3 at h3 g3
    have e0 : k = k' := by cases h0; cases g0; rfl
    have e1 : m = m' := by
      cases h1
      generalize hq : (⟨m.toArray⟩ : ByteArray) = q at g1
      cases g1
      injection hq with hq
      have := congrArg Array.toList hq
      simpa using this
    have e2 : n = n' := by
      cases h2
      generalize hq : (⟨n.toArray⟩ : ByteArray) = q at g2
      cases g2
      injection hq with hq
      have := congrArg Array.toList hq
      simpa using this
    subst e0; subst e1; subst e2
    have lens : ∀ (a : Option Addr) (l c : Nat), v3 = .slice a l c → (ks = [] → l = 0) ∧ (ks' = [] → l = 0) ∧ (ks ≠ [] → l = ks.length) ∧ (ks' ≠ [] → l = ks'.length) := by
      intro a l c hv
      subst hv
      refine ⟨fun e => ?_, fun e => ?_, fun e => ?_, fun e => ?_⟩
      · subst e; simp [kidsV, below] at h3; cases h3 <;> rfl
      · subst e; simp [kidsV, below] at g3; cases g3 <;> rfl
      · cases ks with
        | nil => exact absurd rfl e
        | cons t ks => simp [kidsV, below] at h3; cases h3; simp [LL.ks, encIs_length]
      · cases ks' with
        | nil => exact absurd rfl e
        | cons t ks' => simp [kidsV, below] at g3; cases g3; simp [LL.ks, encIs_length]
    have isS : ∃ a l c, v3 = .slice a l c := by
      cases ks with
      | nil => simp [kidsV, below] at h3; cases h3 <;> exact ⟨_, _, _, rfl⟩
      | cons t ks => simp [kidsV, below] at h3; cases h3; exact ⟨_, _, _, rfl⟩
    obtain ⟨a, l, c, hv⟩ := isS
    obtain ⟨l1, l2, l3, l4⟩ := lens a l c hv
    cases ks with
    | nil =>
      cases ks' with
      | nil =>
        simp only [norm] at hs ht
        rw [hs.1, hs.2, ht.1, ht.2]
      | cons t ks' =>
        have a1 := l1 rfl
        have a2 := l4 (by simp)
        simp at a2; omega
    | cons t ks =>
      cases ks' with
      | nil =>
        have a1 := l2 rfl
        have a2 := l3 (by simp)
        simp at a2; omega
      | cons t' ks' =>
        have a1 := l3 (by simp)
        have a2 := l4 (by simp)
        simp only [kidsV, below] at h3 g3
        obtain ⟨cap, sz, X1, q1, r1, x1, z1⟩ := islice_inv h3
        obtain ⟨cap', sz', X2, q2, r2, x2, z2⟩ := islice_inv g3
        rw [q1] at q2
        simp only [Value.slice.injEq, Option.some.injEq, Addr.mk.injEq] at q2
        have hb : b = b' := q2.1.1
        have ho : o = o' := q2.1.2.1
        have hlen : (t :: ks).length = (t' :: ks').length := by
          have := q2.2.1
          rw [encIs_length, encIs_length] at this
          exact this
        subst hb; subst ho
        have n1 : (encIs (LL.ks ⟨b, o, t, ks⟩)).length = (t :: ks).length := encIs_length _
        have n2 : (encIs (LL.ks ⟨b, o, t', ks'⟩)).length = (t' :: ks').length := encIs_length _
        have e1 : sz = 4 := by
          have := r1 (encI t) (by simp [LL.ks, encIs])
          rw [encI_length] at this; exact this.symm
        have e2 : sz' = 4 := by
          have := r2 (encI t') (by simp [LL.ks, encIs])
          rw [encI_length] at this; exact this.symm
        subst e1; subst e2
        have key : (t :: ks) = (t' :: ks') := by
          apply List.ext_getElem hlen
          intro i hi hi'
          have xe : ∀ j, j < 4 → X1 i j = X2 i j := fun j hj => by
            have := (x1 i j (by omega) hj).symm.trans (x2 i j (by omega) hj)
            injection this
          have t1 : T4 G w ((t :: ks)[i]) (X1 i) := fun j hj => by
            have := z1 i j (by omega) hj
            unfold Go.Abs.rowAt at this
            rw [encIs_getD (show i < (LL.ks ⟨b, o, t, ks⟩).length from hi), gd _ _ _ (show i < (LL.ks ⟨b, o, t, ks⟩).length from hi)] at this
            exact this
          have t2 : T4 G w ((t' :: ks')[i]) (X1 i) := fun j hj => by
            have := z2 i j (by omega) hj
            unfold Go.Abs.rowAt at this
            rw [encIs_getD (show i < (LL.ks ⟨b, o, t', ks'⟩).length from hi'), gd _ _ _ (show i < (LL.ks ⟨b, o, t', ks'⟩).length from hi'), ← xe j hj] at this
            exact this
          simp only [norm] at hs ht
          have ns : ∀ u ∈ (t :: ks), norm u := fun u hu => by
            rcases List.mem_cons.1 hu with rfl | hu
            · exact hs.1
            · exact norms_all.1 hs.2 u hu
          have nt : ∀ u ∈ (t' :: ks'), norm u := fun u hu => by
            rcases List.mem_cons.1 hu with rfl | hu
            · exact ht.1
            · exact norms_all.1 ht.2 u hu
          exact ih _ (List.getElem_mem hi) _ _ (ns _ (List.getElem_mem hi)) (nt _ (List.getElem_mem hi')) t1 t2
        rw [key]

/-- the memory at a list's place -/
def LLok (G : Ghost) (w : World) (x : LL) : Prop := ∃ Y : Nat → Nat → Value, (∀ t ∈ x.ks, norm t) ∧ ∀ i, i < x.ks.length → T4 G w (x.ks.getD i it0) (Y i) ∧ ∀ j, j < 4 → w.cell? ⟨x.b, x.off + (i * 4 + j), none⟩ = some (Y i j)

theorem LLok.inj {G : Ghost} {w : World} {x y : LL} (hx : LLok G w x) (hy : LLok G w y) (h : x.idn = y.idn) : x = y := by
  obtain ⟨X, n1, h1⟩ := hx
  obtain ⟨Y, n2, h2⟩ := hy
  simp only [LL.idn, Prod.mk.injEq] at h
  obtain ⟨e1, e2, e3⟩ := h
  have key : x.ks = y.ks := by
    apply List.ext_getElem e3
    intro i hi hi'
    obtain ⟨a1, a2⟩ := h1 i hi
    obtain ⟨b1, b2⟩ := h2 i hi'
    have xe : ∀ j, j < 4 → X i j = Y i j := fun j hj => by
      have c1 := a2 j hj
      have c2 := b2 j hj
      rw [e1, e2, c2] at c1
      injection c1 with c1
      exact c1.symm
    have g1 : x.ks.getD i it0 = x.ks[i] := by simp [List.getD, hi]
    have g2 : y.ks.getD i it0 = y.ks[i] := by simp [List.getD, hi']
    rw [g1] at a1
    rw [g2] at b1
    exact uniq _ _ (X i) (n1 _ (List.getElem_mem hi)) (n2 _ (List.getElem_mem hi')) a1 fun j hj => by rw [xe j hj]; exact b1 j hj
  obtain ⟨b, o, h, t⟩ := x
  obtain ⟨b', o', h', t'⟩ := y
  simp only [LL.ks, List.cons.injEq] at key e1 e2
  obtain ⟨rfl, rfl⟩ := key
  subst e1; subst e2
  rfl

theorem annot {G : Ghost} {w : World} (τ : Ty) : ∀ (X : Nat → Value), R4 G w τ X → ∃ t, erase t = τ ∧ norm t ∧ T4 G w t X ∧ ∀ x ∈ lists t, LLok G w x := by
  induction τ using Ty.ind with
  | h k m n ks ih =>
    intro X hX
    have h0 := hX 0 (by decide); have h1 := hX 1 (by decide); have h2 := hX 2 (by decide); have h3 := hX 3 (by decide)
    rw [enc] at h0 h1 h2 h3
    simp only [List.getD_cons_zero, List.getD_cons_succ] at h0 h1 h2 h3
    cases ks with
    | nil =>
      refine ⟨.mk k m n 0 0 [], by simp [erase, erases], ⟨rfl, rfl⟩, fun j hj => ?_, by simp [lists]⟩
      rw [encI]
      match j, hj with
      | 0, _ => exact h0
      | 1, _ => exact h1
      | 2, _ => exact h2
      | 3, _ => simpa [encs] using h3
    | cons t0 ks =>
      generalize hv : X 3 = v3 at h3
      generalize hL : encs (t0 :: ks) = L at h3
      have hLl : L.length = (t0 :: ks).length := by rw [← hL, encs_length]
      cases h3 with
      | slice0 => simp at hLl
      | sliceE => simp at hLl
      | slice _ b off cap sz Y hr hcap hx hI hz hh =>
        have hl : 0 < L.length := by rw [hLl]; simp
        have r1 : sz = 4 := by
          have := (hr _ (Abs.getD_mem (d := []) hl)).1
          rw [← hL, encs_getD (by simp), enc_length] at this
          omega
        subst r1
        have each : ∀ i, i < (t0 :: ks).length → ∃ t, erase t = (t0 :: ks).getD i ty0 ∧ norm t ∧ T4 G w t (Y i) ∧ ∀ x ∈ lists t, LLok G w x := fun i hi => by
          refine ih _ (getD_mem hi) (Y i) fun j hj => ?_
          have := hh i j (by omega) hj
          unfold Go.Abs.rowAt at this
          rwa [← hL, encs_getD hi] at this
        obtain ⟨ts, hts, hq⟩ := list_of it0 each
        match ts, hts, hq with
        | u :: us, hts, hq =>
          have er : erases (u :: us) = t0 :: ks := by
            rw [erases_map]
            apply List.ext_getElem (by simpa using hts)
            intro i hi hi'
            have := (hq i hi').1
            have hil : i < (u :: us).length := by simpa using hi
            rw [gd _ _ _ hil, gd _ _ _ hi'] at this
            rw [List.getElem_map]
            exact this
          have hxk : (⟨b, off, u, us⟩ : LL).ks = u :: us := rfl
          have hok : LLok G w ⟨b, off, u, us⟩ := by
            refine ⟨Y, fun t ht => ?_, fun i hi => ?_⟩
            · rw [hxk] at ht
              obtain ⟨i, hi, rfl⟩ := List.mem_iff_getElem.1 ht
              have := (hq i (by omega)).2.1
              rw [gd _ _ _ hi] at this
              exact this
            · rw [hxk] at hi ⊢
              exact ⟨(hq i (by omega)).2.2.1, fun j hj => hx i j (by omega) hj⟩
          refine ⟨.mk k m n b off (u :: us), by rw [erase, er], ?_, fun j hj => ?_, fun x hx' => ?_⟩
          · have hn : ∀ t ∈ (u :: us), norm t := hok.choose_spec.1
            simp only [norm]
            exact ⟨hn u (by simp), norms_all.2 fun t ht => hn t (by simp [ht])⟩
          · rw [encI]
            match j, hj with
            | 0, _ => exact h0
            | 1, _ => exact h1
            | 2, _ => exact h2
            | 3, _ =>
              show RV G w (.islice b off (encIs (u :: us))) (X 3)
              rw [hv]
              have hil : (encIs (u :: us)).length = L.length := by rw [encIs_length]; omega
              have := RV.islice (G := G) (w := w) (encIs (u :: us)) b off cap 4 Y (fun r hr' => by
                  rw [encIs_map] at hr'
                  obtain ⟨t, _, rfl⟩ := List.mem_map.1 hr'
                  exact ⟨encI_length t, encI_leaf t⟩) (by omega) (fun i j hi hj => hx i j (by omega) hj) (fun i j hi hj => hI i j (by omega) hj) (hz hl (by decide)) (by decide) (by omega) (fun i j hi hj => by
                  unfold Go.Abs.rowAt
                  rw [encIs_getD (by rw [encIs_length] at hi; exact hi)]
                  exact (hq i (by rw [encIs_length] at hi; omega)).2.2.1 j hj)
              rw [hil] at this
              exact this
          · rw [lists_eq (t := .mk k m n b off (u :: us)) (x := ⟨b, off, u, us⟩) rfl] at hx'
            rcases List.mem_cons.1 hx' with rfl | hx'
            · exact hok
            · obtain ⟨t, ht, hxt⟩ := listss_mem.1 hx'
              rw [hxk] at ht
              obtain ⟨i, hi, rfl⟩ := List.mem_iff_getElem.1 ht
              have := (hq i (by omega)).2.2.2 x
              have e : (u :: us).getD i it0 = (u :: us)[i] := gd _ _ _ hi
              rw [e] at this
              exact this hxt
        | [], hts, _ => simp at hts

set_option maxRecDepth 100000 in
theorem tc_new (A : List Box) : ACalls Try.prog 45 [] A (fun r A' => r = .agg [tF1, tF2, .map (A.length + 1)] ∧ A' = A ++ [.cells [tF1, tF2, .map (A.length + 1)], .mapb []]) := by
  simp only [tF1, tF2]
  refine acalls_enterK (cf := cf 7 [0, 1, 2]) foll Try.func45 Try.ntmps45 (by simp [cf]) ?_
  simp only [Try.f45, EnterK_some, zW, zX, zD, builtinA, isLeaf, const1, ustrA, simprocAttr, ti73, ti75, cf, Try.results45]


end Go.Proofs.Ytebgneaehhaclaa
