/- SameA2, SigD, TypesImpl, TypesVal, TypesMeth. -/
import Derived.Test.YtngheinmebopeaaGreatK01
import Derived.Test.YtngheinmebopeaaGreatAbsW3
/- Where the parts of a type lie; the program's TypeSame. -/
set_option linter.unusedVariables false
set_option linter.unusedSimpArgs false
namespace Go.Proofs.YtngheinmebopeaaGreat
open Go.Abs

mutual
def lists : ITy → List LL
  | .mk _ _ _ _ _ [] => []
  | .mk _ _ _ b o (t :: ks) => ⟨b, o, t, ks⟩ :: (lists t ++ listss ks)
def listss : List ITy → List LL
  | [] => []
  | t :: l => lists t ++ listss l
end
mutual
def norm : ITy → Prop
  | .mk _ _ _ b o [] => b = 0 ∧ o = 0
  | .mk _ _ _ _ _ (t :: ks) => norm t ∧ norms ks
def norms : List ITy → Prop
  | [] => True
  | t :: l => norm t ∧ norms l
end
theorem norms_all : ∀ {l : List ITy}, norms l ↔ ∀ t ∈ l, norm t
  | [] => by simp [norms]
  | t :: l => by rw [norms, norms_all]; simp
theorem listss_mem {x : LL} : ∀ {l : List ITy}, x ∈ listss l ↔ ∃ t ∈ l, x ∈ lists t
  | [] => by simp [listss]
  | t :: l => by rw [listss, List.mem_append, listss_mem]; simp
theorem lists_eq {t : ITy} {x : LL} (h : below t = some x) : lists t = x :: listss x.ks := by
  obtain ⟨k, m, n, b, o, ks⟩ := t
  cases ks with
  | nil => simp [below] at h
  | cons u ks => simp [below] at h; subst h; simp [lists, LL.ks, listss]
theorem lists_down (t : ITy) : ∀ x ∈ lists t, ∀ u ∈ x.ks, ∀ y, below u = some y → y ∈ lists t := by
  induction t using ITy.ind with
  | h k m n b o ks ih =>
    cases ks with
    | nil => simp [lists]
    | cons t ks =>
      intro x hx u hu y hy
      have he := lists_eq (t := .mk k m n b o (t :: ks)) (x := ⟨b, o, t, ks⟩) rfl
      rw [he] at hx ⊢
      have hsub : ∀ v ∈ (⟨b, o, t, ks⟩ : LL).ks, ∀ z, z ∈ lists v → z ∈ listss (⟨b, o, t, ks⟩ : LL).ks := fun v hv z hz => listss_mem.2 ⟨v, hv, hz⟩
      rcases List.mem_cons.1 hx with rfl | hx
      · refine List.mem_cons_of_mem _ (hsub u hu y ?_)
        rw [lists_eq hy]; simp
      · obtain ⟨v, hv, hxv⟩ := listss_mem.1 hx
        exact List.mem_cons_of_mem _ (hsub v hv y (ih v hv x hxv u hu y hy))
mutual
theorem lists_len : ∀ t : ITy, (lists t).length ≤ sz (erase t)
  | .mk k m n b o [] => by simp [lists]
  | .mk k m n b o (t :: ks) => by
    have h1 := lists_len t
    have h2 := listss_len ks
    simp only [lists, erase, erases, sz, szs, List.length_cons, List.length_append]
    omega
theorem listss_len : ∀ l : List ITy, (listss l).length ≤ szs (erases l)
  | [] => by simp [listss]
  | t :: l => by
    have h1 := lists_len t
    have h2 := listss_len l
    simp only [listss, erases, szs, List.length_append]
    omega
end

theorem gd {α : Type} (l : List α) (i : Nat) (d : α) (h : i < l.length) : l.getD i d = l[i] := by simp [List.getD, h]
theorem islice_inv {G : Ghost} {w : World} {b off : Nat} {rows : List (List AV)} {x : Value} (h : RV G w (.islice b off rows) x) : ∃ cap sz, ∃ X : Nat → Nat → Value, x = .slice (some ⟨b, off, none⟩) rows.length cap ∧ (∀ r ∈ rows, r.length = sz) ∧
    (∀ i j, i < rows.length → j < sz → w.cell? ⟨b, off + (i * sz + j), none⟩ = some (X i j)) ∧ ∀ i j, i < rows.length → j < sz → RV G w (Go.Abs.rowAt rows i j) (X i j) := by
  cases h with
  | islice _ _ _ cap sz X hr hcap hx hI hz hsz hl hh => exact ⟨cap, sz, X, rfl, fun r hr' => (hr r hr').1, hx, hh⟩
mutual
theorem lists_ks (x : LL) : ∀ t : ITy, x ∈ lists t → x.ks.length ≤ sz (erase t)
  | .mk k m n b o [] => by simp [lists]
  | .mk k m n b o (t :: ks) => fun h => by
    simp only [lists, List.mem_cons, List.mem_append] at h
    simp only [erase, erases, sz, szs]
    rcases h with rfl | h | h
    · have h1 : (erases ks).length = ks.length := by rw [erases_map, List.length_map]
      show (t :: ks).length ≤ _
      simp only [List.length_cons]; omega
    · have := lists_ks x t h; omega
    · have := listss_ks x ks h; omega
theorem listss_ks (x : LL) : ∀ l : List ITy, x ∈ listss l → x.ks.length ≤ szs (erases l)
  | [] => by simp [listss]
  | t :: l => fun h => by
    simp only [listss, List.mem_append] at h
    simp only [erases, szs]
    rcases h with h | h
    · have := lists_ks x t h; omega
    · have := listss_ks x l h; omega
end

def R4 (G : Ghost) (w : World) (τ : Ty) (X : Nat → Value) : Prop := ∀ j, j < 4 → RV G w ((enc τ).getD j .bot) (X j)
def T4 (G : Ghost) (w : World) (t : ITy) (X : Nat → Value) : Prop := ∀ j, j < 4 → RV G w ((encI t).getD j .bot) (X j)

theorem uniq {G : Ghost} {w : World} (s : ITy) : ∀ (t : ITy) (X : Nat → Value), norm s → norm t → T4 G w s X → T4 G w t X → s = t := by
  induction s using ITy.ind with
  | h k m n b o ks ih =>
    rintro ⟨k', m', n', b', o', ks'⟩ X hs ht h h'
    have h0 := h 0 (by decide); have h1 := h 1 (by decide); have h2 := h 2 (by decide); have h3 := h 3 (by decide)
    have g0 := h' 0 (by decide); have g1 := h' 1 (by decide); have g2 := h' 2 (by decide); have g3 := h' 3 (by decide)
    rw [encI_eq] at h0 h1 h2 h3 g0 g1 g2 g3
    simp only [List.getD_cons_zero, List.getD_cons_succ, node] at h0 h1 h2 h3 g0 g1 g2 g3
    generalize X 0 = v0 at h0 g0
    generalize X 1 = v1 at h1 g1
    generalize X 2 = v2 at h2 g2
    generalize X 3 = v3 at h3 g3
    have e0 : k = k' := by cases h0; cases g0; rfl
    have e1 : m = m' := by
      cases h1
      generalize hq : (⟨m.toArray⟩ : ByteArray) = q at g1
      cases g1
      injection hq with hq
      have := congrArg Array.toList hq
      simpa using this
    have e2 : n = n' := by
      cases h2
      generalize hq : (⟨n.toArray⟩ : ByteArray) = q at g2
      cases g2
      injection hq with hq
      have := congrArg Array.toList hq
      simpa using this
    subst e0; subst e1; subst e2
    have lens : ∀ (a : Option Addr) (l c : Nat), v3 = .slice a l c → (ks = [] → l = 0) ∧ (ks' = [] → l = 0) ∧ (ks ≠ [] → l = ks.length) ∧ (ks' ≠ [] → l = ks'.length) := by
      intro a l c hv
      subst hv
      refine ⟨fun e => ?_, fun e => ?_, fun e => ?_, fun e => ?_⟩
      · subst e; simp [kidsV, below] at h3; cases h3 <;> rfl
      · subst e; simp [kidsV, below] at g3; cases g3 <;> rfl
      · cases ks with
        | nil => exact absurd rfl e
        | cons t ks => simp [kidsV, below] at h3; cases h3; simp [LL.ks, encIs_length]
      · cases ks' with
        | nil => exact absurd rfl e
        | cons t ks' => simp [kidsV, below] at g3; cases g3; simp [LL.ks, encIs_length]
    have isS : ∃ a l c, v3 = .slice a l c := by
      cases ks with
      | nil => simp [kidsV, below] at h3; cases h3 <;> exact ⟨_, _, _, rfl⟩
      | cons t ks => simp [kidsV, below] at h3; cases h3; exact ⟨_, _, _, rfl⟩
    obtain ⟨a, l, c, hv⟩ := isS
    obtain ⟨l1, l2, l3, l4⟩ := lens a l c hv
    cases ks with
    | nil =>
      cases ks' with
      | nil =>
        simp only [norm] at hs ht
        rw [hs.1, hs.2, ht.1, ht.2]
      | cons t ks' =>
        have a1 := l1 rfl
        have a2 := l4 (by simp)
        simp at a2; omega
    | cons t ks =>
      cases ks' with
      | nil =>
        have a1 := l2 rfl
        have a2 := l3 (by simp)
        simp at a2; omega
      | cons t' ks' =>
        have a1 := l3 (by simp)
        have a2 := l4 (by simp)
        simp only [kidsV, below] at h3 g3
        obtain ⟨cap, sz, X1, q1, r1, x1, z1⟩ := islice_inv h3
        obtain ⟨cap', sz', X2, q2, r2, x2, z2⟩ := islice_inv g3
        rw [q1] at q2
        simp only [Value.slice.injEq, Option.some.injEq, Addr.mk.injEq] at q2
        have hb : b = b' := q2.1.1
        have ho : o = o' := q2.1.2.1
        have hlen : (t :: ks).length = (t' :: ks').length := by
          have := q2.2.1
          rw [encIs_length, encIs_length] at this
          exact this
        subst hb; subst ho
        have n1 : (encIs (LL.ks ⟨b, o, t, ks⟩)).length = (t :: ks).length := encIs_length _
        have n2 : (encIs (LL.ks ⟨b, o, t', ks'⟩)).length = (t' :: ks').length := encIs_length _
        have e1 : sz = 4 := by
          have := r1 (encI t) (by simp [LL.ks, encIs])
          rw [encI_length] at this; exact this.symm
        have e2 : sz' = 4 := by
          have := r2 (encI t') (by simp [LL.ks, encIs])
          rw [encI_length] at this; exact this.symm
        subst e1; subst e2
        have key : (t :: ks) = (t' :: ks') := by
          apply List.ext_getElem hlen
          intro i hi hi'
          have xe : ∀ j, j < 4 → X1 i j = X2 i j := fun j hj => by
            have := (x1 i j (by omega) hj).symm.trans (x2 i j (by omega) hj)
            injection this
          have t1 : T4 G w ((t :: ks)[i]) (X1 i) := fun j hj => by
            have := z1 i j (by omega) hj
            unfold Go.Abs.rowAt at this
            rw [encIs_getD (show i < (LL.ks ⟨b, o, t, ks⟩).length from hi), gd _ _ _ (show i < (LL.ks ⟨b, o, t, ks⟩).length from hi)] at this
            exact this
          have t2 : T4 G w ((t' :: ks')[i]) (X1 i) := fun j hj => by
            have := z2 i j (by omega) hj
            unfold Go.Abs.rowAt at this
            rw [encIs_getD (show i < (LL.ks ⟨b, o, t', ks'⟩).length from hi'), gd _ _ _ (show i < (LL.ks ⟨b, o, t', ks'⟩).length from hi'), ← xe j hj] at this
            exact this
          simp only [norm] at hs ht
          have ns : ∀ u ∈ (t :: ks), norm u := fun u hu => by
            rcases List.mem_cons.1 hu with rfl | hu
            · exact hs.1
            · exact norms_all.1 hs.2 u hu
          have nt : ∀ u ∈ (t' :: ks'), norm u := fun u hu => by
            rcases List.mem_cons.1 hu with rfl | hu
            · exact ht.1
            · exact norms_all.1 ht.2 u hu
          exact ih _ (List.getElem_mem hi) _ _ (ns _ (List.getElem_mem hi)) (nt _ (List.getElem_mem hi')) t1 t2
        rw [key]

/-- the memory at a list's place -/
def LLok (G : Ghost) (w : World) (x : LL) : Prop := ∃ Y : Nat → Nat → Value, (∀ t ∈ x.ks, norm t) ∧ ∀ i, i < x.ks.length → T4 G w (x.ks.getD i it0) (Y i) ∧ ∀ j, j < 4 → w.cell? ⟨x.b, x.off + (i * 4 + j), none⟩ = some (Y i j)

theorem LLok.inj {G : Ghost} {w : World} {x y : LL} (hx : LLok G w x) (hy : LLok G w y) (h : x.idn = y.idn) : x = y := by
  obtain ⟨X, n1, h1⟩ := hx
  obtain ⟨Y, n2, h2⟩ := hy
  simp only [LL.idn, Prod.mk.injEq] at h
  obtain ⟨e1, e2, e3⟩ := h
  have key : x.ks = y.ks := by
    apply List.ext_getElem e3
    intro i hi hi'
    obtain ⟨a1, a2⟩ := h1 i hi
    obtain ⟨b1, b2⟩ := h2 i hi'
    have xe : ∀ j, j < 4 → X i j = Y i j := fun j hj => by
      have c1 := a2 j hj
      have c2 := b2 j hj
      rw [e1, e2, c2] at c1
      injection c1 with c1
      exact c1.symm
    have g1 : x.ks.getD i it0 = x.ks[i] := by simp [List.getD, hi]
    have g2 : y.ks.getD i it0 = y.ks[i] := by simp [List.getD, hi']
    rw [g1] at a1
    rw [g2] at b1
    exact uniq _ _ (X i) (n1 _ (List.getElem_mem hi)) (n2 _ (List.getElem_mem hi')) a1 fun j hj => by rw [xe j hj]; exact b1 j hj
  obtain ⟨b, o, h, t⟩ := x
  obtain ⟨b', o', h', t'⟩ := y
  simp only [LL.ks, List.cons.injEq] at key e1 e2
  obtain ⟨rfl, rfl⟩ := key
  subst e1; subst e2
  rfl

theorem annot {G : Ghost} {w : World} (τ : Ty) : ∀ (X : Nat → Value), R4 G w τ X → ∃ t, erase t = τ ∧ norm t ∧ T4 G w t X ∧ ∀ x ∈ lists t, LLok G w x := by
  induction τ using Ty.ind with
  | h k m n ks ih =>
    intro X hX
    have h0 := hX 0 (by decide); have h1 := hX 1 (by decide); have h2 := hX 2 (by decide); have h3 := hX 3 (by decide)
    rw [enc] at h0 h1 h2 h3
    simp only [List.getD_cons_zero, List.getD_cons_succ] at h0 h1 h2 h3
    cases ks with
    | nil =>
      refine ⟨.mk k m n 0 0 [], by simp [erase, erases], ⟨rfl, rfl⟩, fun j hj => ?_, by simp [lists]⟩
      rw [encI]
      match j, hj with
      | 0, _ => exact h0
      | 1, _ => exact h1
      | 2, _ => exact h2
      | 3, _ => simpa [encs] using h3
    | cons t0 ks =>
      generalize hv : X 3 = v3 at h3
      generalize hL : encs (t0 :: ks) = L at h3
      have hLl : L.length = (t0 :: ks).length := by rw [← hL, encs_length]
      cases h3 with
      | slice0 => simp at hLl
      | sliceE => simp at hLl
      | slice _ b off cap sz Y hr hcap hx hI hz hh =>
        have hl : 0 < L.length := by rw [hLl]; simp
        have r1 : sz = 4 := by
          have := (hr _ (Abs.getD_mem (d := []) hl)).1
          rw [← hL, encs_getD (by simp), enc_length] at this
          omega
        subst r1
        have each : ∀ i, i < (t0 :: ks).length → ∃ t, erase t = (t0 :: ks).getD i ty0 ∧ norm t ∧ T4 G w t (Y i) ∧ ∀ x ∈ lists t, LLok G w x := fun i hi => by
          refine ih _ (getD_mem hi) (Y i) fun j hj => ?_
          have := hh i j (by omega) hj
          unfold Go.Abs.rowAt at this
          rwa [← hL, encs_getD hi] at this
        obtain ⟨ts, hts, hq⟩ := list_of it0 each
        match ts, hts, hq with
        | u :: us, hts, hq =>
          have er : erases (u :: us) = t0 :: ks := by
            rw [erases_map]
            apply List.ext_getElem (by simpa using hts)
            intro i hi hi'
            have := (hq i hi').1
            have hil : i < (u :: us).length := by simpa using hi
            rw [gd _ _ _ hil, gd _ _ _ hi'] at this
            rw [List.getElem_map]
            exact this
          have hxk : (⟨b, off, u, us⟩ : LL).ks = u :: us := rfl
          have hok : LLok G w ⟨b, off, u, us⟩ := by
            refine ⟨Y, fun t ht => ?_, fun i hi => ?_⟩
            · rw [hxk] at ht
              obtain ⟨i, hi, rfl⟩ := List.mem_iff_getElem.1 ht
              have := (hq i (by omega)).2.1
              rw [gd _ _ _ hi] at this
              exact this
            · rw [hxk] at hi ⊢
              exact ⟨(hq i (by omega)).2.2.1, fun j hj => hx i j (by omega) hj⟩
          refine ⟨.mk k m n b off (u :: us), by rw [erase, er], ?_, fun j hj => ?_, fun x hx' => ?_⟩
          · have hn : ∀ t ∈ (u :: us), norm t := hok.choose_spec.1
            simp only [norm]
            exact ⟨hn u (by simp), norms_all.2 fun t ht => hn t (by simp [ht])⟩
          · rw [encI]
            match j, hj with
            | 0, _ => exact h0
            | 1, _ => exact h1
            | 2, _ => exact h2
            | 3, _ =>
              show RV G w (.islice b off (encIs (u :: us))) (X 3)
              rw [hv]
              have hil : (encIs (u :: us)).length = L.length := by rw [encIs_length]; omega
              have := RV.islice (G := G) (w := w) (encIs (u :: us)) b off cap 4 Y (fun r hr' => by
                  rw [encIs_map] at hr'
                  obtain ⟨t, _, rfl⟩ := List.mem_map.1 hr'
                  exact ⟨encI_length t, encI_leaf t⟩) (by omega) (fun i j hi hj => hx i j (by omega) hj) (fun i j hi hj => hI i j (by omega) hj) (hz hl (by decide)) (by decide) (by omega) (fun i j hi hj => by
                  unfold Go.Abs.rowAt
                  rw [encIs_getD (by rw [encIs_length] at hi; exact hi)]
                  exact (hq i (by rw [encIs_length] at hi; omega)).2.2.1 j hj)
              rw [hil] at this
              exact this
          · rw [lists_eq (t := .mk k m n b off (u :: us)) (x := ⟨b, off, u, us⟩) rfl] at hx'
            rcases List.mem_cons.1 hx' with rfl | hx'
            · exact hok
            · obtain ⟨t, ht, hxt⟩ := listss_mem.1 hx'
              rw [hxk] at ht
              obtain ⟨i, hi, rfl⟩ := List.mem_iff_getElem.1 ht
              have := (hq i (by omega)).2.2.2 x
              have e : (u :: us).getD i it0 = (u :: us)[i] := gd _ _ _ hi
              rw [e] at this
              exact this hxt
        | [], hts, _ => simp at hts

set_option maxRecDepth 100000 in
theorem tc_new (A : List Box) : ACalls Tryz.prog 26 [] A (fun r A' => r = .agg [tF1, tF2, .map (A.length + 1)] ∧ A' = A ++ [.cells [tF1, tF2, .map (A.length + 1)], .mapb []]) := by
  simp only [tF1, tF2]
  refine acalls_enterK (cf := cf 7 [0, 1, 2]) foll Tryz.func26 Tryz.ntmps26 (by simp [cf]) ?_
  simp only [Tryz.f26, EnterK_some, zW, zX, zD, builtinA, isLeaf, const1, ustrA, simprocAttr, ti61, ti63, cf, Tryz.results26]

set_option maxRecDepth 100000 in
theorem impl_TypeSameI {U : List LL} (hU : Univ U) (hN : U.length ≤ 100000000) (hL : ∀ x ∈ U, x.ks.length ≤ 1000000000) (a0 b0 : ITy) (ha : ∀ x, below a0 = some x → x ∈ U) (hb : ∀ x, below b0 = some x → x ∈ U) (A : List Box) :
    ACalls Tryz.prog 11 [.agg (encI a0), .agg (encI b0)] A (fun r A' => r = .bool (decide (erase a0 = erase b0)) ∧ A' = A) := by
  have hc0 : ClS U [] := ⟨[], ⟨by simp, by simp, by simp⟩, by simp⟩
  have hg : (A ++ [Box.cells (encI a0), .cells (encI b0), .cells [tF1, tF2, .map (A.length + 3)], .mapb []]).getD (A.length + 3) .dead = .mapb (esOf []) := by
    rw [Abs.getD_append_right (by omega), show A.length + 3 - A.length = 3 by omega]; rfl
  have hsm := sameI hU hN hL a0 b0 ha hb (A.length + 3) [] hc0 (A ++ [Box.cells (encI a0), .cells (encI b0), .cells [tF1, tF2, .map (A.length + 3)], .mapb []]) (by simp) hg
  have htc := tc_new (A ++ [Box.cells (encI a0), .cells (encI b0)])
  simp only [List.length_append, List.length_cons, List.length_nil, List.append_assoc, List.cons_append, List.nil_append, Nat.add_assoc, Nat.reduceAdd] at htc
  refine acalls_enter (cf := cf 9 [0, 1, 2, 3, 4]) foll Tryz.func11 Tryz.ntmps11 (by simp [cf]) ?_
  simp only [Tryz.f11, EnterK_some, zW, zX, zD, builtinA, isLeaf, const1, ustrA, simprocAttr, ti32, ca26, ca31, cf, Tryz.results11]
  refine .inr (drawM_intro [3] .done [(true, 0, 0), (false, 0, 1), (false, 0, 1), (true, 1, 1), (false, 2, 2)] [A ++ [.cells (encI a0), .cells (encI b0)], A ++ [.cells (encI a0), .cells (encI b0), .cells [tF1, tF2, .map (A.length + 3)], .mapb []]] 2 5 rfl (by kernel_rfl) (by kernel_rfl) ?_)
  simp only [zW, zX, zD, builtinA, isLeaf, const1, ustrA, simprocAttr, ti32, ca26, ca31, cf, Tryz.results11, wpMG_cons, wpMG_nil, wpY_done_eq, List.take_succ_cons, List.take_zero, List.drop_succ_cons, List.drop_zero]
  refine callEO_intro htc ?_ rfl
  simp only [zW, zX, zD, builtinA, isLeaf, const1, ustrA, simprocAttr, ti32, ca26, ca31, cf, Tryz.results11, wpMG_cons, wpMG_nil, wpY_done_eq, encI_take, List.take_succ_cons, List.take_zero, List.drop_succ_cons, List.drop_zero]
  refine ⟨by rw [encI_length]; omega, by rw [encI_length]; omega, by rw [encI_length]; omega, by rw [encI_length]; omega, ?_⟩
  refine callO_intro hsm ?_
  rintro r A2 ⟨m', rfl, rfl, _⟩
  refine ⟨[[], [], _], rfl, ?_⟩
  simp only [zW, zX, zD, builtinA, isLeaf, const1, ustrA, simprocAttr, ti32, ca26, ca31, cf, Tryz.results11, wpMG_nil, wpY_done_eq, List.drop_succ_cons, List.drop_zero]

theorem impl_TypeSame (a b : Ty) (ha : sz a ≤ 10000000) (hb : sz b ≤ 10000000) (A : List Box) :
    ACalls Tryz.prog 11 [.agg (enc a), .agg (enc b)] A (fun r A' => r = .bool (decide (a = b)) ∧ A' = A) := by
  intro G w base xs hH hx
  have hx' := hx
  obtain ⟨x, y, hxy, h1, h2⟩ := hx.two
  cases h1 with
  | agg _ us hus huc huh =>
    cases h2 with
    | agg _ vs hvs hvc hvh =>
      have la := enc_length a
      have lb := enc_length b
      obtain ⟨s, e1, n1, t1, k1⟩ := annot (G := G) (w := w) a (fun j => us.getD j undef) fun j hj => huh j (by omega)
      obtain ⟨t, e2, n2, t2, k2⟩ := annot (G := G) (w := w) b (fun j => vs.getD j undef) fun j hj => hvh j (by omega)
      have hU : Univ (lists s ++ lists t) := by
        refine ⟨fun p hp q hq he => ?_, fun p hp u hu z hz => ?_⟩
        · have okp : LLok G w p := (List.mem_append.1 hp).elim (k1 p) (k2 p)
          have okq : LLok G w q := (List.mem_append.1 hq).elim (k1 q) (k2 q)
          exact okp.inj okq he
        · rcases List.mem_append.1 hp with h | h
          · exact List.mem_append_left _ (lists_down s p h u hu z hz)
          · exact List.mem_append_right _ (lists_down t p h u hu z hz)
      have hN : (lists s ++ lists t).length ≤ 100000000 := by
        have q1 := lists_len s
        have q2 := lists_len t
        rw [e1] at q1
        rw [e2] at q2
        rw [List.length_append]; omega
      have hL : ∀ z ∈ lists s ++ lists t, z.ks.length ≤ 1000000000 := fun z hz => by
        rcases List.mem_append.1 hz with h | h
        · have := lists_ks z s h; rw [e1] at this; omega
        · have := lists_ks z t h; rw [e2] at this; omega
      have hs : ∀ z, below s = some z → z ∈ lists s ++ lists t := fun z hz => List.mem_append_left _ (by rw [lists_eq hz]; simp)
      have ht : ∀ z, below t = some z → z ∈ lists s ++ lists t := fun z hz => List.mem_append_right _ (by rw [lists_eq hz]; simp)
      have key := impl_TypeSameI hU hN hL s t hs ht A
      rw [e1, e2] at key
      refine key G w base xs hH ?_
      rw [hxy]
      refine .cons (.agg _ us (by rw [encI_length]; omega) huc fun j hj => t1 j (by rw [encI_length] at hj; exact hj)) (.cons (.agg _ vs (by rw [encI_length]; omega) hvc fun j hj => t2 j (by rw [encI_length] at hj; exact hj)) .nil)
end Go.Proofs.YtngheinmebopeaaGreat

/- Items of signatures as data. -/
set_option linter.unusedVariables false
set_option linter.unusedSimpArgs false
namespace Go.Proofs.YtngheinmebopeaaGreat
open Go.Abs

structure SigI where
  kind : Int
  name : List UInt8
  typ : Ty
def si0 : SigI := ⟨0, [], ty0⟩
def sE (x : SigI) : List AV := .int .i64 x.kind :: .str x.name :: enc x.typ
def sEs (l : List SigI) : List (List AV) := l.map sE
def szI (x : SigI) : Nat := x.name.length + sz x.typ
def szIs (l : List SigI) : Nat := (l.map szI).sum
def SigI.Ok (x : SigI) : Prop := x.name.length < 2 ^ 63 ∧ x.typ.Ok
def zsi : List AV := [.int .i64 0, .str [], .int .i64 0, .str [], .str [], .slice []]
theorem sE_length (x : SigI) : (sE x).length = 6 := by simp [sE, enc_length]
theorem sE_take (x : SigI) : List.take 6 (sE x) = sE x := List.take_of_length_le (by rw [sE_length]; exact Nat.le_refl _)
theorem sE_leaf (x : SigI) : ∀ v ∈ sE x, isLeaf v = true := by
  intro v hv
  simp only [sE, List.mem_cons] at hv
  rcases hv with rfl | rfl | hv
  · rfl
  · rfl
  · exact enc_leaf _ v hv
theorem frzL_leaf : ∀ (l : List AV) (A : List Box), (∀ v ∈ l, isLeaf v = true) → frzL l A = some (l, A)
  | [], A, _ => rfl
  | v :: l, A, h => by
    have h1 : frz1 v A = some (v, A) := by
      have := h v (by simp)
      cases v <;> simp [isLeaf] at this <;> rfl
    simp only [frzL, h1, frzL_leaf l A fun x hx => h x (by simp [hx])]
theorem frzL_sE (x : SigI) (A : List Box) : frzL (sE x) A = some (sE x, A) := frzL_leaf _ _ (sE_leaf x)
theorem sEs_length (l : List SigI) : (sEs l).length = l.length := by simp [sEs]
theorem sEs_getD {l : List SigI} {i : Nat} (h : i < l.length) : (sEs l).getD i [] = sE (l.getD i si0) := by simp [sEs, List.getD, h]
theorem si_mem {l : List SigI} {i : Nat} (h : i < l.length) : l.getD i si0 ∈ l := by simp [List.getD, h]
theorem si_take {l : List SigI} {i : Nat} (h : i < l.length) : l.take (i + 1) = l.take i ++ [l.getD i si0] := by
  rw [List.take_add_one]; simp [List.getD, h]
theorem szIs_mem {x : SigI} {l : List SigI} (h : x ∈ l) : szI x ≤ szIs l := by
  induction l with
  | nil => simp at h
  | cons y l ih =>
    simp only [szIs, List.map_cons, List.sum_cons] at ih ⊢
    rcases List.mem_cons.1 h with rfl | h
    · omega
    · have := ih h; omega

end Go.Proofs.YtngheinmebopeaaGreat

/- Types as trees: what the program's own functions read of them. -/
set_option linter.unusedVariables false
set_option linter.unusedSimpArgs false
namespace Go.Proofs.YtngheinmebopeaaGreat
open Go.Abs

def ifA : Option (TypeId × AV) → AV
  | none => .nili
  | some (t, x) => .iface t x
def pairUp : List (Option (TypeId × AV) × Bool) → Option (TypeId × AV) × Bool
  | [(x, true), (y, ok)] => (some (142, .agg [ifA x, ifA y]), ok)
  | _ => (none, false)
mutual
def readO : Ty → Int → Option (TypeId × AV) × Bool
  | .mk k m n ks, d =>
    if 8 < d then (none, false)
    else if k = 1 then (some (129, .agg []), (decide (m = []) && decide (n = [])) && decide ((ks.length : Int) = 0))
    else if k = 2 then (if m = [] then if n = [] then pairUp (readOs ks (d + 1)) else (none, false) else (none, false))
    else if k = 3 then (some (99, .agg [.str m, .str n]), ((decide (m = []) || moduleB m) && localB n) && decide ((ks.length : Int) = 0))
    else (none, false)
def readOs : List Ty → Int → List (Option (TypeId × AV) × Bool)
  | [], _ => []
  | t :: l, d => readO t d :: readOs l d
end
theorem readOs_length (l : List Ty) (d : Int) : (readOs l d).length = l.length := by
  induction l with
  | nil => rfl
  | cons t l ih => rw [readOs, List.length_cons, ih, List.length_cons]
theorem pairUp_no {l : List (Option (TypeId × AV) × Bool)} (h : ¬ (l.length : Int) = 2) : pairUp l = (none, false) := by
  match l, h with
  | [], _ => rfl
  | [_], _ => simp [pairUp]
  | [_, _], h => exact absurd rfl h
  | _ :: _ :: _ :: _, _ => simp [pairUp]

def ReadT (t : Ty) : Prop := ∀ (d : Int) (A : List Box), 0 ≤ d → d ≤ 9 → ACalls Tryz.prog 51 [.agg (enc t), .int .i64 d] A (fun v A' => v = .tuple [ifA (readO t d).1, .bool (readO t d).2] ∧ A' = A)

set_option maxRecDepth 100000 in
theorem impl_readFun (m n : List UInt8) (ks : List Ty) (d : Int) (h0 : 0 ≤ d) (h1 : d ≤ 8) (hk : ∀ t ∈ ks, ReadT t) (A : List Box) :
    ACalls Tryz.prog 65 [.agg (enc (.mk 2 m n ks)), .int .i64 d] A (fun v A' => v = .tuple [ifA (readO (.mk 2 m n ks) d).1, .bool (readO (.mk 2 m n ks) d).2] ∧ A' = A) := by
  have hw : IntKind.i64.wrap (d + 1) = d + 1 := wrap64 (by omega) (by omega)
  have hl : ((encs ks).length : Int) = ks.length := by rw [encs_length]
  rw [enc, readO, if_neg (by omega), if_neg (by omega), if_pos rfl]
  refine acalls_enter (cf := cf 50 [0, 1, 2, 4, 5, 6, 7, 8, 22, 34]) foll Tryz.func65 Tryz.ntmps65 (by simp [cf]) ?_
  simp only [Tryz.f65, EnterK_some, zW, zX, zD, builtinA, isLeaf, const1, Nat.reduceAdd, Nat.reduceMul, Nat.reduceSub, Nat.reduceLT, Nat.reduceLeDiff, Nat.reduceEqDiff, Nat.reduceBEq, Nat.reduceBNe, reduceIte, reduceCtorEq, Int.reduceToNat, Int.reduceLT, Int.reduceLE, Int.reduceEq, Int.reduceNe, Int.reduceNeg, ustrA, ti3, ti9, ti30, ti32, ti142, ca51, cf, Tryz.results65]
  by_cases hm : m = []
  · rw [if_pos hm]
    by_cases hn : n = []
    · rw [if_pos hn]
      by_cases h2 : (ks.length : Int) = 2
      · match ks, h2, hk with
        | [a, b], _, hk =>
          have ha := hk a (by simp)
          have hb := hk b (by simp)
          clear hl
          simp only [encs]
          have h22 : decide (((2 : Nat) : Int) = 2) = true := rfl
          simp only [zW, zX, zD, builtinA, isLeaf, const1, Nat.reduceAdd, Nat.reduceMul, Nat.reduceSub, Nat.reduceLT, Nat.reduceLeDiff, Nat.reduceEqDiff, Nat.reduceBEq, Nat.reduceBNe, reduceIte, reduceCtorEq, Int.reduceToNat, Int.reduceLT, Int.reduceLE, Int.reduceEq, Int.reduceNe, Int.reduceNeg, ustrA, ti3, ti9, ti30, ti32, ti142, ca51, cf, Tryz.results65, decide_eq_true hm, decide_eq_true hn, h22, Bool.not_true, enc_length, enc_take, hw]
          refine ⟨by decide, ?_⟩
          refine callK_intro (by simp only [zW, zX, zD, builtinA, isLeaf, const1, Nat.reduceAdd, Nat.reduceMul, Nat.reduceSub, Nat.reduceLT, Nat.reduceLeDiff, Nat.reduceEqDiff, Nat.reduceBEq, Nat.reduceBNe, reduceIte, reduceCtorEq, Int.reduceToNat, Int.reduceLT, Int.reduceLE, Int.reduceEq, Int.reduceNe, Int.reduceNeg, ustrA, frzL_enc, Option.map_some, hw]; rfl) (ha _ _ (by omega) (by omega)) ?_ rfl; rintro v A' ⟨rfl, rfl⟩
          rw [readOs, readOs, readOs]
          rcases readO a (d + 1) with ⟨x, _ | _⟩
          · simp only [zW, zX, zD, builtinA, isLeaf, const1, Nat.reduceAdd, Nat.reduceMul, Nat.reduceSub, Nat.reduceLT, Nat.reduceLeDiff, Nat.reduceEqDiff, Nat.reduceBEq, Nat.reduceBNe, reduceIte, reduceCtorEq, Int.reduceToNat, Int.reduceLT, Int.reduceLE, Int.reduceEq, Int.reduceNe, Int.reduceNeg, ustrA, ti3, ti9, ti30, ti32, ti142, ca51, cf, Tryz.results65, pairUp, ifA]
          · simp only [zW, zX, zD, builtinA, isLeaf, const1, Nat.reduceAdd, Nat.reduceMul, Nat.reduceSub, Nat.reduceLT, Nat.reduceLeDiff, Nat.reduceEqDiff, Nat.reduceBEq, Nat.reduceBNe, reduceIte, reduceCtorEq, Int.reduceToNat, Int.reduceLT, Int.reduceLE, Int.reduceEq, Int.reduceNe, Int.reduceNeg, ustrA, ti3, ti9, ti30, ti32, ti142, ca51, cf, Tryz.results65, enc_length, enc_take, hw]
            refine ⟨by decide, ?_⟩
            refine callK_intro (by simp only [zW, zX, zD, builtinA, isLeaf, const1, Nat.reduceAdd, Nat.reduceMul, Nat.reduceSub, Nat.reduceLT, Nat.reduceLeDiff, Nat.reduceEqDiff, Nat.reduceBEq, Nat.reduceBNe, reduceIte, reduceCtorEq, Int.reduceToNat, Int.reduceLT, Int.reduceLE, Int.reduceEq, Int.reduceNe, Int.reduceNeg, ustrA, frzL_enc, Option.map_some, hw]; rfl) (hb _ _ (by omega) (by omega)) ?_ rfl; rintro v A' ⟨rfl, rfl⟩
            rcases x with _ | ⟨t1, x1⟩ <;> rcases readO b (d + 1) with ⟨_ | ⟨t2, x2⟩, ok⟩ <;> simp only [ifA, pairUp] <;> simp only [zW, zX, zD, builtinA, isLeaf, const1, Nat.reduceAdd, Nat.reduceMul, Nat.reduceSub, Nat.reduceLT, Nat.reduceLeDiff, Nat.reduceEqDiff, Nat.reduceBEq, Nat.reduceBNe, reduceIte, reduceCtorEq, Int.reduceToNat, Int.reduceLT, Int.reduceLE, Int.reduceEq, Int.reduceNe, Int.reduceNeg, ustrA, ti3, ti9, ti30, ti32, ti142, ca51, cf, Tryz.results65]
      · rw [pairUp_no (by rw [readOs_length]; exact h2)]
        simp only [zW, zX, zD, builtinA, isLeaf, const1, Nat.reduceAdd, Nat.reduceMul, Nat.reduceSub, Nat.reduceLT, Nat.reduceLeDiff, Nat.reduceEqDiff, Nat.reduceBEq, Nat.reduceBNe, reduceIte, reduceCtorEq, Int.reduceToNat, Int.reduceLT, Int.reduceLE, Int.reduceEq, Int.reduceNe, Int.reduceNeg, ustrA, ti3, ti9, ti30, ti32, ti142, ca51, cf, Tryz.results65, hl, decide_eq_true hm, decide_eq_true hn, decide_eq_false h2, Bool.not_true, Bool.not_false, ifA]
    · rw [if_neg hn]
      simp only [zW, zX, zD, builtinA, isLeaf, const1, Nat.reduceAdd, Nat.reduceMul, Nat.reduceSub, Nat.reduceLT, Nat.reduceLeDiff, Nat.reduceEqDiff, Nat.reduceBEq, Nat.reduceBNe, reduceIte, reduceCtorEq, Int.reduceToNat, Int.reduceLT, Int.reduceLE, Int.reduceEq, Int.reduceNe, Int.reduceNeg, ustrA, ti3, ti9, ti30, ti32, ti142, ca51, cf, Tryz.results65, decide_eq_true hm, decide_eq_false hn, Bool.not_true, Bool.not_false, ifA]
  · rw [if_neg hm]
    simp only [zW, zX, zD, builtinA, isLeaf, const1, Nat.reduceAdd, Nat.reduceMul, Nat.reduceSub, Nat.reduceLT, Nat.reduceLeDiff, Nat.reduceEqDiff, Nat.reduceBEq, Nat.reduceBNe, reduceIte, reduceCtorEq, Int.reduceToNat, Int.reduceLT, Int.reduceLE, Int.reduceEq, Int.reduceNe, Int.reduceNeg, ustrA, ti3, ti9, ti30, ti32, ti142, ca51, cf, Tryz.results65, decide_eq_false hm, Bool.not_false, ifA]

set_option maxRecDepth 100000 in
theorem impl_readNode (τ : Ty) : ReadT τ := by
  induction τ using Ty.ind with
  | h k m n ks ih =>
    intro d A h0 h1
    have hl : ((encs ks).length : Int) = ks.length := by rw [encs_length]
    rw [enc]
    refine acalls_enter (cf := cf 54 [0, 1, 2, 4, 5, 7, 9, 10, 28, 35]) foll Tryz.func51 Tryz.ntmps51 (by simp [cf]) ?_
    simp only [Tryz.f51, EnterK_some, zW, zX, zD, builtinA, isLeaf, const1, Nat.reduceAdd, Nat.reduceMul, Nat.reduceSub, Nat.reduceLT, Nat.reduceLeDiff, Nat.reduceEqDiff, Nat.reduceBEq, Nat.reduceBNe, reduceIte, reduceCtorEq, Int.reduceToNat, Int.reduceLT, Int.reduceLE, Int.reduceEq, Int.reduceNe, Int.reduceNeg, ustrA, ti3, ti9, ti30, ti32, ti99, ti129, ca52, ca65, cf, Tryz.results51]
    by_cases h8 : 8 < d
    · rw [readO, if_pos h8]
      simp only [zW, zX, zD, builtinA, isLeaf, const1, Nat.reduceAdd, Nat.reduceMul, Nat.reduceSub, Nat.reduceLT, Nat.reduceLeDiff, Nat.reduceEqDiff, Nat.reduceBEq, Nat.reduceBNe, reduceIte, reduceCtorEq, Int.reduceToNat, Int.reduceLT, Int.reduceLE, Int.reduceEq, Int.reduceNe, Int.reduceNeg, ustrA, ti3, ti9, ti30, ti32, ti99, ti129, ca52, ca65, cf, Tryz.results51, decide_eq_true h8, ifA]
    · by_cases k1 : k = 1
      · rw [readO, if_neg h8, if_pos k1]
        simp only [zW, zX, zD, builtinA, isLeaf, const1, Nat.reduceAdd, Nat.reduceMul, Nat.reduceSub, Nat.reduceLT, Nat.reduceLeDiff, Nat.reduceEqDiff, Nat.reduceBEq, Nat.reduceBNe, reduceIte, reduceCtorEq, Int.reduceToNat, Int.reduceLT, Int.reduceLE, Int.reduceEq, Int.reduceNe, Int.reduceNeg, ustrA, ti3, ti9, ti30, ti32, ti99, ti129, ca52, ca65, cf, Tryz.results51, decide_eq_false h8, decide_eq_true k1, hl]
        refine .inl ⟨by kernel_rfl, by kernel_rfl, ?_⟩
        repeat' first
          | (refine guardT_intro (fun h => ?_) (fun h => ?_) <;> (try simp only [decide_eq_true_eq, decide_eq_false_iff_not, Bool.not_eq_eq_eq_not, Bool.not_true, Bool.not_false] at h) <;> simp only [zW, zX, zD, builtinA, isLeaf, const1, Nat.reduceAdd, Nat.reduceMul, Nat.reduceSub, Nat.reduceLT, Nat.reduceLeDiff, Nat.reduceEqDiff, Nat.reduceBEq, Nat.reduceBNe, reduceIte, reduceCtorEq, Int.reduceToNat, Int.reduceLT, Int.reduceLE, Int.reduceEq, Int.reduceNe, Int.reduceNeg, ustrA, ti3, ti9, ti30, ti32, ti99, ti129, ca52, ca65, cf, Tryz.results51, hl, h])
          | (refine guardF_intro (fun h => ?_) (fun h => ?_) <;> (try simp only [decide_eq_true_eq, decide_eq_false_iff_not, Bool.not_eq_eq_eq_not, Bool.not_true, Bool.not_false] at h) <;> simp only [zW, zX, zD, builtinA, isLeaf, const1, Nat.reduceAdd, Nat.reduceMul, Nat.reduceSub, Nat.reduceLT, Nat.reduceLeDiff, Nat.reduceEqDiff, Nat.reduceBEq, Nat.reduceBNe, reduceIte, reduceCtorEq, Int.reduceToNat, Int.reduceLT, Int.reduceLE, Int.reduceEq, Int.reduceNe, Int.reduceNeg, ustrA, ti3, ti9, ti30, ti32, ti99, ti129, ca52, ca65, cf, Tryz.results51, hl, h])
          | (refine condK_intro (fun h => ?_) (fun h => ?_) <;> (try simp only [decide_eq_true_eq, decide_eq_false_iff_not, Bool.not_eq_eq_eq_not, Bool.not_true, Bool.not_false] at h) <;> simp only [zW, zX, zD, builtinA, isLeaf, const1, Nat.reduceAdd, Nat.reduceMul, Nat.reduceSub, Nat.reduceLT, Nat.reduceLeDiff, Nat.reduceEqDiff, Nat.reduceBEq, Nat.reduceBNe, reduceIte, reduceCtorEq, Int.reduceToNat, Int.reduceLT, Int.reduceLE, Int.reduceEq, Int.reduceNe, Int.reduceNeg, ustrA, ti3, ti9, ti30, ti32, ti99, ti129, ca52, ca65, cf, Tryz.results51, hl, h])
          | (refine guardDT_intro (fun h => ?_) (fun h => ?_) <;> (try simp only [decide_eq_true_eq, decide_eq_false_iff_not, Bool.not_eq_eq_eq_not, Bool.not_true, Bool.not_false] at h) <;> simp only [zW, zX, zD, builtinA, isLeaf, const1, Nat.reduceAdd, Nat.reduceMul, Nat.reduceSub, Nat.reduceLT, Nat.reduceLeDiff, Nat.reduceEqDiff, Nat.reduceBEq, Nat.reduceBNe, reduceIte, reduceCtorEq, Int.reduceToNat, Int.reduceLT, Int.reduceLE, Int.reduceEq, Int.reduceNe, Int.reduceNeg, ustrA, ti3, ti9, ti30, ti32, ti99, ti129, ca52, ca65, cf, Tryz.results51, hl, h])
          | (refine guardDF_intro (fun h => ?_) (fun h => ?_) <;> (try simp only [decide_eq_true_eq, decide_eq_false_iff_not, Bool.not_eq_eq_eq_not, Bool.not_true, Bool.not_false] at h) <;> simp only [zW, zX, zD, builtinA, isLeaf, const1, Nat.reduceAdd, Nat.reduceMul, Nat.reduceSub, Nat.reduceLT, Nat.reduceLeDiff, Nat.reduceEqDiff, Nat.reduceBEq, Nat.reduceBNe, reduceIte, reduceCtorEq, Int.reduceToNat, Int.reduceLT, Int.reduceLE, Int.reduceEq, Int.reduceNe, Int.reduceNeg, ustrA, ti3, ti9, ti30, ti32, ti99, ti129, ca52, ca65, cf, Tryz.results51, hl, h])
          | refine And.intro ?_ ?_
        all_goals simp [ifA, *]
      · by_cases k2 : k = 2
        · subst k2
          simp only [zW, zX, zD, builtinA, isLeaf, const1, Nat.reduceAdd, Nat.reduceMul, Nat.reduceSub, Nat.reduceLT, Nat.reduceLeDiff, Nat.reduceEqDiff, Nat.reduceBEq, Nat.reduceBNe, reduceIte, reduceCtorEq, Int.reduceToNat, Int.reduceLT, Int.reduceLE, Int.reduceEq, Int.reduceNe, Int.reduceNeg, ustrA, ti3, ti9, ti30, ti32, ti99, ti129, ca52, ca65, cf, Tryz.results51, decide_eq_false h8, decide_eq_false k1]
          refine callK_intro (by simp only [zW, zX, zD, builtinA, isLeaf, const1, Nat.reduceAdd, Nat.reduceMul, Nat.reduceSub, Nat.reduceLT, Nat.reduceLeDiff, Nat.reduceEqDiff, Nat.reduceBEq, Nat.reduceBNe, reduceIte, reduceCtorEq, Int.reduceToNat, Int.reduceLT, Int.reduceLE, Int.reduceEq, Int.reduceNe, Int.reduceNeg, ustrA, Option.map_some]; rfl) (impl_readFun m n ks d h0 (by omega) ih _) ?_ rfl; rintro v A' ⟨rfl, rfl⟩
          rcases readO (.mk 2 m n ks) d with ⟨_ | ⟨t, x⟩, ok⟩ <;> simp only [ifA] <;> (simp only [zW, zX, zD, builtinA, isLeaf, const1, Nat.reduceAdd, Nat.reduceMul, Nat.reduceSub, Nat.reduceLT, Nat.reduceLeDiff, Nat.reduceEqDiff, Nat.reduceBEq, Nat.reduceBNe, reduceIte, reduceCtorEq, Int.reduceToNat, Int.reduceLT, Int.reduceLE, Int.reduceEq, Int.reduceNe, Int.reduceNeg, ustrA, ti3, ti9, ti30, ti32, ti99, ti129, ca52, ca65, cf, Tryz.results51])
        · rw [readO, if_neg h8, if_neg k1, if_neg k2]
          by_cases k3 : k = 3
          · rw [if_pos k3]
            simp only [zW, zX, zD, builtinA, isLeaf, const1, Nat.reduceAdd, Nat.reduceMul, Nat.reduceSub, Nat.reduceLT, Nat.reduceLeDiff, Nat.reduceEqDiff, Nat.reduceBEq, Nat.reduceBNe, reduceIte, reduceCtorEq, Int.reduceToNat, Int.reduceLT, Int.reduceLE, Int.reduceEq, Int.reduceNe, Int.reduceNeg, ustrA, ti3, ti9, ti30, ti32, ti99, ti129, ca52, ca65, cf, Tryz.results51, decide_eq_false h8, decide_eq_false k1, decide_eq_false k2, decide_eq_true k3]
            refine .inl ⟨by kernel_rfl, by kernel_rfl, ?_⟩
            refine callD_intro (by simp only [zW, zX, zD, builtinA, isLeaf, const1, Nat.reduceAdd, Nat.reduceMul, Nat.reduceSub, Nat.reduceLT, Nat.reduceLeDiff, Nat.reduceEqDiff, Nat.reduceBEq, Nat.reduceBNe, reduceIte, reduceCtorEq, Int.reduceToNat, Int.reduceLT, Int.reduceLE, Int.reduceEq, Int.reduceNe, Int.reduceNeg, ustrA, Option.map_some] <;> rfl) (impl_validName m n _) ?_ rfl
            cases hn : ((decide (m = []) || moduleB m) && localB n) with
            | true =>
              simp only [zW, zX, zD, builtinA, isLeaf, const1, Nat.reduceAdd, Nat.reduceMul, Nat.reduceSub, Nat.reduceLT, Nat.reduceLeDiff, Nat.reduceEqDiff, Nat.reduceBEq, Nat.reduceBNe, reduceIte, reduceCtorEq, Int.reduceToNat, Int.reduceLT, Int.reduceLE, Int.reduceEq, Int.reduceNe, Int.reduceNeg, ustrA, ti3, ti9, ti30, ti32, ti99, ti129, ca52, ca65, cf, Tryz.results51, hl, ifA]
            | false =>
              simp only [zW, zX, zD, builtinA, isLeaf, const1, Nat.reduceAdd, Nat.reduceMul, Nat.reduceSub, Nat.reduceLT, Nat.reduceLeDiff, Nat.reduceEqDiff, Nat.reduceBEq, Nat.reduceBNe, reduceIte, reduceCtorEq, Int.reduceToNat, Int.reduceLT, Int.reduceLE, Int.reduceEq, Int.reduceNe, Int.reduceNeg, ustrA, ti3, ti9, ti30, ti32, ti99, ti129, ca52, ca65, cf, Tryz.results51, hl, ifA]
          · rw [if_neg k3]
            simp only [zW, zX, zD, builtinA, isLeaf, const1, Nat.reduceAdd, Nat.reduceMul, Nat.reduceSub, Nat.reduceLT, Nat.reduceLeDiff, Nat.reduceEqDiff, Nat.reduceBEq, Nat.reduceBNe, reduceIte, reduceCtorEq, Int.reduceToNat, Int.reduceLT, Int.reduceLE, Int.reduceEq, Int.reduceNe, Int.reduceNeg, ustrA, ti3, ti9, ti30, ti32, ti99, ti129, ca52, ca65, cf, Tryz.results51, decide_eq_false h8, decide_eq_false k1, decide_eq_false k2, decide_eq_false k3, ifA]
end Go.Proofs.YtngheinmebopeaaGreat

/- Valid types as trees, and what the methods of the program answer on them. -/
set_option linter.unusedVariables false
set_option linter.unusedSimpArgs false
namespace Go.Proofs.YtngheinmebopeaaGreat
open Go.Abs

inductive VT where
  | num
  | fn (a b : VT)
  | nm (m n : List UInt8)

def vT : VT → TypeId
  | .num => 129
  | .fn _ _ => 142
  | .nm _ _ => 99
def vX : VT → AV
  | .num => .agg []
  | .fn a b => .agg [.iface (vT a) (vX a), .iface (vT b) (vX b)]
  | .nm m n => .agg [.str m, .str n]
def toTy : VT → Ty
  | .num => .mk 1 [] [] []
  | .fn a b => .mk 2 [] [] [toTy a, toTy b]
  | .nm m n => .mk 3 m n []
def dep : VT → Nat
  | .num => 1
  | .fn a b => 1 + max (dep a) (dep b)
  | .nm _ _ => 1
def cnt : VT → Nat
  | .num => 1
  | .fn a b => 1 + cnt a + cnt b
  | .nm _ _ => 1
def nmB (m n : List UInt8) : Bool := (decide (m = []) || moduleB m) && localB n
def okV : VT → Bool
  | .num => true
  | .fn a b => okV a && okV b
  | .nm m n => nmB m n

theorem dep_pos : ∀ v, 1 ≤ dep v
  | .num => by simp [dep]
  | .fn a b => by simp [dep]
  | .nm _ _ => by simp [dep]
theorem cnt_dep : ∀ v, cnt v + 1 ≤ 2 ^ dep v
  | .num => by simp [dep, cnt]
  | .nm _ _ => by simp [dep, cnt]
  | .fn a b => by
    have ha := cnt_dep a
    have hb := cnt_dep b
    have h1 : 2 ^ dep a ≤ 2 ^ max (dep a) (dep b) := Nat.pow_le_pow_right (by decide) (Nat.le_max_left _ _)
    have h2 : 2 ^ dep b ≤ 2 ^ max (dep a) (dep b) := Nat.pow_le_pow_right (by decide) (Nat.le_max_right _ _)
    rw [dep, cnt, Nat.pow_add, Nat.pow_one]
    omega
theorem cnt_lt {v : VT} {k : Nat} (h : dep v ≤ k) : cnt v < 2 ^ k := by
  have := cnt_dep v
  have h2 : 2 ^ dep v ≤ 2 ^ k := Nat.pow_le_pow_right (by decide) h
  omega
theorem count_toTy : ∀ v, count (toTy v) = cnt v
  | .num => by simp [toTy, count, counts, cnt]
  | .nm _ _ => by simp [toTy, count, counts, cnt]
  | .fn a b => by simp [toTy, count, counts, cnt, count_toTy a, count_toTy b]; omega

theorem shape_toTy : ∀ (v : VT) (d : Int), okV v = true → (dep v : Int) ≤ d → shape (toTy v) d = true
  | .num, d, _, h => by
    simp [dep] at h
    simp [toTy, shape, shapes, kidsOf, ownB, h]
  | .nm m n, d, hv, h => by
    simp [dep] at h
    simp [okV, nmB] at hv
    simp [toTy, shape, shapes, kidsOf, ownB, h, hv.1, hv.2]
  | .fn a b, d, hv, h => by
    simp [dep] at h
    simp [okV] at hv
    have ha := shape_toTy a (d - 1) hv.1 (by omega)
    have hb := shape_toTy b (d - 1) hv.2 (by omega)
    simp [toTy, shape, shapes, kidsOf, ownB, ha, hb]
    have := dep_pos a
    omega

theorem shape_of (τ : Ty) : ∀ (d : Int), shape τ d = true → ∃ v, τ = toTy v ∧ okV v = true ∧ (dep v : Int) ≤ d := by
  induction τ using Ty.ind with
  | h k m n ks ih =>
    intro d h
    rw [shape] at h
    simp only [Bool.and_eq_true, decide_eq_true_eq] at h
    obtain ⟨⟨h1, h2, h3⟩, h4⟩ := h
    by_cases k1 : k = 1
    · subst k1
      simp [kidsOf] at h2
      have : ks = [] := by cases ks with
        | nil => rfl
        | cons => simp at h2; omega
      subst this
      simp [ownB] at h3
      obtain ⟨rfl, rfl⟩ := h3
      exact ⟨.num, rfl, rfl, h1⟩
    · by_cases k3 : k = 3
      · subst k3
        simp [kidsOf] at h2
        have : ks = [] := by cases ks with
          | nil => rfl
          | cons => simp at h2; omega
        subst this
        simp [ownB] at h3
        exact ⟨.nm m n, rfl, by simp [okV, nmB, h3.1, h3.2], h1⟩
      · by_cases k2 : k = 2
        · subst k2
          simp [kidsOf] at h2
          match ks, h2, ih, h4 with
          | [a, b], _, ih, h4 =>
            simp [ownB] at h3
            obtain ⟨rfl, rfl⟩ := h3
            simp only [shapes, Bool.and_eq_true] at h4
            obtain ⟨x, rfl, hx1, hx2⟩ := ih a (by simp) _ h4.1
            obtain ⟨y, rfl, hy1, hy2⟩ := ih b (by simp) _ h4.2.1
            refine ⟨.fn x y, rfl, by simp [okV, hx1, hy1], ?_⟩
            simp only [dep]
            omega
          | [], h2, _, _ => simp at h2
          | [_], h2, _, _ => simp at h2
          | _ :: _ :: _ :: _, h2, _, _ => simp at h2; omega
        · simp [kidsOf, k1, k2, k3] at h2; try omega

theorem readO_toTy : ∀ (v : VT) (d : Int), okV v = true → d + dep v ≤ 9 → readO (toTy v) d = (some (vT v, vX v), true)
  | .num, d, _, h => by
    simp [dep] at h
    have : ¬ 8 < d := by omega
    simp [toTy, readO, this, vT, vX]
  | .nm m n, d, hv, h => by
    simp [dep] at h
    simp [okV, nmB] at hv
    have : ¬ 8 < d := by omega
    simp [toTy, readO, this, vT, vX, hv.1, hv.2]
  | .fn a b, d, hv, h => by
    simp [dep] at h
    simp [okV] at hv
    have ha := readO_toTy a (d + 1) hv.1 (by omega)
    have hb := readO_toTy b (d + 1) hv.2 (by omega)
    have := dep_pos a
    have : ¬ 8 < d := by omega
    simp [toTy, readO, readOs, this, vT, vX, ha, hb, pairUp, ifA]

theorem readO_of (τ : Ty) : ∀ (d : Int), (readO τ d).2 = true → ∃ v, τ = toTy v ∧ okV v = true ∧ d + dep v ≤ 9 := by
  induction τ using Ty.ind with
  | h k m n ks ih =>
    intro d h
    rw [readO] at h
    split at h
    · cases h
    · rename_i hd
      split at h
      · rename_i k1
        subst k1
        simp at h
        obtain ⟨⟨rfl, rfl⟩, h⟩ := h
        have : ks = [] := by cases ks with
          | nil => rfl
          | cons => simp at h
        subst this
        exact ⟨.num, rfl, rfl, by simp [dep]; omega⟩
      · split at h
        · rename_i k1 k2
          subst k2
          split at h
          · rename_i hm
            subst hm
            split at h
            · rename_i hn
              subst hn
              match ks, ih, h with
              | [a, b], ih, h =>
                simp only [readOs, pairUp] at h
                have ha : (readO a (d + 1)).2 = true := by
                  generalize readO a (d + 1) = x at h
                  generalize readO b (d + 1) = y at h
                  rcases x with ⟨x, _ | _⟩ <;> simp [pairUp] at h ⊢
                have hb : (readO b (d + 1)).2 = true := by
                  generalize readO a (d + 1) = x at h
                  generalize readO b (d + 1) = y at h
                  rcases x with ⟨x, _ | _⟩ <;> rcases y with ⟨y, _ | _⟩ <;> simp [pairUp] at h ⊢
                obtain ⟨x, rfl, hx1, hx2⟩ := ih a (by simp) _ ha
                obtain ⟨y, rfl, hy1, hy2⟩ := ih b (by simp) _ hb
                refine ⟨.fn x y, rfl, by simp [okV, hx1, hy1], ?_⟩
                simp only [dep]
                omega
              | [], _, h => simp [readOs, pairUp] at h
              | [_], _, h => simp [readOs, pairUp] at h
              | _ :: _ :: _ :: _, _, h => simp [readOs, pairUp] at h
            · cases h
          · cases h
        · split at h
          · rename_i k1 k2 k3
            subst k3
            simp at h
            have : ks = [] := by cases ks with
              | nil => rfl
              | cons => simp at h
            subst this
            exact ⟨.nm m n, rfl, by simp [okV, nmB, h.1.1, h.1.2], by simp [dep]; omega⟩
          · cases h

/-- a valid type -/
structure VOk (v : VT) : Prop where
  ok : okV v = true
  dep : dep v ≤ 8
  cnt : cnt v ≤ 63

theorem validB_toTy {v : VT} (h : VOk v) : validB (toTy v) = true := by
  have := h.dep
  rw [validB, shape_toTy v 8 h.ok (by omega), count_toTy, decide_eq_true h.cnt]
  rfl
theorem validB_of {τ : Ty} (h : validB τ = true) : ∃ v, τ = toTy v ∧ VOk v := by
  simp only [validB, Bool.and_eq_true, decide_eq_true_eq] at h
  obtain ⟨v, rfl, h1, h2⟩ := shape_of τ 8 h.1
  rw [count_toTy] at h
  exact ⟨v, rfl, h1, by omega, h.2⟩
theorem valid_cases (τ : Ty) : (∃ v, τ = toTy v ∧ VOk v) ∨ validB τ = false := by
  cases h : validB τ with
  | true => exact .inl (validB_of h)
  | false => exact .inr rfl

theorem frzC_vX (v : VT) (A : List Box) : frzC (vX v) A = some (vX v, A) := by cases v <;> rfl
/-- the functions of a method -/
def pickF (x y z : FuncId) : VT → FuncId
  | .num => x
  | .fn _ _ => y
  | .nm _ _ => z
structure Met (name : String) (gs : VT → FuncId) : Prop where
  find : ∀ v, methA Tryz.prog (vT v) name = some (gs v)
  call : ∀ v, callable Tryz.prog (gs v) = true
theorem met3 {name : String} {x y z : FuncId} (h1 : methA Tryz.prog 129 name = some x) (h2 : methA Tryz.prog 142 name = some y) (h3 : methA Tryz.prog 99 name = some z)
    (c1 : callable Tryz.prog x = true) (c2 : callable Tryz.prog y = true) (c3 : callable Tryz.prog z = true) : Met name (pickF x y z) :=
  ⟨fun v => match v with
    | .num => h1
    | .fn _ _ => h2
    | .nm _ _ => h3,
   fun v => match v with
    | .num => c1
    | .fn _ _ => c2
    | .nm _ _ => c3⟩

theorem meth_invK {own ow : FuncId → Bool} {name : String} {gs : VT → FuncId} {v : VT} {args args' : List AV} {A A1 : List Box} {R : AV → List Box → Prop} {N : Nat} {ops : Array Oper} {Q : Env → List Box → Prop} {rest : List Oper} {d : Option Tmp} {e : Env}
    (hm : Met name gs) (h : ACalls Tryz.prog (gs v) (vX v :: args') A1 R) (hf : frzs args A = some (args', A1)) (ho : ∀ g, own g = false)
    (hk : ∀ r A', R r A' → wpO Tryz.prog ow N ops Q rest (putA N d r e) A') : InvK Tryz.prog own name (.iface (vT v) (vX v)) args A (ContO Tryz.prog ow N ops Q rest d e) := by
  have h1 := hm.find v
  have h2 := hm.call v
  generalize gs v = g at h h1 h2
  refine ⟨g, h1, h2, callK_intro (args' := vX v :: args') (A1 := A1) ?_ h hk (ho g)⟩
  simp only [frzs, frzC_vX, hf]

theorem meth_invD {own : FuncId → Bool} {name : String} {gs : VT → FuncId} {v : VT} {args args' : List AV} {A : List Box} {x : AV} {N : Nat} {ops : Array Oper} {Q : Env → Prop} {rest : List Oper} {d : Option Tmp} {e : Env}
    (hm : Met name gs) (h : ACalls Tryz.prog (gs v) (vX v :: args') A (fun v' A' => v' = x ∧ A' = A)) (hf : frzs args A = some (args', A)) (ho : ∀ g, own g = false)
    (hk : wpD Tryz.prog own N ops A Q rest (putA N d x e)) : InvD Tryz.prog own name (.iface (vT v) (vX v)) args A N ops Q rest d e := by
  have h1 := hm.find v
  have h2 := hm.call v
  generalize gs v = g at h h1 h2
  refine ⟨g, h1, h2, callD_intro (args' := vX v :: args') ?_ h hk (ho g)⟩
  simp only [frzs, frzC_vX, hf]
end Go.Proofs.YtngheinmebopeaaGreat

/- The methods that measure a valid type, and the functions that read one. -/
set_option linter.unusedVariables false
set_option linter.unusedSimpArgs false
namespace Go.Proofs.YtngheinmebopeaaGreat
open Go.Abs

def DepM (v : VT) : Prop := ∀ A, ACalls Tryz.prog ((pickF 119 126 100) v) [vX v] A (fun r A' => r = .int .i64 (dep v) ∧ A' = A)
def CntM (v : VT) : Prop := ∀ A, ACalls Tryz.prog ((pickF 118 125 99) v) [vX v] A (fun r A' => r = .int .i64 (cnt v) ∧ A' = A)

set_option maxRecDepth 100000 in
theorem num_depth : DepM .num := fun A => by
  show ACalls Tryz.prog 119 _ _ _
  rw [vX]
  refine acalls_enter (cf := cf 3 [0, 2]) foll Tryz.func119 Tryz.ntmps119 (by simp [cf]) ?_
  simp only [Tryz.f119, EnterK_some, zW, zX, zD, builtinA, isLeaf, const1, ustrA, simprocAttr, ti129, cf, Tryz.results119]
  simp [dep]
set_option maxRecDepth 100000 in
theorem name_depth (m n : List UInt8) : DepM (.nm m n) := fun A => by
  show ACalls Tryz.prog 100 _ _ _
  rw [vX]
  refine acalls_enter (cf := cf 3 [0, 2]) foll Tryz.func100 Tryz.ntmps100 (by simp [cf]) ?_
  simp only [Tryz.f100, EnterK_some, zW, zX, zD, builtinA, isLeaf, const1, ustrA, simprocAttr, ti99, cf, Tryz.results100]
  simp [dep]
set_option maxRecDepth 100000 in
theorem num_count : CntM .num := fun A => by
  show ACalls Tryz.prog 118 _ _ _
  rw [vX]
  refine acalls_enter (cf := cf 3 [0, 2]) foll Tryz.func118 Tryz.ntmps118 (by simp [cf]) ?_
  simp only [Tryz.f118, EnterK_some, zW, zX, zD, builtinA, isLeaf, const1, ustrA, simprocAttr, ti129, cf, Tryz.results118]
  simp [cnt]
set_option maxRecDepth 100000 in
theorem name_count (m n : List UInt8) : CntM (.nm m n) := fun A => by
  show ACalls Tryz.prog 99 _ _ _
  rw [vX]
  refine acalls_enter (cf := cf 3 [0, 2]) foll Tryz.func99 Tryz.ntmps99 (by simp [cf]) ?_
  simp only [Tryz.f99, EnterK_some, zW, zX, zD, builtinA, isLeaf, const1, ustrA, simprocAttr, ti99, cf, Tryz.results99]
  simp [cnt]
set_option maxRecDepth 100000 in
theorem fun_depth (a b : VT) (ha : DepM a) (hb : DepM b) (hd : dep a < 1000 ∧ dep b < 1000) : DepM (.fn a b) := fun A => by
  show ACalls Tryz.prog 126 _ _ _
  rw [vX]
  refine acalls_enter (cf := cf 11 [0, 1, 2]) foll Tryz.func126 Tryz.ntmps126 (by simp [cf]) ?_
  simp only [Tryz.f126, EnterK_some, zW, zX, zD, builtinA, isLeaf, const1, ustrA, simprocAttr, ti3, ti69, ti142, cf, Tryz.results126]
  refine .inl ⟨by kernel_rfl, by kernel_rfl, ?_⟩
  refine wpD_invoke _ _ _ _ _ _ _ _ _ _ _ _ _ _ _ _ ?_
  simp only [zW, zX, zD, builtinA, isLeaf, const1, ustrA, simprocAttr, ti3, ti69, ti142, cf, Tryz.results126]
  refine meth_invD (met3 (by kernel_rfl) (by kernel_rfl) (by kernel_rfl) (by kernel_rfl) (by kernel_rfl) (by kernel_rfl)) (ha _) rfl (fun _ => rfl) ?_
  simp only [zW, zX, zD, builtinA, isLeaf, const1, ustrA, simprocAttr, ti3, ti69, ti142, cf, Tryz.results126]
  refine wpD_invoke _ _ _ _ _ _ _ _ _ _ _ _ _ _ _ _ ?_
  simp only [zW, zX, zD, builtinA, isLeaf, const1, ustrA, simprocAttr, ti3, ti69, ti142, cf, Tryz.results126]
  refine meth_invD (met3 (by kernel_rfl) (by kernel_rfl) (by kernel_rfl) (by kernel_rfl) (by kernel_rfl) (by kernel_rfl)) (hb _) rfl (fun _ => rfl) ?_
  simp only [zW, zX, zD, builtinA, isLeaf, const1, ustrA, simprocAttr, ti3, ti69, ti142, cf, Tryz.results126]
  rw [wrap64 (by split <;> omega) (by split <;> omega), dep]
  congr 1
  split <;> omega
set_option maxRecDepth 100000 in
theorem fun_count (a b : VT) (ha : CntM a) (hb : CntM b) (hd : cnt a < 100000 ∧ cnt b < 100000) : CntM (.fn a b) := fun A => by
  show ACalls Tryz.prog 125 _ _ _
  rw [vX]
  refine acalls_enter (cf := cf 11 [0, 1, 2]) foll Tryz.func125 Tryz.ntmps125 (by simp [cf]) ?_
  simp only [Tryz.f125, EnterK_some, zW, zX, zD, builtinA, isLeaf, const1, ustrA, simprocAttr, ti3, ti69, ti142, cf, Tryz.results125]
  refine .inl ⟨by kernel_rfl, by kernel_rfl, ?_⟩
  refine wpD_invoke _ _ _ _ _ _ _ _ _ _ _ _ _ _ _ _ ?_
  simp only [zW, zX, zD, builtinA, isLeaf, const1, ustrA, simprocAttr, ti3, ti69, ti142, cf, Tryz.results125]
  refine meth_invD (met3 (by kernel_rfl) (by kernel_rfl) (by kernel_rfl) (by kernel_rfl) (by kernel_rfl) (by kernel_rfl)) (ha _) rfl (fun _ => rfl) ?_
  simp only [zW, zX, zD, builtinA, isLeaf, const1, ustrA, simprocAttr, ti3, ti69, ti142, cf, Tryz.results125]
  refine wpD_invoke _ _ _ _ _ _ _ _ _ _ _ _ _ _ _ _ ?_
  simp only [zW, zX, zD, builtinA, isLeaf, const1, ustrA, simprocAttr, ti3, ti69, ti142, cf, Tryz.results125]
  refine meth_invD (met3 (by kernel_rfl) (by kernel_rfl) (by kernel_rfl) (by kernel_rfl) (by kernel_rfl) (by kernel_rfl)) (hb _) rfl (fun _ => rfl) ?_
  simp only [zW, zX, zD, builtinA, isLeaf, const1, ustrA, simprocAttr, ti3, ti69, ti142, cf, Tryz.results125]
  have h1 : IntKind.i64.wrap (1 + (cnt a : Int)) = 1 + cnt a := wrap64 (by omega) (by omega)
  rw [h1, wrap64 (by omega) (by omega), cnt]
  congr 1
theorem depM : ∀ v, dep v ≤ 9 → DepM v
  | .num, _ => num_depth
  | .nm m n, _ => name_depth m n
  | .fn a b, h => by
    rw [dep] at h
    exact fun_depth a b (depM a (by omega)) (depM b (by omega)) (by omega)
theorem cntM : ∀ v, cnt v < 100000 → CntM v
  | .num, _ => num_count
  | .nm m n, _ => name_count m n
  | .fn a b, h => by
    rw [cnt] at h
    exact fun_count a b (cntM a (by omega)) (cntM b (by omega)) (by omega)
set_option maxRecDepth 100000 in
theorem impl_withinLimits (v : VT) (hd : dep v ≤ 9) (A : List Box) : ACalls Tryz.prog 30 [.iface (vT v) (vX v)] A (fun r A' => r = .bool (decide (dep v ≤ 8) && decide (cnt v ≤ 63)) ∧ A' = A) := by
  have hc := cnt_lt hd
  refine acalls_enter (cf := cf 11 [0, 2]) foll Tryz.func30 Tryz.ntmps30 (by simp [cf]) ?_
  simp only [Tryz.f30, EnterK_some, zW, zX, zD, builtinA, isLeaf, const1, ustrA, simprocAttr, ti3, cf, Tryz.results30]
  refine wpO_invoke _ _ _ _ _ _ _ _ _ _ _ _ _ _ _ _ ?_
  simp only [zW, zX, zD, builtinA, isLeaf, const1, ustrA, simprocAttr, ti3, cf, Tryz.results30]
  refine meth_invK (met3 (by kernel_rfl) (by kernel_rfl) (by kernel_rfl) (by kernel_rfl) (by kernel_rfl) (by kernel_rfl)) (depM v hd _) rfl (fun _ => rfl) ?_
  rintro v A' ⟨rfl, rfl⟩
  simp only [zW, zX, zD, builtinA, isLeaf, const1, ustrA, simprocAttr, ti3, cf, Tryz.results30]
  by_cases h8 : dep v ≤ 8
  · have e8 : decide ((dep v : Int) ≤ 8) = true := decide_eq_true (by omega)
    rw [decide_eq_true h8]
    simp only [zW, zX, zD, builtinA, isLeaf, const1, ustrA, simprocAttr, ti3, cf, Tryz.results30, e8]
    refine wpO_invoke _ _ _ _ _ _ _ _ _ _ _ _ _ _ _ _ ?_
    simp only [zW, zX, zD, builtinA, isLeaf, const1, ustrA, simprocAttr, ti3, cf, Tryz.results30]
    refine meth_invK (met3 (by kernel_rfl) (by kernel_rfl) (by kernel_rfl) (by kernel_rfl) (by kernel_rfl) (by kernel_rfl)) (cntM v (by omega) _) rfl (fun _ => rfl) ?_
    rintro v A' ⟨rfl, rfl⟩
    simp only [zW, zX, zD, builtinA, isLeaf, const1, ustrA, simprocAttr, ti3, cf, Tryz.results30]
    simp
    omega
  · have e8 : decide ((dep v : Int) ≤ 8) = false := decide_eq_false (by omega)
    rw [decide_eq_false h8]
    simp only [zW, zX, zD, builtinA, isLeaf, const1, ustrA, simprocAttr, ti3, cf, Tryz.results30, e8]
set_option maxRecDepth 100000 in
theorem impl_readType (τ : Ty) (A : List Box) : ACalls Tryz.prog 28 [.agg (enc τ)] A (fun r A' => ((∃ v, τ = toTy v ∧ VOk v ∧ r = .tuple [.iface (vT v) (vX v), .bool true]) ∨ (validB τ = false ∧ r = .tuple [.nili, .bool false])) ∧ A' = A) := by
  refine acalls_enter (cf := cf 19 [0, 1, 2, 3, 4, 5, 17]) foll Tryz.func28 Tryz.ntmps28 (by simp [cf]) ?_
  simp only [Tryz.f28, EnterK_some, zW, zX, zD, builtinA, isLeaf, const1, ustrA, simprocAttr, ti32, ca30, ca51, cf, Tryz.results28]
  simp only [enc_take]
  refine ⟨by rw [enc_length]; omega, ?_⟩
  refine callK_intro (by simp only [zW, zX, zD, builtinA, isLeaf, const1, ustrA, simprocAttr, frzL_enc, Option.map_some]; rfl) (impl_readNode τ _ _ (by omega) (by omega)) ?_ rfl; rintro v A' ⟨rfl, rfl⟩
  cases hr : (readO τ 1).2 with
  | false =>
    have hv : validB τ = false := by
      rcases valid_cases τ with ⟨v, rfl, hv⟩ | h
      · have := hv.dep
        rw [readO_toTy v 1 hv.ok (by omega)] at hr
        cases hr
      · exact h
    simp only [zW, zX, zD, builtinA, isLeaf, const1, ustrA, simprocAttr, ti32, ca30, ca51, cf, Tryz.results28]
    exact .inr hv
  | true =>
    obtain ⟨v, rfl, hv, hd⟩ := readO_of τ 1 hr
    have hro := readO_toTy v 1 hv hd
    have hcl := cnt_lt (v := v) (k := 9) (by omega)
    rw [hro]
    simp only [ifA]
    simp only [zW, zX, zD, builtinA, isLeaf, const1, ustrA, simprocAttr, ti32, ca30, ca51, cf, Tryz.results28]
    refine callK_intro (by simp only [zW, zX, zD, builtinA, isLeaf, const1, ustrA, simprocAttr]; rfl) (impl_withinLimits v (by omega) _) ?_ rfl; rintro v A' ⟨rfl, rfl⟩
    by_cases hc : cnt v ≤ 63
    · have h8 : dep v ≤ 8 := by omega
      rw [decide_eq_true hc, decide_eq_true h8]
      simp only [zW, zX, zD, builtinA, isLeaf, const1, ustrA, simprocAttr, ti32, ca30, ca51, cf, Tryz.results28]
      exact .inl ⟨v, rfl, ⟨hv, h8, hc⟩, rfl⟩
    · have hn : validB (toTy v) = false := by
        rw [validB, count_toTy, decide_eq_false hc, Bool.and_false]
      rw [decide_eq_false hc]
      simp only [zW, zX, zD, builtinA, isLeaf, const1, ustrA, simprocAttr, ti32, ca30, ca51, cf, Tryz.results28]
      exact .inr hn
end Go.Proofs.YtngheinmebopeaaGreat
