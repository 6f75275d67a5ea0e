/- The program's StructSame answers whether two structures are the same list. -/
import Derived.Test.YtpoknljchikklaaSameEX
import Derived.Test.YtpoknljchikklaaStSpec
import Derived.Test.YtpoknljchikklaaAbsW3
set_option linter.unusedVariables false
set_option linter.unusedSimpArgs false
namespace Go.Proofs.Ytpoknljchikklaa
open Go.Abs

theorem set_eq {A : List Box} {i : Nat} {X : Box} (hi : i < A.length) (h : A.getD i .dead = X) : A.set i X = A := by
  subst h
  apply List.ext_getElem (by simp)
  intro k h1 h2
  by_cases e : i = k
  · subst e; simp [List.getD, h2]
  · rw [List.getElem_set_ne e]
/-- an item whose memory is known -/
structure ItJ where
  kind : Int
  name : List UInt8
  typ : ITy
  ex : SX.IEx
def ij0 : ItJ := ⟨0, [], it0, SX.it0⟩
def kE (x : ItJ) : List AV := .int .i64 x.kind :: .str x.name :: (encI x.typ ++ SX.encI x.ex)
def kEs (l : List ItJ) : List (List AV) := l.map kE
def rootX : Ex → ItI → ItI
  | .mk k i m n t ks, x => { x with xk := k, xi := i, xm := m, xn := n, xt := t, xs := ks }
def erK (x : ItJ) : ItI := rootX (SX.erase x.ex) ⟨x.kind, x.name, erase x.typ, 0, 0, [], [], ty0, []⟩
theorem rootX_ex (e : Ex) (x : ItI) : (rootX e x).ex = e := by cases e; rfl
theorem rootX_kind (e : Ex) (x : ItI) : (rootX e x).kind = x.kind := by cases e; rfl
theorem rootX_name (e : Ex) (x : ItI) : (rootX e x).name = x.name := by cases e; rfl
theorem rootX_typ (e : Ex) (x : ItI) : (rootX e x).typ = x.typ := by cases e; rfl
theorem erK_eq (x y : ItJ) : stB (erK x) (erK y) = (((decide (x.kind = y.kind) && decide (x.name = y.name)) && decide (erase x.typ = erase y.typ)) && decide (SX.erase x.ex = SX.erase y.ex)) := by
  simp only [stB, erK, rootX_ex, rootX_kind, rootX_name, rootX_typ]
theorem iE_split (x : ItI) : iE x = .int .i64 x.kind :: .str x.name :: (enc x.typ ++ encX x.ex) := by rw [tE4, xE9]; rfl
theorem kE_length (x : ItJ) : (kE x).length = 15 := by simp [kE, encI_length, SX.encI_length]
theorem kE_take (x : ItJ) : List.take 15 (kE x) = kE x := List.take_of_length_le (by rw [kE_length]; exact Nat.le_refl _)
theorem kE_drop0 (x : ItJ) : (kE x).getD 0 .bot = .int .i64 x.kind := rfl
theorem kE_drop1 (x : ItJ) : (List.drop 1 (kE x)).getD 0 .bot = .str x.name := rfl
theorem kE_len1 (x : ItJ) : (List.drop 1 (kE x)).length = 14 := by rw [List.length_drop, kE_length]
theorem kE_len2 (x : ItJ) : (List.drop 2 (kE x)).length = 13 := by rw [List.length_drop, kE_length]
theorem kE_len6 (x : ItJ) : (List.drop 6 (kE x)).length = 9 := by rw [List.length_drop, kE_length]
theorem kE_drop2 (x : ItJ) : List.take 4 (List.drop 2 (kE x)) = encI x.typ := by
  show List.take 4 (encI x.typ ++ SX.encI x.ex) = _
  rw [List.take_append_of_le_length (by rw [encI_length]; exact Nat.le_refl _), encI_take]
theorem kE_drop6 (x : ItJ) : List.take 9 (List.drop 6 (kE x)) = SX.encI x.ex := by
  show List.take 9 (List.drop 4 (encI x.typ ++ SX.encI x.ex)) = _
  rw [List.drop_append_of_le_length (by rw [encI_length]; exact Nat.le_refl _), encI_drop, List.nil_append, SX.encI_take]
theorem frzK_leaf : ∀ (l : List AV) (A : List Box), (∀ v ∈ l, isLeaf v = true) → frzL l A = some (l, A)
  | [], A, _ => rfl
  | v :: l, A, h => by
    have h1 : frz1 v A = some (v, A) := by
      have := h v (by simp)
      cases v <;> simp [isLeaf] at this <;> rfl
    simp only [frzL, h1, frzK_leaf l A fun x hx => h x (by simp [hx])]
theorem kE_leaf (x : ItJ) : ∀ v ∈ kE x, isLeaf v = true := by
  intro v hv
  simp only [kE, List.mem_cons, List.mem_append] at hv
  rcases hv with rfl | rfl | hv | hv
  · rfl
  · rfl
  · exact encI_leaf _ v hv
  · exact SX.encI_leaf _ v hv
theorem frzL_kE (x : ItJ) (A : List Box) : frzL (kE x) A = some (kE x, A) := frzK_leaf _ _ (kE_leaf x)
theorem kEs_length (l : List ItJ) : (kEs l).length = l.length := by simp [kEs]
theorem kEs_getD {l : List ItJ} {i : Nat} (h : i < l.length) : (kEs l).getD i [] = kE (l.getD i ij0) := by simp [kEs, List.getD, h]
theorem ij_mem {l : List ItJ} {i : Nat} (h : i < l.length) : l.getD i ij0 ∈ l := by simp [List.getD, h]
theorem ij_drop {l : List ItJ} {i : Nat} (h : i < l.length) : l.drop i = l.getD i ij0 :: l.drop (i + 1) := by
  have : l.getD i ij0 = l[i] := by simp [List.getD, h]
  rw [this, List.getElem_cons_drop h]
/-- the memory that the comparisons know -/
structure StU (UT : List LL) (U : List SX.LL) : Prop where
  hU : SX.Univ U
  hN : U.length ≤ 100000000
  hL : ∀ x ∈ U, x.ks.length ≤ 1000000000
  hUT : TUs UT
  hTU : ∀ x ∈ U, ∀ t ∈ x.ks, TU UT (SX.argX t)
structure StO (UT : List LL) (U : List SX.LL) (x : ItJ) : Prop where
  ty : TU UT x.typ
  ex : ∀ z, SX.below x.ex = some z → z ∈ U
  ar : TU UT (SX.argX x.ex)
/-- the boxes of the two comparisons -/
structure StB (UT : List LL) (U : List SX.LL) (ct cx bt it ix : Nat) (mt : List (LL × LL)) (m : List (SX.LL × SX.LL)) (A : List Box) : Prop where
  lt : ct < A.length ∧ cx < A.length ∧ bt < A.length ∧ it < A.length ∧ ix < A.length
  ne : ct ≠ it ∧ ct ≠ ix ∧ cx ≠ it ∧ cx ≠ ix ∧ bt ≠ it ∧ bt ≠ ix ∧ it ≠ ix
  hct : A.getD ct .dead = .cells [tF1, tF2, .map it]
  hcx : A.getD cx .dead = .cells [SX.xF1, SX.xF2 bt, .map ix]
  hbt : A.getD bt .dead = .cells [tF1, tF2, .map it]
  hit : A.getD it .dead = .mapb (esOf mt)
  hix : A.getD ix .dead = .mapb (SX.esOf m)
  ht : ClS UT mt
  hx : SX.ClS U m
theorem StB.app {UT : List LL} {U : List SX.LL} {ct cx bt it ix : Nat} {mt : List (LL × LL)} {m : List (SX.LL × SX.LL)} {A : List Box} (h : StB UT U ct cx bt it ix mt m A) (L : List Box) : StB UT U ct cx bt it ix mt m (A ++ L) := by
  obtain ⟨⟨l1, l2, l3, l4, l5⟩, ne, h1, h2, h3, h4, h5, h6, h7⟩ := h
  refine ⟨by simp only [List.length_append]; omega, ne, ?_, ?_, ?_, ?_, ?_, h6, h7⟩
  · rw [Abs.getD_append_left l1]; exact h1
  · rw [Abs.getD_append_left l2]; exact h2
  · rw [Abs.getD_append_left l3]; exact h3
  · rw [Abs.getD_append_left l4]; exact h4
  · rw [Abs.getD_append_left l5]; exact h5
theorem StB.put {UT : List LL} {U : List SX.LL} {ct cx bt it ix : Nat} {mt mt' : List (LL × LL)} {m m' : List (SX.LL × SX.LL)} {A : List Box} (h : StB UT U ct cx bt it ix mt m A) (ht : ClS UT mt') (hx : SX.ClS U m') : StB UT U ct cx bt it ix mt' m' ((A.set ix (.mapb (SX.esOf m'))).set it (.mapb (esOf mt'))) := by
  obtain ⟨⟨l1, l2, l3, l4, l5⟩, ⟨n1, n2, n3, n4, n5, n6, n7⟩, h1, h2, h3, h4, h5, h6, h7⟩ := h
  refine ⟨by simp only [List.length_set]; omega, ⟨n1, n2, n3, n4, n5, n6, n7⟩, ?_, ?_, ?_, ?_, ?_, ht, hx⟩
  · rw [Abs.getD_set_ne' (Ne.symm n1), Abs.getD_set_ne' (Ne.symm n2)]; exact h1
  · rw [Abs.getD_set_ne' (Ne.symm n3), Abs.getD_set_ne' (Ne.symm n4)]; exact h2
  · rw [Abs.getD_set_ne' (Ne.symm n5), Abs.getD_set_ne' (Ne.symm n6)]; exact h3
  · rw [Abs.getD_set_self (by simpa using l4)]
  · rw [Abs.getD_set_ne' n7, Abs.getD_set_self l5]
theorem StB.same {UT : List LL} {U : List SX.LL} {ct cx bt it ix : Nat} {mt : List (LL × LL)} {m : List (SX.LL × SX.LL)} {A : List Box} (h : StB UT U ct cx bt it ix mt m A) : (A.set ix (.mapb (SX.esOf m))).set it (.mapb (esOf mt)) = A := by
  rw [set_eq h.lt.2.2.2.2 h.hix, set_eq h.lt.2.2.2.1 h.hit]

set_option maxRecDepth 100000 in
set_option maxHeartbeats 4000000 in
theorem same_it {UT : List LL} {U : List SX.LL} (hS : StU UT U) (x y : ItJ) (hx : StO UT U x) (hy : StO UT U y) (ct cx bt it ix : Nat) (mt : List (LL × LL)) (m : List (SX.LL × SX.LL)) (A : List Box) (hA : StB UT U ct cx bt it ix mt m A) :
    ACalls Try.prog 47 [.agg (kE x), .agg (kE y), .ptr ct 0, .ptr cx 0] A (fun r A' => ∃ mt' m', A' = (A.set ix (.mapb (SX.esOf m'))).set it (.mapb (esOf mt')) ∧ r = .bool (stB (erK x) (erK y)) ∧ (stB (erK x) (erK y) = true → ClS UT mt' ∧ SX.ClS U m')) := by
  have hs0 := hA.same
  have hout : ∀ m' mt' (L : List Box), Outer A ((A.set ix (.mapb (SX.esOf m'))).set it (.mapb (esOf mt')) ++ L) := fun m' mt' L => SX.outer2 A L ix it _ _ (SX.es_closed _ _) (es_closed _ _)
  have htk : ∀ m' mt' (L : List Box), List.take A.length ((A.set ix (.mapb (SX.esOf m'))).set it (.mapb (esOf mt')) ++ L) = (A.set ix (.mapb (SX.esOf m'))).set it (.mapb (esOf mt')) := fun m' mt' L => List.take_left' (by simp)
  have hL0 : ∀ L : List Box, Outer A (A ++ L) := fun L => by have := hout m mt L; rwa [hs0] at this
  have hno : stB (erK x) (erK y) = false → ∃ mt' m', A = (A.set ix (.mapb (SX.esOf m'))).set it (.mapb (esOf mt')) ∧ AV.bool false = .bool (stB (erK x) (erK y)) ∧ (stB (erK x) (erK y) = true → ClS UT mt' ∧ SX.ClS U m') := fun h => ⟨mt, m, hs0.symm, by rw [h], fun h2 => by rw [h] at h2; cases h2⟩
  have heq := erK_eq x y
  refine acalls_enter (cf := cf 35 [0, 1, 2, 3, 4, 5, 6]) foll Try.func47 Try.ntmps47 (by simp [cf]) ?_
  simp only [Try.f47, EnterK_some, zW, zX, zD, builtinA, isLeaf, const1, ustrA, simprocAttr, ti3, ti9, ti37, ti40, ti60, ti70, ti77, ca35, ca36, cf, Try.results47]
  simp only [zW, zX, zD, builtinA, isLeaf, const1, ustrA, simprocAttr, ti3, ti9, ti37, ti40, ti60, ti70, ti77, ca35, ca36, cf, Try.results47, kE_length, kE_take, kE_drop0, kE_drop1, kE_len1, frzL_kE]
  by_cases k1 : x.kind = y.kind
  · simp only [zW, zX, zD, builtinA, isLeaf, const1, ustrA, simprocAttr, ti3, ti9, ti37, ti40, ti60, ti70, ti77, ca35, ca36, cf, Try.results47, decide_eq_true k1, kE_length, kE_take, kE_drop0, kE_drop1, kE_len1]
    by_cases k2 : x.name = y.name
    · have hB2 := hA.app [Box.cells (kE x), .cells (kE y)]
      have hsm := sameI hS.hUT.univ hS.hUT.len hS.hUT.lens x.typ y.typ hx.ty.mem hy.ty.mem it mt hA.ht (A ++ [Box.cells (kE x), .cells (kE y)]) hB2.lt.2.2.2.1 hB2.hit
      have hAc2 := hB2.hct
      simp only [zW, zX, zD, builtinA, isLeaf, const1, ustrA, simprocAttr, ti3, ti9, ti37, ti40, ti60, ti70, ti77, ca35, ca36, cf, Try.results47, decide_eq_true k2, hAc2, kE_length, kE_len2, kE_drop2]
      refine callO_intro hsm ?_
      rintro r A' ⟨mt', rfl, rfl, hmt'⟩
      by_cases k3 : erase x.typ = erase y.typ
      · have hmt2 := hmt' k3
        have hB3 : StB UT U ct cx bt it ix mt' m (((A ++ [Box.cells (kE x), .cells (kE y)])).set it (.mapb (esOf mt'))) := by
          have := hB2.put hmt2 hA.hx
          rwa [set_eq hB2.lt.2.2.2.2 hB2.hix] at this
        have g4 : ((A ++ [Box.cells (kE x), .cells (kE y)]).set it (.mapb (esOf mt'))).getD A.length .dead = .cells (kE x) := by rw [Abs.getD_set_ne' (by have := hA.lt.2.2.2.1; omega), Abs.getD_append_right (Nat.le_refl _)]; simp
        have g5 : ((A ++ [Box.cells (kE x), .cells (kE y)]).set it (.mapb (esOf mt'))).getD (A.length + 1) .dead = .cells (kE y) := by rw [Abs.getD_set_ne' (by have := hA.lt.2.2.2.1; omega), Abs.getD_append_right (by omega)]; simp
        have hcx3 := hB3.hcx
        have hfin : ∀ Y Z, ((((A ++ [Box.cells (kE x), .cells (kE y)]).set it (.mapb (esOf mt'))).set ix Y).set it Z) = (A.set ix Y).set it Z ++ [Box.cells (kE x), .cells (kE y)] := fun Y Z => by
          rw [List.set_append_left _ _ hA.lt.2.2.2.1, List.set_append_left _ _ (by simpa using hA.lt.2.2.2.2), List.set_append_left _ _ (by simpa using hA.lt.2.2.2.1), List.set_comm _ _ hA.ne.2.2.2.2.2.2, List.set_set]
        have hex := SX.sameI hS.hU hS.hN hS.hL x.ex y.ex hx.ex hy.ex hS.hUT hS.hTU hx.ar hy.ar ix m hA.hx it bt mt' hmt2 _ hB3.lt.2.2.2.2 hB3.hix hB3.lt.2.2.2.1 hB3.lt.2.2.1 (Ne.symm hA.ne.2.2.2.2.2.2) (Ne.symm hA.ne.2.2.2.2.2.1) (Ne.symm hA.ne.2.2.2.2.1) hB3.hit hB3.hbt
        simp only [zW, zX, zD, builtinA, isLeaf, const1, ustrA, simprocAttr, ti3, ti9, ti37, ti40, ti60, ti70, ti77, ca35, ca36, cf, Try.results47, decide_eq_true k3, hcx3, g4, g5, kE_length, kE_len6, kE_drop6]
        refine callO_intro hex ?_
        rintro r A' ⟨m', mt2, rfl, rfl, hm2⟩
        rw [hfin]
        simp only [zW, zX, zD, builtinA, isLeaf, const1, ustrA, simprocAttr, ti3, ti9, ti37, ti40, ti60, ti70, ti77, ca35, ca36, cf, Try.results47]
        exact ⟨hout _ _ _, mt2, m', htk _ _ _, by rw [heq, decide_eq_true k1, decide_eq_true k2, decide_eq_true k3]; simp, fun h => by
          rw [heq, decide_eq_true k1, decide_eq_true k2, decide_eq_true k3] at h
          have := hm2 (by simpa using h)
          exact ⟨this.2, this.1⟩⟩
      · rw [List.set_append_left _ _ hA.lt.2.2.2.1]
        simp only [zW, zX, zD, builtinA, isLeaf, const1, ustrA, simprocAttr, ti3, ti9, ti37, ti40, ti60, ti70, ti77, ca35, ca36, cf, Try.results47, decide_eq_false k3]
        exact ⟨outer_set A _ it _ (es_closed _ _), mt', m, by rw [set_eq hA.lt.2.2.2.2 hA.hix], by rw [heq, decide_eq_false k3]; simp, fun h => by rw [heq, decide_eq_false k3] at h; simp at h⟩
    · simp only [zW, zX, zD, builtinA, isLeaf, const1, ustrA, simprocAttr, ti3, ti9, ti37, ti40, ti60, ti70, ti77, ca35, ca36, cf, Try.results47, decide_eq_false k2]
      exact hno (by rw [heq, decide_eq_false k2]; simp)
  · simp only [zW, zX, zD, builtinA, isLeaf, const1, ustrA, simprocAttr, ti3, ti9, ti37, ti40, ti60, ti70, ti77, ca35, ca36, cf, Try.results47, decide_eq_false k1]
    exact hno (by rw [heq, decide_eq_false k1]; simp)

theorem stsB_map (a b : List ItJ) {i : Nat} (hi : i < a.length) (hj : i < b.length) : stsB ((a.drop i).map erK) ((b.drop i).map erK) = (stB (erK (a.getD i ij0)) (erK (b.getD i ij0)) && stsB ((a.drop (i + 1)).map erK) ((b.drop (i + 1)).map erK)) := by
  rw [ij_drop hi, ij_drop hj, List.map_cons, List.map_cons, stsB]

set_option maxRecDepth 100000 in
theorem eq_its {UT : List LL} {U : List SX.LL} (hS : StU UT U) (a b : List ItJ) (ha : ∀ x ∈ a, StO UT U x) (hb : ∀ x ∈ b, StO UT U x) (hla : a.length ≤ 1048576) (ct cx bt it ix : Nat) (mt0 : List (LL × LL)) (m0 : List (SX.LL × SX.LL)) (A : List Box) (hA : StB UT U ct cx bt it ix mt0 m0 A) :
    ACalls Try.prog 46 [.slice (kEs a), .slice (kEs b), .func (.func 47) [] [.ptr ct 0, .ptr cx 0]] A (fun r A' => ∃ mt' m', A' = (A.set ix (.mapb (SX.esOf m'))).set it (.mapb (esOf mt')) ∧ r = .bool (stsB (a.map erK) (b.map erK))) := by
  have hs0 := hA.same
  have hout : ∀ m' mt' (L : List Box), Outer A ((A.set ix (.mapb (SX.esOf m'))).set it (.mapb (esOf mt')) ++ L) := fun m' mt' L => SX.outer2 A L ix it _ _ (SX.es_closed _ _) (es_closed _ _)
  have htk : ∀ m' mt' (L : List Box), List.take A.length ((A.set ix (.mapb (SX.esOf m'))).set it (.mapb (esOf mt')) ++ L) = (A.set ix (.mapb (SX.esOf m'))).set it (.mapb (esOf mt')) := fun m' mt' L => List.take_left' (by simp)
  have hg2 : ∀ X Y (L : List Box) k, ((A.set ix X).set it Y ++ L).getD (A.length + k) .dead = L.getD k .dead := fun X Y L k => by rw [Abs.getD_append_right (by simp)]; simp
  have hs2 : ∀ X Y (L : List Box) k Z, ((A.set ix X).set it Y ++ L).set (A.length + k) Z = (A.set ix X).set it Y ++ L.set k Z := fun X Y L k Z => by rw [List.set_append_right _ _ (by simp)]; simp
  have hss : ∀ (L : List Box) X Y X' Y', ((((A.set ix X).set it Y ++ L).set ix X').set it Y') = (A.set ix X').set it Y' ++ L := fun L X Y X' Y' => by
    rw [List.set_append_left _ _ (by simpa using hA.lt.2.2.2.2), List.set_append_left _ _ (by simpa using hA.lt.2.2.2.1), List.set_comm _ _ (Ne.symm hA.ne.2.2.2.2.2.2), List.set_set, List.set_comm _ _ hA.ne.2.2.2.2.2.2, List.set_set, List.set_comm _ _ (Ne.symm hA.ne.2.2.2.2.2.2)]
  by_cases hl : a.length = b.length
  · have hd : decide ((a.length : Int) = (b.length : Int)) = true := decide_eq_true (by omega)
    refine acalls_enter (cf := cf 32 [0, 1, 2, 6, 7, 8, 9, 14, 15, 16, 17, 18, 30]) foll Try.func46 Try.ntmps46 (by simp [cf]) ?_
    simp only [Try.f46, EnterK_some, zW, zX, zD, builtinA, isLeaf, const1, ustrA, simprocAttr, ti3, ti31, ti70, cf, Try.results46]
    simp only [zW, zX, zD, builtinA, isLeaf, const1, ustrA, simprocAttr, ti3, ti31, ti70, cf, Try.results46, kEs_length, hd]
    refine aloop_intro [1, 2, 15, 16, 17] (fun e A' => ∃ (i : Nat) (B : List Box) (mt : List (LL × LL)) (m : List (SX.LL × SX.LL)), i ≤ a.length ∧ stsB ((a.drop i).map erK) ((b.drop i).map erK) = stsB (a.map erK) (b.map erK) ∧ e = [(1, .slice (kEs b)), (2, .func (.func 47) [] [.ptr ct 0, .ptr cx 0]), (15, .slice (kEs a)), (16, .int .i64 a.length), (17, .int .i64 i)] ∧ A' = (A.set ix (.mapb (SX.esOf m))).set it (.mapb (esOf mt)) ++ B ∧ ClS UT mt ∧ SX.ClS U m) (fun e _ => a.length - (intOf (Abs.look 17 e)).toNat) ?_ ?_
    · simp only [zW, zX, zD, builtinA, isLeaf, const1, ustrA, simprocAttr, ti3, ti31, ti70, cf, Try.results46, kEs_length]
      exact ⟨0, [], mt0, m0, by omega, rfl, rfl, by rw [hs0]; simp, hA.ht, hA.hx⟩
    · rintro e A' ⟨i, B, mt, m, hi2, hq, rfl, rfl, hmt, hm⟩
      simp only [zW, zX, zD, builtinA, isLeaf, const1, ustrA, simprocAttr, ti3, ti31, ti70, cf, Try.results46, kEs_length]
      refine condK_intro (fun h2 => ?_) (fun h2 => ?_)
      · have hi3 : i < a.length := by simpa using h2
        have hj2 : i < b.length := by omega
        rw [stsB_map a b hi3 hj2] at hq
        have e1 := kEs_getD hi3
        have e2 := kEs_getD hj2
        have hxa := ha _ (ij_mem hi3)
        have hxb := hb _ (ij_mem hj2)
        have hi1 : IntKind.i64.wrap ((i : Int) + 1) = ((i + 1 : Nat) : Int) := by rw [wrap64 (by omega) (by omega)]; rfl
        generalize a.getD i ij0 = x at *
        generalize b.getD i ij0 = y at *
        have pa : (0 : Int) ≤ (i : Int) ∧ (i : Int) < (a.length : Int) := ⟨by omega, by omega⟩
        have pb : (0 : Int) ≤ (i : Int) ∧ (i : Int) < (b.length : Int) := ⟨by omega, by omega⟩
        have hcall := fun L => same_it hS x y hxa hxb ct cx bt it ix mt m _ ((hA.put hmt hm).app L)
        simp only [zW, zX, zD, builtinA, isLeaf, const1, ustrA, simprocAttr, ti3, ti31, ti70, cf, Try.results46, e1, e2, hg2, hs2, kE_length, kE_take, kEs_length]
        refine ⟨pa, pb, ?_⟩
        refine wpO_callv _ _ _ _ _ _ _ _ _ _ _ _ _ _ _ ?_
        simp only [zW, zX, zD, builtinA, isLeaf, const1, ustrA, simprocAttr, ti3, ti31, ti70, cf, Try.results46, hg2, hs2]
        refine ⟨by kernel_rfl, ?_⟩
        refine callK_intro (by simp only [zW, zX, zD, builtinA, isLeaf, const1, ustrA, simprocAttr, frzL_kE, Option.map_some, List.nil_append, List.append_nil] <;> rfl) (hcall _) ?_ rfl
        rintro r A' ⟨mt', m', rfl, rfl, hm'⟩
        rw [hss]
        cases hh : stB (erK x) (erK y) with
        | true =>
          rw [hh, Bool.true_and] at hq
          simp only [zW, zX, zD, builtinA, isLeaf, const1, ustrA, simprocAttr, ti3, ti31, ti70, cf, Try.results46, hi1, LoopK_eq]
          refine ⟨⟨i + 1, _, mt', m', by omega, hq, rfl, rfl, (hm' hh).1, (hm' hh).2⟩, ?_⟩
          simp only [intOf]; omega
        | false =>
          rw [hh, Bool.false_and] at hq
          simp only [zW, zX, zD, builtinA, isLeaf, const1, ustrA, simprocAttr, ti3, ti31, ti70, cf, Try.results46]
          exact ⟨hout _ _ _, mt', m', htk _ _ _, by rw [← hq]⟩
      · have : i = a.length := by simp at h2; omega
        subst this
        have hb0 : b.drop a.length = [] := by simp; omega
        rw [List.drop_length, hb0, List.map_nil, stsB] at hq
        simp only [zW, zX, zD, builtinA, isLeaf, const1, ustrA, simprocAttr, ti3, ti31, ti70, cf, Try.results46]
        exact ⟨hout _ _ _, mt, m, htk _ _ _, by rw [← hq]⟩
  · have hd : decide ((a.length : Int) = (b.length : Int)) = false := decide_eq_false (by omega)
    rw [stsB_len (by simpa using hl)]
    refine acalls_enter (cf := cf 32 [0, 1, 2, 6, 7, 8, 9, 14, 15, 16, 17, 18, 30]) foll Try.func46 Try.ntmps46 (by simp [cf]) ?_
    simp only [Try.f46, EnterK_some, zW, zX, zD, builtinA, isLeaf, const1, ustrA, simprocAttr, ti3, ti31, ti70, cf, Try.results46]
    simp only [zW, zX, zD, builtinA, isLeaf, const1, ustrA, simprocAttr, ti3, ti31, ti70, cf, Try.results46, kEs_length, hd]
    exact ⟨mt0, m0, hs0.symm⟩

set_option maxRecDepth 100000 in
theorem impl_sameStructs {UT : List LL} {U : List SX.LL} (hS : StU UT U) (a b : List ItJ) (ha : ∀ x ∈ a, StO UT U x) (hb : ∀ x ∈ b, StO UT U x) (hla : a.length ≤ 1048576) (bt it ix : Nat) (mt0 : List (LL × LL)) (m0 : List (SX.LL × SX.LL)) (A : List Box)
    (hA : StB UT U A.length (A.length + 1) bt it ix mt0 m0 (A ++ [.cells [tF1, tF2, .map it], .cells [SX.xF1, SX.xF2 bt, .map ix]])) (hit : it < A.length) (hix : ix < A.length) :
    ACalls Try.prog 28 [.agg [tF1, tF2, .map it], .agg [SX.xF1, SX.xF2 bt, .map ix], .slice (kEs a), .slice (kEs b)] A (fun r A' => ∃ mt' m', A' = (A.set ix (.mapb (SX.esOf m'))).set it (.mapb (esOf mt')) ∧ r = .bool (stsB (a.map erK) (b.map erK))) := by
  have hout : ∀ m' mt' (L : List Box), Outer A ((A.set ix (.mapb (SX.esOf m'))).set it (.mapb (esOf mt')) ++ L) := fun m' mt' L => SX.outer2 A L ix it _ _ (SX.es_closed _ _) (es_closed _ _)
  have htk : ∀ m' mt' (L : List Box), List.take A.length ((A.set ix (.mapb (SX.esOf m'))).set it (.mapb (esOf mt')) ++ L) = (A.set ix (.mapb (SX.esOf m'))).set it (.mapb (esOf mt')) := fun m' mt' L => List.take_left' (by simp)
  have heq := eq_its hS a b ha hb hla _ _ _ _ _ _ _ _ hA
  refine acalls_enter (cf := cf 13 [0, 1, 2, 3, 4, 5, 8]) foll Try.func28 Try.ntmps28 (by simp [cf]) ?_
  simp only [Try.f28, EnterK_some, zW, zX, zD, builtinA, isLeaf, const1, ustrA, simprocAttr, ti60, ti77, ca46, cf, Try.results28]
  refine callO_intro heq ?_
  rintro r A' ⟨mt', m', rfl, rfl⟩
  rw [List.set_append_left _ _ hix, List.set_append_left _ _ (by simpa using hit)]
  simp only [zW, zX, zD, builtinA, isLeaf, const1, ustrA, simprocAttr, ti60, ti77, ca46, cf, Try.results28]
  exact ⟨hout _ _ _, mt', m', htk _ _ _⟩

set_option maxRecDepth 100000 in
theorem impl_StructSameI {UT : List LL} {U : List SX.LL} (hS : StU UT U) (a b : List ItJ) (ha : ∀ x ∈ a, StO UT U x) (hb : ∀ x ∈ b, StO UT U x) (hla : a.length ≤ 1048576) (A : List Box) :
    ACalls Try.prog 14 [.slice (kEs a), .slice (kEs b)] A (fun r A' => r = .bool (stsB (a.map erK) (b.map erK)) ∧ A' = A) := by
  have hc0 : ClS UT [] := ⟨[], ⟨by simp, by simp, by simp⟩, by simp⟩
  have hx0 : SX.ClS U [] := ⟨[], ⟨by simp, by simp, by simp⟩, by simp⟩
  have g : ∀ k b, ([Box.cells [tF1, tF2, .map (A.length + 1)], .mapb [], .cells [tF1, tF2, .map (A.length + 1)], .cells [tF1, tF2, .map (A.length + 1)], .cells [SX.xF1, SX.xF2 (A.length + 3), .map (A.length + 5)], .mapb [], .cells [tF1, tF2, .map (A.length + 1)], .cells [SX.xF1, SX.xF2 (A.length + 3), .map (A.length + 5)]] : List Box).getD k .dead = b → (A ++ [Box.cells [tF1, tF2, .map (A.length + 1)], .mapb [], .cells [tF1, tF2, .map (A.length + 1)], .cells [tF1, tF2, .map (A.length + 1)], .cells [SX.xF1, SX.xF2 (A.length + 3), .map (A.length + 5)], .mapb [], .cells [tF1, tF2, .map (A.length + 1)], .cells [SX.xF1, SX.xF2 (A.length + 3), .map (A.length + 5)]]).getD (A.length + k) .dead = b := fun k b h => by
    rw [Abs.getD_append_right (by omega), show A.length + k - A.length = k by omega]; exact h
  have hB : StB UT U (A.length + 6) (A.length + 7) (A.length + 3) (A.length + 1) (A.length + 5) [] [] (A ++ [Box.cells [tF1, tF2, .map (A.length + 1)], .mapb [], .cells [tF1, tF2, .map (A.length + 1)], .cells [tF1, tF2, .map (A.length + 1)], .cells [SX.xF1, SX.xF2 (A.length + 3), .map (A.length + 5)], .mapb [], .cells [tF1, tF2, .map (A.length + 1)], .cells [SX.xF1, SX.xF2 (A.length + 3), .map (A.length + 5)]]) :=
    ⟨by simp, by omega, g 6 _ rfl, g 7 _ rfl, g 3 _ rfl, g 1 _ rfl, g 5 _ rfl, hc0, hx0⟩
  have heq := impl_sameStructs hS a b ha hb hla (A.length + 3) (A.length + 1) (A.length + 5) [] [] (A ++ [Box.cells [tF1, tF2, .map (A.length + 1)], .mapb [], .cells [tF1, tF2, .map (A.length + 1)], .cells [tF1, tF2, .map (A.length + 1)], .cells [SX.xF1, SX.xF2 (A.length + 3), .map (A.length + 5)], .mapb []]) (by simpa using hB) (by simp) (by simp)
  have hxc := SX.xc_new (A.length + 1) (A ++ [Box.cells [tF1, tF2, .map (A.length + 1)], .mapb [], .cells [tF1, tF2, .map (A.length + 1)]])
  simp only [List.length_append, List.length_cons, List.length_nil, List.append_assoc, List.cons_append, List.nil_append, Nat.add_assoc, Nat.reduceAdd] at hxc
  refine acalls_enter (cf := cf 13 [0, 1, 4, 5]) foll Try.func14 Try.ntmps14 (by simp [cf]) ?_
  simp only [Try.f14, EnterK_some, zW, zX, zD, builtinA, isLeaf, const1, ustrA, simprocAttr, ti60, ca24, ca28, ca29, cf, Try.results14]
  refine callO_intro (tc_new A) ?_
  rintro r A' ⟨rfl, rfl⟩
  simp only [zW, zX, zD, builtinA, isLeaf, const1, ustrA, simprocAttr, ti60, ca24, ca28, ca29, cf, Try.results14]
  refine .inr (drawM_intro [5] .done [(false, 0, 1), (false, 0, 0), (true, 0, 0), (false, 0, 1), (false, 0, 1), (true, 1, 1), (false, 2, 2)] [A ++ [Box.cells [tF1, tF2, .map (A.length + 1)], .mapb [], .cells [tF1, tF2, .map (A.length + 1)]], A ++ [Box.cells [tF1, tF2, .map (A.length + 1)], .mapb [], .cells [tF1, tF2, .map (A.length + 1)], .cells [tF1, tF2, .map (A.length + 1)], .cells [SX.xF1, SX.xF2 (A.length + 3), .map (A.length + 5)], .mapb []]] 2 7 rfl (by kernel_rfl) (by kernel_rfl) ?_)
  simp only [zW, zX, zD, builtinA, isLeaf, const1, ustrA, simprocAttr, ti60, ca24, ca28, ca29, cf, Try.results14, wpMG_cons, wpMG_nil, wpY_done_eq, List.take_succ_cons, List.take_zero, List.drop_succ_cons, List.drop_zero]
  refine callEO_intro hxc ?_ rfl
  simp only [zW, zX, zD, builtinA, isLeaf, const1, ustrA, simprocAttr, ti60, ca24, ca28, ca29, cf, Try.results14, wpMG_cons, wpMG_nil, wpY_done_eq, List.take_succ_cons, List.take_zero, List.drop_succ_cons, List.drop_zero]
  refine callO_intro heq ?_
  rintro r A' ⟨mt', m', rfl, rfl⟩
  have hSt : ∀ (X Y : Box) (L : List Box), ((A ++ L).set (A.length + 5) X).set (A.length + 1) Y = A ++ (L.set 5 X).set 1 Y := fun X Y L => by
    rw [List.set_append_right _ _ (by omega), List.set_append_right _ _ (by omega), show A.length + 5 - A.length = 5 by omega, show A.length + 1 - A.length = 1 by omega]
  rw [hSt]
  refine ⟨[[], [], _], rfl, ?_⟩
  simp only [zW, zX, zD, builtinA, isLeaf, const1, ustrA, simprocAttr, ti60, ca24, ca28, ca29, cf, Try.results14, wpMG_nil, wpY_done_eq, List.drop_succ_cons, List.drop_zero]

def KnJ (G : Ghost) (w : World) (x : ItJ) : Prop := (∀ z ∈ lists x.typ, LLok G w z) ∧ (∀ z ∈ SX.lists x.ex, SX.LLok G w z) ∧ ∀ z ∈ SX.argL x.ex, LLok G w z
theorem rootX_self (x : ItI) : rootX x.ex ⟨x.kind, x.name, x.typ, 0, 0, [], [], ty0, []⟩ = x := rfl
/-- the memory of the items of a structure -/
theorem annotK {G : Ghost} {w : World} (a : List ItI) (v : Value) (h : RV G w (.slice (iEs a)) v) : ∃ aj : List ItJ, aj.map erK = a ∧ RV G w (.slice (kEs aj)) v ∧ ∀ x ∈ aj, KnJ G w x := by
  rcases Classical.em (a = []) with rfl | hne
  · exact ⟨[], rfl, h, by simp⟩
  · generalize hr0 : iEs a = rows0 at h
    cases h with
    | slice0 => exact absurd (List.map_eq_nil_iff.1 hr0) hne
    | sliceE => exact absurd (List.map_eq_nil_iff.1 hr0) hne
    | slice _ b off cap sz X hr hcap hx hI hz hh =>
      subst hr0
      have hla : 0 < a.length := List.length_pos_iff.2 hne
      have hsz : sz = 15 := by
        have := (hr (iE (a.getD 0 itm0)) (List.mem_map.2 ⟨_, it_mem hla, rfl⟩)).1
        rw [← this, iE_length]
      subst hsz
      have hrow : ∀ i, i < a.length → R4 G w (a.getD i itm0).typ (fun j => X i (2 + j)) := fun i hi j hj => by
        have := hh i (2 + j) (by rw [iEs_length]; exact hi) (by omega)
        unfold Abs.rowAt at this
        rw [iEs_getD hi, iE_split] at this
        have e : (AV.int .i64 (a.getD i itm0).kind :: .str (a.getD i itm0).name :: (enc (a.getD i itm0).typ ++ encX (a.getD i itm0).ex)).getD (2 + j) .bot = (enc (a.getD i itm0).typ).getD j .bot := by
          rw [Nat.add_comm 2 j]
          show (enc (a.getD i itm0).typ ++ encX (a.getD i itm0).ex).getD j .bot = _
          exact Abs.getD_append_left (by rw [enc_length]; exact hj)
        rwa [e] at this
      have hrowX : ∀ i, i < a.length → SX.R4 G w (a.getD i itm0).ex (fun j => X i (6 + j)) := fun i hi j hj => by
        have := hh i (6 + j) (by rw [iEs_length]; exact hi) (by omega)
        unfold Abs.rowAt at this
        rw [iEs_getD hi, iE_split] at this
        have e : (AV.int .i64 (a.getD i itm0).kind :: .str (a.getD i itm0).name :: (enc (a.getD i itm0).typ ++ encX (a.getD i itm0).ex)).getD (6 + j) .bot = (encX (a.getD i itm0).ex).getD j .bot := by
          rw [show 6 + j = 4 + j + 1 + 1 by omega]
          show (enc (a.getD i itm0).typ ++ encX (a.getD i itm0).ex).getD (4 + j) .bot = _
          rw [Abs.getD_append_right (by rw [enc_length]; omega), enc_length, Nat.add_sub_cancel_left]
        rwa [e] at this
      have hex : ∀ i, ∃ p : ITy × SX.IEx, i < a.length → (erase p.1 = (a.getD i itm0).typ ∧ T4 G w p.1 (fun j => X i (2 + j)) ∧ ∀ z ∈ lists p.1, LLok G w z) ∧ (SX.erase p.2 = (a.getD i itm0).ex ∧ SX.T4 G w p.2 (fun j => X i (6 + j)) ∧ (∀ z ∈ SX.lists p.2, SX.LLok G w z) ∧ ∀ z ∈ SX.argL p.2, LLok G w z) := fun i => by
        rcases Nat.lt_or_ge i a.length with hi | hi
        · obtain ⟨t, h1, h2, h3, h4⟩ := annot (G := G) (w := w) _ _ (hrow i hi)
          obtain ⟨e, g1, g2, g3, g4, g5⟩ := SX.annot (G := G) (w := w) _ _ (hrowX i hi)
          exact ⟨(t, e), fun _ => ⟨⟨h1, h3, h4⟩, g1, g3, g4, g5⟩⟩
        · exact ⟨(it0, SX.it0), fun h => by omega⟩
      obtain ⟨T, hT⟩ := Classical.axiomOfChoice hex
      have hlen : ((List.range a.length).map fun i => (⟨(a.getD i itm0).kind, (a.getD i itm0).name, (T i).1, (T i).2⟩ : ItJ)).length = a.length := by simp
      have hget : ∀ i, i < a.length → ((List.range a.length).map fun i => (⟨(a.getD i itm0).kind, (a.getD i itm0).name, (T i).1, (T i).2⟩ : ItJ)).getD i ij0 = ⟨(a.getD i itm0).kind, (a.getD i itm0).name, (T i).1, (T i).2⟩ := fun i hi => by simp [List.getD, hi]
      refine ⟨(List.range a.length).map fun i => ⟨(a.getD i itm0).kind, (a.getD i itm0).name, (T i).1, (T i).2⟩, ?_, ?_, fun x hx => ?_⟩
      · apply List.ext_getElem (by simp)
        intro i h1 h2
        have hi : i < a.length := h2
        have e : a.getD i itm0 = a[i] := by simp [List.getD, hi]
        simp only [List.getElem_map, List.getElem_range, erK, (hT i hi).1.1, (hT i hi).2.1]
        rw [e]; exact rootX_self _
      · have hl2 : (iEs a).length = (kEs ((List.range a.length).map fun i => (⟨(a.getD i itm0).kind, (a.getD i itm0).name, (T i).1, (T i).2⟩ : ItJ))).length := by rw [iEs_length, kEs_length, hlen]
        rw [hl2]
        refine .slice _ b off cap 15 X (fun r hr' => ?_) (by rw [← hl2]; exact hcap) (by rw [← hl2]; exact hx) (by rw [← hl2]; exact hI) (by rw [← hl2]; exact hz) (fun i j hi hj => ?_)
        · obtain ⟨x, _, rfl⟩ := List.mem_map.1 hr'
          exact ⟨kE_length x, kE_leaf x⟩
        · rw [kEs_length, hlen] at hi
          have h0 := hh i j (by rw [iEs_length]; exact hi) hj
          unfold Abs.rowAt at h0 ⊢
          rw [kEs_getD (by rw [hlen]; exact hi), hget i hi]
          rw [iEs_getD hi, iE_split] at h0
          match j, hj with
          | 0, _ => exact h0
          | 1, _ => exact h0
          | j + 2, hj =>
            show RV G w ((encI (T i).1 ++ SX.encI (T i).2).getD j .bot) (X i (j + 2))
            rcases Nat.lt_or_ge j 4 with h4 | h4
            · rw [Abs.getD_append_left (by rw [encI_length]; exact h4)]
              have := (hT i hi).1.2.1 j h4
              rw [show (fun j => X i (2 + j)) j = X i (j + 2) by rw [Nat.add_comm]] at this
              exact this
            · rw [Abs.getD_append_right (by rw [encI_length]; exact h4), encI_length]
              have := (hT i hi).2.2.1 (j - 4) (by omega)
              have e6 : 6 + (j - 4) = j + 2 := by omega
              have this2 : RV G w ((SX.encI (T i).2).getD (j - 4) .bot) (X i (6 + (j - 4))) := this
              rw [e6] at this2
              exact this2
      · obtain ⟨i, hi, rfl⟩ := List.mem_map.1 hx
        have := hT i (by simpa using hi)
        exact ⟨this.1.2.2, this.2.2.2.1, this.2.2.2.2⟩

theorem szJ_erK (x : ItJ) : sz (erase x.typ) ≤ szJ (erK x) ∧ szX (SX.erase x.ex) ≤ szJ (erK x) ∧ sz (erase x.typ) + szX (SX.erase x.ex) ≤ szJ (erK x) := by
  simp only [szJ, erK, rootX_ex, rootX_name, rootX_typ]; omega
theorem lensK (a : List ItJ) : (a.flatMap fun x => lists x.typ ++ SX.argL x.ex).length ≤ szJs (a.map erK) ∧ (a.flatMap fun x => SX.lists x.ex).length ≤ szJs (a.map erK) := by
  induction a with
  | nil => simp [szJs]
  | cons x a ih =>
    have h1 := lists_len x.typ
    have h2 := SX.argL_len x.ex
    have h3 := SX.lists_len x.ex
    have h4 := szJ_erK x
    have e : szJs ((x :: a).map erK) = szJ (erK x) + szJs (a.map erK) := by simp [szJs]
    rw [e]
    simp only [List.flatMap_cons, List.length_append] at ih ⊢
    omega

theorem impl_StructSame (a b : List ItI) (ha : a.length + szJs a ≤ 1048576) (hb : b.length + szJs b ≤ 1048576) (A : List Box) : ACalls Try.prog 14 [.slice (iEs a), .slice (iEs b)] A (fun r A' => r = .bool (stsB a b) ∧ A' = A) := by
  intro G w base xs hH hx
  obtain ⟨x, y, hxy, h1, h2⟩ := hx.two
  obtain ⟨s, e1, r1, k1⟩ := annotK a x h1
  obtain ⟨t, e2, r2, k2⟩ := annotK b y h2
  have hk : ∀ x ∈ s ++ t, KnJ G w x := fun x hx => (List.mem_append.1 hx).elim (k1 x) (k2 x)
  have hsz : szJs ((s ++ t).map erK) ≤ 2097152 := by
    have : szJs ((s ++ t).map erK) = szJs a + szJs b := by rw [List.map_append, e1, e2]; simp [szJs]
    omega
  have hone : ∀ x ∈ s ++ t, szJ (erK x) ≤ 2097152 := fun x hx => by
    have := szJs_mem (x := erK x) (l := (s ++ t).map erK) (List.mem_map.2 ⟨x, hx, rfl⟩)
    omega
  have hl := lensK (s ++ t)
  generalize hst : s ++ t = l at *
  have hS : StU (l.flatMap fun x => lists x.typ ++ SX.argL x.ex) (l.flatMap fun x => SX.lists x.ex) := by
    have okT : ∀ p ∈ (l.flatMap fun x => lists x.typ ++ SX.argL x.ex), LLok G w p := fun p hp => by
      obtain ⟨x, hx, h⟩ := List.mem_flatMap.1 hp
      rcases List.mem_append.1 h with h | h
      · exact (hk x hx).1 p h
      · exact (hk x hx).2.2 p h
    have okX : ∀ p ∈ (l.flatMap fun x => SX.lists x.ex), SX.LLok G w p := fun p hp => by
      obtain ⟨x, hx, h⟩ := List.mem_flatMap.1 hp
      exact (hk x hx).2.1 p h
    refine ⟨⟨fun p hp q hq he => (okX p hp).inj (okX q hq) he, fun p hp u hu z hz => ?_⟩, by omega, fun z hz => ?_, ⟨⟨fun p hp q hq he => (okT p hp).inj (okT q hq) he, fun p hp u hu z hz => ?_⟩, by omega, fun z hz => ?_⟩, fun p hp u hu => ⟨fun z hz => ?_⟩⟩
    · obtain ⟨x, hx, h⟩ := List.mem_flatMap.1 hp
      exact List.mem_flatMap.2 ⟨x, hx, SX.lists_down x.ex p h u hu z hz⟩
    · obtain ⟨x, hx, h⟩ := List.mem_flatMap.1 hz
      have h1 := SX.lists_ks z x.ex h
      have h2 := szJ_erK x
      have h3 := hone x hx
      omega
    · obtain ⟨x, hx, h⟩ := List.mem_flatMap.1 hp
      refine List.mem_flatMap.2 ⟨x, hx, ?_⟩
      rcases List.mem_append.1 h with h | h
      · exact List.mem_append_left _ (lists_down x.typ p h u hu z hz)
      · exact List.mem_append_right _ (SX.argL_down x.ex p h u hu z hz)
    · obtain ⟨x, hx, h⟩ := List.mem_flatMap.1 hz
      have h2 := szJ_erK x
      have h3 := hone x hx
      rcases List.mem_append.1 h with h | h
      · have h1 := lists_ks z x.typ h; omega
      · have h1 := SX.argL_ks z x.ex h; omega
    · obtain ⟨x, hx, h⟩ := List.mem_flatMap.1 hp
      exact List.mem_flatMap.2 ⟨x, hx, List.mem_append_right _ (SX.argL_lists x.ex p h u hu z (SX.argL_own u z (tLists_top hz)))⟩
  have hO : ∀ x ∈ l, StO (l.flatMap fun x => lists x.typ ++ SX.argL x.ex) (l.flatMap fun x => SX.lists x.ex) x := fun x hx =>
    ⟨⟨fun z hz => List.mem_flatMap.2 ⟨x, hx, List.mem_append_left _ (by rw [lists_eq hz]; simp)⟩⟩, fun z hz => List.mem_flatMap.2 ⟨x, hx, by rw [SX.lists_eq hz]; simp⟩, ⟨fun z hz => List.mem_flatMap.2 ⟨x, hx, List.mem_append_right _ (SX.argL_own x.ex z (tLists_top hz))⟩⟩⟩
  have key := impl_StructSameI hS s t (fun x hx => hO x (by rw [← hst]; exact List.mem_append_left _ hx)) (fun x hx => hO x (by rw [← hst]; exact List.mem_append_right _ hx)) (by have h9 : s.length = a.length := (by rw [← e1]; simp); omega) A
  rw [e1, e2] at key
  refine key G w base xs hH ?_
  rw [hxy]
  exact .cons r1 (.cons r2 .nil)
end Go.Proofs.Ytpoknljchikklaa
