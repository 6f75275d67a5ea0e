/- The program's SigSame answers whether two lists of items are the same. -/
import Derived.Test.YtpoknljchikklaaSameA2
import Derived.Test.YtpoknljchikklaaSigSame
import Derived.Test.YtpoknljchikklaaAbsW3
set_option linter.unusedVariables false
set_option linter.unusedSimpArgs false
namespace Go.Proofs.Ytpoknljchikklaa
open Go.Abs

theorem set_eq {A : List Box} {i : Nat} {X : Box} (hi : i < A.length) (h : A.getD i .dead = X) : A.set i X = A := by
  subst h
  apply List.ext_getElem (by simp)
  intro k h1 h2
  by_cases e : i = k
  · subst e; simp [List.getD, h2]
  · rw [List.getElem_set_ne e]
/-- an item whose memory is known -/
structure SigJ where
  kind : Int
  name : List UInt8
  typ : ITy
def sj0 : SigJ := ⟨0, [], it0⟩
def jE (x : SigJ) : List AV := .int .i64 x.kind :: .str x.name :: encI x.typ
def jEs (l : List SigJ) : List (List AV) := l.map jE
def erJ (x : SigJ) : SigI := ⟨x.kind, x.name, erase x.typ⟩
theorem jE_length (x : SigJ) : (jE x).length = 6 := by simp [jE, encI_length]
theorem jE_take (x : SigJ) : List.take 6 (jE x) = jE x := List.take_of_length_le (by rw [jE_length]; exact Nat.le_refl _)
theorem jE_drop0 (x : SigJ) : (jE x).getD 0 .bot = .int .i64 x.kind := rfl
theorem jE_drop1 (x : SigJ) : (List.drop 1 (jE x)).getD 0 .bot = .str x.name := rfl
theorem jE_drop2 (x : SigJ) : List.drop 2 (jE x) = encI x.typ := rfl
theorem jE_len1 (x : SigJ) : (List.drop 1 (jE x)).length = 5 := by rw [List.length_drop, jE_length]
theorem jE_leaf (x : SigJ) : ∀ v ∈ jE x, isLeaf v = true := by
  intro v hv
  simp only [jE, List.mem_cons] at hv
  rcases hv with rfl | rfl | hv
  · rfl
  · rfl
  · exact encI_leaf _ v hv
theorem frzL_jE (x : SigJ) (A : List Box) : frzL (jE x) A = some (jE x, A) := frzL_leaf _ _ (jE_leaf x)
theorem jEs_length (l : List SigJ) : (jEs l).length = l.length := by simp [jEs]
theorem jEs_getD {l : List SigJ} {i : Nat} (h : i < l.length) : (jEs l).getD i [] = jE (l.getD i sj0) := by simp [jEs, List.getD, h]
theorem sj_mem {l : List SigJ} {i : Nat} (h : i < l.length) : l.getD i sj0 ∈ l := by simp [List.getD, h]
theorem sj_drop {l : List SigJ} {i : Nat} (h : i < l.length) : l.drop i = l.getD i sj0 :: l.drop (i + 1) := by
  have : l.getD i sj0 = l[i] := by simp [List.getD, h]
  rw [this, List.getElem_cons_drop h]

set_option maxRecDepth 100000 in
theorem same_item {U : List LL} (hU : Univ U) (hN : U.length ≤ 100000000) (hL : ∀ x ∈ U, x.ks.length ≤ 1000000000) (x y : SigJ) (hx : ∀ z, below x.typ = some z → z ∈ U) (hy : ∀ z, below y.typ = some z → z ∈ U)
    (c it : Nat) (m0 : List (LL × LL)) (h0 : ClS U m0) (A : List Box) (hc : c < A.length) (hi : it < A.length) (hci : c ≠ it) (hAc : A.getD c .dead = .cells [tF1, tF2, .map it]) (hA : A.getD it .dead = .mapb (esOf m0)) :
    ACalls Try.prog 40 [.agg (jE x), .agg (jE y), .ptr c 0] A (fun r A' => ∃ m', A' = A.set it (.mapb (esOf m')) ∧ r = .bool (siB (erJ x) (erJ y)) ∧ (siB (erJ x) (erJ y) = true → ClS U m')) := by
  have hs0 : A.set it (.mapb (esOf m0)) = A := set_eq hi hA
  have hout : ∀ m (L : List Box), Outer A (A.set it (.mapb (esOf m)) ++ L) := fun m L => outer_set A _ it _ (es_closed _ _)
  have hL0 : ∀ L : List Box, Outer A (A ++ L) := fun L => by have := hout m0 L; rwa [hs0] at this
  refine acalls_enter (cf := cf 26 [0, 1, 2, 3, 4, 5]) foll Try.func40 Try.ntmps40 (by simp [cf]) ?_
  simp only [Try.f40, EnterK_some, zW, zX, zD, builtinA, isLeaf, const1, ustrA, simprocAttr, ti3, ti9, ti37, ti53, ti60, ca36, cf, Try.results40]
  simp only [zW, zX, zD, builtinA, isLeaf, const1, ustrA, simprocAttr, ti3, ti9, ti37, ti53, ti60, ca36, cf, Try.results40, jE_length, jE_take, jE_drop0, jE_drop1, jE_len1, jE_drop2, frzL_jE]
  by_cases k1 : x.kind = y.kind
  · simp only [zW, zX, zD, builtinA, isLeaf, const1, ustrA, simprocAttr, ti3, ti9, ti37, ti53, ti60, ca36, cf, Try.results40, decide_eq_true k1, jE_length, jE_take, jE_drop0, jE_drop1, jE_len1, jE_drop2]
    by_cases k2 : x.name = y.name
    · have hsm := sameI hU hN hL x.typ y.typ hx hy it m0 h0 (A ++ [Box.cells (jE x), .cells (jE y)]) (by simp; omega) (by rw [Abs.getD_append_left hi]; exact hA)
      have hAc2 : (A ++ [Box.cells (jE x), .cells (jE y)]).getD c .dead = .cells [tF1, tF2, .map it] := by rw [Abs.getD_append_left hc]; exact hAc
      simp only [zW, zX, zD, builtinA, isLeaf, const1, ustrA, simprocAttr, ti3, ti9, ti37, ti53, ti60, ca36, cf, Try.results40, decide_eq_true k2, hAc2, jE_length, jE_take, jE_drop0, jE_drop1, jE_len1, jE_drop2, encI_take, encI_length]
      refine callO_intro hsm ?_
      rintro r A' ⟨m', rfl, rfl, hm'⟩
      rw [List.set_append_left _ _ hi]
      simp only [zW, zX, zD, builtinA, isLeaf, const1, ustrA, simprocAttr, ti3, ti9, ti37, ti53, ti60, ca36, cf, Try.results40]
      exact ⟨hout _ _, m', rfl, by simp [siB, erJ, k1, k2], fun h => hm' (by simpa [siB, erJ, k1, k2] using h)⟩
    · simp only [zW, zX, zD, builtinA, isLeaf, const1, ustrA, simprocAttr, ti3, ti9, ti37, ti53, ti60, ca36, cf, Try.results40, decide_eq_false k2, jE_len1]
      exact ⟨m0, hs0.symm, by simp [siB, erJ, k2], fun h => by simp [siB, erJ, k2] at h⟩
  · simp only [zW, zX, zD, builtinA, isLeaf, const1, ustrA, simprocAttr, ti3, ti9, ti37, ti53, ti60, ca36, cf, Try.results40, decide_eq_false k1]
    exact ⟨m0, hs0.symm, by simp [siB, erJ, k1], fun h => by simp [siB, erJ, k1] at h⟩

theorem sisB_map (a b : List SigJ) {i : Nat} (hi : i < a.length) (hj : i < b.length) : sisB ((a.drop i).map erJ) ((b.drop i).map erJ) = (siB (erJ (a.getD i sj0)) (erJ (b.getD i sj0)) && sisB ((a.drop (i + 1)).map erJ) ((b.drop (i + 1)).map erJ)) := by
  rw [sj_drop hi, sj_drop hj, List.map_cons, List.map_cons, sisB]

set_option maxRecDepth 100000 in
theorem eq_items {U : List LL} (hU : Univ U) (hN : U.length ≤ 100000000) (hL : ∀ x ∈ U, x.ks.length ≤ 1000000000) (a b : List SigJ) (ha : ∀ x ∈ a, ∀ z, below x.typ = some z → z ∈ U) (hb : ∀ x ∈ b, ∀ z, below x.typ = some z → z ∈ U) (hla : a.length ≤ 1048576)
    (c it : Nat) (m0 : List (LL × LL)) (h0 : ClS U m0) (A : List Box) (hc : c < A.length) (hi : it < A.length) (hci : c ≠ it) (hAc : A.getD c .dead = .cells [tF1, tF2, .map it]) (hA : A.getD it .dead = .mapb (esOf m0)) :
    ACalls Try.prog 39 [.slice (jEs a), .slice (jEs b), .func (.func 40) [] [.ptr c 0]] A (fun r A' => ∃ m', A' = A.set it (.mapb (esOf m')) ∧ r = .bool (sisB (a.map erJ) (b.map erJ))) := by
  have hs0 : A.set it (.mapb (esOf m0)) = A := set_eq hi hA
  have hout : ∀ m (L : List Box), Outer A (A.set it (.mapb (esOf m)) ++ L) := fun m L => outer_set A _ it _ (es_closed _ _)
  have hL0 : ∀ L : List Box, Outer A (A ++ L) := fun L => by have := hout m0 L; rwa [hs0] at this
  by_cases hl : a.length = b.length
  · have hd : decide ((a.length : Int) = (b.length : Int)) = true := decide_eq_true (by omega)
    refine acalls_enter (cf := cf 32 [0, 1, 2, 6, 7, 8, 9, 14, 15, 16, 17, 18, 30]) foll Try.func39 Try.ntmps39 (by simp [cf]) ?_
    simp only [Try.f39, EnterK_some, zW, zX, zD, builtinA, isLeaf, const1, ustrA, simprocAttr, ti3, ti25, ti53, cf, Try.results39]
    simp only [zW, zX, zD, builtinA, isLeaf, const1, ustrA, simprocAttr, ti3, ti25, ti53, cf, Try.results39, jEs_length, hd]
    refine aloop_intro [1, 2, 15, 16, 17] (fun e A' => ∃ (i : Nat) (B : List Box) (m : List (LL × LL)), i ≤ a.length ∧ sisB ((a.drop i).map erJ) ((b.drop i).map erJ) = sisB (a.map erJ) (b.map erJ) ∧ e = [(1, .slice (jEs b)), (2, .func (.func 40) [] [.ptr c 0]), (15, .slice (jEs a)), (16, .int .i64 a.length), (17, .int .i64 i)] ∧ A' = A.set it (.mapb (esOf m)) ++ B ∧ ClS U m) (fun e _ => a.length - (intOf (Abs.look 17 e)).toNat) ?_ ?_
    · simp only [zW, zX, zD, builtinA, isLeaf, const1, ustrA, simprocAttr, ti3, ti25, ti53, cf, Try.results39, jEs_length]
      exact ⟨0, [], m0, by omega, rfl, rfl, by rw [hs0]; simp, h0⟩
    · rintro e A' ⟨i, B, m, hi2, hq, rfl, rfl, hm⟩
      simp only [zW, zX, zD, builtinA, isLeaf, const1, ustrA, simprocAttr, ti3, ti25, ti53, cf, Try.results39, jEs_length]
      refine condK_intro (fun h2 => ?_) (fun h2 => ?_)
      · have hi3 : i < a.length := by simpa using h2
        have hj2 : i < b.length := by omega
        rw [sisB_map a b hi3 hj2] at hq
        have e1 := jEs_getD hi3
        have e2 := jEs_getD hj2
        have hxa := ha _ (sj_mem hi3)
        have hxb := hb _ (sj_mem hj2)
        have hi1 : IntKind.i64.wrap ((i : Int) + 1) = ((i + 1 : Nat) : Int) := by rw [wrap64 (by omega) (by omega)]; rfl
        generalize a.getD i sj0 = x at *
        generalize b.getD i sj0 = y at *
        have pa : (0 : Int) ≤ (i : Int) ∧ (i : Int) < (a.length : Int) := ⟨by omega, by omega⟩
        have pb : (0 : Int) ≤ (i : Int) ∧ (i : Int) < (b.length : Int) := ⟨by omega, by omega⟩
        have hcall := fun L => same_item hU hN hL x y hxa hxb c it m hm (A.set it (.mapb (esOf m)) ++ L) (by simp; omega) (by simp; omega) hci (by rw [Abs.getD_append_left (by simpa using hc), Abs.getD_set_ne' (Ne.symm hci)]; exact hAc) (by rw [Abs.getD_append_left (by simpa using hi), Abs.getD_set_self hi])
        simp only [zW, zX, zD, builtinA, isLeaf, const1, ustrA, simprocAttr, ti3, ti25, ti53, cf, Try.results39, e1, e2, jE_length, jE_take, jEs_length]
        refine ⟨pa, pb, ?_⟩
        refine wpO_callv _ _ _ _ _ _ _ _ _ _ _ _ _ _ _ ?_
        simp only [zW, zX, zD, builtinA, isLeaf, const1, ustrA, simprocAttr, ti3, ti25, ti53, cf, Try.results39]
        refine ⟨by kernel_rfl, ?_⟩
        refine callK_intro (by simp only [zW, zX, zD, builtinA, isLeaf, const1, ustrA, simprocAttr, frzL_jE, Option.map_some, List.nil_append, List.append_nil] <;> rfl) (hcall _) ?_ rfl
        rintro r A' ⟨m', rfl, rfl, hm'⟩
        rw [List.set_append_left _ _ (by simpa using hi), List.set_set]
        cases hh : siB (erJ x) (erJ y) with
        | true =>
          rw [hh, Bool.true_and] at hq
          simp only [zW, zX, zD, builtinA, isLeaf, const1, ustrA, simprocAttr, ti3, ti25, ti53, cf, Try.results39, hi1, LoopK_eq]
          refine ⟨⟨i + 1, _, m', by omega, hq, rfl, rfl, hm' hh⟩, ?_⟩
          simp only [intOf]; omega
        | false =>
          rw [hh, Bool.false_and] at hq
          simp only [zW, zX, zD, builtinA, isLeaf, const1, ustrA, simprocAttr, ti3, ti25, ti53, cf, Try.results39]
          exact ⟨hout _ _, m', rfl, by rw [← hq]⟩
      · have : i = a.length := by simp at h2; omega
        subst this
        have hb0 : b.drop a.length = [] := by simp; omega
        rw [List.drop_length, hb0, List.map_nil, sisB] at hq
        simp only [zW, zX, zD, builtinA, isLeaf, const1, ustrA, simprocAttr, ti3, ti25, ti53, cf, Try.results39]
        exact ⟨hout _ _, m, rfl, by rw [← hq]⟩
  · have hd : decide ((a.length : Int) = (b.length : Int)) = false := decide_eq_false (by omega)
    rw [sisB_len (by simpa using hl)]
    refine acalls_enter (cf := cf 32 [0, 1, 2, 6, 7, 8, 9, 14, 15, 16, 17, 18, 30]) foll Try.func39 Try.ntmps39 (by simp [cf]) ?_
    simp only [Try.f39, EnterK_some, zW, zX, zD, builtinA, isLeaf, const1, ustrA, simprocAttr, ti3, ti25, ti53, cf, Try.results39]
    simp only [zW, zX, zD, builtinA, isLeaf, const1, ustrA, simprocAttr, ti3, ti25, ti53, cf, Try.results39, jEs_length, hd]
    exact ⟨m0, hs0.symm⟩

set_option maxRecDepth 100000 in
theorem impl_sameSigs {U : List LL} (hU : Univ U) (hN : U.length ≤ 100000000) (hL : ∀ x ∈ U, x.ks.length ≤ 1000000000) (a b : List SigJ) (ha : ∀ x ∈ a, ∀ z, below x.typ = some z → z ∈ U) (hb : ∀ x ∈ b, ∀ z, below x.typ = some z → z ∈ U) (hla : a.length ≤ 1048576)
    (it : Nat) (m0 : List (LL × LL)) (h0 : ClS U m0) (A : List Box) (hi : it < A.length) (hA : A.getD it .dead = .mapb (esOf m0)) :
    ACalls Try.prog 23 [.agg [tF1, tF2, .map it], .slice (jEs a), .slice (jEs b)] A (fun r A' => ∃ m', A' = A.set it (.mapb (esOf m')) ∧ r = .bool (sisB (a.map erJ) (b.map erJ))) := by
  have hout : ∀ m (L : List Box), Outer A (A.set it (.mapb (esOf m)) ++ L) := fun m L => outer_set A _ it _ (es_closed _ _)
  have heq := eq_items hU hN hL a b ha hb hla A.length it m0 h0 (A ++ [Box.cells [tF1, tF2, .map it]]) (by simp) (by simp; omega) (by omega)
    (by rw [Abs.getD_append_right (Nat.le_refl _)]; simp) (by rw [Abs.getD_append_left hi]; exact hA)
  refine acalls_enter (cf := cf 11 [0, 1, 2, 3, 6]) foll Try.func23 Try.ntmps23 (by simp [cf]) ?_
  simp only [Try.f23, EnterK_some, zW, zX, zD, builtinA, isLeaf, const1, ustrA, simprocAttr, ti60, ca39, cf, Try.results23]
  refine callO_intro heq ?_
  rintro r A' ⟨m', rfl, rfl⟩
  rw [List.set_append_left _ _ hi]
  simp only [zW, zX, zD, builtinA, isLeaf, const1, ustrA, simprocAttr, ti60, ca39, cf, Try.results23]
  exact ⟨hout _ _, m', rfl⟩

set_option maxRecDepth 100000 in
theorem impl_SigSameI {U : List LL} (hU : Univ U) (hN : U.length ≤ 100000000) (hL : ∀ x ∈ U, x.ks.length ≤ 1000000000) (a b : List SigJ) (ha : ∀ x ∈ a, ∀ z, below x.typ = some z → z ∈ U) (hb : ∀ x ∈ b, ∀ z, below x.typ = some z → z ∈ U) (hla : a.length ≤ 1048576) (A : List Box) :
    ACalls Try.prog 9 [.slice (jEs a), .slice (jEs b)] A (fun r A' => r = .bool (sisB (a.map erJ) (b.map erJ)) ∧ A' = A) := by
  have hc0 : ClS U [] := ⟨[], ⟨by simp, by simp, by simp⟩, by simp⟩
  have heq := impl_sameSigs hU hN hL a b ha hb hla (A.length + 1) [] hc0 (A ++ [Box.cells [tF1, tF2, .map (A.length + 1)], .mapb []]) (by simp)
    (by rw [Abs.getD_append_right (by omega), show A.length + 1 - A.length = 1 by omega]; rfl)
  refine acalls_enter (cf := cf 9 [0, 1, 4]) foll Try.func9 Try.ntmps9 (by simp [cf]) ?_
  simp only [Try.f9, EnterK_some, zW, zX, zD, builtinA, isLeaf, const1, ustrA, simprocAttr, ca23, ca24, cf, Try.results9]
  refine callO_intro (tc_new A) ?_
  rintro r A' ⟨rfl, rfl⟩
  simp only [zW, zX, zD, builtinA, isLeaf, const1, ustrA, simprocAttr, ca23, ca24, cf, Try.results9]
  refine callO_intro heq ?_
  rintro r A' ⟨m', rfl, rfl⟩
  have hS : ∀ (X : Box) (L : List Box), (A ++ L).set (A.length + 1) X = A ++ L.set 1 X := fun X L => by rw [List.set_append_right _ _ (by omega), show A.length + 1 - A.length = 1 by omega]
  rw [hS]
  simp only [zW, zX, zD, builtinA, isLeaf, const1, ustrA, simprocAttr, ca23, ca24, cf, Try.results9]

/-- the memory of the items of a list -/
theorem annotS {G : Ghost} {w : World} (a : List SigI) (v : Value) (h : RV G w (.slice (sEs a)) v) : ∃ aj : List SigJ, aj.map erJ = a ∧ RV G w (.slice (jEs aj)) v ∧ ∀ x ∈ aj, norm x.typ ∧ ∀ z ∈ lists x.typ, LLok G w z := by
  rcases Classical.em (a = []) with rfl | hne
  · exact ⟨[], rfl, h, by simp⟩
  · generalize hr0 : sEs a = rows0 at h
    cases h with
    | slice0 => exact absurd (List.map_eq_nil_iff.1 hr0) hne
    | sliceE => exact absurd (List.map_eq_nil_iff.1 hr0) hne
    | slice _ b off cap sz X hr hcap hx hI hz hh =>
      subst hr0
      have hla : 0 < a.length := List.length_pos_iff.2 hne
      have hsz : sz = 6 := by
        have := (hr (sE (a.getD 0 si0)) (List.mem_map.2 ⟨_, si_mem hla, rfl⟩)).1
        rw [← this, sE_length]
      subst hsz
      have hrow : ∀ i, i < a.length → R4 G w (a.getD i si0).typ (fun j => X i (2 + j)) := fun i hi j hj => by
        have := hh i (2 + j) (by rw [sEs_length]; exact hi) (by omega)
        unfold Abs.rowAt at this
        rw [sEs_getD hi] at this
        have e : (sE (a.getD i si0)).getD (2 + j) .bot = (enc (a.getD i si0).typ).getD j .bot := by rw [Nat.add_comm]; rfl
        rwa [e] at this
      have hex : ∀ i, ∃ t : ITy, i < a.length → erase t = (a.getD i si0).typ ∧ norm t ∧ T4 G w t (fun j => X i (2 + j)) ∧ ∀ z ∈ lists t, LLok G w z := fun i => by
        rcases Nat.lt_or_ge i a.length with hi | hi
        · obtain ⟨t, h1, h2, h3, h4⟩ := annot (G := G) (w := w) _ _ (hrow i hi)
          exact ⟨t, fun _ => ⟨h1, h2, h3, h4⟩⟩
        · exact ⟨it0, fun h => by omega⟩
      obtain ⟨T, hT⟩ := Classical.axiomOfChoice hex
      have hlen : ((List.range a.length).map fun i => (⟨(a.getD i si0).kind, (a.getD i si0).name, T i⟩ : SigJ)).length = a.length := by simp
      have hget : ∀ i, i < a.length → ((List.range a.length).map fun i => (⟨(a.getD i si0).kind, (a.getD i si0).name, T i⟩ : SigJ)).getD i sj0 = ⟨(a.getD i si0).kind, (a.getD i si0).name, T i⟩ := fun i hi => by simp [List.getD, hi]
      refine ⟨(List.range a.length).map fun i => ⟨(a.getD i si0).kind, (a.getD i si0).name, T i⟩, ?_, ?_, fun x hx => ?_⟩
      · apply List.ext_getElem (by simp)
        intro i h1 h2
        have hi : i < a.length := h2
        simp only [List.getElem_map, List.getElem_range, erJ, (hT i hi).1]
        simp [List.getD, hi]
      · have hl2 : (sEs a).length = (jEs ((List.range a.length).map fun i => (⟨(a.getD i si0).kind, (a.getD i si0).name, T i⟩ : SigJ))).length := by rw [sEs_length, jEs_length, hlen]
        rw [hl2]
        refine .slice _ b off cap 6 X (fun r hr' => ?_) (by rw [← hl2]; exact hcap) (by rw [← hl2]; exact hx) (by rw [← hl2]; exact hI) (by rw [← hl2]; exact hz) (fun i j hi hj => ?_)
        · obtain ⟨x, _, rfl⟩ := List.mem_map.1 hr'
          exact ⟨jE_length x, jE_leaf x⟩
        · rw [jEs_length, hlen] at hi
          have h0 := hh i j (by rw [sEs_length]; exact hi) hj
          unfold Abs.rowAt at h0 ⊢
          rw [jEs_getD (by rw [hlen]; exact hi), hget i hi]
          rw [sEs_getD hi] at h0
          match j, hj with
          | 0, _ => exact h0
          | 1, _ => exact h0
          | j + 2, hj =>
            have := (hT i hi).2.2.1 j (by omega)
            rw [show (fun j => X i (2 + j)) j = X i (j + 2) by rw [Nat.add_comm]] at this
            exact this
      · obtain ⟨i, hi, rfl⟩ := List.mem_map.1 hx
        have := hT i (by simpa using hi)
        exact ⟨this.2.1, this.2.2.2⟩

theorem lens_items (a : List SigJ) : (a.flatMap fun x => lists x.typ).length ≤ szIs (a.map erJ) := by
  induction a with
  | nil => simp [szIs]
  | cons x a ih =>
    have h := lists_len x.typ
    simp only [List.flatMap_cons, List.length_append, szIs, List.map_cons, List.sum_cons, szI, erJ] at ih ⊢
    have e : ((a.map erJ).map fun x => x.name.length + sz x.typ).sum = szIs (a.map erJ) := rfl
    simp only [szIs, erJ] at e
    omega

theorem impl_SigSame (a b : List SigI) (ha : a.length + szIs a ≤ 1048576) (hb : b.length + szIs b ≤ 1048576) (A : List Box) : ACalls Try.prog 9 [.slice (sEs a), .slice (sEs b)] A (fun r A' => r = .bool (sisB a b) ∧ A' = A) := by
  intro G w base xs hH hx
  obtain ⟨x, y, hxy, h1, h2⟩ := hx.two
  obtain ⟨s, e1, r1, k1⟩ := annotS a x h1
  obtain ⟨t, e2, r2, k2⟩ := annotS b y h2
  have hU : Univ ((s.flatMap fun x => lists x.typ) ++ (t.flatMap fun x => lists x.typ)) := by
    refine ⟨fun p hp q hq he => ?_, fun p hp u hu z hz => ?_⟩
    · have ok : ∀ p ∈ (s.flatMap fun x => lists x.typ) ++ (t.flatMap fun x => lists x.typ), LLok G w p := fun p hp => by
        rcases List.mem_append.1 hp with h | h
        · obtain ⟨x, hx, h⟩ := List.mem_flatMap.1 h; exact (k1 x hx).2 p h
        · obtain ⟨x, hx, h⟩ := List.mem_flatMap.1 h; exact (k2 x hx).2 p h
      exact (ok p hp).inj (ok q hq) he
    · rcases List.mem_append.1 hp with h | h
      · obtain ⟨x, hx, h⟩ := List.mem_flatMap.1 h
        exact List.mem_append_left _ (List.mem_flatMap.2 ⟨x, hx, lists_down x.typ p h u hu z hz⟩)
      · obtain ⟨x, hx, h⟩ := List.mem_flatMap.1 h
        exact List.mem_append_right _ (List.mem_flatMap.2 ⟨x, hx, lists_down x.typ p h u hu z hz⟩)
  have hN : ((s.flatMap fun x => lists x.typ) ++ (t.flatMap fun x => lists x.typ)).length ≤ 100000000 := by
    have q1 := lens_items s
    have q2 := lens_items t
    rw [e1] at q1
    rw [e2] at q2
    rw [List.length_append]; omega
  have hks : ∀ (l : List SigJ) (n : Nat), szIs (l.map erJ) ≤ n → ∀ x ∈ l, ∀ z ∈ lists x.typ, z.ks.length ≤ n := fun l n hn x hx z hz => by
    have h1 := lists_ks z x.typ hz
    have h2 := szIs_mem (x := erJ x) (l := l.map erJ) (List.mem_map.2 ⟨x, hx, rfl⟩)
    have h3 : sz (erase x.typ) ≤ szI (erJ x) := by simp only [szI, erJ]; omega
    omega
  have hL : ∀ z ∈ (s.flatMap fun x => lists x.typ) ++ (t.flatMap fun x => lists x.typ), z.ks.length ≤ 1000000000 := fun z hz => by
    rcases List.mem_append.1 hz with h | h
    · obtain ⟨x, hx, h⟩ := List.mem_flatMap.1 h
      have := hks s 1048576 (by rw [e1]; omega) x hx z h; omega
    · obtain ⟨x, hx, h⟩ := List.mem_flatMap.1 h
      have := hks t 1048576 (by rw [e2]; omega) x hx z h; omega
  have hs : ∀ x ∈ s, ∀ z, below x.typ = some z → z ∈ (s.flatMap fun x => lists x.typ) ++ (t.flatMap fun x => lists x.typ) := fun x hx z hz => List.mem_append_left _ (List.mem_flatMap.2 ⟨x, hx, by rw [lists_eq hz]; simp⟩)
  have ht : ∀ x ∈ t, ∀ z, below x.typ = some z → z ∈ (s.flatMap fun x => lists x.typ) ++ (t.flatMap fun x => lists x.typ) := fun x hx z hz => List.mem_append_right _ (List.mem_flatMap.2 ⟨x, hx, by rw [lists_eq hz]; simp⟩)
  have key := impl_SigSameI hU hN hL s t hs ht (by have : s.length = a.length := by rw [← e1]; simp
                                                   omega) A
  rw [e1, e2] at key
  refine key G w base xs hH ?_
  rw [hxy]
  exact .cons r1 (.cons r2 .nil)
end Go.Proofs.Ytpoknljchikklaa
