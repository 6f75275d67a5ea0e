/- The model's StructValid. -/
import Derived.Test.YtebgneaehhaclaaGreatItems
import Derived.Test.YtebgneaehhaclaaGreatExNode
import Derived.Test.YtebgneaehhaclaaGreatExSpec
import Derived.Test.YtebgneaehhaclaaGreatSigSpec
import Derived.Test.YtebgneaehhaclaaGreatAbsW3
set_option linter.unusedVariables false
set_option linter.unusedSimpArgs false
namespace Go.Proofs.YtebgneaehhaclaaGreat
open Go.Abs

/-! ### what is among the definitions -/
def isD (k : Int) (n : List UInt8) (x : ItI) : Bool := decide (x.kind = k) && decide (x.name = n)
def hasD (s : List ItI) (k : Int) (n : List UInt8) : Bool := s.any (isD k n)
def kT (s : List ItI) (p : Nm) : Bool := !decide (p.1 = []) || hasD s 1 p.2
def kV (s : List ItI) (p : Nm) : Bool := !decide (p.1 = []) || hasD s 2 p.2
theorem hasD_take {s : List ItI} {i : Nat} (h : i < s.length) (k : Int) (n : List UInt8) : hasD (s.take (i + 1)) k n = (hasD (s.take i) k n || isD k n (s.getD i itm0)) := by
  rw [it_take h]; simp [hasD]

set_option maxRecDepth 100000 in
theorem spec_l4Before (s : List ItI) (hs : s.length ≤ 1048576) (k : Int) (n : List UInt8) (A : List Box) : ACalls Tryz.prog 86 [.slice (iEs s), .int .i64 k, .str n] A (fun r A' => r = .bool (hasD s k n) ∧ A' = A) := by
  refine acalls_enter (cf := cf 30 [0, 1, 2, 6, 7, 11, 29]) foll Tryz.func86 Tryz.ntmps86 (by simp [cf]) ?_
  simp only [Tryz.f86, EnterK_some, zW, zX, zD, builtinA, isLeaf, const1, ustrA, simprocAttr, ti3, ti9, ti30, ti127, cf, Tryz.results86]
  refine aloop_intro [0, 1, 2, 7] (fun e A' => ∃ i, i ≤ s.length ∧ hasD (s.take i) k n = false ∧ e = [(0, .slice (iEs s)), (1, .int .i64 k), (2, .str n), (7, .int .i64 (i : Nat))] ∧ A' = A) (fun e _ => s.length - (intOf (Abs.look 7 e)).toNat) ?_ ?_
  · simp only [zW, zX, zD, builtinA, isLeaf, const1, ustrA, simprocAttr, ti3, ti9, ti30, ti127, cf, Tryz.results86]
    exact ⟨0, by omega, by simp [hasD], rfl⟩
  · rintro e A' ⟨i, hi, hq, rfl, rfl⟩
    simp only [zW, zX, zD, builtinA, isLeaf, const1, ustrA, simprocAttr, ti3, ti9, ti30, ti127, cf, Tryz.results86, iEs_length]
    refine condK_intro (fun h2 => ?_) (fun h2 => ?_)
    · have hi2 : i < s.length := by simp at h2; omega
      have hg := iEs_getD hi2
      have htk := hasD_take hi2 k n
      have hmem := it_mem hi2
      have hi1 : IntKind.i64.wrap ((i : Int) + 1) = ((i + 1 : Nat) : Int) := by rw [wrap64 (by omega) (by omega)]; rfl
      generalize s.getD i itm0 = x at *
      have pi : (0 : Int) ≤ (i : Int) ∧ (i : Int) < (s.length : Int) := ⟨by omega, by omega⟩
      rw [hq, Bool.false_or] at htk
      simp only [iE] at hg
      simp only [zW, zX, zD, builtinA, isLeaf, const1, ustrA, simprocAttr, ti3, ti9, ti30, ti127, cf, Tryz.results86, hg, iEs_length]
      refine ⟨pi, ?_⟩
      by_cases h1 : x.kind = k
      · by_cases h3 : x.name = n
        · have hh : hasD s k n = true := List.any_eq_true.mpr ⟨x, hmem, by simp [isD, h1, h3]⟩
          simp only [zW, zX, zD, builtinA, isLeaf, const1, ustrA, simprocAttr, ti3, ti9, ti30, ti127, cf, Tryz.results86, decide_eq_true h1, decide_eq_true h3, hg, iEs_length]
          exact ⟨pi, by rw [hh]⟩
        · have hd : isD k n x = false := by simp [isD, h3]
          rw [hd] at htk
          simp only [zW, zX, zD, builtinA, isLeaf, const1, ustrA, simprocAttr, ti3, ti9, ti30, ti127, cf, Tryz.results86, decide_eq_true h1, decide_eq_false h3, hg, iEs_length, hi1, LoopK_eq]
          refine ⟨pi, ⟨i + 1, by omega, htk, rfl⟩, ?_⟩
          simp only [intOf]; omega
      · have hd : isD k n x = false := by simp [isD, h1]
        rw [hd] at htk
        simp only [zW, zX, zD, builtinA, isLeaf, const1, ustrA, simprocAttr, ti3, ti9, ti30, ti127, cf, Tryz.results86, decide_eq_false h1, hi1, LoopK_eq]
        refine ⟨⟨i + 1, by omega, htk, rfl⟩, ?_⟩
        simp only [intOf]; omega
    · have hi2 : i = s.length := by simp at h2; omega
      subst hi2
      rw [List.take_length] at hq
      simp only [zW, zX, zD, builtinA, isLeaf, const1, ustrA, simprocAttr, ti3, ti9, ti30, ti127, cf, Tryz.results86]
      rw [hq]

theorem fr_out {r r' : AV} {A B A' : List Box} (hF : FrN r r' (A ++ B) A') (hr : ∀ k, r ≠ .own k) : Outer A A' ∧ A'.take A.length = A := by
  have hg : ∀ k, k < A.length → A'.getD k .dead = A.getD k .dead := fun k hk => by
    rw [hF.2.2 k (by simp; omega) (hr k), Abs.getD_append_left hk]
  have hle : A.length ≤ A'.length := by have := hF.1; simp at this; omega
  refine ⟨⟨hle, fun i hi => .inl (hg i hi)⟩, List.ext_getElem? fun k => ?_⟩
  by_cases hk : k < A.length
  · have := hg k hk
    simp only [List.getD] at this
    have e1 : k < A'.length := by omega
    simp only [List.getElem?_take, hk, if_true]
    simpa [hk, e1] using this
  · simp [List.getElem?_take, hk]

set_option maxRecDepth 100000 in
theorem spec_l4KnownType (s : List ItI) (hs : s.length ≤ 1048576) (v : VT) (hv : okV v = true) (hc : cnt v ≤ 100) (A : List Box) : ACalls Tryz.prog 88 [.slice (iEs s), .agg (enc (toTy v))] A (fun r A' => r = .bool (allV (kT s) v) ∧ A' = A) := by
  have hall := nmsV_all (kT s) v []
  simp only [List.all_nil, Bool.true_and] at hall
  have hlen := nmsV_len v []
  simp only [List.length_nil, Nat.zero_add] at hlen
  refine acalls_enter (cf := cf 31 [0, 1, 3, 4, 5, 6, 12, 30]) foll Tryz.func88 Tryz.ntmps88 (by simp [cf]) ?_
  simp only [Tryz.f88, EnterK_some, zW, zX, zD, builtinA, isLeaf, const1, ustrA, simprocAttr, ti3, ti9, ti49, ti51, ca86, ca114, cf, Tryz.results88]
  simp only [zW, zX, zD, builtinA, isLeaf, const1, ustrA, simprocAttr, ti3, ti9, ti49, ti51, ca86, ca114, cf, Tryz.results88, enc_length, enc_take]
  refine callO_intro (namesT v _ [] .nils hv (by simp; omega) (fun p hp => by simp at hp) (.inl ⟨rfl, rfl⟩)) ?_
  rintro r A' ⟨hO, hF⟩
  have hgo := fr_out hF (fun k h => nomatch h)
  rw [← hall]
  rcases hO with ⟨rfl, hns⟩ | ⟨j, rfl, hj, hA⟩
  · rw [hns]
    simp only [zW, zX, zD, builtinA, isLeaf, const1, ustrA, simprocAttr, ti3, ti9, ti49, ti51, ca86, ca114, cf, Tryz.results88]
    refine aloop_intro [0, 5, 6] (fun e B => e = [(0, .slice (iEs s)), (5, .nils), (6, .int .i64 0)] ∧ B = A') (fun e _ => 0) ?_ ?_
    · simp only [zW, zX, zD, builtinA, isLeaf, const1, ustrA, simprocAttr, ti3, ti9, ti49, ti51, ca86, ca114, cf, Tryz.results88]
    · rintro e B ⟨rfl, rfl⟩
      simp only [zW, zX, zD, builtinA, isLeaf, const1, ustrA, simprocAttr, ti3, ti9, ti49, ti51, ca86, ca114, cf, Tryz.results88]
      exact hgo
  · generalize hns : nmsV [] v = ns at *
    simp only [zW, zX, zD, builtinA, isLeaf, const1, ustrA, simprocAttr, ti3, ti9, ti49, ti51, ca86, ca114, cf, Tryz.results88]
    refine aloop_intro [0, 5, 6] (fun e B => ∃ i, i ≤ ns.length ∧ (ns.take i).all (kT s) = true ∧ e = [(0, .slice (iEs s)), (5, .own j), (6, .int .i64 (i : Nat))] ∧ B = A') (fun e _ => ns.length - (intOf (Abs.look 6 e)).toNat) ?_ ?_
    · simp only [zW, zX, zD, builtinA, isLeaf, const1, ustrA, simprocAttr, ti3, ti9, ti49, ti51, ca86, ca114, cf, Tryz.results88]
      exact ⟨0, by omega, by simp, rfl⟩
    · rintro e B ⟨i, hi, hq, rfl, rfl⟩
      simp only [zW, zX, zD, builtinA, isLeaf, const1, ustrA, simprocAttr, ti3, ti9, ti49, ti51, ca86, ca114, cf, Tryz.results88, hA, nrows_length]
      refine condK_intro (fun h2 => ?_) (fun h2 => ?_)
      · have hi2 : i < ns.length := by simp at h2; omega
        have hg := nrows_getD hi2
        have htk : ns.take (i + 1) = ns.take i ++ [ns.getD i ([], [])] := by rw [List.take_add_one]; simp [List.getD, hi2]
        have hi1 : IntKind.i64.wrap ((i : Int) + 1) = ((i + 1 : Nat) : Int) := by rw [wrap64 (by omega) (by omega)]; rfl
        have hno : kT s (ns.getD i ([], [])) = false → ns.all (kT s) = false := fun hk => by
          rw [List.all_eq_false]
          exact ⟨ns.getD i ([], []), by simp [List.getD, hi2], by rw [hk]; decide⟩
        have hkp : kT s (ns.getD i ([], [])) = (!decide ((ns.getD i ([], [])).1 = []) || hasD s 1 (ns.getD i ([], [])).2) := rfl
        generalize hp : ns.getD i ([], []) = p at *
        have pi : (0 : Int) ≤ (i : Int) ∧ (i : Int) < (ns.length : Int) := ⟨by omega, by omega⟩
        have next : kT s p = true → (∃ i', i' ≤ ns.length ∧ (ns.take i').all (kT s) = true ∧ [(0, AV.slice (iEs s)), (5, AV.own j), (6, AV.int .i64 ((i + 1 : Nat) : Int))] = [(0, .slice (iEs s)), (5, .own j), (6, .int .i64 (i' : Nat))]) := fun hk => ⟨i + 1, by omega, by rw [htk]; simp [hq, hk], rfl⟩
        by_cases hm : p.1 = []
        · rw [decide_eq_true hm, Bool.not_true, Bool.false_or] at hkp
          simp only [zW, zX, zD, builtinA, isLeaf, const1, ustrA, simprocAttr, ti3, ti9, ti49, ti51, ca86, ca114, cf, Tryz.results88, decide_eq_true hm, hA, hg, nrows_length]
          refine ⟨pi, pi, ?_⟩
          refine callK_intro (by simp only [zW, zX, zD, builtinA, isLeaf, const1, ustrA, simprocAttr, Option.map_some]; rfl) (spec_l4Before s hs 1 p.2 _) ?_ rfl; rintro v A' ⟨rfl, rfl⟩
          rw [← hkp]
          cases hk : kT s p with
          | true =>
            simp only [zW, zX, zD, builtinA, isLeaf, const1, ustrA, simprocAttr, ti3, ti9, ti49, ti51, ca86, ca114, cf, Tryz.results88, hi1, LoopK_eq]
            refine ⟨next hk, ?_⟩
            simp only [intOf]; omega
          | false =>
            simp only [zW, zX, zD, builtinA, isLeaf, const1, ustrA, simprocAttr, ti3, ti9, ti49, ti51, ca86, ca114, cf, Tryz.results88]
            rw [hno hk]
            exact ⟨hgo.1, rfl, hgo.2⟩
        · rw [decide_eq_false hm, Bool.not_false, Bool.true_or] at hkp
          simp only [zW, zX, zD, builtinA, isLeaf, const1, ustrA, simprocAttr, ti3, ti9, ti49, ti51, ca86, ca114, cf, Tryz.results88, decide_eq_false hm, hA, hg, nrows_length, hi1, LoopK_eq]
          refine ⟨pi, next hkp, ?_⟩
          simp only [intOf]; omega
      · have hi2 : i = ns.length := by simp at h2; omega
        subst hi2
        rw [List.take_length] at hq
        simp only [zW, zX, zD, builtinA, isLeaf, const1, ustrA, simprocAttr, ti3, ti9, ti49, ti51, ca86, ca114, cf, Tryz.results88]
        exact ⟨hgo.1, by rw [hq], hgo.2⟩
end Go.Proofs.YtebgneaehhaclaaGreat
