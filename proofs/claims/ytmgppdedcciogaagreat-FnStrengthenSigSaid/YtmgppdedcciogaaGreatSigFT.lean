/- The program's FindType and FindVal. -/
import Derived.Test.YtmgppdedcciogaaGreatSigRdN
import Derived.Test.YtmgppdedcciogaaGreatAbsW3
set_option linter.unusedVariables false
set_option linter.unusedSimpArgs false
namespace Go.Proofs.YtmgppdedcciogaaGreat
open Go.Abs

/-- the answer is stored in one more box and read again -/
theorem subOut_none {A A' : List Box} {b b2 : Box} {r : AV} (h : SubOut (A ++ [b]) none r A') : SubOut A none r (A'.set A.length b2) := by
  obtain ⟨h1, h2, h3⟩ := h
  refine ⟨h1, by simp at h2 ⊢; omega, fun i hi => ?_⟩
  rw [List.getD_eq_getElem?_getD, List.getElem?_set_ne (by omega), ← List.getD_eq_getElem?_getD, h3 i (by simp; omega), Abs.getD_append_left hi]
theorem subOut_some {A A' : List Box} {b b2 : Box} {r : AV} {v : VT} (h : SubOut (A ++ [b]) (some v) r A') : SubOut A (some v) r (A'.set A.length b2) := by
  obtain ⟨cs, S, h1, h2, h3, h4, h5, h6⟩ := h
  refine ⟨cs, S, h1, h2.frame fun i hi => ?_, h3, fun i hi => by have := h4 i hi; simp at this; omega, by simp at h5 ⊢; omega, fun i hi => ?_⟩
  · have := h4 i hi
    simp at this
    rw [List.getD_eq_getElem?_getD, List.getElem?_set_ne (by omega), ← List.getD_eq_getElem?_getD]
  · rw [List.getD_eq_getElem?_getD, List.getElem?_set_ne (by omega), ← List.getD_eq_getElem?_getD, h6 i (by simp; omega), Abs.getD_append_left hi]
theorem subOut_box {A A' : List Box} {b : Box} {r : AV} : ∀ {o : Option VT}, SubOut (A ++ [b]) o r A' → A.length < A'.length ∧ A'.getD A.length .dead = b ∧ ∃ k m n w f, r = .tuple [.agg [.int .i64 k, .str m, .str n, w], .bool f]
  | none, ⟨h1, h2, h3⟩ => ⟨by simp at h2; omega, by rw [h3 _ (by simp)]; simp [List.getD_eq_getElem?_getD], _, _, _, _, _, h1⟩
  | some v, ⟨cs, S, h1, h2, h3, h4, h5, h6⟩ => by
    refine ⟨by simp at h5; omega, by rw [h6 _ (by simp)]; simp [List.getD_eq_getElem?_getD], ?_⟩
    cases ht : toTy v with
    | mk k m n ks =>
      rw [ht] at h2
      obtain ⟨w, rfl, _⟩ := ownT_mk.1 h2
      exact ⟨_, _, _, _, _, h1⟩
theorem subOut_set {A A' : List Box} {b b2 : Box} {r : AV} {o : Option VT} (h : SubOut (A ++ [b]) o r A') : SubOut A o r (A'.set A.length b2) := by
  cases o with
  | none => exact subOut_none h
  | some v => exact subOut_some h

set_option maxRecDepth 100000 in
theorem impl_FindType (s : List SigI) (hs : s.length ≤ 1048576) (ho : ∀ x ∈ s, x.Ok ∧ sz x.typ ≤ 1048576) (n : List UInt8) (A : List Box) : ACalls Tryz.prog 14 [.slice (sEs s), .str n] A (fun r A' => ∃ o, MeanIs s (false, n) o ∧ SubOut A o r A') := by
  have hf := impl_findMeaning s hs ho (false, n)
  simp only [kE] at hf
  refine acalls_enterK (cf := cf 12 [0, 1, 4, 5]) foll Tryz.func14 Tryz.ntmps14 (by simp [cf]) ?_
  simp only [Tryz.f14, EnterK_some, zW, zX, zD, builtinA, isLeaf, const1, ustrA, simprocAttr, ti33, ti72, ca41, cf, Tryz.results14]
  refine callO_intro (hf _) ?_
  rintro r A' ⟨o, hm, ho2⟩
  obtain ⟨hl, hb, k, m, n2, w, f, rfl⟩ := subOut_box ho2
  have hS : ∀ b2, SubOut A o _ (A'.set A.length b2) := fun b2 => subOut_set ho2
  simp only [zW, zX, zD, builtinA, isLeaf, const1, ustrA, simprocAttr, ti33, ti72, ca41, cf, Tryz.results14, hb, hl]
  exact ⟨o, hm, hS _⟩

set_option maxRecDepth 100000 in
theorem impl_FindVal (s : List SigI) (hs : s.length ≤ 1048576) (ho : ∀ x ∈ s, x.Ok ∧ sz x.typ ≤ 1048576) (n : List UInt8) (A : List Box) : ACalls Tryz.prog 20 [.slice (sEs s), .str n] A (fun r A' => ∃ o, MeanIs s (true, n) o ∧ SubOut A o r A') := by
  have hf := impl_findMeaning s hs ho (true, n)
  simp only [kE] at hf
  refine acalls_enterK (cf := cf 12 [0, 1, 4, 5]) foll Tryz.func20 Tryz.ntmps20 (by simp [cf]) ?_
  simp only [Tryz.f20, EnterK_some, zW, zX, zD, builtinA, isLeaf, const1, ustrA, simprocAttr, ti33, ti72, ca41, cf, Tryz.results20]
  refine callO_intro (hf _) ?_
  rintro r A' ⟨o, hm, ho2⟩
  obtain ⟨hl, hb, k, m, n2, w, f, rfl⟩ := subOut_box ho2
  have hS : ∀ b2, SubOut A o _ (A'.set A.length b2) := fun b2 => subOut_set ho2
  simp only [zW, zX, zD, builtinA, isLeaf, const1, ustrA, simprocAttr, ti33, ti72, ca41, cf, Tryz.results20, hb, hl]
  exact ⟨o, hm, hS _⟩
end Go.Proofs.YtmgppdedcciogaaGreat
