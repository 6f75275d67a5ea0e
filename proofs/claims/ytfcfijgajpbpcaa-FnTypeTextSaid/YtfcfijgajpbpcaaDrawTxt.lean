/- The drawn texts of types. -/
import Derived.Test.YtfcfijgajpbpcaaDrawAll
import Derived.Test.YtfcfijgajpbpcaaFmtP
import Derived.Test.YtfcfijgajpbpcaaAbsW3
set_option linter.unusedVariables false
set_option linter.unusedSimpArgs false
namespace Go.Proofs.Ytfcfijgajpbpcaa
open Go.Abs Go.RowKit Go.ChangeShapes Go.WideShapes Go.ChangeAt Go.ChangeMaps

theorem t_set0 {A : List Box} {i : Nat} {X : Box} (hi : i < A.length) (h : A.getD i .dead = X) : A.set i X = A := by
  subst h
  apply List.ext_getElem (by simp)
  intro k h1 h2
  by_cases e : i = k
  · subst e; simp [List.getD, h2]
  · rw [List.getElem_set_ne e]
def I1 (A : List Box) : Prop := True ∧ True
set_option maxRecDepth 100000 in
set_option maxHeartbeats 4000000 in
theorem spec_l1Bend (bs : List UInt8) (p : Nat) (s : List UInt8) (hs : s.length ≤ 1000) (l : List (List UInt8)) (hl : 0 < l.length ∧ l.length < 1000) (hl2 : ∀ x ∈ l, x.length ≤ 10) (i : Nat) (A : List Box) (hi : i < A.length) (hA : A.getD i .dead = Rd bs p) (hp : p < 2 ^ 37) :
    ACalls Try.prog 24 [.ptr i 0, .str s, .slice (l.map fun s => [.str s])] A (fun r A' => ∃ t p', r = .str t ∧ t.length ≤ s.length + 10 ∧ p ≤ p' ∧ p' ≤ p + 4 ∧ A' = A.set i (Rd bs p')) := by
  have hgA : ∀ X (B : List Box), (A.set i X ++ B).getD i .dead = X := fun X B => by rw [getD_app1 _ _ _ _ (by simpa using hi), getD_set1 hi]
  refine acalls_enter (cf := cf 35 [0, 1, 2, 6, 7, 15]) foll Try.func24 Try.ntmps24 (by simp [cf]) ?_
  simp only [Try.f24, EnterK_some, zW, zX, zD, builtinA, isLeaf, const1, Nat.reduceAdd, Nat.reduceMul, Nat.reduceSub, Nat.reduceLT, Nat.reduceLeDiff, Nat.reduceEqDiff, Nat.reduceBEq, Nat.reduceBNe, reduceIte, reduceCtorEq, Int.reduceToNat, Int.reduceLT, Int.reduceLE, Int.reduceEq, Int.reduceNe, Int.reduceNeg, ustrA, ti3, ti9, ca38, ca39, cf, Try.results24]
  by_cases hs0 : s = []
  · subst hs0
    have e1 : decide (((0 : Nat) : Int) = 0) = true := rfl
    simp only [zW, zX, zD, builtinA, isLeaf, const1, Nat.reduceAdd, Nat.reduceMul, Nat.reduceSub, Nat.reduceLT, Nat.reduceLeDiff, Nat.reduceEqDiff, Nat.reduceBEq, Nat.reduceBNe, reduceIte, reduceCtorEq, Int.reduceToNat, Int.reduceLT, Int.reduceLE, Int.reduceEq, Int.reduceNe, Int.reduceNeg, ustrA, ti3, ti9, ca38, ca39, cf, Try.results24, e1]
    exact ⟨[], p, rfl, by simp, by omega, by omega, (t_set0 hi hA).symm⟩
  · have hpos : 0 < s.length := List.length_pos_iff.2 hs0
    have e1 : decide ((s.length : Int) = 0) = false := decide_eq_false (by omega)
    simp only [zW, zX, zD, builtinA, isLeaf, const1, Nat.reduceAdd, Nat.reduceMul, Nat.reduceSub, Nat.reduceLT, Nat.reduceLeDiff, Nat.reduceEqDiff, Nat.reduceBEq, Nat.reduceBNe, reduceIte, reduceCtorEq, Int.reduceToNat, Int.reduceLT, Int.reduceLE, Int.reduceEq, Int.reduceNe, Int.reduceNeg, ustrA, ti3, ti9, ca38, ca39, cf, Try.results24, e1]
    refine callK_intro rfl (spec_pick bs p 2 i A hi hA (by omega) (by omega)) ?_ rfl
    rintro _ _ ⟨j1, rfl, h0, h1, rfl⟩
    simp only [zW, zX, zD, builtinA, isLeaf, const1, Nat.reduceAdd, Nat.reduceMul, Nat.reduceSub, Nat.reduceLT, Nat.reduceLeDiff, Nat.reduceEqDiff, Nat.reduceBEq, Nat.reduceBNe, reduceIte, reduceCtorEq, Int.reduceToNat, Int.reduceLT, Int.reduceLE, Int.reduceEq, Int.reduceNe, Int.reduceNeg, ustrA, ti3, ti9, ca38, ca39, cf, Try.results24, hi]
    by_cases hj1 : j1 = 0
    · simp only [zW, zX, zD, builtinA, isLeaf, const1, Nat.reduceAdd, Nat.reduceMul, Nat.reduceSub, Nat.reduceLT, Nat.reduceLeDiff, Nat.reduceEqDiff, Nat.reduceBEq, Nat.reduceBNe, reduceIte, reduceCtorEq, Int.reduceToNat, Int.reduceLT, Int.reduceLE, Int.reduceEq, Int.reduceNe, Int.reduceNeg, ustrA, ti3, ti9, ca38, ca39, cf, Try.results24, decide_eq_true hj1]
      exact ⟨outer_set0 A i _ (rd_closed _ _ _), s, p + 1, rfl, by omega, by omega, by omega, rfl⟩
    · simp only [zW, zX, zD, builtinA, isLeaf, const1, Nat.reduceAdd, Nat.reduceMul, Nat.reduceSub, Nat.reduceLT, Nat.reduceLeDiff, Nat.reduceEqDiff, Nat.reduceBEq, Nat.reduceBNe, reduceIte, reduceCtorEq, Int.reduceToNat, Int.reduceLT, Int.reduceLE, Int.reduceEq, Int.reduceNe, Int.reduceNeg, ustrA, ti3, ti9, ca38, ca39, cf, Try.results24, decide_eq_false hj1]
      refine callK_intro rfl (spec_pick bs (p + 1) s.length i _ (by simpa using hi) (getD_set1 hi) (by omega) (by omega)) ?_ rfl
      rintro _ _ ⟨j2, rfl, g0, g1, rfl⟩
      obtain ⟨k, rfl⟩ := Int.eq_ofNat_of_zero_le g0
      have hk : k < s.length := by have := g1 (by omega); omega
      simp only [zW, zX, zD, builtinA, isLeaf, const1, Nat.reduceAdd, Nat.reduceMul, Nat.reduceSub, Nat.reduceLT, Nat.reduceLeDiff, Nat.reduceEqDiff, Nat.reduceBEq, Nat.reduceBNe, reduceIte, reduceCtorEq, Int.reduceToNat, Int.reduceLT, Int.reduceLE, Int.reduceEq, Int.reduceNe, Int.reduceNeg, ustrA, ti3, ti9, ca38, ca39, cf, Try.results24, hi]
      refine .inr (drawI_intro (.pur 0 (.pur 1 (.pur 2 (.pur 3 (.pur 4 (.pur 7 (.pur 8 (.pur 9 (.or 5 (.pur 6 (.or 10 (.pur 11 (.pur 12 (.pur 13 (.pur 14 .done)))) .stop)) .stop))))))))) (I1) (by kernel_rfl) ?_ ?_)
      · exact ⟨trivial, trivial⟩
      iterate 8 (refine wpI_pur_intro (v := ?_) _ rfl rfl (by decide) rfl (fun A' hI => ?_) ?_; rotate_left 1; (simp only [zW, zX, zD, builtinA, isLeaf, const1, Nat.reduceAdd, Nat.reduceMul, Nat.reduceSub, Nat.reduceLT, Nat.reduceLeDiff, Nat.reduceEqDiff, Nat.reduceBEq, Nat.reduceBNe, reduceIte, reduceCtorEq, Int.reduceToNat, Int.reduceLT, Int.reduceLE, Int.reduceEq, Int.reduceNe, Int.reduceNeg, ustrA, ti3, ti9, ca38, ca39, cf, Try.results24, hI.1, hI.2]; first | exact rfl | exact ⟨rfl, rfl⟩ | (refine ⟨by omega, ?_⟩; exact rfl) | (refine ⟨⟨by omega, by omega⟩, ?_⟩; exact rfl)))
      simp only [zW, zX, zD, builtinA, isLeaf, const1, Nat.reduceAdd, Nat.reduceMul, Nat.reduceSub, Nat.reduceLT, Nat.reduceLeDiff, Nat.reduceEqDiff, Nat.reduceBEq, Nat.reduceBNe, reduceIte, reduceCtorEq, Int.reduceToNat, Int.reduceLT, Int.reduceLE, Int.reduceEq, Int.reduceNe, Int.reduceNeg, ustrA, ti3, ti9, ca38, ca39, cf, Try.results24, wpI_or_eq, wpI_stop_eq, wpI_done_eq]
      refine callK_intro rfl (spec_of bs (p + 1 + 1) l i _ (by simpa using hi) (getD_set1 hi) (by omega) hl) ?_ rfl
      rintro _ _ ⟨x, rfl, hx, rfl⟩
      have hxl := hl2 x hx
      have t1 : (s.take k).length ≤ 1000 := by rw [List.length_take]; omega
      simp only [zW, zX, zD, builtinA, isLeaf, const1, Nat.reduceAdd, Nat.reduceMul, Nat.reduceSub, Nat.reduceLT, Nat.reduceLeDiff, Nat.reduceEqDiff, Nat.reduceBEq, Nat.reduceBNe, reduceIte, reduceCtorEq, Int.reduceToNat, Int.reduceLT, Int.reduceLE, Int.reduceEq, Int.reduceNe, Int.reduceNeg, ustrA, ti3, ti9, ca38, ca39, cf, Try.results24, hi]
      refine ⟨⟨trivial, trivial⟩, ?_⟩
      (refine wpI_pur_intro (v := ?_) _ rfl rfl (by decide) rfl (fun A' hI => ?_) ?_; rotate_left 1; (simp only [zW, zX, zD, builtinA, isLeaf, const1, Nat.reduceAdd, Nat.reduceMul, Nat.reduceSub, Nat.reduceLT, Nat.reduceLeDiff, Nat.reduceEqDiff, Nat.reduceBEq, Nat.reduceBNe, reduceIte, reduceCtorEq, Int.reduceToNat, Int.reduceLT, Int.reduceLE, Int.reduceEq, Int.reduceNe, Int.reduceNeg, ustrA, ti3, ti9, ca38, ca39, cf, Try.results24, hI.1, hI.2]; first | exact rfl | exact ⟨rfl, rfl⟩ | (refine ⟨by omega, ?_⟩; exact rfl) | (refine ⟨⟨by omega, by omega⟩, ?_⟩; exact rfl)))
      simp only [zW, zX, zD, builtinA, isLeaf, const1, Nat.reduceAdd, Nat.reduceMul, Nat.reduceSub, Nat.reduceLT, Nat.reduceLeDiff, Nat.reduceEqDiff, Nat.reduceBEq, Nat.reduceBNe, reduceIte, reduceCtorEq, Int.reduceToNat, Int.reduceLT, Int.reduceLE, Int.reduceEq, Int.reduceNe, Int.reduceNeg, ustrA, ti3, ti9, ca38, ca39, cf, Try.results24, wpI_or_eq, wpI_stop_eq, wpI_done_eq]
      refine callK_intro rfl (spec_pick bs (p + 1 + 1 + 1) 2 i _ (by simpa using hi) (getD_set1 hi) (by omega) (by omega)) ?_ rfl
      rintro _ _ ⟨j3, rfl, q0, q1, rfl⟩
      obtain ⟨m, rfl⟩ := Int.eq_ofNat_of_zero_le q0
      have hm : m < 2 := by have := q1 (by omega); omega
      have t2 : (s.drop (k + m)).length + (s.take k).length ≤ s.length := by rw [List.length_take, List.length_drop]; omega
      have hw : IntKind.i64.wrap ((k : Int) + m) = ((k + m : Nat) : Int) := by rw [wrap64 (by omega) (by omega)]; rfl
      simp only [zW, zX, zD, builtinA, isLeaf, const1, Nat.reduceAdd, Nat.reduceMul, Nat.reduceSub, Nat.reduceLT, Nat.reduceLeDiff, Nat.reduceEqDiff, Nat.reduceBEq, Nat.reduceBNe, reduceIte, reduceCtorEq, Int.reduceToNat, Int.reduceLT, Int.reduceLE, Int.reduceEq, Int.reduceNe, Int.reduceNeg, ustrA, ti3, ti9, ca38, ca39, cf, Try.results24, hi]
      refine ⟨⟨trivial, trivial⟩, ?_⟩
      iterate 4 (refine wpI_pur_intro (v := ?_) _ rfl rfl (by decide) rfl (fun A' hI => ?_) ?_; rotate_left 1; (simp only [zW, zX, zD, builtinA, isLeaf, const1, Nat.reduceAdd, Nat.reduceMul, Nat.reduceSub, Nat.reduceLT, Nat.reduceLeDiff, Nat.reduceEqDiff, Nat.reduceBEq, Nat.reduceBNe, reduceIte, reduceCtorEq, Int.reduceToNat, Int.reduceLT, Int.reduceLE, Int.reduceEq, Int.reduceNe, Int.reduceNeg, ustrA, ti3, ti9, ca38, ca39, cf, Try.results24, hI.1, hI.2, hw]; first | exact rfl | exact ⟨rfl, rfl⟩ | (refine ⟨by omega, ?_⟩; exact rfl) | (refine ⟨⟨by omega, by omega⟩, ?_⟩; exact rfl)))
      simp only [zW, zX, zD, builtinA, isLeaf, const1, Nat.reduceAdd, Nat.reduceMul, Nat.reduceSub, Nat.reduceLT, Nat.reduceLeDiff, Nat.reduceEqDiff, Nat.reduceBEq, Nat.reduceBNe, reduceIte, reduceCtorEq, Int.reduceToNat, Int.reduceLT, Int.reduceLE, Int.reduceEq, Int.reduceNe, Int.reduceNeg, ustrA, ti3, ti9, ca38, ca39, cf, Try.results24, wpI_done_eq]
      exact ⟨outer_set0 A i _ (rd_closed _ _ _), _, p + 1 + 1 + 1 + 1, rfl, by simp only [List.length_append]; omega, by omega, by omega, rfl⟩

set_option maxRecDepth 100000 in
theorem spec_DrawFormatType (bs : List UInt8) (A : List Box) : ACalls Try.prog 4 [.aslice (byteRows bs)] A (fun r A' => ∃ τ, r = .agg (enc τ) ∧ sz τ ≤ 50 ∧ A' = A) := by
  refine acalls_enter (cf := cf 5 [0, 2]) foll Try.func4 Try.ntmps4 (by simp [cf]) ?_
  simp only [Try.f4, EnterK_some, zW, zX, zD, builtinA, isLeaf, const1, Nat.reduceAdd, Nat.reduceMul, Nat.reduceSub, Nat.reduceLT, Nat.reduceLeDiff, Nat.reduceEqDiff, Nat.reduceBEq, Nat.reduceBNe, reduceIte, reduceCtorEq, Int.reduceToNat, Int.reduceLT, Int.reduceLE, Int.reduceEq, Int.reduceNe, Int.reduceNeg, ustrA, ti25, ca13, cf, Try.results4]
  refine callK_intro (by simp only [zW, zX, zD, builtinA, isLeaf, const1, Nat.reduceAdd, Nat.reduceMul, Nat.reduceSub, Nat.reduceLT, Nat.reduceLeDiff, Nat.reduceEqDiff, Nat.reduceBEq, Nat.reduceBNe, reduceIte, reduceCtorEq, Int.reduceToNat, Int.reduceLT, Int.reduceLE, Int.reduceEq, Int.reduceNe, Int.reduceNeg, ustrA]; rfl) (spec_DrawTypeValid bs _) ?_ rfl
  rintro v A' ⟨τ, rfl, hs, rfl⟩
  simp only [zW, zX, zD, builtinA, isLeaf, const1, Nat.reduceAdd, Nat.reduceMul, Nat.reduceSub, Nat.reduceLT, Nat.reduceLeDiff, Nat.reduceEqDiff, Nat.reduceBEq, Nat.reduceBNe, reduceIte, reduceCtorEq, Int.reduceToNat, Int.reduceLT, Int.reduceLE, Int.reduceEq, Int.reduceNe, Int.reduceNeg, ustrA, ti25, ca13, cf, Try.results4, enc_length, enc_take, enc_drop, frzL_enc, enc_closed, Option.map_some]
  exact ⟨τ, rfl, hs⟩

set_option maxRecDepth 100000 in
theorem spec_DrawParseType (bs : List UInt8) (A : List Box) : ACalls Try.prog 11 [.aslice (byteRows bs)] A (fun r A' => ∃ s, r = .str s ∧ s.length ≤ 1000 ∧ A' = A) := by
  refine acalls_enter (cf := cf 12 [0, 2, 3]) foll Try.func11 Try.ntmps11 (by simp [cf]) ?_
  simp only [Try.f11, EnterK_some, zW, zX, zD, builtinA, isLeaf, const1, Nat.reduceAdd, Nat.reduceMul, Nat.reduceSub, Nat.reduceLT, Nat.reduceLeDiff, Nat.reduceEqDiff, Nat.reduceBEq, Nat.reduceBNe, reduceIte, reduceCtorEq, Int.reduceToNat, Int.reduceLT, Int.reduceLE, Int.reduceEq, Int.reduceNe, Int.reduceNeg, ustrA, ti9, ti55, ca18, ca23, ca24, ca25, cf, Try.results11]
  refine callK_intro (by simp only [zW, zX, zD, builtinA, isLeaf, const1, Nat.reduceAdd, Nat.reduceMul, Nat.reduceSub, Nat.reduceLT, Nat.reduceLeDiff, Nat.reduceEqDiff, Nat.reduceBEq, Nat.reduceBNe, reduceIte, reduceCtorEq, Int.reduceToNat, Int.reduceLT, Int.reduceLE, Int.reduceEq, Int.reduceNe, Int.reduceNeg, ustrA]; rfl) (spec_l17Open bs _) ?_ rfl
  rintro v A' ⟨bs', hb, rfl, rfl⟩
  simp only [zW, zX, zD, builtinA, isLeaf, const1, Nat.reduceAdd, Nat.reduceMul, Nat.reduceSub, Nat.reduceLT, Nat.reduceLeDiff, Nat.reduceEqDiff, Nat.reduceBEq, Nat.reduceBNe, reduceIte, reduceCtorEq, Int.reduceToNat, Int.reduceLT, Int.reduceLE, Int.reduceEq, Int.reduceNe, Int.reduceNeg, ustrA, ti9, ti55, ca18, ca23, ca24, ca25, cf, Try.results11]
  refine callK_intro rfl (spec_l1Some bs' 0 A.length _ (by simp) (by simp [List.getD]) (by omega)) ?_ rfl
  rintro v A' ⟨v, p', rfl, hv, hd, hp1, hp2, rfl⟩
  have hc4 := cnt_lt hd
  simp only [zW, zX, zD, builtinA, isLeaf, const1, Nat.reduceAdd, Nat.reduceMul, Nat.reduceSub, Nat.reduceLT, Nat.reduceLeDiff, Nat.reduceEqDiff, Nat.reduceBEq, Nat.reduceBNe, reduceIte, reduceCtorEq, Int.reduceToNat, Int.reduceLT, Int.reduceLE, Int.reduceEq, Int.reduceNe, Int.reduceNeg, ustrA, ti9, ti55, ca18, ca23, ca24, ca25, cf, Try.results11, enc_length, enc_take, enc_drop, frzL_enc, enc_closed, Option.map_some]
  refine callK_intro (by simp only [zW, zX, zD, builtinA, isLeaf, const1, Nat.reduceAdd, Nat.reduceMul, Nat.reduceSub, Nat.reduceLT, Nat.reduceLeDiff, Nat.reduceEqDiff, Nat.reduceBEq, Nat.reduceBNe, reduceIte, reduceCtorEq, Int.reduceToNat, Int.reduceLT, Int.reduceLE, Int.reduceEq, Int.reduceNe, Int.reduceNeg, ustrA, enc_length, enc_take, enc_drop, frzL_enc, enc_closed, Option.map_some]; rfl) (spec_l1Text v _ hv (by omega)) ?_ rfl
  rintro _ _ ⟨rfl, rfl⟩
  simp only [zW, zX, zD, builtinA, isLeaf, const1, Nat.reduceAdd, Nat.reduceMul, Nat.reduceSub, Nat.reduceLT, Nat.reduceLeDiff, Nat.reduceEqDiff, Nat.reduceBEq, Nat.reduceBNe, reduceIte, reduceCtorEq, Int.reduceToNat, Int.reduceLT, Int.reduceLE, Int.reduceEq, Int.reduceNe, Int.reduceNeg, ustrA, ti9, ti55, ca18, ca23, ca24, ca25, cf, Try.results11]
  refine ⟨by simp [isLeaf], ?_⟩
  refine callK_intro (by simp only [zW, zX, zD, builtinA, isLeaf, const1, Nat.reduceAdd, Nat.reduceMul, Nat.reduceSub, Nat.reduceLT, Nat.reduceLeDiff, Nat.reduceEqDiff, Nat.reduceBEq, Nat.reduceBNe, reduceIte, reduceCtorEq, Int.reduceToNat, Int.reduceLT, Int.reduceLE, Int.reduceEq, Int.reduceNe, Int.reduceNeg, ustrA]; rfl) (spec_l1Bend bs' p' (txt v) (by have := txt_len v hv; omega) [[], [73], [40], [41], [62], [116], [65, 46], [46]] (by simp) (by simp) A.length _ (by simp) (by simp [List.getD]) (by omega)) ?_ rfl
  rintro _ _ ⟨s, p2, rfl, hs, _, _, rfl⟩
  simp only [zW, zX, zD, builtinA, isLeaf, const1, Nat.reduceAdd, Nat.reduceMul, Nat.reduceSub, Nat.reduceLT, Nat.reduceLeDiff, Nat.reduceEqDiff, Nat.reduceBEq, Nat.reduceBNe, reduceIte, reduceCtorEq, Int.reduceToNat, Int.reduceLT, Int.reduceLE, Int.reduceEq, Int.reduceNe, Int.reduceNeg, ustrA, ti9, ti55, ca18, ca23, ca24, ca25, cf, Try.results11]
  exact ⟨s, rfl, by have := txt_len v hv; omega⟩
end Go.Proofs.Ytfcfijgajpbpcaa
