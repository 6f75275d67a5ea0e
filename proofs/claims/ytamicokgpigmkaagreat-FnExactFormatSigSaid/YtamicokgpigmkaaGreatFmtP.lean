/- The model's texts of types. -/
import Derived.Test.YtamicokgpigmkaaGreatTxt
import Derived.Test.YtamicokgpigmkaaGreatAbsW3
set_option linter.unusedVariables false
set_option linter.unusedSimpArgs false
namespace Go.Proofs.YtamicokgpigmkaaGreat
open Go.Abs

set_option maxRecDepth 100000 in
theorem spec_l1Path (m n : List UInt8) (hm : m.length ≤ 1000) (hn : n.length ≤ 1000) (A : List Box) : ACalls Tryz.prog 111 [.str m, .str n] A (fun r A' => r = .str (path m n) ∧ A' = A) := by
  refine acalls_enter (cf := cf 12 [0, 1, 4, 6]) foll Tryz.func111 Tryz.ntmps111 (by simp [cf]) ?_
  simp only [Tryz.f111, EnterK_some, zW, zX, zD, builtinA, isLeaf, const1, Nat.reduceAdd, Nat.reduceMul, Nat.reduceSub, Nat.reduceLT, Nat.reduceLeDiff, Nat.reduceEqDiff, Nat.reduceBEq, Nat.reduceBNe, reduceIte, reduceCtorEq, Int.reduceToNat, Int.reduceLT, Int.reduceLE, Int.reduceEq, Int.reduceNe, Int.reduceNeg, ustrA, ti9, cf, Tryz.results111]
  by_cases h : m = []
  · simp only [zW, zX, zD, builtinA, isLeaf, const1, Nat.reduceAdd, Nat.reduceMul, Nat.reduceSub, Nat.reduceLT, Nat.reduceLeDiff, Nat.reduceEqDiff, Nat.reduceBEq, Nat.reduceBNe, reduceIte, reduceCtorEq, Int.reduceToNat, Int.reduceLT, Int.reduceLE, Int.reduceEq, Int.reduceNe, Int.reduceNeg, ustrA, ti9, cf, Tryz.results111, decide_eq_true h]
    simp [path, h]
  · simp only [zW, zX, zD, builtinA, isLeaf, const1, Nat.reduceAdd, Nat.reduceMul, Nat.reduceSub, Nat.reduceLT, Nat.reduceLeDiff, Nat.reduceEqDiff, Nat.reduceBEq, Nat.reduceBNe, reduceIte, reduceCtorEq, Int.reduceToNat, Int.reduceLT, Int.reduceLE, Int.reduceEq, Int.reduceNe, Int.reduceNeg, ustrA, ti9, cf, Tryz.results111, decide_eq_false h]
    simp [path, h]
    omega

set_option maxRecDepth 100000 in
theorem spec_l1Text : ∀ (v : VT) (A : List Box), okV v = true → cnt v ≤ 1000 → ACalls Tryz.prog 94 [.agg (enc (toTy v))] A (fun r A' => r = .str (txt v) ∧ A' = A)
  | .num, A, hv, hc => by
    rw [toTy, enc]
    refine acalls_enter (cf := cf 28 [0, 1, 2, 4, 5, 7]) foll Tryz.func94 Tryz.ntmps94 (by simp [cf]) ?_
    simp only [Tryz.f94, EnterK_some, zW, zX, zD, builtinA, isLeaf, const1, Nat.reduceAdd, Nat.reduceMul, Nat.reduceSub, Nat.reduceLT, Nat.reduceLeDiff, Nat.reduceEqDiff, Nat.reduceBEq, Nat.reduceBNe, reduceIte, reduceCtorEq, Int.reduceToNat, Int.reduceLT, Int.reduceLE, Int.reduceEq, Int.reduceNe, Int.reduceNeg, ustrA, ti3, ti9, ti37, ti39, ca94, ca111, cf, Tryz.results94]
    simp [txt]
  | .nm m n, A, hv, hc => by
    have hl := nm_len hv
    rw [toTy, enc]
    refine acalls_enter (cf := cf 28 [0, 1, 2, 4, 5, 7]) foll Tryz.func94 Tryz.ntmps94 (by simp [cf]) ?_
    simp only [Tryz.f94, EnterK_some, zW, zX, zD, builtinA, isLeaf, const1, Nat.reduceAdd, Nat.reduceMul, Nat.reduceSub, Nat.reduceLT, Nat.reduceLeDiff, Nat.reduceEqDiff, Nat.reduceBEq, Nat.reduceBNe, reduceIte, reduceCtorEq, Int.reduceToNat, Int.reduceLT, Int.reduceLE, Int.reduceEq, Int.reduceNe, Int.reduceNeg, ustrA, ti3, ti9, ti37, ti39, ca94, ca111, cf, Tryz.results94]
    refine callK_intro (by simp only [zW, zX, zD, builtinA, isLeaf, const1, Nat.reduceAdd, Nat.reduceMul, Nat.reduceSub, Nat.reduceLT, Nat.reduceLeDiff, Nat.reduceEqDiff, Nat.reduceBEq, Nat.reduceBNe, reduceIte, reduceCtorEq, Int.reduceToNat, Int.reduceLT, Int.reduceLE, Int.reduceEq, Int.reduceNe, Int.reduceNeg, ustrA] <;> rfl) (spec_l1Path m n (by omega) (by omega) _) ?_ rfl
    rintro r A' ⟨rfl, rfl⟩
    simp only [zW, zX, zD, builtinA, isLeaf, const1, Nat.reduceAdd, Nat.reduceMul, Nat.reduceSub, Nat.reduceLT, Nat.reduceLeDiff, Nat.reduceEqDiff, Nat.reduceBEq, Nat.reduceBNe, reduceIte, reduceCtorEq, Int.reduceToNat, Int.reduceLT, Int.reduceLE, Int.reduceEq, Int.reduceNe, Int.reduceNeg, ustrA, ti3, ti9, ti37, ti39, ca94, ca111, cf, Tryz.results94]
    simp [txt]
  | .fn a b, A, hv, hc => by
    simp [okV] at hv
    simp [cnt] at hc
    have ha := spec_l1Text a
    have hb := spec_l1Text b
    have la := txt_len a hv.1
    have lb := txt_len b hv.2
    rw [toTy, enc]
    simp only [encs]
    refine acalls_enter (cf := cf 28 [0, 1, 2, 4, 5, 7]) foll Tryz.func94 Tryz.ntmps94 (by simp [cf]) ?_
    simp only [Tryz.f94, EnterK_some, zW, zX, zD, builtinA, isLeaf, const1, Nat.reduceAdd, Nat.reduceMul, Nat.reduceSub, Nat.reduceLT, Nat.reduceLeDiff, Nat.reduceEqDiff, Nat.reduceBEq, Nat.reduceBNe, reduceIte, reduceCtorEq, Int.reduceToNat, Int.reduceLT, Int.reduceLE, Int.reduceEq, Int.reduceNe, Int.reduceNeg, ustrA, ti3, ti9, ti37, ti39, ca94, ca111, cf, Tryz.results94]
    refine .inl ⟨by kernel_rfl, by kernel_rfl, ?_⟩
    simp only [zW, zX, zD, builtinA, isLeaf, const1, Nat.reduceAdd, Nat.reduceMul, Nat.reduceSub, Nat.reduceLT, Nat.reduceLeDiff, Nat.reduceEqDiff, Nat.reduceBEq, Nat.reduceBNe, reduceIte, reduceCtorEq, Int.reduceToNat, Int.reduceLT, Int.reduceLE, Int.reduceEq, Int.reduceNe, Int.reduceNeg, ustrA, ti3, ti9, ti37, ti39, ca94, ca111, cf, Tryz.results94, enc_length, enc_take]
    refine ⟨by decide, ?_⟩
    refine callD_intro (by simp only [zW, zX, zD, builtinA, isLeaf, const1, Nat.reduceAdd, Nat.reduceMul, Nat.reduceSub, Nat.reduceLT, Nat.reduceLeDiff, Nat.reduceEqDiff, Nat.reduceBEq, Nat.reduceBNe, reduceIte, reduceCtorEq, Int.reduceToNat, Int.reduceLT, Int.reduceLE, Int.reduceEq, Int.reduceNe, Int.reduceNeg, ustrA, frzL_enc, Option.map_some] <;> rfl) (ha _ hv.1 (by omega)) ?_ rfl
    simp only [zW, zX, zD, builtinA, isLeaf, const1, Nat.reduceAdd, Nat.reduceMul, Nat.reduceSub, Nat.reduceLT, Nat.reduceLeDiff, Nat.reduceEqDiff, Nat.reduceBEq, Nat.reduceBNe, reduceIte, reduceCtorEq, Int.reduceToNat, Int.reduceLT, Int.reduceLE, Int.reduceEq, Int.reduceNe, Int.reduceNeg, ustrA, ti3, ti9, ti37, ti39, ca94, ca111, cf, Tryz.results94, enc_length, enc_take]
    refine ⟨by omega, by omega, by decide, ?_⟩
    refine callD_intro (by simp only [zW, zX, zD, builtinA, isLeaf, const1, Nat.reduceAdd, Nat.reduceMul, Nat.reduceSub, Nat.reduceLT, Nat.reduceLeDiff, Nat.reduceEqDiff, Nat.reduceBEq, Nat.reduceBNe, reduceIte, reduceCtorEq, Int.reduceToNat, Int.reduceLT, Int.reduceLE, Int.reduceEq, Int.reduceNe, Int.reduceNeg, ustrA, frzL_enc, Option.map_some] <;> rfl) (hb _ hv.2 (by omega)) ?_ rfl
    simp only [zW, zX, zD, builtinA, isLeaf, const1, Nat.reduceAdd, Nat.reduceMul, Nat.reduceSub, Nat.reduceLT, Nat.reduceLeDiff, Nat.reduceEqDiff, Nat.reduceBEq, Nat.reduceBNe, reduceIte, reduceCtorEq, Int.reduceToNat, Int.reduceLT, Int.reduceLE, Int.reduceEq, Int.reduceNe, Int.reduceNeg, ustrA, ti3, ti9, ti37, ti39, ca94, ca111, cf, Tryz.results94]
    simp [txt]
    omega


/-! ### the program's own -/
end Go.Proofs.YtamicokgpigmkaaGreat
