/- The model's texts of types. -/
import Derived.Test.YtfcfijgajpbpcaaTxt
import Derived.Test.YtfcfijgajpbpcaaAbsW3
set_option linter.unusedVariables false
set_option linter.unusedSimpArgs false
namespace Go.Proofs.Ytfcfijgajpbpcaa
open Go.Abs

set_option maxRecDepth 100000 in
theorem spec_l1Path (m n : List UInt8) (hm : m.length ≤ 1000) (hn : n.length ≤ 1000) (A : List Box) : ACalls Try.prog 32 [.str m, .str n] A (fun r A' => r = .str (path m n) ∧ A' = A) := by
  refine acalls_enter (cf := cf 12 [0, 1, 4, 6]) foll Try.func32 Try.ntmps32 (by simp [cf]) ?_
  simp only [Try.f32, EnterK_some, zW, zX, zD, builtinA, isLeaf, const1, Nat.reduceAdd, Nat.reduceMul, Nat.reduceSub, Nat.reduceLT, Nat.reduceLeDiff, Nat.reduceEqDiff, Nat.reduceBEq, Nat.reduceBNe, reduceIte, reduceCtorEq, Int.reduceToNat, Int.reduceLT, Int.reduceLE, Int.reduceEq, Int.reduceNe, Int.reduceNeg, ustrA, ti9, cf, Try.results32]
  by_cases h : m = []
  · simp only [zW, zX, zD, builtinA, isLeaf, const1, Nat.reduceAdd, Nat.reduceMul, Nat.reduceSub, Nat.reduceLT, Nat.reduceLeDiff, Nat.reduceEqDiff, Nat.reduceBEq, Nat.reduceBNe, reduceIte, reduceCtorEq, Int.reduceToNat, Int.reduceLT, Int.reduceLE, Int.reduceEq, Int.reduceNe, Int.reduceNeg, ustrA, ti9, cf, Try.results32, decide_eq_true h]
    simp [path, h]
  · simp only [zW, zX, zD, builtinA, isLeaf, const1, Nat.reduceAdd, Nat.reduceMul, Nat.reduceSub, Nat.reduceLT, Nat.reduceLeDiff, Nat.reduceEqDiff, Nat.reduceBEq, Nat.reduceBNe, reduceIte, reduceCtorEq, Int.reduceToNat, Int.reduceLT, Int.reduceLE, Int.reduceEq, Int.reduceNe, Int.reduceNeg, ustrA, ti9, cf, Try.results32, decide_eq_false h]
    simp [path, h]
    omega

set_option maxRecDepth 100000 in
theorem spec_l1Text : ∀ (v : VT) (A : List Box), okV v = true → cnt v ≤ 1000 → ACalls Try.prog 18 [.agg (enc (toTy v))] A (fun r A' => r = .str (txt v) ∧ A' = A)
  | .num, A, hv, hc => by
    rw [toTy, enc]
    refine acalls_enter (cf := cf 28 [0, 1, 2, 4, 5, 7]) foll Try.func18 Try.ntmps18 (by simp [cf]) ?_
    simp only [Try.f18, EnterK_some, zW, zX, zD, builtinA, isLeaf, const1, Nat.reduceAdd, Nat.reduceMul, Nat.reduceSub, Nat.reduceLT, Nat.reduceLeDiff, Nat.reduceEqDiff, Nat.reduceBEq, Nat.reduceBNe, reduceIte, reduceCtorEq, Int.reduceToNat, Int.reduceLT, Int.reduceLE, Int.reduceEq, Int.reduceNe, Int.reduceNeg, ustrA, ti3, ti9, ti23, ti25, ca18, ca32, cf, Try.results18]
    simp [txt]
  | .nm m n, A, hv, hc => by
    have hl := nm_len hv
    rw [toTy, enc]
    refine acalls_enter (cf := cf 28 [0, 1, 2, 4, 5, 7]) foll Try.func18 Try.ntmps18 (by simp [cf]) ?_
    simp only [Try.f18, EnterK_some, zW, zX, zD, builtinA, isLeaf, const1, Nat.reduceAdd, Nat.reduceMul, Nat.reduceSub, Nat.reduceLT, Nat.reduceLeDiff, Nat.reduceEqDiff, Nat.reduceBEq, Nat.reduceBNe, reduceIte, reduceCtorEq, Int.reduceToNat, Int.reduceLT, Int.reduceLE, Int.reduceEq, Int.reduceNe, Int.reduceNeg, ustrA, ti3, ti9, ti23, ti25, ca18, ca32, cf, Try.results18]
    refine callK_intro (by simp only [zW, zX, zD, builtinA, isLeaf, const1, Nat.reduceAdd, Nat.reduceMul, Nat.reduceSub, Nat.reduceLT, Nat.reduceLeDiff, Nat.reduceEqDiff, Nat.reduceBEq, Nat.reduceBNe, reduceIte, reduceCtorEq, Int.reduceToNat, Int.reduceLT, Int.reduceLE, Int.reduceEq, Int.reduceNe, Int.reduceNeg, ustrA] <;> rfl) (spec_l1Path m n (by omega) (by omega) _) ?_ rfl
    rintro r A' ⟨rfl, rfl⟩
    simp only [zW, zX, zD, builtinA, isLeaf, const1, Nat.reduceAdd, Nat.reduceMul, Nat.reduceSub, Nat.reduceLT, Nat.reduceLeDiff, Nat.reduceEqDiff, Nat.reduceBEq, Nat.reduceBNe, reduceIte, reduceCtorEq, Int.reduceToNat, Int.reduceLT, Int.reduceLE, Int.reduceEq, Int.reduceNe, Int.reduceNeg, ustrA, ti3, ti9, ti23, ti25, ca18, ca32, cf, Try.results18]
    simp [txt]
  | .fn a b, A, hv, hc => by
    simp [okV] at hv
    simp [cnt] at hc
    have ha := spec_l1Text a
    have hb := spec_l1Text b
    have la := txt_len a hv.1
    have lb := txt_len b hv.2
    rw [toTy, enc]
    simp only [encs]
    refine acalls_enter (cf := cf 28 [0, 1, 2, 4, 5, 7]) foll Try.func18 Try.ntmps18 (by simp [cf]) ?_
    simp only [Try.f18, EnterK_some, zW, zX, zD, builtinA, isLeaf, const1, Nat.reduceAdd, Nat.reduceMul, Nat.reduceSub, Nat.reduceLT, Nat.reduceLeDiff, Nat.reduceEqDiff, Nat.reduceBEq, Nat.reduceBNe, reduceIte, reduceCtorEq, Int.reduceToNat, Int.reduceLT, Int.reduceLE, Int.reduceEq, Int.reduceNe, Int.reduceNeg, ustrA, ti3, ti9, ti23, ti25, ca18, ca32, cf, Try.results18]
    refine .inl ⟨by kernel_rfl, by kernel_rfl, ?_⟩
    simp only [zW, zX, zD, builtinA, isLeaf, const1, Nat.reduceAdd, Nat.reduceMul, Nat.reduceSub, Nat.reduceLT, Nat.reduceLeDiff, Nat.reduceEqDiff, Nat.reduceBEq, Nat.reduceBNe, reduceIte, reduceCtorEq, Int.reduceToNat, Int.reduceLT, Int.reduceLE, Int.reduceEq, Int.reduceNe, Int.reduceNeg, ustrA, ti3, ti9, ti23, ti25, ca18, ca32, cf, Try.results18, enc_length, enc_take]
    refine ⟨by decide, ?_⟩
    refine callD_intro (by simp only [zW, zX, zD, builtinA, isLeaf, const1, Nat.reduceAdd, Nat.reduceMul, Nat.reduceSub, Nat.reduceLT, Nat.reduceLeDiff, Nat.reduceEqDiff, Nat.reduceBEq, Nat.reduceBNe, reduceIte, reduceCtorEq, Int.reduceToNat, Int.reduceLT, Int.reduceLE, Int.reduceEq, Int.reduceNe, Int.reduceNeg, ustrA, frzL_enc, Option.map_some] <;> rfl) (ha _ hv.1 (by omega)) ?_ rfl
    simp only [zW, zX, zD, builtinA, isLeaf, const1, Nat.reduceAdd, Nat.reduceMul, Nat.reduceSub, Nat.reduceLT, Nat.reduceLeDiff, Nat.reduceEqDiff, Nat.reduceBEq, Nat.reduceBNe, reduceIte, reduceCtorEq, Int.reduceToNat, Int.reduceLT, Int.reduceLE, Int.reduceEq, Int.reduceNe, Int.reduceNeg, ustrA, ti3, ti9, ti23, ti25, ca18, ca32, cf, Try.results18, enc_length, enc_take]
    refine ⟨by omega, by omega, by decide, ?_⟩
    refine callD_intro (by simp only [zW, zX, zD, builtinA, isLeaf, const1, Nat.reduceAdd, Nat.reduceMul, Nat.reduceSub, Nat.reduceLT, Nat.reduceLeDiff, Nat.reduceEqDiff, Nat.reduceBEq, Nat.reduceBNe, reduceIte, reduceCtorEq, Int.reduceToNat, Int.reduceLT, Int.reduceLE, Int.reduceEq, Int.reduceNe, Int.reduceNeg, ustrA, frzL_enc, Option.map_some] <;> rfl) (hb _ hv.2 (by omega)) ?_ rfl
    simp only [zW, zX, zD, builtinA, isLeaf, const1, Nat.reduceAdd, Nat.reduceMul, Nat.reduceSub, Nat.reduceLT, Nat.reduceLeDiff, Nat.reduceEqDiff, Nat.reduceBEq, Nat.reduceBNe, reduceIte, reduceCtorEq, Int.reduceToNat, Int.reduceLT, Int.reduceLE, Int.reduceEq, Int.reduceNe, Int.reduceNeg, ustrA, ti3, ti9, ti23, ti25, ca18, ca32, cf, Try.results18]
    simp [txt]
    omega

set_option maxRecDepth 100000 in
theorem spec_FormatType (τ : Ty) (hτ : τ.Ok) (hc : sz τ ≤ 1048576) (A : List Box) : ACalls Try.prog 7 [.agg (enc τ)] A (fun r A' => ((∃ v, τ = toTy v ∧ VOk v ∧ r = .str (txt v)) ∨ (validB τ = false ∧ r = .str [])) ∧ A' = A) := by
  refine acalls_enter (cf := cf 8 [0, 1, 2, 5]) foll Try.func7 Try.ntmps7 (by simp [cf]) ?_
  simp only [Try.f7, EnterK_some, zW, zX, zD, builtinA, isLeaf, const1, Nat.reduceAdd, Nat.reduceMul, Nat.reduceSub, Nat.reduceLT, Nat.reduceLeDiff, Nat.reduceEqDiff, Nat.reduceBEq, Nat.reduceBNe, reduceIte, reduceCtorEq, Int.reduceToNat, Int.reduceLT, Int.reduceLE, Int.reduceEq, Int.reduceNe, Int.reduceNeg, ustrA, ti25, ca9, ca18, cf, Try.results7]
  simp only [enc_take]
  refine ⟨by rw [enc_length]; omega, ?_⟩
  refine callK_intro (by simp only [zW, zX, zD, builtinA, isLeaf, const1, Nat.reduceAdd, Nat.reduceMul, Nat.reduceSub, Nat.reduceLT, Nat.reduceLeDiff, Nat.reduceEqDiff, Nat.reduceBEq, Nat.reduceBNe, reduceIte, reduceCtorEq, Int.reduceToNat, Int.reduceLT, Int.reduceLE, Int.reduceEq, Int.reduceNe, Int.reduceNeg, ustrA, frzL_enc, Option.map_some]; rfl) (spec_TypeValid τ hτ hc _) ?_ rfl; rintro v A' ⟨rfl, rfl⟩
  rcases valid_cases τ with ⟨v, rfl, hv⟩ | h
  · rw [validB_toTy hv]
    simp only [zW, zX, zD, builtinA, isLeaf, const1, Nat.reduceAdd, Nat.reduceMul, Nat.reduceSub, Nat.reduceLT, Nat.reduceLeDiff, Nat.reduceEqDiff, Nat.reduceBEq, Nat.reduceBNe, reduceIte, reduceCtorEq, Int.reduceToNat, Int.reduceLT, Int.reduceLE, Int.reduceEq, Int.reduceNe, Int.reduceNeg, ustrA, ti25, ca9, ca18, cf, Try.results7, enc_take]
    refine ⟨by rw [enc_length]; omega, ?_⟩
    refine callK_intro (by simp only [zW, zX, zD, builtinA, isLeaf, const1, Nat.reduceAdd, Nat.reduceMul, Nat.reduceSub, Nat.reduceLT, Nat.reduceLeDiff, Nat.reduceEqDiff, Nat.reduceBEq, Nat.reduceBNe, reduceIte, reduceCtorEq, Int.reduceToNat, Int.reduceLT, Int.reduceLE, Int.reduceEq, Int.reduceNe, Int.reduceNeg, ustrA, frzL_enc, Option.map_some]; rfl) (spec_l1Text v _ hv.ok (by have := hv.cnt; omega)) ?_ rfl; rintro v A' ⟨rfl, rfl⟩
    simp only [zW, zX, zD, builtinA, isLeaf, const1, Nat.reduceAdd, Nat.reduceMul, Nat.reduceSub, Nat.reduceLT, Nat.reduceLeDiff, Nat.reduceEqDiff, Nat.reduceBEq, Nat.reduceBNe, reduceIte, reduceCtorEq, Int.reduceToNat, Int.reduceLT, Int.reduceLE, Int.reduceEq, Int.reduceNe, Int.reduceNeg, ustrA, ti25, ca9, ca18, cf, Try.results7]
    exact ⟨v, rfl, hv, rfl⟩
  · rw [h]
    simp only [zW, zX, zD, builtinA, isLeaf, const1, Nat.reduceAdd, Nat.reduceMul, Nat.reduceSub, Nat.reduceLT, Nat.reduceLeDiff, Nat.reduceEqDiff, Nat.reduceBEq, Nat.reduceBNe, reduceIte, reduceCtorEq, Int.reduceToNat, Int.reduceLT, Int.reduceLE, Int.reduceEq, Int.reduceNe, Int.reduceNeg, ustrA, ti25, ca9, ca18, cf, Try.results7]

/-! ### the program's own -/
end Go.Proofs.Ytfcfijgajpbpcaa
