/- Drawn types. -/
import Derived.Test.YtmgppdedcciogaaGreatTypesVal
import Derived.Test.YtmgppdedcciogaaGreatDraw
import Derived.Test.YtmgppdedcciogaaGreatAbsW3
set_option linter.unusedVariables false
set_option linter.unusedSimpArgs false
namespace Go.Proofs.YtmgppdedcciogaaGreat
open Go.Abs

theorem enc_closed (t : Ty) (n : Nat) : (enc t).all (closed1 n) = true := by cases t; rfl
theorem enc_drop (t : Ty) : List.drop 4 (enc t) = [] := by cases t; rw [enc]; rfl
theorem sz_toTy : ∀ v, okV v = true → sz (toTy v) ≤ 2 * cnt v
  | .num, _ => by simp [toTy, sz, szs, cnt]
  | .nm m n, h => by
    simp only [okV, nmB, Bool.and_eq_true, Bool.or_eq_true, decide_eq_true_eq] at h
    have h1 : n.length = 1 := by have := h.2; simp only [localB, Bool.and_eq_true, beq_iff_eq] at this; exact this.1
    have h2 : m.length ≤ 1 := by
      rcases h.1 with rfl | h
      · simp
      · simp only [moduleB, Bool.and_eq_true, beq_iff_eq] at h; omega
    simp only [toTy, sz, szs, cnt, List.length_nil]; omega
  | .fn a b, h => by
    simp only [okV, Bool.and_eq_true] at h
    have ha := sz_toTy a h.1
    have hb := sz_toTy b h.2
    simp only [toTy, sz, szs, cnt, List.length_nil, List.length_cons]; omega

set_option maxRecDepth 100000 in
theorem spec_l1Num (A : List Box) : ACalls Tryz.prog 63 [] A (fun r A' => r = .agg (enc (toTy .num)) ∧ A' = A) := by
  rw [toTy, enc, encs]
  refine acalls_enter (cf := cf 2 [0]) foll Tryz.func63 Tryz.ntmps63 (by simp [cf]) ?_
  simp only [Tryz.f63, EnterK_some, zW, zX, zD, builtinA, isLeaf, const1, Nat.reduceAdd, Nat.reduceMul, Nat.reduceSub, Nat.reduceLT, Nat.reduceLeDiff, Nat.reduceEqDiff, Nat.reduceBEq, Nat.reduceBNe, reduceIte, reduceCtorEq, Int.reduceToNat, Int.reduceLT, Int.reduceLE, Int.reduceEq, Int.reduceNe, Int.reduceNeg, ustrA, ti33, cf, Tryz.results63]
set_option maxRecDepth 100000 in
theorem spec_l1Name (m n : List UInt8) (A : List Box) : ACalls Tryz.prog 44 [.str m, .str n] A (fun r A' => r = .agg (enc (toTy (.nm m n))) ∧ A' = A) := by
  rw [toTy, enc, encs]
  refine acalls_enter (cf := cf 8 [0, 1, 4]) foll Tryz.func44 Tryz.ntmps44 (by simp [cf]) ?_
  simp only [Tryz.f44, EnterK_some, zW, zX, zD, builtinA, isLeaf, const1, Nat.reduceAdd, Nat.reduceMul, Nat.reduceSub, Nat.reduceLT, Nat.reduceLeDiff, Nat.reduceEqDiff, Nat.reduceBEq, Nat.reduceBNe, reduceIte, reduceCtorEq, Int.reduceToNat, Int.reduceLT, Int.reduceLE, Int.reduceEq, Int.reduceNe, Int.reduceNeg, ustrA, ti33, cf, Tryz.results44]
set_option maxRecDepth 100000 in
theorem spec_l1Fun (a b : Ty) (A : List Box) : ACalls Tryz.prog 81 [.agg (enc a), .agg (enc b)] A (fun r A' => r = .agg (enc (.mk 2 [] [] [a, b])) ∧ A' = A) := by
  rw [enc, encs, encs, encs]
  refine acalls_enter (cf := cf 9 [0, 1, 2, 3, 4]) foll Tryz.func81 Tryz.ntmps81 (by simp [cf]) ?_
  simp only [Tryz.f81, EnterK_some, zW, zX, zD, builtinA, isLeaf, const1, Nat.reduceAdd, Nat.reduceMul, Nat.reduceSub, Nat.reduceLT, Nat.reduceLeDiff, Nat.reduceEqDiff, Nat.reduceBEq, Nat.reduceBNe, reduceIte, reduceCtorEq, Int.reduceToNat, Int.reduceLT, Int.reduceLE, Int.reduceEq, Int.reduceNe, Int.reduceNeg, ustrA, ti31, ti33, cf, Tryz.results81]
  simp only [enc_take, enc_length]
  simp only [zW, zX, zD, builtinA, isLeaf, const1, Nat.reduceAdd, Nat.reduceMul, Nat.reduceSub, Nat.reduceLT, Nat.reduceLeDiff, Nat.reduceEqDiff, Nat.reduceBEq, Nat.reduceBNe, reduceIte, reduceCtorEq, Int.reduceToNat, Int.reduceLT, Int.reduceLE, Int.reduceEq, Int.reduceNe, Int.reduceNeg, ustrA, ti31, ti33, cf, Tryz.results81, frzL_enc, enc_take, enc_length]
  exact ⟨fun v hv => enc_leaf a v hv, fun v hv => enc_leaf b v hv⟩
end Go.Proofs.YtmgppdedcciogaaGreat
