/- The model's reading of types. -/
import Derived.Test.YtfcfijgajpbpcaaParseS
import Derived.Test.YtfcfijgajpbpcaaFmtP
set_option linter.unusedVariables false
set_option linter.unusedSimpArgs false
namespace Go.Proofs.Ytfcfijgajpbpcaa
open Go.Abs

theorem ty_ok3 : (Ty.mk 3 [] [] []).Ok := .mk (by simp) (by simp) (by simp) (by simp)
theorem ok_toTy : ∀ v, okV v = true → (toTy v).Ok
  | .num, _ => .mk (by simp) (by simp) (by simp) (by simp)
  | .nm m n, h => by
    have := nm_len h
    exact .mk (by omega) (by omega) (by simp) (by simp)
  | .fn a b, h => by
    simp [okV] at h
    refine .mk (by simp) (by simp) (by simp) fun t ht => ?_
    simp at ht
    rcases ht with rfl | rfl
    · exact ok_toTy a h.1
    · exact ok_toTy b h.2
theorem psz_toTy : ∀ v, okV v = true → sz (toTy v) ≤ 4 * cnt v
  | .num, _ => by simp [toTy, sz, szs, cnt]
  | .nm m n, h => by
    have := nm_len h
    simp [toTy, sz, szs, cnt]; omega
  | .fn a b, h => by
    simp [okV] at h
    have ha := psz_toTy a h.1
    have hb := psz_toTy b h.2
    simp [toTy, sz, szs, cnt]; omega
/-- what both answer -/
def oTy : Option VT → Ty
  | some v => toTy v
  | none => ty0

set_option maxRecDepth 100000 in
theorem spec_ParseType (s : List UInt8) (hl : s.length ≤ 1100000) (A : List Box) : ACalls Try.prog 12 [.str s] A (fun r A' => r = .tuple [.agg (enc (oTy (pAll s))), .bool (pAll s).isSome] ∧ A' = A) := by
  have hz : ∀ x : Option VT, x = none → AV.tuple [AV.agg [AV.int IntKind.i64 0, AV.str [], AV.str [], AV.slice []], AV.bool false] = .tuple [.agg (enc (oTy x)), .bool x.isSome] := fun x hx => by
    subst hx
    simp [oTy, ty0, enc, encs]
  refine acalls_enter (cf := cf 27 [0, 2, 3, 4, 5, 24]) foll Try.func12 Try.ntmps12 (by simp [cf]) ?_
  simp only [Try.f12, EnterK_some, zW, zX, zD, builtinA, isLeaf, const1, Nat.reduceAdd, Nat.reduceMul, Nat.reduceSub, Nat.reduceLT, Nat.reduceLeDiff, Nat.reduceEqDiff, Nat.reduceBEq, Nat.reduceBNe, reduceIte, reduceCtorEq, Int.reduceToNat, Int.reduceLT, Int.reduceLE, Int.reduceEq, Int.reduceNe, Int.reduceNeg, ustrA, ti3, ti9, ti25, ca7, ca26, cf, Try.results12]
  refine callK_intro (by simp only [zW, zX, zD, builtinA, isLeaf, const1, Nat.reduceAdd, Nat.reduceMul, Nat.reduceSub, Nat.reduceLT, Nat.reduceLeDiff, Nat.reduceEqDiff, Nat.reduceBEq, Nat.reduceBNe, reduceIte, reduceCtorEq, Int.reduceToNat, Int.reduceLT, Int.reduceLE, Int.reduceEq, Int.reduceNe, Int.reduceNeg, ustrA, Option.map_some] <;> rfl) (spec_l1Parse 8 (by omega) s 0 _ hl (by omega)) ?_ rfl
  rintro r A' ⟨hr, rfl⟩
  rw [List.drop_zero] at hr
  cases hp : pTy 8 s with
  | none =>
    have hpa : pAll s = none := by simp [pAll, hp]
    rw [hp] at hr
    obtain ⟨τ, hτ, rfl⟩ := hr
    have hne : decide ((-1 : Int) = (s.length : Int)) = false := decide_eq_false (by omega)
    by_cases hs : s = []
    · simp only [zW, zX, zD, builtinA, isLeaf, const1, Nat.reduceAdd, Nat.reduceMul, Nat.reduceSub, Nat.reduceLT, Nat.reduceLeDiff, Nat.reduceEqDiff, Nat.reduceBEq, Nat.reduceBNe, reduceIte, reduceCtorEq, Int.reduceToNat, Int.reduceLT, Int.reduceLE, Int.reduceEq, Int.reduceNe, Int.reduceNeg, ustrA, ti3, ti9, ti25, ca7, ca26, cf, Try.results12, enc_length, enc_take, frzL_enc, Option.map_some, decide_eq_true hs]
      exact hz _ hpa
    · simp only [zW, zX, zD, builtinA, isLeaf, const1, Nat.reduceAdd, Nat.reduceMul, Nat.reduceSub, Nat.reduceLT, Nat.reduceLeDiff, Nat.reduceEqDiff, Nat.reduceBEq, Nat.reduceBNe, reduceIte, reduceCtorEq, Int.reduceToNat, Int.reduceLT, Int.reduceLE, Int.reduceEq, Int.reduceNe, Int.reduceNeg, ustrA, ti3, ti9, ti25, ca7, ca26, cf, Try.results12, enc_length, enc_take, frzL_enc, Option.map_some, decide_eq_false hs, hne]
      exact hz _ hpa
  | some x =>
    obtain ⟨v, k⟩ := x
    obtain ⟨a1, a2, a3, a4, a5⟩ := pTy_sound 8 hp
    have hc8 := cnt_lt (v := v) (k := 8) a5
    have hsz := psz_toTy v a4
    rw [hp] at hr
    simp only [pres'] at hr
    subst hr
    have hs : ¬ s = [] := by intro e; subst e; simp at a2; omega
    by_cases hk : k = s.length
    · have hke : decide ((k : Int) = (s.length : Int)) = true := decide_eq_true (by omega)
      simp only [zW, zX, zD, builtinA, isLeaf, const1, Nat.reduceAdd, Nat.reduceMul, Nat.reduceSub, Nat.reduceLT, Nat.reduceLeDiff, Nat.reduceEqDiff, Nat.reduceBEq, Nat.reduceBNe, reduceIte, reduceCtorEq, Int.reduceToNat, Int.reduceLT, Int.reduceLE, Int.reduceEq, Int.reduceNe, Int.reduceNeg, ustrA, ti3, ti9, ti25, ca7, ca26, cf, Try.results12, enc_length, enc_take, frzL_enc, Option.map_some, decide_eq_false hs, hke]
      refine callK_intro (by simp only [zW, zX, zD, builtinA, isLeaf, const1, Nat.reduceAdd, Nat.reduceMul, Nat.reduceSub, Nat.reduceLT, Nat.reduceLeDiff, Nat.reduceEqDiff, Nat.reduceBEq, Nat.reduceBNe, reduceIte, reduceCtorEq, Int.reduceToNat, Int.reduceLT, Int.reduceLE, Int.reduceEq, Int.reduceNe, Int.reduceNeg, ustrA, enc_length, enc_take, frzL_enc, Option.map_some] <;> rfl) (spec_FormatType (toTy v) (ok_toTy v a4) (by omega) _) ?_ rfl
      rintro r A' ⟨hr, rfl⟩
      by_cases hc : cnt v ≤ 63
      · have hv : VOk v := ⟨a4, a5, hc⟩
        have hpa : pAll s = some v := by simp [pAll, hp, hk, hc]
        have hr' : r = .str s := by
          rcases hr with ⟨v', e, _, rfl⟩ | ⟨h, _⟩
          · rw [← toTy_inj e, a3, hk, List.take_length]
          · rw [validB_toTy hv] at h; cases h
        subst hr'
        simp only [zW, zX, zD, builtinA, isLeaf, const1, Nat.reduceAdd, Nat.reduceMul, Nat.reduceSub, Nat.reduceLT, Nat.reduceLeDiff, Nat.reduceEqDiff, Nat.reduceBEq, Nat.reduceBNe, reduceIte, reduceCtorEq, Int.reduceToNat, Int.reduceLT, Int.reduceLE, Int.reduceEq, Int.reduceNe, Int.reduceNeg, ustrA, ti3, ti9, ti25, ca7, ca26, cf, Try.results12, enc_length, enc_take, frzL_enc, Option.map_some]
        exact ⟨encC _ _, by rw [hpa]; rfl⟩
      · have hpa : pAll s = none := by simp [pAll, hp, hc]
        have hr' : r = .str [] := by
          rcases hr with ⟨v', e, hv', rfl⟩ | ⟨_, h⟩
          · rw [toTy_inj e] at hc; exact absurd hv'.cnt hc
          · exact h
        subst hr'
        have hs' : decide (([] : List UInt8) = s) = false := decide_eq_false (fun e => hs e.symm)
        simp only [zW, zX, zD, builtinA, isLeaf, const1, Nat.reduceAdd, Nat.reduceMul, Nat.reduceSub, Nat.reduceLT, Nat.reduceLeDiff, Nat.reduceEqDiff, Nat.reduceBEq, Nat.reduceBNe, reduceIte, reduceCtorEq, Int.reduceToNat, Int.reduceLT, Int.reduceLE, Int.reduceEq, Int.reduceNe, Int.reduceNeg, ustrA, ti3, ti9, ti25, ca7, ca26, cf, Try.results12, hs']
        exact hz _ hpa
    · have hke : decide ((k : Int) = (s.length : Int)) = false := decide_eq_false (by omega)
      have hpa : pAll s = none := by simp [pAll, hp, hk]
      simp only [zW, zX, zD, builtinA, isLeaf, const1, Nat.reduceAdd, Nat.reduceMul, Nat.reduceSub, Nat.reduceLT, Nat.reduceLeDiff, Nat.reduceEqDiff, Nat.reduceBEq, Nat.reduceBNe, reduceIte, reduceCtorEq, Int.reduceToNat, Int.reduceLT, Int.reduceLE, Int.reduceEq, Int.reduceNe, Int.reduceNeg, ustrA, ti3, ti9, ti25, ca7, ca26, cf, Try.results12, enc_length, enc_take, frzL_enc, Option.map_some, decide_eq_false hs, hke]
      exact hz _ hpa
end Go.Proofs.Ytfcfijgajpbpcaa
