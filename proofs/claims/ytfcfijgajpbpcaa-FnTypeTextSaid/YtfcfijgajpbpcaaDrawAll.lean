/- The drawn arguments of the laws about types. -/
import Derived.Test.YtfcfijgajpbpcaaDrawMut
import Derived.Test.YtfcfijgajpbpcaaAbsW3
set_option linter.unusedVariables false
set_option linter.unusedSimpArgs false
namespace Go.Proofs.Ytfcfijgajpbpcaa
open Go.Abs

set_option maxRecDepth 100000 in
theorem spec_l1Some (bs : List UInt8) (p : Nat) (i : Nat) (A : List Box) (hi : i < A.length) (hA : A.getD i .dead = Rd bs p) (hp : p < 2 ^ 37) :
    ACalls Try.prog 25 [.ptr i 0] A (fun r A' => ∃ v p', r = .agg (enc (toTy v)) ∧ okV v = true ∧ dep v ≤ 4 ∧ p ≤ p' ∧ p' ≤ p + 100 ∧ A' = A.set i (Rd bs p')) := by
  have hgA : ∀ X (B : List Box), (A.set i X ++ B).getD i .dead = X := fun X B => by rw [getD_app1 _ _ _ _ (by simpa using hi), getD_set1 hi]
  refine acalls_enter (cf := cf 8 [0, 2]) foll Try.func25 Try.ntmps25 (by simp [cf]) ?_
  simp only [Try.f25, EnterK_some, zW, zX, zD, builtinA, isLeaf, const1, Nat.reduceAdd, Nat.reduceMul, Nat.reduceSub, Nat.reduceLT, Nat.reduceLeDiff, Nat.reduceEqDiff, Nat.reduceBEq, Nat.reduceBNe, reduceIte, reduceCtorEq, Int.reduceToNat, Int.reduceLT, Int.reduceLE, Int.reduceEq, Int.reduceNe, Int.reduceNeg, ustrA, ti3, ti25, ti85, ca40, ca41, cf, Try.results25]
  refine ⟨by simp, ?_⟩
  refine callK_intro (by simp only [zW, zX, zD, builtinA, isLeaf, const1, Nat.reduceAdd, Nat.reduceMul, Nat.reduceSub, Nat.reduceLT, Nat.reduceLeDiff, Nat.reduceEqDiff, Nat.reduceBEq, Nat.reduceBNe, reduceIte, reduceCtorEq, Int.reduceToNat, Int.reduceLT, Int.reduceLE, Int.reduceEq, Int.reduceNe, Int.reduceNeg, ustrA]; rfl) (spec_num bs p [3, 2, 4, 1] i _ (by simp; omega) (by simp only [getD_app1 _ _ _ _ hi, hA]) (by omega) (by simp)) ?_ rfl
  rintro v A' ⟨s, rfl, hs, rfl⟩
  have hs4 : 1 ≤ s ∧ s ≤ 4 := by simp at hs; omega
  simp only [zW, zX, zD, builtinA, isLeaf, const1, Nat.reduceAdd, Nat.reduceMul, Nat.reduceSub, Nat.reduceLT, Nat.reduceLeDiff, Nat.reduceEqDiff, Nat.reduceBEq, Nat.reduceBNe, reduceIte, reduceCtorEq, Int.reduceToNat, Int.reduceLT, Int.reduceLE, Int.reduceEq, Int.reduceNe, Int.reduceNeg, ustrA, ti3, ti25, ti85, ca40, ca41, cf, Try.results25, hi]
  refine callK_intro (by simp only [zW, zX, zD, builtinA, isLeaf, const1, Nat.reduceAdd, Nat.reduceMul, Nat.reduceSub, Nat.reduceLT, Nat.reduceLeDiff, Nat.reduceEqDiff, Nat.reduceBEq, Nat.reduceBNe, reduceIte, reduceCtorEq, Int.reduceToNat, Int.reduceLT, Int.reduceLE, Int.reduceEq, Int.reduceNe, Int.reduceNeg, ustrA]; rfl) (spec_l1Draw bs 3 s (p + 1) i _ (by simp; omega) (hgA _ _) (by omega) (by omega) (by omega)) ?_ rfl
  rintro v A' ⟨v, p', rfl, hv, hd, hp1, hp2, rfl⟩
  simp only [zW, zX, zD, builtinA, isLeaf, const1, Nat.reduceAdd, Nat.reduceMul, Nat.reduceSub, Nat.reduceLT, Nat.reduceLeDiff, Nat.reduceEqDiff, Nat.reduceBEq, Nat.reduceBNe, reduceIte, reduceCtorEq, Int.reduceToNat, Int.reduceLT, Int.reduceLE, Int.reduceEq, Int.reduceNe, Int.reduceNeg, ustrA, ti3, ti25, ti85, ca40, ca41, cf, Try.results25, hi, enc_length, enc_take, enc_drop, frzL_enc, enc_closed, Option.map_some]
  exact ⟨outer_set A _ i _ (rd_closed _ _ _), v, p', rfl, hv, by omega, by omega, by omega, rfl⟩

theorem sz_dep4 {v : VT} (h : okV v = true) (hd : dep v ≤ 4) : sz (toTy v) ≤ 30 := by
  have h1 := sz_toTy v h
  have h2 := cnt_lt hd
  omega

set_option maxRecDepth 100000 in
theorem spec_DrawTypeValid (bs : List UInt8) (A : List Box) : ACalls Try.prog 13 [.aslice (byteRows bs)] A (fun r A' => ∃ τ, r = .agg (enc τ) ∧ sz τ ≤ 50 ∧ A' = A) := by
  refine acalls_enter (cf := cf 10 [0, 2, 3]) foll Try.func13 Try.ntmps13 (by simp [cf]) ?_
  simp only [Try.f13, EnterK_some, zW, zX, zD, builtinA, isLeaf, const1, Nat.reduceAdd, Nat.reduceMul, Nat.reduceSub, Nat.reduceLT, Nat.reduceLeDiff, Nat.reduceEqDiff, Nat.reduceBEq, Nat.reduceBNe, reduceIte, reduceCtorEq, Int.reduceToNat, Int.reduceLT, Int.reduceLE, Int.reduceEq, Int.reduceNe, Int.reduceNeg, ustrA, ti25, ca23, ca25, ca27, cf, Try.results13]
  refine callK_intro (by simp only [zW, zX, zD, builtinA, isLeaf, const1, Nat.reduceAdd, Nat.reduceMul, Nat.reduceSub, Nat.reduceLT, Nat.reduceLeDiff, Nat.reduceEqDiff, Nat.reduceBEq, Nat.reduceBNe, reduceIte, reduceCtorEq, Int.reduceToNat, Int.reduceLT, Int.reduceLE, Int.reduceEq, Int.reduceNe, Int.reduceNeg, ustrA]; rfl) (spec_l17Open bs _) ?_ rfl
  rintro v A' ⟨bs', hb, rfl, rfl⟩
  simp only [zW, zX, zD, builtinA, isLeaf, const1, Nat.reduceAdd, Nat.reduceMul, Nat.reduceSub, Nat.reduceLT, Nat.reduceLeDiff, Nat.reduceEqDiff, Nat.reduceBEq, Nat.reduceBNe, reduceIte, reduceCtorEq, Int.reduceToNat, Int.reduceLT, Int.reduceLE, Int.reduceEq, Int.reduceNe, Int.reduceNeg, ustrA, ti25, ca23, ca25, ca27, cf, Try.results13]
  refine callK_intro (by simp only [zW, zX, zD, builtinA, isLeaf, const1, Nat.reduceAdd, Nat.reduceMul, Nat.reduceSub, Nat.reduceLT, Nat.reduceLeDiff, Nat.reduceEqDiff, Nat.reduceBEq, Nat.reduceBNe, reduceIte, reduceCtorEq, Int.reduceToNat, Int.reduceLT, Int.reduceLE, Int.reduceEq, Int.reduceNe, Int.reduceNeg, ustrA]; rfl) (spec_l1Some bs' 0 (A.length + 1) _ (by simp) (by simp [List.getD]) (by omega)) ?_ rfl
  rintro v A' ⟨v, p', rfl, hv, hd, hp1, hp2, rfl⟩
  have hsz := sz_dep4 hv hd
  simp only [zW, zX, zD, builtinA, isLeaf, const1, Nat.reduceAdd, Nat.reduceMul, Nat.reduceSub, Nat.reduceLT, Nat.reduceLeDiff, Nat.reduceEqDiff, Nat.reduceBEq, Nat.reduceBNe, reduceIte, reduceCtorEq, Int.reduceToNat, Int.reduceLT, Int.reduceLE, Int.reduceEq, Int.reduceNe, Int.reduceNeg, ustrA, ti25, ca23, ca25, ca27, cf, Try.results13, enc_length, enc_take, enc_drop, frzL_enc, enc_closed, Option.map_some]
  refine callK_intro (by simp only [zW, zX, zD, builtinA, isLeaf, const1, Nat.reduceAdd, Nat.reduceMul, Nat.reduceSub, Nat.reduceLT, Nat.reduceLeDiff, Nat.reduceEqDiff, Nat.reduceBEq, Nat.reduceBNe, reduceIte, reduceCtorEq, Int.reduceToNat, Int.reduceLT, Int.reduceLE, Int.reduceEq, Int.reduceNe, Int.reduceNeg, ustrA, enc_length, enc_take, enc_drop, frzL_enc, enc_closed, Option.map_some]; rfl) (spec_l1Mutate bs' (toTy v) (by omega) p' (A.length + 1) _ (by simp) (by simp [List.getD]) (by omega)) ?_ rfl
  rintro v A' ⟨τ', p', rfl, hv, hp1, hp2, rfl⟩
  simp only [zW, zX, zD, builtinA, isLeaf, const1, Nat.reduceAdd, Nat.reduceMul, Nat.reduceSub, Nat.reduceLT, Nat.reduceLeDiff, Nat.reduceEqDiff, Nat.reduceBEq, Nat.reduceBNe, reduceIte, reduceCtorEq, Int.reduceToNat, Int.reduceLT, Int.reduceLE, Int.reduceEq, Int.reduceNe, Int.reduceNeg, ustrA, ti25, ca23, ca25, ca27, cf, Try.results13, enc_length, enc_take, enc_drop, frzL_enc, enc_closed, Option.map_some]
  exact ⟨τ', rfl, by omega⟩

end Go.Proofs.Ytfcfijgajpbpcaa
