/- Whatever two types are drawn: they are the same if and only if their heads, the number of their parts and all their parts are. No condition beside the row's own. -/
import Derived.Test.YthflkfpbchgeoaaSameSp
import Derived.Test.YthflkfpbchgeoaaSameA2
import Derived.Test.YthflkfpbchgeoaaDrawSame
import Derived.Test.YthflkfpbchgeoaaOkSz
import Derived.Test.YthflkfpbchgeoaaAbsW2
set_option linter.unusedVariables false
set_option linter.unusedSimpArgs false
namespace Go.Proofs.Ythflkfpbchgeoaa
open Go.Abs Go.RowKit Go.ChangeShapes Go.WideShapes Go.ChangeAt Go.ChangeMaps

theorem mk_iff (k k' : Int) (m m' n n' : List UInt8) (ks ks' : List Ty) : Ty.mk k m n ks = .mk k' m' n' ks' ↔ ((k = k' ∧ m = m' ∧ n = n' ∧ ks.length = ks'.length) ∧ ks = ks') := by
  constructor
  · intro h; cases h; exact ⟨⟨rfl, rfl, rfl, rfl⟩, rfl⟩
  · rintro ⟨⟨rfl, rfl, rfl, _⟩, rfl⟩; rfl
theorem take_step {i : Nat} {ks ks' : List Ty} (h1 : i < ks.length) (h2 : i < ks'.length) (h : ks.take i = ks'.take i) : ks.take (i + 1) = ks'.take (i + 1) ↔ ks.getD i ty0 = ks'.getD i ty0 := by
  rw [List.take_succ_eq_append_getElem h1, h, List.take_succ_eq_append_getElem h2]
  have a1 : ks.getD i ty0 = ks[i] := by simp [List.getD, h1]
  have a2 : ks'.getD i ty0 = ks'[i] := by simp [List.getD, h2]
  rw [a1, a2]
  exact ⟨fun e => by simpa only [List.cons.injEq, and_true] using List.append_cancel_left e, fun e => by rw [e]⟩
theorem take_pre {i : Nat} {ks ks' : List Ty} (h : ks.take (i + 1) = ks'.take (i + 1)) : ks.take i = ks'.take i := by
  have := congrArg (List.take i) h
  simpa [List.take_take] using this

theorem take_all {i : Nat} {ks ks' : List Ty} (h1 : ks.length ≤ i) (h2 : ks.length = ks'.length) (h : ks.take i = ks'.take i) : ks = ks' := by
  rwa [List.take_of_length_le h1, List.take_of_length_le (by omega)] at h
theorem fin_false {b : Bool} (h : ¬ b = true) : AV.bool (b == false) = AV.bool true := by cases b <;> simp_all
theorem fin_true {b : Bool} (h : b = true) : AV.bool (b == true) = AV.bool true := by subst h; rfl

set_option maxRecDepth 100000 in
set_option maxHeartbeats 2000000 in
theorem typeParts_true (bs : List UInt8) : ACalls Try.prog 4 [.aslice (byteRows bs)] [] (fun v _ => v = .bool true) := by
  refine acalls_enter (cf := cf 76 [0, 2, 3, 4, 5, 6, 7, 10, 23, 59]) foll Try.func4 Try.ntmps4 (by simp [cf]) ?_
  simp only [Try.f4, EnterK_some, zW, zX, tkIface, isWhole, evA, Abs.look, putA, del, keep, astep, builtinA, appendA, pickA, elemOf?, lenA, rowsOf, cellsOf, shiftP, loadA, partA, idxA, binA, intA, strA, eqA, nilP, nilS, nilM, unA, convA, storeA, cellsA, fillA, litRows, pairs, sliceOp, sliceA, isPtr, isStr, tkStr, tkSlice, isByte, byteOf, frz1, frzL, frzC, frzs, frzT, lfz, isLeaf, constA, const1, retVal, rvs, resCell, ARet, entry, closed, closed1, closed2, Nat.reduceAdd, Nat.reduceMul, Nat.reduceSub, Nat.reduceLT, Nat.reduceLeDiff, Nat.reduceEqDiff, Nat.reduceBEq, Nat.reduceBNe, reduceIte, reduceCtorEq, Int.reduceToNat, Int.reduceLT, Int.reduceLE, Int.reduceEq, Int.reduceNe, Int.reduceNeg, ARetK, Lk, Ranks.lo, Ranks.hi, Ranks.next, Ranks.eff, aggEq, eqK, c1A, lkV, updA, isCell, cutOwn, storeN, appendN, isU8, elemId, sdataA, ustrA, bldZ, isElem, litRowsN, isOctet, ti3, ti4, ti5, ti9, ti22, ti23, ti25, ca9, ca11, ca12, cf, Try.results4]
  by_cases hb : 1048576 < bs.length
  · have e1 : decide ((1048576 : Int) < bs.length) = true := decide_eq_true (by omega)
    simp only [zW, zX, tkIface, isWhole, evA, Abs.look, putA, del, keep, astep, builtinA, appendA, pickA, elemOf?, lenA, rowsOf, cellsOf, shiftP, loadA, partA, idxA, binA, intA, strA, eqA, nilP, nilS, nilM, unA, convA, storeA, cellsA, fillA, litRows, pairs, sliceOp, sliceA, isPtr, isStr, tkStr, tkSlice, isByte, byteOf, frz1, frzL, frzC, frzs, frzT, lfz, isLeaf, constA, const1, retVal, rvs, resCell, ARet, entry, closed, closed1, closed2, Nat.reduceAdd, Nat.reduceMul, Nat.reduceSub, Nat.reduceLT, Nat.reduceLeDiff, Nat.reduceEqDiff, Nat.reduceBEq, Nat.reduceBNe, reduceIte, reduceCtorEq, Int.reduceToNat, Int.reduceLT, Int.reduceLE, Int.reduceEq, Int.reduceNe, Int.reduceNeg, ARetK, Lk, Ranks.lo, Ranks.hi, Ranks.next, Ranks.eff, aggEq, eqK, c1A, lkV, updA, isCell, cutOwn, storeN, appendN, isU8, elemId, sdataA, ustrA, bldZ, isElem, litRowsN, isOctet, ti3, ti4, ti5, ti9, ti22, ti23, ti25, ca9, ca11, ca12, cf, Try.results4, byteRows_length, e1]
  · have e1 : decide ((1048576 : Int) < bs.length) = false := decide_eq_false (by omega)
    simp only [zW, zX, tkIface, isWhole, evA, Abs.look, putA, del, keep, astep, builtinA, appendA, pickA, elemOf?, lenA, rowsOf, cellsOf, shiftP, loadA, partA, idxA, binA, intA, strA, eqA, nilP, nilS, nilM, unA, convA, storeA, cellsA, fillA, litRows, pairs, sliceOp, sliceA, isPtr, isStr, tkStr, tkSlice, isByte, byteOf, frz1, frzL, frzC, frzs, frzT, lfz, isLeaf, constA, const1, retVal, rvs, resCell, ARet, entry, closed, closed1, closed2, Nat.reduceAdd, Nat.reduceMul, Nat.reduceSub, Nat.reduceLT, Nat.reduceLeDiff, Nat.reduceEqDiff, Nat.reduceBEq, Nat.reduceBNe, reduceIte, reduceCtorEq, Int.reduceToNat, Int.reduceLT, Int.reduceLE, Int.reduceEq, Int.reduceNe, Int.reduceNeg, ARetK, Lk, Ranks.lo, Ranks.hi, Ranks.next, Ranks.eff, aggEq, eqK, c1A, lkV, updA, isCell, cutOwn, storeN, appendN, isU8, elemId, sdataA, ustrA, bldZ, isElem, litRowsN, isOctet, ti3, ti4, ti5, ti9, ti22, ti23, ti25, ca9, ca11, ca12, cf, Try.results4, byteRows_length, e1]
    refine callK_intro (by simp only [zW, zX, tkIface, isWhole, evA, Abs.look, putA, del, keep, astep, builtinA, appendA, pickA, elemOf?, lenA, rowsOf, cellsOf, shiftP, loadA, partA, idxA, binA, intA, strA, eqA, nilP, nilS, nilM, unA, convA, storeA, cellsA, fillA, litRows, pairs, sliceOp, sliceA, isPtr, isStr, tkStr, tkSlice, isByte, byteOf, frz1, frzL, frzC, frzs, frzT, lfz, isLeaf, constA, const1, retVal, rvs, resCell, ARet, entry, closed, closed1, closed2, Nat.reduceAdd, Nat.reduceMul, Nat.reduceSub, Nat.reduceLT, Nat.reduceLeDiff, Nat.reduceEqDiff, Nat.reduceBEq, Nat.reduceBNe, reduceIte, reduceCtorEq, Int.reduceToNat, Int.reduceLT, Int.reduceLE, Int.reduceEq, Int.reduceNe, Int.reduceNeg, ARetK, Lk, Ranks.lo, Ranks.hi, Ranks.next, Ranks.eff, aggEq, eqK, c1A, lkV, updA, isCell, cutOwn, storeN, appendN, isU8, elemId, sdataA, ustrA, bldZ, isElem, litRowsN, isOctet]; rfl) (spec_DrawTypeSame bs _) ?_ rfl
    rintro v A' ⟨σ, τ, rfl, hsσ, hsτ, rfl⟩
    have hokσ := okSz σ (by omega)
    have hi := impl_TypeSame σ τ (by omega) (by omega)
    have hsp := spec_TypeSame σ hokσ τ
    obtain ⟨k, m, n, ks⟩ := σ
    obtain ⟨k', m', n', ks'⟩ := τ
    have hk1 : ∀ t ∈ ks, sz t ≤ 100 := fun t ht => by rw [sz] at hsσ; have := szs_mem ht; omega
    have hk2 : ∀ t ∈ ks', sz t ≤ 100 := fun t ht => by rw [sz] at hsτ; have := szs_mem ht; omega
    have hl1 : ks.length ≤ 100 := by rw [sz] at hsσ; omega
    have hl2 : ks'.length ≤ 100 := by rw [sz] at hsτ; omega
    have hiff := mk_iff k k' m m' n n' ks ks'
    have hH : ∃ H : Prop, H = (k = k' ∧ m = m' ∧ n = n' ∧ ks.length = ks'.length) := ⟨_, rfl⟩
    obtain ⟨H, hH⟩ := hH
    rw [← hH] at hiff
    simp only [enc_mk] at hi hsp
    generalize hbv : decide (Ty.mk k m n ks = Ty.mk k' m' n' ks') = b at *
    have hbb : b = true ↔ (H ∧ ks = ks') := by rw [← hbv, decide_eq_true_iff]; exact hiff
    clear hbv hiff
    simp only [zW, zX, tkIface, isWhole, evA, Abs.look, putA, del, keep, astep, builtinA, appendA, pickA, elemOf?, lenA, rowsOf, cellsOf, shiftP, loadA, partA, idxA, binA, intA, strA, eqA, nilP, nilS, nilM, unA, convA, storeA, cellsA, fillA, litRows, pairs, sliceOp, sliceA, isPtr, isStr, tkStr, tkSlice, isByte, byteOf, frz1, frzL, frzC, frzs, frzT, lfz, isLeaf, constA, const1, retVal, rvs, resCell, ARet, entry, closed, closed1, closed2, Nat.reduceAdd, Nat.reduceMul, Nat.reduceSub, Nat.reduceLT, Nat.reduceLeDiff, Nat.reduceEqDiff, Nat.reduceBEq, Nat.reduceBNe, reduceIte, reduceCtorEq, Int.reduceToNat, Int.reduceLT, Int.reduceLE, Int.reduceEq, Int.reduceNe, Int.reduceNeg, ARetK, Lk, Ranks.lo, Ranks.hi, Ranks.next, Ranks.eff, aggEq, eqK, c1A, lkV, updA, isCell, cutOwn, storeN, appendN, isU8, elemId, sdataA, ustrA, bldZ, isElem, litRowsN, isOctet, ti3, ti4, ti5, ti9, ti22, ti23, ti25, ca9, ca11, ca12, cf, Try.results4, enc_mk]
    refine callK_intro (by simp only [zW, zX, tkIface, isWhole, evA, Abs.look, putA, del, keep, astep, builtinA, appendA, pickA, elemOf?, lenA, rowsOf, cellsOf, shiftP, loadA, partA, idxA, binA, intA, strA, eqA, nilP, nilS, nilM, unA, convA, storeA, cellsA, fillA, litRows, pairs, sliceOp, sliceA, isPtr, isStr, tkStr, tkSlice, isByte, byteOf, frz1, frzL, frzC, frzs, frzT, lfz, isLeaf, constA, const1, retVal, rvs, resCell, ARet, entry, closed, closed1, closed2, Nat.reduceAdd, Nat.reduceMul, Nat.reduceSub, Nat.reduceLT, Nat.reduceLeDiff, Nat.reduceEqDiff, Nat.reduceBEq, Nat.reduceBNe, reduceIte, reduceCtorEq, Int.reduceToNat, Int.reduceLT, Int.reduceLE, Int.reduceEq, Int.reduceNe, Int.reduceNeg, ARetK, Lk, Ranks.lo, Ranks.hi, Ranks.next, Ranks.eff, aggEq, eqK, c1A, lkV, updA, isCell, cutOwn, storeN, appendN, isU8, elemId, sdataA, ustrA, bldZ, isElem, litRowsN, isOctet, ]; rfl) (hi _) ?_ rfl; rintro v A' ⟨rfl, rfl⟩
    simp only [zW, zX, tkIface, isWhole, evA, Abs.look, putA, del, keep, astep, builtinA, appendA, pickA, elemOf?, lenA, rowsOf, cellsOf, shiftP, loadA, partA, idxA, binA, intA, strA, eqA, nilP, nilS, nilM, unA, convA, storeA, cellsA, fillA, litRows, pairs, sliceOp, sliceA, isPtr, isStr, tkStr, tkSlice, isByte, byteOf, frz1, frzL, frzC, frzs, frzT, lfz, isLeaf, constA, const1, retVal, rvs, resCell, ARet, entry, closed, closed1, closed2, Nat.reduceAdd, Nat.reduceMul, Nat.reduceSub, Nat.reduceLT, Nat.reduceLeDiff, Nat.reduceEqDiff, Nat.reduceBEq, Nat.reduceBNe, reduceIte, reduceCtorEq, Int.reduceToNat, Int.reduceLT, Int.reduceLE, Int.reduceEq, Int.reduceNe, Int.reduceNeg, ARetK, Lk, Ranks.lo, Ranks.hi, Ranks.next, Ranks.eff, aggEq, eqK, c1A, lkV, updA, isCell, cutOwn, storeN, appendN, isU8, elemId, sdataA, ustrA, bldZ, isElem, litRowsN, isOctet, ti3, ti4, ti5, ti9, ti22, ti23, ti25, ca9, ca11, ca12, cf, Try.results4]
    refine callK_intro (by simp only [zW, zX, tkIface, isWhole, evA, Abs.look, putA, del, keep, astep, builtinA, appendA, pickA, elemOf?, lenA, rowsOf, cellsOf, shiftP, loadA, partA, idxA, binA, intA, strA, eqA, nilP, nilS, nilM, unA, convA, storeA, cellsA, fillA, litRows, pairs, sliceOp, sliceA, isPtr, isStr, tkStr, tkSlice, isByte, byteOf, frz1, frzL, frzC, frzs, frzT, lfz, isLeaf, constA, const1, retVal, rvs, resCell, ARet, entry, closed, closed1, closed2, Nat.reduceAdd, Nat.reduceMul, Nat.reduceSub, Nat.reduceLT, Nat.reduceLeDiff, Nat.reduceEqDiff, Nat.reduceBEq, Nat.reduceBNe, reduceIte, reduceCtorEq, Int.reduceToNat, Int.reduceLT, Int.reduceLE, Int.reduceEq, Int.reduceNe, Int.reduceNeg, ARetK, Lk, Ranks.lo, Ranks.hi, Ranks.next, Ranks.eff, aggEq, eqK, c1A, lkV, updA, isCell, cutOwn, storeN, appendN, isU8, elemId, sdataA, ustrA, bldZ, isElem, litRowsN, isOctet, ]; rfl) (hsp _) ?_ rfl; rintro v A' ⟨rfl, rfl⟩
    simp only [zW, zX, tkIface, isWhole, evA, Abs.look, putA, del, keep, astep, builtinA, appendA, pickA, elemOf?, lenA, rowsOf, cellsOf, shiftP, loadA, partA, idxA, binA, intA, strA, eqA, nilP, nilS, nilM, unA, convA, storeA, cellsA, fillA, litRows, pairs, sliceOp, sliceA, isPtr, isStr, tkStr, tkSlice, isByte, byteOf, frz1, frzL, frzC, frzs, frzT, lfz, isLeaf, constA, const1, retVal, rvs, resCell, ARet, entry, closed, closed1, closed2, Nat.reduceAdd, Nat.reduceMul, Nat.reduceSub, Nat.reduceLT, Nat.reduceLeDiff, Nat.reduceEqDiff, Nat.reduceBEq, Nat.reduceBNe, reduceIte, reduceCtorEq, Int.reduceToNat, Int.reduceLT, Int.reduceLE, Int.reduceEq, Int.reduceNe, Int.reduceNeg, ARetK, Lk, Ranks.lo, Ranks.hi, Ranks.next, Ranks.eff, aggEq, eqK, c1A, lkV, updA, isCell, cutOwn, storeN, appendN, isU8, elemId, sdataA, ustrA, bldZ, isElem, litRowsN, isOctet, ti3, ti4, ti5, ti9, ti22, ti23, ti25, ca9, ca11, ca12, cf, Try.results4]
    obtain ⟨c0, hc0, hg⟩ : ∃ c0 : Bool, (c0 = true ↔ H) ∧ (((c0 = true ∧ k = k' ∧ m = m' ∧ n = n' ∧ ks.length = ks'.length) ∨ (c0 = false ∧ k = k' ∧ m = m' ∧ n = n' ∧ ¬ ks.length = ks'.length)) ∨ ((c0 = false ∧ k = k' ∧ m = m' ∧ ¬ n = n') ∨ (c0 = false ∧ k = k' ∧ ¬ m = m')) ∨ (c0 = false ∧ ¬ k = k')) := by
      refine ⟨decide (k = k' ∧ m = m' ∧ n = n' ∧ ks.length = ks'.length), by rw [hH]; exact decide_eq_true_iff, ?_⟩
      by_cases a1 : k = k' <;> by_cases a2 : m = m' <;> by_cases a3 : n = n' <;> by_cases a4 : ks.length = ks'.length <;> simp [a1, a2, a3, a4]
    have hlen : H → ks.length = ks'.length := fun h => by rw [hH] at h; exact h.2.2.2
    have e5 : ∀ h : ks.length = ks'.length, decide (((ks.length : Nat) : Int) = (ks'.length : Nat)) = true := fun h => decide_eq_true (by omega)
    have e6 : ∀ h : ¬ ks.length = ks'.length, decide (((ks.length : Nat) : Int) = (ks'.length : Nat)) = false := fun h => decide_eq_false (by omega)
    clear hH
    rcases hg with (⟨rfl, q1, q2, q3, q4⟩ | ⟨rfl, q1, q2, q3, q4⟩) | (⟨rfl, q1, q2, q3⟩ | ⟨rfl, q1, q2⟩) | ⟨rfl, q1⟩
    case' neg.inl.inl => simp only [zW, zX, tkIface, isWhole, evA, Abs.look, putA, del, keep, astep, builtinA, appendA, pickA, elemOf?, lenA, rowsOf, cellsOf, shiftP, loadA, partA, idxA, binA, intA, strA, eqA, nilP, nilS, nilM, unA, convA, storeA, cellsA, fillA, litRows, pairs, sliceOp, sliceA, isPtr, isStr, tkStr, tkSlice, isByte, byteOf, frz1, frzL, frzC, frzs, frzT, lfz, isLeaf, constA, const1, retVal, rvs, resCell, ARet, entry, closed, closed1, closed2, Nat.reduceAdd, Nat.reduceMul, Nat.reduceSub, Nat.reduceLT, Nat.reduceLeDiff, Nat.reduceEqDiff, Nat.reduceBEq, Nat.reduceBNe, reduceIte, reduceCtorEq, Int.reduceToNat, Int.reduceLT, Int.reduceLE, Int.reduceEq, Int.reduceNe, Int.reduceNeg, ARetK, Lk, Ranks.lo, Ranks.hi, Ranks.next, Ranks.eff, aggEq, eqK, c1A, lkV, updA, isCell, cutOwn, storeN, appendN, isU8, elemId, sdataA, ustrA, bldZ, isElem, litRowsN, isOctet, ti3, ti4, ti5, ti9, ti22, ti23, ti25, ca9, ca11, ca12, cf, Try.results4, decide_eq_true q1, decide_eq_true q2, decide_eq_true q3, encs_length, e5 q4]
    case' neg.inl.inr => simp only [zW, zX, tkIface, isWhole, evA, Abs.look, putA, del, keep, astep, builtinA, appendA, pickA, elemOf?, lenA, rowsOf, cellsOf, shiftP, loadA, partA, idxA, binA, intA, strA, eqA, nilP, nilS, nilM, unA, convA, storeA, cellsA, fillA, litRows, pairs, sliceOp, sliceA, isPtr, isStr, tkStr, tkSlice, isByte, byteOf, frz1, frzL, frzC, frzs, frzT, lfz, isLeaf, constA, const1, retVal, rvs, resCell, ARet, entry, closed, closed1, closed2, Nat.reduceAdd, Nat.reduceMul, Nat.reduceSub, Nat.reduceLT, Nat.reduceLeDiff, Nat.reduceEqDiff, Nat.reduceBEq, Nat.reduceBNe, reduceIte, reduceCtorEq, Int.reduceToNat, Int.reduceLT, Int.reduceLE, Int.reduceEq, Int.reduceNe, Int.reduceNeg, ARetK, Lk, Ranks.lo, Ranks.hi, Ranks.next, Ranks.eff, aggEq, eqK, c1A, lkV, updA, isCell, cutOwn, storeN, appendN, isU8, elemId, sdataA, ustrA, bldZ, isElem, litRowsN, isOctet, ti3, ti4, ti5, ti9, ti22, ti23, ti25, ca9, ca11, ca12, cf, Try.results4, decide_eq_true q1, decide_eq_true q2, decide_eq_true q3, encs_length, e6 q4]
    case' neg.inr.inl.inl => simp only [zW, zX, tkIface, isWhole, evA, Abs.look, putA, del, keep, astep, builtinA, appendA, pickA, elemOf?, lenA, rowsOf, cellsOf, shiftP, loadA, partA, idxA, binA, intA, strA, eqA, nilP, nilS, nilM, unA, convA, storeA, cellsA, fillA, litRows, pairs, sliceOp, sliceA, isPtr, isStr, tkStr, tkSlice, isByte, byteOf, frz1, frzL, frzC, frzs, frzT, lfz, isLeaf, constA, const1, retVal, rvs, resCell, ARet, entry, closed, closed1, closed2, Nat.reduceAdd, Nat.reduceMul, Nat.reduceSub, Nat.reduceLT, Nat.reduceLeDiff, Nat.reduceEqDiff, Nat.reduceBEq, Nat.reduceBNe, reduceIte, reduceCtorEq, Int.reduceToNat, Int.reduceLT, Int.reduceLE, Int.reduceEq, Int.reduceNe, Int.reduceNeg, ARetK, Lk, Ranks.lo, Ranks.hi, Ranks.next, Ranks.eff, aggEq, eqK, c1A, lkV, updA, isCell, cutOwn, storeN, appendN, isU8, elemId, sdataA, ustrA, bldZ, isElem, litRowsN, isOctet, ti3, ti4, ti5, ti9, ti22, ti23, ti25, ca9, ca11, ca12, cf, Try.results4, decide_eq_true q1, decide_eq_true q2, decide_eq_false q3]
    case' neg.inr.inl.inr => simp only [zW, zX, tkIface, isWhole, evA, Abs.look, putA, del, keep, astep, builtinA, appendA, pickA, elemOf?, lenA, rowsOf, cellsOf, shiftP, loadA, partA, idxA, binA, intA, strA, eqA, nilP, nilS, nilM, unA, convA, storeA, cellsA, fillA, litRows, pairs, sliceOp, sliceA, isPtr, isStr, tkStr, tkSlice, isByte, byteOf, frz1, frzL, frzC, frzs, frzT, lfz, isLeaf, constA, const1, retVal, rvs, resCell, ARet, entry, closed, closed1, closed2, Nat.reduceAdd, Nat.reduceMul, Nat.reduceSub, Nat.reduceLT, Nat.reduceLeDiff, Nat.reduceEqDiff, Nat.reduceBEq, Nat.reduceBNe, reduceIte, reduceCtorEq, Int.reduceToNat, Int.reduceLT, Int.reduceLE, Int.reduceEq, Int.reduceNe, Int.reduceNeg, ARetK, Lk, Ranks.lo, Ranks.hi, Ranks.next, Ranks.eff, aggEq, eqK, c1A, lkV, updA, isCell, cutOwn, storeN, appendN, isU8, elemId, sdataA, ustrA, bldZ, isElem, litRowsN, isOctet, ti3, ti4, ti5, ti9, ti22, ti23, ti25, ca9, ca11, ca12, cf, Try.results4, decide_eq_true q1, decide_eq_false q2]
    case' neg.inr.inr => simp only [zW, zX, tkIface, isWhole, evA, Abs.look, putA, del, keep, astep, builtinA, appendA, pickA, elemOf?, lenA, rowsOf, cellsOf, shiftP, loadA, partA, idxA, binA, intA, strA, eqA, nilP, nilS, nilM, unA, convA, storeA, cellsA, fillA, litRows, pairs, sliceOp, sliceA, isPtr, isStr, tkStr, tkSlice, isByte, byteOf, frz1, frzL, frzC, frzs, frzT, lfz, isLeaf, constA, const1, retVal, rvs, resCell, ARet, entry, closed, closed1, closed2, Nat.reduceAdd, Nat.reduceMul, Nat.reduceSub, Nat.reduceLT, Nat.reduceLeDiff, Nat.reduceEqDiff, Nat.reduceBEq, Nat.reduceBNe, reduceIte, reduceCtorEq, Int.reduceToNat, Int.reduceLT, Int.reduceLE, Int.reduceEq, Int.reduceNe, Int.reduceNeg, ARetK, Lk, Ranks.lo, Ranks.hi, Ranks.next, Ranks.eff, aggEq, eqK, c1A, lkV, updA, isCell, cutOwn, storeN, appendN, isU8, elemId, sdataA, ustrA, bldZ, isElem, litRowsN, isOctet, ti3, ti4, ti5, ti9, ti22, ti23, ti25, ca9, ca11, ca12, cf, Try.results4, decide_eq_false q1]
    all_goals
      refine aloop_intro [3, 4, 5, 6, 7] (fun e A' => ∃ (i : Nat) (c : Bool), i ≤ ks.length ∧ (c = true ↔ (H ∧ ks.take i = ks'.take i)) ∧ e = [(3, .ptr 0 0), (4, .ptr 1 0), (5, .bool b), (6, .bool c), (7, .int .i64 i)] ∧ A' = [Box.cells [.int .i64 k, .str m, .str n, .slice (encs ks)], .cells [.int .i64 k', .str m', .str n', .slice (encs ks')]]) (fun e _ => ks.length - (intOf (Abs.look 7 e)).toNat) ?_ ?_
    all_goals first
      | exact ⟨0, _, by omega, by simpa using hc0, rfl, rfl⟩
      | skip
    all_goals rintro e A' ⟨i, c, hi', hc, rfl, rfl⟩
    all_goals by_cases h1 : i < ks.length
    all_goals cases c
    all_goals first
      | have d1 : decide ((i : Int) < (ks.length : Nat)) = true := decide_eq_true (by omega)
      | have d1 : decide ((i : Int) < (ks.length : Nat)) = false := decide_eq_false (by omega)
    all_goals simp only [zW, zX, tkIface, isWhole, evA, Abs.look, putA, del, keep, astep, builtinA, appendA, pickA, elemOf?, lenA, rowsOf, cellsOf, shiftP, loadA, partA, idxA, binA, intA, strA, eqA, nilP, nilS, nilM, unA, convA, storeA, cellsA, fillA, litRows, pairs, sliceOp, sliceA, isPtr, isStr, tkStr, tkSlice, isByte, byteOf, frz1, frzL, frzC, frzs, frzT, lfz, isLeaf, constA, const1, retVal, rvs, resCell, ARet, entry, closed, closed1, closed2, Nat.reduceAdd, Nat.reduceMul, Nat.reduceSub, Nat.reduceLT, Nat.reduceLeDiff, Nat.reduceEqDiff, Nat.reduceBEq, Nat.reduceBNe, reduceIte, reduceCtorEq, Int.reduceToNat, Int.reduceLT, Int.reduceLE, Int.reduceEq, Int.reduceNe, Int.reduceNeg, ARetK, Lk, Ranks.lo, Ranks.hi, Ranks.next, Ranks.eff, aggEq, eqK, c1A, lkV, updA, isCell, cutOwn, storeN, appendN, isU8, elemId, sdataA, ustrA, bldZ, isElem, litRowsN, isOctet, ti3, ti4, ti5, ti9, ti22, ti23, ti25, ca9, ca11, ca12, cf, Try.results4, encs_length, d1]
    all_goals first
      | exact fin_false (fun h => absurd (hc.2 ⟨(hbb.1 h).1, by rw [(hbb.1 h).2]⟩) (by simp))
      | exact fin_true (hbb.2 ⟨(hc.1 rfl).1, take_all (by omega) (hlen (hc.1 rfl).1) (hc.1 rfl).2⟩)
      | skip
    all_goals obtain ⟨hH1, hT⟩ := hc.1 rfl
    all_goals have h2 : i < ks'.length := by have := hlen hH1; omega
    all_goals have pi : (0 : Int) ≤ (i : Int) ∧ (i : Int) < (ks.length : Int) := ⟨by omega, by omega⟩
    all_goals have pj : (0 : Int) ≤ (i : Int) ∧ (i : Int) < (ks'.length : Int) := ⟨by omega, by omega⟩
    all_goals have g1 := encs_getD h1
    all_goals have g2 := encs_getD h2
    all_goals have hz1 := hk1 _ (getD_mem h1)
    all_goals have hz2 := hk2 _ (getD_mem h2)
    all_goals have hi1 : IntKind.i64.wrap ((i : Int) + 1) = ((i + 1 : Nat) : Int) := by rw [wrap64 (by omega) (by omega)]; rfl
    all_goals have hts := impl_TypeSame (ks.getD i ty0) (ks'.getD i ty0) (by omega) (by omega)
    all_goals refine .inl ⟨by kernel_rfl, by kernel_rfl, ?_⟩
    all_goals simp only [zW, zX, tkIface, isWhole, evA, Abs.look, putA, del, keep, astep, builtinA, appendA, pickA, elemOf?, lenA, rowsOf, cellsOf, shiftP, loadA, partA, idxA, binA, intA, strA, eqA, nilP, nilS, nilM, unA, convA, storeA, cellsA, fillA, litRows, pairs, sliceOp, sliceA, isPtr, isStr, tkStr, tkSlice, isByte, byteOf, frz1, frzL, frzC, frzs, frzT, lfz, isLeaf, constA, const1, retVal, rvs, resCell, ARet, entry, closed, closed1, closed2, Nat.reduceAdd, Nat.reduceMul, Nat.reduceSub, Nat.reduceLT, Nat.reduceLeDiff, Nat.reduceEqDiff, Nat.reduceBEq, Nat.reduceBNe, reduceIte, reduceCtorEq, Int.reduceToNat, Int.reduceLT, Int.reduceLE, Int.reduceEq, Int.reduceNe, Int.reduceNeg, ARetK, Lk, Ranks.lo, Ranks.hi, Ranks.next, Ranks.eff, aggEq, eqK, c1A, lkV, updA, isCell, cutOwn, storeN, appendN, isU8, elemId, sdataA, ustrA, bldZ, isElem, litRowsN, isOctet, ti3, ti4, ti5, ti9, ti22, ti23, ti25, ca9, ca11, ca12, cf, Try.results4, g1, g2, encs_length, enc_length, enc_take]
    all_goals refine ⟨pi, pj, ?_⟩
    all_goals
      refine callD_intro (by simp only [zW, zX, tkIface, isWhole, evA, Abs.look, putA, del, keep, astep, builtinA, appendA, pickA, elemOf?, lenA, rowsOf, cellsOf, shiftP, loadA, partA, idxA, binA, intA, strA, eqA, nilP, nilS, nilM, unA, convA, storeA, cellsA, fillA, litRows, pairs, sliceOp, sliceA, isPtr, isStr, tkStr, tkSlice, isByte, byteOf, frz1, frzL, frzC, frzs, frzT, lfz, isLeaf, constA, const1, retVal, rvs, resCell, ARet, entry, closed, closed1, closed2, Nat.reduceAdd, Nat.reduceMul, Nat.reduceSub, Nat.reduceLT, Nat.reduceLeDiff, Nat.reduceEqDiff, Nat.reduceBEq, Nat.reduceBNe, reduceIte, reduceCtorEq, Int.reduceToNat, Int.reduceLT, Int.reduceLE, Int.reduceEq, Int.reduceNe, Int.reduceNeg, ARetK, Lk, Ranks.lo, Ranks.hi, Ranks.next, Ranks.eff, aggEq, eqK, c1A, lkV, updA, isCell, cutOwn, storeN, appendN, isU8, elemId, sdataA, ustrA, bldZ, isElem, litRowsN, isOctet, frzL_enc, frzL_encA, Option.map_some] <;> rfl) (hts _) ?_ rfl
    all_goals simp only [zW, zX, tkIface, isWhole, evA, Abs.look, putA, del, keep, astep, builtinA, appendA, pickA, elemOf?, lenA, rowsOf, cellsOf, shiftP, loadA, partA, idxA, binA, intA, strA, eqA, nilP, nilS, nilM, unA, convA, storeA, cellsA, fillA, litRows, pairs, sliceOp, sliceA, isPtr, isStr, tkStr, tkSlice, isByte, byteOf, frz1, frzL, frzC, frzs, frzT, lfz, isLeaf, constA, const1, retVal, rvs, resCell, ARet, entry, closed, closed1, closed2, Nat.reduceAdd, Nat.reduceMul, Nat.reduceSub, Nat.reduceLT, Nat.reduceLeDiff, Nat.reduceEqDiff, Nat.reduceBEq, Nat.reduceBNe, reduceIte, reduceCtorEq, Int.reduceToNat, Int.reduceLT, Int.reduceLE, Int.reduceEq, Int.reduceNe, Int.reduceNeg, ARetK, Lk, Ranks.lo, Ranks.hi, Ranks.next, Ranks.eff, aggEq, eqK, c1A, lkV, updA, isCell, cutOwn, storeN, appendN, isU8, elemId, sdataA, ustrA, bldZ, isElem, litRowsN, isOctet, ti3, ti4, ti5, ti9, ti22, ti23, ti25, ca9, ca11, ca12, cf, Try.results4, hi1, LoopK_eq]
    all_goals refine ⟨⟨i + 1, _, by omega, ?_, rfl⟩, ?_⟩
    all_goals first
      | exact ⟨fun h => ⟨hH1, (take_step h1 h2 hT).2 (of_decide_eq_true h)⟩, fun h => decide_eq_true ((take_step h1 h2 hT).1 h.2)⟩
      | (simp only [intOf]; omega)

theorem typeParts_rec : ∀ t ∈ Try.f4.params.toList, Try.prog.readableRec t = true ∧ t < Try.prog.types.size := by
  rw [Try.params4]
  intro t ht
  simp at ht
  subst ht
  exact ⟨by kernel_rfl, of_decide_eq_true (by kernel_rfl)⟩
set_option maxRecDepth 100000 in
theorem typeParts_lifted (os : Os) (started : os.Started) (H : Type) (enc' : TypeId × Value → H) :
    ReturnsInHanded {} Try.checked os 4 .any (Rows.fnTypePartsSpec.pre6 enc' Try.prog Try.f4 Rows.fnTypePartsRow.domain false) (Rows.fnTypePartsSpec.post enc' Try.prog Try.f4 false true false false) := by
  refine returnsInHanded_of_change (C := Try.checked) ownk started (by kernel_rfl) Try.func4
    (ChangeSpec.witness6 (enc := enc') (C := Try.checked) false ⟨#[], #[.slice none 0 0], []⟩ 8 (by kernel_rfl) (by kernel_rfl) (by kernel_rfl) (by kernel_rfl)) ?_
  intro W base args ds gs before hval0 hW hcnd _
  have hval : ∀ (j : Nat) t v, Try.f4.params[j]? = some t → args[j]? = some v → Value.okWide Try.prog W .any base t v := hval0
  have hW' := hW
  obtain ⟨p, q, hA0, hV, rfl, hfz, hnd⟩ := hW
  have hA : DataW.TrodAll enc' Try.prog W 0 (fun _ => true) true Try.f4.params.toList args.toList ds p := hA0
  rw [Try.params4] at hA hval
  have hlt := hA.lt
  obtain ⟨v0, d0, rfl, rfl, h0⟩ := trodAll_one hA
  obtain ⟨rfl, rfl⟩ := trodVars_none hV
  obtain ⟨x0, r0⟩ := rv_bytes Try.underlying22 Try.underlying5 (by kernel_rfl) (hval 0 22 v0 rfl rfl) h0 (fun x hx => hlt x (by simp [hx]))
  refine (law_calls (typeParts_true x0) (.cons r0 .nil)).mono fun e W' ⟨he, hb⟩ => ?_
  subst he
  exact ⟨_, rfl, law_post laid typeParts_rec rfl Try.underlying4 (by kernel_rfl) ⟨rfl, rfl⟩ rfl hW' hb⟩
theorem typeParts_holds : Rows.FnTypePartsSaid :=
  OpenClaim.holds_of_wide 4 Try.f4 rfl rfl rfl rfl rfl rfl rfl ⟨rfl, rfl, rfl, rfl, rfl⟩ rfl rfl rfl rfl rfl (by kernel_rfl) Try.func4 (by kernel_rfl)
    (of_decide_eq_true (by kernel_rfl)) (by unfold Func.isWrapper; first | (rw [if_pos (by decide +kernel)]; kernel_rfl) | (rw [if_neg (by decide +kernel)]; exact ⟨rfl, rfl⟩))
    (fun os started H enc' _ => typeParts_lifted os started H enc')
end Go.Proofs.Ythflkfpbchgeoaa
