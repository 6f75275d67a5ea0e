/- For every type, however deep, the program's TypeNames answers as the model's TypeNames does, in every field; what it hands back is memory of its own, which neither writing into the argument nor a second call changes, and the argument is not changed. No condition beside the row's own. -/
import Derived.Test.YtfefnoaebafkiaaTyNames
import Derived.Test.YtfefnoaebafkiaaOwnTo
import Derived.Test.YtfefnoaebafkiaaAbsW2
set_option linter.unusedVariables false
set_option linter.unusedSimpArgs false
namespace Go.Proofs.Ytfefnoaebafkiaa
open Go.Abs Go.RowKit Go.ChangeShapes Go.WideShapes Go.ChangeAt Go.ChangeMaps

theorem NmsNew.own {A A' : List Box} {ns : List Nm} {r : AV} (h : NmsNew A ns r A') : ∃ B S, A' = A ++ B ∧ OwnK A' (ns.map nty) r S ∧ S.Nodup ∧ ∀ i ∈ S, A.length ≤ i ∧ i < A'.length := by
  obtain ⟨B, hB, h, _⟩ := h
  rcases h with ⟨rfl, rfl⟩ | ⟨j, rfl, hj, hb⟩
  · exact ⟨B, [], hB, .inl ⟨rfl, rfl, rfl⟩, by simp, by simp⟩
  · exact ⟨B, [j], hB, .inr (.inr ⟨j, _, [], rfl, rfl, hb, ownR_names ns⟩), by simp, by simpa using ⟨hj, live_lt hb (by simp)⟩⟩
def OwnNew (A : List Box) (gk : List Ty) (r : AV) (A' : List Box) : Prop := ∃ B S, A' = A ++ B ∧ OwnK A' gk r S ∧ S.Nodup ∧ ∀ i ∈ S, A.length ≤ i ∧ i < A'.length
/-- the call with what is owned -/
theorem impl_names_b {A : List Box} {τ : Ty} {args : List AV} (hv : Views A args [.agg (enc τ)]) : ACalls Try.prog 24 args A (fun r A' => NmsNew A (nmsOf τ) r A') := by
  refine ACalls.borrow hv ((impl_TypeNames τ _).mono ?_)
  rintro r A' ⟨B, rfl, h, hf⟩
  refine ⟨B, rfl, ?_, hf, B, rfl, ?_, hf⟩
  · rcases h with ⟨rfl, _⟩ | ⟨j, rfl, _, _⟩ <;> rfl
  · rcases h with h | ⟨j, rfl, hj, hb⟩
    · exact .inl h
    · rw [deads_length] at hj
      refine .inr ⟨j, rfl, hj, ?_⟩
      rw [Abs.getD_append_right (by rw [deads_length]; exact hj), deads_length] at hb
      rw [Abs.getD_append_right hj]; exact hb
theorem eqS_b {A : List Box} {ks : List Ty} {v w : AV} {S S' : List Nat} (hl : ks.length < 2 ^ 63) (hk : ∀ t ∈ ks, t.Ok) (h1 : OwnK A ks v S) (h2 : OwnK A ks w S') : ACalls Try.prog 25 [v, w] A (fun r A' => r = .bool true ∧ A' = A) :=
  borrow0 (.cons h1.view (.cons h2.view .nil)) rfl (fun A => laws_eqTypeS ks hl (fun t ht A => laws_eqType t (hk t ht) A) A)
theorem names_okT {ns : List Nm} (h : nOk ns) : ∀ t ∈ ns.map nty, t.Ok := fun t ht => by
  obtain ⟨p, hp, rfl⟩ := List.mem_map.1 ht
  have := h p hp
  exact nty_ok ⟨by omega, by omega⟩
theorem nmsOf_ok (τ : Ty) : nOk (nmsOf τ) ∧ (nmsOf τ).length ≤ 63 := by
  rcases valid_cases τ with ⟨v, rfl, hv⟩ | h
  · rw [nmsOf_toTy hv]
    have := nmsV_len v []
    have h2 := hv.cnt
    exact ⟨nmsV_ok v (by intro q hq; simp at hq) hv.ok, by simp at this; omega⟩
  · rw [nmsOf_bad h]; exact ⟨by intro q hq; simp at hq, by simp⟩
theorem counts_names : ∀ ns : List Nm, counts (ns.map nty) = ns.length
  | [] => rfl
  | p :: ns => by rw [List.map_cons, counts, counts_names ns, nty, count]; simp [counts]; omega
mutual
theorem count_le_sz : ∀ t : Ty, count t ≤ 1 + sz t
  | .mk k m n ks => by rw [count, sz]; have := counts_le_sz ks; omega
theorem counts_le_sz : ∀ l : List Ty, counts l ≤ l.length + szs l
  | [] => by simp [counts]
  | t :: l => by rw [counts, szs, List.length_cons]; have := count_le_sz t; have := counts_le_sz l; omega
end

theorem viewN (A : List Box) (τ : Ty) : View A (.agg (enc τ)) (.agg (enc τ)) := .agg _ _ rfl fun i hi => .leaf _ (enc_leaf τ _ (Abs.getD_mem hi))

set_option maxRecDepth 100000 in
theorem exactTypeNames_true (τ : Ty) (hτ : τ.Ok) : ACalls Try.prog 5 [.agg (encA τ)] [] (fun v _ => v = .bool true) := by
  by_cases hs : sz τ ≤ 1048576
  · obtain ⟨hno, hnl⟩ := nmsOf_ok τ
    have hoks := names_okT hno
    have hcn := counts_names (nmsOf τ)
    have hkl : ((nmsOf τ).map nty).length < 2 ^ 63 := by simp; omega
    have hmS : MarkS ((nmsOf τ).map nty) := laws_markTypeS _ hkl (fun t ht => markS t (hoks t ht))
    have hhS : HeldS ((nmsOf τ).map nty) := laws_heldTypeS _ hkl (fun t ht => heldS t (hoks t ht))
    have hspec : ∀ A, ACalls Try.prog 23 [.agg (enc τ)] A (OwnNew A ((nmsOf τ).map nty)) := fun A => (spec_TypeNames τ hτ (by omega) A).mono fun r A' h => h.own
    have himpl : ∀ A, ACalls Try.prog 24 [.agg (enc τ)] A (OwnNew A ((nmsOf τ).map nty)) := fun A => (impl_TypeNames τ A).mono fun r A' h => h.own
    have htot := laws_toType τ hs
    have heqt := laws_eqType τ hτ
    have himb : ∀ (A : List Box) (args : List AV), Views A args [.agg (enc τ)] → ACalls Try.prog 24 args A (OwnNew A ((nmsOf τ).map nty)) := fun A args h => (impl_names_b h).mono fun r A' h => h.own
    have hcs := count_le_sz τ
    have hsz := fun A l h1 h2 => laws_szType τ hτ A l h1 h2
    obtain ⟨k, m, n, ks, hk⟩ : ∃ k m n ks, τ = .mk k m n ks := by cases τ; exact ⟨_, _, _, _, rfl⟩
    generalize hgk : (nmsOf τ).map nty = gk at *
    rw [← List.length_map (f := nty), hgk] at hnl hcn
    clear hno hgk
    subst hk
    have hton : ∀ A, ACalls Try.prog 12 [.agg (encA (.mk k m n ks))] A (fun r A' => ∃ j, r = .agg [.int .i64 k, .str m, .str n, .own j] ∧ NewK A ks j A') := toType_own _ hs
    have hv1 : left 1048576 (sz (.mk k m n ks)) = 1048576 - sz (.mk k m n ks) := by rw [left, if_pos (by omega)]
    have hn1 : decide ((1048576 : Int) - sz (.mk k m n ks) < 0) = false := decide_eq_false (by omega)
    have hct : count (.mk k m n ks) = 1 + counts ks := by rw [count]
    have hmk := markL_next ks 1
    have hmg := markL_next gk 1
    have hge1 : decide ((markL ks 1).2 < 0) = false := decide_eq_false (by omega)
    have hge2 : decide ((markL gk 1).2 < 0) = false := decide_eq_false (by omega)
    have hne : ∀ x : Int, decide (¬ x = x) = false := fun x => by simp
    refine acalls_enter (cf := cf 69 [0, 1, 2, 3, 4, 5, 6, 7, 8, 9, 10, 15, 26, 31, 42, 50, 53, 60, 65, 68]) foll Try.func5 Try.ntmps5 (by simp [cf]) ?_
    simp only [Try.f5, EnterK_some, zW, zX, tkIface, isWhole, evA, Abs.look, putA, del, keep, astep, builtinA, appendA, pickA, elemOf?, lenA, rowsOf, cellsOf, shiftP, loadA, partA, idxA, binA, intA, strA, eqA, nilP, nilS, nilM, unA, convA, storeA, cellsA, fillA, litRows, pairs, sliceOp, sliceA, isPtr, isStr, tkStr, tkSlice, isByte, byteOf, frz1, frzL, frzC, frzs, frzT, lfz, isLeaf, constA, const1, retVal, rvs, resCell, ARet, entry, closed, closed1, closed2, Nat.reduceAdd, Nat.reduceMul, Nat.reduceSub, Nat.reduceLT, Nat.reduceLeDiff, Nat.reduceEqDiff, Nat.reduceBEq, Nat.reduceBNe, reduceIte, reduceCtorEq, Int.reduceToNat, Int.reduceLT, Int.reduceLE, Int.reduceEq, Int.reduceNe, Int.reduceNeg, ARetK, Lk, Ranks.lo, Ranks.hi, Ranks.next, Ranks.eff, aggEq, eqK, c1A, lkV, updA, isCell, cutOwn, storeN, appendN, isU8, elemId, sdataA, ustrA, bldZ, isElem, litRowsN, isOctet, ti3, ti24, ti29, ca10, ca12, ca14, ca20, ca23, ca24, ca25, ca26, ca27, cf, Try.results5]
    simp only [encA_take]
    refine ⟨by rw [encA_length]; omega, ?_⟩
    refine callK_intro (by simp only [zW, zX, tkIface, isWhole, evA, Abs.look, putA, del, keep, astep, builtinA, appendA, pickA, elemOf?, lenA, rowsOf, cellsOf, shiftP, loadA, partA, idxA, binA, intA, strA, eqA, nilP, nilS, nilM, unA, convA, storeA, cellsA, fillA, litRows, pairs, sliceOp, sliceA, isPtr, isStr, tkStr, tkSlice, isByte, byteOf, frz1, frzL, frzC, frzs, frzT, lfz, isLeaf, constA, const1, retVal, rvs, resCell, ARet, entry, closed, closed1, closed2, Nat.reduceAdd, Nat.reduceMul, Nat.reduceSub, Nat.reduceLT, Nat.reduceLeDiff, Nat.reduceEqDiff, Nat.reduceBEq, Nat.reduceBNe, reduceIte, reduceCtorEq, Int.reduceToNat, Int.reduceLT, Int.reduceLE, Int.reduceEq, Int.reduceNe, Int.reduceNeg, ARetK, Lk, Ranks.lo, Ranks.hi, Ranks.next, Ranks.eff, aggEq, eqK, c1A, lkV, updA, isCell, cutOwn, storeN, appendN, isU8, elemId, sdataA, ustrA, bldZ, isElem, litRowsN, isOctet, frzL_encA, Option.map_some]; rfl) (hsz _ _ (by omega) (by omega)) ?_ rfl; rintro v A' ⟨rfl, rfl⟩
    rw [hv1]
    simp only [zW, zX, tkIface, isWhole, evA, Abs.look, putA, del, keep, astep, builtinA, appendA, pickA, elemOf?, lenA, rowsOf, cellsOf, shiftP, loadA, partA, idxA, binA, intA, strA, eqA, nilP, nilS, nilM, unA, convA, storeA, cellsA, fillA, litRows, pairs, sliceOp, sliceA, isPtr, isStr, tkStr, tkSlice, isByte, byteOf, frz1, frzL, frzC, frzs, frzT, lfz, isLeaf, constA, const1, retVal, rvs, resCell, ARet, entry, closed, closed1, closed2, Nat.reduceAdd, Nat.reduceMul, Nat.reduceSub, Nat.reduceLT, Nat.reduceLeDiff, Nat.reduceEqDiff, Nat.reduceBEq, Nat.reduceBNe, reduceIte, reduceCtorEq, Int.reduceToNat, Int.reduceLT, Int.reduceLE, Int.reduceEq, Int.reduceNe, Int.reduceNeg, ARetK, Lk, Ranks.lo, Ranks.hi, Ranks.next, Ranks.eff, aggEq, eqK, c1A, lkV, updA, isCell, cutOwn, storeN, appendN, isU8, elemId, sdataA, ustrA, bldZ, isElem, litRowsN, isOctet, ti3, ti24, ti29, ca10, ca12, ca14, ca20, ca23, ca24, ca25, ca26, ca27, cf, Try.results5, hn1, encA_take, encA_length]
    refine callK_intro (by simp only [zW, zX, tkIface, isWhole, evA, Abs.look, putA, del, keep, astep, builtinA, appendA, pickA, elemOf?, lenA, rowsOf, cellsOf, shiftP, loadA, partA, idxA, binA, intA, strA, eqA, nilP, nilS, nilM, unA, convA, storeA, cellsA, fillA, litRows, pairs, sliceOp, sliceA, isPtr, isStr, tkStr, tkSlice, isByte, byteOf, frz1, frzL, frzC, frzs, frzT, lfz, isLeaf, constA, const1, retVal, rvs, resCell, ARet, entry, closed, closed1, closed2, Nat.reduceAdd, Nat.reduceMul, Nat.reduceSub, Nat.reduceLT, Nat.reduceLeDiff, Nat.reduceEqDiff, Nat.reduceBEq, Nat.reduceBNe, reduceIte, reduceCtorEq, Int.reduceToNat, Int.reduceLT, Int.reduceLE, Int.reduceEq, Int.reduceNe, Int.reduceNeg, ARetK, Lk, Ranks.lo, Ranks.hi, Ranks.next, Ranks.eff, aggEq, eqK, c1A, lkV, updA, isCell, cutOwn, storeN, appendN, isU8, elemId, sdataA, ustrA, bldZ, isElem, litRowsN, isOctet, frzL_encA, Option.map_some]; rfl) (htot _) ?_ rfl; rintro v A' ⟨rfl, rfl⟩
    simp only [zW, zX, tkIface, isWhole, evA, Abs.look, putA, del, keep, astep, builtinA, appendA, pickA, elemOf?, lenA, rowsOf, cellsOf, shiftP, loadA, partA, idxA, binA, intA, strA, eqA, nilP, nilS, nilM, unA, convA, storeA, cellsA, fillA, litRows, pairs, sliceOp, sliceA, isPtr, isStr, tkStr, tkSlice, isByte, byteOf, frz1, frzL, frzC, frzs, frzT, lfz, isLeaf, constA, const1, retVal, rvs, resCell, ARet, entry, closed, closed1, closed2, Nat.reduceAdd, Nat.reduceMul, Nat.reduceSub, Nat.reduceLT, Nat.reduceLeDiff, Nat.reduceEqDiff, Nat.reduceBEq, Nat.reduceBNe, reduceIte, reduceCtorEq, Int.reduceToNat, Int.reduceLT, Int.reduceLE, Int.reduceEq, Int.reduceNe, Int.reduceNeg, ARetK, Lk, Ranks.lo, Ranks.hi, Ranks.next, Ranks.eff, aggEq, eqK, c1A, lkV, updA, isCell, cutOwn, storeN, appendN, isU8, elemId, sdataA, ustrA, bldZ, isElem, litRowsN, isOctet, ti3, ti24, ti29, ca10, ca12, ca14, ca20, ca23, ca24, ca25, ca26, ca27, cf, Try.results5, enc_take, enc_length]
    refine callK_intro (by simp only [zW, zX, tkIface, isWhole, evA, Abs.look, putA, del, keep, astep, builtinA, appendA, pickA, elemOf?, lenA, rowsOf, cellsOf, shiftP, loadA, partA, idxA, binA, intA, strA, eqA, nilP, nilS, nilM, unA, convA, storeA, cellsA, fillA, litRows, pairs, sliceOp, sliceA, isPtr, isStr, tkStr, tkSlice, isByte, byteOf, frz1, frzL, frzC, frzs, frzT, lfz, isLeaf, constA, const1, retVal, rvs, resCell, ARet, entry, closed, closed1, closed2, Nat.reduceAdd, Nat.reduceMul, Nat.reduceSub, Nat.reduceLT, Nat.reduceLeDiff, Nat.reduceEqDiff, Nat.reduceBEq, Nat.reduceBNe, reduceIte, reduceCtorEq, Int.reduceToNat, Int.reduceLT, Int.reduceLE, Int.reduceEq, Int.reduceNe, Int.reduceNeg, ARetK, Lk, Ranks.lo, Ranks.hi, Ranks.next, Ranks.eff, aggEq, eqK, c1A, lkV, updA, isCell, cutOwn, storeN, appendN, isU8, elemId, sdataA, ustrA, bldZ, isElem, litRowsN, isOctet, frzL_enc, Option.map_some] <;> rfl) (hspec _) ?_ rfl
    rintro w A1 ⟨B1, S1, rfl, hw1, hN1, hR1⟩
    simp only [zW, zX, tkIface, isWhole, evA, Abs.look, putA, del, keep, astep, builtinA, appendA, pickA, elemOf?, lenA, rowsOf, cellsOf, shiftP, loadA, partA, idxA, binA, intA, strA, eqA, nilP, nilS, nilM, unA, convA, storeA, cellsA, fillA, litRows, pairs, sliceOp, sliceA, isPtr, isStr, tkStr, tkSlice, isByte, byteOf, frz1, frzL, frzC, frzs, frzT, lfz, isLeaf, constA, const1, retVal, rvs, resCell, ARet, entry, closed, closed1, closed2, Nat.reduceAdd, Nat.reduceMul, Nat.reduceSub, Nat.reduceLT, Nat.reduceLeDiff, Nat.reduceEqDiff, Nat.reduceBEq, Nat.reduceBNe, reduceIte, reduceCtorEq, Int.reduceToNat, Int.reduceLT, Int.reduceLE, Int.reduceEq, Int.reduceNe, Int.reduceNeg, ARetK, Lk, Ranks.lo, Ranks.hi, Ranks.next, Ranks.eff, aggEq, eqK, c1A, lkV, updA, isCell, cutOwn, storeN, appendN, isU8, elemId, sdataA, ustrA, bldZ, isElem, litRowsN, isOctet, ti3, ti24, ti29, ca10, ca12, ca14, ca20, ca23, ca24, ca25, ca26, ca27, cf, Try.results5, encA_take, encA_length]
    simp only [List.cons_append, List.nil_append] at hw1 hR1
    generalize hA1 : Box.cells (encA (Ty.mk k m n ks)) :: B1 = A1 at *
    have b0 : A1.getD 0 .dead = .cells (encA (.mk k m n ks)) := by rw [← hA1]; rfl
    have l0 : 0 < A1.length := by rw [← hA1]; simp
    clear hA1
    refine callK_intro (by simp only [zW, zX, tkIface, isWhole, evA, Abs.look, putA, del, keep, astep, builtinA, appendA, pickA, elemOf?, lenA, rowsOf, cellsOf, shiftP, loadA, partA, idxA, binA, intA, strA, eqA, nilP, nilS, nilM, unA, convA, storeA, cellsA, fillA, litRows, pairs, sliceOp, sliceA, isPtr, isStr, tkStr, tkSlice, isByte, byteOf, frz1, frzL, frzC, frzs, frzT, lfz, isLeaf, constA, const1, retVal, rvs, resCell, ARet, entry, closed, closed1, closed2, Nat.reduceAdd, Nat.reduceMul, Nat.reduceSub, Nat.reduceLT, Nat.reduceLeDiff, Nat.reduceEqDiff, Nat.reduceBEq, Nat.reduceBNe, reduceIte, reduceCtorEq, Int.reduceToNat, Int.reduceLT, Int.reduceLE, Int.reduceEq, Int.reduceNe, Int.reduceNeg, ARetK, Lk, Ranks.lo, Ranks.hi, Ranks.next, Ranks.eff, aggEq, eqK, c1A, lkV, updA, isCell, cutOwn, storeN, appendN, isU8, elemId, sdataA, ustrA, bldZ, isElem, litRowsN, isOctet, frzL_encA, Option.map_some] <;> rfl) (hton _) ?_ rfl
    rintro r A2 ⟨jx, rfl, hle2, hf2, rows, Sx, hgx, hRx, hNx, hgex⟩
    have hx2 : OwnK A2 ks (.own jx) (jx :: Sx) := .inr (.inr ⟨jx, rows, Sx, rfl, rfl, hgx, hRx⟩)
    have hlx := hx2.low
    have hw2 : OwnK A2 gk w S1 := hw1.frame fun i hi => hf2 i (hR1 i hi).2
    have e2 : A2.getD 0 .dead = .cells (encA (.mk k m n ks)) := by rw [hf2 0 l0]; exact b0
    have hA2 : 0 < A2.length := by omega
    have g3 : ∀ B : List Box, (A2 ++ B).getD 0 .dead = .cells (encA (.mk k m n ks)) := fun B => by rw [Abs.getD_append_left hA2]; exact e2
    have gx3 : (A2 ++ [Box.cells [.int .i64 k, .str m, .str n, .own jx]]).getD A2.length .dead = .cells [.int .i64 k, .str m, .str n, .own jx] := by rw [Abs.getD_append_right (Nat.le_refl _)]; simp
    simp only [zW, zX, tkIface, isWhole, evA, Abs.look, putA, del, keep, astep, builtinA, appendA, pickA, elemOf?, lenA, rowsOf, cellsOf, shiftP, loadA, partA, idxA, binA, intA, strA, eqA, nilP, nilS, nilM, unA, convA, storeA, cellsA, fillA, litRows, pairs, sliceOp, sliceA, isPtr, isStr, tkStr, tkSlice, isByte, byteOf, frz1, frzL, frzC, frzs, frzT, lfz, isLeaf, constA, const1, retVal, rvs, resCell, ARet, entry, closed, closed1, closed2, Nat.reduceAdd, Nat.reduceMul, Nat.reduceSub, Nat.reduceLT, Nat.reduceLeDiff, Nat.reduceEqDiff, Nat.reduceBEq, Nat.reduceBNe, reduceIte, reduceCtorEq, Int.reduceToNat, Int.reduceLT, Int.reduceLE, Int.reduceEq, Int.reduceNe, Int.reduceNeg, ARetK, Lk, Ranks.lo, Ranks.hi, Ranks.next, Ranks.eff, aggEq, eqK, c1A, lkV, updA, isCell, cutOwn, storeN, appendN, isU8, elemId, sdataA, ustrA, bldZ, isElem, litRowsN, isOctet, ti3, ti24, ti29, ca10, ca12, ca14, ca20, ca23, ca24, ca25, ca26, ca27, cf, Try.results5, g3, gx3, encA_take, encA_length]
    have hx3 : OwnK (A2 ++ [Box.cells [.int .i64 k, .str m, .str n, .own jx]]) ks (.own jx) (jx :: Sx) := hx2.frame fun i hi => Abs.getD_append_left (hlx i hi)
    have hw3 : OwnK (A2 ++ [Box.cells [.int .i64 k, .str m, .str n, .own jx]]) gk w S1 := hw2.frame fun i hi => Abs.getD_append_left (by have := (hR1 i hi).2; omega)
    refine callO_intro (himb _ _ (.cons (hx3.viewT k m n) .nil)) ?_
    rintro g A4 ⟨B4, S4, hA4, hg4, hN4, hR4⟩
    have hl3 : (A2 ++ [Box.cells [.int .i64 k, .str m, .str n, .own jx]]).length = A2.length + 1 := by simp
    rw [hl3] at hR4
    have f4 : ∀ i, i < A2.length + 1 → A4.getD i .dead = (A2 ++ [Box.cells [.int .i64 k, .str m, .str n, .own jx]]).getD i .dead := fun i hi => by rw [hA4, Abs.getD_append_left (by omega)]
    have l4 : A2.length + 1 ≤ A4.length := by rw [hA4]; simp
    clear hA4
    have hx4 : OwnK A4 ks (.own jx) (jx :: Sx) := hx3.frame fun i hi => f4 i (by have := hlx i hi; omega)
    have hw4 : OwnK A4 gk w S1 := hw3.frame fun i hi => f4 i (by have := (hR1 i hi).2; omega)
    have g4 : A4.getD 0 .dead = .cells (encA (.mk k m n ks)) := by rw [f4 0 (by omega)]; exact g3 _
    have gx4 : A4.getD A2.length .dead = .cells [.int .i64 k, .str m, .str n, .own jx] := by rw [f4 _ (by omega)]; exact gx3
    simp only [zW, zX, tkIface, isWhole, evA, Abs.look, putA, del, keep, astep, builtinA, appendA, pickA, elemOf?, lenA, rowsOf, cellsOf, shiftP, loadA, partA, idxA, binA, intA, strA, eqA, nilP, nilS, nilM, unA, convA, storeA, cellsA, fillA, litRows, pairs, sliceOp, sliceA, isPtr, isStr, tkStr, tkSlice, isByte, byteOf, frz1, frzL, frzC, frzs, frzT, lfz, isLeaf, constA, const1, retVal, rvs, resCell, ARet, entry, closed, closed1, closed2, Nat.reduceAdd, Nat.reduceMul, Nat.reduceSub, Nat.reduceLT, Nat.reduceLeDiff, Nat.reduceEqDiff, Nat.reduceBEq, Nat.reduceBNe, reduceIte, reduceCtorEq, Int.reduceToNat, Int.reduceLT, Int.reduceLE, Int.reduceEq, Int.reduceNe, Int.reduceNeg, ARetK, Lk, Ranks.lo, Ranks.hi, Ranks.next, Ranks.eff, aggEq, eqK, c1A, lkV, updA, isCell, cutOwn, storeN, appendN, isU8, elemId, sdataA, ustrA, bldZ, isElem, litRowsN, isOctet, ti3, ti24, ti29, ca10, ca12, ca14, ca20, ca23, ca24, ca25, ca26, ca27, cf, Try.results5]
    refine callO_intro (eqS_b hkl hoks hg4 hw4) ?_
    rintro r A' ⟨rfl, rfl⟩
    simp only [zW, zX, tkIface, isWhole, evA, Abs.look, putA, del, keep, astep, builtinA, appendA, pickA, elemOf?, lenA, rowsOf, cellsOf, shiftP, loadA, partA, idxA, binA, intA, strA, eqA, nilP, nilS, nilM, unA, convA, storeA, cellsA, fillA, litRows, pairs, sliceOp, sliceA, isPtr, isStr, tkStr, tkSlice, isByte, byteOf, frz1, frzL, frzC, frzs, frzT, lfz, isLeaf, constA, const1, retVal, rvs, resCell, ARet, entry, closed, closed1, closed2, Nat.reduceAdd, Nat.reduceMul, Nat.reduceSub, Nat.reduceLT, Nat.reduceLeDiff, Nat.reduceEqDiff, Nat.reduceBEq, Nat.reduceBNe, reduceIte, reduceCtorEq, Int.reduceToNat, Int.reduceLT, Int.reduceLE, Int.reduceEq, Int.reduceNe, Int.reduceNeg, ARetK, Lk, Ranks.lo, Ranks.hi, Ranks.next, Ranks.eff, aggEq, eqK, c1A, lkV, updA, isCell, cutOwn, storeN, appendN, isU8, elemId, sdataA, ustrA, bldZ, isElem, litRowsN, isOctet, ti3, ti24, ti29, ca10, ca12, ca14, ca20, ca23, ca24, ca25, ca26, ca27, cf, Try.results5, g4, gx4, encA_take, encA_length]
    refine .inl ⟨by kernel_rfl, by kernel_rfl, ?_⟩
    refine callD_intro (by simp only [zW, zX, tkIface, isWhole, evA, Abs.look, putA, del, keep, astep, builtinA, appendA, pickA, elemOf?, lenA, rowsOf, cellsOf, shiftP, loadA, partA, idxA, binA, intA, strA, eqA, nilP, nilS, nilM, unA, convA, storeA, cellsA, fillA, litRows, pairs, sliceOp, sliceA, isPtr, isStr, tkStr, tkSlice, isByte, byteOf, frz1, frzL, frzC, frzs, frzT, lfz, isLeaf, constA, const1, retVal, rvs, resCell, ARet, entry, closed, closed1, closed2, Nat.reduceAdd, Nat.reduceMul, Nat.reduceSub, Nat.reduceLT, Nat.reduceLeDiff, Nat.reduceEqDiff, Nat.reduceBEq, Nat.reduceBNe, reduceIte, reduceCtorEq, Int.reduceToNat, Int.reduceLT, Int.reduceLE, Int.reduceEq, Int.reduceNe, Int.reduceNeg, ARetK, Lk, Ranks.lo, Ranks.hi, Ranks.next, Ranks.eff, aggEq, eqK, c1A, lkV, updA, isCell, cutOwn, storeN, appendN, isU8, elemId, sdataA, ustrA, bldZ, isElem, litRowsN, isOctet, frzL_encA, Option.map_some] <;> rfl) (htot _) ?_ rfl
    simp only [zW, zX, tkIface, isWhole, evA, Abs.look, putA, del, keep, astep, builtinA, appendA, pickA, elemOf?, lenA, rowsOf, cellsOf, shiftP, loadA, partA, idxA, binA, intA, strA, eqA, nilP, nilS, nilM, unA, convA, storeA, cellsA, fillA, litRows, pairs, sliceOp, sliceA, isPtr, isStr, tkStr, tkSlice, isByte, byteOf, frz1, frzL, frzC, frzs, frzT, lfz, isLeaf, constA, const1, retVal, rvs, resCell, ARet, entry, closed, closed1, closed2, Nat.reduceAdd, Nat.reduceMul, Nat.reduceSub, Nat.reduceLT, Nat.reduceLeDiff, Nat.reduceEqDiff, Nat.reduceBEq, Nat.reduceBNe, reduceIte, reduceCtorEq, Int.reduceToNat, Int.reduceLT, Int.reduceLE, Int.reduceEq, Int.reduceNe, Int.reduceNeg, ARetK, Lk, Ranks.lo, Ranks.hi, Ranks.next, Ranks.eff, aggEq, eqK, c1A, lkV, updA, isCell, cutOwn, storeN, appendN, isU8, elemId, sdataA, ustrA, bldZ, isElem, litRowsN, isOctet, ti3, ti24, ti29, ca10, ca12, ca14, ca20, ca23, ca24, ca25, ca26, ca27, cf, Try.results5, g4, gx4, enc_take, enc_length]
    refine callDO_intro (borrow0 (.cons (hx4.viewT k m n) (.cons (viewN _ _) .nil)) rfl heqt) ?_
    simp only [zW, zX, tkIface, isWhole, evA, Abs.look, putA, del, keep, astep, builtinA, appendA, pickA, elemOf?, lenA, rowsOf, cellsOf, shiftP, loadA, partA, idxA, binA, intA, strA, eqA, nilP, nilS, nilM, unA, convA, storeA, cellsA, fillA, litRows, pairs, sliceOp, sliceA, isPtr, isStr, tkStr, tkSlice, isByte, byteOf, frz1, frzL, frzC, frzs, frzT, lfz, isLeaf, constA, const1, retVal, rvs, resCell, ARet, entry, closed, closed1, closed2, Nat.reduceAdd, Nat.reduceMul, Nat.reduceSub, Nat.reduceLT, Nat.reduceLeDiff, Nat.reduceEqDiff, Nat.reduceBEq, Nat.reduceBNe, reduceIte, reduceCtorEq, Int.reduceToNat, Int.reduceLT, Int.reduceLE, Int.reduceEq, Int.reduceNe, Int.reduceNeg, ARetK, Lk, Ranks.lo, Ranks.hi, Ranks.next, Ranks.eff, aggEq, eqK, c1A, lkV, updA, isCell, cutOwn, storeN, appendN, isU8, elemId, sdataA, ustrA, bldZ, isElem, litRowsN, isOctet, ti3, ti24, ti29, ca10, ca12, ca14, ca20, ca23, ca24, ca25, ca26, ca27, cf, Try.results5, g4, gx4]
    have hSx : ∀ i ∈ jx :: Sx, 0 < i ∧ i < A2.length := fun i hi => ⟨by have := hgex i hi; omega, hlx i hi⟩
    refine callO_intro (laws_markType k m n ks hτ _ (.own jx) (jx :: Sx) 1 hx4 hNx (by omega) (by omega)) ?_
    rintro r A5 ⟨rfl, l5, hx5, f5⟩
    have g5 : A5.getD 0 .dead = .cells (encA (.mk k m n ks)) := by rw [f5 0 (by omega) (fun h => by have := hSx 0 h; omega)]; exact g4
    have hw5 : OwnK A5 gk w S1 := hw4.frame fun i hi => f5 i (by have := (hR1 i hi).2; omega) (fun h => by have := hgex i h; have := (hR1 i hi).2; omega)
    have hg5 : OwnK A5 gk g S4 := hg4.frame fun i hi => f5 i (hR4 i hi).2 (fun h => by have := hlx i h; have := (hR4 i hi).1; omega)
    clear f5
    simp only [zW, zX, tkIface, isWhole, evA, Abs.look, putA, del, keep, astep, builtinA, appendA, pickA, elemOf?, lenA, rowsOf, cellsOf, shiftP, loadA, partA, idxA, binA, intA, strA, eqA, nilP, nilS, nilM, unA, convA, storeA, cellsA, fillA, litRows, pairs, sliceOp, sliceA, isPtr, isStr, tkStr, tkSlice, isByte, byteOf, frz1, frzL, frzC, frzs, frzT, lfz, isLeaf, constA, const1, retVal, rvs, resCell, ARet, entry, closed, closed1, closed2, Nat.reduceAdd, Nat.reduceMul, Nat.reduceSub, Nat.reduceLT, Nat.reduceLeDiff, Nat.reduceEqDiff, Nat.reduceBEq, Nat.reduceBNe, reduceIte, reduceCtorEq, Int.reduceToNat, Int.reduceLT, Int.reduceLE, Int.reduceEq, Int.reduceNe, Int.reduceNeg, ARetK, Lk, Ranks.lo, Ranks.hi, Ranks.next, Ranks.eff, aggEq, eqK, c1A, lkV, updA, isCell, cutOwn, storeN, appendN, isU8, elemId, sdataA, ustrA, bldZ, isElem, litRowsN, isOctet, ti3, ti24, ti29, ca10, ca12, ca14, ca20, ca23, ca24, ca25, ca26, ca27, cf, Try.results5, hge1]
    refine callO_intro (eqS_b hkl hoks hg5 hw5) ?_
    rintro r A' ⟨rfl, rfl⟩
    simp only [zW, zX, tkIface, isWhole, evA, Abs.look, putA, del, keep, astep, builtinA, appendA, pickA, elemOf?, lenA, rowsOf, cellsOf, shiftP, loadA, partA, idxA, binA, intA, strA, eqA, nilP, nilS, nilM, unA, convA, storeA, cellsA, fillA, litRows, pairs, sliceOp, sliceA, isPtr, isStr, tkStr, tkSlice, isByte, byteOf, frz1, frzL, frzC, frzs, frzT, lfz, isLeaf, constA, const1, retVal, rvs, resCell, ARet, entry, closed, closed1, closed2, Nat.reduceAdd, Nat.reduceMul, Nat.reduceSub, Nat.reduceLT, Nat.reduceLeDiff, Nat.reduceEqDiff, Nat.reduceBEq, Nat.reduceBNe, reduceIte, reduceCtorEq, Int.reduceToNat, Int.reduceLT, Int.reduceLE, Int.reduceEq, Int.reduceNe, Int.reduceNeg, ARetK, Lk, Ranks.lo, Ranks.hi, Ranks.next, Ranks.eff, aggEq, eqK, c1A, lkV, updA, isCell, cutOwn, storeN, appendN, isU8, elemId, sdataA, ustrA, bldZ, isElem, litRowsN, isOctet, ti3, ti24, ti29, ca10, ca12, ca14, ca20, ca23, ca24, ca25, ca26, ca27, cf, Try.results5, hge1]
    refine callO_intro (hmS _ g S4 1 hg5 hN4 (by omega) (by omega)) ?_
    rintro r A6 ⟨rfl, l6, hg6, f6⟩
    have g6 : A6.getD 0 .dead = .cells (encA (.mk k m n ks)) := by rw [f6 0 (fun h => by have := (hR4 0 h).1; omega)]; exact g5
    have hw6 : OwnK A6 gk w S1 := hw5.frame fun i hi => f6 i (fun h => by have := (hR4 i h).1; have := (hR1 i hi).2; omega)
    clear f6
    simp only [zW, zX, tkIface, isWhole, evA, Abs.look, putA, del, keep, astep, builtinA, appendA, pickA, elemOf?, lenA, rowsOf, cellsOf, shiftP, loadA, partA, idxA, binA, intA, strA, eqA, nilP, nilS, nilM, unA, convA, storeA, cellsA, fillA, litRows, pairs, sliceOp, sliceA, isPtr, isStr, tkStr, tkSlice, isByte, byteOf, frz1, frzL, frzC, frzs, frzT, lfz, isLeaf, constA, const1, retVal, rvs, resCell, ARet, entry, closed, closed1, closed2, Nat.reduceAdd, Nat.reduceMul, Nat.reduceSub, Nat.reduceLT, Nat.reduceLeDiff, Nat.reduceEqDiff, Nat.reduceBEq, Nat.reduceBNe, reduceIte, reduceCtorEq, Int.reduceToNat, Int.reduceLT, Int.reduceLE, Int.reduceEq, Int.reduceNe, Int.reduceNeg, ARetK, Lk, Ranks.lo, Ranks.hi, Ranks.next, Ranks.eff, aggEq, eqK, c1A, lkV, updA, isCell, cutOwn, storeN, appendN, isU8, elemId, sdataA, ustrA, bldZ, isElem, litRowsN, isOctet, ti3, ti24, ti29, ca10, ca12, ca14, ca20, ca23, ca24, ca25, ca26, ca27, cf, Try.results5]
    refine callO_intro (borrow0 (.cons hg6.view (.cons (.leaf _ rfl) .nil)) rfl (fun A => hhS A 1 (by omega) (by omega))) ?_
    rintro r A' ⟨rfl, rfl⟩
    simp only [zW, zX, tkIface, isWhole, evA, Abs.look, putA, del, keep, astep, builtinA, appendA, pickA, elemOf?, lenA, rowsOf, cellsOf, shiftP, loadA, partA, idxA, binA, intA, strA, eqA, nilP, nilS, nilM, unA, convA, storeA, cellsA, fillA, litRows, pairs, sliceOp, sliceA, isPtr, isStr, tkStr, tkSlice, isByte, byteOf, frz1, frzL, frzC, frzs, frzT, lfz, isLeaf, constA, const1, retVal, rvs, resCell, ARet, entry, closed, closed1, closed2, Nat.reduceAdd, Nat.reduceMul, Nat.reduceSub, Nat.reduceLT, Nat.reduceLeDiff, Nat.reduceEqDiff, Nat.reduceBEq, Nat.reduceBNe, reduceIte, reduceCtorEq, Int.reduceToNat, Int.reduceLT, Int.reduceLE, Int.reduceEq, Int.reduceNe, Int.reduceNeg, ARetK, Lk, Ranks.lo, Ranks.hi, Ranks.next, Ranks.eff, aggEq, eqK, c1A, lkV, updA, isCell, cutOwn, storeN, appendN, isU8, elemId, sdataA, ustrA, bldZ, isElem, litRowsN, isOctet, ti3, ti24, ti29, ca10, ca12, ca14, ca20, ca23, ca24, ca25, ca26, ca27, cf, Try.results5, hge2, hne, g6, encA_take, encA_length]
    refine callK_intro (by simp only [zW, zX, tkIface, isWhole, evA, Abs.look, putA, del, keep, astep, builtinA, appendA, pickA, elemOf?, lenA, rowsOf, cellsOf, shiftP, loadA, partA, idxA, binA, intA, strA, eqA, nilP, nilS, nilM, unA, convA, storeA, cellsA, fillA, litRows, pairs, sliceOp, sliceA, isPtr, isStr, tkStr, tkSlice, isByte, byteOf, frz1, frzL, frzC, frzs, frzT, lfz, isLeaf, constA, const1, retVal, rvs, resCell, ARet, entry, closed, closed1, closed2, Nat.reduceAdd, Nat.reduceMul, Nat.reduceSub, Nat.reduceLT, Nat.reduceLeDiff, Nat.reduceEqDiff, Nat.reduceBEq, Nat.reduceBNe, reduceIte, reduceCtorEq, Int.reduceToNat, Int.reduceLT, Int.reduceLE, Int.reduceEq, Int.reduceNe, Int.reduceNeg, ARetK, Lk, Ranks.lo, Ranks.hi, Ranks.next, Ranks.eff, aggEq, eqK, c1A, lkV, updA, isCell, cutOwn, storeN, appendN, isU8, elemId, sdataA, ustrA, bldZ, isElem, litRowsN, isOctet, frzL_encA, Option.map_some]; rfl) (htot _) ?_ rfl; rintro v A' ⟨rfl, rfl⟩
    simp only [zW, zX, tkIface, isWhole, evA, Abs.look, putA, del, keep, astep, builtinA, appendA, pickA, elemOf?, lenA, rowsOf, cellsOf, shiftP, loadA, partA, idxA, binA, intA, strA, eqA, nilP, nilS, nilM, unA, convA, storeA, cellsA, fillA, litRows, pairs, sliceOp, sliceA, isPtr, isStr, tkStr, tkSlice, isByte, byteOf, frz1, frzL, frzC, frzs, frzT, lfz, isLeaf, constA, const1, retVal, rvs, resCell, ARet, entry, closed, closed1, closed2, Nat.reduceAdd, Nat.reduceMul, Nat.reduceSub, Nat.reduceLT, Nat.reduceLeDiff, Nat.reduceEqDiff, Nat.reduceBEq, Nat.reduceBNe, reduceIte, reduceCtorEq, Int.reduceToNat, Int.reduceLT, Int.reduceLE, Int.reduceEq, Int.reduceNe, Int.reduceNeg, ARetK, Lk, Ranks.lo, Ranks.hi, Ranks.next, Ranks.eff, aggEq, eqK, c1A, lkV, updA, isCell, cutOwn, storeN, appendN, isU8, elemId, sdataA, ustrA, bldZ, isElem, litRowsN, isOctet, ti3, ti24, ti29, ca10, ca12, ca14, ca20, ca23, ca24, ca25, ca26, ca27, cf, Try.results5, enc_take, enc_length]
    refine callK_intro (by simp only [zW, zX, tkIface, isWhole, evA, Abs.look, putA, del, keep, astep, builtinA, appendA, pickA, elemOf?, lenA, rowsOf, cellsOf, shiftP, loadA, partA, idxA, binA, intA, strA, eqA, nilP, nilS, nilM, unA, convA, storeA, cellsA, fillA, litRows, pairs, sliceOp, sliceA, isPtr, isStr, tkStr, tkSlice, isByte, byteOf, frz1, frzL, frzC, frzs, frzT, lfz, isLeaf, constA, const1, retVal, rvs, resCell, ARet, entry, closed, closed1, closed2, Nat.reduceAdd, Nat.reduceMul, Nat.reduceSub, Nat.reduceLT, Nat.reduceLeDiff, Nat.reduceEqDiff, Nat.reduceBEq, Nat.reduceBNe, reduceIte, reduceCtorEq, Int.reduceToNat, Int.reduceLT, Int.reduceLE, Int.reduceEq, Int.reduceNe, Int.reduceNeg, ARetK, Lk, Ranks.lo, Ranks.hi, Ranks.next, Ranks.eff, aggEq, eqK, c1A, lkV, updA, isCell, cutOwn, storeN, appendN, isU8, elemId, sdataA, ustrA, bldZ, isElem, litRowsN, isOctet, frzL_enc, Option.map_some] <;> rfl) (himpl _) ?_ rfl
    rintro h A7 ⟨B7, S7, rfl, hh7, hN7, hR7⟩
    have hlg := hg6.low
    have hlw := hw6.low
    have hg7 : OwnK (A' ++ B7) (markL gk 1).1 g S4 := hg6.frame fun i hi => Abs.getD_append_left (hlg i hi)
    have hw7 : OwnK (A' ++ B7) gk w S1 := hw6.frame fun i hi => Abs.getD_append_left (hlw i hi)
    simp only [zW, zX, tkIface, isWhole, evA, Abs.look, putA, del, keep, astep, builtinA, appendA, pickA, elemOf?, lenA, rowsOf, cellsOf, shiftP, loadA, partA, idxA, binA, intA, strA, eqA, nilP, nilS, nilM, unA, convA, storeA, cellsA, fillA, litRows, pairs, sliceOp, sliceA, isPtr, isStr, tkStr, tkSlice, isByte, byteOf, frz1, frzL, frzC, frzs, frzT, lfz, isLeaf, constA, const1, retVal, rvs, resCell, ARet, entry, closed, closed1, closed2, Nat.reduceAdd, Nat.reduceMul, Nat.reduceSub, Nat.reduceLT, Nat.reduceLeDiff, Nat.reduceEqDiff, Nat.reduceBEq, Nat.reduceBNe, reduceIte, reduceCtorEq, Int.reduceToNat, Int.reduceLT, Int.reduceLE, Int.reduceEq, Int.reduceNe, Int.reduceNeg, ARetK, Lk, Ranks.lo, Ranks.hi, Ranks.next, Ranks.eff, aggEq, eqK, c1A, lkV, updA, isCell, cutOwn, storeN, appendN, isU8, elemId, sdataA, ustrA, bldZ, isElem, litRowsN, isOctet, ti3, ti24, ti29, ca10, ca12, ca14, ca20, ca23, ca24, ca25, ca26, ca27, cf, Try.results5]
    refine callO_intro (eqS_b hkl hoks hh7 hw7) ?_
    rintro r A'' ⟨rfl, rfl⟩
    simp only [zW, zX, tkIface, isWhole, evA, Abs.look, putA, del, keep, astep, builtinA, appendA, pickA, elemOf?, lenA, rowsOf, cellsOf, shiftP, loadA, partA, idxA, binA, intA, strA, eqA, nilP, nilS, nilM, unA, convA, storeA, cellsA, fillA, litRows, pairs, sliceOp, sliceA, isPtr, isStr, tkStr, tkSlice, isByte, byteOf, frz1, frzL, frzC, frzs, frzT, lfz, isLeaf, constA, const1, retVal, rvs, resCell, ARet, entry, closed, closed1, closed2, Nat.reduceAdd, Nat.reduceMul, Nat.reduceSub, Nat.reduceLT, Nat.reduceLeDiff, Nat.reduceEqDiff, Nat.reduceBEq, Nat.reduceBNe, reduceIte, reduceCtorEq, Int.reduceToNat, Int.reduceLT, Int.reduceLE, Int.reduceEq, Int.reduceNe, Int.reduceNeg, ARetK, Lk, Ranks.lo, Ranks.hi, Ranks.next, Ranks.eff, aggEq, eqK, c1A, lkV, updA, isCell, cutOwn, storeN, appendN, isU8, elemId, sdataA, ustrA, bldZ, isElem, litRowsN, isOctet, ti3, ti24, ti29, ca10, ca12, ca14, ca20, ca23, ca24, ca25, ca26, ca27, cf, Try.results5]
    refine callO_intro (borrow0 (.cons hg7.view (.cons (.leaf _ rfl) .nil)) rfl (fun A => hhS A 1 (by omega) (by omega))) ?_
    rintro r A'' ⟨rfl, rfl⟩
    simp only [zW, zX, tkIface, isWhole, evA, Abs.look, putA, del, keep, astep, builtinA, appendA, pickA, elemOf?, lenA, rowsOf, cellsOf, shiftP, loadA, partA, idxA, binA, intA, strA, eqA, nilP, nilS, nilM, unA, convA, storeA, cellsA, fillA, litRows, pairs, sliceOp, sliceA, isPtr, isStr, tkStr, tkSlice, isByte, byteOf, frz1, frzL, frzC, frzs, frzT, lfz, isLeaf, constA, const1, retVal, rvs, resCell, ARet, entry, closed, closed1, closed2, Nat.reduceAdd, Nat.reduceMul, Nat.reduceSub, Nat.reduceLT, Nat.reduceLeDiff, Nat.reduceEqDiff, Nat.reduceBEq, Nat.reduceBNe, reduceIte, reduceCtorEq, Int.reduceToNat, Int.reduceLT, Int.reduceLE, Int.reduceEq, Int.reduceNe, Int.reduceNeg, ARetK, Lk, Ranks.lo, Ranks.hi, Ranks.next, Ranks.eff, aggEq, eqK, c1A, lkV, updA, isCell, cutOwn, storeN, appendN, isU8, elemId, sdataA, ustrA, bldZ, isElem, litRowsN, isOctet, ti3, ti24, ti29, ca10, ca12, ca14, ca20, ca23, ca24, ca25, ca26, ca27, cf, Try.results5, hge2, hne]
  · have hv1 : left 1048576 (sz τ) = -1 := by rw [left, if_neg (by omega)]
    refine acalls_enter (cf := cf 69 [0, 1, 2, 3, 4, 5, 6, 7, 8, 9, 10, 15, 26, 31, 42, 50, 53, 60, 65, 68]) foll Try.func5 Try.ntmps5 (by simp [cf]) ?_
    simp only [Try.f5, EnterK_some, zW, zX, tkIface, isWhole, evA, Abs.look, putA, del, keep, astep, builtinA, appendA, pickA, elemOf?, lenA, rowsOf, cellsOf, shiftP, loadA, partA, idxA, binA, intA, strA, eqA, nilP, nilS, nilM, unA, convA, storeA, cellsA, fillA, litRows, pairs, sliceOp, sliceA, isPtr, isStr, tkStr, tkSlice, isByte, byteOf, frz1, frzL, frzC, frzs, frzT, lfz, isLeaf, constA, const1, retVal, rvs, resCell, ARet, entry, closed, closed1, closed2, Nat.reduceAdd, Nat.reduceMul, Nat.reduceSub, Nat.reduceLT, Nat.reduceLeDiff, Nat.reduceEqDiff, Nat.reduceBEq, Nat.reduceBNe, reduceIte, reduceCtorEq, Int.reduceToNat, Int.reduceLT, Int.reduceLE, Int.reduceEq, Int.reduceNe, Int.reduceNeg, ARetK, Lk, Ranks.lo, Ranks.hi, Ranks.next, Ranks.eff, aggEq, eqK, c1A, lkV, updA, isCell, cutOwn, storeN, appendN, isU8, elemId, sdataA, ustrA, bldZ, isElem, litRowsN, isOctet, ti3, ti24, ti29, ca10, ca12, ca14, ca20, ca23, ca24, ca25, ca26, ca27, cf, Try.results5]
    simp only [encA_take]
    refine ⟨by rw [encA_length]; omega, ?_⟩
    refine callK_intro (by simp only [zW, zX, tkIface, isWhole, evA, Abs.look, putA, del, keep, astep, builtinA, appendA, pickA, elemOf?, lenA, rowsOf, cellsOf, shiftP, loadA, partA, idxA, binA, intA, strA, eqA, nilP, nilS, nilM, unA, convA, storeA, cellsA, fillA, litRows, pairs, sliceOp, sliceA, isPtr, isStr, tkStr, tkSlice, isByte, byteOf, frz1, frzL, frzC, frzs, frzT, lfz, isLeaf, constA, const1, retVal, rvs, resCell, ARet, entry, closed, closed1, closed2, Nat.reduceAdd, Nat.reduceMul, Nat.reduceSub, Nat.reduceLT, Nat.reduceLeDiff, Nat.reduceEqDiff, Nat.reduceBEq, Nat.reduceBNe, reduceIte, reduceCtorEq, Int.reduceToNat, Int.reduceLT, Int.reduceLE, Int.reduceEq, Int.reduceNe, Int.reduceNeg, ARetK, Lk, Ranks.lo, Ranks.hi, Ranks.next, Ranks.eff, aggEq, eqK, c1A, lkV, updA, isCell, cutOwn, storeN, appendN, isU8, elemId, sdataA, ustrA, bldZ, isElem, litRowsN, isOctet, frzL_encA, Option.map_some]; rfl) (laws_szType τ hτ _ _ (by omega) (by omega)) ?_ rfl; rintro v A' ⟨rfl, rfl⟩
    rw [hv1]
    simp only [zW, zX, tkIface, isWhole, evA, Abs.look, putA, del, keep, astep, builtinA, appendA, pickA, elemOf?, lenA, rowsOf, cellsOf, shiftP, loadA, partA, idxA, binA, intA, strA, eqA, nilP, nilS, nilM, unA, convA, storeA, cellsA, fillA, litRows, pairs, sliceOp, sliceA, isPtr, isStr, tkStr, tkSlice, isByte, byteOf, frz1, frzL, frzC, frzs, frzT, lfz, isLeaf, constA, const1, retVal, rvs, resCell, ARet, entry, closed, closed1, closed2, Nat.reduceAdd, Nat.reduceMul, Nat.reduceSub, Nat.reduceLT, Nat.reduceLeDiff, Nat.reduceEqDiff, Nat.reduceBEq, Nat.reduceBNe, reduceIte, reduceCtorEq, Int.reduceToNat, Int.reduceLT, Int.reduceLE, Int.reduceEq, Int.reduceNe, Int.reduceNeg, ARetK, Lk, Ranks.lo, Ranks.hi, Ranks.next, Ranks.eff, aggEq, eqK, c1A, lkV, updA, isCell, cutOwn, storeN, appendN, isU8, elemId, sdataA, ustrA, bldZ, isElem, litRowsN, isOctet, ti3, ti24, ti29, ca10, ca12, ca14, ca20, ca23, ca24, ca25, ca26, ca27, cf, Try.results5]

theorem exactTypeNames_rec : ∀ t ∈ Try.f5.params.toList, Try.prog.readableRec t = true ∧ t < Try.prog.types.size := by
  rw [Try.params5]
  intro t ht
  simp at ht
  subst ht
  exact ⟨by kernel_rfl, of_decide_eq_true (by kernel_rfl)⟩
set_option maxRecDepth 100000 in
theorem exactTypeNames_lifted (os : Os) (started : os.Started) (H : Type) (enc' : TypeId × Value → H) :
    ReturnsInHanded {} Try.checked os 5 .any (Rows.fnExactTypeNamesSpec.pre6 enc' Try.prog Try.f5 Rows.fnExactTypeNamesRow.domain false) (Rows.fnExactTypeNamesSpec.post enc' Try.prog Try.f5 false true false false) := by
  refine returnsInHanded_of_change (C := Try.checked) ownk started (by kernel_rfl) Try.func5
    (ChangeSpec.witness6 (enc := enc') (C := Try.checked) false ⟨#[], #[.agg #[.int .i64 0, .string .empty, .string .empty, .slice none 0 0]], []⟩ 8 (by kernel_rfl) (by kernel_rfl) (by kernel_rfl) (by kernel_rfl)) ?_
  intro W base args ds gs before hval0 hW hcnd _
  have hval : ∀ (j : Nat) t v, Try.f5.params[j]? = some t → args[j]? = some v → Value.okWide Try.prog W .any base t v := hval0
  have hW' := hW
  obtain ⟨p, q, hA0, hV, rfl, hfz, hnd⟩ := hW
  have hA : DataW.TrodAll enc' Try.prog W 0 (fun _ => true) true Try.f5.params.toList args.toList ds p := hA0
  rw [Try.params5] at hA hval
  have hlt := hA.lt
  obtain ⟨v0, d0, rfl, rfl, h0⟩ := trodAll_one hA
  obtain ⟨rfl, rfl⟩ := trodVars_none hV
  obtain ⟨x0, hx0, r0⟩ := rv_type (hval 0 24 v0 rfl rfl) h0
  refine (law_calls (exactTypeNames_true x0 hx0) (.cons r0 .nil)).mono fun e W' ⟨he, hb⟩ => ?_
  subst he
  exact ⟨_, rfl, law_post laid exactTypeNames_rec rfl Try.underlying4 (by kernel_rfl) ⟨rfl, rfl⟩ rfl hW' hb⟩
theorem exactTypeNames_holds : Rows.FnExactTypeNamesSaid :=
  OpenClaim.holds_of_wide 5 Try.f5 rfl rfl rfl rfl rfl rfl rfl ⟨rfl, rfl, rfl, rfl, rfl⟩ rfl rfl rfl rfl rfl (by kernel_rfl) Try.func5 (by kernel_rfl)
    (of_decide_eq_true (by kernel_rfl)) (by unfold Func.isWrapper; first | (rw [if_pos (by decide +kernel)]; kernel_rfl) | (rw [if_neg (by decide +kernel)]; exact ⟨rfl, rfl⟩))
    (fun os started H enc' _ => exactTypeNames_lifted os started H enc')
end Go.Proofs.Ytfefnoaebafkiaa
