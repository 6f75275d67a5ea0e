/- The program's TypeSame answers whether two types are the same tree. -/
import Derived.Test.YtponaclmbmlahaaSameC
set_option linter.unusedVariables false
set_option linter.unusedSimpArgs false
namespace Go.Proofs.Ytponaclmbmlahaa
open Go.Abs

noncomputable instance instTyDec : DecidableEq Ty := fun a b => Classical.propDecidable (a = b)

theorem encI_take (t : ITy) : List.take 4 (encI t) = encI t := by rw [encI_eq]; rfl
theorem encI_drop (t : ITy) : List.drop 4 (encI t) = [] := by rw [encI_eq]; rfl
theorem encI_drop3 (t : ITy) : List.drop 3 (encI t) = [kidsV t] := by rw [encI_eq]; rfl
theorem frz1_kidsV (t : ITy) (A : List Box) : frz1 (kidsV t) A = some (kidsV t, A) := by
  unfold kidsV
  cases below t <;> rfl
theorem frzL_encI (t : ITy) (A : List Box) : frzL (encI t) A = some (encI t, A) := by
  rw [encI_eq]
  unfold kidsV
  cases below t <;> rfl
theorem kids_cases (t : ITy) : (below t = none ∧ kidsV t = .slice [] ∧ (node t).2.2.2 = 0) ∨ ∃ x, below t = some x ∧ kidsV t = .islice x.b x.off (encIs x.ks) ∧ (node t).2.2.2 = x.ks.length := by
  cases h : below t with
  | none =>
    obtain ⟨k, m, n, b, o, rfl⟩ := below_none h
    exact .inl ⟨rfl, by simp [kidsV, below], by simp [node]⟩
  | some x =>
    refine .inr ⟨x, rfl, by simp [kidsV, h], ?_⟩
    obtain ⟨k, m, n, rfl⟩ := below_ks h
    rfl

set_option maxRecDepth 100000 in
theorem impl_sameNode (s t : ITy) (A : List Box) : ACalls Try.prog 71 [.agg (encI s), .agg (encI t)] A (fun r A' => r = .bool (decide (node s = node t)) ∧ A' = A) := by
  have hd : decide (node s = node t) = (decide ((node s).1 = (node t).1) && (decide ((node s).2.1 = (node t).2.1) && (decide ((node s).2.2.1 = (node t).2.2.1) && decide (((node s).2.2.2 : Int) = ((node t).2.2.2 : Int))))) := by
    rw [Bool.eq_iff_iff]
    simp only [decide_eq_true_eq, Bool.and_eq_true, Prod.ext_iff]
    constructor
    · rintro ⟨h1, h2, h3, h4⟩; exact ⟨h1, h2, h3, by omega⟩
    · rintro ⟨h1, h2, h3, h4⟩; exact ⟨h1, h2, h3, by omega⟩
  rw [hd, encI_eq, encI_eq]
  refine acalls_enter (cf := cf 33 [0, 1, 2, 3, 4]) foll Try.func71 Try.ntmps71 (by simp [cf]) ?_
  simp only [Try.f71, EnterK_some, zW, tkIface, isWhole, evA, Abs.look, putA, del, keep, astep, builtinA, appendA, pickA, elemOf?, lenA, rowsOf, cellsOf, shiftP, loadA, partA, idxA, binA, intA, strA, eqA, nilP, nilS, nilM, unA, convA, storeA, cellsA, fillA, litRows, pairs, sliceOp, sliceA, isPtr, isStr, tkStr, tkSlice, isByte, byteOf, frz1, frzL, frzC, frzs, frzT, lfz, isLeaf, constA, const1, retVal, rvs, resCell, ARet, entry, closed, closed1, closed2, zbt, zbu, zbv, zbw, zbx, zby, zbz, zb0, zb1, zb2, zb3, zb4, zb5, zb6, zb7, zb8, zb9, zca, zcb, zcc, zce, zch, zci, zcj, zck, zcl, zcm, zcn, zco, zcp, zcq, zcr, zcs, zct, zcu, zcv, zcw, zcx, zcy, zcz, zc0, zc1, zc2, zc3, Nat.reduceAdd, Nat.reduceMul, Nat.reduceSub, Nat.reduceLT, Nat.reduceLeDiff, Nat.reduceEqDiff, Nat.reduceBEq, Nat.reduceBNe, zc4, zc5, zc6, zc7, zc8, zc9, reduceIte, reduceCtorEq, zda, zdb, zdc, zdd, zde, zdf, zdg, zdh, zdi, zdj, zdk, zdl, zdm, zdn, zdo, zdp, zdq, zdr, zds, zdt, zdu, zdv, zdw, zdx, zdy, zdz, zd0, zd1, zd2, zd3, zd4, zd5, zd6, zd7, zd8, Int.reduceToNat, Int.reduceLT, Int.reduceLE, Int.reduceEq, Int.reduceNe, Int.reduceNeg, zd9, ARetK, zfe, Lk, Ranks.lo, Ranks.hi, Ranks.next, Ranks.eff, aggEq, eqK, c1A, lkV, updA, isCell, zgm, zgn, cutOwn, storeN, appendN, isU8, elemId, sdataA, ustrA, bldZ, isElem, litRowsN, isOctet, ti3, ti9, ti27, ti29, cf, Try.results71]
  by_cases h1 : (node s).1 = (node t).1
  · by_cases h2 : (node s).2.1 = (node t).2.1
    · by_cases h3 : (node s).2.2.1 = (node t).2.2.1
      · rcases kids_cases s with ⟨_, e1, n1⟩ | ⟨x, _, e1, n1⟩ <;> rcases kids_cases t with ⟨_, e2, n2⟩ | ⟨y, _, e2, n2⟩ <;> rw [e1, e2, n1, n2] <;> simp only [zW, tkIface, isWhole, evA, Abs.look, putA, del, keep, astep, builtinA, appendA, pickA, elemOf?, lenA, rowsOf, cellsOf, shiftP, loadA, partA, idxA, binA, intA, strA, eqA, nilP, nilS, nilM, unA, convA, storeA, cellsA, fillA, litRows, pairs, sliceOp, sliceA, isPtr, isStr, tkStr, tkSlice, isByte, byteOf, frz1, frzL, frzC, frzs, frzT, lfz, isLeaf, constA, const1, retVal, rvs, resCell, ARet, entry, closed, closed1, closed2, zbt, zbu, zbv, zbw, zbx, zby, zbz, zb0, zb1, zb2, zb3, zb4, zb5, zb6, zb7, zb8, zb9, zca, zcb, zcc, zce, zch, zci, zcj, zck, zcl, zcm, zcn, zco, zcp, zcq, zcr, zcs, zct, zcu, zcv, zcw, zcx, zcy, zcz, zc0, zc1, zc2, zc3, Nat.reduceAdd, Nat.reduceMul, Nat.reduceSub, Nat.reduceLT, Nat.reduceLeDiff, Nat.reduceEqDiff, Nat.reduceBEq, Nat.reduceBNe, zc4, zc5, zc6, zc7, zc8, zc9, reduceIte, reduceCtorEq, zda, zdb, zdc, zdd, zde, zdf, zdg, zdh, zdi, zdj, zdk, zdl, zdm, zdn, zdo, zdp, zdq, zdr, zds, zdt, zdu, zdv, zdw, zdx, zdy, zdz, zd0, zd1, zd2, zd3, zd4, zd5, zd6, zd7, zd8, Int.reduceToNat, Int.reduceLT, Int.reduceLE, Int.reduceEq, Int.reduceNe, Int.reduceNeg, zd9, ARetK, zfe, Lk, Ranks.lo, Ranks.hi, Ranks.next, Ranks.eff, aggEq, eqK, c1A, lkV, updA, isCell, zgm, zgn, cutOwn, storeN, appendN, isU8, elemId, sdataA, ustrA, bldZ, isElem, litRowsN, isOctet, ti3, ti9, ti27, ti29, cf, Try.results71, encIs_length, decide_eq_true h1, decide_eq_true h2, decide_eq_true h3]
      · simp only [zW, tkIface, isWhole, evA, Abs.look, putA, del, keep, astep, builtinA, appendA, pickA, elemOf?, lenA, rowsOf, cellsOf, shiftP, loadA, partA, idxA, binA, intA, strA, eqA, nilP, nilS, nilM, unA, convA, storeA, cellsA, fillA, litRows, pairs, sliceOp, sliceA, isPtr, isStr, tkStr, tkSlice, isByte, byteOf, frz1, frzL, frzC, frzs, frzT, lfz, isLeaf, constA, const1, retVal, rvs, resCell, ARet, entry, closed, closed1, closed2, zbt, zbu, zbv, zbw, zbx, zby, zbz, zb0, zb1, zb2, zb3, zb4, zb5, zb6, zb7, zb8, zb9, zca, zcb, zcc, zce, zch, zci, zcj, zck, zcl, zcm, zcn, zco, zcp, zcq, zcr, zcs, zct, zcu, zcv, zcw, zcx, zcy, zcz, zc0, zc1, zc2, zc3, Nat.reduceAdd, Nat.reduceMul, Nat.reduceSub, Nat.reduceLT, Nat.reduceLeDiff, Nat.reduceEqDiff, Nat.reduceBEq, Nat.reduceBNe, zc4, zc5, zc6, zc7, zc8, zc9, reduceIte, reduceCtorEq, zda, zdb, zdc, zdd, zde, zdf, zdg, zdh, zdi, zdj, zdk, zdl, zdm, zdn, zdo, zdp, zdq, zdr, zds, zdt, zdu, zdv, zdw, zdx, zdy, zdz, zd0, zd1, zd2, zd3, zd4, zd5, zd6, zd7, zd8, Int.reduceToNat, Int.reduceLT, Int.reduceLE, Int.reduceEq, Int.reduceNe, Int.reduceNeg, zd9, ARetK, zfe, Lk, Ranks.lo, Ranks.hi, Ranks.next, Ranks.eff, aggEq, eqK, c1A, lkV, updA, isCell, zgm, zgn, cutOwn, storeN, appendN, isU8, elemId, sdataA, ustrA, bldZ, isElem, litRowsN, isOctet, ti3, ti9, ti27, ti29, cf, Try.results71, decide_eq_true h1, decide_eq_true h2, decide_eq_false h3]
    · simp only [zW, tkIface, isWhole, evA, Abs.look, putA, del, keep, astep, builtinA, appendA, pickA, elemOf?, lenA, rowsOf, cellsOf, shiftP, loadA, partA, idxA, binA, intA, strA, eqA, nilP, nilS, nilM, unA, convA, storeA, cellsA, fillA, litRows, pairs, sliceOp, sliceA, isPtr, isStr, tkStr, tkSlice, isByte, byteOf, frz1, frzL, frzC, frzs, frzT, lfz, isLeaf, constA, const1, retVal, rvs, resCell, ARet, entry, closed, closed1, closed2, zbt, zbu, zbv, zbw, zbx, zby, zbz, zb0, zb1, zb2, zb3, zb4, zb5, zb6, zb7, zb8, zb9, zca, zcb, zcc, zce, zch, zci, zcj, zck, zcl, zcm, zcn, zco, zcp, zcq, zcr, zcs, zct, zcu, zcv, zcw, zcx, zcy, zcz, zc0, zc1, zc2, zc3, Nat.reduceAdd, Nat.reduceMul, Nat.reduceSub, Nat.reduceLT, Nat.reduceLeDiff, Nat.reduceEqDiff, Nat.reduceBEq, Nat.reduceBNe, zc4, zc5, zc6, zc7, zc8, zc9, reduceIte, reduceCtorEq, zda, zdb, zdc, zdd, zde, zdf, zdg, zdh, zdi, zdj, zdk, zdl, zdm, zdn, zdo, zdp, zdq, zdr, zds, zdt, zdu, zdv, zdw, zdx, zdy, zdz, zd0, zd1, zd2, zd3, zd4, zd5, zd6, zd7, zd8, Int.reduceToNat, Int.reduceLT, Int.reduceLE, Int.reduceEq, Int.reduceNe, Int.reduceNeg, zd9, ARetK, zfe, Lk, Ranks.lo, Ranks.hi, Ranks.next, Ranks.eff, aggEq, eqK, c1A, lkV, updA, isCell, zgm, zgn, cutOwn, storeN, appendN, isU8, elemId, sdataA, ustrA, bldZ, isElem, litRowsN, isOctet, ti3, ti9, ti27, ti29, cf, Try.results71, decide_eq_true h1, decide_eq_false h2]
  · simp only [zW, tkIface, isWhole, evA, Abs.look, putA, del, keep, astep, builtinA, appendA, pickA, elemOf?, lenA, rowsOf, cellsOf, shiftP, loadA, partA, idxA, binA, intA, strA, eqA, nilP, nilS, nilM, unA, convA, storeA, cellsA, fillA, litRows, pairs, sliceOp, sliceA, isPtr, isStr, tkStr, tkSlice, isByte, byteOf, frz1, frzL, frzC, frzs, frzT, lfz, isLeaf, constA, const1, retVal, rvs, resCell, ARet, entry, closed, closed1, closed2, zbt, zbu, zbv, zbw, zbx, zby, zbz, zb0, zb1, zb2, zb3, zb4, zb5, zb6, zb7, zb8, zb9, zca, zcb, zcc, zce, zch, zci, zcj, zck, zcl, zcm, zcn, zco, zcp, zcq, zcr, zcs, zct, zcu, zcv, zcw, zcx, zcy, zcz, zc0, zc1, zc2, zc3, Nat.reduceAdd, Nat.reduceMul, Nat.reduceSub, Nat.reduceLT, Nat.reduceLeDiff, Nat.reduceEqDiff, Nat.reduceBEq, Nat.reduceBNe, zc4, zc5, zc6, zc7, zc8, zc9, reduceIte, reduceCtorEq, zda, zdb, zdc, zdd, zde, zdf, zdg, zdh, zdi, zdj, zdk, zdl, zdm, zdn, zdo, zdp, zdq, zdr, zds, zdt, zdu, zdv, zdw, zdx, zdy, zdz, zd0, zd1, zd2, zd3, zd4, zd5, zd6, zd7, zd8, Int.reduceToNat, Int.reduceLT, Int.reduceLE, Int.reduceEq, Int.reduceNe, Int.reduceNeg, zd9, ARetK, zfe, Lk, Ranks.lo, Ranks.hi, Ranks.next, Ranks.eff, aggEq, eqK, c1A, lkV, updA, isCell, zgm, zgn, cutOwn, storeN, appendN, isU8, elemId, sdataA, ustrA, bldZ, isElem, litRowsN, isOctet, ti3, ti9, ti27, ti29, cf, Try.results71, decide_eq_false h1]

set_option maxRecDepth 100000 in
theorem impl_join0 (i : Nat) (A : List Box) : ACalls Try.prog 72 [.map i, .slice [], .slice []] A (fun r A' => r = .bool false ∧ A' = A) := by
  have h0 : decide (((0 : Nat) : Int) = 0) = true := rfl
  refine acalls_enter (cf := cf 32 [0, 1, 2, 6, 7, 8, 11, 28]) foll Try.func72 Try.ntmps72 (by simp [cf]) ?_
  simp only [Try.f72, EnterK_some, zW, tkIface, isWhole, evA, Abs.look, putA, del, keep, astep, builtinA, appendA, pickA, elemOf?, lenA, rowsOf, cellsOf, shiftP, loadA, partA, idxA, binA, intA, strA, eqA, nilP, nilS, nilM, unA, convA, storeA, cellsA, fillA, litRows, pairs, sliceOp, sliceA, isPtr, isStr, tkStr, tkSlice, isByte, byteOf, frz1, frzL, frzC, frzs, frzT, lfz, isLeaf, constA, const1, retVal, rvs, resCell, ARet, entry, closed, closed1, closed2, zbt, zbu, zbv, zbw, zbx, zby, zbz, zb0, zb1, zb2, zb3, zb4, zb5, zb6, zb7, zb8, zb9, zca, zcb, zcc, zce, zch, zci, zcj, zck, zcl, zcm, zcn, zco, zcp, zcq, zcr, zcs, zct, zcu, zcv, zcw, zcx, zcy, zcz, zc0, zc1, zc2, zc3, Nat.reduceAdd, Nat.reduceMul, Nat.reduceSub, Nat.reduceLT, Nat.reduceLeDiff, Nat.reduceEqDiff, Nat.reduceBEq, Nat.reduceBNe, zc4, zc5, zc6, zc7, zc8, zc9, reduceIte, reduceCtorEq, zda, zdb, zdc, zdd, zde, zdf, zdg, zdh, zdi, zdj, zdk, zdl, zdm, zdn, zdo, zdp, zdq, zdr, zds, zdt, zdu, zdv, zdw, zdx, zdy, zdz, zd0, zd1, zd2, zd3, zd4, zd5, zd6, zd7, zd8, Int.reduceToNat, Int.reduceLT, Int.reduceLE, Int.reduceEq, Int.reduceNe, Int.reduceNeg, zd9, ARetK, zfe, Lk, Ranks.lo, Ranks.hi, Ranks.next, Ranks.eff, aggEq, eqK, c1A, lkV, updA, isCell, zgm, zgn, cutOwn, storeN, appendN, isU8, elemId, sdataA, ustrA, bldZ, isElem, litRowsN, isOctet, ti3, ti27, ti29, ti108, ti152, ca101, mi108, ks152, cf, Try.results72]
  simp only [zW, tkIface, isWhole, evA, Abs.look, putA, del, keep, astep, builtinA, appendA, pickA, elemOf?, lenA, rowsOf, cellsOf, shiftP, loadA, partA, idxA, binA, intA, strA, eqA, nilP, nilS, nilM, unA, convA, storeA, cellsA, fillA, litRows, pairs, sliceOp, sliceA, isPtr, isStr, tkStr, tkSlice, isByte, byteOf, frz1, frzL, frzC, frzs, frzT, lfz, isLeaf, constA, const1, retVal, rvs, resCell, ARet, entry, closed, closed1, closed2, zbt, zbu, zbv, zbw, zbx, zby, zbz, zb0, zb1, zb2, zb3, zb4, zb5, zb6, zb7, zb8, zb9, zca, zcb, zcc, zce, zch, zci, zcj, zck, zcl, zcm, zcn, zco, zcp, zcq, zcr, zcs, zct, zcu, zcv, zcw, zcx, zcy, zcz, zc0, zc1, zc2, zc3, Nat.reduceAdd, Nat.reduceMul, Nat.reduceSub, Nat.reduceLT, Nat.reduceLeDiff, Nat.reduceEqDiff, Nat.reduceBEq, Nat.reduceBNe, zc4, zc5, zc6, zc7, zc8, zc9, reduceIte, reduceCtorEq, zda, zdb, zdc, zdd, zde, zdf, zdg, zdh, zdi, zdj, zdk, zdl, zdm, zdn, zdo, zdp, zdq, zdr, zds, zdt, zdu, zdv, zdw, zdx, zdy, zdz, zd0, zd1, zd2, zd3, zd4, zd5, zd6, zd7, zd8, Int.reduceToNat, Int.reduceLT, Int.reduceLE, Int.reduceEq, Int.reduceNe, Int.reduceNeg, zd9, ARetK, zfe, Lk, Ranks.lo, Ranks.hi, Ranks.next, Ranks.eff, aggEq, eqK, c1A, lkV, updA, isCell, zgm, zgn, cutOwn, storeN, appendN, isU8, elemId, sdataA, ustrA, bldZ, isElem, litRowsN, isOctet, ti3, ti27, ti29, ti108, ti152, ca101, mi108, ks152, cf, Try.results72, h0]

inductive WI where
  | ini
  | pr (x y : LL)
def WI.l1 (a0 : ITy) : WI → List ITy
  | .ini => [a0]
  | .pr x _ => x.ks
def WI.l2 (b0 : ITy) : WI → List ITy
  | .ini => [b0]
  | .pr _ y => y.ks
def WI.row (a0 b0 : ITy) : WI → List AV
  | .ini => [.slice (encIs [a0]), .slice (encIs [b0])]
  | .pr x y => [.islice x.b x.off (encIs x.ks), .islice y.b y.off (encIs y.ks)]

structure SI (U : List LL) (a0 b0 : ITy) (m J : List (LL × LL)) (W : List WI) (cur : Option WI) : Prop where
  ci : CI U (Eqv J) m
  js : ∀ p ∈ J, Bis (Eqv J) p.1 p.2 ∨ WI.pr p.1 p.2 ∈ W ∨ cur = some (.pr p.1 p.2)
  ini : Near (Eqv J) a0 b0 ∨ WI.ini ∈ W ∨ cur = some .ini
  ws : ∀ x y, (WI.pr x y ∈ W ∨ cur = some (.pr x y)) → x ∈ U ∧ y ∈ U ∧ x.ks.length = y.ks.length
  er : erase a0 = erase b0 → ∀ w, (w ∈ W ∨ cur = some w) → erases (w.l1 a0) = erases (w.l2 b0)

theorem Near.mono {R R' : LL → LL → Prop} (h : ∀ x y, R x y → R' x y) {s t : ITy} (k : Near R s t) : Near R' s t :=
  ⟨k.1, k.2.imp id fun ⟨x, y, a, b, c⟩ => ⟨x, y, a, b, h _ _ c⟩⟩
theorem Bis.mono {R R' : LL → LL → Prop} (h : ∀ x y, R x y → R' x y) {x y : LL} (k : Bis R x y) : Bis R' x y :=
  ⟨k.1, fun i hi => (k.2 i hi).mono h⟩

theorem SI.pop {U : List LL} {a0 b0 : ITy} {m J : List (LL × LL)} {W : List WI} {w : WI} (h : SI U a0 b0 m J (W ++ [w]) none) : SI U a0 b0 m J W (some w) := by
  refine ⟨h.ci, fun p hp => ?_, ?_, fun x y hw => h.ws x y (.inl ?_), fun he v hv => h.er he v (.inl ?_)⟩
  · rcases h.js p hp with h | h | h
    · exact .inl h
    · rcases List.mem_append.1 h with h | h
      · exact .inr (.inl h)
      · exact .inr (.inr (by rw [List.mem_singleton.1 h]))
    · cases h
  · rcases h.ini with h | h | h
    · exact .inl h
    · rcases List.mem_append.1 h with h | h
      · exact .inr (.inl h)
      · exact .inr (.inr (by rw [List.mem_singleton.1 h]))
    · cases h
  · rcases hw with hw | hw
    · exact List.mem_append_left _ hw
    · cases hw; simp
  · rcases hv with hv | hv
    · exact List.mem_append_left _ hv
    · cases hv; simp

theorem SI.done {U : List LL} {a0 b0 : ITy} {m J : List (LL × LL)} {W : List WI} {w : WI} (h : SI U a0 b0 m J W (some w)) (hl : (w.l1 a0).length = (w.l2 b0).length)
    (hn : ∀ i, i < (w.l1 a0).length → Near (Eqv J) ((w.l1 a0).getD i it0) ((w.l2 b0).getD i it0)) : SI U a0 b0 m J W none := by
  refine ⟨h.ci, fun p hp => ?_, ?_, fun x y hw => ?_, fun he v hv => ?_⟩
  · rcases h.js p hp with h | h | h
    · exact .inl h
    · exact .inr (.inl h)
    · cases h
      exact .inl ⟨hl, hn⟩
  · rcases h.ini with h | h | h
    · exact .inl h
    · exact .inr (.inl h)
    · cases h
      exact .inl (by simpa [WI.l1, WI.l2] using hn 0 (by simp [WI.l1]))
  · rcases hw with hw | hw
    · exact h.ws x y (.inl hw)
    · cases hw
  · rcases hv with hv | hv
    · exact h.er he v (.inl hv)
    · cases hv

theorem SI.same {U : List LL} {a0 b0 : ITy} {m m' J : List (LL × LL)} {W : List WI} {c : Option WI} (h : SI U a0 b0 m J W c) (hc : CI U (Eqv J) m') : SI U a0 b0 m' J W c :=
  ⟨hc, h.js, h.ini, h.ws, h.er⟩

theorem eqv_more {J : List (LL × LL)} (q : LL × LL) : ∀ x y, Eqv J x y → Eqv (q :: J) x y := fun x y h => h.mono fun p hp => List.mem_cons_of_mem _ hp

theorem SI.more {U : List LL} {a0 b0 : ITy} {m m' J : List (LL × LL)} {W : List WI} {c : Option WI} (h : SI U a0 b0 m J W c) {x y : LL} (hx : x ∈ U) (hy : y ∈ U) (hl : x.ks.length = y.ks.length) (hc : CI U (Eqv ((x, y) :: J)) m')
    (he : erase a0 = erase b0 → erases x.ks = erases y.ks) : SI U a0 b0 m' ((x, y) :: J) (W ++ [.pr x y]) c := by
  refine ⟨hc, fun p hp => ?_, ?_, fun u v hw => ?_, fun hh v hv => ?_⟩
  · rcases List.mem_cons.1 hp with rfl | hp
    · exact .inr (.inl (by simp))
    · rcases h.js p hp with h | h | h
      · exact .inl (h.mono (eqv_more _))
      · exact .inr (.inl (List.mem_append_left _ h))
      · exact .inr (.inr h)
  · rcases h.ini with h | h | h
    · exact .inl (h.mono (eqv_more _))
    · exact .inr (.inl (List.mem_append_left _ h))
    · exact .inr (.inr h)
  · rcases hw with hw | hw
    · rcases List.mem_append.1 hw with hw | hw
      · exact h.ws u v (.inl hw)
      · have := List.mem_singleton.1 hw
        cases this
        exact ⟨hx, hy, hl⟩
    · exact h.ws u v (.inr hw)
  · rcases hv with hv | hv
    · rcases List.mem_append.1 hv with hv | hv
      · exact h.er hh v (.inl hv)
      · have := List.mem_singleton.1 hv
        subst this
        exact he hh
    · exact h.er hh v (.inr hv)

theorem SI.fin {U : List LL} {a0 b0 : ITy} {m J : List (LL × LL)} (h : SI U a0 b0 m J [] none) : erase a0 = erase b0 := by
  have hj : ∀ p ∈ J, Bis (Eqv J) p.1 p.2 := fun p hp => by
    rcases h.js p hp with h | h | h
    · exact h
    · simp at h
    · cases h
  have hi : Near (Eqv J) a0 b0 := by
    rcases h.ini with h | h | h
    · exact h
    · simp at h
    · cases h
  exact near_erase hi fun x y _ _ hr => same_all hj _ x y (Nat.le_refl _) hr

theorem erases_at {l l' : List ITy} (h : erases l = erases l') (i : Nat) : erase (l.getD i it0) = erase (l'.getD i it0) := by
  rw [erases_map, erases_map] at h
  have hl : l.length = l'.length := by have := congrArg List.length h; simpa using this
  rcases Nat.lt_or_ge i l.length with hi | hi
  · have := congrArg (fun z => z.getD i (erase it0)) h
    simpa [List.getD, hi, show i < l'.length by omega] using this
  · simp [List.getD, Nat.not_lt.2 hi, show ¬ i < l'.length by omega]
theorem erase_node {s t : ITy} (h : erase s = erase t) : node s = node t := by
  obtain ⟨k, m, n, b, o, ks⟩ := s
  obtain ⟨k', m', n', b', o', ks'⟩ := t
  rw [erase, erase] at h
  injection h with h1 h2 h3 h4
  have : ks.length = ks'.length := by
    rw [erases_map, erases_map] at h4
    have := congrArg List.length h4
    simpa using this
  simp [node, h1, h2, h3, this]
theorem erase_kids {s t : ITy} {x y : LL} (h : erase s = erase t) (hx : below s = some x) (hy : below t = some y) : erases x.ks = erases y.ks := by
  obtain ⟨k, m, n, rfl⟩ := below_ks hx
  obtain ⟨k', m', n', rfl⟩ := below_ks hy
  rw [erase, erase] at h
  injection h

theorem CI.le {U : List LL} {R : LL → LL → Prop} {m : List (LL × LL)} (h : CI U R m) : m.length ≤ U.length := by
  haveI : DecidableEq LL := fun a b => Classical.propDecidable (a = b)
  have := nodup_le (m.map (·.1)) U h.nodup fun x hx => by
    obtain ⟨p, hp, rfl⟩ := List.mem_map.1 hx
    exact (h.mem p hp).1
  simpa using this

def esLen (N a : Nat) (A : List Box) : Nat :=
  match A.getD a .dead with
  | .mapb es => N - es.length
  | _ => 0
def rowLen (A : List Box) : AV → Nat
  | .own q => match A.getD q .dead with
    | .row _ rows _ => rows.length
    | _ => 0
  | _ => 0
def muI (n : Nat) (e : Env) : Nat :=
  match Abs.look 35 e with
  | .int _ i => n - i.toNat
  | _ => 0
def muT (N a : Nat) (e : Env) (A : List Box) : Nat := 2 * esLen N (a + 2) A + rowLen A (Abs.look 6 e)

set_option maxRecDepth 100000 in
set_option maxHeartbeats 2000000 in
theorem impl_TypeSameI {U : List LL} (hU : Univ U) (hN : U.length ≤ 100000000) (hL : ∀ x ∈ U, x.ks.length ≤ 1000000000) (a0 b0 : ITy) (ha : ∀ x, below a0 = some x → x ∈ U) (hb : ∀ x, below b0 = some x → x ∈ U) (A : List Box) :
    ACalls Try.prog 34 [.agg (encI a0), .agg (encI b0)] A (fun r A' => r = .bool (decide (erase a0 = erase b0)) ∧ A' = A) := by
  refine acalls_enter (cf := cf 64 [0, 1, 2, 3, 4, 5, 6, 7, 8, 9, 10, 20, 33, 34, 35, 36, 48, 54]) foll Try.func34 Try.ntmps34 (by simp [cf]) ?_
  simp only [Try.f34, EnterK_some, zW, tkIface, isWhole, evA, Abs.look, putA, del, keep, astep, builtinA, appendA, pickA, elemOf?, lenA, rowsOf, cellsOf, shiftP, loadA, partA, idxA, binA, intA, strA, eqA, nilP, nilS, nilM, unA, convA, storeA, cellsA, fillA, litRows, pairs, sliceOp, sliceA, isPtr, isStr, tkStr, tkSlice, isByte, byteOf, frz1, frzL, frzC, frzs, frzT, lfz, isLeaf, constA, const1, retVal, rvs, resCell, ARet, entry, closed, closed1, closed2, zbt, zbu, zbv, zbw, zbx, zby, zbz, zb0, zb1, zb2, zb3, zb4, zb5, zb6, zb7, zb8, zb9, zca, zcb, zcc, zce, zch, zci, zcj, zck, zcl, zcm, zcn, zco, zcp, zcq, zcr, zcs, zct, zcu, zcv, zcw, zcx, zcy, zcz, zc0, zc1, zc2, zc3, Nat.reduceAdd, Nat.reduceMul, Nat.reduceSub, Nat.reduceLT, Nat.reduceLeDiff, Nat.reduceEqDiff, Nat.reduceBEq, Nat.reduceBNe, zc4, zc5, zc6, zc7, zc8, zc9, reduceIte, reduceCtorEq, zda, zdb, zdc, zdd, zde, zdf, zdg, zdh, zdi, zdj, zdk, zdl, zdm, zdn, zdo, zdp, zdq, zdr, zds, zdt, zdu, zdv, zdw, zdx, zdy, zdz, zd0, zd1, zd2, zd3, zd4, zd5, zd6, zd7, zd8, Int.reduceToNat, Int.reduceLT, Int.reduceLE, Int.reduceEq, Int.reduceNe, Int.reduceNeg, zd9, ARetK, zfe, Lk, Ranks.lo, Ranks.hi, Ranks.next, Ranks.eff, aggEq, eqK, c1A, lkV, updA, isCell, zgm, zgn, cutOwn, storeN, appendN, isU8, elemId, sdataA, ustrA, bldZ, isElem, litRowsN, isOctet, ti3, ti27, ti29, ti108, ti110, ti111, ca71, ca72, cf, Try.results34]
  simp only [zW, tkIface, isWhole, evA, Abs.look, putA, del, keep, astep, builtinA, appendA, pickA, elemOf?, lenA, rowsOf, cellsOf, shiftP, loadA, partA, idxA, binA, intA, strA, eqA, nilP, nilS, nilM, unA, convA, storeA, cellsA, fillA, litRows, pairs, sliceOp, sliceA, isPtr, isStr, tkStr, tkSlice, isByte, byteOf, frz1, frzL, frzC, frzs, frzT, lfz, isLeaf, constA, const1, retVal, rvs, resCell, ARet, entry, closed, closed1, closed2, zbt, zbu, zbv, zbw, zbx, zby, zbz, zb0, zb1, zb2, zb3, zb4, zb5, zb6, zb7, zb8, zb9, zca, zcb, zcc, zce, zch, zci, zcj, zck, zcl, zcm, zcn, zco, zcp, zcq, zcr, zcs, zct, zcu, zcv, zcw, zcx, zcy, zcz, zc0, zc1, zc2, zc3, Nat.reduceAdd, Nat.reduceMul, Nat.reduceSub, Nat.reduceLT, Nat.reduceLeDiff, Nat.reduceEqDiff, Nat.reduceBEq, Nat.reduceBNe, zc4, zc5, zc6, zc7, zc8, zc9, reduceIte, reduceCtorEq, zda, zdb, zdc, zdd, zde, zdf, zdg, zdh, zdi, zdj, zdk, zdl, zdm, zdn, zdo, zdp, zdq, zdr, zds, zdt, zdu, zdv, zdw, zdx, zdy, zdz, zd0, zd1, zd2, zd3, zd4, zd5, zd6, zd7, zd8, Int.reduceToNat, Int.reduceLT, Int.reduceLE, Int.reduceEq, Int.reduceNe, Int.reduceNeg, zd9, ARetK, zfe, Lk, Ranks.lo, Ranks.hi, Ranks.next, Ranks.eff, aggEq, eqK, c1A, lkV, updA, isCell, zgm, zgn, cutOwn, storeN, appendN, isU8, elemId, sdataA, ustrA, bldZ, isElem, litRowsN, isOctet, ti3, ti27, ti29, ti108, ti110, ti111, ca71, ca72, cf, Try.results34, encI_length, encI_take, encI_drop, frzL_encI]
  refine ⟨encI_leaf a0, encI_leaf b0, ?_, ?_⟩
  · intro v hv
    rcases List.mem_cons.1 hv with rfl | hv
    · rfl
    · rcases List.mem_cons.1 hv with rfl | hv
      · rfl
      · cases hv
  have hmu : ∀ v (m : List (LL × LL)) (B : List Box) j (W : List WI), B.getD j .dead = .row 2 (W.map (WI.row a0 b0)) 0 → muT U.length A.length [(5, v), (6, .own (A.length + (j + 3)))] (A ++ (.cells (encI a0) :: .cells (encI b0) :: .mapb (esOf m) :: B)) = 2 * (U.length - m.length) + W.length := fun v m B j W hB => by
    unfold muT esLen rowLen
    have e1 : (A ++ (.cells (encI a0) :: .cells (encI b0) :: .mapb (esOf m) :: B)).getD (A.length + 2) .dead = .mapb (esOf m) := getD_app _ _ _ _
    have e2 : (A ++ (.cells (encI a0) :: .cells (encI b0) :: .mapb (esOf m) :: B)).getD (A.length + (j + 3)) .dead = .row 2 (W.map (WI.row a0 b0)) 0 := (getD_app _ _ _ _).trans hB
    have e3 : Abs.look 6 [(5, v), (6, AV.own (A.length + (j + 3)))] = .own (A.length + (j + 3)) := rfl
    rw [e1, e3]
    simp only []
    rw [e2]
    simp [esOf]
  refine aloop_intro [5, 6] (fun e A' => ∃ m J W B j, e = [(5, .map (A.length + 2)), (6, .own (A.length + (j + 3)))] ∧ A' = A ++ (.cells (encI a0) :: .cells (encI b0) :: .mapb (esOf m) :: B) ∧ j < B.length ∧ B.getD j .dead = .row 2 (W.map (WI.row a0 b0)) 0 ∧ 2 * (U.length - m.length) + W.length ≤ 2 * U.length + 1 ∧ SI U a0 b0 m J W none) (muT U.length A.length) ?_ ?_
  · simp only [zW, tkIface, isWhole, evA, Abs.look, putA, del, keep, astep, builtinA, appendA, pickA, elemOf?, lenA, rowsOf, cellsOf, shiftP, loadA, partA, idxA, binA, intA, strA, eqA, nilP, nilS, nilM, unA, convA, storeA, cellsA, fillA, litRows, pairs, sliceOp, sliceA, isPtr, isStr, tkStr, tkSlice, isByte, byteOf, frz1, frzL, frzC, frzs, frzT, lfz, isLeaf, constA, const1, retVal, rvs, resCell, ARet, entry, closed, closed1, closed2, zbt, zbu, zbv, zbw, zbx, zby, zbz, zb0, zb1, zb2, zb3, zb4, zb5, zb6, zb7, zb8, zb9, zca, zcb, zcc, zce, zch, zci, zcj, zck, zcl, zcm, zcn, zco, zcp, zcq, zcr, zcs, zct, zcu, zcv, zcw, zcx, zcy, zcz, zc0, zc1, zc2, zc3, Nat.reduceAdd, Nat.reduceMul, Nat.reduceSub, Nat.reduceLT, Nat.reduceLeDiff, Nat.reduceEqDiff, Nat.reduceBEq, Nat.reduceBNe, zc4, zc5, zc6, zc7, zc8, zc9, reduceIte, reduceCtorEq, zda, zdb, zdc, zdd, zde, zdf, zdg, zdh, zdi, zdj, zdk, zdl, zdm, zdn, zdo, zdp, zdq, zdr, zds, zdt, zdu, zdv, zdw, zdx, zdy, zdz, zd0, zd1, zd2, zd3, zd4, zd5, zd6, zd7, zd8, Int.reduceToNat, Int.reduceLT, Int.reduceLE, Int.reduceEq, Int.reduceNe, Int.reduceNeg, zd9, ARetK, zfe, Lk, Ranks.lo, Ranks.hi, Ranks.next, Ranks.eff, aggEq, eqK, c1A, lkV, updA, isCell, zgm, zgn, cutOwn, storeN, appendN, isU8, elemId, sdataA, ustrA, bldZ, isElem, litRowsN, isOctet, ti3, ti27, ti29, ti108, ti110, ti111, ca71, ca72, cf, Try.results34]
    refine ⟨[], [], [.ini], [.row 4 [encI a0] 1, .row 4 [encI b0] 1, .row 2 [[.slice [encI a0], .slice [encI b0]]] 0], 2, rfl, rfl, by simp, rfl, by simp, ⟨⟨by simp, by simp, by simp⟩, by simp, .inr (.inl (by simp)), by simp, fun he w hw => ?_⟩⟩
    have : w = .ini := by simpa using hw
    subst this
    simp [WI.l1, WI.l2, erases, he]
  · rintro e A' ⟨m, J, W, B, j, rfl, rfl, hj, hB, hW, hS⟩
    have hw1 : W.length ≤ 1000000000 := by omega
    have hgj : ∀ X Y Z : Box, ∀ d : Box, (X :: Y :: Z :: B).getD (j + 3) d = B.getD j d := fun _ _ _ _ => rfl
    rcases List.eq_nil_or_concat W with rfl | ⟨W0, w, rfl⟩
    · have hz : decide ((0 : Int) < ((0 : Nat) : Int)) = false := rfl
      have hS' := hS.fin
      simp only [zW, tkIface, isWhole, evA, Abs.look, putA, del, keep, astep, builtinA, appendA, pickA, elemOf?, lenA, rowsOf, cellsOf, shiftP, loadA, partA, idxA, binA, intA, strA, eqA, nilP, nilS, nilM, unA, convA, storeA, cellsA, fillA, litRows, pairs, sliceOp, sliceA, isPtr, isStr, tkStr, tkSlice, isByte, byteOf, frz1, frzL, frzC, frzs, frzT, lfz, isLeaf, constA, const1, retVal, rvs, resCell, ARet, entry, closed, closed1, closed2, zbt, zbu, zbv, zbw, zbx, zby, zbz, zb0, zb1, zb2, zb3, zb4, zb5, zb6, zb7, zb8, zb9, zca, zcb, zcc, zce, zch, zci, zcj, zck, zcl, zcm, zcn, zco, zcp, zcq, zcr, zcs, zct, zcu, zcv, zcw, zcx, zcy, zcz, zc0, zc1, zc2, zc3, Nat.reduceAdd, Nat.reduceMul, Nat.reduceSub, Nat.reduceLT, Nat.reduceLeDiff, Nat.reduceEqDiff, Nat.reduceBEq, Nat.reduceBNe, zc4, zc5, zc6, zc7, zc8, zc9, reduceIte, reduceCtorEq, zda, zdb, zdc, zdd, zde, zdf, zdg, zdh, zdi, zdj, zdk, zdl, zdm, zdn, zdo, zdp, zdq, zdr, zds, zdt, zdu, zdv, zdw, zdx, zdy, zdz, zd0, zd1, zd2, zd3, zd4, zd5, zd6, zd7, zd8, Int.reduceToNat, Int.reduceLT, Int.reduceLE, Int.reduceEq, Int.reduceNe, Int.reduceNeg, zd9, ARetK, zfe, Lk, Ranks.lo, Ranks.hi, Ranks.next, Ranks.eff, aggEq, eqK, c1A, lkV, updA, isCell, zgm, zgn, cutOwn, storeN, appendN, isU8, elemId, sdataA, ustrA, bldZ, isElem, litRowsN, isOctet, ti3, ti27, ti29, ti108, ti110, ti111, ca71, ca72, cf, Try.results34, hgj, hB, hz, decide_eq_true hS']
    · have hwl : ((W0 ++ [w]).map (WI.row a0 b0)).length = W0.length + 1 := by simp
      have hcut : ((W0 ++ [w]).map (WI.row a0 b0)).take W0.length = W0.map (WI.row a0 b0) := by simp
      have hgw : ((W0 ++ [w]).map (WI.row a0 b0)).getD W0.length [] = w.row a0 b0 := by simp [List.getD]
      have hz : decide ((0 : Int) < ((W0.length + 1 : Nat) : Int)) = true := decide_eq_true (by omega)
      have hm1 : ((W0.length + 1 : Nat) : Int) - 1 = (W0.length : Nat) := by omega
      have hW1 : 2 * (U.length - m.length) + (W0.length + 1) ≤ 2 * U.length + 1 := by simpa using hW
      rw [List.concat_eq_append] at hB hS
      have hB2 : ∀ L : List Box, (B ++ L).getD j .dead = .row 2 ((W0 ++ [w]).map (WI.row a0 b0)) 0 := fun L => by rw [getD_app1 _ _ _ _ hj, hB]
      have hww : IntKind.i64.wrap ((W0.length : Nat) : Int) = (W0.length : Nat) := wrap64 (by omega) (by omega)
      have hq : ∀ (X Y : Box) (L : List Box) (d : Box), ((B ++ [X]).set j Y ++ L).getD B.length d = X := fun X Y L d => by
        have h1 : B.length < ((B ++ [X]).set j Y).length := by simp
        have h2 : j ≠ B.length := by omega
        rw [getD_app1 _ _ _ _ h1, Go.Abs.getD_set_ne' h2, getD_app0]
        rfl
      have hq2 : ∀ (X Y Z d : Box), ((B ++ [X]).set j Y ++ [Z]).getD (B.length + 1) d = Z := fun X Y Z d => by
        have e : ((B ++ [X]).set j Y).length = B.length + 1 := by simp
        rw [← e, getD_app0]
        rfl
      rw [hmu _ _ _ _ _ hB, List.length_append, List.length_singleton]
      cases w with
      | ini =>
        have hn1 : (encIs [a0]).length = 1 := encIs_length _
        simp only [zW, tkIface, isWhole, evA, Abs.look, putA, del, keep, astep, builtinA, appendA, pickA, elemOf?, lenA, rowsOf, cellsOf, shiftP, loadA, partA, idxA, binA, intA, strA, eqA, nilP, nilS, nilM, unA, convA, storeA, cellsA, fillA, litRows, pairs, sliceOp, sliceA, isPtr, isStr, tkStr, tkSlice, isByte, byteOf, frz1, frzL, frzC, frzs, frzT, lfz, isLeaf, constA, const1, retVal, rvs, resCell, ARet, entry, closed, closed1, closed2, zbt, zbu, zbv, zbw, zbx, zby, zbz, zb0, zb1, zb2, zb3, zb4, zb5, zb6, zb7, zb8, zb9, zca, zcb, zcc, zce, zch, zci, zcj, zck, zcl, zcm, zcn, zco, zcp, zcq, zcr, zcs, zct, zcu, zcv, zcw, zcx, zcy, zcz, zc0, zc1, zc2, zc3, Nat.reduceAdd, Nat.reduceMul, Nat.reduceSub, Nat.reduceLT, Nat.reduceLeDiff, Nat.reduceEqDiff, Nat.reduceBEq, Nat.reduceBNe, zc4, zc5, zc6, zc7, zc8, zc9, reduceIte, reduceCtorEq, zda, zdb, zdc, zdd, zde, zdf, zdg, zdh, zdi, zdj, zdk, zdl, zdm, zdn, zdo, zdp, zdq, zdr, zds, zdt, zdu, zdv, zdw, zdx, zdy, zdz, zd0, zd1, zd2, zd3, zd4, zd5, zd6, zd7, zd8, Int.reduceToNat, Int.reduceLT, Int.reduceLE, Int.reduceEq, Int.reduceNe, Int.reduceNeg, zd9, ARetK, zfe, Lk, Ranks.lo, Ranks.hi, Ranks.next, Ranks.eff, aggEq, eqK, c1A, lkV, updA, isCell, zgm, zgn, cutOwn, storeN, appendN, isU8, elemId, sdataA, ustrA, bldZ, isElem, litRowsN, isOctet, ti3, ti27, ti29, ti108, ti110, ti111, ca71, ca72, cf, Try.results34, hgj, hB, hB2, hwl, hcut, hgw, WI.row, hz, hm1, hww, hq, hn1]
        refine ⟨by omega, by omega, ?_⟩
        refine aloop_intro [5, 6, 7, 33, 34, 35] (fun e A' => ∃ i m' J' W' B' j', e = [(5, .map (A.length + 2)), (6, .own (A.length + (j' + 3))), (7, .ptr (A.length + (B.length + 3)) 0), (33, .slice (encIs [a0])), (34, .int .i64 (1 : Nat)), (35, .int .i64 (i : Nat))]
          ∧ A' = A ++ (.cells (encI a0) :: .cells (encI b0) :: .mapb (esOf m') :: B') ∧ j' < B'.length ∧ B'.getD j' .dead = .row 2 (W'.map (WI.row a0 b0)) 0 ∧ B.length < B'.length ∧ B'.getD B.length .dead = .cells [.slice (encIs [a0]), .slice (encIs [b0])]
          ∧ 2 * (U.length - m'.length) + W'.length ≤ 2 * (U.length - m.length) + W0.length ∧ i ≤ [a0].length ∧ SI U a0 b0 m' J' W' (some .ini) ∧ ∀ k, k < i → Near (Eqv J') ([a0].getD k it0) ([b0].getD k it0)) (fun e _ => muI [a0].length e) ?_ ?_
        · refine ⟨0, m, J, W0, _, B.length + 1, rfl, rfl, by simp, hq2 _ _ _ _, by simp only [List.length_append, List.length_set, List.length_singleton]; omega, hq _ _ _ _, Nat.le_refl _, Nat.zero_le _, hS.pop, by simp⟩
        · rintro e A' ⟨i, m', J', W', B', j', rfl, rfl, hj', hB', hq', hBq, hle, hi, hS', hnear⟩
          have hgj' : ∀ X Y Z : Box, ∀ (k : Nat) (d : Box), (X :: Y :: Z :: B').getD (k + 3) d = B'.getD k d := fun _ _ _ _ _ => rfl
          have hcl := hS'.ci.le
          have hW' : W'.length ≤ 600000000 := by omega
          have hWb : 2 * (U.length - m'.length) + W'.length ≤ 2 * U.length + 1 := by omega
          have hxy : [a0].length = [b0].length := rfl
          have hB2' : ∀ L : List Box, (B' ++ L).getD j' .dead = .row 2 (W'.map (WI.row a0 b0)) 0 := fun L => by rw [getD_app1 _ _ _ _ hj', hB']
          have hBq2 : ∀ L : List Box, (B' ++ L).getD B.length .dead = .cells [.slice (encIs [a0]), .slice (encIs [b0])] := fun L => by rw [getD_app1 _ _ _ _ hq', hBq]
          have hjq : j' ≠ B.length := fun e => by rw [e, hBq] at hB'; cases hB'
          have hq3 : ∀ (X Y Z V R d : Box), ((B' ++ [X, Y, Z]).set j' V ++ [R]).getD (B'.length + 3) d = R := fun X Y Z V R d => by
            have e : ((B' ++ [X, Y, Z]).set j' V).length = B'.length + 3 := by simp
            rw [← e, getD_app0]
            rfl
          have hq4 : ∀ (X Y Z V : Box) (L : List Box), ((B' ++ [X, Y, Z]).set j' V ++ L).getD B.length .dead = .cells [.slice (encIs [a0]), .slice (encIs [b0])] := fun X Y Z V L => by
            have h1 : B.length < ((B' ++ [X, Y, Z]).set j' V).length := by simp only [List.length_append, List.length_set, List.length_cons, List.length_nil]; omega
            rw [getD_app1 _ _ _ _ h1, Go.Abs.getD_set_ne' hjq, hBq2]
          have hNb : 1 ≤ 1000000000 := by omega
          by_cases hlt : i < [a0].length
          · have hlt1 : decide (((i : Nat) : Int) < (1 : Nat)) = true := decide_eq_true (by have h0 : i < 1 := hlt; omega)
            have hgx : (encIs [a0]).getD i [] = encI ([a0].getD i it0) := encIs_getD hlt
            have hgy : (encIs [b0]).getD i [] = encI ([b0].getD i it0) := encIs_getD (by omega)
            have hn2 : (encIs [b0]).length = 1 := (encIs_length _).trans hxy.symm
            generalize hs : [a0].getD i it0 = s at hgx
            generalize ht : [b0].getD i it0 = t at hgy
            simp only [zW, tkIface, isWhole, evA, Abs.look, putA, del, keep, astep, builtinA, appendA, pickA, elemOf?, lenA, rowsOf, cellsOf, shiftP, loadA, partA, idxA, binA, intA, strA, eqA, nilP, nilS, nilM, unA, convA, storeA, cellsA, fillA, litRows, pairs, sliceOp, sliceA, isPtr, isStr, tkStr, tkSlice, isByte, byteOf, frz1, frzL, frzC, frzs, frzT, lfz, isLeaf, constA, const1, retVal, rvs, resCell, ARet, entry, closed, closed1, closed2, zbt, zbu, zbv, zbw, zbx, zby, zbz, zb0, zb1, zb2, zb3, zb4, zb5, zb6, zb7, zb8, zb9, zca, zcb, zcc, zce, zch, zci, zcj, zck, zcl, zcm, zcn, zco, zcp, zcq, zcr, zcs, zct, zcu, zcv, zcw, zcx, zcy, zcz, zc0, zc1, zc2, zc3, Nat.reduceAdd, Nat.reduceMul, Nat.reduceSub, Nat.reduceLT, Nat.reduceLeDiff, Nat.reduceEqDiff, Nat.reduceBEq, Nat.reduceBNe, zc4, zc5, zc6, zc7, zc8, zc9, reduceIte, reduceCtorEq, zda, zdb, zdc, zdd, zde, zdf, zdg, zdh, zdi, zdj, zdk, zdl, zdm, zdn, zdo, zdp, zdq, zdr, zds, zdt, zdu, zdv, zdw, zdx, zdy, zdz, zd0, zd1, zd2, zd3, zd4, zd5, zd6, zd7, zd8, Int.reduceToNat, Int.reduceLT, Int.reduceLE, Int.reduceEq, Int.reduceNe, Int.reduceNeg, zd9, ARetK, zfe, Lk, Ranks.lo, Ranks.hi, Ranks.next, Ranks.eff, aggEq, eqK, c1A, lkV, updA, isCell, zgm, zgn, cutOwn, storeN, appendN, isU8, elemId, sdataA, ustrA, bldZ, isElem, litRowsN, isOctet, ti3, ti27, ti29, ti108, ti110, ti111, ca71, ca72, cf, Try.results34, hgj', hB', hBq, hlt1, hgx, hgy, hn1, hn2, hB2', hBq2, encI_length, encI_take, encI_drop, encI_drop3]
            refine ⟨by have h0 : i < 1 := hlt; omega, by have h0 : i < 1 := hlt; omega, ?_⟩
            refine callK_intro (by simp only [zW, tkIface, isWhole, evA, Abs.look, putA, del, keep, astep, builtinA, appendA, pickA, elemOf?, lenA, rowsOf, cellsOf, shiftP, loadA, partA, idxA, binA, intA, strA, eqA, nilP, nilS, nilM, unA, convA, storeA, cellsA, fillA, litRows, pairs, sliceOp, sliceA, isPtr, isStr, tkStr, tkSlice, isByte, byteOf, frz1, frzL, frzC, frzs, frzT, lfz, isLeaf, constA, const1, retVal, rvs, resCell, ARet, entry, closed, closed1, closed2, zbt, zbu, zbv, zbw, zbx, zby, zbz, zb0, zb1, zb2, zb3, zb4, zb5, zb6, zb7, zb8, zb9, zca, zcb, zcc, zce, zch, zci, zcj, zck, zcl, zcm, zcn, zco, zcp, zcq, zcr, zcs, zct, zcu, zcv, zcw, zcx, zcy, zcz, zc0, zc1, zc2, zc3, Nat.reduceAdd, Nat.reduceMul, Nat.reduceSub, Nat.reduceLT, Nat.reduceLeDiff, Nat.reduceEqDiff, Nat.reduceBEq, Nat.reduceBNe, zc4, zc5, zc6, zc7, zc8, zc9, reduceIte, reduceCtorEq, zda, zdb, zdc, zdd, zde, zdf, zdg, zdh, zdi, zdj, zdk, zdl, zdm, zdn, zdo, zdp, zdq, zdr, zds, zdt, zdu, zdv, zdw, zdx, zdy, zdz, zd0, zd1, zd2, zd3, zd4, zd5, zd6, zd7, zd8, Int.reduceToNat, Int.reduceLT, Int.reduceLE, Int.reduceEq, Int.reduceNe, Int.reduceNeg, zd9, ARetK, zfe, Lk, Ranks.lo, Ranks.hi, Ranks.next, Ranks.eff, aggEq, eqK, c1A, lkV, updA, isCell, zgm, zgn, cutOwn, storeN, appendN, isU8, elemId, sdataA, ustrA, bldZ, isElem, litRowsN, isOctet, frzL_encI, Option.map]; rfl) (impl_sameNode s t _) ?_ rfl
            rintro v A' ⟨rfl, rfl⟩
            by_cases hnode : node s = node t
            · simp only [zW, tkIface, isWhole, evA, Abs.look, putA, del, keep, astep, builtinA, appendA, pickA, elemOf?, lenA, rowsOf, cellsOf, shiftP, loadA, partA, idxA, binA, intA, strA, eqA, nilP, nilS, nilM, unA, convA, storeA, cellsA, fillA, litRows, pairs, sliceOp, sliceA, isPtr, isStr, tkStr, tkSlice, isByte, byteOf, frz1, frzL, frzC, frzs, frzT, lfz, isLeaf, constA, const1, retVal, rvs, resCell, ARet, entry, closed, closed1, closed2, zbt, zbu, zbv, zbw, zbx, zby, zbz, zb0, zb1, zb2, zb3, zb4, zb5, zb6, zb7, zb8, zb9, zca, zcb, zcc, zce, zch, zci, zcj, zck, zcl, zcm, zcn, zco, zcp, zcq, zcr, zcs, zct, zcu, zcv, zcw, zcx, zcy, zcz, zc0, zc1, zc2, zc3, Nat.reduceAdd, Nat.reduceMul, Nat.reduceSub, Nat.reduceLT, Nat.reduceLeDiff, Nat.reduceEqDiff, Nat.reduceBEq, Nat.reduceBNe, zc4, zc5, zc6, zc7, zc8, zc9, reduceIte, reduceCtorEq, zda, zdb, zdc, zdd, zde, zdf, zdg, zdh, zdi, zdj, zdk, zdl, zdm, zdn, zdo, zdp, zdq, zdr, zds, zdt, zdu, zdv, zdw, zdx, zdy, zdz, zd0, zd1, zd2, zd3, zd4, zd5, zd6, zd7, zd8, Int.reduceToNat, Int.reduceLT, Int.reduceLE, Int.reduceEq, Int.reduceNe, Int.reduceNeg, zd9, ARetK, zfe, Lk, Ranks.lo, Ranks.hi, Ranks.next, Ranks.eff, aggEq, eqK, c1A, lkV, updA, isCell, zgm, zgn, cutOwn, storeN, appendN, isU8, elemId, sdataA, ustrA, bldZ, isElem, litRowsN, isOctet, ti3, ti27, ti29, ti108, ti110, ti111, ca71, ca72, cf, Try.results34, hgj', hB', hBq, hB2', hBq2, decide_eq_true hnode, encI_length, encI_take, encI_drop, encI_drop3]
              have hbx : ∀ z, below s = some z → z ∈ U := fun z hz => by simp at hlt; subst hlt; simp at hs; subst hs; exact ha z hz
              have hby : ∀ z, below t = some z → z ∈ U := fun z hz => by simp at hlt; subst hlt; simp at ht; subst ht; exact hb z hz
              have hkl : (node s).2.2.2 = (node t).2.2.2 := by rw [hnode]
              have hAl : A.length + 2 < (A ++ (Box.cells (encI a0) :: Box.cells (encI b0) :: Box.mapb (esOf m') :: (B' ++ [Box.cells (encI s), Box.cells (encI t)]))).length := by simp
              have hAg : (A ++ (Box.cells (encI a0) :: Box.cells (encI b0) :: Box.mapb (esOf m') :: (B' ++ [Box.cells (encI s), Box.cells (encI t)]))).getD (A.length + 2) .dead = .mapb (esOf m') := getD_app _ _ _ _
              have hi1 : IntKind.i64.wrap ((i : Int) + 1) = ((i + 1 : Nat) : Int) := by rw [wrap64 (by omega) (by have h0 : i < 1 := hlt; omega)]; rfl
              have hnr : ∀ J2, (∀ x y, Eqv J' x y → Eqv J2 x y) → Near (Eqv J2) s t → ∀ k, k < i + 1 → Near (Eqv J2) ([a0].getD k it0) ([b0].getD k it0) := fun J2 hj hn k hk => by
                rcases Nat.lt_or_ge k i with h | h
                · exact (hnear k h).mono hj
                · obtain rfl : k = i := by omega
                  rw [hs, ht]; exact hn
              have hmi : 1 - (((i + 1 : Nat) : Int)).toNat < 1 - ((i : Nat) : Int).toNat := by have h0 : i < 1 := hlt; simp only [Int.toNat_natCast]; omega
              have hl1 : j' < (B' ++ [Box.cells (encI s), Box.cells (encI t)]).length := by rw [List.length_append]; omega
              have hl2 : B.length < (B' ++ [Box.cells (encI s), Box.cells (encI t)]).length := by rw [List.length_append]; omega
              rcases kids_cases s with ⟨k1, e1, n1⟩ | ⟨x', k1, e1, n1⟩ <;> rcases kids_cases t with ⟨k2, e2, n2⟩ | ⟨y', k2, e2, n2⟩
              · rw [e1, e2]
                refine callK_intro (by simp only [zW, tkIface, isWhole, evA, Abs.look, putA, del, keep, astep, builtinA, appendA, pickA, elemOf?, lenA, rowsOf, cellsOf, shiftP, loadA, partA, idxA, binA, intA, strA, eqA, nilP, nilS, nilM, unA, convA, storeA, cellsA, fillA, litRows, pairs, sliceOp, sliceA, isPtr, isStr, tkStr, tkSlice, isByte, byteOf, frz1, frzL, frzC, frzs, frzT, lfz, isLeaf, constA, const1, retVal, rvs, resCell, ARet, entry, closed, closed1, closed2, zbt, zbu, zbv, zbw, zbx, zby, zbz, zb0, zb1, zb2, zb3, zb4, zb5, zb6, zb7, zb8, zb9, zca, zcb, zcc, zce, zch, zci, zcj, zck, zcl, zcm, zcn, zco, zcp, zcq, zcr, zcs, zct, zcu, zcv, zcw, zcx, zcy, zcz, zc0, zc1, zc2, zc3, Nat.reduceAdd, Nat.reduceMul, Nat.reduceSub, Nat.reduceLT, Nat.reduceLeDiff, Nat.reduceEqDiff, Nat.reduceBEq, Nat.reduceBNe, zc4, zc5, zc6, zc7, zc8, zc9, reduceIte, reduceCtorEq, zda, zdb, zdc, zdd, zde, zdf, zdg, zdh, zdi, zdj, zdk, zdl, zdm, zdn, zdo, zdp, zdq, zdr, zds, zdt, zdu, zdv, zdw, zdx, zdy, zdz, zd0, zd1, zd2, zd3, zd4, zd5, zd6, zd7, zd8, Int.reduceToNat, Int.reduceLT, Int.reduceLE, Int.reduceEq, Int.reduceNe, Int.reduceNeg, zd9, ARetK, zfe, Lk, Ranks.lo, Ranks.hi, Ranks.next, Ranks.eff, aggEq, eqK, c1A, lkV, updA, isCell, zgm, zgn, cutOwn, storeN, appendN, isU8, elemId, sdataA, ustrA, bldZ, isElem, litRowsN, isOctet] <;> rfl) (impl_join0 _ _) ?_ rfl
                rintro v A' ⟨rfl, rfl⟩
                simp only [zW, tkIface, isWhole, evA, Abs.look, putA, del, keep, astep, builtinA, appendA, pickA, elemOf?, lenA, rowsOf, cellsOf, shiftP, loadA, partA, idxA, binA, intA, strA, eqA, nilP, nilS, nilM, unA, convA, storeA, cellsA, fillA, litRows, pairs, sliceOp, sliceA, isPtr, isStr, tkStr, tkSlice, isByte, byteOf, frz1, frzL, frzC, frzs, frzT, lfz, isLeaf, constA, const1, retVal, rvs, resCell, ARet, entry, closed, closed1, closed2, zbt, zbu, zbv, zbw, zbx, zby, zbz, zb0, zb1, zb2, zb3, zb4, zb5, zb6, zb7, zb8, zb9, zca, zcb, zcc, zce, zch, zci, zcj, zck, zcl, zcm, zcn, zco, zcp, zcq, zcr, zcs, zct, zcu, zcv, zcw, zcx, zcy, zcz, zc0, zc1, zc2, zc3, Nat.reduceAdd, Nat.reduceMul, Nat.reduceSub, Nat.reduceLT, Nat.reduceLeDiff, Nat.reduceEqDiff, Nat.reduceBEq, Nat.reduceBNe, zc4, zc5, zc6, zc7, zc8, zc9, reduceIte, reduceCtorEq, zda, zdb, zdc, zdd, zde, zdf, zdg, zdh, zdi, zdj, zdk, zdl, zdm, zdn, zdo, zdp, zdq, zdr, zds, zdt, zdu, zdv, zdw, zdx, zdy, zdz, zd0, zd1, zd2, zd3, zd4, zd5, zd6, zd7, zd8, Int.reduceToNat, Int.reduceLT, Int.reduceLE, Int.reduceEq, Int.reduceNe, Int.reduceNeg, zd9, ARetK, zfe, Lk, Ranks.lo, Ranks.hi, Ranks.next, Ranks.eff, aggEq, eqK, c1A, lkV, updA, isCell, zgm, zgn, cutOwn, storeN, appendN, isU8, elemId, sdataA, ustrA, bldZ, isElem, litRowsN, isOctet, ti3, ti27, ti29, ti108, ti110, ti111, ca71, ca72, cf, Try.results34, hgj', hB', hBq, hB2', hBq2, hi1, encI_length, encI_take, encI_drop, encI_drop3, LoopK_eq]
                exact ⟨⟨i + 1, m', J', W', _, j', rfl, rfl, hl1, hB2' _, hl2, hBq2 _, hle, hlt, hS', hnr J' (fun _ _ h => h) ⟨hnode, .inl ⟨k1, k2⟩⟩⟩, hmi⟩
              · exfalso; rw [n1, n2] at hkl; simp [LL.ks] at hkl
              · exfalso; rw [n1, n2] at hkl; simp [LL.ks] at hkl
              · rw [e1, e2]
                refine callK_intro (by simp only [zW, tkIface, isWhole, evA, Abs.look, putA, del, keep, astep, builtinA, appendA, pickA, elemOf?, lenA, rowsOf, cellsOf, shiftP, loadA, partA, idxA, binA, intA, strA, eqA, nilP, nilS, nilM, unA, convA, storeA, cellsA, fillA, litRows, pairs, sliceOp, sliceA, isPtr, isStr, tkStr, tkSlice, isByte, byteOf, frz1, frzL, frzC, frzs, frzT, lfz, isLeaf, constA, const1, retVal, rvs, resCell, ARet, entry, closed, closed1, closed2, zbt, zbu, zbv, zbw, zbx, zby, zbz, zb0, zb1, zb2, zb3, zb4, zb5, zb6, zb7, zb8, zb9, zca, zcb, zcc, zce, zch, zci, zcj, zck, zcl, zcm, zcn, zco, zcp, zcq, zcr, zcs, zct, zcu, zcv, zcw, zcx, zcy, zcz, zc0, zc1, zc2, zc3, Nat.reduceAdd, Nat.reduceMul, Nat.reduceSub, Nat.reduceLT, Nat.reduceLeDiff, Nat.reduceEqDiff, Nat.reduceBEq, Nat.reduceBNe, zc4, zc5, zc6, zc7, zc8, zc9, reduceIte, reduceCtorEq, zda, zdb, zdc, zdd, zde, zdf, zdg, zdh, zdi, zdj, zdk, zdl, zdm, zdn, zdo, zdp, zdq, zdr, zds, zdt, zdu, zdv, zdw, zdx, zdy, zdz, zd0, zd1, zd2, zd3, zd4, zd5, zd6, zd7, zd8, Int.reduceToNat, Int.reduceLT, Int.reduceLE, Int.reduceEq, Int.reduceNe, Int.reduceNeg, zd9, ARetK, zfe, Lk, Ranks.lo, Ranks.hi, Ranks.next, Ranks.eff, aggEq, eqK, c1A, lkV, updA, isCell, zgm, zgn, cutOwn, storeN, appendN, isU8, elemId, sdataA, ustrA, bldZ, isElem, litRowsN, isOctet] <;> rfl) (impl_join hU (fun x => .refl x) (fun _ _ _ h k => .trans h k) (fun _ _ h => .symm h) m' hS'.ci x' y' (hbx x' k1) (hby y' k2) (A.length + 2) _ hAl hAg) ?_ rfl
                rintro v A' ⟨m2, rfl, ⟨rfl, hr, hc2, hm2⟩ | ⟨rfl, hm2, hc2⟩⟩
                · simp only [zW, tkIface, isWhole, evA, Abs.look, putA, del, keep, astep, builtinA, appendA, pickA, elemOf?, lenA, rowsOf, cellsOf, shiftP, loadA, partA, idxA, binA, intA, strA, eqA, nilP, nilS, nilM, unA, convA, storeA, cellsA, fillA, litRows, pairs, sliceOp, sliceA, isPtr, isStr, tkStr, tkSlice, isByte, byteOf, frz1, frzL, frzC, frzs, frzT, lfz, isLeaf, constA, const1, retVal, rvs, resCell, ARet, entry, closed, closed1, closed2, zbt, zbu, zbv, zbw, zbx, zby, zbz, zb0, zb1, zb2, zb3, zb4, zb5, zb6, zb7, zb8, zb9, zca, zcb, zcc, zce, zch, zci, zcj, zck, zcl, zcm, zcn, zco, zcp, zcq, zcr, zcs, zct, zcu, zcv, zcw, zcx, zcy, zcz, zc0, zc1, zc2, zc3, Nat.reduceAdd, Nat.reduceMul, Nat.reduceSub, Nat.reduceLT, Nat.reduceLeDiff, Nat.reduceEqDiff, Nat.reduceBEq, Nat.reduceBNe, zc4, zc5, zc6, zc7, zc8, zc9, reduceIte, reduceCtorEq, zda, zdb, zdc, zdd, zde, zdf, zdg, zdh, zdi, zdj, zdk, zdl, zdm, zdn, zdo, zdp, zdq, zdr, zds, zdt, zdu, zdv, zdw, zdx, zdy, zdz, zd0, zd1, zd2, zd3, zd4, zd5, zd6, zd7, zd8, Int.reduceToNat, Int.reduceLT, Int.reduceLE, Int.reduceEq, Int.reduceNe, Int.reduceNeg, zd9, ARetK, zfe, Lk, Ranks.lo, Ranks.hi, Ranks.next, Ranks.eff, aggEq, eqK, c1A, lkV, updA, isCell, zgm, zgn, cutOwn, storeN, appendN, isU8, elemId, sdataA, ustrA, bldZ, isElem, litRowsN, isOctet, ti3, ti27, ti29, ti108, ti110, ti111, ca71, ca72, cf, Try.results34, hgj', hB', hBq, hB2', hBq2, hi1, encI_length, encI_take, encI_drop, encI_drop3, LoopK_eq]
                  exact ⟨⟨i + 1, m2, J', W', _, j', rfl, rfl, hl1, hB2' _, hl2, hBq2 _, by rw [hm2]; exact hle, hlt, hS'.same hc2, hnr J' (fun _ _ h => h) ⟨hnode, .inr ⟨x', y', k1, k2, hr⟩⟩⟩, hmi⟩
                · have hxyl : x'.ks.length = y'.ks.length := by omega
                  have hSm := hS'.more (hbx x' k1) (hby y' k2) hxyl (hc2 (Eqv ((x', y') :: J')) (eqv_more _) (fun _ _ h => .symm h) (fun _ _ _ h k => .trans h k) (.base (by simp))) (fun he => by
                    have := erases_at (hS'.er he _ (.inr rfl)) i
                    simp only [WI.l1, WI.l2] at this
                    rw [hs, ht] at this
                    exact erase_kids this k1 k2)
                  have hsl := hSm.ci.le
                  have hrow : W'.map (WI.row a0 b0) ++ [[.islice x'.b x'.off (encIs x'.ks), .islice y'.b y'.off (encIs y'.ks)]] = (W' ++ [WI.pr x' y']).map (WI.row a0 b0) := by simp [WI.row]
                  simp only [zW, tkIface, isWhole, evA, Abs.look, putA, del, keep, astep, builtinA, appendA, pickA, elemOf?, lenA, rowsOf, cellsOf, shiftP, loadA, partA, idxA, binA, intA, strA, eqA, nilP, nilS, nilM, unA, convA, storeA, cellsA, fillA, litRows, pairs, sliceOp, sliceA, isPtr, isStr, tkStr, tkSlice, isByte, byteOf, frz1, frzL, frzC, frzs, frzT, lfz, isLeaf, constA, const1, retVal, rvs, resCell, ARet, entry, closed, closed1, closed2, zbt, zbu, zbv, zbw, zbx, zby, zbz, zb0, zb1, zb2, zb3, zb4, zb5, zb6, zb7, zb8, zb9, zca, zcb, zcc, zce, zch, zci, zcj, zck, zcl, zcm, zcn, zco, zcp, zcq, zcr, zcs, zct, zcu, zcv, zcw, zcx, zcy, zcz, zc0, zc1, zc2, zc3, Nat.reduceAdd, Nat.reduceMul, Nat.reduceSub, Nat.reduceLT, Nat.reduceLeDiff, Nat.reduceEqDiff, Nat.reduceBEq, Nat.reduceBNe, zc4, zc5, zc6, zc7, zc8, zc9, reduceIte, reduceCtorEq, zda, zdb, zdc, zdd, zde, zdf, zdg, zdh, zdi, zdj, zdk, zdl, zdm, zdn, zdo, zdp, zdq, zdr, zds, zdt, zdu, zdv, zdw, zdx, zdy, zdz, zd0, zd1, zd2, zd3, zd4, zd5, zd6, zd7, zd8, Int.reduceToNat, Int.reduceLT, Int.reduceLE, Int.reduceEq, Int.reduceNe, Int.reduceNeg, zd9, ARetK, zfe, Lk, Ranks.lo, Ranks.hi, Ranks.next, Ranks.eff, aggEq, eqK, c1A, lkV, updA, isCell, zgm, zgn, cutOwn, storeN, appendN, isU8, elemId, sdataA, ustrA, bldZ, isElem, litRowsN, isOctet, ti3, ti27, ti29, ti108, ti110, ti111, ca71, ca72, cf, Try.results34, hgj', hB', hBq, hB2', hBq2, hi1, e1, e2, hrow, encI_length, encI_take, encI_drop, encI_drop3, LoopK_eq]
                  refine ⟨?_, ⟨?_, by rw [List.length_map]; omega⟩, ⟨i + 1, m2, (x', y') :: J', W' ++ [.pr x' y'], _, B'.length + 3, rfl, rfl, ?_, hq3 _ _ _ _ _ _, ?_, hq4 _ _ _ _ _, ?_, hlt, hSm, hnr _ (eqv_more _) ⟨hnode, .inr ⟨x', y', k1, k2, .base (by simp)⟩⟩⟩, hmi⟩
                  · intro v hv
                    rcases List.mem_cons.1 hv with rfl | hv
                    · rfl
                    · rcases List.mem_cons.1 hv with rfl | hv
                      · rfl
                      · cases hv
                  · intro r hr
                    rw [List.mem_singleton.1 hr]
                    rfl
                  · simp only [List.length_append, List.length_set, List.length_cons, List.length_nil]; omega
                  · simp only [List.length_append, List.length_set, List.length_cons, List.length_nil]; omega
                  · rw [List.length_append, List.length_singleton]; omega
            · have hne : erase a0 ≠ erase b0 := fun he => hnode (by
                have := erases_at (hS'.er he _ (.inr rfl)) i
                simp only [WI.l1, WI.l2] at this
                rw [hs, ht] at this
                exact erase_node this)
              simp only [zW, tkIface, isWhole, evA, Abs.look, putA, del, keep, astep, builtinA, appendA, pickA, elemOf?, lenA, rowsOf, cellsOf, shiftP, loadA, partA, idxA, binA, intA, strA, eqA, nilP, nilS, nilM, unA, convA, storeA, cellsA, fillA, litRows, pairs, sliceOp, sliceA, isPtr, isStr, tkStr, tkSlice, isByte, byteOf, frz1, frzL, frzC, frzs, frzT, lfz, isLeaf, constA, const1, retVal, rvs, resCell, ARet, entry, closed, closed1, closed2, zbt, zbu, zbv, zbw, zbx, zby, zbz, zb0, zb1, zb2, zb3, zb4, zb5, zb6, zb7, zb8, zb9, zca, zcb, zcc, zce, zch, zci, zcj, zck, zcl, zcm, zcn, zco, zcp, zcq, zcr, zcs, zct, zcu, zcv, zcw, zcx, zcy, zcz, zc0, zc1, zc2, zc3, Nat.reduceAdd, Nat.reduceMul, Nat.reduceSub, Nat.reduceLT, Nat.reduceLeDiff, Nat.reduceEqDiff, Nat.reduceBEq, Nat.reduceBNe, zc4, zc5, zc6, zc7, zc8, zc9, reduceIte, reduceCtorEq, zda, zdb, zdc, zdd, zde, zdf, zdg, zdh, zdi, zdj, zdk, zdl, zdm, zdn, zdo, zdp, zdq, zdr, zds, zdt, zdu, zdv, zdw, zdx, zdy, zdz, zd0, zd1, zd2, zd3, zd4, zd5, zd6, zd7, zd8, Int.reduceToNat, Int.reduceLT, Int.reduceLE, Int.reduceEq, Int.reduceNe, Int.reduceNeg, zd9, ARetK, zfe, Lk, Ranks.lo, Ranks.hi, Ranks.next, Ranks.eff, aggEq, eqK, c1A, lkV, updA, isCell, zgm, zgn, cutOwn, storeN, appendN, isU8, elemId, sdataA, ustrA, bldZ, isElem, litRowsN, isOctet, ti3, ti27, ti29, ti108, ti110, ti111, ca71, ca72, cf, Try.results34, hgj', hB', hBq, hB2', hBq2, decide_eq_false hnode, decide_eq_false hne, encI_length, encI_take, encI_drop, encI_drop3]
          · have hlt1 : decide (((i : Nat) : Int) < (1 : Nat)) = false := decide_eq_false (by have h0 : ¬ i < 1 := hlt; omega)
            simp only [zW, tkIface, isWhole, evA, Abs.look, putA, del, keep, astep, builtinA, appendA, pickA, elemOf?, lenA, rowsOf, cellsOf, shiftP, loadA, partA, idxA, binA, intA, strA, eqA, nilP, nilS, nilM, unA, convA, storeA, cellsA, fillA, litRows, pairs, sliceOp, sliceA, isPtr, isStr, tkStr, tkSlice, isByte, byteOf, frz1, frzL, frzC, frzs, frzT, lfz, isLeaf, constA, const1, retVal, rvs, resCell, ARet, entry, closed, closed1, closed2, zbt, zbu, zbv, zbw, zbx, zby, zbz, zb0, zb1, zb2, zb3, zb4, zb5, zb6, zb7, zb8, zb9, zca, zcb, zcc, zce, zch, zci, zcj, zck, zcl, zcm, zcn, zco, zcp, zcq, zcr, zcs, zct, zcu, zcv, zcw, zcx, zcy, zcz, zc0, zc1, zc2, zc3, Nat.reduceAdd, Nat.reduceMul, Nat.reduceSub, Nat.reduceLT, Nat.reduceLeDiff, Nat.reduceEqDiff, Nat.reduceBEq, Nat.reduceBNe, zc4, zc5, zc6, zc7, zc8, zc9, reduceIte, reduceCtorEq, zda, zdb, zdc, zdd, zde, zdf, zdg, zdh, zdi, zdj, zdk, zdl, zdm, zdn, zdo, zdp, zdq, zdr, zds, zdt, zdu, zdv, zdw, zdx, zdy, zdz, zd0, zd1, zd2, zd3, zd4, zd5, zd6, zd7, zd8, Int.reduceToNat, Int.reduceLT, Int.reduceLE, Int.reduceEq, Int.reduceNe, Int.reduceNeg, zd9, ARetK, zfe, Lk, Ranks.lo, Ranks.hi, Ranks.next, Ranks.eff, aggEq, eqK, c1A, lkV, updA, isCell, zgm, zgn, cutOwn, storeN, appendN, isU8, elemId, sdataA, ustrA, bldZ, isElem, litRowsN, isOctet, ti3, ti27, ti29, ti108, ti110, ti111, ca71, ca72, cf, Try.results34, hgj', hB', hBq, hlt1, LoopK_eq]
            refine ⟨⟨m', J', W', B', j', rfl, rfl, hj', hB', hWb, hS'.done hxy fun k hk => hnear k (by simp only [WI.l1] at hk; omega)⟩, ?_⟩
            rw [hmu _ _ _ _ _ hB']
            omega
      | pr x y =>
        have hn1 : (encIs x.ks).length = x.ks.length := encIs_length _
        simp only [zW, tkIface, isWhole, evA, Abs.look, putA, del, keep, astep, builtinA, appendA, pickA, elemOf?, lenA, rowsOf, cellsOf, shiftP, loadA, partA, idxA, binA, intA, strA, eqA, nilP, nilS, nilM, unA, convA, storeA, cellsA, fillA, litRows, pairs, sliceOp, sliceA, isPtr, isStr, tkStr, tkSlice, isByte, byteOf, frz1, frzL, frzC, frzs, frzT, lfz, isLeaf, constA, const1, retVal, rvs, resCell, ARet, entry, closed, closed1, closed2, zbt, zbu, zbv, zbw, zbx, zby, zbz, zb0, zb1, zb2, zb3, zb4, zb5, zb6, zb7, zb8, zb9, zca, zcb, zcc, zce, zch, zci, zcj, zck, zcl, zcm, zcn, zco, zcp, zcq, zcr, zcs, zct, zcu, zcv, zcw, zcx, zcy, zcz, zc0, zc1, zc2, zc3, Nat.reduceAdd, Nat.reduceMul, Nat.reduceSub, Nat.reduceLT, Nat.reduceLeDiff, Nat.reduceEqDiff, Nat.reduceBEq, Nat.reduceBNe, zc4, zc5, zc6, zc7, zc8, zc9, reduceIte, reduceCtorEq, zda, zdb, zdc, zdd, zde, zdf, zdg, zdh, zdi, zdj, zdk, zdl, zdm, zdn, zdo, zdp, zdq, zdr, zds, zdt, zdu, zdv, zdw, zdx, zdy, zdz, zd0, zd1, zd2, zd3, zd4, zd5, zd6, zd7, zd8, Int.reduceToNat, Int.reduceLT, Int.reduceLE, Int.reduceEq, Int.reduceNe, Int.reduceNeg, zd9, ARetK, zfe, Lk, Ranks.lo, Ranks.hi, Ranks.next, Ranks.eff, aggEq, eqK, c1A, lkV, updA, isCell, zgm, zgn, cutOwn, storeN, appendN, isU8, elemId, sdataA, ustrA, bldZ, isElem, litRowsN, isOctet, ti3, ti27, ti29, ti108, ti110, ti111, ca71, ca72, cf, Try.results34, hgj, hB, hB2, hwl, hcut, hgw, WI.row, hz, hm1, hww, hq, hn1]
        refine ⟨by omega, by omega, ?_⟩
        refine aloop_intro [5, 6, 7, 33, 34, 35] (fun e A' => ∃ i m' J' W' B' j', e = [(5, .map (A.length + 2)), (6, .own (A.length + (j' + 3))), (7, .ptr (A.length + (B.length + 3)) 0), (33, .islice x.b x.off (encIs x.ks)), (34, .int .i64 (x.ks.length : Nat)), (35, .int .i64 (i : Nat))]
          ∧ A' = A ++ (.cells (encI a0) :: .cells (encI b0) :: .mapb (esOf m') :: B') ∧ j' < B'.length ∧ B'.getD j' .dead = .row 2 (W'.map (WI.row a0 b0)) 0 ∧ B.length < B'.length ∧ B'.getD B.length .dead = .cells [.islice x.b x.off (encIs x.ks), .islice y.b y.off (encIs y.ks)]
          ∧ 2 * (U.length - m'.length) + W'.length ≤ 2 * (U.length - m.length) + W0.length ∧ i ≤ x.ks.length ∧ SI U a0 b0 m' J' W' (some (.pr x y)) ∧ ∀ k, k < i → Near (Eqv J') (x.ks.getD k it0) (y.ks.getD k it0)) (fun e _ => muI x.ks.length e) ?_ ?_
        · refine ⟨0, m, J, W0, _, B.length + 1, rfl, rfl, by simp, hq2 _ _ _ _, by simp only [List.length_append, List.length_set, List.length_singleton]; omega, hq _ _ _ _, Nat.le_refl _, Nat.zero_le _, hS.pop, by simp⟩
        · rintro e A' ⟨i, m', J', W', B', j', rfl, rfl, hj', hB', hq', hBq, hle, hi, hS', hnear⟩
          have hgj' : ∀ X Y Z : Box, ∀ (k : Nat) (d : Box), (X :: Y :: Z :: B').getD (k + 3) d = B'.getD k d := fun _ _ _ _ _ => rfl
          have hcl := hS'.ci.le
          have hW' : W'.length ≤ 600000000 := by omega
          have hWb : 2 * (U.length - m'.length) + W'.length ≤ 2 * U.length + 1 := by omega
          have hxy : x.ks.length = y.ks.length := (hS.ws x y (.inl (by simp))).2.2
          have hB2' : ∀ L : List Box, (B' ++ L).getD j' .dead = .row 2 (W'.map (WI.row a0 b0)) 0 := fun L => by rw [getD_app1 _ _ _ _ hj', hB']
          have hBq2 : ∀ L : List Box, (B' ++ L).getD B.length .dead = .cells [.islice x.b x.off (encIs x.ks), .islice y.b y.off (encIs y.ks)] := fun L => by rw [getD_app1 _ _ _ _ hq', hBq]
          have hjq : j' ≠ B.length := fun e => by rw [e, hBq] at hB'; cases hB'
          have hq3 : ∀ (X Y Z V R d : Box), ((B' ++ [X, Y, Z]).set j' V ++ [R]).getD (B'.length + 3) d = R := fun X Y Z V R d => by
            have e : ((B' ++ [X, Y, Z]).set j' V).length = B'.length + 3 := by simp
            rw [← e, getD_app0]
            rfl
          have hq4 : ∀ (X Y Z V : Box) (L : List Box), ((B' ++ [X, Y, Z]).set j' V ++ L).getD B.length .dead = .cells [.islice x.b x.off (encIs x.ks), .islice y.b y.off (encIs y.ks)] := fun X Y Z V L => by
            have h1 : B.length < ((B' ++ [X, Y, Z]).set j' V).length := by simp only [List.length_append, List.length_set, List.length_cons, List.length_nil]; omega
            rw [getD_app1 _ _ _ _ h1, Go.Abs.getD_set_ne' hjq, hBq2]
          have hNb : x.ks.length ≤ 1000000000 := hL x (hS.ws x y (.inl (by simp))).1
          by_cases hlt : i < x.ks.length
          · have hlt1 : decide (((i : Nat) : Int) < (x.ks.length : Nat)) = true := decide_eq_true (by have h0 : i < x.ks.length := hlt; omega)
            have hgx : (encIs x.ks).getD i [] = encI (x.ks.getD i it0) := encIs_getD hlt
            have hgy : (encIs y.ks).getD i [] = encI (y.ks.getD i it0) := encIs_getD (by omega)
            have hn2 : (encIs y.ks).length = x.ks.length := (encIs_length _).trans hxy.symm
            generalize hs : x.ks.getD i it0 = s at hgx
            generalize ht : y.ks.getD i it0 = t at hgy
            simp only [zW, tkIface, isWhole, evA, Abs.look, putA, del, keep, astep, builtinA, appendA, pickA, elemOf?, lenA, rowsOf, cellsOf, shiftP, loadA, partA, idxA, binA, intA, strA, eqA, nilP, nilS, nilM, unA, convA, storeA, cellsA, fillA, litRows, pairs, sliceOp, sliceA, isPtr, isStr, tkStr, tkSlice, isByte, byteOf, frz1, frzL, frzC, frzs, frzT, lfz, isLeaf, constA, const1, retVal, rvs, resCell, ARet, entry, closed, closed1, closed2, zbt, zbu, zbv, zbw, zbx, zby, zbz, zb0, zb1, zb2, zb3, zb4, zb5, zb6, zb7, zb8, zb9, zca, zcb, zcc, zce, zch, zci, zcj, zck, zcl, zcm, zcn, zco, zcp, zcq, zcr, zcs, zct, zcu, zcv, zcw, zcx, zcy, zcz, zc0, zc1, zc2, zc3, Nat.reduceAdd, Nat.reduceMul, Nat.reduceSub, Nat.reduceLT, Nat.reduceLeDiff, Nat.reduceEqDiff, Nat.reduceBEq, Nat.reduceBNe, zc4, zc5, zc6, zc7, zc8, zc9, reduceIte, reduceCtorEq, zda, zdb, zdc, zdd, zde, zdf, zdg, zdh, zdi, zdj, zdk, zdl, zdm, zdn, zdo, zdp, zdq, zdr, zds, zdt, zdu, zdv, zdw, zdx, zdy, zdz, zd0, zd1, zd2, zd3, zd4, zd5, zd6, zd7, zd8, Int.reduceToNat, Int.reduceLT, Int.reduceLE, Int.reduceEq, Int.reduceNe, Int.reduceNeg, zd9, ARetK, zfe, Lk, Ranks.lo, Ranks.hi, Ranks.next, Ranks.eff, aggEq, eqK, c1A, lkV, updA, isCell, zgm, zgn, cutOwn, storeN, appendN, isU8, elemId, sdataA, ustrA, bldZ, isElem, litRowsN, isOctet, ti3, ti27, ti29, ti108, ti110, ti111, ca71, ca72, cf, Try.results34, hgj', hB', hBq, hlt1, hgx, hgy, hn1, hn2, hB2', hBq2, encI_length, encI_take, encI_drop, encI_drop3]
            refine ⟨by have h0 : i < x.ks.length := hlt; omega, by have h0 : i < x.ks.length := hlt; omega, ?_⟩
            refine callK_intro (by simp only [zW, tkIface, isWhole, evA, Abs.look, putA, del, keep, astep, builtinA, appendA, pickA, elemOf?, lenA, rowsOf, cellsOf, shiftP, loadA, partA, idxA, binA, intA, strA, eqA, nilP, nilS, nilM, unA, convA, storeA, cellsA, fillA, litRows, pairs, sliceOp, sliceA, isPtr, isStr, tkStr, tkSlice, isByte, byteOf, frz1, frzL, frzC, frzs, frzT, lfz, isLeaf, constA, const1, retVal, rvs, resCell, ARet, entry, closed, closed1, closed2, zbt, zbu, zbv, zbw, zbx, zby, zbz, zb0, zb1, zb2, zb3, zb4, zb5, zb6, zb7, zb8, zb9, zca, zcb, zcc, zce, zch, zci, zcj, zck, zcl, zcm, zcn, zco, zcp, zcq, zcr, zcs, zct, zcu, zcv, zcw, zcx, zcy, zcz, zc0, zc1, zc2, zc3, Nat.reduceAdd, Nat.reduceMul, Nat.reduceSub, Nat.reduceLT, Nat.reduceLeDiff, Nat.reduceEqDiff, Nat.reduceBEq, Nat.reduceBNe, zc4, zc5, zc6, zc7, zc8, zc9, reduceIte, reduceCtorEq, zda, zdb, zdc, zdd, zde, zdf, zdg, zdh, zdi, zdj, zdk, zdl, zdm, zdn, zdo, zdp, zdq, zdr, zds, zdt, zdu, zdv, zdw, zdx, zdy, zdz, zd0, zd1, zd2, zd3, zd4, zd5, zd6, zd7, zd8, Int.reduceToNat, Int.reduceLT, Int.reduceLE, Int.reduceEq, Int.reduceNe, Int.reduceNeg, zd9, ARetK, zfe, Lk, Ranks.lo, Ranks.hi, Ranks.next, Ranks.eff, aggEq, eqK, c1A, lkV, updA, isCell, zgm, zgn, cutOwn, storeN, appendN, isU8, elemId, sdataA, ustrA, bldZ, isElem, litRowsN, isOctet, frzL_encI, Option.map]; rfl) (impl_sameNode s t _) ?_ rfl
            rintro v A' ⟨rfl, rfl⟩
            by_cases hnode : node s = node t
            · simp only [zW, tkIface, isWhole, evA, Abs.look, putA, del, keep, astep, builtinA, appendA, pickA, elemOf?, lenA, rowsOf, cellsOf, shiftP, loadA, partA, idxA, binA, intA, strA, eqA, nilP, nilS, nilM, unA, convA, storeA, cellsA, fillA, litRows, pairs, sliceOp, sliceA, isPtr, isStr, tkStr, tkSlice, isByte, byteOf, frz1, frzL, frzC, frzs, frzT, lfz, isLeaf, constA, const1, retVal, rvs, resCell, ARet, entry, closed, closed1, closed2, zbt, zbu, zbv, zbw, zbx, zby, zbz, zb0, zb1, zb2, zb3, zb4, zb5, zb6, zb7, zb8, zb9, zca, zcb, zcc, zce, zch, zci, zcj, zck, zcl, zcm, zcn, zco, zcp, zcq, zcr, zcs, zct, zcu, zcv, zcw, zcx, zcy, zcz, zc0, zc1, zc2, zc3, Nat.reduceAdd, Nat.reduceMul, Nat.reduceSub, Nat.reduceLT, Nat.reduceLeDiff, Nat.reduceEqDiff, Nat.reduceBEq, Nat.reduceBNe, zc4, zc5, zc6, zc7, zc8, zc9, reduceIte, reduceCtorEq, zda, zdb, zdc, zdd, zde, zdf, zdg, zdh, zdi, zdj, zdk, zdl, zdm, zdn, zdo, zdp, zdq, zdr, zds, zdt, zdu, zdv, zdw, zdx, zdy, zdz, zd0, zd1, zd2, zd3, zd4, zd5, zd6, zd7, zd8, Int.reduceToNat, Int.reduceLT, Int.reduceLE, Int.reduceEq, Int.reduceNe, Int.reduceNeg, zd9, ARetK, zfe, Lk, Ranks.lo, Ranks.hi, Ranks.next, Ranks.eff, aggEq, eqK, c1A, lkV, updA, isCell, zgm, zgn, cutOwn, storeN, appendN, isU8, elemId, sdataA, ustrA, bldZ, isElem, litRowsN, isOctet, ti3, ti27, ti29, ti108, ti110, ti111, ca71, ca72, cf, Try.results34, hgj', hB', hBq, hB2', hBq2, decide_eq_true hnode, encI_length, encI_take, encI_drop, encI_drop3]
              have hbx : ∀ z, below s = some z → z ∈ U := fun z hz => hU.down x (hS.ws x y (.inl (by simp))).1 s (hs ▸ Go.Abs.getD_mem hlt) z hz
              have hby : ∀ z, below t = some z → z ∈ U := fun z hz => hU.down y (hS.ws x y (.inl (by simp))).2.1 t (ht ▸ Go.Abs.getD_mem (by omega)) z hz
              have hkl : (node s).2.2.2 = (node t).2.2.2 := by rw [hnode]
              have hAl : A.length + 2 < (A ++ (Box.cells (encI a0) :: Box.cells (encI b0) :: Box.mapb (esOf m') :: (B' ++ [Box.cells (encI s), Box.cells (encI t)]))).length := by simp
              have hAg : (A ++ (Box.cells (encI a0) :: Box.cells (encI b0) :: Box.mapb (esOf m') :: (B' ++ [Box.cells (encI s), Box.cells (encI t)]))).getD (A.length + 2) .dead = .mapb (esOf m') := getD_app _ _ _ _
              have hi1 : IntKind.i64.wrap ((i : Int) + 1) = ((i + 1 : Nat) : Int) := by rw [wrap64 (by omega) (by have h0 : i < x.ks.length := hlt; omega)]; rfl
              have hnr : ∀ J2, (∀ x y, Eqv J' x y → Eqv J2 x y) → Near (Eqv J2) s t → ∀ k, k < i + 1 → Near (Eqv J2) (x.ks.getD k it0) (y.ks.getD k it0) := fun J2 hj hn k hk => by
                rcases Nat.lt_or_ge k i with h | h
                · exact (hnear k h).mono hj
                · obtain rfl : k = i := by omega
                  rw [hs, ht]; exact hn
              have hmi : x.ks.length - (((i + 1 : Nat) : Int)).toNat < x.ks.length - ((i : Nat) : Int).toNat := by have h0 : i < x.ks.length := hlt; simp only [Int.toNat_natCast]; omega
              have hl1 : j' < (B' ++ [Box.cells (encI s), Box.cells (encI t)]).length := by rw [List.length_append]; omega
              have hl2 : B.length < (B' ++ [Box.cells (encI s), Box.cells (encI t)]).length := by rw [List.length_append]; omega
              rcases kids_cases s with ⟨k1, e1, n1⟩ | ⟨x', k1, e1, n1⟩ <;> rcases kids_cases t with ⟨k2, e2, n2⟩ | ⟨y', k2, e2, n2⟩
              · rw [e1, e2]
                refine callK_intro (by simp only [zW, tkIface, isWhole, evA, Abs.look, putA, del, keep, astep, builtinA, appendA, pickA, elemOf?, lenA, rowsOf, cellsOf, shiftP, loadA, partA, idxA, binA, intA, strA, eqA, nilP, nilS, nilM, unA, convA, storeA, cellsA, fillA, litRows, pairs, sliceOp, sliceA, isPtr, isStr, tkStr, tkSlice, isByte, byteOf, frz1, frzL, frzC, frzs, frzT, lfz, isLeaf, constA, const1, retVal, rvs, resCell, ARet, entry, closed, closed1, closed2, zbt, zbu, zbv, zbw, zbx, zby, zbz, zb0, zb1, zb2, zb3, zb4, zb5, zb6, zb7, zb8, zb9, zca, zcb, zcc, zce, zch, zci, zcj, zck, zcl, zcm, zcn, zco, zcp, zcq, zcr, zcs, zct, zcu, zcv, zcw, zcx, zcy, zcz, zc0, zc1, zc2, zc3, Nat.reduceAdd, Nat.reduceMul, Nat.reduceSub, Nat.reduceLT, Nat.reduceLeDiff, Nat.reduceEqDiff, Nat.reduceBEq, Nat.reduceBNe, zc4, zc5, zc6, zc7, zc8, zc9, reduceIte, reduceCtorEq, zda, zdb, zdc, zdd, zde, zdf, zdg, zdh, zdi, zdj, zdk, zdl, zdm, zdn, zdo, zdp, zdq, zdr, zds, zdt, zdu, zdv, zdw, zdx, zdy, zdz, zd0, zd1, zd2, zd3, zd4, zd5, zd6, zd7, zd8, Int.reduceToNat, Int.reduceLT, Int.reduceLE, Int.reduceEq, Int.reduceNe, Int.reduceNeg, zd9, ARetK, zfe, Lk, Ranks.lo, Ranks.hi, Ranks.next, Ranks.eff, aggEq, eqK, c1A, lkV, updA, isCell, zgm, zgn, cutOwn, storeN, appendN, isU8, elemId, sdataA, ustrA, bldZ, isElem, litRowsN, isOctet] <;> rfl) (impl_join0 _ _) ?_ rfl
                rintro v A' ⟨rfl, rfl⟩
                simp only [zW, tkIface, isWhole, evA, Abs.look, putA, del, keep, astep, builtinA, appendA, pickA, elemOf?, lenA, rowsOf, cellsOf, shiftP, loadA, partA, idxA, binA, intA, strA, eqA, nilP, nilS, nilM, unA, convA, storeA, cellsA, fillA, litRows, pairs, sliceOp, sliceA, isPtr, isStr, tkStr, tkSlice, isByte, byteOf, frz1, frzL, frzC, frzs, frzT, lfz, isLeaf, constA, const1, retVal, rvs, resCell, ARet, entry, closed, closed1, closed2, zbt, zbu, zbv, zbw, zbx, zby, zbz, zb0, zb1, zb2, zb3, zb4, zb5, zb6, zb7, zb8, zb9, zca, zcb, zcc, zce, zch, zci, zcj, zck, zcl, zcm, zcn, zco, zcp, zcq, zcr, zcs, zct, zcu, zcv, zcw, zcx, zcy, zcz, zc0, zc1, zc2, zc3, Nat.reduceAdd, Nat.reduceMul, Nat.reduceSub, Nat.reduceLT, Nat.reduceLeDiff, Nat.reduceEqDiff, Nat.reduceBEq, Nat.reduceBNe, zc4, zc5, zc6, zc7, zc8, zc9, reduceIte, reduceCtorEq, zda, zdb, zdc, zdd, zde, zdf, zdg, zdh, zdi, zdj, zdk, zdl, zdm, zdn, zdo, zdp, zdq, zdr, zds, zdt, zdu, zdv, zdw, zdx, zdy, zdz, zd0, zd1, zd2, zd3, zd4, zd5, zd6, zd7, zd8, Int.reduceToNat, Int.reduceLT, Int.reduceLE, Int.reduceEq, Int.reduceNe, Int.reduceNeg, zd9, ARetK, zfe, Lk, Ranks.lo, Ranks.hi, Ranks.next, Ranks.eff, aggEq, eqK, c1A, lkV, updA, isCell, zgm, zgn, cutOwn, storeN, appendN, isU8, elemId, sdataA, ustrA, bldZ, isElem, litRowsN, isOctet, ti3, ti27, ti29, ti108, ti110, ti111, ca71, ca72, cf, Try.results34, hgj', hB', hBq, hB2', hBq2, hi1, encI_length, encI_take, encI_drop, encI_drop3, LoopK_eq]
                exact ⟨⟨i + 1, m', J', W', _, j', rfl, rfl, hl1, hB2' _, hl2, hBq2 _, hle, hlt, hS', hnr J' (fun _ _ h => h) ⟨hnode, .inl ⟨k1, k2⟩⟩⟩, hmi⟩
              · exfalso; rw [n1, n2] at hkl; simp [LL.ks] at hkl
              · exfalso; rw [n1, n2] at hkl; simp [LL.ks] at hkl
              · rw [e1, e2]
                refine callK_intro (by simp only [zW, tkIface, isWhole, evA, Abs.look, putA, del, keep, astep, builtinA, appendA, pickA, elemOf?, lenA, rowsOf, cellsOf, shiftP, loadA, partA, idxA, binA, intA, strA, eqA, nilP, nilS, nilM, unA, convA, storeA, cellsA, fillA, litRows, pairs, sliceOp, sliceA, isPtr, isStr, tkStr, tkSlice, isByte, byteOf, frz1, frzL, frzC, frzs, frzT, lfz, isLeaf, constA, const1, retVal, rvs, resCell, ARet, entry, closed, closed1, closed2, zbt, zbu, zbv, zbw, zbx, zby, zbz, zb0, zb1, zb2, zb3, zb4, zb5, zb6, zb7, zb8, zb9, zca, zcb, zcc, zce, zch, zci, zcj, zck, zcl, zcm, zcn, zco, zcp, zcq, zcr, zcs, zct, zcu, zcv, zcw, zcx, zcy, zcz, zc0, zc1, zc2, zc3, Nat.reduceAdd, Nat.reduceMul, Nat.reduceSub, Nat.reduceLT, Nat.reduceLeDiff, Nat.reduceEqDiff, Nat.reduceBEq, Nat.reduceBNe, zc4, zc5, zc6, zc7, zc8, zc9, reduceIte, reduceCtorEq, zda, zdb, zdc, zdd, zde, zdf, zdg, zdh, zdi, zdj, zdk, zdl, zdm, zdn, zdo, zdp, zdq, zdr, zds, zdt, zdu, zdv, zdw, zdx, zdy, zdz, zd0, zd1, zd2, zd3, zd4, zd5, zd6, zd7, zd8, Int.reduceToNat, Int.reduceLT, Int.reduceLE, Int.reduceEq, Int.reduceNe, Int.reduceNeg, zd9, ARetK, zfe, Lk, Ranks.lo, Ranks.hi, Ranks.next, Ranks.eff, aggEq, eqK, c1A, lkV, updA, isCell, zgm, zgn, cutOwn, storeN, appendN, isU8, elemId, sdataA, ustrA, bldZ, isElem, litRowsN, isOctet] <;> rfl) (impl_join hU (fun x => .refl x) (fun _ _ _ h k => .trans h k) (fun _ _ h => .symm h) m' hS'.ci x' y' (hbx x' k1) (hby y' k2) (A.length + 2) _ hAl hAg) ?_ rfl
                rintro v A' ⟨m2, rfl, ⟨rfl, hr, hc2, hm2⟩ | ⟨rfl, hm2, hc2⟩⟩
                · simp only [zW, tkIface, isWhole, evA, Abs.look, putA, del, keep, astep, builtinA, appendA, pickA, elemOf?, lenA, rowsOf, cellsOf, shiftP, loadA, partA, idxA, binA, intA, strA, eqA, nilP, nilS, nilM, unA, convA, storeA, cellsA, fillA, litRows, pairs, sliceOp, sliceA, isPtr, isStr, tkStr, tkSlice, isByte, byteOf, frz1, frzL, frzC, frzs, frzT, lfz, isLeaf, constA, const1, retVal, rvs, resCell, ARet, entry, closed, closed1, closed2, zbt, zbu, zbv, zbw, zbx, zby, zbz, zb0, zb1, zb2, zb3, zb4, zb5, zb6, zb7, zb8, zb9, zca, zcb, zcc, zce, zch, zci, zcj, zck, zcl, zcm, zcn, zco, zcp, zcq, zcr, zcs, zct, zcu, zcv, zcw, zcx, zcy, zcz, zc0, zc1, zc2, zc3, Nat.reduceAdd, Nat.reduceMul, Nat.reduceSub, Nat.reduceLT, Nat.reduceLeDiff, Nat.reduceEqDiff, Nat.reduceBEq, Nat.reduceBNe, zc4, zc5, zc6, zc7, zc8, zc9, reduceIte, reduceCtorEq, zda, zdb, zdc, zdd, zde, zdf, zdg, zdh, zdi, zdj, zdk, zdl, zdm, zdn, zdo, zdp, zdq, zdr, zds, zdt, zdu, zdv, zdw, zdx, zdy, zdz, zd0, zd1, zd2, zd3, zd4, zd5, zd6, zd7, zd8, Int.reduceToNat, Int.reduceLT, Int.reduceLE, Int.reduceEq, Int.reduceNe, Int.reduceNeg, zd9, ARetK, zfe, Lk, Ranks.lo, Ranks.hi, Ranks.next, Ranks.eff, aggEq, eqK, c1A, lkV, updA, isCell, zgm, zgn, cutOwn, storeN, appendN, isU8, elemId, sdataA, ustrA, bldZ, isElem, litRowsN, isOctet, ti3, ti27, ti29, ti108, ti110, ti111, ca71, ca72, cf, Try.results34, hgj', hB', hBq, hB2', hBq2, hi1, encI_length, encI_take, encI_drop, encI_drop3, LoopK_eq]
                  exact ⟨⟨i + 1, m2, J', W', _, j', rfl, rfl, hl1, hB2' _, hl2, hBq2 _, by rw [hm2]; exact hle, hlt, hS'.same hc2, hnr J' (fun _ _ h => h) ⟨hnode, .inr ⟨x', y', k1, k2, hr⟩⟩⟩, hmi⟩
                · have hxyl : x'.ks.length = y'.ks.length := by omega
                  have hSm := hS'.more (hbx x' k1) (hby y' k2) hxyl (hc2 (Eqv ((x', y') :: J')) (eqv_more _) (fun _ _ h => .symm h) (fun _ _ _ h k => .trans h k) (.base (by simp))) (fun he => by
                    have := erases_at (hS'.er he _ (.inr rfl)) i
                    simp only [WI.l1, WI.l2] at this
                    rw [hs, ht] at this
                    exact erase_kids this k1 k2)
                  have hsl := hSm.ci.le
                  have hrow : W'.map (WI.row a0 b0) ++ [[.islice x'.b x'.off (encIs x'.ks), .islice y'.b y'.off (encIs y'.ks)]] = (W' ++ [WI.pr x' y']).map (WI.row a0 b0) := by simp [WI.row]
                  simp only [zW, tkIface, isWhole, evA, Abs.look, putA, del, keep, astep, builtinA, appendA, pickA, elemOf?, lenA, rowsOf, cellsOf, shiftP, loadA, partA, idxA, binA, intA, strA, eqA, nilP, nilS, nilM, unA, convA, storeA, cellsA, fillA, litRows, pairs, sliceOp, sliceA, isPtr, isStr, tkStr, tkSlice, isByte, byteOf, frz1, frzL, frzC, frzs, frzT, lfz, isLeaf, constA, const1, retVal, rvs, resCell, ARet, entry, closed, closed1, closed2, zbt, zbu, zbv, zbw, zbx, zby, zbz, zb0, zb1, zb2, zb3, zb4, zb5, zb6, zb7, zb8, zb9, zca, zcb, zcc, zce, zch, zci, zcj, zck, zcl, zcm, zcn, zco, zcp, zcq, zcr, zcs, zct, zcu, zcv, zcw, zcx, zcy, zcz, zc0, zc1, zc2, zc3, Nat.reduceAdd, Nat.reduceMul, Nat.reduceSub, Nat.reduceLT, Nat.reduceLeDiff, Nat.reduceEqDiff, Nat.reduceBEq, Nat.reduceBNe, zc4, zc5, zc6, zc7, zc8, zc9, reduceIte, reduceCtorEq, zda, zdb, zdc, zdd, zde, zdf, zdg, zdh, zdi, zdj, zdk, zdl, zdm, zdn, zdo, zdp, zdq, zdr, zds, zdt, zdu, zdv, zdw, zdx, zdy, zdz, zd0, zd1, zd2, zd3, zd4, zd5, zd6, zd7, zd8, Int.reduceToNat, Int.reduceLT, Int.reduceLE, Int.reduceEq, Int.reduceNe, Int.reduceNeg, zd9, ARetK, zfe, Lk, Ranks.lo, Ranks.hi, Ranks.next, Ranks.eff, aggEq, eqK, c1A, lkV, updA, isCell, zgm, zgn, cutOwn, storeN, appendN, isU8, elemId, sdataA, ustrA, bldZ, isElem, litRowsN, isOctet, ti3, ti27, ti29, ti108, ti110, ti111, ca71, ca72, cf, Try.results34, hgj', hB', hBq, hB2', hBq2, hi1, e1, e2, hrow, encI_length, encI_take, encI_drop, encI_drop3, LoopK_eq]
                  refine ⟨?_, ⟨?_, by rw [List.length_map]; omega⟩, ⟨i + 1, m2, (x', y') :: J', W' ++ [.pr x' y'], _, B'.length + 3, rfl, rfl, ?_, hq3 _ _ _ _ _ _, ?_, hq4 _ _ _ _ _, ?_, hlt, hSm, hnr _ (eqv_more _) ⟨hnode, .inr ⟨x', y', k1, k2, .base (by simp)⟩⟩⟩, hmi⟩
                  · intro v hv
                    rcases List.mem_cons.1 hv with rfl | hv
                    · rfl
                    · rcases List.mem_cons.1 hv with rfl | hv
                      · rfl
                      · cases hv
                  · intro r hr
                    rw [List.mem_singleton.1 hr]
                    rfl
                  · simp only [List.length_append, List.length_set, List.length_cons, List.length_nil]; omega
                  · simp only [List.length_append, List.length_set, List.length_cons, List.length_nil]; omega
                  · rw [List.length_append, List.length_singleton]; omega
            · have hne : erase a0 ≠ erase b0 := fun he => hnode (by
                have := erases_at (hS'.er he _ (.inr rfl)) i
                simp only [WI.l1, WI.l2] at this
                rw [hs, ht] at this
                exact erase_node this)
              simp only [zW, tkIface, isWhole, evA, Abs.look, putA, del, keep, astep, builtinA, appendA, pickA, elemOf?, lenA, rowsOf, cellsOf, shiftP, loadA, partA, idxA, binA, intA, strA, eqA, nilP, nilS, nilM, unA, convA, storeA, cellsA, fillA, litRows, pairs, sliceOp, sliceA, isPtr, isStr, tkStr, tkSlice, isByte, byteOf, frz1, frzL, frzC, frzs, frzT, lfz, isLeaf, constA, const1, retVal, rvs, resCell, ARet, entry, closed, closed1, closed2, zbt, zbu, zbv, zbw, zbx, zby, zbz, zb0, zb1, zb2, zb3, zb4, zb5, zb6, zb7, zb8, zb9, zca, zcb, zcc, zce, zch, zci, zcj, zck, zcl, zcm, zcn, zco, zcp, zcq, zcr, zcs, zct, zcu, zcv, zcw, zcx, zcy, zcz, zc0, zc1, zc2, zc3, Nat.reduceAdd, Nat.reduceMul, Nat.reduceSub, Nat.reduceLT, Nat.reduceLeDiff, Nat.reduceEqDiff, Nat.reduceBEq, Nat.reduceBNe, zc4, zc5, zc6, zc7, zc8, zc9, reduceIte, reduceCtorEq, zda, zdb, zdc, zdd, zde, zdf, zdg, zdh, zdi, zdj, zdk, zdl, zdm, zdn, zdo, zdp, zdq, zdr, zds, zdt, zdu, zdv, zdw, zdx, zdy, zdz, zd0, zd1, zd2, zd3, zd4, zd5, zd6, zd7, zd8, Int.reduceToNat, Int.reduceLT, Int.reduceLE, Int.reduceEq, Int.reduceNe, Int.reduceNeg, zd9, ARetK, zfe, Lk, Ranks.lo, Ranks.hi, Ranks.next, Ranks.eff, aggEq, eqK, c1A, lkV, updA, isCell, zgm, zgn, cutOwn, storeN, appendN, isU8, elemId, sdataA, ustrA, bldZ, isElem, litRowsN, isOctet, ti3, ti27, ti29, ti108, ti110, ti111, ca71, ca72, cf, Try.results34, hgj', hB', hBq, hB2', hBq2, decide_eq_false hnode, decide_eq_false hne, encI_length, encI_take, encI_drop, encI_drop3]
          · have hlt1 : decide (((i : Nat) : Int) < (x.ks.length : Nat)) = false := decide_eq_false (by have h0 : ¬ i < x.ks.length := hlt; omega)
            simp only [zW, tkIface, isWhole, evA, Abs.look, putA, del, keep, astep, builtinA, appendA, pickA, elemOf?, lenA, rowsOf, cellsOf, shiftP, loadA, partA, idxA, binA, intA, strA, eqA, nilP, nilS, nilM, unA, convA, storeA, cellsA, fillA, litRows, pairs, sliceOp, sliceA, isPtr, isStr, tkStr, tkSlice, isByte, byteOf, frz1, frzL, frzC, frzs, frzT, lfz, isLeaf, constA, const1, retVal, rvs, resCell, ARet, entry, closed, closed1, closed2, zbt, zbu, zbv, zbw, zbx, zby, zbz, zb0, zb1, zb2, zb3, zb4, zb5, zb6, zb7, zb8, zb9, zca, zcb, zcc, zce, zch, zci, zcj, zck, zcl, zcm, zcn, zco, zcp, zcq, zcr, zcs, zct, zcu, zcv, zcw, zcx, zcy, zcz, zc0, zc1, zc2, zc3, Nat.reduceAdd, Nat.reduceMul, Nat.reduceSub, Nat.reduceLT, Nat.reduceLeDiff, Nat.reduceEqDiff, Nat.reduceBEq, Nat.reduceBNe, zc4, zc5, zc6, zc7, zc8, zc9, reduceIte, reduceCtorEq, zda, zdb, zdc, zdd, zde, zdf, zdg, zdh, zdi, zdj, zdk, zdl, zdm, zdn, zdo, zdp, zdq, zdr, zds, zdt, zdu, zdv, zdw, zdx, zdy, zdz, zd0, zd1, zd2, zd3, zd4, zd5, zd6, zd7, zd8, Int.reduceToNat, Int.reduceLT, Int.reduceLE, Int.reduceEq, Int.reduceNe, Int.reduceNeg, zd9, ARetK, zfe, Lk, Ranks.lo, Ranks.hi, Ranks.next, Ranks.eff, aggEq, eqK, c1A, lkV, updA, isCell, zgm, zgn, cutOwn, storeN, appendN, isU8, elemId, sdataA, ustrA, bldZ, isElem, litRowsN, isOctet, ti3, ti27, ti29, ti108, ti110, ti111, ca71, ca72, cf, Try.results34, hgj', hB', hBq, hlt1, LoopK_eq]
            refine ⟨⟨m', J', W', B', j', rfl, rfl, hj', hB', hWb, hS'.done hxy fun k hk => hnear k (by simp only [WI.l1] at hk; omega)⟩, ?_⟩
            rw [hmu _ _ _ _ _ hB']
            omega
end Go.Proofs.Ytponaclmbmlahaa
