/- Marks in a list of items that is owned, and how they are found again. -/
import Derived.Test.YtejbjgmgdbcddaaGreatOwnSi
import Derived.Test.YtejbjgmgdbcddaaGreatAbsW3
set_option linter.unusedVariables false
set_option linter.unusedSimpArgs false
namespace Go.Proofs.YtejbjgmgdbcddaaGreat
open Go.Abs

def markI (x : SigI) (k : Int) : SigI := ⟨k, mtx (k + 1), .mk (k + 2) (mtx (k + 3)) (mtx (k + 4)) (markL x.typ.kids (k + 5)).1⟩
def markG : List SigI → Int → List SigI
  | [], _ => []
  | x :: l, k => markI x k :: markG l (k + (5 + 3 * counts x.typ.kids : Nat))
theorem markG_length : ∀ (l : List SigI) (k : Int), (markG l k).length = l.length
  | [], k => by simp [markG]
  | x :: l, k => by simp [markG, markG_length l]
theorem markG_app : ∀ (l l' : List SigI) (k : Int), markG (l ++ l') k = markG l k ++ markG l' (k + (totG l : Nat))
  | [], l', k => by simp [markG, totG]
  | x :: l, l', k => by
    rw [List.cons_append, markG, markG, markG_app l l', totG, List.cons_append]
    congr 3
    omega
theorem markG_snoc {l : List SigI} {p : Nat} (h : p < l.length) (k : Int) : markG (l.take (p + 1)) k = markG (l.take p) k ++ [markI (l.getD p si0) (k + (totG (l.take p) : Nat))] := by
  rw [si_take h, markG_app]; simp [markG]
theorem markG_getD {l : List SigI} {p : Nat} (h : p < l.length) (k : Int) : (markG l k).getD p si0 = markI (l.getD p si0) (k + (totG (l.take p) : Nat)) := by
  conv => lhs; rw [split_at si0 h, markG_app]
  have : (markG (l.take p) k).length = p := by rw [markG_length]; simp; omega
  simp [markG, List.getD, List.getElem?_append_right, this]
set_option maxRecDepth 100000 in
theorem laws_markSigs (ks : List SigI) (hks : ks.length < 2 ^ 63) (hok : ∀ b ∈ ks, b.Ok) (A : List Box) (i : Nat) (rows : List (List AV)) (S' : List Nat) (k : Int) (hb : A.getD i .dead = .gr none 6 rows) (hR : OwnG A ks rows S') (hN : (i :: S').Nodup) (h0 : 0 ≤ k) (h1 : k + totG ks ≤ 2 ^ 50) :
    ACalls Tryz.prog 10 [.own i, .int .i64 k] A (fun r A' => r = .int .i64 (k + totG ks) ∧ A'.length = A.length ∧ (∀ j, j ∉ i :: S' → A'.getD j .dead = A.getD j .dead) ∧ ∃ rows', A'.getD i .dead = .gr none 6 rows' ∧ OwnG A' (markG ks k) rows' S') := by
  have hil := live_lt hb (by simp)
  have hlen := hR.length
  refine acalls_enterK (cf := cf 62 [0, 1, 4, 5, 9]) foll Tryz.func10 Tryz.ntmps10 (by simp [cf]) ?_
  simp only [Tryz.f10, EnterK_some, zW, zX, zD, builtinA, isLeaf, const1, Nat.reduceAdd, Nat.reduceMul, Nat.reduceSub, Nat.reduceLT, Nat.reduceLeDiff, Nat.reduceEqDiff, Nat.reduceBEq, Nat.reduceBNe, reduceIte, reduceCtorEq, Int.reduceToNat, Int.reduceLT, Int.reduceLE, Int.reduceEq, Int.reduceNe, Int.reduceNeg, ustrA, ti3, ti9, ti24, ti40, ti42, ti44, ca23, ca24, cf, Tryz.results10]
  refine aloop_intro [0, 1, 5] (fun e A' => ∃ (p : Nat) (rl rr : List (List AV)) (SL SR : List Nat), p ≤ ks.length ∧ e = [(0, .own i), (1, .int .i64 (k + totG (ks.take p))), (5, .int .i64 p)] ∧ A'.length = A.length ∧ A'.getD i .dead = .gr none 6 (rl ++ rr) ∧ rl.length = p ∧
    OwnG A' (markG (ks.take p) k) rl SL ∧ OwnG A' (ks.drop p) rr SR ∧ S' = SL ++ SR ∧ ∀ j, j ∉ i :: S' → A'.getD j .dead = A.getD j .dead) (fun e _ => ks.length - (intOf (Abs.look 5 e)).toNat) ?_ ?_
  · refine ⟨0, [], rows, [], S', by omega, ?_, rfl, hb, rfl, by simp [markG, OwnG], by simpa using hR, rfl, fun _ _ => rfl⟩
    simp only [zW, zX, zD, builtinA, isLeaf, const1, Nat.reduceAdd, Nat.reduceMul, Nat.reduceSub, Nat.reduceLT, Nat.reduceLeDiff, Nat.reduceEqDiff, Nat.reduceBEq, Nat.reduceBNe, reduceIte, reduceCtorEq, Int.reduceToNat, Int.reduceLT, Int.reduceLE, Int.reduceEq, Int.reduceNe, Int.reduceNeg, ustrA, ti3, ti9, ti24, ti40, ti42, ti44, ca23, ca24, cf, Tryz.results10]
    simp [totG]
  · rintro e A' ⟨p, rl, rr, SL, SR, hp, rfl, hl, hb', hrl, hL, hRr, hS, hfr⟩
    have hrr := hRr.length
    have hrows : rl.length + rr.length = ks.length := by simp at hrr; omega
    simp only [zW, zX, zD, builtinA, isLeaf, const1, Nat.reduceAdd, Nat.reduceMul, Nat.reduceSub, Nat.reduceLT, Nat.reduceLeDiff, Nat.reduceEqDiff, Nat.reduceBEq, Nat.reduceBNe, reduceIte, reduceCtorEq, Int.reduceToNat, Int.reduceLT, Int.reduceLE, Int.reduceEq, Int.reduceNe, Int.reduceNeg, ustrA, ti3, ti9, ti24, ti40, ti42, ti44, ca23, ca24, cf, Tryz.results10, hb', hrows]
    refine condK_intro (fun h2 => ?_) (fun h2 => ?_)
    · have hp2 : p < ks.length := by simpa using h2
      have hne : i ∉ S' := (List.nodup_cons.1 hN).1
      have hnd : (SL ++ SR).Nodup := by rw [← hS]; exact (List.nodup_cons.1 hN).2
      rw [si_drop' hp2, OwnG] at hRr
      obtain ⟨vk, rr', S1, S2, rfl, rfl, hK, hR'⟩ := hRr
      have hmem := si_mem hp2
      have hil' : i < A'.length := by omega
      have hct := totG_take hp2
      have hms2 := markG_snoc hp2 k
      have hcl := totG_le ks (p + 1)
      have hok1 := hok _ hmem
      generalize ks.getD p si0 = b at *
      generalize hk1 : k + (totG (ks.take p) : Int) = k1 at *
      have b0 : 0 ≤ k1 := by omega
      have b1 : k1 + 5 + 3 * counts b.typ.kids ≤ 2 ^ 50 := by omega
      have w1 : IntKind.i64.wrap (k1 + 1) = k1 + 1 := wrap64 (by omega) (by omega)
      have w2 : IntKind.i64.wrap (k1 + 1 + 1) = k1 + 2 := by rw [wrap64 (by omega) (by omega)]; omega
      have w3 : IntKind.i64.wrap (k1 + 2 + 1) = k1 + 3 := by rw [wrap64 (by omega) (by omega)]; omega
      have w4 : IntKind.i64.wrap (k1 + 3 + 1) = k1 + 4 := by rw [wrap64 (by omega) (by omega)]; omega
      have w5 : IntKind.i64.wrap (k1 + 4 + 1) = k1 + 5 := by rw [wrap64 (by omega) (by omega)]; omega
      have hi1 : IntKind.i64.wrap ((p : Int) + 1) = ((p + 1 : Nat) : Int) := by rw [wrap64 (by omega) (by omega)]; rfl
      have hg : ∀ x : List AV, ((rl ++ x :: rr').getD p []) = x := fun x => by simp [List.getD, List.getElem?_append_right, hrl]
      have hst : ∀ x y : List AV, (rl ++ x :: rr').set p y = rl ++ y :: rr' := fun x y => by rw [List.set_append_right _ _ (by omega), hrl, Nat.sub_self]; rfl
      have hgs : ∀ X, (A'.set i X).getD i .dead = X := fun X => getD_set1 hil'
      have hpl : p < rl.length + (rr'.length + 1) := by simp at hrows; omega
      have hpi : (p : Int) < ((rl.length + (rr'.length + 1) : Nat) : Int) := by omega
      simp only [sRow] at hb'
      simp only [zW, zX, zD, builtinA, isLeaf, const1, Nat.reduceAdd, Nat.reduceMul, Nat.reduceSub, Nat.reduceLT, Nat.reduceLeDiff, Nat.reduceEqDiff, Nat.reduceBEq, Nat.reduceBNe, reduceIte, reduceCtorEq, Int.reduceToNat, Int.reduceLT, Int.reduceLE, Int.reduceEq, Int.reduceNe, Int.reduceNeg, ustrA, ti3, ti9, ti24, ti40, ti42, ti44, ca23, ca24, cf, Tryz.results10, hb', hg, hst, hgs, List.set_set, w1]
      refine ⟨⟨by omega, hpi⟩, ⟨hpl, by simp [isElem, isLeaf]⟩, ?_⟩
      refine callK_intro (by simp only [zW, zX, zD, builtinA, isLeaf, const1, Nat.reduceAdd, Nat.reduceMul, Nat.reduceSub, Nat.reduceLT, Nat.reduceLeDiff, Nat.reduceEqDiff, Nat.reduceBEq, Nat.reduceBNe, reduceIte, reduceCtorEq, Int.reduceToNat, Int.reduceLT, Int.reduceLE, Int.reduceEq, Int.reduceNe, Int.reduceNeg, ustrA]; rfl) (laws_markText (k1 + 1) (by omega) _) ?_ rfl; rintro v A' ⟨rfl, rfl⟩
      simp only [zW, zX, zD, builtinA, isLeaf, const1, Nat.reduceAdd, Nat.reduceMul, Nat.reduceSub, Nat.reduceLT, Nat.reduceLeDiff, Nat.reduceEqDiff, Nat.reduceBEq, Nat.reduceBNe, reduceIte, reduceCtorEq, Int.reduceToNat, Int.reduceLT, Int.reduceLE, Int.reduceEq, Int.reduceNe, Int.reduceNeg, ustrA, ti3, ti9, ti24, ti40, ti42, ti44, ca23, ca24, cf, Tryz.results10, hb', hg, hst, hgs, List.set_set, w2, w3]
      refine ⟨⟨by omega, hpi⟩, ⟨hpl, by simp [isElem, isLeaf]⟩, ⟨by omega, hpi⟩, ⟨hpl, by simp [isElem, isLeaf]⟩, ?_⟩
      refine callK_intro (by simp only [zW, zX, zD, builtinA, isLeaf, const1, Nat.reduceAdd, Nat.reduceMul, Nat.reduceSub, Nat.reduceLT, Nat.reduceLeDiff, Nat.reduceEqDiff, Nat.reduceBEq, Nat.reduceBNe, reduceIte, reduceCtorEq, Int.reduceToNat, Int.reduceLT, Int.reduceLE, Int.reduceEq, Int.reduceNe, Int.reduceNeg, ustrA]; rfl) (laws_markText (k1 + 3) (by omega) _) ?_ rfl; rintro v A' ⟨rfl, rfl⟩
      simp only [zW, zX, zD, builtinA, isLeaf, const1, Nat.reduceAdd, Nat.reduceMul, Nat.reduceSub, Nat.reduceLT, Nat.reduceLeDiff, Nat.reduceEqDiff, Nat.reduceBEq, Nat.reduceBNe, reduceIte, reduceCtorEq, Int.reduceToNat, Int.reduceLT, Int.reduceLE, Int.reduceEq, Int.reduceNe, Int.reduceNeg, ustrA, ti3, ti9, ti24, ti40, ti42, ti44, ca23, ca24, cf, Tryz.results10, hb', hg, hst, hgs, List.set_set, w4]
      refine ⟨⟨by omega, hpi⟩, ⟨hpl, by simp [isElem, isLeaf]⟩, ?_⟩
      refine callK_intro (by simp only [zW, zX, zD, builtinA, isLeaf, const1, Nat.reduceAdd, Nat.reduceMul, Nat.reduceSub, Nat.reduceLT, Nat.reduceLeDiff, Nat.reduceEqDiff, Nat.reduceBEq, Nat.reduceBNe, reduceIte, reduceCtorEq, Int.reduceToNat, Int.reduceLT, Int.reduceLE, Int.reduceEq, Int.reduceNe, Int.reduceNeg, ustrA]; rfl) (laws_markText (k1 + 4) (by omega) _) ?_ rfl; rintro v A' ⟨rfl, rfl⟩
      simp only [zW, zX, zD, builtinA, isLeaf, const1, Nat.reduceAdd, Nat.reduceMul, Nat.reduceSub, Nat.reduceLT, Nat.reduceLeDiff, Nat.reduceEqDiff, Nat.reduceBEq, Nat.reduceBNe, reduceIte, reduceCtorEq, Int.reduceToNat, Int.reduceLT, Int.reduceLE, Int.reduceEq, Int.reduceNe, Int.reduceNeg, ustrA, ti3, ti9, ti24, ti40, ti42, ti44, ca23, ca24, cf, Tryz.results10, hb', hg, hst, hgs, List.set_set, w5]
      refine ⟨⟨by omega, hpi⟩, ⟨hpl, by simp [isElem, isLeaf]⟩, ⟨by omega, hpi⟩, ?_⟩
      have hiS1 : i ∉ S1 := fun h => hne (by rw [hS]; simp [h])
      have hm : MarkS b.typ.kids := markS _ hok1.2
      refine callO_intro (hm _ vk S1 (k1 + 5) (hK.frame fun j hj => by rw [getD_set_ne' (fun e => hiS1 (by rw [e]; exact hj))]) ((List.nodup_append.1 (List.nodup_append.1 hnd).2.1).1) (by omega) b1) ?_
      rintro r A3 ⟨rfl, hl3, hK3, hf3⟩
      simp only [zW, zX, zD, builtinA, isLeaf, const1, Nat.reduceAdd, Nat.reduceMul, Nat.reduceSub, Nat.reduceLT, Nat.reduceLeDiff, Nat.reduceEqDiff, Nat.reduceBEq, Nat.reduceBNe, reduceIte, reduceCtorEq, Int.reduceToNat, Int.reduceLT, Int.reduceLE, Int.reduceEq, Int.reduceNe, Int.reduceNeg, ustrA, ti3, ti9, ti24, ti40, ti42, ti44, ca23, ca24, cf, Tryz.results10, hi1, LoopK_eq]
      have hms := markL_next b.typ.kids (k1 + 5)
      have hd1 := (List.nodup_append.1 hnd).2.2
      have fL : ∀ j ∈ SL, A3.getD j .dead = A'.getD j .dead := fun j hj => by
        rw [hf3 j (fun h => hd1 j hj j (by simp [h]) rfl), getD_set_ne' (fun e => hne (by rw [hS, e]; simp [hj]))]
      have hd2 := (List.nodup_append.1 (List.nodup_append.1 hnd).2.1).2.2
      have fR : ∀ j ∈ S2, A3.getD j .dead = A'.getD j .dead := fun j hj => by
        rw [hf3 j (fun h => hd2 j h j hj rfl), getD_set_ne' (fun e => hne (by rw [hS, e]; simp [hj]))]
      refine ⟨⟨p + 1, rl ++ [[AV.int IntKind.i64 k1, AV.str (mtx (k1 + 1)), AV.int IntKind.i64 (k1 + 2), AV.str (mtx (k1 + 3)), AV.str (mtx (k1 + 4)), vk]], rr', SL ++ S1, S2, by omega, ?_, ?_, ?_, ?_, ?_, hR'.frame fR, by rw [hS]; simp, fun j hj => ?_⟩, ?_⟩
      · rw [hms]
        have e : k1 + 5 + 3 * (counts b.typ.kids : Int) = k + (totG (ks.take (p + 1)) : Int) := by rw [hct]; omega
        rw [e]
      · rw [hl3]; simpa using hl
      · rw [hf3 i hiS1, getD_set_self hil']; simp
      · simp [hrl]
      · rw [hms2]
        refine (hL.frame fL).append ?_
        rw [OwnG]
        exact ⟨vk, [], S1, [], rfl, by simp, hK3, by simp [OwnG]⟩
      · have hj1 : j ≠ i := fun e => hj (by simp [e])
        have hj2 : j ∉ S1 := fun h => hj (by rw [hS]; simp [h])
        rw [hf3 j hj2, getD_set_ne' (Ne.symm hj1)]
        exact hfr j hj
      · simp only [intOf]; omega
    · have hp2 : p = ks.length := by simp at h2; omega
      subst hp2
      simp only [zW, zX, zD, builtinA, isLeaf, const1, Nat.reduceAdd, Nat.reduceMul, Nat.reduceSub, Nat.reduceLT, Nat.reduceLeDiff, Nat.reduceEqDiff, Nat.reduceBEq, Nat.reduceBNe, reduceIte, reduceCtorEq, Int.reduceToNat, Int.reduceLT, Int.reduceLE, Int.reduceEq, Int.reduceNe, Int.reduceNeg, ustrA, ti3, ti9, ti24, ti40, ti42, ti44, ca23, ca24, cf, Tryz.results10]
      rw [List.take_length] at hL
      rw [List.drop_length, OwnG] at hRr
      obtain ⟨rfl, rfl⟩ := hRr
      simp only [List.append_nil] at hb' hS
      exact ⟨hl, hfr, rl, hb', by rw [hS]; exact hL⟩

set_option maxRecDepth 100000 in
theorem laws_markNils (A : List Box) (k : Int) : ACalls Tryz.prog 10 [.nils, .int .i64 k] A (fun r A' => r = .int .i64 k ∧ A' = A) := by
  refine acalls_enter (cf := cf 62 [0, 1, 4, 5, 9]) foll Tryz.func10 Tryz.ntmps10 (by simp [cf]) ?_
  simp only [Tryz.f10, EnterK_some, zW, zX, zD, builtinA, isLeaf, const1, Nat.reduceAdd, Nat.reduceMul, Nat.reduceSub, Nat.reduceLT, Nat.reduceLeDiff, Nat.reduceEqDiff, Nat.reduceBEq, Nat.reduceBNe, reduceIte, reduceCtorEq, Int.reduceToNat, Int.reduceLT, Int.reduceLE, Int.reduceEq, Int.reduceNe, Int.reduceNeg, ustrA, ti3, ti9, ti24, ti40, ti42, ti44, ca23, ca24, cf, Tryz.results10]
  refine aloop_intro [0, 1, 5] (fun e A' => e = [(0, .nils), (1, .int .i64 k), (5, .int .i64 0)] ∧ A' = A) (fun e _ => 0) ?_ ?_
  · simp only [zW, zX, zD, builtinA, isLeaf, const1, Nat.reduceAdd, Nat.reduceMul, Nat.reduceSub, Nat.reduceLT, Nat.reduceLeDiff, Nat.reduceEqDiff, Nat.reduceBEq, Nat.reduceBNe, reduceIte, reduceCtorEq, Int.reduceToNat, Int.reduceLT, Int.reduceLE, Int.reduceEq, Int.reduceNe, Int.reduceNeg, ustrA, ti3, ti9, ti24, ti40, ti42, ti44, ca23, ca24, cf, Tryz.results10]
  · rintro e A' ⟨rfl, rfl⟩
    simp only [zW, zX, zD, builtinA, isLeaf, const1, Nat.reduceAdd, Nat.reduceMul, Nat.reduceSub, Nat.reduceLT, Nat.reduceLeDiff, Nat.reduceEqDiff, Nat.reduceBEq, Nat.reduceBNe, reduceIte, reduceCtorEq, Int.reduceToNat, Int.reduceLT, Int.reduceLE, Int.reduceEq, Int.reduceNe, Int.reduceNeg, ustrA, ti3, ti9, ti24, ti40, ti42, ti44, ca23, ca24, cf, Tryz.results10]
    refine condK_intro (fun h => absurd h (by simp)) (fun _ => ?_)
    simp only [zW, zX, zD, builtinA, isLeaf, const1, Nat.reduceAdd, Nat.reduceMul, Nat.reduceSub, Nat.reduceLT, Nat.reduceLeDiff, Nat.reduceEqDiff, Nat.reduceBEq, Nat.reduceBNe, reduceIte, reduceCtorEq, Int.reduceToNat, Int.reduceLT, Int.reduceLE, Int.reduceEq, Int.reduceNe, Int.reduceNeg, ustrA, ti3, ti9, ti24, ti40, ti42, ti44, ca23, ca24, cf, Tryz.results10]

set_option maxRecDepth 100000 in
theorem laws_heldSigItemS (ks : List SigI) (hks : ks.length < 2 ^ 63) (hok : ∀ b ∈ ks, b.Ok) (k : Int) (h0 : 0 ≤ k) (h1 : k + totG ks ≤ 2 ^ 50) (A : List Box) :
    ACalls Tryz.prog 11 [.slice (sEs (markG ks k)), .int .i64 k] A (fun r A' => r = .int .i64 (k + totG ks) ∧ A' = A) := by
  have hlen : (sEs (markG ks k)).length = ks.length := by rw [sEs_length, markG_length]
  refine acalls_enter (cf := cf 74 [0, 1, 4, 5, 9, 18, 28, 38, 49, 60, 72]) foll Tryz.func11 Tryz.ntmps11 (by simp [cf]) ?_
  simp only [Tryz.f11, EnterK_some, zW, zX, zD, builtinA, isLeaf, const1, Nat.reduceAdd, Nat.reduceMul, Nat.reduceSub, Nat.reduceLT, Nat.reduceLeDiff, Nat.reduceEqDiff, Nat.reduceBEq, Nat.reduceBNe, reduceIte, reduceCtorEq, Int.reduceToNat, Int.reduceLT, Int.reduceLE, Int.reduceEq, Int.reduceNe, Int.reduceNeg, ustrA, ti3, ti9, ti24, ti40, ti42, ti44, ca23, ca25, cf, Tryz.results11]
  refine aloop_intro [0, 1, 5] (fun e A' => ∃ p, p ≤ ks.length ∧ e = [(0, .slice (sEs (markG ks k))), (1, .int .i64 (k + totG (ks.take p))), (5, .int .i64 (p : Nat))] ∧ A' = A) (fun e _ => ks.length - (intOf (Abs.look 5 e)).toNat) ?_ ?_
  · simp only [zW, zX, zD, builtinA, isLeaf, const1, Nat.reduceAdd, Nat.reduceMul, Nat.reduceSub, Nat.reduceLT, Nat.reduceLeDiff, Nat.reduceEqDiff, Nat.reduceBEq, Nat.reduceBNe, reduceIte, reduceCtorEq, Int.reduceToNat, Int.reduceLT, Int.reduceLE, Int.reduceEq, Int.reduceNe, Int.reduceNeg, ustrA, ti3, ti9, ti24, ti40, ti42, ti44, ca23, ca25, cf, Tryz.results11]
    exact ⟨0, by omega, by simp [totG]⟩
  · rintro e A' ⟨p, hp, rfl, rfl⟩
    simp only [zW, zX, zD, builtinA, isLeaf, const1, Nat.reduceAdd, Nat.reduceMul, Nat.reduceSub, Nat.reduceLT, Nat.reduceLeDiff, Nat.reduceEqDiff, Nat.reduceBEq, Nat.reduceBNe, reduceIte, reduceCtorEq, Int.reduceToNat, Int.reduceLT, Int.reduceLE, Int.reduceEq, Int.reduceNe, Int.reduceNeg, ustrA, ti3, ti9, ti24, ti40, ti42, ti44, ca23, ca25, cf, Tryz.results11, hlen]
    refine condK_intro (fun h2 => ?_) (fun h2 => ?_)
    · have hp2 : p < ks.length := by simpa using h2
      have hmem := si_mem hp2
      have hct := totG_take hp2
      have hcl := totG_le ks (p + 1)
      have hel := sEs_getD (l := markG ks k) (i := p) (by rw [markG_length]; exact hp2)
      rw [markG_getD hp2] at hel
      have hok1 := hok _ hmem
      generalize ks.getD p si0 = b at *
      generalize hk1 : k + (totG (ks.take p) : Int) = k1 at *
      rw [sE6] at hel
      simp only [markI, Ty.kind, Ty.mod, Ty.name, Ty.kids] at hel
      have b0 : 0 ≤ k1 := by omega
      have b1 : k1 + 5 + 3 * counts b.typ.kids ≤ 2 ^ 50 := by omega
      have hmn := markL_next b.typ.kids (k1 + 5)
      have w1 : IntKind.i64.wrap (k1 + 1) = k1 + 1 := wrap64 (by omega) (by omega)
      have w2 : IntKind.i64.wrap (k1 + 1 + 1) = k1 + 2 := by rw [wrap64 (by omega) (by omega)]; omega
      have w3 : IntKind.i64.wrap (k1 + 2 + 1) = k1 + 3 := by rw [wrap64 (by omega) (by omega)]; omega
      have w4 : IntKind.i64.wrap (k1 + 3 + 1) = k1 + 4 := by rw [wrap64 (by omega) (by omega)]; omega
      have w5 : IntKind.i64.wrap (k1 + 4 + 1) = k1 + 5 := by rw [wrap64 (by omega) (by omega)]; omega
      have hi1 : IntKind.i64.wrap ((p : Int) + 1) = ((p + 1 : Nat) : Int) := by rw [wrap64 (by omega) (by omega)]; rfl
      have hpi : (0 : Int) ≤ (p : Int) ∧ (p : Int) < (ks.length : Int) := ⟨by omega, by omega⟩
      have hm : HeldS b.typ.kids := heldS _ hok1.2
      simp only [zW, zX, zD, builtinA, isLeaf, const1, Nat.reduceAdd, Nat.reduceMul, Nat.reduceSub, Nat.reduceLT, Nat.reduceLeDiff, Nat.reduceEqDiff, Nat.reduceBEq, Nat.reduceBNe, reduceIte, reduceCtorEq, Int.reduceToNat, Int.reduceLT, Int.reduceLE, Int.reduceEq, Int.reduceNe, Int.reduceNeg, ustrA, ti3, ti9, ti24, ti40, ti42, ti44, ca23, ca25, cf, Tryz.results11, hel, hlen, w1, w2, w3, w4, w5]
      refine ⟨hpi, .inl ⟨by kernel_rfl, by kernel_rfl, hpi, ?_⟩⟩
      refine callD_intro (by simp only [zW, zX, zD, builtinA, isLeaf, const1, Nat.reduceAdd, Nat.reduceMul, Nat.reduceSub, Nat.reduceLT, Nat.reduceLeDiff, Nat.reduceEqDiff, Nat.reduceBEq, Nat.reduceBNe, reduceIte, reduceCtorEq, Int.reduceToNat, Int.reduceLT, Int.reduceLE, Int.reduceEq, Int.reduceNe, Int.reduceNeg, ustrA, Option.map_some] <;> rfl) (laws_markText (k1 + 1) (by omega) _) ?_ rfl
      simp only [zW, zX, zD, builtinA, isLeaf, const1, Nat.reduceAdd, Nat.reduceMul, Nat.reduceSub, Nat.reduceLT, Nat.reduceLeDiff, Nat.reduceEqDiff, Nat.reduceBEq, Nat.reduceBNe, reduceIte, reduceCtorEq, Int.reduceToNat, Int.reduceLT, Int.reduceLE, Int.reduceEq, Int.reduceNe, Int.reduceNeg, ustrA, ti3, ti9, ti24, ti40, ti42, ti44, ca23, ca25, cf, Tryz.results11, hel, hlen, w1, w2, w3, w4, w5]
      refine ⟨hpi, .inl ⟨by kernel_rfl, by kernel_rfl, hpi, ?_⟩⟩
      refine callD_intro (by simp only [zW, zX, zD, builtinA, isLeaf, const1, Nat.reduceAdd, Nat.reduceMul, Nat.reduceSub, Nat.reduceLT, Nat.reduceLeDiff, Nat.reduceEqDiff, Nat.reduceBEq, Nat.reduceBNe, reduceIte, reduceCtorEq, Int.reduceToNat, Int.reduceLT, Int.reduceLE, Int.reduceEq, Int.reduceNe, Int.reduceNeg, ustrA, Option.map_some] <;> rfl) (laws_markText (k1 + 3) (by omega) _) ?_ rfl
      simp only [zW, zX, zD, builtinA, isLeaf, const1, Nat.reduceAdd, Nat.reduceMul, Nat.reduceSub, Nat.reduceLT, Nat.reduceLeDiff, Nat.reduceEqDiff, Nat.reduceBEq, Nat.reduceBNe, reduceIte, reduceCtorEq, Int.reduceToNat, Int.reduceLT, Int.reduceLE, Int.reduceEq, Int.reduceNe, Int.reduceNeg, ustrA, ti3, ti9, ti24, ti40, ti42, ti44, ca23, ca25, cf, Tryz.results11, hel, hlen, w1, w2, w3, w4, w5]
      refine .inl ⟨by kernel_rfl, by kernel_rfl, hpi, ?_⟩
      refine callD_intro (by simp only [zW, zX, zD, builtinA, isLeaf, const1, Nat.reduceAdd, Nat.reduceMul, Nat.reduceSub, Nat.reduceLT, Nat.reduceLeDiff, Nat.reduceEqDiff, Nat.reduceBEq, Nat.reduceBNe, reduceIte, reduceCtorEq, Int.reduceToNat, Int.reduceLT, Int.reduceLE, Int.reduceEq, Int.reduceNe, Int.reduceNeg, ustrA, Option.map_some] <;> rfl) (laws_markText (k1 + 4) (by omega) _) ?_ rfl
      simp only [zW, zX, zD, builtinA, isLeaf, const1, Nat.reduceAdd, Nat.reduceMul, Nat.reduceSub, Nat.reduceLT, Nat.reduceLeDiff, Nat.reduceEqDiff, Nat.reduceBEq, Nat.reduceBNe, reduceIte, reduceCtorEq, Int.reduceToNat, Int.reduceLT, Int.reduceLE, Int.reduceEq, Int.reduceNe, Int.reduceNeg, ustrA, ti3, ti9, ti24, ti40, ti42, ti44, ca23, ca25, cf, Tryz.results11, hel, hlen, w1, w2, w3, w4, w5]
      refine ⟨hpi, ?_⟩
      refine callK_intro (by simp only [zW, zX, zD, builtinA, isLeaf, const1, Nat.reduceAdd, Nat.reduceMul, Nat.reduceSub, Nat.reduceLT, Nat.reduceLeDiff, Nat.reduceEqDiff, Nat.reduceBEq, Nat.reduceBNe, reduceIte, reduceCtorEq, Int.reduceToNat, Int.reduceLT, Int.reduceLE, Int.reduceEq, Int.reduceNe, Int.reduceNeg, ustrA, Option.map_some]; rfl) (hm _ (k1 + 5) (by omega) b1) ?_ rfl; rintro v A' ⟨rfl, rfl⟩
      have hge : decide ((markL b.typ.kids (k1 + 5)).2 < 0) = false := by rw [hmn]; exact decide_eq_false (by omega)
      simp only [zW, zX, zD, builtinA, isLeaf, const1, Nat.reduceAdd, Nat.reduceMul, Nat.reduceSub, Nat.reduceLT, Nat.reduceLeDiff, Nat.reduceEqDiff, Nat.reduceBEq, Nat.reduceBNe, reduceIte, reduceCtorEq, Int.reduceToNat, Int.reduceLT, Int.reduceLE, Int.reduceEq, Int.reduceNe, Int.reduceNeg, ustrA, ti3, ti9, ti24, ti40, ti42, ti44, ca23, ca25, cf, Tryz.results11, hge, hi1, LoopK_eq]
      refine ⟨⟨p + 1, by omega, ?_⟩, ?_⟩
      · have e : k1 + 5 + 3 * (counts b.typ.kids : Int) = k + (totG (ks.take (p + 1)) : Int) := by rw [hct]; omega
        rw [hmn, e]
      · simp only [intOf]; omega
    · have hp2 : p = ks.length := by simp at h2; omega
      subst hp2
      simp only [zW, zX, zD, builtinA, isLeaf, const1, Nat.reduceAdd, Nat.reduceMul, Nat.reduceSub, Nat.reduceLT, Nat.reduceLeDiff, Nat.reduceEqDiff, Nat.reduceBEq, Nat.reduceBNe, reduceIte, reduceCtorEq, Int.reduceToNat, Int.reduceLT, Int.reduceLE, Int.reduceEq, Int.reduceNe, Int.reduceNeg, ustrA, ti3, ti9, ti24, ti40, ti42, ti44, ca23, ca25, cf, Tryz.results11, List.take_length]
theorem laws_markI (ks : List SigI) (hks : ks.length < 2 ^ 63) (hok : ∀ b ∈ ks, b.Ok) (A : List Box) (v : AV) (S : List Nat) (k : Int) (hK : OwnI A ks v S) (hN : S.Nodup) (h0 : 0 ≤ k) (h1 : k + totG ks ≤ 2 ^ 50) :
    ACalls Tryz.prog 10 [v, .int .i64 k] A (fun r A' => r = .int .i64 (k + totG ks) ∧ A'.length = A.length ∧ OwnI A' (markG ks k) v S) := by
  rcases hK with ⟨rfl, rfl, rfl⟩ | ⟨i, rows, S', rfl, rfl, h3, h4⟩
  · exact (laws_markNils A k).mono fun r A' h => by
      obtain ⟨rfl, rfl⟩ := h
      exact ⟨by simp [totG], rfl, .inl ⟨rfl, by simp [markG], rfl⟩⟩
  · exact (laws_markSigs ks hks hok A i rows S' k h3 h4 hN h0 h1).mono fun r A' h => by
      obtain ⟨rfl, h5, h6, rows', h7, h8⟩ := h
      exact ⟨rfl, h5, .inr ⟨i, rows', S', rfl, rfl, h7, h8⟩⟩
end Go.Proofs.YtejbjgmgdbcddaaGreat
