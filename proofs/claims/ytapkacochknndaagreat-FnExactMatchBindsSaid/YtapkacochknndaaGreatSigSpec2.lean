/- The model's SigValid. -/
import Derived.Test.YtapkacochknndaaGreatSigSpec
import Derived.Test.YtapkacochknndaaGreatZero
import Derived.Test.YtapkacochknndaaGreatAbsW3
set_option linter.unusedVariables false
set_option linter.unusedSimpArgs false
namespace Go.Proofs.YtapkacochknndaaGreat
open Go.Abs

def isTB (x : SigI) : Bool := decide (x.kind = 1) || decide (x.kind = 2)
def hasT (s : List SigI) (k : List UInt8) : Bool := s.any fun x => isTB x && decide (x.name = k)
/-- a name of a type is known -/
def knN (s : List SigI) (p : Nm) : Bool := !decide (p.1 = []) || hasT s p.2

set_option maxRecDepth 100000 in
theorem spec_l2IsType (x : SigI) (A : List Box) : ACalls Tryz.prog 63 [.agg (sE x)] A (fun r A' => r = .bool (isTB x) ∧ A' = A) := by
  simp only [sE]
  refine acalls_enter (cf := cf 11 [0, 1, 2]) foll Tryz.func63 Tryz.ntmps63 (by simp [cf]) ?_
  simp only [Tryz.f63, EnterK_some, zW, zX, zD, builtinA, isLeaf, const1, Nat.reduceAdd, Nat.reduceMul, Nat.reduceSub, Nat.reduceLT, Nat.reduceLeDiff, Nat.reduceEqDiff, Nat.reduceBEq, Nat.reduceBNe, reduceIte, reduceCtorEq, Int.reduceToNat, Int.reduceLT, Int.reduceLE, Int.reduceEq, Int.reduceNe, Int.reduceNeg, ustrA, ti3, ti59, cf, Tryz.results63]
  by_cases h : x.kind = 1
  · simp only [zW, zX, zD, builtinA, isLeaf, const1, Nat.reduceAdd, Nat.reduceMul, Nat.reduceSub, Nat.reduceLT, Nat.reduceLeDiff, Nat.reduceEqDiff, Nat.reduceBEq, Nat.reduceBNe, reduceIte, reduceCtorEq, Int.reduceToNat, Int.reduceLT, Int.reduceLE, Int.reduceEq, Int.reduceNe, Int.reduceNeg, ustrA, ti3, ti59, cf, Tryz.results63, decide_eq_true h]
    simp [isTB, h]
  · simp only [zW, zX, zD, builtinA, isLeaf, const1, Nat.reduceAdd, Nat.reduceMul, Nat.reduceSub, Nat.reduceLT, Nat.reduceLeDiff, Nat.reduceEqDiff, Nat.reduceBEq, Nat.reduceBNe, reduceIte, reduceCtorEq, Int.reduceToNat, Int.reduceLT, Int.reduceLE, Int.reduceEq, Int.reduceNe, Int.reduceNeg, ustrA, ti3, ti59, cf, Tryz.results63, decide_eq_false h]
    simp [isTB, h]

theorem hasT_take {s : List SigI} {i : Nat} (h : i < s.length) (k : List UInt8) : hasT (s.take (i + 1)) k = (hasT (s.take i) k || (isTB (s.getD i si0) && decide ((s.getD i si0).name = k))) := by
  rw [si_take h]; simp [hasT]

set_option maxRecDepth 100000 in
theorem spec_l2Known (s : List SigI) (hs : s.length ≤ 1048576) (v : VT) (hv : okV v = true) (hc : cnt v ≤ 100) (A : List Box) : ACalls Tryz.prog 95 [.slice (sEs s), .agg (enc (toTy v))] A (fun r A' => r = .bool (allV (knN s) v) ∧ A' = A) := by
  have hall := nmsV_all (knN s) v []
  simp only [List.all_nil, Bool.true_and] at hall
  have hlen := nmsV_len v []
  simp only [List.length_nil, Nat.zero_add] at hlen
  refine acalls_enter (cf := cf 52 [0, 1, 3, 4, 5, 6, 7, 8, 14, 26, 51]) foll Tryz.func95 Tryz.ntmps95 (by simp [cf]) ?_
  simp only [Tryz.f95, EnterK_some, zW, zX, zD, builtinA, isLeaf, const1, Nat.reduceAdd, Nat.reduceMul, Nat.reduceSub, Nat.reduceLT, Nat.reduceLeDiff, Nat.reduceEqDiff, Nat.reduceBEq, Nat.reduceBNe, reduceIte, reduceCtorEq, Int.reduceToNat, Int.reduceLT, Int.reduceLE, Int.reduceEq, Int.reduceNe, Int.reduceNeg, ustrA, ti3, ti9, ti24, ti55, ti57, ti59, ca63, ca77, cf, Tryz.results95]
  simp only [zW, zX, zD, builtinA, isLeaf, const1, Nat.reduceAdd, Nat.reduceMul, Nat.reduceSub, Nat.reduceLT, Nat.reduceLeDiff, Nat.reduceEqDiff, Nat.reduceBEq, Nat.reduceBNe, reduceIte, reduceCtorEq, Int.reduceToNat, Int.reduceLT, Int.reduceLE, Int.reduceEq, Int.reduceNe, Int.reduceNeg, ustrA, ti3, ti9, ti24, ti55, ti57, ti59, ca63, ca77, cf, Tryz.results95, enc_length, enc_take]
  refine callO_intro (namesT v _ [] .nils hv (by simp; omega) (fun p hp => by simp at hp) (.inl ⟨rfl, rfl⟩)) ?_
  rintro r A' ⟨hO, hF⟩
  have hgo : A'.take A.length = A ∧ Outer A A' := by
    have hg : ∀ k, k < A.length → A'.getD k .dead = A.getD k .dead := fun k hk => by
      rw [hF.2.2 k (by simp; omega) (by intro e; cases e), Abs.getD_append_left hk]
    have hle : A.length ≤ A'.length := by have := hF.1; simp at this; omega
    refine ⟨List.ext_getElem? fun k => ?_, hle, fun i hi => .inl (hg i hi)⟩
    by_cases hk : k < A.length
    · have := hg k hk
      simp only [List.getD] at this
      have e1 : k < A'.length := by omega
      simp only [List.getElem?_take, hk, if_true]
      simpa [hk, e1] using this
    · simp [List.getElem?_take, hk]
  rw [← hall]
  rcases hO with ⟨rfl, hns⟩ | ⟨j, rfl, hj, hA⟩
  · rw [hns]
    simp only [zW, zX, zD, builtinA, isLeaf, const1, Nat.reduceAdd, Nat.reduceMul, Nat.reduceSub, Nat.reduceLT, Nat.reduceLeDiff, Nat.reduceEqDiff, Nat.reduceBEq, Nat.reduceBNe, reduceIte, reduceCtorEq, Int.reduceToNat, Int.reduceLT, Int.reduceLE, Int.reduceEq, Int.reduceNe, Int.reduceNeg, ustrA, ti3, ti9, ti24, ti55, ti57, ti59, ca63, ca77, cf, Tryz.results95]
    refine aloop_intro [0, 5, 6] (fun e B => e = [(0, .slice (sEs s)), (5, .nils), (6, .int .i64 0)] ∧ B = A') (fun e _ => 0) ?_ ?_
    · simp only [zW, zX, zD, builtinA, isLeaf, const1, Nat.reduceAdd, Nat.reduceMul, Nat.reduceSub, Nat.reduceLT, Nat.reduceLeDiff, Nat.reduceEqDiff, Nat.reduceBEq, Nat.reduceBNe, reduceIte, reduceCtorEq, Int.reduceToNat, Int.reduceLT, Int.reduceLE, Int.reduceEq, Int.reduceNe, Int.reduceNeg, ustrA, ti3, ti9, ti24, ti55, ti57, ti59, ca63, ca77, cf, Tryz.results95]
    · rintro e B ⟨rfl, rfl⟩
      simp only [zW, zX, zD, builtinA, isLeaf, const1, Nat.reduceAdd, Nat.reduceMul, Nat.reduceSub, Nat.reduceLT, Nat.reduceLeDiff, Nat.reduceEqDiff, Nat.reduceBEq, Nat.reduceBNe, reduceIte, reduceCtorEq, Int.reduceToNat, Int.reduceLT, Int.reduceLE, Int.reduceEq, Int.reduceNe, Int.reduceNeg, ustrA, ti3, ti9, ti24, ti55, ti57, ti59, ca63, ca77, cf, Tryz.results95]
      refine condK_intro (fun h => absurd h (by simp)) (fun _ => ?_)
      simp only [zW, zX, zD, builtinA, isLeaf, const1, Nat.reduceAdd, Nat.reduceMul, Nat.reduceSub, Nat.reduceLT, Nat.reduceLeDiff, Nat.reduceEqDiff, Nat.reduceBEq, Nat.reduceBNe, reduceIte, reduceCtorEq, Int.reduceToNat, Int.reduceLT, Int.reduceLE, Int.reduceEq, Int.reduceNe, Int.reduceNeg, ustrA, ti3, ti9, ti24, ti55, ti57, ti59, ca63, ca77, cf, Tryz.results95]
      exact ⟨hgo.2, hgo.1⟩
  · generalize hns : nmsV [] v = ns at *
    simp only [zW, zX, zD, builtinA, isLeaf, const1, Nat.reduceAdd, Nat.reduceMul, Nat.reduceSub, Nat.reduceLT, Nat.reduceLeDiff, Nat.reduceEqDiff, Nat.reduceBEq, Nat.reduceBNe, reduceIte, reduceCtorEq, Int.reduceToNat, Int.reduceLT, Int.reduceLE, Int.reduceEq, Int.reduceNe, Int.reduceNeg, ustrA, ti3, ti9, ti24, ti55, ti57, ti59, ca63, ca77, cf, Tryz.results95]
    refine aloop_intro [0, 5, 6] (fun e B => ∃ i, i ≤ ns.length ∧ (ns.take i).all (knN s) = true ∧ e = [(0, .slice (sEs s)), (5, .own j), (6, .int .i64 (i : Nat))] ∧ B = A') (fun e _ => ns.length - (intOf (Abs.look 6 e)).toNat) ?_ ?_
    · simp only [zW, zX, zD, builtinA, isLeaf, const1, Nat.reduceAdd, Nat.reduceMul, Nat.reduceSub, Nat.reduceLT, Nat.reduceLeDiff, Nat.reduceEqDiff, Nat.reduceBEq, Nat.reduceBNe, reduceIte, reduceCtorEq, Int.reduceToNat, Int.reduceLT, Int.reduceLE, Int.reduceEq, Int.reduceNe, Int.reduceNeg, ustrA, ti3, ti9, ti24, ti55, ti57, ti59, ca63, ca77, cf, Tryz.results95]
      exact ⟨0, by omega, by simp, rfl⟩
    · rintro e B ⟨i, hi, hq, rfl, rfl⟩
      simp only [zW, zX, zD, builtinA, isLeaf, const1, Nat.reduceAdd, Nat.reduceMul, Nat.reduceSub, Nat.reduceLT, Nat.reduceLeDiff, Nat.reduceEqDiff, Nat.reduceBEq, Nat.reduceBNe, reduceIte, reduceCtorEq, Int.reduceToNat, Int.reduceLT, Int.reduceLE, Int.reduceEq, Int.reduceNe, Int.reduceNeg, ustrA, ti3, ti9, ti24, ti55, ti57, ti59, ca63, ca77, cf, Tryz.results95, hA, nrows_length]
      refine condK_intro (fun h2 => ?_) (fun h2 => ?_)
      · have hi2 : i < ns.length := by simp at h2; omega
        have hg := nrows_getD hi2
        have htk : ns.take (i + 1) = ns.take i ++ [ns.getD i ([], [])] := by rw [List.take_add_one]; simp [List.getD, hi2]
        have hi1 : IntKind.i64.wrap ((i : Int) + 1) = ((i + 1 : Nat) : Int) := by rw [wrap64 (by omega) (by omega)]; rfl
        generalize hp : ns.getD i ([], []) = p at *
        simp only [zW, zX, zD, builtinA, isLeaf, const1, Nat.reduceAdd, Nat.reduceMul, Nat.reduceSub, Nat.reduceLT, Nat.reduceLeDiff, Nat.reduceEqDiff, Nat.reduceBEq, Nat.reduceBNe, reduceIte, reduceCtorEq, Int.reduceToNat, Int.reduceLT, Int.reduceLE, Int.reduceEq, Int.reduceNe, Int.reduceNeg, ustrA, ti3, ti9, ti24, ti55, ti57, ti59, ca63, ca77, cf, Tryz.results95, hA, hg, nrows_length]
        refine ⟨⟨by omega, by omega⟩, ?_⟩
        refine aloop_intro [0, 5, 6, 7, 8] (fun e C => ∃ q, q ≤ s.length ∧ e = [(0, .slice (sEs s)), (5, .own j), (6, .int .i64 (i : Nat)), (7, .bool (!decide (p.1 = []) || hasT (s.take q) p.2)), (8, .int .i64 (q : Nat))] ∧ C = B) (fun e _ => s.length - (intOf (Abs.look 8 e)).toNat) ?_ ?_
        · simp only [zW, zX, zD, builtinA, isLeaf, const1, Nat.reduceAdd, Nat.reduceMul, Nat.reduceSub, Nat.reduceLT, Nat.reduceLeDiff, Nat.reduceEqDiff, Nat.reduceBEq, Nat.reduceBNe, reduceIte, reduceCtorEq, Int.reduceToNat, Int.reduceLT, Int.reduceLE, Int.reduceEq, Int.reduceNe, Int.reduceNeg, ustrA, ti3, ti9, ti24, ti55, ti57, ti59, ca63, ca77, cf, Tryz.results95]
          exact ⟨0, by omega, by simp [hasT]⟩
        · rintro e C ⟨q, hq2, rfl, rfl⟩
          simp only [zW, zX, zD, builtinA, isLeaf, const1, Nat.reduceAdd, Nat.reduceMul, Nat.reduceSub, Nat.reduceLT, Nat.reduceLeDiff, Nat.reduceEqDiff, Nat.reduceBEq, Nat.reduceBNe, reduceIte, reduceCtorEq, Int.reduceToNat, Int.reduceLT, Int.reduceLE, Int.reduceEq, Int.reduceNe, Int.reduceNeg, ustrA, ti3, ti9, ti24, ti55, ti57, ti59, ca63, ca77, cf, Tryz.results95, sEs_length]
          refine condK_intro (fun h3 => ?_) (fun h3 => ?_)
          · have hq3 : q < s.length := by simp at h3; omega
            have hg2 := sEs_getD hq3
            have hst := hasT_take hq3 p.2
            have hq1 : IntKind.i64.wrap ((q : Int) + 1) = ((q + 1 : Nat) : Int) := by rw [wrap64 (by omega) (by omega)]; rfl
            generalize s.getD q si0 = x at *
            have pq : (0 : Int) ≤ (q : Int) ∧ (q : Int) < (s.length : Int) := ⟨by omega, by omega⟩
            have pi : (0 : Int) ≤ (i : Int) ∧ (i : Int) < (ns.length : Int) := ⟨by omega, by omega⟩
            have fin : ∀ b : Bool, b = (!decide (p.1 = []) || hasT (s.take (q + 1)) p.2) → (∃ q', q' ≤ s.length ∧ [(0, AV.slice (sEs s)), (5, AV.own j), (6, AV.int .i64 (i : Nat)), (7, AV.bool b), (8, AV.int .i64 ((q + 1 : Nat) : Int))] = [(0, .slice (sEs s)), (5, .own j), (6, .int .i64 (i : Nat)), (7, .bool (!decide (p.1 = []) || hasT (s.take q') p.2)), (8, .int .i64 (q' : Nat))]) := fun b hb => ⟨q + 1, by omega, by rw [hb]⟩
            cases hb0 : (!decide (p.1 = []) || hasT (s.take q) p.2) with
            | true =>
              simp only [zW, zX, zD, builtinA, isLeaf, const1, Nat.reduceAdd, Nat.reduceMul, Nat.reduceSub, Nat.reduceLT, Nat.reduceLeDiff, Nat.reduceEqDiff, Nat.reduceBEq, Nat.reduceBNe, reduceIte, reduceCtorEq, Int.reduceToNat, Int.reduceLT, Int.reduceLE, Int.reduceEq, Int.reduceNe, Int.reduceNeg, ustrA, ti3, ti9, ti24, ti55, ti57, ti59, ca63, ca77, cf, Tryz.results95]
              refine .inl ⟨by kernel_rfl, by kernel_rfl, ?_⟩
              simp only [zW, zX, zD, builtinA, isLeaf, const1, Nat.reduceAdd, Nat.reduceMul, Nat.reduceSub, Nat.reduceLT, Nat.reduceLeDiff, Nat.reduceEqDiff, Nat.reduceBEq, Nat.reduceBNe, reduceIte, reduceCtorEq, Int.reduceToNat, Int.reduceLT, Int.reduceLE, Int.reduceEq, Int.reduceNe, Int.reduceNeg, ustrA, ti3, ti9, ti24, ti55, ti57, ti59, ca63, ca77, cf, Tryz.results95, hq1, LoopK_eq]
              refine ⟨fin true (by rw [hst, ← Bool.or_assoc, hb0, Bool.true_or]), ?_⟩
              simp only [intOf]; omega
            | false =>
              simp only [zW, zX, zD, builtinA, isLeaf, const1, Nat.reduceAdd, Nat.reduceMul, Nat.reduceSub, Nat.reduceLT, Nat.reduceLeDiff, Nat.reduceEqDiff, Nat.reduceBEq, Nat.reduceBNe, reduceIte, reduceCtorEq, Int.reduceToNat, Int.reduceLT, Int.reduceLE, Int.reduceEq, Int.reduceNe, Int.reduceNeg, ustrA, ti3, ti9, ti24, ti55, ti57, ti59, ca63, ca77, cf, Tryz.results95, hg2, sE_length, sE_take, sEs_length]
              refine .inl ⟨by kernel_rfl, by kernel_rfl, pq, ?_⟩
              refine callD_intro (by simp only [zW, zX, zD, builtinA, isLeaf, const1, Nat.reduceAdd, Nat.reduceMul, Nat.reduceSub, Nat.reduceLT, Nat.reduceLeDiff, Nat.reduceEqDiff, Nat.reduceBEq, Nat.reduceBNe, reduceIte, reduceCtorEq, Int.reduceToNat, Int.reduceLT, Int.reduceLE, Int.reduceEq, Int.reduceNe, Int.reduceNeg, ustrA, frzL_sE, Option.map_some] <;> rfl) (spec_l2IsType x _) ?_ rfl
              cases hx : isTB x with
              | false =>
                rw [hx, Bool.false_and, Bool.or_false] at hst
                simp only [zW, zX, zD, builtinA, isLeaf, const1, Nat.reduceAdd, Nat.reduceMul, Nat.reduceSub, Nat.reduceLT, Nat.reduceLeDiff, Nat.reduceEqDiff, Nat.reduceBEq, Nat.reduceBNe, reduceIte, reduceCtorEq, Int.reduceToNat, Int.reduceLT, Int.reduceLE, Int.reduceEq, Int.reduceNe, Int.reduceNeg, ustrA, ti3, ti9, ti24, ti55, ti57, ti59, ca63, ca77, cf, Tryz.results95, hq1, LoopK_eq]
                refine ⟨fin false (by rw [hst, hb0]), ?_⟩
                simp only [intOf]; omega
              | true =>
                rw [hx, Bool.true_and] at hst
                simp only [sE] at hg2
                simp only [zW, zX, zD, builtinA, isLeaf, const1, Nat.reduceAdd, Nat.reduceMul, Nat.reduceSub, Nat.reduceLT, Nat.reduceLeDiff, Nat.reduceEqDiff, Nat.reduceBEq, Nat.reduceBNe, reduceIte, reduceCtorEq, Int.reduceToNat, Int.reduceLT, Int.reduceLE, Int.reduceEq, Int.reduceNe, Int.reduceNeg, ustrA, ti3, ti9, ti24, ti55, ti57, ti59, ca63, ca77, cf, Tryz.results95, hg2, hA, hg, sEs_length, nrows_length, hq1, LoopK_eq]
                refine ⟨⟨pq.1, pq.2, enc_length _⟩, by omega, pi, fin _ (by rw [hst, ← Bool.or_assoc, hb0, Bool.false_or]), ?_⟩
                simp only [intOf]; omega
          · have hq3 : q = s.length := by simp at h3; omega
            subst hq3
            rw [List.take_length] at *
            cases hk : knN s p with
            | true =>
              have hk' : (!decide (p.1 = []) || hasT s p.2) = true := hk
              rw [hk']
              simp only [zW, zX, zD, builtinA, isLeaf, const1, Nat.reduceAdd, Nat.reduceMul, Nat.reduceSub, Nat.reduceLT, Nat.reduceLeDiff, Nat.reduceEqDiff, Nat.reduceBEq, Nat.reduceBNe, reduceIte, reduceCtorEq, Int.reduceToNat, Int.reduceLT, Int.reduceLE, Int.reduceEq, Int.reduceNe, Int.reduceNeg, ustrA, ti3, ti9, ti24, ti55, ti57, ti59, ca63, ca77, cf, Tryz.results95, hi1, LoopK_eq]
              refine ⟨⟨i + 1, by omega, by rw [htk]; simp [hq, hk], rfl⟩, ?_⟩
              simp only [intOf]; omega
            | false =>
              have hk' : (!decide (p.1 = []) || hasT s p.2) = false := hk
              rw [hk']
              have hf : ns.all (knN s) = false := by
                rw [List.all_eq_false]
                refine ⟨p, ?_, by simp [hk]⟩
                rw [← hp]; simp [List.getD, hi2]
              simp only [zW, zX, zD, builtinA, isLeaf, const1, Nat.reduceAdd, Nat.reduceMul, Nat.reduceSub, Nat.reduceLT, Nat.reduceLeDiff, Nat.reduceEqDiff, Nat.reduceBEq, Nat.reduceBNe, reduceIte, reduceCtorEq, Int.reduceToNat, Int.reduceLT, Int.reduceLE, Int.reduceEq, Int.reduceNe, Int.reduceNeg, ustrA, ti3, ti9, ti24, ti55, ti57, ti59, ca63, ca77, cf, Tryz.results95]
              exact ⟨hgo.2, by rw [hf], hgo.1⟩
      · have hi2 : i = ns.length := by simp at h2; omega
        subst hi2
        rw [List.take_length] at hq
        simp only [zW, zX, zD, builtinA, isLeaf, const1, Nat.reduceAdd, Nat.reduceMul, Nat.reduceSub, Nat.reduceLT, Nat.reduceLeDiff, Nat.reduceEqDiff, Nat.reduceBEq, Nat.reduceBNe, reduceIte, reduceCtorEq, Int.reduceToNat, Int.reduceLT, Int.reduceLE, Int.reduceEq, Int.reduceNe, Int.reduceNeg, ustrA, ti3, ti9, ti24, ti55, ti57, ti59, ca63, ca77, cf, Tryz.results95]
        exact ⟨hgo.2, by rw [hq], hgo.1⟩
end Go.Proofs.YtapkacochknndaaGreat
