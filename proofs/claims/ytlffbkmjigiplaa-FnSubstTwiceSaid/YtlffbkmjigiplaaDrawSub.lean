/- The drawn arguments of SubstType. -/
import Derived.Test.YtlffbkmjigiplaaDrawAll
import Derived.Test.YtlffbkmjigiplaaSubNew
import Derived.Test.YtlffbkmjigiplaaNamesT
import Derived.Test.YtlffbkmjigiplaaAbsW3
set_option linter.unusedVariables false
set_option linter.unusedSimpArgs false
namespace Go.Proofs.Ytlffbkmjigiplaa
open Go.Abs Go.RowKit Go.ChangeShapes Go.WideShapes Go.ChangeAt Go.ChangeMaps

/-- a binding that is drawn -/
def BdS (b : BdI) : Prop := szB b ≤ 100
theorem bEs_snoc (l : List BdI) (b : BdI) : bEs (l ++ [b]) = bEs l ++ [bE b] := by simp [bEs]
theorem bds_snoc {l : List BdI} {b : BdI} (hl : ∀ b ∈ l, BdS b) (hb : BdS b) : ∀ x ∈ l ++ [b], BdS x := fun x hx => by
  rcases List.mem_append.1 hx with hx | hx
  · exact hl x hx
  · rw [List.mem_singleton.1 hx]; exact hb
theorem root_short : ∀ v, okV v = true → ∃ k m n ks, toTy v = .mk k m n ks ∧ m.length ≤ 1 ∧ n.length ≤ 1
  | .num, _ => ⟨1, [], [], [], rfl, by simp, by simp⟩
  | .nm m n, h => ⟨3, m, n, [], rfl, (nm_short h).2, Nat.le_of_eq (nm_short h).1⟩
  | .fn a b, _ => ⟨2, [], [], [toTy a, toTy b], rfl, by simp, by simp⟩

set_option maxRecDepth 100000 in
set_option maxHeartbeats 4000000 in
theorem spec_l1List (bs : List UInt8) (p : Nat) (i : Nat) (A : List Box) (hi : i < A.length) (hA : A.getD i .dead = Rd bs p) (hp : p < 2 ^ 36) :
    ACalls Try.prog 14 [.ptr i 0] A (fun r A' => ∃ l p', r = .slice (bEs l) ∧ l.length ≤ 3 ∧ (∀ b ∈ l, BdS b) ∧ p ≤ p' ∧ p' ≤ p + 1000 ∧ A' = A.set i (Rd bs p')) := by
  have hgA : ∀ X (B : List Box), (A.set i X ++ B).getD i .dead = X := fun X B => by rw [getD_app1 _ _ _ _ (by simpa using hi), getD_set1 hi]
  refine acalls_enter (cf := cf 44 [0, 2, 3, 4, 5, 6, 12, 29, 33]) foll Try.func14 Try.ntmps14 (by simp [cf]) ?_
  simp only [Try.f14, EnterK_some, zW, zX, zD, builtinA, isLeaf, const1, Nat.reduceAdd, Nat.reduceMul, Nat.reduceSub, Nat.reduceLT, Nat.reduceLeDiff, Nat.reduceEqDiff, Nat.reduceBEq, Nat.reduceBNe, reduceIte, reduceCtorEq, Int.reduceToNat, Int.reduceLT, Int.reduceLE, Int.reduceEq, Int.reduceNe, Int.reduceNeg, ustrA, ti3, ti9, ti25, ti26, ti34, ti70, ca12, ca27, ca28, ca32, cf, Try.results14]
  refine ⟨by simp, ?_⟩
  refine callK_intro (by simp only [zW, zX, zD, builtinA, isLeaf, const1, Nat.reduceAdd, Nat.reduceMul, Nat.reduceSub, Nat.reduceLT, Nat.reduceLeDiff, Nat.reduceEqDiff, Nat.reduceBEq, Nat.reduceBNe, reduceIte, reduceCtorEq, Int.reduceToNat, Int.reduceLT, Int.reduceLE, Int.reduceEq, Int.reduceNe, Int.reduceNeg, ustrA]; rfl) (spec_num bs p [2, 1, 3, 0] i _ (by simp; omega) (by simp only [getD_app1 _ _ _ _ hi, hA]) (by omega) (by simp)) ?_ rfl
  rintro v A' ⟨s, rfl, hs, rfl⟩
  have hs4 : 0 ≤ s ∧ s ≤ 3 := by simp at hs; omega
  simp only [zW, zX, zD, builtinA, isLeaf, const1, Nat.reduceAdd, Nat.reduceMul, Nat.reduceSub, Nat.reduceLT, Nat.reduceLeDiff, Nat.reduceEqDiff, Nat.reduceBEq, Nat.reduceBNe, reduceIte, reduceCtorEq, Int.reduceToNat, Int.reduceLT, Int.reduceLE, Int.reduceEq, Int.reduceNe, Int.reduceNeg, ustrA, ti3, ti9, ti25, ti26, ti34, ti70, ca12, ca27, ca28, ca32, cf, Try.results14, hi]
  refine aloop_intro [0, 3, 4] (fun e A' => ∃ (r : Nat) (l : List BdI) (p' : Nat) (B : List Box) (j : Nat), r + l.length ≤ 3 ∧ (∀ b ∈ l, BdS b) ∧ p + 1 ≤ p' ∧ p' ≤ p + 1 + 300 * l.length ∧ e = [(0, .ptr i 0), (3, .own (A.length + j)), (4, .int .i64 r)] ∧ A' = A.set i (Rd bs p') ++ B ∧ j < B.length ∧ B.getD j .dead = .row 6 (bEs l) 0) (fun e _ => (intOf (Abs.look 4 e)).toNat) ?_ ?_
  · obtain ⟨r, rfl⟩ := Int.eq_ofNat_of_zero_le hs4.1
    simp only [zW, zX, zD, builtinA, isLeaf, const1, Nat.reduceAdd, Nat.reduceMul, Nat.reduceSub, Nat.reduceLT, Nat.reduceLeDiff, Nat.reduceEqDiff, Nat.reduceBEq, Nat.reduceBNe, reduceIte, reduceCtorEq, Int.reduceToNat, Int.reduceLT, Int.reduceLE, Int.reduceEq, Int.reduceNe, Int.reduceNeg, ustrA, ti3, ti9, ti25, ti26, ti34, ti70, ca12, ca27, ca28, ca32, cf, Try.results14]
    exact ⟨r, [], p + 1, _, 0, by simp; omega, by simp, by omega, by simp, rfl, rfl, by simp, rfl⟩
  · rintro e A' ⟨r, l, p', B, j, hr, hl, hp1, hp2, rfl, rfl, hj, hg⟩
    simp only [zW, zX, zD, builtinA, isLeaf, const1, Nat.reduceAdd, Nat.reduceMul, Nat.reduceSub, Nat.reduceLT, Nat.reduceLeDiff, Nat.reduceEqDiff, Nat.reduceBEq, Nat.reduceBNe, reduceIte, reduceCtorEq, Int.reduceToNat, Int.reduceLT, Int.reduceLE, Int.reduceEq, Int.reduceNe, Int.reduceNeg, ustrA, ti3, ti9, ti25, ti26, ti34, ti70, ca12, ca27, ca28, ca32, cf, Try.results14, hi]
    refine condK_intro (fun h2 => ?_) (fun h2 => ?_)
    · have hr0 : 0 < r := by simpa using h2
      have hi1 : IntKind.i64.wrap ((r : Int) - 1) = ((r - 1 : Nat) : Int) := by rw [wrap64 (by omega) (by omega)]; omega
      simp only [zW, zX, zD, builtinA, isLeaf, const1, Nat.reduceAdd, Nat.reduceMul, Nat.reduceSub, Nat.reduceLT, Nat.reduceLeDiff, Nat.reduceEqDiff, Nat.reduceBEq, Nat.reduceBNe, reduceIte, reduceCtorEq, Int.reduceToNat, Int.reduceLT, Int.reduceLE, Int.reduceEq, Int.reduceNe, Int.reduceNeg, ustrA, ti3, ti9, ti25, ti26, ti34, ti70, ca12, ca27, ca28, ca32, cf, Try.results14, hi]
      refine callK_intro rfl (spec_l1Draw bs 0 1 p' i _ (by simp; omega) (hgA _ _) (by omega) (by omega) (by omega)) ?_ rfl
      rintro _ A' ⟨v, p2, rfl, hv, hd, hp3, hp4, rfl⟩
      obtain ⟨k, m, n, ks, hv4, hm, hn⟩ := root_short v hv
      rw [hv4, enc_mk]
      clear hv hd hv4
      simp only [zW, zX, zD, builtinA, isLeaf, const1, Nat.reduceAdd, Nat.reduceMul, Nat.reduceSub, Nat.reduceLT, Nat.reduceLeDiff, Nat.reduceEqDiff, Nat.reduceBEq, Nat.reduceBNe, reduceIte, reduceCtorEq, Int.reduceToNat, Int.reduceLT, Int.reduceLE, Int.reduceEq, Int.reduceNe, Int.reduceNeg, ustrA, ti3, ti9, ti25, ti26, ti34, ti70, ca12, ca27, ca28, ca32, cf, Try.results14, hi]
      refine .inr (drawI_intro (.pur 0 (.pur 1 (.pur 2 (.pur 3 (.pur 4 (.pur 5 (.or 6 (.or 7 (.or 8 (.pur 9 (.or 10 (.or 11 .done .stop) .stop)) (.or 10 (.or 8 (.pur 9 (.or 11 .done .stop)) .stop) .stop)) (.or 10 (.or 7 (.or 8 (.pur 9 (.or 11 .done .stop)) .stop) .stop) .stop)) (.or 10 (.or 6 (.or 7 (.or 8 (.pur 9 (.or 11 .done .stop)) .stop) .stop) .stop) .stop)))))))) (IBox (A.length + B.length) (.cells [.int .i64 k, .str m, .str n, .slice (encs ks)])) (by kernel_rfl) ?_ ?_)
      · refine ⟨?_, by simp⟩
        rw [Abs.getD_append_right (by simp), List.length_set, show A.length + B.length - A.length = B.length by omega, Abs.getD_append_right (Nat.le_refl _)]; simp
      refine wpI_pur_intro (v := ?_) _ rfl rfl (by decide) rfl (fun A' hI => ?_) ?_
      rotate_left
      · simp only [zW, zX, zD, builtinA, isLeaf, const1, Nat.reduceAdd, Nat.reduceMul, Nat.reduceSub, Nat.reduceLT, Nat.reduceLeDiff, Nat.reduceEqDiff, Nat.reduceBEq, Nat.reduceBNe, reduceIte, reduceCtorEq, Int.reduceToNat, Int.reduceLT, Int.reduceLE, Int.reduceEq, Int.reduceNe, Int.reduceNeg, ustrA, ti3, ti9, ti25, ti26, ti34, ti70, ca12, ca27, ca28, ca32, cf, Try.results14, hI.1, hI.2, enc_length, enc_take, enc_drop, frzL_enc, enc_closed, Option.map_some]
        first | exact ⟨rfl, rfl⟩ | exact rfl
      refine wpI_pur_intro (v := ?_) _ rfl rfl (by decide) rfl (fun A' hI => ?_) ?_
      rotate_left
      · simp only [zW, zX, zD, builtinA, isLeaf, const1, Nat.reduceAdd, Nat.reduceMul, Nat.reduceSub, Nat.reduceLT, Nat.reduceLeDiff, Nat.reduceEqDiff, Nat.reduceBEq, Nat.reduceBNe, reduceIte, reduceCtorEq, Int.reduceToNat, Int.reduceLT, Int.reduceLE, Int.reduceEq, Int.reduceNe, Int.reduceNeg, ustrA, ti3, ti9, ti25, ti26, ti34, ti70, ca12, ca27, ca28, ca32, cf, Try.results14, hI.1, hI.2, enc_length, enc_take, enc_drop, frzL_enc, enc_closed, Option.map_some]
        first | exact ⟨rfl, rfl⟩ | exact rfl
      refine wpI_pur_intro (v := ?_) _ rfl rfl (by decide) rfl (fun A' hI => ?_) ?_
      rotate_left
      · simp only [zW, zX, zD, builtinA, isLeaf, const1, Nat.reduceAdd, Nat.reduceMul, Nat.reduceSub, Nat.reduceLT, Nat.reduceLeDiff, Nat.reduceEqDiff, Nat.reduceBEq, Nat.reduceBNe, reduceIte, reduceCtorEq, Int.reduceToNat, Int.reduceLT, Int.reduceLE, Int.reduceEq, Int.reduceNe, Int.reduceNeg, ustrA, ti3, ti9, ti25, ti26, ti34, ti70, ca12, ca27, ca28, ca32, cf, Try.results14, hI.1, hI.2, enc_length, enc_take, enc_drop, frzL_enc, enc_closed, Option.map_some]
        first | exact ⟨rfl, rfl⟩ | exact rfl
      refine wpI_pur_intro (v := ?_) _ rfl rfl (by decide) rfl (fun A' hI => ?_) ?_
      rotate_left
      · simp only [zW, zX, zD, builtinA, isLeaf, const1, Nat.reduceAdd, Nat.reduceMul, Nat.reduceSub, Nat.reduceLT, Nat.reduceLeDiff, Nat.reduceEqDiff, Nat.reduceBEq, Nat.reduceBNe, reduceIte, reduceCtorEq, Int.reduceToNat, Int.reduceLT, Int.reduceLE, Int.reduceEq, Int.reduceNe, Int.reduceNeg, ustrA, ti3, ti9, ti25, ti26, ti34, ti70, ca12, ca27, ca28, ca32, cf, Try.results14, hI.1, hI.2, enc_length, enc_take, enc_drop, frzL_enc, enc_closed, Option.map_some]
        first | exact ⟨rfl, rfl⟩ | exact rfl
      refine wpI_pur_intro (v := ?_) _ rfl rfl (by decide) rfl (fun A' hI => ?_) ?_
      rotate_left
      · simp only [zW, zX, zD, builtinA, isLeaf, const1, Nat.reduceAdd, Nat.reduceMul, Nat.reduceSub, Nat.reduceLT, Nat.reduceLeDiff, Nat.reduceEqDiff, Nat.reduceBEq, Nat.reduceBNe, reduceIte, reduceCtorEq, Int.reduceToNat, Int.reduceLT, Int.reduceLE, Int.reduceEq, Int.reduceNe, Int.reduceNeg, ustrA, ti3, ti9, ti25, ti26, ti34, ti70, ca12, ca27, ca28, ca32, cf, Try.results14, hI.1, hI.2, enc_length, enc_take, enc_drop, frzL_enc, enc_closed, Option.map_some]
        first | exact ⟨rfl, rfl⟩ | exact rfl
      refine wpI_pur_intro (v := ?_) _ rfl rfl (by decide) rfl (fun A' hI => ?_) ?_
      rotate_left
      · simp only [zW, zX, zD, builtinA, isLeaf, const1, Nat.reduceAdd, Nat.reduceMul, Nat.reduceSub, Nat.reduceLT, Nat.reduceLeDiff, Nat.reduceEqDiff, Nat.reduceBEq, Nat.reduceBNe, reduceIte, reduceCtorEq, Int.reduceToNat, Int.reduceLT, Int.reduceLE, Int.reduceEq, Int.reduceNe, Int.reduceNeg, ustrA, ti3, ti9, ti25, ti26, ti34, ti70, ca12, ca27, ca28, ca32, cf, Try.results14, hI.1, hI.2, enc_length, enc_take, enc_drop, frzL_enc, enc_closed, Option.map_some]
        first | exact ⟨rfl, rfl⟩ | exact rfl
      have hIB : ∀ X L, IBox (A.length + B.length) (.cells [.int .i64 k, .str m, .str n, .slice (encs ks)]) (A.set i X ++ (B ++ (.cells [.int .i64 k, .str m, .str n, .slice (encs ks)] :: L))) := fun X L => by
        refine ⟨?_, by simp⟩
        rw [Abs.getD_append_right (by simp), List.length_set, show A.length + B.length - A.length = B.length by omega, Abs.getD_append_right (Nat.le_refl _)]; simp
      simp only [zW, zX, zD, builtinA, isLeaf, const1, Nat.reduceAdd, Nat.reduceMul, Nat.reduceSub, Nat.reduceLT, Nat.reduceLeDiff, Nat.reduceEqDiff, Nat.reduceBEq, Nat.reduceBNe, reduceIte, reduceCtorEq, Int.reduceToNat, Int.reduceLT, Int.reduceLE, Int.reduceEq, Int.reduceNe, Int.reduceNeg, ustrA, ti3, ti9, ti25, ti26, ti34, ti70, ca12, ca27, ca28, ca32, cf, Try.results14, wpI_or_eq, wpI_stop_eq, wpI_done_eq]
      repeat' with_reducible refine And.intro ?_ ?_
      all_goals first | exact hIB _ _ | (intro v hv; rw [List.mem_singleton.1 hv]) | skip
      all_goals refine callK_intro (by simp only [zW, zX, zD, builtinA, isLeaf, const1, Nat.reduceAdd, Nat.reduceMul, Nat.reduceSub, Nat.reduceLT, Nat.reduceLeDiff, Nat.reduceEqDiff, Nat.reduceBEq, Nat.reduceBNe, reduceIte, reduceCtorEq, Int.reduceToNat, Int.reduceLT, Int.reduceLE, Int.reduceEq, Int.reduceNe, Int.reduceNeg, ustrA, hi]; rfl) (spec_num bs p2 [1, 2, 3] i _ (by simp; omega) (hgA _ _) (by omega) (by simp)) ?_ rfl
      all_goals rintro _ _ ⟨d, rfl, hd, rfl⟩
      all_goals have hd3 : 1 ≤ d ∧ d ≤ 3 := by simp at hd; omega
      all_goals simp only [zW, zX, zD, builtinA, isLeaf, const1, Nat.reduceAdd, Nat.reduceMul, Nat.reduceSub, Nat.reduceLT, Nat.reduceLeDiff, Nat.reduceEqDiff, Nat.reduceBEq, Nat.reduceBNe, reduceIte, reduceCtorEq, Int.reduceToNat, Int.reduceLT, Int.reduceLE, Int.reduceEq, Int.reduceNe, Int.reduceNeg, ustrA, ti3, ti9, ti25, ti26, ti34, ti70, ca12, ca27, ca28, ca32, cf, Try.results14, hi, wpI_or_eq, wpI_stop_eq, wpI_done_eq]
      all_goals repeat' with_reducible refine And.intro ?_ ?_
      all_goals first | exact hIB _ _ | skip
      all_goals refine callK_intro (by simp only [zW, zX, zD, builtinA, isLeaf, const1, Nat.reduceAdd, Nat.reduceMul, Nat.reduceSub, Nat.reduceLT, Nat.reduceLeDiff, Nat.reduceEqDiff, Nat.reduceBEq, Nat.reduceBNe, reduceIte, reduceCtorEq, Int.reduceToNat, Int.reduceLT, Int.reduceLE, Int.reduceEq, Int.reduceNe, Int.reduceNeg, ustrA, hi]; rfl) (spec_l1Draw bs 2 d (p2 + 1) i _ (by simp; omega) (hgA _ _) (by omega) (by omega) (by omega)) ?_ rfl
      all_goals rintro _ _ ⟨v2, p3, rfl, hv2, hd2, hq1, hq2, rfl⟩
      all_goals simp only [zW, zX, zD, builtinA, isLeaf, const1, Nat.reduceAdd, Nat.reduceMul, Nat.reduceSub, Nat.reduceLT, Nat.reduceLeDiff, Nat.reduceEqDiff, Nat.reduceBEq, Nat.reduceBNe, reduceIte, reduceCtorEq, Int.reduceToNat, Int.reduceLT, Int.reduceLE, Int.reduceEq, Int.reduceNe, Int.reduceNeg, ustrA, ti3, ti9, ti25, ti26, ti34, ti70, ca12, ca27, ca28, ca32, cf, Try.results14, hi, wpI_or_eq, wpI_stop_eq, wpI_done_eq]
      all_goals refine ⟨hIB _ _, ?_⟩
      all_goals obtain ⟨k2, m2, n2, ks2, hv4, hm2, hn2⟩ := root_short v2 hv2
      all_goals have hsz := sz_dep4 hv2 (by omega)
      all_goals rw [hv4] at hsz
      all_goals rw [hv4, enc_mk]
      all_goals clear hv2 hd2 hv4
      all_goals (refine wpI_pur_intro (v := ?_) _ rfl rfl (by decide) rfl (fun A' hI => ?_) ?_; rotate_left 1; (simp only [zW, zX, zD, builtinA, isLeaf, const1, Nat.reduceAdd, Nat.reduceMul, Nat.reduceSub, Nat.reduceLT, Nat.reduceLeDiff, Nat.reduceEqDiff, Nat.reduceBEq, Nat.reduceBNe, reduceIte, reduceCtorEq, Int.reduceToNat, Int.reduceLT, Int.reduceLE, Int.reduceEq, Int.reduceNe, Int.reduceNeg, ustrA, ti3, ti9, ti25, ti26, ti34, ti70, ca12, ca27, ca28, ca32, cf, Try.results14, hI.1, hI.2, enc_length, enc_take, enc_drop, frzL_enc, enc_closed, Option.map_some]; first | exact ⟨rfl, rfl⟩ | exact rfl))
      all_goals simp only [zW, zX, zD, builtinA, isLeaf, const1, Nat.reduceAdd, Nat.reduceMul, Nat.reduceSub, Nat.reduceLT, Nat.reduceLeDiff, Nat.reduceEqDiff, Nat.reduceBEq, Nat.reduceBNe, reduceIte, reduceCtorEq, Int.reduceToNat, Int.reduceLT, Int.reduceLE, Int.reduceEq, Int.reduceNe, Int.reduceNeg, ustrA, ti3, ti9, ti25, ti26, ti34, ti70, ca12, ca27, ca28, ca32, cf, Try.results14, hi, wpI_or_eq, wpI_stop_eq, wpI_done_eq]
      all_goals repeat' with_reducible refine And.intro ?_ ?_
      all_goals first | exact hIB _ _ | skip
      all_goals by_cases hk : k = 3
      all_goals first | (simp only [zW, zX, zD, builtinA, isLeaf, const1, Nat.reduceAdd, Nat.reduceMul, Nat.reduceSub, Nat.reduceLT, Nat.reduceLeDiff, Nat.reduceEqDiff, Nat.reduceBEq, Nat.reduceBNe, reduceIte, reduceCtorEq, Int.reduceToNat, Int.reduceLT, Int.reduceLE, Int.reduceEq, Int.reduceNe, Int.reduceNeg, ustrA, ti3, ti9, ti25, ti26, ti34, ti70, ca12, ca27, ca28, ca32, cf, Try.results14, hi, decide_eq_true hk]) | (simp only [zW, zX, zD, builtinA, isLeaf, const1, Nat.reduceAdd, Nat.reduceMul, Nat.reduceSub, Nat.reduceLT, Nat.reduceLeDiff, Nat.reduceEqDiff, Nat.reduceBEq, Nat.reduceBNe, reduceIte, reduceCtorEq, Int.reduceToNat, Int.reduceLT, Int.reduceLE, Int.reduceEq, Int.reduceNe, Int.reduceNeg, ustrA, ti3, ti9, ti25, ti26, ti34, ti70, ca12, ca27, ca28, ca32, cf, Try.results14, hi, decide_eq_false hk])
      all_goals refine callK_intro rfl (spec_pick bs p3 20 i _ (by simp; omega) (hgA _ _) (by omega) (by omega)) ?_ rfl
      all_goals rintro _ _ ⟨j1, rfl, h0, h1, rfl⟩
      all_goals simp only [zW, zX, zD, builtinA, isLeaf, const1, Nat.reduceAdd, Nat.reduceMul, Nat.reduceSub, Nat.reduceLT, Nat.reduceLeDiff, Nat.reduceEqDiff, Nat.reduceBEq, Nat.reduceBNe, reduceIte, reduceCtorEq, Int.reduceToNat, Int.reduceLT, Int.reduceLE, Int.reduceEq, Int.reduceNe, Int.reduceNeg, ustrA, ti3, ti9, ti25, ti26, ti34, ti70, ca12, ca27, ca28, ca32, cf, Try.results14, hi]
      all_goals by_cases hj1 : j1 = 0
      all_goals first | (simp only [zW, zX, zD, builtinA, isLeaf, const1, Nat.reduceAdd, Nat.reduceMul, Nat.reduceSub, Nat.reduceLT, Nat.reduceLeDiff, Nat.reduceEqDiff, Nat.reduceBEq, Nat.reduceBNe, reduceIte, reduceCtorEq, Int.reduceToNat, Int.reduceLT, Int.reduceLE, Int.reduceEq, Int.reduceNe, Int.reduceNeg, ustrA, ti3, ti9, ti25, ti26, ti34, ti70, ca12, ca27, ca28, ca32, cf, Try.results14, hi, decide_eq_true hj1]) | (simp only [zW, zX, zD, builtinA, isLeaf, const1, Nat.reduceAdd, Nat.reduceMul, Nat.reduceSub, Nat.reduceLT, Nat.reduceLeDiff, Nat.reduceEqDiff, Nat.reduceBEq, Nat.reduceBNe, reduceIte, reduceCtorEq, Int.reduceToNat, Int.reduceLT, Int.reduceLE, Int.reduceEq, Int.reduceNe, Int.reduceNeg, ustrA, ti3, ti9, ti25, ti26, ti34, ti70, ca12, ca27, ca28, ca32, cf, Try.results14, hi, hj, hg, decide_eq_false hj1])
      all_goals try (refine callK_intro rfl (spec_l1Mutate bs (.mk k2 m2 n2 ks2) (by omega) (p3 + 1) i _ (by simp; omega) (hgA _ _) (by omega)) ?_ rfl; rintro _ _ ⟨⟨k4, m4, n4, ks4⟩, p4, rfl, hsm, hq3, hq4, rfl⟩; rw [enc_mk]; simp only [zW, zX, zD, builtinA, isLeaf, const1, Nat.reduceAdd, Nat.reduceMul, Nat.reduceSub, Nat.reduceLT, Nat.reduceLeDiff, Nat.reduceEqDiff, Nat.reduceBEq, Nat.reduceBNe, reduceIte, reduceCtorEq, Int.reduceToNat, Int.reduceLT, Int.reduceLE, Int.reduceEq, Int.reduceNe, Int.reduceNeg, ustrA, ti3, ti9, ti25, ti26, ti34, ti70, ca12, ca27, ca28, ca32, cf, Try.results14, hi, hj, hg])
      all_goals simp only [zW, zX, zD, builtinA, isLeaf, const1, Nat.reduceAdd, Nat.reduceMul, Nat.reduceSub, Nat.reduceLT, Nat.reduceLeDiff, Nat.reduceEqDiff, Nat.reduceBEq, Nat.reduceBNe, reduceIte, reduceCtorEq, Int.reduceToNat, Int.reduceLT, Int.reduceLE, Int.reduceEq, Int.reduceNe, Int.reduceNeg, ustrA, ti3, ti9, ti25, ti26, ti34, ti70, ca12, ca27, ca28, ca32, cf, Try.results14, hi1, LoopK_eq]
      all_goals first | (refine ⟨by simp [isLeaf], ⟨by simp, by rw [bEs_length]; omega⟩, ⟨r - 1, l ++ [⟨m, n, .mk k4 m4 n4 ks4⟩], _, _, _, by simp; omega, bds_snoc hl (by simp only [BdS, szB, List.length_singleton]; omega), ?_, ?_, rfl, rfl, by simp, by rw [getD_sapp, bEs_snoc]; rfl⟩, ?_⟩) | (refine ⟨by simp [isLeaf], ⟨by simp, by rw [bEs_length]; omega⟩, ⟨r - 1, l ++ [⟨m, n, .mk k2 m2 n2 ks2⟩], _, _, _, by simp; omega, bds_snoc hl (by simp only [BdS, szB, List.length_singleton]; omega), ?_, ?_, rfl, rfl, by simp, by rw [getD_sapp, bEs_snoc]; rfl⟩, ?_⟩) | (refine ⟨by simp [isLeaf], ⟨by simp, by rw [bEs_length]; omega⟩, ⟨r - 1, l ++ [⟨m, [116], .mk k4 m4 n4 ks4⟩], _, _, _, by simp; omega, bds_snoc hl (by simp only [BdS, szB, List.length_singleton]; omega), ?_, ?_, rfl, rfl, by simp, by rw [getD_sapp, bEs_snoc]; rfl⟩, ?_⟩) | (refine ⟨by simp [isLeaf], ⟨by simp, by rw [bEs_length]; omega⟩, ⟨r - 1, l ++ [⟨m, [116], .mk k2 m2 n2 ks2⟩], _, _, _, by simp; omega, bds_snoc hl (by simp only [BdS, szB, List.length_singleton]; omega), ?_, ?_, rfl, rfl, by simp, by rw [getD_sapp, bEs_snoc]; rfl⟩, ?_⟩)
      all_goals first | (simp only [intOf]; omega) | (simp only [List.length_append, List.length_singleton]; omega) | omega
    · have : r = 0 := by simp at h2; omega
      subst this
      simp only [zW, zX, zD, builtinA, isLeaf, const1, Nat.reduceAdd, Nat.reduceMul, Nat.reduceSub, Nat.reduceLT, Nat.reduceLeDiff, Nat.reduceEqDiff, Nat.reduceBEq, Nat.reduceBNe, reduceIte, reduceCtorEq, Int.reduceToNat, Int.reduceLT, Int.reduceLE, Int.reduceEq, Int.reduceNe, Int.reduceNeg, ustrA, ti3, ti9, ti25, ti26, ti34, ti70, ca12, ca27, ca28, ca32, cf, Try.results14, hi, hj, hg]
      exact ⟨outer_set A _ i _ (rd_closed _ _ _), l, p', rfl, by omega, hl, by omega, by omega, rfl⟩

set_option maxRecDepth 100000 in
theorem spec_DrawSubstType (bs : List UInt8) (A : List Box) : ACalls Try.prog 6 [.aslice (byteRows bs)] A (fun r A' => ∃ τ l, r = .tuple [.agg (enc τ), .slice (bEs l)] ∧ sz τ ≤ 50 ∧ l.length ≤ 3 ∧ (∀ b ∈ l, BdS b) ∧ A' = A) := by
  refine acalls_enter (cf := cf 15 [0, 2, 3, 4, 5]) foll Try.func6 Try.ntmps6 (by simp [cf]) ?_
  simp only [Try.f6, EnterK_some, zW, zX, zD, builtinA, isLeaf, const1, Nat.reduceAdd, Nat.reduceMul, Nat.reduceSub, Nat.reduceLT, Nat.reduceLeDiff, Nat.reduceEqDiff, Nat.reduceBEq, Nat.reduceBNe, reduceIte, reduceCtorEq, Int.reduceToNat, Int.reduceLT, Int.reduceLE, Int.reduceEq, Int.reduceNe, Int.reduceNeg, ustrA, ti25, ca11, ca12, ca13, ca14, cf, Try.results6]
  refine callK_intro (by simp only [zW, zX, zD, builtinA, isLeaf, const1, Nat.reduceAdd, Nat.reduceMul, Nat.reduceSub, Nat.reduceLT, Nat.reduceLeDiff, Nat.reduceEqDiff, Nat.reduceBEq, Nat.reduceBNe, reduceIte, reduceCtorEq, Int.reduceToNat, Int.reduceLT, Int.reduceLE, Int.reduceEq, Int.reduceNe, Int.reduceNeg, ustrA]; rfl) (spec_l17Open bs _) ?_ rfl
  rintro v A' ⟨bs', hb, rfl, rfl⟩
  simp only [zW, zX, zD, builtinA, isLeaf, const1, Nat.reduceAdd, Nat.reduceMul, Nat.reduceSub, Nat.reduceLT, Nat.reduceLeDiff, Nat.reduceEqDiff, Nat.reduceBEq, Nat.reduceBNe, reduceIte, reduceCtorEq, Int.reduceToNat, Int.reduceLT, Int.reduceLE, Int.reduceEq, Int.reduceNe, Int.reduceNeg, ustrA, ti25, ca11, ca12, ca13, ca14, cf, Try.results6]
  refine callK_intro (by simp only [zW, zX, zD, builtinA, isLeaf, const1, Nat.reduceAdd, Nat.reduceMul, Nat.reduceSub, Nat.reduceLT, Nat.reduceLeDiff, Nat.reduceEqDiff, Nat.reduceBEq, Nat.reduceBNe, reduceIte, reduceCtorEq, Int.reduceToNat, Int.reduceLT, Int.reduceLE, Int.reduceEq, Int.reduceNe, Int.reduceNeg, ustrA]; rfl) (spec_l1Some bs' 0 (A.length + 1) _ (by simp) (by simp [List.getD]) (by omega)) ?_ rfl
  rintro v A' ⟨v, p', rfl, hv, hd, hp1, hp2, rfl⟩
  have hsz := sz_dep4 hv hd
  simp only [zW, zX, zD, builtinA, isLeaf, const1, Nat.reduceAdd, Nat.reduceMul, Nat.reduceSub, Nat.reduceLT, Nat.reduceLeDiff, Nat.reduceEqDiff, Nat.reduceBEq, Nat.reduceBNe, reduceIte, reduceCtorEq, Int.reduceToNat, Int.reduceLT, Int.reduceLE, Int.reduceEq, Int.reduceNe, Int.reduceNeg, ustrA, ti25, ca11, ca12, ca13, ca14, cf, Try.results6, enc_length, enc_take, enc_drop, frzL_enc, enc_closed, Option.map_some]
  refine callK_intro (by simp only [zW, zX, zD, builtinA, isLeaf, const1, Nat.reduceAdd, Nat.reduceMul, Nat.reduceSub, Nat.reduceLT, Nat.reduceLeDiff, Nat.reduceEqDiff, Nat.reduceBEq, Nat.reduceBNe, reduceIte, reduceCtorEq, Int.reduceToNat, Int.reduceLT, Int.reduceLE, Int.reduceEq, Int.reduceNe, Int.reduceNeg, ustrA, enc_length, enc_take, enc_drop, frzL_enc, enc_closed, Option.map_some]; rfl) (spec_l1Mutate bs' (toTy v) (by omega) p' (A.length + 1) _ (by simp) (by simp [List.getD]) (by omega)) ?_ rfl
  rintro v A' ⟨τ', p', rfl, hv, hp1, hp2, rfl⟩
  simp only [zW, zX, zD, builtinA, isLeaf, const1, Nat.reduceAdd, Nat.reduceMul, Nat.reduceSub, Nat.reduceLT, Nat.reduceLeDiff, Nat.reduceEqDiff, Nat.reduceBEq, Nat.reduceBNe, reduceIte, reduceCtorEq, Int.reduceToNat, Int.reduceLT, Int.reduceLE, Int.reduceEq, Int.reduceNe, Int.reduceNeg, ustrA, ti25, ca11, ca12, ca13, ca14, cf, Try.results6, enc_length, enc_take, enc_drop, frzL_enc, enc_closed, Option.map_some]
  obtain ⟨k, m, n, ks⟩ := τ'
  rw [enc_mk]
  refine .inr (drawI_intro (.pur 0 (.pur 1 (.or 2 (.or 3 (.pur 4 .done) .stop) .stop))) (IBox (A.length + 2) (.cells [.int .i64 k, .str m, .str n, .slice (encs ks)])) (by kernel_rfl) ?_ ?_)
  · exact ⟨by simp, by simp⟩
  refine wpI_pur_intro (v := ?_) _ rfl rfl (by decide) rfl (fun A' hI => ?_) ?_
  rotate_left
  · simp only [zW, zX, zD, builtinA, isLeaf, const1, Nat.reduceAdd, Nat.reduceMul, Nat.reduceSub, Nat.reduceLT, Nat.reduceLeDiff, Nat.reduceEqDiff, Nat.reduceBEq, Nat.reduceBNe, reduceIte, reduceCtorEq, Int.reduceToNat, Int.reduceLT, Int.reduceLE, Int.reduceEq, Int.reduceNe, Int.reduceNeg, ustrA, ti25, ca11, ca12, ca13, ca14, cf, Try.results6, hI.1, hI.2]
    first | exact ⟨rfl, rfl⟩ | exact rfl
  refine wpI_pur_intro (v := ?_) _ rfl rfl (by decide) rfl (fun A' hI => ?_) ?_
  rotate_left
  · simp only [zW, zX, zD, builtinA, isLeaf, const1, Nat.reduceAdd, Nat.reduceMul, Nat.reduceSub, Nat.reduceLT, Nat.reduceLeDiff, Nat.reduceEqDiff, Nat.reduceBEq, Nat.reduceBNe, reduceIte, reduceCtorEq, Int.reduceToNat, Int.reduceLT, Int.reduceLE, Int.reduceEq, Int.reduceNe, Int.reduceNeg, ustrA, ti25, ca11, ca12, ca13, ca14, cf, Try.results6, hI.1, hI.2]
    first | exact ⟨rfl, rfl⟩ | exact rfl
  simp only [zW, zX, zD, builtinA, isLeaf, const1, Nat.reduceAdd, Nat.reduceMul, Nat.reduceSub, Nat.reduceLT, Nat.reduceLeDiff, Nat.reduceEqDiff, Nat.reduceBEq, Nat.reduceBNe, reduceIte, reduceCtorEq, Int.reduceToNat, Int.reduceLT, Int.reduceLE, Int.reduceEq, Int.reduceNe, Int.reduceNeg, ustrA, ti25, ca11, ca12, ca13, ca14, cf, Try.results6, wpI_or_eq, wpI_stop_eq, wpI_done_eq]
  refine callK_intro (by simp only [zW, zX, zD, builtinA, isLeaf, const1, Nat.reduceAdd, Nat.reduceMul, Nat.reduceSub, Nat.reduceLT, Nat.reduceLeDiff, Nat.reduceEqDiff, Nat.reduceBEq, Nat.reduceBNe, reduceIte, reduceCtorEq, Int.reduceToNat, Int.reduceLT, Int.reduceLE, Int.reduceEq, Int.reduceNe, Int.reduceNeg, ustrA]; rfl) (spec_l1List bs' p' (A.length + 1) _ (by simp) (by simp [List.getD]) (by omega)) ?_ rfl
  rintro _ _ ⟨l, p2, rfl, hl1, hl2, hq1, hq2, rfl⟩
  simp only [zW, zX, zD, builtinA, isLeaf, const1, Nat.reduceAdd, Nat.reduceMul, Nat.reduceSub, Nat.reduceLT, Nat.reduceLeDiff, Nat.reduceEqDiff, Nat.reduceBEq, Nat.reduceBNe, reduceIte, reduceCtorEq, Int.reduceToNat, Int.reduceLT, Int.reduceLE, Int.reduceEq, Int.reduceNe, Int.reduceNeg, ustrA, ti25, ca11, ca12, ca13, ca14, cf, Try.results6, wpI_or_eq, wpI_stop_eq, wpI_done_eq]
  refine ⟨⟨by simp, by simp⟩, ⟨by simp, by simp⟩, ?_⟩
  refine wpI_pur_intro (v := ?_) _ rfl rfl (by decide) rfl (fun A' hI => ?_) ?_
  rotate_left
  · simp only [zW, zX, zD, builtinA, isLeaf, const1, Nat.reduceAdd, Nat.reduceMul, Nat.reduceSub, Nat.reduceLT, Nat.reduceLeDiff, Nat.reduceEqDiff, Nat.reduceBEq, Nat.reduceBNe, reduceIte, reduceCtorEq, Int.reduceToNat, Int.reduceLT, Int.reduceLE, Int.reduceEq, Int.reduceNe, Int.reduceNeg, ustrA, ti25, ca11, ca12, ca13, ca14, cf, Try.results6, hI.1, hI.2]
    first | exact ⟨rfl, rfl⟩ | exact rfl
  simp only [zW, zX, zD, builtinA, isLeaf, const1, Nat.reduceAdd, Nat.reduceMul, Nat.reduceSub, Nat.reduceLT, Nat.reduceLeDiff, Nat.reduceEqDiff, Nat.reduceBEq, Nat.reduceBNe, reduceIte, reduceCtorEq, Int.reduceToNat, Int.reduceLT, Int.reduceLE, Int.reduceEq, Int.reduceNe, Int.reduceNeg, ustrA, ti25, ca11, ca12, ca13, ca14, cf, Try.results6, wpI_done_eq]
  exact ⟨.mk k m n ks, l, by rw [enc_mk], by omega, hl1, hl2⟩
end Go.Proofs.Ytlffbkmjigiplaa
