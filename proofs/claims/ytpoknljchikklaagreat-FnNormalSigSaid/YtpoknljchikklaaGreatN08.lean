/- DrawMut, OkSz, Binds, OwnTy. -/
import Derived.Test.YtpoknljchikklaaGreatN07
import Derived.Test.YtpoknljchikklaaGreatAbsW3
/- Types that are sometimes made invalid. -/
set_option linter.unusedVariables false
set_option linter.unusedSimpArgs false
namespace Go.Proofs.YtpoknljchikklaaGreat
open Go.Abs

theorem enc_mk (k : Int) (m n : List UInt8) (ks : List Ty) : enc (.mk k m n ks) = [.int .i64 k, .str m, .str n, .slice (encs ks)] := by rw [enc]
theorem encs_nil : encs [] = [] := by rw [encs]
theorem sz_snoc (ks : List Ty) (t : Ty) : szs (ks ++ [t]) = szs ks + sz t := by
  induction ks with
  | nil => simp [szs]
  | cons u l ih => simp only [List.cons_append, szs, ih]; omega

set_option maxRecDepth 100000 in
theorem spec_l1Mutate (bs : List UInt8) (τ : Ty) (hτ : sz τ ≤ 10000) (p : Nat) (i : Nat) (A : List Box) (hi : i < A.length) (hA : A.getD i .dead = Rd bs p) (hp : p < 2 ^ 38) :
    ACalls Tryz.prog 115 [.ptr i 0, .agg (enc τ)] A (fun r A' => ∃ τ' p', r = .agg (enc τ') ∧ sz τ' ≤ sz τ + 20 ∧ p ≤ p' ∧ p' ≤ p + 2 ∧ A' = A.set i (Rd bs p')) := by
  have hgA : ∀ X (B : List Box), (A.set i X ++ B).getD i .dead = X := fun X B => by rw [getD_app1 _ _ _ _ (by simpa using hi), getD_set1 hi]
  obtain ⟨k, m, n, ks⟩ := τ
  refine acalls_enter (cf := cf 47 [0, 1, 3, 4, 5, 6, 10, 11, 17, 23, 29, 37, 40]) foll Tryz.func115 Tryz.ntmps115 (by simp [cf]) ?_
  simp only [Tryz.f115, EnterK_some, zW, zX, zD, builtinA, isLeaf, const1, Nat.reduceAdd, Nat.reduceMul, Nat.reduceSub, Nat.reduceLT, Nat.reduceLeDiff, Nat.reduceEqDiff, Nat.reduceBEq, Nat.reduceBNe, reduceIte, reduceCtorEq, Int.reduceToNat, Int.reduceLT, Int.reduceLE, Int.reduceEq, Int.reduceNe, Int.reduceNeg, ustrA, ti3, ti9, ti29, ti31, ti69, ti161, ca57, ca112, ca114, ca117, ca145, ca166, cf, Tryz.results115]
  simp only [zW, zX, zD, builtinA, isLeaf, const1, Nat.reduceAdd, Nat.reduceMul, Nat.reduceSub, Nat.reduceLT, Nat.reduceLeDiff, Nat.reduceEqDiff, Nat.reduceBEq, Nat.reduceBNe, reduceIte, reduceCtorEq, Int.reduceToNat, Int.reduceLT, Int.reduceLE, Int.reduceEq, Int.reduceNe, Int.reduceNeg, ustrA, ti3, ti9, ti29, ti31, ti69, ti161, ca57, ca112, ca114, ca117, ca145, ca166, cf, Tryz.results115, enc_length, enc_take, enc_drop, frzL_enc, enc_closed, Option.map_some]
  refine callK_intro (by simp only [zW, zX, zD, builtinA, isLeaf, const1, Nat.reduceAdd, Nat.reduceMul, Nat.reduceSub, Nat.reduceLT, Nat.reduceLeDiff, Nat.reduceEqDiff, Nat.reduceBEq, Nat.reduceBNe, reduceIte, reduceCtorEq, Int.reduceToNat, Int.reduceLT, Int.reduceLE, Int.reduceEq, Int.reduceNe, Int.reduceNeg, ustrA, enc_length, enc_take, enc_drop, frzL_enc, enc_closed, Option.map_some]; rfl) (spec_l1CopyK k m n ks (by omega) _) ?_ rfl
  rintro v A' ⟨x, B, rfl, rfl, hx⟩
  simp only [zW, zX, zD, builtinA, isLeaf, const1, Nat.reduceAdd, Nat.reduceMul, Nat.reduceSub, Nat.reduceLT, Nat.reduceLeDiff, Nat.reduceEqDiff, Nat.reduceBEq, Nat.reduceBNe, reduceIte, reduceCtorEq, Int.reduceToNat, Int.reduceLT, Int.reduceLE, Int.reduceEq, Int.reduceNe, Int.reduceNeg, ustrA, ti3, ti9, ti29, ti31, ti69, ti161, ca57, ca112, ca114, ca117, ca145, ca166, cf, Tryz.results115, enc_length, enc_take, enc_drop, frzL_enc, enc_closed, Option.map_some]
  refine callK_intro (by simp only [zW, zX, zD, builtinA, isLeaf, const1, Nat.reduceAdd, Nat.reduceMul, Nat.reduceSub, Nat.reduceLT, Nat.reduceLeDiff, Nat.reduceEqDiff, Nat.reduceBEq, Nat.reduceBNe, reduceIte, reduceCtorEq, Int.reduceToNat, Int.reduceLT, Int.reduceLE, Int.reduceEq, Int.reduceNe, Int.reduceNeg, ustrA, enc_length, enc_take, enc_drop, frzL_enc, enc_closed, Option.map_some]; rfl) (spec_pick bs p 50 i _ (by simp; omega) (by simp only [getD_app1 _ _ _ _ hi, hA]) (by omega) (by omega)) ?_ rfl
  rintro v A' ⟨j1, rfl, h0, h1, rfl⟩
  have hx' : (x = .nils ∧ ks = []) ∨ ∃ j, x = .own (A.length + (j + 2)) ∧ j < B.length ∧ B.getD j .dead = .row 4 (encs ks) 0 := by
    rcases hx with h | ⟨j, h1, h2, h3⟩
    · exact .inl h
    · refine .inr ⟨j, ?_, h2, h3⟩
      rw [h1]
      simp only [List.length_append, List.length_cons, List.length_nil]
      congr 1
      omega
  clear hx
  rcases hx' with ⟨rfl, rfl⟩ | ⟨j, rfl, hj, hg⟩
  · simp only [zW, zX, zD, builtinA, isLeaf, const1, Nat.reduceAdd, Nat.reduceMul, Nat.reduceSub, Nat.reduceLT, Nat.reduceLeDiff, Nat.reduceEqDiff, Nat.reduceBEq, Nat.reduceBNe, reduceIte, reduceCtorEq, Int.reduceToNat, Int.reduceLT, Int.reduceLE, Int.reduceEq, Int.reduceNe, Int.reduceNeg, ustrA, ti3, ti9, ti29, ti31, ti69, ti161, ca57, ca112, ca114, ca117, ca145, ca166, cf, Tryz.results115, hi, enc_length, enc_take, enc_drop, frzL_enc, enc_closed, Option.map_some]
    by_cases k0 : j1 = 0
    · simp only [zW, zX, zD, builtinA, isLeaf, const1, Nat.reduceAdd, Nat.reduceMul, Nat.reduceSub, Nat.reduceLT, Nat.reduceLeDiff, Nat.reduceEqDiff, Nat.reduceBEq, Nat.reduceBNe, reduceIte, reduceCtorEq, Int.reduceToNat, Int.reduceLT, Int.reduceLE, Int.reduceEq, Int.reduceNe, Int.reduceNeg, ustrA, ti3, ti9, ti29, ti31, ti69, ti161, ca57, ca112, ca114, ca117, ca145, ca166, cf, Tryz.results115, hi, enc_length, enc_take, enc_drop, frzL_enc, enc_closed, Option.map_some, decide_eq_true k0]
      refine ⟨by simp, ?_⟩
      refine callK_intro (by simp only [zW, zX, zD, builtinA, isLeaf, const1, Nat.reduceAdd, Nat.reduceMul, Nat.reduceSub, Nat.reduceLT, Nat.reduceLeDiff, Nat.reduceEqDiff, Nat.reduceBEq, Nat.reduceBNe, reduceIte, reduceCtorEq, Int.reduceToNat, Int.reduceLT, Int.reduceLE, Int.reduceEq, Int.reduceNe, Int.reduceNeg, ustrA, hi]; rfl) (spec_num bs (p + 1) [0, 4, 1, 2, 3] i _ (by simp; omega) (hgA _ _) (by omega) (by simp)) ?_ rfl
      rintro v A' ⟨s, rfl, hs, rfl⟩
      simp only [zW, zX, zD, builtinA, isLeaf, const1, Nat.reduceAdd, Nat.reduceMul, Nat.reduceSub, Nat.reduceLT, Nat.reduceLeDiff, Nat.reduceEqDiff, Nat.reduceBEq, Nat.reduceBNe, reduceIte, reduceCtorEq, Int.reduceToNat, Int.reduceLT, Int.reduceLE, Int.reduceEq, Int.reduceNe, Int.reduceNeg, ustrA, ti3, ti9, ti29, ti31, ti69, ti161, ca57, ca112, ca114, ca117, ca145, ca166, cf, Tryz.results115, hi, enc_length, enc_take, enc_drop, frzL_enc, enc_closed, Option.map_some]
      refine ⟨outer_set A _ i _ (rd_closed _ _ _), .mk s m n [], p + 1 + 1, by rw [enc_mk, encs_nil], ?_, by omega, by omega, rfl⟩
      simp only [sz]; omega
    · simp only [zW, zX, zD, builtinA, isLeaf, const1, Nat.reduceAdd, Nat.reduceMul, Nat.reduceSub, Nat.reduceLT, Nat.reduceLeDiff, Nat.reduceEqDiff, Nat.reduceBEq, Nat.reduceBNe, reduceIte, reduceCtorEq, Int.reduceToNat, Int.reduceLT, Int.reduceLE, Int.reduceEq, Int.reduceNe, Int.reduceNeg, ustrA, ti3, ti9, ti29, ti31, ti69, ti161, ca57, ca112, ca114, ca117, ca145, ca166, cf, Tryz.results115, hi, enc_length, enc_take, enc_drop, frzL_enc, enc_closed, Option.map_some, decide_eq_false k0]
      by_cases k1 : j1 = 1
      · simp only [zW, zX, zD, builtinA, isLeaf, const1, Nat.reduceAdd, Nat.reduceMul, Nat.reduceSub, Nat.reduceLT, Nat.reduceLeDiff, Nat.reduceEqDiff, Nat.reduceBEq, Nat.reduceBNe, reduceIte, reduceCtorEq, Int.reduceToNat, Int.reduceLT, Int.reduceLE, Int.reduceEq, Int.reduceNe, Int.reduceNeg, ustrA, ti3, ti9, ti29, ti31, ti69, ti161, ca57, ca112, ca114, ca117, ca145, ca166, cf, Tryz.results115, hi, enc_length, enc_take, enc_drop, frzL_enc, enc_closed, Option.map_some, decide_eq_true k1]
        refine ⟨by simp, ?_⟩
        refine callK_intro (by simp only [zW, zX, zD, builtinA, isLeaf, const1, Nat.reduceAdd, Nat.reduceMul, Nat.reduceSub, Nat.reduceLT, Nat.reduceLeDiff, Nat.reduceEqDiff, Nat.reduceBEq, Nat.reduceBNe, reduceIte, reduceCtorEq, Int.reduceToNat, Int.reduceLT, Int.reduceLE, Int.reduceEq, Int.reduceNe, Int.reduceNeg, ustrA, hi]; rfl) (spec_of bs (p + 1) [[], [116], [84], [116, 117], [195, 169]] i _ (by simp; omega) (hgA _ _) (by omega) (by simp)) ?_ rfl
        rintro v A' ⟨s, rfl, hs, rfl⟩
        simp only [zW, zX, zD, builtinA, isLeaf, const1, Nat.reduceAdd, Nat.reduceMul, Nat.reduceSub, Nat.reduceLT, Nat.reduceLeDiff, Nat.reduceEqDiff, Nat.reduceBEq, Nat.reduceBNe, reduceIte, reduceCtorEq, Int.reduceToNat, Int.reduceLT, Int.reduceLE, Int.reduceEq, Int.reduceNe, Int.reduceNeg, ustrA, ti3, ti9, ti29, ti31, ti69, ti161, ca57, ca112, ca114, ca117, ca145, ca166, cf, Tryz.results115, hi, enc_length, enc_take, enc_drop, frzL_enc, enc_closed, Option.map_some]
        refine ⟨outer_set A _ i _ (rd_closed _ _ _), .mk k m s [], p + 1 + 1, by rw [enc_mk, encs_nil], ?_, by omega, by omega, rfl⟩
        have hsl : s.length ≤ 2 := by simp at hs; rcases hs with rfl | rfl | rfl | rfl | rfl <;> simp
        simp only [sz] at hτ ⊢; omega
      · simp only [zW, zX, zD, builtinA, isLeaf, const1, Nat.reduceAdd, Nat.reduceMul, Nat.reduceSub, Nat.reduceLT, Nat.reduceLeDiff, Nat.reduceEqDiff, Nat.reduceBEq, Nat.reduceBNe, reduceIte, reduceCtorEq, Int.reduceToNat, Int.reduceLT, Int.reduceLE, Int.reduceEq, Int.reduceNe, Int.reduceNeg, ustrA, ti3, ti9, ti29, ti31, ti69, ti161, ca57, ca112, ca114, ca117, ca145, ca166, cf, Tryz.results115, hi, enc_length, enc_take, enc_drop, frzL_enc, enc_closed, Option.map_some, decide_eq_false k1]
        by_cases k2 : j1 = 2
        · simp only [zW, zX, zD, builtinA, isLeaf, const1, Nat.reduceAdd, Nat.reduceMul, Nat.reduceSub, Nat.reduceLT, Nat.reduceLeDiff, Nat.reduceEqDiff, Nat.reduceBEq, Nat.reduceBNe, reduceIte, reduceCtorEq, Int.reduceToNat, Int.reduceLT, Int.reduceLE, Int.reduceEq, Int.reduceNe, Int.reduceNeg, ustrA, ti3, ti9, ti29, ti31, ti69, ti161, ca57, ca112, ca114, ca117, ca145, ca166, cf, Tryz.results115, hi, enc_length, enc_take, enc_drop, frzL_enc, enc_closed, Option.map_some, decide_eq_true k2]
          refine ⟨by simp, ?_⟩
          refine callK_intro (by simp only [zW, zX, zD, builtinA, isLeaf, const1, Nat.reduceAdd, Nat.reduceMul, Nat.reduceSub, Nat.reduceLT, Nat.reduceLeDiff, Nat.reduceEqDiff, Nat.reduceBEq, Nat.reduceBNe, reduceIte, reduceCtorEq, Int.reduceToNat, Int.reduceLT, Int.reduceLE, Int.reduceEq, Int.reduceNe, Int.reduceNeg, ustrA, hi]; rfl) (spec_of bs (p + 1) [[65], [97], [73], [65, 66]] i _ (by simp; omega) (hgA _ _) (by omega) (by simp)) ?_ rfl
          rintro v A' ⟨s, rfl, hs, rfl⟩
          simp only [zW, zX, zD, builtinA, isLeaf, const1, Nat.reduceAdd, Nat.reduceMul, Nat.reduceSub, Nat.reduceLT, Nat.reduceLeDiff, Nat.reduceEqDiff, Nat.reduceBEq, Nat.reduceBNe, reduceIte, reduceCtorEq, Int.reduceToNat, Int.reduceLT, Int.reduceLE, Int.reduceEq, Int.reduceNe, Int.reduceNeg, ustrA, ti3, ti9, ti29, ti31, ti69, ti161, ca57, ca112, ca114, ca117, ca145, ca166, cf, Tryz.results115, hi, enc_length, enc_take, enc_drop, frzL_enc, enc_closed, Option.map_some]
          refine ⟨outer_set A _ i _ (rd_closed _ _ _), .mk k s n [], p + 1 + 1, by rw [enc_mk, encs_nil], ?_, by omega, by omega, rfl⟩
          have hsl : s.length ≤ 2 := by simp at hs; rcases hs with rfl | rfl | rfl | rfl <;> simp
          simp only [sz] at hτ ⊢; omega
        · simp only [zW, zX, zD, builtinA, isLeaf, const1, Nat.reduceAdd, Nat.reduceMul, Nat.reduceSub, Nat.reduceLT, Nat.reduceLeDiff, Nat.reduceEqDiff, Nat.reduceBEq, Nat.reduceBNe, reduceIte, reduceCtorEq, Int.reduceToNat, Int.reduceLT, Int.reduceLE, Int.reduceEq, Int.reduceNe, Int.reduceNeg, ustrA, ti3, ti9, ti29, ti31, ti69, ti161, ca57, ca112, ca114, ca117, ca145, ca166, cf, Tryz.results115, hi, enc_length, enc_take, enc_drop, frzL_enc, enc_closed, Option.map_some, decide_eq_false k2]
          by_cases k3 : j1 = 3
          · simp only [decide_eq_true k3, CondK_true]
            simp only [wpc_skip, AThen_normal, wpc_block, wpc_seq, wpc_drawn]
            refine .inr (drawE_intro [(false, 0, 2), (false, 0, 2), (true, 0, 0), (true, 1, 1), (true, 2, 2), (false, 3, 3), (true, 3, 3)] [A.set i (Rd bs (p + 1)) ++ (.cells (enc (.mk k m n [])) :: .cells [.int .i64 0, .str [], .str [], .nils] :: (B ++ [.cells [.int .i64 k, .str m, .str n, .nils]])), A.set i (Rd bs (p + 1)) ++ (.cells (enc (.mk k m n [])) :: .cells [.int .i64 0, .str [], .str [], .nils] :: (B ++ [.cells [.int .i64 k, .str m, .str n, .nils]])), A.set i (Rd bs (p + 1)) ++ (.cells (enc (.mk k m n [])) :: .cells [.int .i64 0, .str [], .str [], .nils] :: (B ++ [.cells [.int .i64 k, .str m, .str n, .nils], .row 4 [enc (toTy .num)] 0])), A.set i (Rd bs (p + 1)) ++ (.cells (enc (.mk k m n [])) :: .cells [.int .i64 0, .str [], .str [], .nils] :: (B ++ [.cells [.int .i64 k, .str m, .str n, .nils], .row 4 [enc (toTy .num)] 0, .row 4 [enc (toTy .num)] 0])), A.set i (Rd bs (p + 1)) ++ (.cells (enc (.mk k m n [])) :: .cells [.int .i64 0, .str [], .str [], .nils] :: (B ++ [.cells [.int .i64 k, .str m, .str n, .own (A.length + (B.length + 1 + 1 + 1 + 1))], .row 4 [enc (toTy .num)] 0, .row 4 [enc (toTy .num)] 0]))] 4 rfl (by kernel_rfl) (by kernel_rfl) (by kernel_rfl) (by kernel_rfl) (by kernel_rfl) (by kernel_rfl) ?_)
            simp only [zW, zX, zD, builtinA, isLeaf, const1, Nat.reduceAdd, Nat.reduceMul, Nat.reduceSub, Nat.reduceLT, Nat.reduceLeDiff, Nat.reduceEqDiff, Nat.reduceBEq, Nat.reduceBNe, reduceIte, reduceCtorEq, Int.reduceToNat, Int.reduceLT, Int.reduceLE, Int.reduceEq, Int.reduceNe, Int.reduceNeg, ustrA, ti3, ti9, ti29, ti31, ti69, ti161, ca57, ca112, ca114, ca117, ca145, ca166, cf, Tryz.results115, hi, enc_length, enc_take, enc_drop, frzL_enc, enc_closed, Option.map_some, enc_mk]
            refine callE_intro (by simp only [zW, zX, zD, builtinA, isLeaf, const1, Nat.reduceAdd, Nat.reduceMul, Nat.reduceSub, Nat.reduceLT, Nat.reduceLeDiff, Nat.reduceEqDiff, Nat.reduceBEq, Nat.reduceBNe, reduceIte, reduceCtorEq, Int.reduceToNat, Int.reduceLT, Int.reduceLE, Int.reduceEq, Int.reduceNe, Int.reduceNeg, ustrA, enc_length, enc_take, enc_drop, frzL_enc, enc_closed, Option.map_some] <;> rfl) (spec_l1Num _) ?_ rfl rfl
            simp only [zW, zX, zD, builtinA, isLeaf, const1, Nat.reduceAdd, Nat.reduceMul, Nat.reduceSub, Nat.reduceLT, Nat.reduceLeDiff, Nat.reduceEqDiff, Nat.reduceBEq, Nat.reduceBNe, reduceIte, reduceCtorEq, Int.reduceToNat, Int.reduceLT, Int.reduceLE, Int.reduceEq, Int.reduceNe, Int.reduceNeg, ustrA, ti3, ti9, ti29, ti31, ti69, ti161, ca57, ca112, ca114, ca117, ca145, ca166, cf, Tryz.results115, hi, enc_length, enc_take, enc_drop, frzL_enc, enc_closed, Option.map_some]
            refine ⟨fun v hv => enc_leaf _ v hv, fun r hr => by rw [List.mem_singleton.1 hr, enc_length], outer_set A _ i _ (rd_closed _ _ _), .mk k m n [toTy .num], p + 1, by rw [enc_mk, encs, encs], ?_, by omega, by omega, rfl⟩
            simp only [sz, toTy, szs, List.length_singleton, List.length_nil]; omega
          · simp only [zW, zX, zD, builtinA, isLeaf, const1, Nat.reduceAdd, Nat.reduceMul, Nat.reduceSub, Nat.reduceLT, Nat.reduceLeDiff, Nat.reduceEqDiff, Nat.reduceBEq, Nat.reduceBNe, reduceIte, reduceCtorEq, Int.reduceToNat, Int.reduceLT, Int.reduceLE, Int.reduceEq, Int.reduceNe, Int.reduceNeg, ustrA, ti3, ti9, ti29, ti31, ti69, ti161, ca57, ca112, ca114, ca117, ca145, ca166, cf, Tryz.results115, hi, enc_length, enc_take, enc_drop, frzL_enc, enc_closed, Option.map_some, decide_eq_false k3]
            by_cases k4 : j1 = 4
            · simp only [zW, zX, zD, builtinA, isLeaf, const1, Nat.reduceAdd, Nat.reduceMul, Nat.reduceSub, Nat.reduceLT, Nat.reduceLeDiff, Nat.reduceEqDiff, Nat.reduceBEq, Nat.reduceBNe, reduceIte, reduceCtorEq, Int.reduceToNat, Int.reduceLT, Int.reduceLE, Int.reduceEq, Int.reduceNe, Int.reduceNeg, ustrA, ti3, ti9, ti29, ti31, ti69, ti161, ca57, ca112, ca114, ca117, ca145, ca166, cf, Tryz.results115, hi, enc_length, enc_take, enc_drop, frzL_enc, enc_closed, Option.map_some, decide_eq_true k4]
              refine aloop_intro [4, 5, 6] (fun e A' => ∃ r, r ≤ 8 ∧ e = [(4, .ptr (A.length + 1) 0), (5, .ptr (A.length + (B.length + 1 + 1)) 0), (6, .int .i64 (r : Nat))] ∧ ((r = 0 ∧ A' = A.set i (Rd bs (p + 1)) ++ (.cells (enc (.mk k m n [])) :: .cells [.int .i64 0, .str [], .str [], .nils] :: (B ++ [.cells [.int .i64 k, .str m, .str n, .nils]]))) ∨ (∃ τr, A' = A.set i (Rd bs (p + 1)) ++ (.cells (enc (.mk k m n [])) :: .cells [.int .i64 0, .str [], .str [], .nils] :: (B ++ [.cells (enc τr)])) ∧ sz τr ≤ sz (.mk k m n []) + 2 * r))) (fun e _ => 8 - (intOf (Abs.look 6 e)).toNat) ?_ ?_
              · simp only [zW, zX, zD, builtinA, isLeaf, const1, Nat.reduceAdd, Nat.reduceMul, Nat.reduceSub, Nat.reduceLT, Nat.reduceLeDiff, Nat.reduceEqDiff, Nat.reduceBEq, Nat.reduceBNe, reduceIte, reduceCtorEq, Int.reduceToNat, Int.reduceLT, Int.reduceLE, Int.reduceEq, Int.reduceNe, Int.reduceNeg, ustrA, ti3, ti9, ti29, ti31, ti69, ti161, ca57, ca112, ca114, ca117, ca145, ca166, cf, Tryz.results115]
                exact ⟨0, by omega, rfl, .inl rfl⟩
              · rintro e A' ⟨r, hr, rfl, hx⟩
                simp only [zW, zX, zD, builtinA, isLeaf, const1, Nat.reduceAdd, Nat.reduceMul, Nat.reduceSub, Nat.reduceLT, Nat.reduceLeDiff, Nat.reduceEqDiff, Nat.reduceBEq, Nat.reduceBNe, reduceIte, reduceCtorEq, Int.reduceToNat, Int.reduceLT, Int.reduceLE, Int.reduceEq, Int.reduceNe, Int.reduceNeg, ustrA, ti3, ti9, ti29, ti31, ti69, ti161, ca57, ca112, ca114, ca117, ca145, ca166, cf, Tryz.results115, hi]
                have hi1 : IntKind.i64.wrap ((r : Int) + 1) = ((r + 1 : Nat) : Int) := by rw [wrap64 (by omega) (by omega)]; rfl
                refine condK_intro (fun h2 => ?_) (fun h2 => ?_)
                · have hr2 : r < 8 := by simp at h2; omega
                  rcases hx with ⟨rfl, rfl⟩ | ⟨τr, rfl, hτr⟩
                  · simp only [wpc_skip, AThen_normal, wpc_block, wpc_seq, wpc_drawn]
                    refine .inr (drawE_intro [(false, 0, 1), (true, 0, 0), (true, 1, 1), (true, 2, 2)] [A.set i (Rd bs (p + 1)) ++ (.cells (enc (.mk k m n [])) :: .cells [.int .i64 0, .str [], .str [], .nils] :: (B ++ [.cells [.int .i64 k, .str m, .str n, .nils]])), A.set i (Rd bs (p + 1)) ++ (.cells (enc (.mk k m n [])) :: .cells [.int .i64 0, .str [], .str [], .nils] :: (B ++ [.cells [.int .i64 k, .str m, .str n, .nils]])), A.set i (Rd bs (p + 1)) ++ (.cells (enc (.mk k m n [])) :: .cells [.int .i64 0, .str [], .str [], .nils] :: (B ++ [.cells [.int .i64 k, .str m, .str n, .nils]])), A.set i (Rd bs (p + 1)) ++ (.cells (enc (.mk k m n [])) :: .cells [.int .i64 0, .str [], .str [], .nils] :: (B ++ [.cells (enc (.mk 2 [] [] [.mk k m n [], toTy .num]))]))] 3 rfl (by kernel_rfl) (by kernel_rfl) (by kernel_rfl) (by kernel_rfl) (by kernel_rfl) (by kernel_rfl) ?_)
                    simp only [zW, zX, zD, builtinA, isLeaf, const1, Nat.reduceAdd, Nat.reduceMul, Nat.reduceSub, Nat.reduceLT, Nat.reduceLeDiff, Nat.reduceEqDiff, Nat.reduceBEq, Nat.reduceBNe, reduceIte, reduceCtorEq, Int.reduceToNat, Int.reduceLT, Int.reduceLE, Int.reduceEq, Int.reduceNe, Int.reduceNeg, ustrA, ti3, ti9, ti29, ti31, ti69, ti161, ca57, ca112, ca114, ca117, ca145, ca166, cf, Tryz.results115, hi, enc_length, enc_take, enc_drop, frzL_enc, enc_closed, Option.map_some]
                    refine callE_intro (by simp only [zW, zX, zD, builtinA, isLeaf, const1, Nat.reduceAdd, Nat.reduceMul, Nat.reduceSub, Nat.reduceLT, Nat.reduceLeDiff, Nat.reduceEqDiff, Nat.reduceBEq, Nat.reduceBNe, reduceIte, reduceCtorEq, Int.reduceToNat, Int.reduceLT, Int.reduceLE, Int.reduceEq, Int.reduceNe, Int.reduceNeg, ustrA, enc_length, enc_take, enc_drop, frzL_enc, enc_closed, Option.map_some] <;> rfl) (spec_l1Num _) ?_ rfl rfl
                    simp only [zW, zX, zD, builtinA, isLeaf, const1, Nat.reduceAdd, Nat.reduceMul, Nat.reduceSub, Nat.reduceLT, Nat.reduceLeDiff, Nat.reduceEqDiff, Nat.reduceBEq, Nat.reduceBNe, reduceIte, reduceCtorEq, Int.reduceToNat, Int.reduceLT, Int.reduceLE, Int.reduceEq, Int.reduceNe, Int.reduceNeg, ustrA, ti3, ti9, ti29, ti31, ti69, ti161, ca57, ca112, ca114, ca117, ca145, ca166, cf, Tryz.results115, hi, enc_length, enc_take, enc_drop, frzL_enc, enc_closed, Option.map_some]
                    refine callE_intro (by simp only [zW, zX, zD, builtinA, isLeaf, const1, Nat.reduceAdd, Nat.reduceMul, Nat.reduceSub, Nat.reduceLT, Nat.reduceLeDiff, Nat.reduceEqDiff, Nat.reduceBEq, Nat.reduceBNe, reduceIte, reduceCtorEq, Int.reduceToNat, Int.reduceLT, Int.reduceLE, Int.reduceEq, Int.reduceNe, Int.reduceNeg, ustrA, hi, enc_length, enc_take, enc_drop, frzL_enc, enc_closed, Option.map_some, enc_mk, encs_nil, encs_length] <;> rfl) (spec_l1Fun (.mk k m n []) (toTy .num) _) ?_ rfl rfl
                    simp only [zW, zX, zD, builtinA, isLeaf, const1, Nat.reduceAdd, Nat.reduceMul, Nat.reduceSub, Nat.reduceLT, Nat.reduceLeDiff, Nat.reduceEqDiff, Nat.reduceBEq, Nat.reduceBNe, reduceIte, reduceCtorEq, Int.reduceToNat, Int.reduceLT, Int.reduceLE, Int.reduceEq, Int.reduceNe, Int.reduceNeg, ustrA, ti3, ti9, ti29, ti31, ti69, ti161, ca57, ca112, ca114, ca117, ca145, ca166, cf, Tryz.results115, hi, hi1, enc_length, enc_take, enc_drop, frzL_enc, enc_closed, Option.map_some, LoopK_eq]
                    refine ⟨⟨0 + 1, by omega, rfl, .inr ⟨_, rfl, ?_⟩⟩, ?_⟩
                    · simp only [sz, toTy, szs, List.length_cons, List.length_nil]; omega
                    · simp only [intOf]; omega
                  · simp only [wpc_skip, AThen_normal, wpc_block, wpc_seq, wpc_drawn]
                    refine .inr (drawE_intro [(false, 0, 1), (true, 0, 0), (true, 1, 1), (true, 2, 2)] [A.set i (Rd bs (p + 1)) ++ (.cells (enc (.mk k m n [])) :: .cells [.int .i64 0, .str [], .str [], .nils] :: (B ++ [.cells (enc τr)])), A.set i (Rd bs (p + 1)) ++ (.cells (enc (.mk k m n [])) :: .cells [.int .i64 0, .str [], .str [], .nils] :: (B ++ [.cells (enc τr)])), A.set i (Rd bs (p + 1)) ++ (.cells (enc (.mk k m n [])) :: .cells [.int .i64 0, .str [], .str [], .nils] :: (B ++ [.cells (enc τr)])), A.set i (Rd bs (p + 1)) ++ (.cells (enc (.mk k m n [])) :: .cells [.int .i64 0, .str [], .str [], .nils] :: (B ++ [.cells (enc (.mk 2 [] [] [τr, toTy .num]))]))] 3 rfl (by kernel_rfl) (by kernel_rfl) (by kernel_rfl) (by kernel_rfl) (by kernel_rfl) (by kernel_rfl) ?_)
                    simp only [zW, zX, zD, builtinA, isLeaf, const1, Nat.reduceAdd, Nat.reduceMul, Nat.reduceSub, Nat.reduceLT, Nat.reduceLeDiff, Nat.reduceEqDiff, Nat.reduceBEq, Nat.reduceBNe, reduceIte, reduceCtorEq, Int.reduceToNat, Int.reduceLT, Int.reduceLE, Int.reduceEq, Int.reduceNe, Int.reduceNeg, ustrA, ti3, ti9, ti29, ti31, ti69, ti161, ca57, ca112, ca114, ca117, ca145, ca166, cf, Tryz.results115, hi, enc_length, enc_take, enc_drop, frzL_enc, enc_closed, Option.map_some]
                    refine callE_intro (by simp only [zW, zX, zD, builtinA, isLeaf, const1, Nat.reduceAdd, Nat.reduceMul, Nat.reduceSub, Nat.reduceLT, Nat.reduceLeDiff, Nat.reduceEqDiff, Nat.reduceBEq, Nat.reduceBNe, reduceIte, reduceCtorEq, Int.reduceToNat, Int.reduceLT, Int.reduceLE, Int.reduceEq, Int.reduceNe, Int.reduceNeg, ustrA, enc_length, enc_take, enc_drop, frzL_enc, enc_closed, Option.map_some] <;> rfl) (spec_l1Num _) ?_ rfl rfl
                    simp only [zW, zX, zD, builtinA, isLeaf, const1, Nat.reduceAdd, Nat.reduceMul, Nat.reduceSub, Nat.reduceLT, Nat.reduceLeDiff, Nat.reduceEqDiff, Nat.reduceBEq, Nat.reduceBNe, reduceIte, reduceCtorEq, Int.reduceToNat, Int.reduceLT, Int.reduceLE, Int.reduceEq, Int.reduceNe, Int.reduceNeg, ustrA, ti3, ti9, ti29, ti31, ti69, ti161, ca57, ca112, ca114, ca117, ca145, ca166, cf, Tryz.results115, hi, enc_length, enc_take, enc_drop, frzL_enc, enc_closed, Option.map_some]
                    refine callE_intro (by simp only [zW, zX, zD, builtinA, isLeaf, const1, Nat.reduceAdd, Nat.reduceMul, Nat.reduceSub, Nat.reduceLT, Nat.reduceLeDiff, Nat.reduceEqDiff, Nat.reduceBEq, Nat.reduceBNe, reduceIte, reduceCtorEq, Int.reduceToNat, Int.reduceLT, Int.reduceLE, Int.reduceEq, Int.reduceNe, Int.reduceNeg, ustrA, hi, enc_length, enc_take, enc_drop, frzL_enc, enc_closed, Option.map_some] <;> rfl) (spec_l1Fun τr (toTy .num) _) ?_ rfl rfl
                    simp only [zW, zX, zD, builtinA, isLeaf, const1, Nat.reduceAdd, Nat.reduceMul, Nat.reduceSub, Nat.reduceLT, Nat.reduceLeDiff, Nat.reduceEqDiff, Nat.reduceBEq, Nat.reduceBNe, reduceIte, reduceCtorEq, Int.reduceToNat, Int.reduceLT, Int.reduceLE, Int.reduceEq, Int.reduceNe, Int.reduceNeg, ustrA, ti3, ti9, ti29, ti31, ti69, ti161, ca57, ca112, ca114, ca117, ca145, ca166, cf, Tryz.results115, hi, hi1, enc_length, enc_take, enc_drop, frzL_enc, enc_closed, Option.map_some, LoopK_eq]
                    refine ⟨⟨r + 1, by omega, rfl, .inr ⟨_, rfl, ?_⟩⟩, ?_⟩
                    · simp only [sz, toTy, szs, List.length_cons, List.length_nil] at hτr ⊢; omega
                    · simp only [intOf]; omega
                · have hr8 : r = 8 := by simp at h2; omega
                  subst hr8
                  rcases hx with ⟨h, _⟩ | ⟨τr, rfl, hτr⟩
                  · cases h
                  · simp only [zW, zX, zD, builtinA, isLeaf, const1, Nat.reduceAdd, Nat.reduceMul, Nat.reduceSub, Nat.reduceLT, Nat.reduceLeDiff, Nat.reduceEqDiff, Nat.reduceBEq, Nat.reduceBNe, reduceIte, reduceCtorEq, Int.reduceToNat, Int.reduceLT, Int.reduceLE, Int.reduceEq, Int.reduceNe, Int.reduceNeg, ustrA, ti3, ti9, ti29, ti31, ti69, ti161, ca57, ca112, ca114, ca117, ca145, ca166, cf, Tryz.results115, hi, enc_length, enc_take, enc_drop, frzL_enc, enc_closed, Option.map_some]
                    exact ⟨outer_set A _ i _ (rd_closed _ _ _), τr, p + 1, rfl, by omega, by omega, by omega, rfl⟩
            · simp only [zW, zX, zD, builtinA, isLeaf, const1, Nat.reduceAdd, Nat.reduceMul, Nat.reduceSub, Nat.reduceLT, Nat.reduceLeDiff, Nat.reduceEqDiff, Nat.reduceBEq, Nat.reduceBNe, reduceIte, reduceCtorEq, Int.reduceToNat, Int.reduceLT, Int.reduceLE, Int.reduceEq, Int.reduceNe, Int.reduceNeg, ustrA, ti3, ti9, ti29, ti31, ti69, ti161, ca57, ca112, ca114, ca117, ca145, ca166, cf, Tryz.results115, hi, enc_length, enc_take, enc_drop, frzL_enc, enc_closed, Option.map_some, decide_eq_false k4]
              refine ⟨outer_set A _ i _ (rd_closed _ _ _), .mk k m n [], p + 1, by rw [enc_mk, encs_nil], ?_, by omega, by omega, rfl⟩
              omega
  · simp only [zW, zX, zD, builtinA, isLeaf, const1, Nat.reduceAdd, Nat.reduceMul, Nat.reduceSub, Nat.reduceLT, Nat.reduceLeDiff, Nat.reduceEqDiff, Nat.reduceBEq, Nat.reduceBNe, reduceIte, reduceCtorEq, Int.reduceToNat, Int.reduceLT, Int.reduceLE, Int.reduceEq, Int.reduceNe, Int.reduceNeg, ustrA, ti3, ti9, ti29, ti31, ti69, ti161, ca57, ca112, ca114, ca117, ca145, ca166, cf, Tryz.results115, hi, enc_length, enc_take, enc_drop, frzL_enc, enc_closed, Option.map_some]
    by_cases k0 : j1 = 0
    · simp only [zW, zX, zD, builtinA, isLeaf, const1, Nat.reduceAdd, Nat.reduceMul, Nat.reduceSub, Nat.reduceLT, Nat.reduceLeDiff, Nat.reduceEqDiff, Nat.reduceBEq, Nat.reduceBNe, reduceIte, reduceCtorEq, Int.reduceToNat, Int.reduceLT, Int.reduceLE, Int.reduceEq, Int.reduceNe, Int.reduceNeg, ustrA, ti3, ti9, ti29, ti31, ti69, ti161, ca57, ca112, ca114, ca117, ca145, ca166, cf, Tryz.results115, hi, hj, hg, enc_length, enc_take, enc_drop, frzL_enc, enc_closed, Option.map_some, decide_eq_true k0]
      refine ⟨by simp, ?_⟩
      refine callK_intro (by simp only [zW, zX, zD, builtinA, isLeaf, const1, Nat.reduceAdd, Nat.reduceMul, Nat.reduceSub, Nat.reduceLT, Nat.reduceLeDiff, Nat.reduceEqDiff, Nat.reduceBEq, Nat.reduceBNe, reduceIte, reduceCtorEq, Int.reduceToNat, Int.reduceLT, Int.reduceLE, Int.reduceEq, Int.reduceNe, Int.reduceNeg, ustrA, hi, hj, hg]; rfl) (spec_num bs (p + 1) [0, 4, 1, 2, 3] i _ (by simp; omega) (hgA _ _) (by omega) (by simp)) ?_ rfl
      rintro v A' ⟨s, rfl, hs, rfl⟩
      simp only [zW, zX, zD, builtinA, isLeaf, const1, Nat.reduceAdd, Nat.reduceMul, Nat.reduceSub, Nat.reduceLT, Nat.reduceLeDiff, Nat.reduceEqDiff, Nat.reduceBEq, Nat.reduceBNe, reduceIte, reduceCtorEq, Int.reduceToNat, Int.reduceLT, Int.reduceLE, Int.reduceEq, Int.reduceNe, Int.reduceNeg, ustrA, ti3, ti9, ti29, ti31, ti69, ti161, ca57, ca112, ca114, ca117, ca145, ca166, cf, Tryz.results115, hi, hj, hg, enc_length, enc_take, enc_drop, frzL_enc, enc_closed, Option.map_some]
      refine ⟨outer_set A _ i _ (rd_closed _ _ _), .mk s m n ks, p + 1 + 1, by rw [enc_mk], ?_, by omega, by omega, rfl⟩
      simp only [sz]; omega
    · simp only [zW, zX, zD, builtinA, isLeaf, const1, Nat.reduceAdd, Nat.reduceMul, Nat.reduceSub, Nat.reduceLT, Nat.reduceLeDiff, Nat.reduceEqDiff, Nat.reduceBEq, Nat.reduceBNe, reduceIte, reduceCtorEq, Int.reduceToNat, Int.reduceLT, Int.reduceLE, Int.reduceEq, Int.reduceNe, Int.reduceNeg, ustrA, ti3, ti9, ti29, ti31, ti69, ti161, ca57, ca112, ca114, ca117, ca145, ca166, cf, Tryz.results115, hi, hj, hg, enc_length, enc_take, enc_drop, frzL_enc, enc_closed, Option.map_some, decide_eq_false k0]
      by_cases k1 : j1 = 1
      · simp only [zW, zX, zD, builtinA, isLeaf, const1, Nat.reduceAdd, Nat.reduceMul, Nat.reduceSub, Nat.reduceLT, Nat.reduceLeDiff, Nat.reduceEqDiff, Nat.reduceBEq, Nat.reduceBNe, reduceIte, reduceCtorEq, Int.reduceToNat, Int.reduceLT, Int.reduceLE, Int.reduceEq, Int.reduceNe, Int.reduceNeg, ustrA, ti3, ti9, ti29, ti31, ti69, ti161, ca57, ca112, ca114, ca117, ca145, ca166, cf, Tryz.results115, hi, hj, hg, enc_length, enc_take, enc_drop, frzL_enc, enc_closed, Option.map_some, decide_eq_true k1]
        refine ⟨by simp, ?_⟩
        refine callK_intro (by simp only [zW, zX, zD, builtinA, isLeaf, const1, Nat.reduceAdd, Nat.reduceMul, Nat.reduceSub, Nat.reduceLT, Nat.reduceLeDiff, Nat.reduceEqDiff, Nat.reduceBEq, Nat.reduceBNe, reduceIte, reduceCtorEq, Int.reduceToNat, Int.reduceLT, Int.reduceLE, Int.reduceEq, Int.reduceNe, Int.reduceNeg, ustrA, hi, hj, hg]; rfl) (spec_of bs (p + 1) [[], [116], [84], [116, 117], [195, 169]] i _ (by simp; omega) (hgA _ _) (by omega) (by simp)) ?_ rfl
        rintro v A' ⟨s, rfl, hs, rfl⟩
        simp only [zW, zX, zD, builtinA, isLeaf, const1, Nat.reduceAdd, Nat.reduceMul, Nat.reduceSub, Nat.reduceLT, Nat.reduceLeDiff, Nat.reduceEqDiff, Nat.reduceBEq, Nat.reduceBNe, reduceIte, reduceCtorEq, Int.reduceToNat, Int.reduceLT, Int.reduceLE, Int.reduceEq, Int.reduceNe, Int.reduceNeg, ustrA, ti3, ti9, ti29, ti31, ti69, ti161, ca57, ca112, ca114, ca117, ca145, ca166, cf, Tryz.results115, hi, hj, hg, enc_length, enc_take, enc_drop, frzL_enc, enc_closed, Option.map_some]
        refine ⟨outer_set A _ i _ (rd_closed _ _ _), .mk k m s ks, p + 1 + 1, by rw [enc_mk], ?_, by omega, by omega, rfl⟩
        have hsl : s.length ≤ 2 := by simp at hs; rcases hs with rfl | rfl | rfl | rfl | rfl <;> simp
        simp only [sz] at hτ ⊢; omega
      · simp only [zW, zX, zD, builtinA, isLeaf, const1, Nat.reduceAdd, Nat.reduceMul, Nat.reduceSub, Nat.reduceLT, Nat.reduceLeDiff, Nat.reduceEqDiff, Nat.reduceBEq, Nat.reduceBNe, reduceIte, reduceCtorEq, Int.reduceToNat, Int.reduceLT, Int.reduceLE, Int.reduceEq, Int.reduceNe, Int.reduceNeg, ustrA, ti3, ti9, ti29, ti31, ti69, ti161, ca57, ca112, ca114, ca117, ca145, ca166, cf, Tryz.results115, hi, hj, hg, enc_length, enc_take, enc_drop, frzL_enc, enc_closed, Option.map_some, decide_eq_false k1]
        by_cases k2 : j1 = 2
        · simp only [zW, zX, zD, builtinA, isLeaf, const1, Nat.reduceAdd, Nat.reduceMul, Nat.reduceSub, Nat.reduceLT, Nat.reduceLeDiff, Nat.reduceEqDiff, Nat.reduceBEq, Nat.reduceBNe, reduceIte, reduceCtorEq, Int.reduceToNat, Int.reduceLT, Int.reduceLE, Int.reduceEq, Int.reduceNe, Int.reduceNeg, ustrA, ti3, ti9, ti29, ti31, ti69, ti161, ca57, ca112, ca114, ca117, ca145, ca166, cf, Tryz.results115, hi, hj, hg, enc_length, enc_take, enc_drop, frzL_enc, enc_closed, Option.map_some, decide_eq_true k2]
          refine ⟨by simp, ?_⟩
          refine callK_intro (by simp only [zW, zX, zD, builtinA, isLeaf, const1, Nat.reduceAdd, Nat.reduceMul, Nat.reduceSub, Nat.reduceLT, Nat.reduceLeDiff, Nat.reduceEqDiff, Nat.reduceBEq, Nat.reduceBNe, reduceIte, reduceCtorEq, Int.reduceToNat, Int.reduceLT, Int.reduceLE, Int.reduceEq, Int.reduceNe, Int.reduceNeg, ustrA, hi, hj, hg]; rfl) (spec_of bs (p + 1) [[65], [97], [73], [65, 66]] i _ (by simp; omega) (hgA _ _) (by omega) (by simp)) ?_ rfl
          rintro v A' ⟨s, rfl, hs, rfl⟩
          simp only [zW, zX, zD, builtinA, isLeaf, const1, Nat.reduceAdd, Nat.reduceMul, Nat.reduceSub, Nat.reduceLT, Nat.reduceLeDiff, Nat.reduceEqDiff, Nat.reduceBEq, Nat.reduceBNe, reduceIte, reduceCtorEq, Int.reduceToNat, Int.reduceLT, Int.reduceLE, Int.reduceEq, Int.reduceNe, Int.reduceNeg, ustrA, ti3, ti9, ti29, ti31, ti69, ti161, ca57, ca112, ca114, ca117, ca145, ca166, cf, Tryz.results115, hi, hj, hg, enc_length, enc_take, enc_drop, frzL_enc, enc_closed, Option.map_some]
          refine ⟨outer_set A _ i _ (rd_closed _ _ _), .mk k s n ks, p + 1 + 1, by rw [enc_mk], ?_, by omega, by omega, rfl⟩
          have hsl : s.length ≤ 2 := by simp at hs; rcases hs with rfl | rfl | rfl | rfl <;> simp
          simp only [sz] at hτ ⊢; omega
        · simp only [zW, zX, zD, builtinA, isLeaf, const1, Nat.reduceAdd, Nat.reduceMul, Nat.reduceSub, Nat.reduceLT, Nat.reduceLeDiff, Nat.reduceEqDiff, Nat.reduceBEq, Nat.reduceBNe, reduceIte, reduceCtorEq, Int.reduceToNat, Int.reduceLT, Int.reduceLE, Int.reduceEq, Int.reduceNe, Int.reduceNeg, ustrA, ti3, ti9, ti29, ti31, ti69, ti161, ca57, ca112, ca114, ca117, ca145, ca166, cf, Tryz.results115, hi, hj, hg, enc_length, enc_take, enc_drop, frzL_enc, enc_closed, Option.map_some, decide_eq_false k2]
          by_cases k3 : j1 = 3
          · simp only [decide_eq_true k3, CondK_true]
            simp only [wpc_skip, AThen_normal, wpc_block, wpc_seq, wpc_drawn]
            refine .inr (drawE_intro [(false, 0, 2), (false, 0, 2), (true, 0, 0), (true, 1, 1), (true, 2, 2), (false, 3, 3), (true, 3, 3)] [A.set i (Rd bs (p + 1)) ++ (.cells (enc (.mk k m n ks)) :: .cells [.int .i64 0, .str [], .str [], .nils] :: (B ++ [.cells [.int .i64 k, .str m, .str n, .own (A.length + (j + 2))]])), A.set i (Rd bs (p + 1)) ++ (.cells (enc (.mk k m n ks)) :: .cells [.int .i64 0, .str [], .str [], .nils] :: (B ++ [.cells [.int .i64 k, .str m, .str n, .own (A.length + (j + 2))]])), A.set i (Rd bs (p + 1)) ++ (.cells (enc (.mk k m n ks)) :: .cells [.int .i64 0, .str [], .str [], .nils] :: (B ++ [.cells [.int .i64 k, .str m, .str n, .own (A.length + (j + 2))], .row 4 [enc (toTy .num)] 0])), A.set i (Rd bs (p + 1)) ++ (.cells (enc (.mk k m n ks)) :: .cells [.int .i64 0, .str [], .str [], .nils] :: (B.set j .dead ++ [.cells [.int .i64 k, .str m, .str n, .own (A.length + (j + 2))], .row 4 [enc (toTy .num)] 0, .row 4 (encs ks ++ [enc (toTy .num)]) 0])), A.set i (Rd bs (p + 1)) ++ (.cells (enc (.mk k m n ks)) :: .cells [.int .i64 0, .str [], .str [], .nils] :: (B.set j .dead ++ [.cells [.int .i64 k, .str m, .str n, .own (A.length + (B.length + 1 + 1 + 1 + 1))], .row 4 [enc (toTy .num)] 0, .row 4 (encs ks ++ [enc (toTy .num)]) 0]))] 4 rfl (by kernel_rfl) (by kernel_rfl) (by kernel_rfl) (by kernel_rfl) (by kernel_rfl) (by kernel_rfl) ?_)
            simp only [zW, zX, zD, builtinA, isLeaf, const1, Nat.reduceAdd, Nat.reduceMul, Nat.reduceSub, Nat.reduceLT, Nat.reduceLeDiff, Nat.reduceEqDiff, Nat.reduceBEq, Nat.reduceBNe, reduceIte, reduceCtorEq, Int.reduceToNat, Int.reduceLT, Int.reduceLE, Int.reduceEq, Int.reduceNe, Int.reduceNeg, ustrA, ti3, ti9, ti29, ti31, ti69, ti161, ca57, ca112, ca114, ca117, ca145, ca166, cf, Tryz.results115, hi, hj, hg, enc_length, enc_take, enc_drop, frzL_enc, enc_closed, Option.map_some, enc_mk]
            refine callE_intro (by simp only [zW, zX, zD, builtinA, isLeaf, const1, Nat.reduceAdd, Nat.reduceMul, Nat.reduceSub, Nat.reduceLT, Nat.reduceLeDiff, Nat.reduceEqDiff, Nat.reduceBEq, Nat.reduceBNe, reduceIte, reduceCtorEq, Int.reduceToNat, Int.reduceLT, Int.reduceLE, Int.reduceEq, Int.reduceNe, Int.reduceNeg, ustrA, enc_length, enc_take, enc_drop, frzL_enc, enc_closed, Option.map_some] <;> rfl) (spec_l1Num _) ?_ rfl rfl
            simp only [zW, zX, zD, builtinA, isLeaf, const1, Nat.reduceAdd, Nat.reduceMul, Nat.reduceSub, Nat.reduceLT, Nat.reduceLeDiff, Nat.reduceEqDiff, Nat.reduceBEq, Nat.reduceBNe, reduceIte, reduceCtorEq, Int.reduceToNat, Int.reduceLT, Int.reduceLE, Int.reduceEq, Int.reduceNe, Int.reduceNeg, ustrA, ti3, ti9, ti29, ti31, ti69, ti161, ca57, ca112, ca114, ca117, ca145, ca166, cf, Tryz.results115, hi, hj, hg, enc_length, enc_take, enc_drop, frzL_enc, enc_closed, Option.map_some]
            have hsn : encs ks ++ [enc (toTy .num)] = encs (ks ++ [toTy .num]) := by rw [encs_map, encs_map]; simp
            rw [hsn]
            refine ⟨fun v hv => enc_leaf _ v hv, ⟨fun r hr => by rw [List.mem_singleton.1 hr, enc_length], by rw [encs_length]; simp only [sz] at hτ; omega⟩, outer_set A _ i _ (rd_closed _ _ _), .mk k m n (ks ++ [toTy .num]), p + 1, by rw [enc_mk], ?_, by omega, by omega, rfl⟩
            simp only [sz, sz_snoc, toTy, szs, List.length_append, List.length_singleton, List.length_nil]; omega
          · simp only [zW, zX, zD, builtinA, isLeaf, const1, Nat.reduceAdd, Nat.reduceMul, Nat.reduceSub, Nat.reduceLT, Nat.reduceLeDiff, Nat.reduceEqDiff, Nat.reduceBEq, Nat.reduceBNe, reduceIte, reduceCtorEq, Int.reduceToNat, Int.reduceLT, Int.reduceLE, Int.reduceEq, Int.reduceNe, Int.reduceNeg, ustrA, ti3, ti9, ti29, ti31, ti69, ti161, ca57, ca112, ca114, ca117, ca145, ca166, cf, Tryz.results115, hi, hj, hg, enc_length, enc_take, enc_drop, frzL_enc, enc_closed, Option.map_some, decide_eq_false k3]
            by_cases k4 : j1 = 4
            · simp only [zW, zX, zD, builtinA, isLeaf, const1, Nat.reduceAdd, Nat.reduceMul, Nat.reduceSub, Nat.reduceLT, Nat.reduceLeDiff, Nat.reduceEqDiff, Nat.reduceBEq, Nat.reduceBNe, reduceIte, reduceCtorEq, Int.reduceToNat, Int.reduceLT, Int.reduceLE, Int.reduceEq, Int.reduceNe, Int.reduceNeg, ustrA, ti3, ti9, ti29, ti31, ti69, ti161, ca57, ca112, ca114, ca117, ca145, ca166, cf, Tryz.results115, hi, hj, hg, enc_length, enc_take, enc_drop, frzL_enc, enc_closed, Option.map_some, decide_eq_true k4]
              refine aloop_intro [4, 5, 6] (fun e A' => ∃ r, r ≤ 8 ∧ e = [(4, .ptr (A.length + 1) 0), (5, .ptr (A.length + (B.length + 1 + 1)) 0), (6, .int .i64 (r : Nat))] ∧ ((r = 0 ∧ A' = A.set i (Rd bs (p + 1)) ++ (.cells (enc (.mk k m n ks)) :: .cells [.int .i64 0, .str [], .str [], .nils] :: (B ++ [.cells [.int .i64 k, .str m, .str n, .own (A.length + (j + 2))]]))) ∨ (∃ τr, A' = A.set i (Rd bs (p + 1)) ++ (.cells (enc (.mk k m n ks)) :: .cells [.int .i64 0, .str [], .str [], .nils] :: (B.set j (.row 4 (encs ks) ks.length) ++ [.cells (enc τr)])) ∧ sz τr ≤ sz (.mk k m n ks) + 2 * r))) (fun e _ => 8 - (intOf (Abs.look 6 e)).toNat) ?_ ?_
              · simp only [zW, zX, zD, builtinA, isLeaf, const1, Nat.reduceAdd, Nat.reduceMul, Nat.reduceSub, Nat.reduceLT, Nat.reduceLeDiff, Nat.reduceEqDiff, Nat.reduceBEq, Nat.reduceBNe, reduceIte, reduceCtorEq, Int.reduceToNat, Int.reduceLT, Int.reduceLE, Int.reduceEq, Int.reduceNe, Int.reduceNeg, ustrA, ti3, ti9, ti29, ti31, ti69, ti161, ca57, ca112, ca114, ca117, ca145, ca166, cf, Tryz.results115]
                exact ⟨0, by omega, rfl, .inl rfl⟩
              · rintro e A' ⟨r, hr, rfl, hx⟩
                simp only [zW, zX, zD, builtinA, isLeaf, const1, Nat.reduceAdd, Nat.reduceMul, Nat.reduceSub, Nat.reduceLT, Nat.reduceLeDiff, Nat.reduceEqDiff, Nat.reduceBEq, Nat.reduceBNe, reduceIte, reduceCtorEq, Int.reduceToNat, Int.reduceLT, Int.reduceLE, Int.reduceEq, Int.reduceNe, Int.reduceNeg, ustrA, ti3, ti9, ti29, ti31, ti69, ti161, ca57, ca112, ca114, ca117, ca145, ca166, cf, Tryz.results115, hi, hj, hg]
                have hi1 : IntKind.i64.wrap ((r : Int) + 1) = ((r + 1 : Nat) : Int) := by rw [wrap64 (by omega) (by omega)]; rfl
                refine condK_intro (fun h2 => ?_) (fun h2 => ?_)
                · have hr2 : r < 8 := by simp at h2; omega
                  rcases hx with ⟨rfl, rfl⟩ | ⟨τr, rfl, hτr⟩
                  · simp only [wpc_skip, AThen_normal, wpc_block, wpc_seq, wpc_drawn]
                    refine .inr (drawE_intro [(false, 0, 1), (true, 0, 0), (true, 1, 1), (true, 2, 2)] [A.set i (Rd bs (p + 1)) ++ (.cells (enc (.mk k m n ks)) :: .cells [.int .i64 0, .str [], .str [], .nils] :: (B ++ [.cells [.int .i64 k, .str m, .str n, .own (A.length + (j + 2))]])), A.set i (Rd bs (p + 1)) ++ (.cells (enc (.mk k m n ks)) :: .cells [.int .i64 0, .str [], .str [], .nils] :: (B ++ [.cells [.int .i64 k, .str m, .str n, .own (A.length + (j + 2))]])), A.set i (Rd bs (p + 1)) ++ (.cells (enc (.mk k m n ks)) :: .cells [.int .i64 0, .str [], .str [], .nils] :: (B.set j (.row 4 (encs ks) ks.length) ++ [.cells [.int .i64 k, .str m, .str n, .own (A.length + (j + 2))]])), A.set i (Rd bs (p + 1)) ++ (.cells (enc (.mk k m n ks)) :: .cells [.int .i64 0, .str [], .str [], .nils] :: (B.set j (.row 4 (encs ks) ks.length) ++ [.cells (enc (.mk 2 [] [] [.mk k m n ks, toTy .num]))]))] 3 rfl (by kernel_rfl) (by kernel_rfl) (by kernel_rfl) (by kernel_rfl) (by kernel_rfl) (by kernel_rfl) ?_)
                    simp only [zW, zX, zD, builtinA, isLeaf, const1, Nat.reduceAdd, Nat.reduceMul, Nat.reduceSub, Nat.reduceLT, Nat.reduceLeDiff, Nat.reduceEqDiff, Nat.reduceBEq, Nat.reduceBNe, reduceIte, reduceCtorEq, Int.reduceToNat, Int.reduceLT, Int.reduceLE, Int.reduceEq, Int.reduceNe, Int.reduceNeg, ustrA, ti3, ti9, ti29, ti31, ti69, ti161, ca57, ca112, ca114, ca117, ca145, ca166, cf, Tryz.results115, hi, hj, hg, enc_length, enc_take, enc_drop, frzL_enc, enc_closed, Option.map_some]
                    refine callE_intro (by simp only [zW, zX, zD, builtinA, isLeaf, const1, Nat.reduceAdd, Nat.reduceMul, Nat.reduceSub, Nat.reduceLT, Nat.reduceLeDiff, Nat.reduceEqDiff, Nat.reduceBEq, Nat.reduceBNe, reduceIte, reduceCtorEq, Int.reduceToNat, Int.reduceLT, Int.reduceLE, Int.reduceEq, Int.reduceNe, Int.reduceNeg, ustrA, enc_length, enc_take, enc_drop, frzL_enc, enc_closed, Option.map_some] <;> rfl) (spec_l1Num _) ?_ rfl rfl
                    simp only [zW, zX, zD, builtinA, isLeaf, const1, Nat.reduceAdd, Nat.reduceMul, Nat.reduceSub, Nat.reduceLT, Nat.reduceLeDiff, Nat.reduceEqDiff, Nat.reduceBEq, Nat.reduceBNe, reduceIte, reduceCtorEq, Int.reduceToNat, Int.reduceLT, Int.reduceLE, Int.reduceEq, Int.reduceNe, Int.reduceNeg, ustrA, ti3, ti9, ti29, ti31, ti69, ti161, ca57, ca112, ca114, ca117, ca145, ca166, cf, Tryz.results115, hi, hj, hg, enc_length, enc_take, enc_drop, frzL_enc, enc_closed, Option.map_some]
                    refine callE_intro (by simp only [zW, zX, zD, builtinA, isLeaf, const1, Nat.reduceAdd, Nat.reduceMul, Nat.reduceSub, Nat.reduceLT, Nat.reduceLeDiff, Nat.reduceEqDiff, Nat.reduceBEq, Nat.reduceBNe, reduceIte, reduceCtorEq, Int.reduceToNat, Int.reduceLT, Int.reduceLE, Int.reduceEq, Int.reduceNe, Int.reduceNeg, ustrA, hi, hj, hg, enc_length, enc_take, enc_drop, frzL_enc, enc_closed, Option.map_some, enc_mk, encs_nil, encs_length] <;> rfl) (spec_l1Fun (.mk k m n ks) (toTy .num) _) ?_ rfl rfl
                    simp only [zW, zX, zD, builtinA, isLeaf, const1, Nat.reduceAdd, Nat.reduceMul, Nat.reduceSub, Nat.reduceLT, Nat.reduceLeDiff, Nat.reduceEqDiff, Nat.reduceBEq, Nat.reduceBNe, reduceIte, reduceCtorEq, Int.reduceToNat, Int.reduceLT, Int.reduceLE, Int.reduceEq, Int.reduceNe, Int.reduceNeg, ustrA, ti3, ti9, ti29, ti31, ti69, ti161, ca57, ca112, ca114, ca117, ca145, ca166, cf, Tryz.results115, hi, hj, hg, hi1, enc_length, enc_take, enc_drop, frzL_enc, enc_closed, Option.map_some, LoopK_eq]
                    refine ⟨⟨0 + 1, by omega, rfl, .inr ⟨_, rfl, ?_⟩⟩, ?_⟩
                    · simp only [sz, toTy, szs, List.length_cons, List.length_nil]; omega
                    · simp only [intOf]; omega
                  · simp only [wpc_skip, AThen_normal, wpc_block, wpc_seq, wpc_drawn]
                    refine .inr (drawE_intro [(false, 0, 1), (true, 0, 0), (true, 1, 1), (true, 2, 2)] [A.set i (Rd bs (p + 1)) ++ (.cells (enc (.mk k m n ks)) :: .cells [.int .i64 0, .str [], .str [], .nils] :: (B.set j (.row 4 (encs ks) ks.length) ++ [.cells (enc τr)])), A.set i (Rd bs (p + 1)) ++ (.cells (enc (.mk k m n ks)) :: .cells [.int .i64 0, .str [], .str [], .nils] :: (B.set j (.row 4 (encs ks) ks.length) ++ [.cells (enc τr)])), A.set i (Rd bs (p + 1)) ++ (.cells (enc (.mk k m n ks)) :: .cells [.int .i64 0, .str [], .str [], .nils] :: (B.set j (.row 4 (encs ks) ks.length) ++ [.cells (enc τr)])), A.set i (Rd bs (p + 1)) ++ (.cells (enc (.mk k m n ks)) :: .cells [.int .i64 0, .str [], .str [], .nils] :: (B.set j (.row 4 (encs ks) ks.length) ++ [.cells (enc (.mk 2 [] [] [τr, toTy .num]))]))] 3 rfl (by kernel_rfl) (by kernel_rfl) (by kernel_rfl) (by kernel_rfl) (by kernel_rfl) (by kernel_rfl) ?_)
                    simp only [zW, zX, zD, builtinA, isLeaf, const1, Nat.reduceAdd, Nat.reduceMul, Nat.reduceSub, Nat.reduceLT, Nat.reduceLeDiff, Nat.reduceEqDiff, Nat.reduceBEq, Nat.reduceBNe, reduceIte, reduceCtorEq, Int.reduceToNat, Int.reduceLT, Int.reduceLE, Int.reduceEq, Int.reduceNe, Int.reduceNeg, ustrA, ti3, ti9, ti29, ti31, ti69, ti161, ca57, ca112, ca114, ca117, ca145, ca166, cf, Tryz.results115, hi, hj, hg, enc_length, enc_take, enc_drop, frzL_enc, enc_closed, Option.map_some]
                    refine callE_intro (by simp only [zW, zX, zD, builtinA, isLeaf, const1, Nat.reduceAdd, Nat.reduceMul, Nat.reduceSub, Nat.reduceLT, Nat.reduceLeDiff, Nat.reduceEqDiff, Nat.reduceBEq, Nat.reduceBNe, reduceIte, reduceCtorEq, Int.reduceToNat, Int.reduceLT, Int.reduceLE, Int.reduceEq, Int.reduceNe, Int.reduceNeg, ustrA, enc_length, enc_take, enc_drop, frzL_enc, enc_closed, Option.map_some] <;> rfl) (spec_l1Num _) ?_ rfl rfl
                    simp only [zW, zX, zD, builtinA, isLeaf, const1, Nat.reduceAdd, Nat.reduceMul, Nat.reduceSub, Nat.reduceLT, Nat.reduceLeDiff, Nat.reduceEqDiff, Nat.reduceBEq, Nat.reduceBNe, reduceIte, reduceCtorEq, Int.reduceToNat, Int.reduceLT, Int.reduceLE, Int.reduceEq, Int.reduceNe, Int.reduceNeg, ustrA, ti3, ti9, ti29, ti31, ti69, ti161, ca57, ca112, ca114, ca117, ca145, ca166, cf, Tryz.results115, hi, hj, hg, enc_length, enc_take, enc_drop, frzL_enc, enc_closed, Option.map_some]
                    refine callE_intro (by simp only [zW, zX, zD, builtinA, isLeaf, const1, Nat.reduceAdd, Nat.reduceMul, Nat.reduceSub, Nat.reduceLT, Nat.reduceLeDiff, Nat.reduceEqDiff, Nat.reduceBEq, Nat.reduceBNe, reduceIte, reduceCtorEq, Int.reduceToNat, Int.reduceLT, Int.reduceLE, Int.reduceEq, Int.reduceNe, Int.reduceNeg, ustrA, hi, hj, hg, enc_length, enc_take, enc_drop, frzL_enc, enc_closed, Option.map_some] <;> rfl) (spec_l1Fun τr (toTy .num) _) ?_ rfl rfl
                    simp only [zW, zX, zD, builtinA, isLeaf, const1, Nat.reduceAdd, Nat.reduceMul, Nat.reduceSub, Nat.reduceLT, Nat.reduceLeDiff, Nat.reduceEqDiff, Nat.reduceBEq, Nat.reduceBNe, reduceIte, reduceCtorEq, Int.reduceToNat, Int.reduceLT, Int.reduceLE, Int.reduceEq, Int.reduceNe, Int.reduceNeg, ustrA, ti3, ti9, ti29, ti31, ti69, ti161, ca57, ca112, ca114, ca117, ca145, ca166, cf, Tryz.results115, hi, hj, hg, hi1, enc_length, enc_take, enc_drop, frzL_enc, enc_closed, Option.map_some, LoopK_eq]
                    refine ⟨⟨r + 1, by omega, rfl, .inr ⟨_, rfl, ?_⟩⟩, ?_⟩
                    · simp only [sz, toTy, szs, List.length_cons, List.length_nil] at hτr ⊢; omega
                    · simp only [intOf]; omega
                · have hr8 : r = 8 := by simp at h2; omega
                  subst hr8
                  rcases hx with ⟨h, _⟩ | ⟨τr, rfl, hτr⟩
                  · cases h
                  · simp only [zW, zX, zD, builtinA, isLeaf, const1, Nat.reduceAdd, Nat.reduceMul, Nat.reduceSub, Nat.reduceLT, Nat.reduceLeDiff, Nat.reduceEqDiff, Nat.reduceBEq, Nat.reduceBNe, reduceIte, reduceCtorEq, Int.reduceToNat, Int.reduceLT, Int.reduceLE, Int.reduceEq, Int.reduceNe, Int.reduceNeg, ustrA, ti3, ti9, ti29, ti31, ti69, ti161, ca57, ca112, ca114, ca117, ca145, ca166, cf, Tryz.results115, hi, hj, hg, enc_length, enc_take, enc_drop, frzL_enc, enc_closed, Option.map_some]
                    exact ⟨outer_set A _ i _ (rd_closed _ _ _), τr, p + 1, rfl, by omega, by omega, by omega, rfl⟩
            · simp only [zW, zX, zD, builtinA, isLeaf, const1, Nat.reduceAdd, Nat.reduceMul, Nat.reduceSub, Nat.reduceLT, Nat.reduceLeDiff, Nat.reduceEqDiff, Nat.reduceBEq, Nat.reduceBNe, reduceIte, reduceCtorEq, Int.reduceToNat, Int.reduceLT, Int.reduceLE, Int.reduceEq, Int.reduceNe, Int.reduceNeg, ustrA, ti3, ti9, ti29, ti31, ti69, ti161, ca57, ca112, ca114, ca117, ca145, ca166, cf, Tryz.results115, hi, hj, hg, enc_length, enc_take, enc_drop, frzL_enc, enc_closed, Option.map_some, decide_eq_false k4]
              refine ⟨outer_set A _ i _ (rd_closed _ _ _), .mk k m n ks, p + 1, by rw [enc_mk], ?_, by omega, by omega, rfl⟩
              omega
end Go.Proofs.YtpoknljchikklaaGreat

/- Types that are small enough. -/
set_option linter.unusedVariables false
namespace Go.Proofs.YtpoknljchikklaaGreat
mutual
theorem okSz : ∀ t, sz t ≤ 1048576 → Ty.Ok t
  | .mk k m n ks, h => by
    rw [sz] at h
    exact .mk (by omega) (by omega) (by omega) (oksSz ks (by omega))
theorem oksSz : ∀ l, szs l ≤ 1048576 → ∀ t ∈ l, Ty.Ok t
  | [], _ => by simp
  | t :: l, h => by
    rw [szs] at h
    intro u hu
    rcases List.mem_cons.1 hu with e | hu
    · rw [e]; exact okSz t (by omega)
    · exact oksSz l (by omega) u hu
end
end Go.Proofs.YtpoknljchikklaaGreat

/- Bindings as data, and what the laws' helpers do with lists of them. -/
set_option linter.unusedVariables false
set_option linter.unusedSimpArgs false
namespace Go.Proofs.YtpoknljchikklaaGreat
open Go.Abs

theorem bT4 (t : Ty) : enc t = [.int .i64 t.kind, .str t.mod, .str t.name, .slice (encs t.kids)] := by cases t; rw [enc]; rfl
structure BdI where
  mod : List UInt8
  name : List UInt8
  typ : Ty
def bd0 : BdI := ⟨[], [], ty0⟩
def bE (x : BdI) : List AV := [.str x.mod, .str x.name, .int .i64 x.typ.kind, .str x.typ.mod, .str x.typ.name, .slice (encs x.typ.kids)]
def bEs (l : List BdI) : List (List AV) := l.map bE
def BdI.Ok (x : BdI) : Prop := x.mod.length < 2 ^ 63 ∧ x.name.length < 2 ^ 63 ∧ x.typ.Ok
def zbd : List AV := [.str [], .str [], .int .i64 0, .str [], .str [], .slice []]
theorem bE_leaf (x : BdI) : ∀ v ∈ bE x, isLeaf v = true := by simp [bE, isLeaf]
theorem bEs_length (l : List BdI) : (bEs l).length = l.length := by simp [bEs]
theorem bEs_getD {l : List BdI} {i : Nat} (h : i < l.length) : (bEs l).getD i [] = bE (l.getD i bd0) := by simp [bEs, List.getD, h]
end Go.Proofs.YtpoknljchikklaaGreat

/- Types that are owned: their lists of kids lie in boxes. -/
set_option linter.unusedVariables false
set_option linter.unusedSimpArgs false
namespace Go.Proofs.YtpoknljchikklaaGreat
open Go.Abs

mutual
/-- the cells of a type whose kids lie in the boxes of S -/
def OwnT (A : List Box) : Ty → List AV → List Nat → Prop
  | .mk k m n ks, r, S => ∃ v, r = [.int .i64 k, .str m, .str n, v] ∧ ((v = .nils ∧ ks = [] ∧ S = []) ∨ (v = .slice [] ∧ ks = [] ∧ S = []) ∨ ∃ i rows S', v = .own i ∧ S = i :: S' ∧ A.getD i .dead = .gr none 4 rows ∧ OwnR A ks rows S')
def OwnR (A : List Box) : List Ty → List (List AV) → List Nat → Prop
  | [], rows, S => rows = [] ∧ S = []
  | t :: ks, rows, S => ∃ r rows' S1 S2, rows = r :: rows' ∧ S = S1 ++ S2 ∧ OwnT A t r S1 ∧ OwnR A ks rows' S2
end
/-- a list of types that is owned -/
def OwnK (A : List Box) (ks : List Ty) (v : AV) (S : List Nat) : Prop :=
  (v = .nils ∧ ks = [] ∧ S = []) ∨ (v = .slice [] ∧ ks = [] ∧ S = []) ∨ ∃ i rows S', v = .own i ∧ S = i :: S' ∧ A.getD i .dead = .gr none 4 rows ∧ OwnR A ks rows S'

theorem ownT_mk {A : List Box} {k : Int} {m n : List UInt8} {ks : List Ty} {r : List AV} {S : List Nat} : OwnT A (.mk k m n ks) r S ↔ ∃ v, r = [.int .i64 k, .str m, .str n, v] ∧ OwnK A ks v S := by
  rw [OwnT]; rfl

mutual
theorem OwnT.frame {A A' : List Box} : ∀ {t : Ty} {r : List AV} {S : List Nat}, OwnT A t r S → (∀ i ∈ S, A'.getD i .dead = A.getD i .dead) → OwnT A' t r S
  | .mk k m n ks, r, S, h, hf => by
    rw [OwnT] at h ⊢
    obtain ⟨v, hr, h⟩ := h
    refine ⟨v, hr, ?_⟩
    rcases h with h | h | ⟨i, rows, S', h1, h2, h3, h4⟩
    · exact .inl h
    · exact .inr (.inl h)
    · subst h2
      exact .inr (.inr ⟨i, rows, S', h1, rfl, by rw [hf i (by simp)]; exact h3, OwnR.frame h4 fun j hj => hf j (by simp [hj])⟩)
theorem OwnR.frame {A A' : List Box} : ∀ {ks : List Ty} {rows : List (List AV)} {S : List Nat}, OwnR A ks rows S → (∀ i ∈ S, A'.getD i .dead = A.getD i .dead) → OwnR A' ks rows S
  | [], rows, S, h, hf => by rw [OwnR] at h ⊢; exact h
  | t :: ks, rows, S, h, hf => by
    rw [OwnR] at h ⊢
    obtain ⟨r, rows', S1, S2, h1, h2, h3, h4⟩ := h
    subst h2
    exact ⟨r, rows', S1, S2, h1, rfl, OwnT.frame h3 fun j hj => hf j (by simp [hj]), OwnR.frame h4 fun j hj => hf j (by simp [hj])⟩
end
theorem OwnK.frame {A A' : List Box} {ks : List Ty} {v : AV} {S : List Nat} (h : OwnK A ks v S) (hf : ∀ i ∈ S, A'.getD i .dead = A.getD i .dead) : OwnK A' ks v S := by
  rcases h with h | h | ⟨i, rows, S', h1, h2, h3, h4⟩
  · exact .inl h
  · exact .inr (.inl h)
  · subst h2
    exact .inr (.inr ⟨i, rows, S', h1, rfl, by rw [hf i (by simp)]; exact h3, h4.frame fun j hj => hf j (by simp [hj])⟩)

theorem OwnR.length {A : List Box} : ∀ {ks : List Ty} {rows : List (List AV)} {S : List Nat}, OwnR A ks rows S → rows.length = ks.length
  | [], rows, S, h => by rw [OwnR] at h; rw [h.1]; rfl
  | t :: ks, rows, S, h => by
    rw [OwnR] at h
    obtain ⟨r, rows', S1, S2, h1, h2, h3, h4⟩ := h
    subst h1
    simp [OwnR.length h4]

theorem live_lt {A : List Box} {i : Nat} {b : Box} (h : A.getD i .dead = b) (hb : b ≠ .dead) : i < A.length := by
  rcases Nat.lt_or_ge i A.length with hh | hh
  · exact hh
  · simp [List.getD, Nat.not_lt.2 hh] at h; exact absurd h.symm hb

mutual
theorem OwnT.low {A : List Box} : ∀ {t : Ty} {r : List AV} {S : List Nat}, OwnT A t r S → ∀ i ∈ S, i < A.length
  | .mk k m n ks, r, S, h => by
    rw [OwnT] at h
    obtain ⟨v, hr, h⟩ := h
    rcases h with ⟨_, _, rfl⟩ | ⟨_, _, rfl⟩ | ⟨i, rows, S', h1, rfl, h3, h4⟩
    · simp
    · simp
    · intro j hj
      rcases List.mem_cons.1 hj with rfl | hj
      · exact live_lt h3 (by simp)
      · exact OwnR.low h4 j hj
theorem OwnR.low {A : List Box} : ∀ {ks : List Ty} {rows : List (List AV)} {S : List Nat}, OwnR A ks rows S → ∀ i ∈ S, i < A.length
  | [], rows, S, h => by rw [OwnR] at h; rw [h.2]; simp
  | t :: ks, rows, S, h => by
    rw [OwnR] at h
    obtain ⟨r, rows', S1, S2, h1, rfl, h3, h4⟩ := h
    intro j hj
    rcases List.mem_append.1 hj with hj | hj
    · exact OwnT.low h3 j hj
    · exact OwnR.low h4 j hj
end
theorem OwnK.low {A : List Box} {ks : List Ty} {v : AV} {S : List Nat} (h : OwnK A ks v S) : ∀ i ∈ S, i < A.length := by
  rcases h with ⟨_, _, rfl⟩ | ⟨_, _, rfl⟩ | ⟨i, rows, S', h1, rfl, h3, h4⟩
  · simp
  · simp
  · intro j hj
    rcases List.mem_cons.1 hj with rfl | hj
    · exact live_lt h3 (by simp)
    · exact h4.low j hj

/-! ### as they are read -/
theorem enc4 (k : Int) (m n : List UInt8) (ks : List Ty) : enc (.mk k m n ks) = [.int .i64 k, .str m, .str n, .slice (encs ks)] := by rw [enc]

theorem rows_view {A : List Box} {i : Nat} {rows : List (List AV)} {ks : List Ty} (h : A.getD i .dead = .gr none 4 rows) (hl : rows.length = ks.length)
    (hv : ∀ k, k < rows.length → ∀ j, j < 4 → View A ((rows.getD k []).getD j .bot) ((enc (ks.getD k ty0)).getD j .bot)) : View A (.own i) (.slice (encs ks)) := by
  refine .gr i 4 none rows (encs ks) h (by rw [encs_length, hl]) (fun r hr => ?_) fun k j hk hj => ?_
  · rw [encs_map] at hr
    obtain ⟨t, _, rfl⟩ := List.mem_map.1 hr
    exact ⟨enc_length t, enc_leaf t⟩
  · unfold Abs.rowAt
    rw [encs_getD (by omega)]
    exact hv k hk j hj

mutual
theorem OwnT.view {A : List Box} : ∀ {t : Ty} {r : List AV} {S : List Nat}, OwnT A t r S → r.length = 4 ∧ ∀ j, j < 4 → View A (r.getD j .bot) ((enc t).getD j .bot)
  | .mk k m n ks, r, S, h => by
    rw [OwnT] at h
    obtain ⟨v, rfl, h⟩ := h
    have hk : View A v (.slice (encs ks)) := by
      rcases h with ⟨rfl, rfl, _⟩ | ⟨rfl, rfl, _⟩ | ⟨i, rows, S', rfl, _, h3, h4⟩
      · exact .nils
      · exact .leaf _ rfl
      · exact rows_view h3 h4.length (OwnR.view h4)
    refine ⟨rfl, fun j hj => ?_⟩
    rw [enc4]
    match j, hj with
    | 0, _ => exact .leaf _ rfl
    | 1, _ => exact .leaf _ rfl
    | 2, _ => exact .leaf _ rfl
    | 3, _ => exact hk
theorem OwnR.view {A : List Box} : ∀ {ks : List Ty} {rows : List (List AV)} {S : List Nat}, OwnR A ks rows S → ∀ k, k < rows.length → ∀ j, j < 4 → View A ((rows.getD k []).getD j .bot) ((enc (ks.getD k ty0)).getD j .bot)
  | [], rows, S, h => by rw [OwnR] at h; rw [h.1]; intro k hk; simp at hk
  | t :: ks, rows, S, h => by
    rw [OwnR] at h
    obtain ⟨r, rows', S1, S2, rfl, h2, h3, h4⟩ := h
    intro k hk j hj
    cases k with
    | zero => exact (OwnT.view h3).2 j hj
    | succ k =>
      have := OwnR.view h4 k (by simpa using hk) j hj
      simpa using this
end
theorem OwnK.view {A : List Box} {ks : List Ty} {v : AV} {S : List Nat} (h : OwnK A ks v S) : View A v (.slice (encs ks)) := by
  rcases h with ⟨rfl, rfl, _⟩ | ⟨rfl, rfl, _⟩ | ⟨i, rows, S', rfl, _, h3, h4⟩
  · exact .nils
  · exact .leaf _ rfl
  · exact rows_view h3 h4.length h4.view
theorem OwnT.viewA {A : List Box} {t : Ty} {r : List AV} {S : List Nat} (h : OwnT A t r S) : View A (.agg r) (.agg (enc t)) := by
  obtain ⟨h1, h2⟩ := h.view
  exact .agg r (enc t) (by rw [enc_length, h1]) fun j hj => h2 j (by omega)
theorem OwnK.viewT {A : List Box} {ks : List Ty} {v : AV} {S : List Nat} (h : OwnK A ks v S) (k : Int) (m n : List UInt8) : View A (.agg [.int .i64 k, .str m, .str n, v]) (.agg (enc (.mk k m n ks))) :=
  OwnT.viewA (S := S) (ownT_mk.2 ⟨v, rfl, h⟩)
end Go.Proofs.YtpoknljchikklaaGreat
