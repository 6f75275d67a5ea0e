/- The model's copies of types; sizes of types. -/
import Derived.Test.YtejbjgmgdbcddaaGreatTypesMeth
import Derived.Test.YtejbjgmgdbcddaaGreatAbsW3
set_option linter.unusedVariables false
set_option linter.unusedSimpArgs false
namespace Go.Proofs.YtejbjgmgdbcddaaGreat
open Go.Abs

theorem sb_closed (t : Ty) (n : Nat) : (enc t).all (closed1 n) = true := by cases t; rw [enc]; rfl
theorem sb_drop (t : Ty) : List.drop 4 (enc t) = [] := by cases t; rw [enc]; rfl

set_option maxRecDepth 100000 in
theorem spec_l1Copy0 (τ : Ty) (hτ : sz τ ≤ 1048576) : ∀ (A : List Box), ACalls Tryz.prog 28 [.agg (enc τ)] A (fun r A' => r = .agg (enc τ) ∧ A' = A) := by
  induction τ using Ty.ind with
  | h k m n ks ih =>
    intro A
    have hks : ks.length ≤ 1048576 := by rw [sz] at hτ; omega
    have hok : ∀ t ∈ ks, sz t ≤ 1048576 := fun t ht => by rw [sz] at hτ; have := szs_mem ht; omega
    rw [enc]
    refine acalls_enter (cf := cf 31 [0, 1, 2, 3, 4, 16]) foll Tryz.func28 Tryz.ntmps28 (by simp [cf]) ?_
    simp only [Tryz.f28, EnterK_some, zW, zX, zD, builtinA, isLeaf, const1, Nat.reduceAdd, Nat.reduceMul, Nat.reduceSub, Nat.reduceLT, Nat.reduceLeDiff, Nat.reduceEqDiff, Nat.reduceBEq, Nat.reduceBNe, reduceIte, reduceCtorEq, Int.reduceToNat, Int.reduceLT, Int.reduceLE, Int.reduceEq, Int.reduceNe, Int.reduceNeg, ustrA, ti3, ti9, ti40, ti42, ca28, cf, Tryz.results28]
    refine aloop_intro [1, 2, 3, 4] (fun e A' => ∃ i B x, i ≤ ks.length ∧ e = [(1, .ptr A.length 0), (2, .ptr (A.length + 1) 0), (3, .ptr (A.length + 2) 0), (4, .int .i64 i)] ∧ A' = A ++ (.cells [.int .i64 k, .str m, .str n, .slice (encs ks)] :: .cells [.int .i64 0, .str [], .str [], .nils] :: .cells [.int .i64 k, .str m, .str n, x] :: B) ∧
      ((i = 0 ∧ x = .nils ∧ B = []) ∨ (∃ j, x = .own (A.length + (j + 3)) ∧ j < B.length ∧ B.getD j .dead = .row 4 (encs (ks.take i)) 0))) (fun e _ => ks.length - (intOf (Abs.look 4 e)).toNat) ?_ ?_
    · simp only [zW, zX, zD, builtinA, isLeaf, const1, Nat.reduceAdd, Nat.reduceMul, Nat.reduceSub, Nat.reduceLT, Nat.reduceLeDiff, Nat.reduceEqDiff, Nat.reduceBEq, Nat.reduceBNe, reduceIte, reduceCtorEq, Int.reduceToNat, Int.reduceLT, Int.reduceLE, Int.reduceEq, Int.reduceNe, Int.reduceNeg, ustrA, ti3, ti9, ti40, ti42, ca28, cf, Tryz.results28]
      exact ⟨0, [], .nils, by omega, rfl, rfl, .inl ⟨rfl, rfl, rfl⟩⟩
    · rintro e A' ⟨i, B, x, hi, rfl, rfl, hx⟩
      simp only [zW, zX, zD, builtinA, isLeaf, const1, Nat.reduceAdd, Nat.reduceMul, Nat.reduceSub, Nat.reduceLT, Nat.reduceLeDiff, Nat.reduceEqDiff, Nat.reduceBEq, Nat.reduceBNe, reduceIte, reduceCtorEq, Int.reduceToNat, Int.reduceLT, Int.reduceLE, Int.reduceEq, Int.reduceNe, Int.reduceNeg, ustrA, ti3, ti9, ti40, ti42, ca28, cf, Tryz.results28, encs_length]
      refine condK_intro (fun h2 => ?_) (fun h2 => ?_)
      · have hi2 : i < ks.length := by simpa using h2
        have he := encs_getD hi2
        have hmm := getD_mem hi2
        have hi1 : IntKind.i64.wrap ((i : Int) + 1) = ((i + 1 : Nat) : Int) := by rw [wrap64 (by omega) (by omega)]; rfl
        rcases hx with ⟨rfl, rfl, rfl⟩ | ⟨j, rfl, hj, hg⟩
        · simp only [wpc_skip, AThen_normal, wpc_block, wpc_seq, wpc_drawn]
          refine .inr (drawE_intro [(false, 0, 2), (false, 0, 2), (false, 0, 0), (false, 0, 0), (false, 0, 0), (false, 0, 0), (false, 0, 0), (true, 0, 0), (true, 1, 1), (true, 2, 2), (false, 3, 3), (true, 3, 3)] [A ++ [.cells [.int .i64 k, .str m, .str n, .slice (encs ks)], .cells [.int .i64 0, .str [], .str [], .nils], .cells [.int .i64 k, .str m, .str n, .nils]], A ++ [.cells [.int .i64 k, .str m, .str n, .slice (encs ks)], .cells [.int .i64 0, .str [], .str [], .nils], .cells [.int .i64 k, .str m, .str n, .nils]], A ++ [.cells [.int .i64 k, .str m, .str n, .slice (encs ks)], .cells [.int .i64 0, .str [], .str [], .nils], .cells [.int .i64 k, .str m, .str n, .nils], .row 4 [enc (ks.getD 0 ty0)] 0], A ++ [.cells [.int .i64 k, .str m, .str n, .slice (encs ks)], .cells [.int .i64 0, .str [], .str [], .nils], .cells [.int .i64 k, .str m, .str n, .nils], .row 4 [enc (ks.getD 0 ty0)] 0, .row 4 [enc (ks.getD 0 ty0)] 0], A ++ [.cells [.int .i64 k, .str m, .str n, .slice (encs ks)], .cells [.int .i64 0, .str [], .str [], .nils], .cells [.int .i64 k, .str m, .str n, .own (A.length + 4)], .row 4 [enc (ks.getD 0 ty0)] 0, .row 4 [enc (ks.getD 0 ty0)] 0]] 4 rfl (by kernel_rfl) (by kernel_rfl) (by kernel_rfl) (by kernel_rfl) (by kernel_rfl) (by kernel_rfl) ?_)
          simp only [zW, zX, zD, builtinA, isLeaf, const1, Nat.reduceAdd, Nat.reduceMul, Nat.reduceSub, Nat.reduceLT, Nat.reduceLeDiff, Nat.reduceEqDiff, Nat.reduceBEq, Nat.reduceBNe, reduceIte, reduceCtorEq, Int.reduceToNat, Int.reduceLT, Int.reduceLE, Int.reduceEq, Int.reduceNe, Int.reduceNeg, ustrA, ti3, ti9, ti40, ti42, ca28, cf, Tryz.results28, he, enc_length, enc_take, sb_drop, frzL_enc, sb_closed, Option.map_some, encs_length]
          refine ⟨⟨by omega, by omega⟩, ?_⟩
          refine callE_intro (by simp only [zW, zX, zD, builtinA, isLeaf, const1, Nat.reduceAdd, Nat.reduceMul, Nat.reduceSub, Nat.reduceLT, Nat.reduceLeDiff, Nat.reduceEqDiff, Nat.reduceBEq, Nat.reduceBNe, reduceIte, reduceCtorEq, Int.reduceToNat, Int.reduceLT, Int.reduceLE, Int.reduceEq, Int.reduceNe, Int.reduceNeg, ustrA, enc_length, enc_take, sb_drop, frzL_enc, sb_closed, Option.map_some] <;> rfl) (ih _ hmm (hok _ hmm) _) ?_ rfl rfl
          simp only [zW, zX, zD, builtinA, isLeaf, const1, Nat.reduceAdd, Nat.reduceMul, Nat.reduceSub, Nat.reduceLT, Nat.reduceLeDiff, Nat.reduceEqDiff, Nat.reduceBEq, Nat.reduceBNe, reduceIte, reduceCtorEq, Int.reduceToNat, Int.reduceLT, Int.reduceLE, Int.reduceEq, Int.reduceNe, Int.reduceNeg, ustrA, ti3, ti9, ti40, ti42, ca28, cf, Tryz.results28, he, enc_length, enc_take, sb_drop, frzL_enc, sb_closed, Option.map_some, encs_length]
          have hsn : [enc (ks.getD 0 ty0)] = encs (ks.take 1) := by
            match ks, hi2 with
            | t :: l, _ => simp [encs]
          simp only [zW, zX, zD, builtinA, isLeaf, const1, Nat.reduceAdd, Nat.reduceMul, Nat.reduceSub, Nat.reduceLT, Nat.reduceLeDiff, Nat.reduceEqDiff, Nat.reduceBEq, Nat.reduceBNe, reduceIte, reduceCtorEq, Int.reduceToNat, Int.reduceLT, Int.reduceLE, Int.reduceEq, Int.reduceNe, Int.reduceNeg, ustrA, ti3, ti9, ti40, ti42, ca28, cf, Tryz.results28, hi1, LoopK_eq]
          refine ⟨fun v hv => enc_leaf _ v hv, fun r hr => by rw [List.mem_singleton.1 hr, enc_length], ⟨0 + 1, [.row 4 [enc (ks.getD 0 ty0)] 0, .row 4 [enc (ks.getD 0 ty0)] 0], _, by omega, rfl, rfl, .inr ⟨1, rfl, by simp, by rw [hsn]; rfl⟩⟩, ?_⟩
          simp only [intOf]
          omega
        · have hsn : encs (ks.take i) ++ [enc (ks.getD i ty0)] = encs (ks.take (i + 1)) := by
            rw [encs_map, encs_map, List.take_add_one, List.map_append]
            simp [List.getD, hi2]
          simp only [wpc_skip, AThen_normal, wpc_block, wpc_seq, wpc_drawn]
          refine .inr (drawE_intro [(false, 0, 2), (false, 0, 2), (false, 0, 0), (false, 0, 0), (false, 0, 0), (false, 0, 0), (false, 0, 0), (true, 0, 0), (true, 1, 1), (true, 2, 2), (false, 3, 3), (true, 3, 3)] [A ++ (.cells [.int .i64 k, .str m, .str n, .slice (encs ks)] :: .cells [.int .i64 0, .str [], .str [], .nils] :: .cells [.int .i64 k, .str m, .str n, .own (A.length + (j + 3))] :: B), A ++ (.cells [.int .i64 k, .str m, .str n, .slice (encs ks)] :: .cells [.int .i64 0, .str [], .str [], .nils] :: .cells [.int .i64 k, .str m, .str n, .own (A.length + (j + 3))] :: B), A ++ (.cells [.int .i64 k, .str m, .str n, .slice (encs ks)] :: .cells [.int .i64 0, .str [], .str [], .nils] :: .cells [.int .i64 k, .str m, .str n, .own (A.length + (j + 3))] :: (B ++ [.row 4 [enc (ks.getD i ty0)] 0])), A ++ (.cells [.int .i64 k, .str m, .str n, .slice (encs ks)] :: .cells [.int .i64 0, .str [], .str [], .nils] :: .cells [.int .i64 k, .str m, .str n, .own (A.length + (j + 3))] :: (B.set j .dead ++ [.row 4 [enc (ks.getD i ty0)] 0, .row 4 (encs (ks.take i) ++ [enc (ks.getD i ty0)]) 0])), A ++ (.cells [.int .i64 k, .str m, .str n, .slice (encs ks)] :: .cells [.int .i64 0, .str [], .str [], .nils] :: .cells [.int .i64 k, .str m, .str n, .own (A.length + (B.length + 1 + 3))] :: (B.set j .dead ++ [.row 4 [enc (ks.getD i ty0)] 0, .row 4 (encs (ks.take i) ++ [enc (ks.getD i ty0)]) 0]))] 4 rfl (by kernel_rfl) (by kernel_rfl) (by kernel_rfl) (by kernel_rfl) (by kernel_rfl) (by kernel_rfl) ?_)
          simp only [zW, zX, zD, builtinA, isLeaf, const1, Nat.reduceAdd, Nat.reduceMul, Nat.reduceSub, Nat.reduceLT, Nat.reduceLeDiff, Nat.reduceEqDiff, Nat.reduceBEq, Nat.reduceBNe, reduceIte, reduceCtorEq, Int.reduceToNat, Int.reduceLT, Int.reduceLE, Int.reduceEq, Int.reduceNe, Int.reduceNeg, ustrA, ti3, ti9, ti40, ti42, ca28, cf, Tryz.results28, he, hj, hg, enc_length, enc_take, sb_drop, frzL_enc, sb_closed, Option.map_some, encs_length]
          refine ⟨⟨by omega, by omega⟩, ?_⟩
          refine callE_intro (by simp only [zW, zX, zD, builtinA, isLeaf, const1, Nat.reduceAdd, Nat.reduceMul, Nat.reduceSub, Nat.reduceLT, Nat.reduceLeDiff, Nat.reduceEqDiff, Nat.reduceBEq, Nat.reduceBNe, reduceIte, reduceCtorEq, Int.reduceToNat, Int.reduceLT, Int.reduceLE, Int.reduceEq, Int.reduceNe, Int.reduceNeg, ustrA, enc_length, enc_take, sb_drop, frzL_enc, sb_closed, Option.map_some] <;> rfl) (ih _ hmm (hok _ hmm) _) ?_ rfl rfl
          simp only [zW, zX, zD, builtinA, isLeaf, const1, Nat.reduceAdd, Nat.reduceMul, Nat.reduceSub, Nat.reduceLT, Nat.reduceLeDiff, Nat.reduceEqDiff, Nat.reduceBEq, Nat.reduceBNe, reduceIte, reduceCtorEq, Int.reduceToNat, Int.reduceLT, Int.reduceLE, Int.reduceEq, Int.reduceNe, Int.reduceNeg, ustrA, ti3, ti9, ti40, ti42, ca28, cf, Tryz.results28, he, hj, hg, enc_length, enc_take, sb_drop, frzL_enc, sb_closed, Option.map_some, encs_length]
          simp only [zW, zX, zD, builtinA, isLeaf, const1, Nat.reduceAdd, Nat.reduceMul, Nat.reduceSub, Nat.reduceLT, Nat.reduceLeDiff, Nat.reduceEqDiff, Nat.reduceBEq, Nat.reduceBNe, reduceIte, reduceCtorEq, Int.reduceToNat, Int.reduceLT, Int.reduceLE, Int.reduceEq, Int.reduceNe, Int.reduceNeg, ustrA, ti3, ti9, ti40, ti42, ca28, cf, Tryz.results28, hi1, LoopK_eq]
          refine ⟨fun v hv => enc_leaf _ v hv, ⟨fun r hr => by rw [List.mem_singleton.1 hr, enc_length], by rw [List.length_take]; omega⟩, ⟨i + 1, B.set j .dead ++ [.row 4 [enc (ks.getD i ty0)] 0, .row 4 (encs (ks.take i) ++ [enc (ks.getD i ty0)]) 0], _, by omega, rfl, rfl, .inr ⟨B.length + 1, rfl, by simp, ?_⟩⟩, ?_⟩
          · rw [getD_sapp, hsn]; rfl
          · simp only [intOf]
            omega
      · have : i = ks.length := by simp at h2; omega
        subst this
        rw [List.take_length] at hx
        rcases hx with ⟨h0, rfl, rfl⟩ | ⟨j, rfl, hj, hg⟩
        · have : ks = [] := by cases ks with
            | nil => rfl
            | cons => simp at h0
          subst this
          simp only [zW, zX, zD, builtinA, isLeaf, const1, Nat.reduceAdd, Nat.reduceMul, Nat.reduceSub, Nat.reduceLT, Nat.reduceLeDiff, Nat.reduceEqDiff, Nat.reduceBEq, Nat.reduceBNe, reduceIte, reduceCtorEq, Int.reduceToNat, Int.reduceLT, Int.reduceLE, Int.reduceEq, Int.reduceNe, Int.reduceNeg, ustrA, ti3, ti9, ti40, ti42, ca28, cf, Tryz.results28, encs]
        · simp only [zW, zX, zD, builtinA, isLeaf, const1, Nat.reduceAdd, Nat.reduceMul, Nat.reduceSub, Nat.reduceLT, Nat.reduceLeDiff, Nat.reduceEqDiff, Nat.reduceBEq, Nat.reduceBNe, reduceIte, reduceCtorEq, Int.reduceToNat, Int.reduceLT, Int.reduceLE, Int.reduceEq, Int.reduceNe, Int.reduceNeg, ustrA, ti3, ti9, ti40, ti42, ca28, cf, Tryz.results28, hg, hj]

theorem sz_toTyS : ∀ v, okV v = true → sz (toTy v) ≤ 2 * cnt v
  | .num, _ => by simp [toTy, sz, szs, cnt]
  | .nm m n, h => by
    simp only [okV, nmB, Bool.and_eq_true, Bool.or_eq_true, decide_eq_true_eq] at h
    have h1 : n.length = 1 := by have := h.2; simp only [localB, Bool.and_eq_true, beq_iff_eq] at this; exact this.1
    have h2 : m.length ≤ 1 := by
      rcases h.1 with rfl | h
      · simp
      · simp only [moduleB, Bool.and_eq_true, beq_iff_eq] at h; omega
    simp only [toTy, sz, szs, cnt, List.length_nil]; omega
  | .fn a b, h => by
    simp only [okV, Bool.and_eq_true] at h
    have ha := sz_toTyS a h.1
    have hb := sz_toTyS b h.2
    simp only [toTy, sz, szs, cnt, List.length_nil, List.length_cons]; omega
theorem ok_toTyS : ∀ v, okV v = true → (toTy v).Ok
  | .num, _ => .mk (by simp) (by simp) (by simp) (by simp)
  | .nm m n, h => by
    simp only [okV, nmB, Bool.and_eq_true, Bool.or_eq_true, decide_eq_true_eq] at h
    have h1 : n.length = 1 := by have := h.2; simp only [localB, Bool.and_eq_true, beq_iff_eq] at this; exact this.1
    have h2 : m.length ≤ 1 := by
      rcases h.1 with rfl | h
      · simp
      · simp only [moduleB, Bool.and_eq_true, beq_iff_eq] at h; omega
    exact .mk (by omega) (by omega) (by simp) (by simp)
  | .fn a b, h => by
    simp [okV] at h
    refine .mk (by simp) (by simp) (by simp) fun t ht => ?_
    simp at ht
    rcases ht with rfl | rfl
    · exact ok_toTyS a h.1
    · exact ok_toTyS b h.2
end Go.Proofs.YtejbjgmgdbcddaaGreat
