/- SubT, SpNorm, NormP, TxtInj, SigSame, SigTxt, Draw, DrawTy. -/
import Derived.Test.YtpoknljchikklaaGreatK06
import Derived.Test.YtpoknljchikklaaGreatAbsW3
/- The model's SubstType answers as the program's. -/
set_option linter.unusedVariables false
set_option linter.unusedSimpArgs false
namespace Go.Proofs.YtpoknljchikklaaGreat
open Go.Abs

theorem sub_closed (t : Ty) (n : Nat) : (enc t).all (closed1 n) = true := by cases t; rw [enc]; rfl
theorem sub_drop (t : Ty) : List.drop 4 (enc t) = [] := by cases t; rw [enc]; rfl
set_option maxRecDepth 100000 in
theorem spec_l1Copy0 (τ : Ty) (hτ : sz τ ≤ 1048576) : ∀ (A : List Box), ACalls Tryz.prog 145 [.agg (enc τ)] A (fun r A' => r = .agg (enc τ) ∧ A' = A) := by
  induction τ using Ty.ind with
  | h k m n ks ih =>
    intro A
    have hks : ks.length ≤ 1048576 := by rw [sz] at hτ; omega
    have hok : ∀ t ∈ ks, sz t ≤ 1048576 := fun t ht => by rw [sz] at hτ; have := szs_mem ht; omega
    rw [enc]
    refine acalls_enter (cf := cf 31 [0, 1, 2, 3, 4, 16]) foll Tryz.func145 Tryz.ntmps145 (by simp [cf]) ?_
    simp only [Tryz.f145, EnterK_some, zW, zX, zD, builtinA, isLeaf, const1, Nat.reduceAdd, Nat.reduceMul, Nat.reduceSub, Nat.reduceLT, Nat.reduceLeDiff, Nat.reduceEqDiff, Nat.reduceBEq, Nat.reduceBNe, reduceIte, reduceCtorEq, Int.reduceToNat, Int.reduceLT, Int.reduceLE, Int.reduceEq, Int.reduceNe, Int.reduceNeg, ustrA, ti3, ti9, ti29, ti31, ca145, cf, Tryz.results145]
    refine aloop_intro [1, 2, 3, 4] (fun e A' => ∃ i B x, i ≤ ks.length ∧ e = [(1, .ptr A.length 0), (2, .ptr (A.length + 1) 0), (3, .ptr (A.length + 2) 0), (4, .int .i64 i)] ∧ A' = A ++ (.cells [.int .i64 k, .str m, .str n, .slice (encs ks)] :: .cells [.int .i64 0, .str [], .str [], .nils] :: .cells [.int .i64 k, .str m, .str n, x] :: B) ∧
      ((i = 0 ∧ x = .nils ∧ B = []) ∨ (∃ j, x = .own (A.length + (j + 3)) ∧ j < B.length ∧ B.getD j .dead = .row 4 (encs (ks.take i)) 0))) (fun e _ => ks.length - (intOf (Abs.look 4 e)).toNat) ?_ ?_
    · simp only [zW, zX, zD, builtinA, isLeaf, const1, Nat.reduceAdd, Nat.reduceMul, Nat.reduceSub, Nat.reduceLT, Nat.reduceLeDiff, Nat.reduceEqDiff, Nat.reduceBEq, Nat.reduceBNe, reduceIte, reduceCtorEq, Int.reduceToNat, Int.reduceLT, Int.reduceLE, Int.reduceEq, Int.reduceNe, Int.reduceNeg, ustrA, ti3, ti9, ti29, ti31, ca145, cf, Tryz.results145]
      exact ⟨0, [], .nils, by omega, rfl, rfl, .inl ⟨rfl, rfl, rfl⟩⟩
    · rintro e A' ⟨i, B, x, hi, rfl, rfl, hx⟩
      simp only [zW, zX, zD, builtinA, isLeaf, const1, Nat.reduceAdd, Nat.reduceMul, Nat.reduceSub, Nat.reduceLT, Nat.reduceLeDiff, Nat.reduceEqDiff, Nat.reduceBEq, Nat.reduceBNe, reduceIte, reduceCtorEq, Int.reduceToNat, Int.reduceLT, Int.reduceLE, Int.reduceEq, Int.reduceNe, Int.reduceNeg, ustrA, ti3, ti9, ti29, ti31, ca145, cf, Tryz.results145, encs_length]
      refine condK_intro (fun h2 => ?_) (fun h2 => ?_)
      · have hi2 : i < ks.length := by simpa using h2
        have he := encs_getD hi2
        have hmm := getD_mem hi2
        have hi1 : IntKind.i64.wrap ((i : Int) + 1) = ((i + 1 : Nat) : Int) := by rw [wrap64 (by omega) (by omega)]; rfl
        rcases hx with ⟨rfl, rfl, rfl⟩ | ⟨j, rfl, hj, hg⟩
        · simp only [wpc_skip, AThen_normal, wpc_block, wpc_seq, wpc_drawn]
          refine .inr (drawE_intro [(false, 0, 2), (false, 0, 2), (false, 0, 0), (false, 0, 0), (false, 0, 0), (false, 0, 0), (false, 0, 0), (true, 0, 0), (true, 1, 1), (true, 2, 2), (false, 3, 3), (true, 3, 3)] [A ++ [.cells [.int .i64 k, .str m, .str n, .slice (encs ks)], .cells [.int .i64 0, .str [], .str [], .nils], .cells [.int .i64 k, .str m, .str n, .nils]], A ++ [.cells [.int .i64 k, .str m, .str n, .slice (encs ks)], .cells [.int .i64 0, .str [], .str [], .nils], .cells [.int .i64 k, .str m, .str n, .nils]], A ++ [.cells [.int .i64 k, .str m, .str n, .slice (encs ks)], .cells [.int .i64 0, .str [], .str [], .nils], .cells [.int .i64 k, .str m, .str n, .nils], .row 4 [enc (ks.getD 0 ty0)] 0], A ++ [.cells [.int .i64 k, .str m, .str n, .slice (encs ks)], .cells [.int .i64 0, .str [], .str [], .nils], .cells [.int .i64 k, .str m, .str n, .nils], .row 4 [enc (ks.getD 0 ty0)] 0, .row 4 [enc (ks.getD 0 ty0)] 0], A ++ [.cells [.int .i64 k, .str m, .str n, .slice (encs ks)], .cells [.int .i64 0, .str [], .str [], .nils], .cells [.int .i64 k, .str m, .str n, .own (A.length + 4)], .row 4 [enc (ks.getD 0 ty0)] 0, .row 4 [enc (ks.getD 0 ty0)] 0]] 4 rfl (by kernel_rfl) (by kernel_rfl) (by kernel_rfl) (by kernel_rfl) (by kernel_rfl) (by kernel_rfl) ?_)
          simp only [zW, zX, zD, builtinA, isLeaf, const1, Nat.reduceAdd, Nat.reduceMul, Nat.reduceSub, Nat.reduceLT, Nat.reduceLeDiff, Nat.reduceEqDiff, Nat.reduceBEq, Nat.reduceBNe, reduceIte, reduceCtorEq, Int.reduceToNat, Int.reduceLT, Int.reduceLE, Int.reduceEq, Int.reduceNe, Int.reduceNeg, ustrA, ti3, ti9, ti29, ti31, ca145, cf, Tryz.results145, he, enc_length, enc_take, sub_drop, frzL_enc, sub_closed, Option.map_some, encs_length]
          refine ⟨⟨by omega, by omega⟩, ?_⟩
          refine callE_intro (by simp only [zW, zX, zD, builtinA, isLeaf, const1, Nat.reduceAdd, Nat.reduceMul, Nat.reduceSub, Nat.reduceLT, Nat.reduceLeDiff, Nat.reduceEqDiff, Nat.reduceBEq, Nat.reduceBNe, reduceIte, reduceCtorEq, Int.reduceToNat, Int.reduceLT, Int.reduceLE, Int.reduceEq, Int.reduceNe, Int.reduceNeg, ustrA, enc_length, enc_take, sub_drop, frzL_enc, sub_closed, Option.map_some] <;> rfl) (ih _ hmm (hok _ hmm) _) ?_ rfl rfl
          simp only [zW, zX, zD, builtinA, isLeaf, const1, Nat.reduceAdd, Nat.reduceMul, Nat.reduceSub, Nat.reduceLT, Nat.reduceLeDiff, Nat.reduceEqDiff, Nat.reduceBEq, Nat.reduceBNe, reduceIte, reduceCtorEq, Int.reduceToNat, Int.reduceLT, Int.reduceLE, Int.reduceEq, Int.reduceNe, Int.reduceNeg, ustrA, ti3, ti9, ti29, ti31, ca145, cf, Tryz.results145, he, enc_length, enc_take, sub_drop, frzL_enc, sub_closed, Option.map_some, encs_length]
          have hsn : [enc (ks.getD 0 ty0)] = encs (ks.take 1) := by
            match ks, hi2 with
            | t :: l, _ => simp [encs]
          simp only [zW, zX, zD, builtinA, isLeaf, const1, Nat.reduceAdd, Nat.reduceMul, Nat.reduceSub, Nat.reduceLT, Nat.reduceLeDiff, Nat.reduceEqDiff, Nat.reduceBEq, Nat.reduceBNe, reduceIte, reduceCtorEq, Int.reduceToNat, Int.reduceLT, Int.reduceLE, Int.reduceEq, Int.reduceNe, Int.reduceNeg, ustrA, ti3, ti9, ti29, ti31, ca145, cf, Tryz.results145, hi1, LoopK_eq]
          refine ⟨fun v hv => enc_leaf _ v hv, fun r hr => by rw [List.mem_singleton.1 hr, enc_length], ⟨0 + 1, [.row 4 [enc (ks.getD 0 ty0)] 0, .row 4 [enc (ks.getD 0 ty0)] 0], _, by omega, rfl, rfl, .inr ⟨1, rfl, by simp, by rw [hsn]; rfl⟩⟩, ?_⟩
          simp only [intOf]
          omega
        · have hsn : encs (ks.take i) ++ [enc (ks.getD i ty0)] = encs (ks.take (i + 1)) := by
            rw [encs_map, encs_map, List.take_add_one, List.map_append]
            simp [List.getD, hi2]
          simp only [wpc_skip, AThen_normal, wpc_block, wpc_seq, wpc_drawn]
          refine .inr (drawE_intro [(false, 0, 2), (false, 0, 2), (false, 0, 0), (false, 0, 0), (false, 0, 0), (false, 0, 0), (false, 0, 0), (true, 0, 0), (true, 1, 1), (true, 2, 2), (false, 3, 3), (true, 3, 3)] [A ++ (.cells [.int .i64 k, .str m, .str n, .slice (encs ks)] :: .cells [.int .i64 0, .str [], .str [], .nils] :: .cells [.int .i64 k, .str m, .str n, .own (A.length + (j + 3))] :: B), A ++ (.cells [.int .i64 k, .str m, .str n, .slice (encs ks)] :: .cells [.int .i64 0, .str [], .str [], .nils] :: .cells [.int .i64 k, .str m, .str n, .own (A.length + (j + 3))] :: B), A ++ (.cells [.int .i64 k, .str m, .str n, .slice (encs ks)] :: .cells [.int .i64 0, .str [], .str [], .nils] :: .cells [.int .i64 k, .str m, .str n, .own (A.length + (j + 3))] :: (B ++ [.row 4 [enc (ks.getD i ty0)] 0])), A ++ (.cells [.int .i64 k, .str m, .str n, .slice (encs ks)] :: .cells [.int .i64 0, .str [], .str [], .nils] :: .cells [.int .i64 k, .str m, .str n, .own (A.length + (j + 3))] :: (B.set j .dead ++ [.row 4 [enc (ks.getD i ty0)] 0, .row 4 (encs (ks.take i) ++ [enc (ks.getD i ty0)]) 0])), A ++ (.cells [.int .i64 k, .str m, .str n, .slice (encs ks)] :: .cells [.int .i64 0, .str [], .str [], .nils] :: .cells [.int .i64 k, .str m, .str n, .own (A.length + (B.length + 1 + 3))] :: (B.set j .dead ++ [.row 4 [enc (ks.getD i ty0)] 0, .row 4 (encs (ks.take i) ++ [enc (ks.getD i ty0)]) 0]))] 4 rfl (by kernel_rfl) (by kernel_rfl) (by kernel_rfl) (by kernel_rfl) (by kernel_rfl) (by kernel_rfl) ?_)
          simp only [zW, zX, zD, builtinA, isLeaf, const1, Nat.reduceAdd, Nat.reduceMul, Nat.reduceSub, Nat.reduceLT, Nat.reduceLeDiff, Nat.reduceEqDiff, Nat.reduceBEq, Nat.reduceBNe, reduceIte, reduceCtorEq, Int.reduceToNat, Int.reduceLT, Int.reduceLE, Int.reduceEq, Int.reduceNe, Int.reduceNeg, ustrA, ti3, ti9, ti29, ti31, ca145, cf, Tryz.results145, he, hj, hg, enc_length, enc_take, sub_drop, frzL_enc, sub_closed, Option.map_some, encs_length]
          refine ⟨⟨by omega, by omega⟩, ?_⟩
          refine callE_intro (by simp only [zW, zX, zD, builtinA, isLeaf, const1, Nat.reduceAdd, Nat.reduceMul, Nat.reduceSub, Nat.reduceLT, Nat.reduceLeDiff, Nat.reduceEqDiff, Nat.reduceBEq, Nat.reduceBNe, reduceIte, reduceCtorEq, Int.reduceToNat, Int.reduceLT, Int.reduceLE, Int.reduceEq, Int.reduceNe, Int.reduceNeg, ustrA, enc_length, enc_take, sub_drop, frzL_enc, sub_closed, Option.map_some] <;> rfl) (ih _ hmm (hok _ hmm) _) ?_ rfl rfl
          simp only [zW, zX, zD, builtinA, isLeaf, const1, Nat.reduceAdd, Nat.reduceMul, Nat.reduceSub, Nat.reduceLT, Nat.reduceLeDiff, Nat.reduceEqDiff, Nat.reduceBEq, Nat.reduceBNe, reduceIte, reduceCtorEq, Int.reduceToNat, Int.reduceLT, Int.reduceLE, Int.reduceEq, Int.reduceNe, Int.reduceNeg, ustrA, ti3, ti9, ti29, ti31, ca145, cf, Tryz.results145, he, hj, hg, enc_length, enc_take, sub_drop, frzL_enc, sub_closed, Option.map_some, encs_length]
          simp only [zW, zX, zD, builtinA, isLeaf, const1, Nat.reduceAdd, Nat.reduceMul, Nat.reduceSub, Nat.reduceLT, Nat.reduceLeDiff, Nat.reduceEqDiff, Nat.reduceBEq, Nat.reduceBNe, reduceIte, reduceCtorEq, Int.reduceToNat, Int.reduceLT, Int.reduceLE, Int.reduceEq, Int.reduceNe, Int.reduceNeg, ustrA, ti3, ti9, ti29, ti31, ca145, cf, Tryz.results145, hi1, LoopK_eq]
          refine ⟨fun v hv => enc_leaf _ v hv, ⟨fun r hr => by rw [List.mem_singleton.1 hr, enc_length], by rw [List.length_take]; omega⟩, ⟨i + 1, B.set j .dead ++ [.row 4 [enc (ks.getD i ty0)] 0, .row 4 (encs (ks.take i) ++ [enc (ks.getD i ty0)]) 0], _, by omega, rfl, rfl, .inr ⟨B.length + 1, rfl, by simp, ?_⟩⟩, ?_⟩
          · rw [getD_sapp, hsn]; rfl
          · simp only [intOf]
            omega
      · have : i = ks.length := by simp at h2; omega
        subst this
        rw [List.take_length] at hx
        rcases hx with ⟨h0, rfl, rfl⟩ | ⟨j, rfl, hj, hg⟩
        · have : ks = [] := by cases ks with
            | nil => rfl
            | cons => simp at h0
          subst this
          simp only [zW, zX, zD, builtinA, isLeaf, const1, Nat.reduceAdd, Nat.reduceMul, Nat.reduceSub, Nat.reduceLT, Nat.reduceLeDiff, Nat.reduceEqDiff, Nat.reduceBEq, Nat.reduceBNe, reduceIte, reduceCtorEq, Int.reduceToNat, Int.reduceLT, Int.reduceLE, Int.reduceEq, Int.reduceNe, Int.reduceNeg, ustrA, ti3, ti9, ti29, ti31, ca145, cf, Tryz.results145, encs]
        · simp only [zW, zX, zD, builtinA, isLeaf, const1, Nat.reduceAdd, Nat.reduceMul, Nat.reduceSub, Nat.reduceLT, Nat.reduceLeDiff, Nat.reduceEqDiff, Nat.reduceBEq, Nat.reduceBNe, reduceIte, reduceCtorEq, Int.reduceToNat, Int.reduceLT, Int.reduceLE, Int.reduceEq, Int.reduceNe, Int.reduceNeg, ustrA, ti3, ti9, ti29, ti31, ca145, cf, Tryz.results145, hg, hj]

end Go.Proofs.YtpoknljchikklaaGreat

namespace Go.Proofs.YtpoknljchikklaaGreat
open Go.Abs

end Go.Proofs.YtpoknljchikklaaGreat

/- The model's normal signatures. -/
set_option linter.unusedVariables false
set_option linter.unusedSimpArgs false
namespace Go.Proofs.YtpoknljchikklaaGreat
open Go.Abs

set_option maxRecDepth 100000 in
theorem spec_l2Copy (s : List SigI) (hl : s.length ≤ 1048576) (hz : ∀ x ∈ s, sz x.typ ≤ 1048576) (A : List Box) : ACalls Tryz.prog 93 [.slice (sEs s)] A (fun r A' => ∃ B j, A' = A ++ B ∧ r = .own (A.length + j) ∧ j < B.length ∧ B.getD j .dead = .row 6 (sEs s) 0) := by
  refine acalls_enterK (cf := cf 33 [0, 2, 3, 4, 9]) foll Tryz.func93 Tryz.ntmps93 (by simp [cf]) ?_
  simp only [Tryz.f93, EnterK_some, zW, zX, zD, builtinA, isLeaf, const1, ustrA, simprocAttr, ti3, ti9, ti23, ti31, ti63, ca145, cf, Tryz.results93]
  refine aloop_intro [0, 3, 4] (fun e A' => ∃ i j B, i ≤ s.length ∧ e = [(0, .slice (sEs s)), (3, .own (A.length + j)), (4, .int .i64 i)] ∧ A' = A ++ B ∧ j < B.length ∧ B.getD j .dead = .row 6 (sEs (s.take i)) 0) (fun e _ => s.length - (intOf (Abs.look 4 e)).toNat) ?_ ?_
  · simp only [zW, zX, zD, builtinA, isLeaf, const1, ustrA, simprocAttr, ti3, ti9, ti23, ti31, ti63, ca145, cf, Tryz.results93]
    exact ⟨0, 0, [.row 6 [] 0], by omega, rfl, rfl, by simp, rfl⟩
  · rintro e A' ⟨i, j, B, hi, rfl, rfl, hj, hg⟩
    simp only [zW, zX, zD, builtinA, isLeaf, const1, ustrA, simprocAttr, ti3, ti9, ti23, ti31, ti63, ca145, cf, Tryz.results93, sEs_length]
    refine condK_intro (fun h2 => ?_) (fun h2 => ?_)
    · have hi2 : i < s.length := by simpa using h2
      have he := sEs_getD hi2
      have hmm : s.getD i si0 ∈ s := by simp [List.getD, hi2]
      have hi1 : IntKind.i64.wrap ((i : Int) + 1) = ((i + 1 : Nat) : Int) := by rw [wrap64 (by omega) (by omega)]; rfl
      have hsn : sEs (s.take i) ++ [sE (s.getD i si0)] = sEs (s.take (i + 1)) := by
        rw [sEs, sEs, List.take_add_one, List.map_append]
        simp [List.getD, hi2]
      have pi : (0 : Int) ≤ (i : Int) ∧ (i : Int) < (s.length : Int) := ⟨by omega, by omega⟩
      generalize hx : s.getD i si0 = x at *
      simp only [sE] at he hsn
      have hl6 : ∀ (k : Int) (n : List UInt8) (t : Ty), (AV.int .i64 k :: .str n :: enc t).length = 6 := fun k n t => by simp [enc_length]
      simp only [wpc_skip, AThen_normal, wpc_block, wpc_seq, wpc_drawn]
      refine .inr (drawE_intro [(false, 0, 2), (false, 0, 1), (false, 0, 1), (false, 0, 1), (false, 0, 1), (false, 0, 1), (false, 0, 1), (false, 0, 1), (false, 0, 1), (false, 0, 1), (false, 0, 1), (false, 0, 0), (false, 0, 0), (false, 0, 0), (false, 0, 0), (false, 0, 0), (true, 0, 0), (false, 1, 1), (true, 1, 1), (true, 2, 2), (false, 3, 3)] [A ++ B, A ++ B, A ++ (B ++ [.row 6 [(.int .i64 x.kind :: .str x.name :: enc x.typ)] 0]), A ++ (B.set j .dead ++ [.row 6 [(.int .i64 x.kind :: .str x.name :: enc x.typ)] 0, .row 6 (sEs (s.take i) ++ [(.int .i64 x.kind :: .str x.name :: enc x.typ)]) 0])] 3 rfl (by kernel_rfl) (by kernel_rfl) (by kernel_rfl) (by kernel_rfl) (by kernel_rfl) (by kernel_rfl) ?_)
      simp only [zW, zX, zD, builtinA, isLeaf, const1, ustrA, simprocAttr, ti3, ti9, ti23, ti31, ti63, ca145, cf, Tryz.results93, he, hj, hg, enc_length, enc_take, sub_drop, frzL_enc, sub_closed, Option.map_some, sEs_length]
      refine ⟨pi, pi, pi, pi, pi, ?_⟩
      refine callE_intro (by simp only [zW, zX, zD, builtinA, isLeaf, const1, ustrA, simprocAttr, enc_length, enc_take, sub_drop, frzL_enc, sub_closed, Option.map_some] <;> rfl) (spec_l1Copy0 x.typ (hz x hmm) _) ?_ rfl rfl
      simp only [zW, zX, zD, builtinA, isLeaf, const1, ustrA, simprocAttr, ti3, ti9, ti23, ti31, ti63, ca145, cf, Tryz.results93, he, hj, hg, enc_length, enc_take, sub_drop, frzL_enc, sub_closed, Option.map_some, sEs_length, hl6]
      simp only [zW, zX, zD, builtinA, isLeaf, const1, ustrA, simprocAttr, ti3, ti9, ti23, ti31, ti63, ca145, cf, Tryz.results93, hi1, LoopK_eq]
      refine ⟨fun v hv => sE_leaf x v hv, ⟨fun r hr => by rw [List.mem_singleton.1 hr]; exact hl6 _ _ _, by rw [List.length_take]; omega⟩, ⟨i + 1, B.length + 1, B.set j .dead ++ [.row 6 [(.int .i64 x.kind :: .str x.name :: enc x.typ)] 0, .row 6 (sEs (s.take i) ++ [(.int .i64 x.kind :: .str x.name :: enc x.typ)]) 0], by omega, rfl, rfl, by simp, ?_⟩, ?_⟩
      · rw [getD_sapp, hsn]; rfl
      · simp only [intOf]
        omega
    · have : i = s.length := by simp at h2; omega
      subst this
      rw [List.take_length] at hg
      simp only [zW, zX, zD, builtinA, isLeaf, const1, ustrA, simprocAttr, ti3, ti9, ti23, ti31, ti63, ca145, cf, Tryz.results93, hg, hj]
      exact ⟨B, j, rfl, rfl, hj, hg⟩

end Go.Proofs.YtpoknljchikklaaGreat

/- The normal signature as data. -/
set_option linter.unusedVariables false
set_option linter.unusedSimpArgs false
namespace Go.Proofs.YtpoknljchikklaaGreat
open Go.Abs

def siOf : VI → SigI
  | .ab n => ⟨1, n, ty0⟩
  | .al n v => ⟨2, n, toTy v⟩
  | .va n v => ⟨3, n, toTy v⟩
theorem itemOf_si {x : SigI} {y : VI} (h : ItemOf x y) : x = siOf y := by
  obtain ⟨k, n, t⟩ := x
  cases y <;> simp only [ItemOf] at h
  · obtain ⟨rfl, rfl, rfl⟩ := h; rfl
  · obtain ⟨rfl, rfl, rfl, _⟩ := h; rfl
  · obtain ⟨rfl, rfl, rfl, _⟩ := h; rfl
theorem readsTo_si {s : List SigI} {ys : List VI} (h : ReadsTo s ys) : s = ys.map siOf := by
  refine List.ext_getElem (by simp [h.1]) fun i h1 h2 => ?_
  have := itemOf_si (h.2 i h1).2
  have hy : i < ys.length := by have := h.1; omega
  simpa [List.getD, h1, hy] using this
end Go.Proofs.YtpoknljchikklaaGreat

/- Different types have different texts. -/
set_option linter.unusedVariables false
set_option linter.unusedSimpArgs false
namespace Go.Proofs.YtpoknljchikklaaGreat
open Go.Abs

theorem nm_form {m n : List UInt8} (h : nmB m n = true) : ∃ l : UInt8, n = [l] ∧ 97 ≤ l.toNat ∧ (m = [] ∨ ∃ M : UInt8, m = [M] ∧ 65 ≤ M.toNat ∧ M.toNat ≤ 90 ∧ M.toNat ≠ 73) := by
  simp only [nmB, Bool.and_eq_true, Bool.or_eq_true, decide_eq_true_eq] at h
  obtain ⟨h1, h2⟩ := h
  simp only [localB, Bool.and_eq_true, beq_iff_eq, decide_eq_true_eq] at h2
  obtain ⟨h3, h4, h5⟩ := h2
  obtain ⟨l, rfl⟩ := List.length_eq_one_iff.1 h3
  refine ⟨l, rfl, h4, ?_⟩
  rcases h1 with h1 | h1
  · exact .inl h1
  · simp only [moduleB, Bool.and_eq_true, beq_iff_eq, decide_eq_true_eq, Bool.not_eq_true', decide_eq_false_iff_not] at h1
    obtain ⟨⟨h6, h7, h8⟩, h9⟩ := h1
    obtain ⟨M, rfl⟩ := List.length_eq_one_iff.1 h6
    refine .inr ⟨M, rfl, h7, h8, fun h => h9 ?_⟩
    rw [UInt8.toNat_inj.1 (h.trans (by rfl : (73 : Nat) = (73 : UInt8).toNat))]

theorem txt_pf : ∀ (v v' : VT) (r r' : List UInt8), okV v = true → okV v' = true → txt v ++ r = txt v' ++ r' → v = v' ∧ r = r'
  | .num, .num, r, r', _, _, h => by simpa [txt] using h
  | .num, .nm m n, r, r', _, h2, h => by
    obtain ⟨l, rfl, hl, rfl | ⟨M, rfl, hM⟩⟩ := nm_form h2
    · simp [txt, path] at h; rw [← h.1] at hl; exact absurd hl (by decide)
    · simp [txt, path] at h; rw [← h.1] at hM; exact absurd rfl hM.2.2
  | .nm m n, .num, r, r', h2, _, h => by
    obtain ⟨l, rfl, hl, rfl | ⟨M, rfl, hM⟩⟩ := nm_form h2
    · simp [txt, path] at h; rw [h.1] at hl; exact absurd hl (by decide)
    · simp [txt, path] at h; rw [h.1] at hM; exact absurd rfl hM.2.2
  | .num, .fn a b, r, r', _, _, h => by simp [txt] at h
  | .fn a b, .num, r, r', _, _, h => by simp [txt] at h
  | .nm m n, .fn a b, r, r', h2, _, h => by
    obtain ⟨l, rfl, hl, rfl | ⟨M, rfl, hM⟩⟩ := nm_form h2
    · simp [txt, path] at h; rw [h.1] at hl; exact absurd hl (by decide)
    · simp [txt, path] at h; rw [h.1] at hM; exact absurd hM.1 (by decide)
  | .fn a b, .nm m n, r, r', _, h2, h => by
    obtain ⟨l, rfl, hl, rfl | ⟨M, rfl, hM⟩⟩ := nm_form h2
    · simp [txt, path] at h; rw [← h.1] at hl; exact absurd hl (by decide)
    · simp [txt, path] at h; rw [← h.1] at hM; exact absurd hM.1 (by decide)
  | .nm m n, .nm m' n', r, r', h1, h2, h => by
    obtain ⟨l, rfl, hl, hm⟩ := nm_form h1
    obtain ⟨l', rfl, hl', hm'⟩ := nm_form h2
    rcases hm with rfl | ⟨M, rfl, hM⟩ <;> rcases hm' with rfl | ⟨M', rfl, hM'⟩ <;> simp [txt, path] at h
    · exact ⟨by rw [h.1], h.2⟩
    · rw [h.1] at hl; omega
    · rw [← h.1] at hl'; omega
    · exact ⟨by rw [h.1, h.2.1], h.2.2⟩
  | .fn a b, .fn a' b', r, r', h1, h2, h => by
    simp only [okV, Bool.and_eq_true] at h1 h2
    simp only [txt, List.append_assoc, List.cons_append, List.nil_append, List.cons.injEq, true_and] at h
    obtain ⟨rfl, e⟩ := txt_pf a a' _ _ h1.1 h2.1 h
    simp only [List.cons.injEq, true_and] at e
    obtain ⟨rfl, e⟩ := txt_pf b b' _ _ h1.2 h2.2 e
    exact ⟨rfl, by simpa using e⟩
end Go.Proofs.YtpoknljchikklaaGreat

/- Equality of signatures: the program's and the model's. -/
set_option linter.unusedVariables false
set_option linter.unusedSimpArgs false
namespace Go.Proofs.YtpoknljchikklaaGreat
open Go.Abs

noncomputable def siB (x y : SigI) : Bool := (decide (x.kind = y.kind) && decide (x.name = y.name)) && decide (x.typ = y.typ)
noncomputable def sisB : List SigI → List SigI → Bool
  | [], [] => true
  | x :: a, y :: b => siB x y && sisB a b
  | _, _ => false
theorem si_drop {l : List SigI} {i : Nat} (h : i < l.length) : l.drop i = l.getD i si0 :: l.drop (i + 1) := by
  have : l.getD i si0 = l[i] := by simp [List.getD, h]
  rw [this, List.getElem_cons_drop h]
theorem sisB_len : ∀ {a b : List SigI}, a.length ≠ b.length → sisB a b = false
  | [], [], h => absurd rfl h
  | [], _ :: _, _ => by simp [sisB]
  | _ :: _, [], _ => by simp [sisB]
  | x :: a, y :: b, h => by simp [sisB, sisB_len (a := a) (b := b) (by simpa using h)]
set_option maxRecDepth 100000 in
theorem spec_SigSame (a b : List SigI) (ha : ∀ x ∈ a, x.Ok) (hla : a.length ≤ 1048576) (A : List Box) : ACalls Tryz.prog 14 [.slice (sEs a), .slice (sEs b)] A (fun r A' => r = .bool (sisB a b) ∧ A' = A) := by
  by_cases hl : a.length = b.length
  · have hd : decide ((a.length : Int) = (b.length : Int)) = true := decide_eq_true (by omega)
    refine acalls_enter (cf := cf 55 [0, 1, 4, 5, 10, 14, 54]) foll Tryz.func14 Tryz.ntmps14 (by simp [cf]) ?_
    simp only [Tryz.f14, EnterK_some, zW, zX, zD, builtinA, isLeaf, const1, ustrA, simprocAttr, ti3, ti9, ti23, ti31, ti63, ca61, cf, Tryz.results14]
    simp only [zW, zX, zD, builtinA, isLeaf, const1, ustrA, simprocAttr, ti3, ti9, ti23, ti31, ti63, ca61, cf, Tryz.results14, sEs_length, hd]
    refine aloop_intro [0, 1, 5] (fun e A' => ∃ i, i ≤ a.length ∧ sisB (a.drop i) (b.drop i) = sisB a b ∧ e = [(0, .slice (sEs a)), (1, .slice (sEs b)), (5, .int .i64 i)] ∧ A' = A) (fun e _ => a.length - (intOf (Abs.look 5 e)).toNat) ?_ ?_
    · simp only [zW, zX, zD, builtinA, isLeaf, const1, ustrA, simprocAttr, ti3, ti9, ti23, ti31, ti63, ca61, cf, Tryz.results14]
      exact ⟨0, by omega, rfl, rfl⟩
    · rintro e A' ⟨i, hi, hq, rfl, rfl⟩
      simp only [zW, zX, zD, builtinA, isLeaf, const1, ustrA, simprocAttr, ti3, ti9, ti23, ti31, ti63, ca61, cf, Tryz.results14, sEs_length]
      refine condK_intro (fun h2 => ?_) (fun h2 => ?_)
      · have hi2 : i < a.length := by simpa using h2
        have hj2 : i < b.length := by omega
        rw [si_drop hi2, si_drop hj2, sisB] at hq
        have e1 := sEs_getD hi2
        have e2 := sEs_getD hj2
        have hm := ha _ (si_mem hi2)
        have hi1 : IntKind.i64.wrap ((i : Int) + 1) = ((i + 1 : Nat) : Int) := by rw [wrap64 (by omega) (by omega)]; rfl
        generalize a.getD i si0 = x at *
        generalize b.getD i si0 = y at *
        have pa : (0 : Int) ≤ (i : Int) ∧ (i : Int) < (a.length : Int) := ⟨by omega, by omega⟩
        have pb : (0 : Int) ≤ (i : Int) ∧ (i : Int) < (b.length : Int) := ⟨by omega, by omega⟩
        simp only [sE] at e1 e2
        simp only [zW, zX, zD, builtinA, isLeaf, const1, ustrA, simprocAttr, ti3, ti9, ti23, ti31, ti63, ca61, cf, Tryz.results14, e1, e2, enc_length, enc_take, sEs_length]
        refine .inl ⟨by kernel_rfl, by kernel_rfl, pa, pb, ?_⟩
        by_cases k1 : x.kind = y.kind
        · simp only [zW, zX, zD, builtinA, isLeaf, const1, ustrA, simprocAttr, ti3, ti9, ti23, ti31, ti63, ca61, cf, Tryz.results14, decide_eq_true k1, e1, e2, enc_length, enc_take, sEs_length]
          refine ⟨pa, pb, ?_⟩
          by_cases k2 : x.name = y.name
          · simp only [zW, zX, zD, builtinA, isLeaf, const1, ustrA, simprocAttr, ti3, ti9, ti23, ti31, ti63, ca61, cf, Tryz.results14, decide_eq_true k2, e1, e2, enc_length, enc_take, sEs_length]
            refine ⟨pa, pb, ?_⟩
            refine callD_intro (by simp only [zW, zX, zD, builtinA, isLeaf, const1, ustrA, simprocAttr, frzL_enc, Option.map_some] <;> rfl) (spec_TypeSame x.typ hm.2 y.typ _) ?_ rfl
            by_cases k3 : x.typ = y.typ
            · have : siB x y = true := by simp [siB, k1, k2, k3]
              rw [this, Bool.true_and] at hq
              simp only [zW, zX, zD, builtinA, isLeaf, const1, ustrA, simprocAttr, ti3, ti9, ti23, ti31, ti63, ca61, cf, Tryz.results14, decide_eq_true k3, hi1, LoopK_eq]
              refine ⟨⟨i + 1, by omega, hq, rfl⟩, ?_⟩
              simp only [intOf]; omega
            · have : siB x y = false := by simp [siB, k3]
              rw [this, Bool.false_and] at hq
              simp only [zW, zX, zD, builtinA, isLeaf, const1, ustrA, simprocAttr, ti3, ti9, ti23, ti31, ti63, ca61, cf, Tryz.results14, decide_eq_false k3]
              rw [← hq]
          · have : siB x y = false := by simp [siB, k2]
            rw [this, Bool.false_and] at hq
            simp only [zW, zX, zD, builtinA, isLeaf, const1, ustrA, simprocAttr, ti3, ti9, ti23, ti31, ti63, ca61, cf, Tryz.results14, decide_eq_false k2]
            rw [← hq]
        · have : siB x y = false := by simp [siB, k1]
          rw [this, Bool.false_and] at hq
          simp only [zW, zX, zD, builtinA, isLeaf, const1, ustrA, simprocAttr, ti3, ti9, ti23, ti31, ti63, ca61, cf, Tryz.results14, decide_eq_false k1]
          rw [← hq]
      · have : i = a.length := by simp at h2; omega
        subst this
        have hb0 : b.drop a.length = [] := by simp; omega
        rw [List.drop_length, hb0, sisB] at hq
        simp only [zW, zX, zD, builtinA, isLeaf, const1, ustrA, simprocAttr, ti3, ti9, ti23, ti31, ti63, ca61, cf, Tryz.results14]
        rw [← hq]
  · have hd : decide ((a.length : Int) = (b.length : Int)) = false := decide_eq_false (by omega)
    rw [sisB_len hl]
    refine acalls_enter (cf := cf 55 [0, 1, 4, 5, 10, 14, 54]) foll Tryz.func14 Tryz.ntmps14 (by simp [cf]) ?_
    simp only [Tryz.f14, EnterK_some, zW, zX, zD, builtinA, isLeaf, const1, ustrA, simprocAttr, ti3, ti9, ti23, ti31, ti63, ca61, cf, Tryz.results14]
    simp only [zW, zX, zD, builtinA, isLeaf, const1, ustrA, simprocAttr, ti3, ti9, ti23, ti31, ti63, ca61, cf, Tryz.results14, sEs_length, hd]
end Go.Proofs.YtpoknljchikklaaGreat

/- Different signatures have different texts. -/
set_option linter.unusedVariables false
set_option linter.unusedSimpArgs false
namespace Go.Proofs.YtpoknljchikklaaGreat
open Go.Abs

theorem sisB_iff : ∀ (a b : List SigI), sisB a b = true ↔ a = b
  | [], [] => by simp [sisB]
  | [], _ :: _ => by simp [sisB]
  | _ :: _, [] => by simp [sisB]
  | x :: a, y :: b => by
    rw [sisB, Bool.and_eq_true, sisB_iff a b, siB]
    obtain ⟨k, n, t⟩ := x
    obtain ⟨k', n', t'⟩ := y
    simp [and_assoc]
theorem sisB_refl (a : List SigI) : sisB a a = true := (sisB_iff a a).2 rfl
theorem sisB_comm (a b : List SigI) : sisB a b = sisB b a := by
  rw [Bool.eq_iff_iff, sisB_iff, sisB_iff]; exact ⟨Eq.symm, Eq.symm⟩
/-- an item that has a text -/
def okT (y : VI) : Prop := okI y ∧ localB (nameI y) = true
theorem name_form {n : List UInt8} (h : localB n = true) : ∃ l : UInt8, n = [l] := List.length_eq_one_iff.1 (local_one h)
def Ends (r : List UInt8) : Prop := ∃ c q, r = c :: q ∧ (c = 59 ∨ c = 125)
theorem txtI_pf {y y' : VI} {r r' : List UInt8} (h : okT y) (h' : okT y') (hr : Ends r) (hr' : Ends r') (e : txtI y ++ r = txtI y' ++ r') : y = y' ∧ r = r' := by
  obtain ⟨c, q, rfl, hc⟩ := hr
  obtain ⟨c', q', rfl, hc'⟩ := hr'
  obtain ⟨h1, h2⟩ := h
  obtain ⟨h1', h2'⟩ := h'
  cases y with
  | ab n =>
    obtain ⟨l, rfl⟩ := name_form h2
    cases y' with
    | ab n' => obtain ⟨l', rfl⟩ := name_form h2'; simp [txtI] at e; exact ⟨by rw [e.1], by rw [e.2.1, e.2.2]⟩
    | al n' v => obtain ⟨l', rfl⟩ := name_form h2'; simp [txtI] at e; rcases hc with rfl | rfl <;> exact absurd e.2.1 (by decide)
    | va n' v => obtain ⟨l', rfl⟩ := name_form h2'; simp [txtI] at e; rcases hc with rfl | rfl <;> exact absurd e.2.1 (by decide)
  | al n v =>
    obtain ⟨l, rfl⟩ := name_form h2
    cases y' with
    | ab n' => obtain ⟨l', rfl⟩ := name_form h2'; simp [txtI] at e; rcases hc' with rfl | rfl <;> exact absurd e.2.1 (by decide)
    | al n' v' =>
      obtain ⟨l', rfl⟩ := name_form h2'
      simp only [txtI, List.append_assoc, List.cons_append, List.nil_append, List.cons.injEq, true_and] at e
      obtain ⟨rfl, e⟩ := e
      have := txt_pf v v' _ _ h1.ok h1'.ok e
      exact ⟨by rw [this.1], this.2⟩
    | va n' v' => obtain ⟨l', rfl⟩ := name_form h2'; simp [txtI] at e
  | va n v =>
    obtain ⟨l, rfl⟩ := name_form h2
    cases y' with
    | ab n' => obtain ⟨l', rfl⟩ := name_form h2'; simp [txtI] at e; rcases hc' with rfl | rfl <;> exact absurd e.2.1 (by decide)
    | al n' v' => obtain ⟨l', rfl⟩ := name_form h2'; simp [txtI] at e
    | va n' v' =>
      obtain ⟨l', rfl⟩ := name_form h2'
      simp only [txtI, List.append_assoc, List.cons_append, List.nil_append, List.cons.injEq, true_and] at e
      obtain ⟨rfl, e⟩ := e
      have := txt_pf v v' _ _ h1.ok h1'.ok e
      exact ⟨by rw [this.1], this.2⟩
def tailT : List VI → List UInt8
  | [] => []
  | y :: ys => 59 :: (txtI y ++ tailT ys)
theorem tailT_app : ∀ (a : List VI) (y : VI), tailT (a ++ [y]) = tailT a ++ 59 :: txtI y
  | [], y => by simp [tailT]
  | x :: a, y => by simp [tailT, tailT_app a y]
theorem tailT_ends (ys : List VI) : Ends (tailT ys ++ [125]) := by
  cases ys with
  | nil => exact ⟨125, [], rfl, .inr rfl⟩
  | cons y ys => exact ⟨59, _, rfl, .inl rfl⟩
theorem tailT_inj : ∀ {a b : List VI}, (∀ y ∈ a, okT y) → (∀ y ∈ b, okT y) → tailT a ++ [125] = tailT b ++ [125] → a = b
  | [], [], _, _, _ => rfl
  | [], y :: b, _, _, e => by simp [tailT] at e
  | x :: a, [], _, _, e => by simp [tailT] at e
  | x :: a, y :: b, ha, hb, e => by
    simp only [tailT, List.cons_append, List.append_assoc, List.cons.injEq, true_and] at e
    obtain ⟨rfl, e2⟩ := txtI_pf (ha x (by simp)) (hb y (by simp)) (tailT_ends a) (tailT_ends b) e
    rw [tailT_inj (fun z hz => ha z (List.mem_cons_of_mem _ hz)) (fun z hz => hb z (List.mem_cons_of_mem _ hz)) e2]
theorem bodyN_tail (y : VI) (l : List VI) : ∀ i, i ≤ l.length → bodyN (y :: l) (i + 1) = txtI y ++ tailT (l.take i)
  | 0, _ => by simp [bodyN, tailT]
  | i + 1, h => by
    have e : l.take (i + 1) = l.take i ++ [l.getD i vi0] := by
      rw [List.take_add_one]; simp [List.getD, show i < l.length by omega]
    rw [bodyN, bodyN_tail y l i (by omega), e, tailT_app, if_neg (by omega)]
    simp
theorem txtS_cons (y : VI) (l : List VI) : txtS (y :: l) = 123 :: (txtI y ++ (tailT l ++ [125])) := by
  rw [txtS, List.length_cons, bodyN_tail y l l.length (by omega), List.take_length]; simp
theorem txtI_ne {y : VI} (h : okT y) : txtI y ≠ [] := by
  obtain ⟨h1, h2⟩ := h
  cases y <;> obtain ⟨l, rfl⟩ := name_form h2 <;> simp [txtI]
theorem txtS_inj {a b : List VI} (ha : ∀ y ∈ a, okT y) (hb : ∀ y ∈ b, okT y) (e : txtS a = txtS b) : a = b := by
  cases a with
  | nil =>
    cases b with
    | nil => rfl
    | cons y b =>
      rw [txtS_cons] at e
      have hn := txtI_ne (hb y (by simp))
      have hl := congrArg List.length e
      have : 0 < (txtI y).length := List.length_pos_iff.2 hn
      simp [txtS, bodyN] at hl
      omega
  | cons x a =>
    cases b with
    | nil =>
      rw [txtS_cons] at e
      have hn := txtI_ne (ha x (by simp))
      have hl := congrArg List.length e
      have : 0 < (txtI x).length := List.length_pos_iff.2 hn
      simp [txtS, bodyN] at hl
      omega
    | cons y b =>
      rw [txtS_cons, txtS_cons, List.cons.injEq] at e
      obtain ⟨rfl, e2⟩ := txtI_pf (ha x (by simp)) (hb y (by simp)) (tailT_ends a) (tailT_ends b) e.2
      rw [tailT_inj (fun z hz => ha z (List.mem_cons_of_mem _ hz)) (fun z hz => hb z (List.mem_cons_of_mem _ hz)) e2]
theorem reads_okT {s : List SigI} {ys : List VI} (h : ReadsTo s ys) : ∀ y ∈ ys, okT y := fun y hy => by
  obtain ⟨i, hi, rfl⟩ := List.mem_iff_getElem.1 hy
  have h1 := h.2 i (by rw [← h.1]; exact hi)
  have e : ys.getD i vi0 = ys[i] := by simp [List.getD, hi]
  rw [e] at h1
  obtain ⟨h2, h3⟩ := itemOf_ok h1.2
  exact ⟨h3, by rw [h2]; exact h1.1⟩
/-- texts that are not empty are the same where the signatures are -/
theorem txtIs_same {s t : List SigI} {u v : List UInt8} (hs : TxtIs s u) (ht : TxtIs t v) (hu : u ≠ []) (hv : v ≠ []) : sisB s t = true ↔ u = v := by
  rcases hs with ⟨ys, h8, hr, ho, rfl⟩ | ⟨_, h⟩
  · rcases ht with ⟨zs, h8', hr', ho', rfl⟩ | ⟨_, h⟩
    · rw [sisB_iff]
      constructor
      · rintro rfl; rw [reads_uniq hr hr']
      · intro e
        rw [readsTo_si hr, readsTo_si hr', txtS_inj (reads_okT hr) (reads_okT hr') e]
    · exact absurd h hv
  · exact absurd h hu
end Go.Proofs.YtpoknljchikklaaGreat

/- The source of the drawn arguments. -/
set_option linter.unusedVariables false
set_option linter.unusedSimpArgs false
namespace Go.Proofs.YtpoknljchikklaaGreat
open Go.Abs

def Rd (bs : List UInt8) (p : Nat) : Box := .cells [.aslice (byteRows bs), .int .i64 p]
theorem rd_closed (n : Nat) (bs : List UInt8) (p : Nat) : boxClosed n (Rd bs p) = true := rfl
theorem byteRows_length (bs : List UInt8) : (byteRows bs).length = bs.length := by simp [byteRows]
theorem byteRows_getD {bs : List UInt8} {i : Nat} (h : i < bs.length) : (byteRows bs).getD i [] = [.int .u8 ((bs.getD i 0).toNat : Nat)] := by simp [byteRows, List.getD, h]
theorem byte_lt (b : UInt8) : (b.toNat : Int) < 256 := by have := b.toNat_lt; omega

theorem xor_wrap {X : Nat} (h : X < 2 ^ 62) : 0 ≤ IntKind.i64.wrap ((BitVec.ofInt IntKind.i64.bits (X : Int) ^^^ BitVec.ofInt IntKind.i64.bits (IntKind.i64.wrap ((X : Int).tdiv 64))).toNat : Int) := by
  have h1 : ((X : Int).tdiv 64) = ((X / 64 : Nat) : Int) := rfl
  have h2 : X / 64 < 2 ^ 62 := by omega
  have h4 : IntKind.i64.wrap ((X / 64 : Nat) : Int) = ((X / 64 : Nat) : Int) := wrap64 (by omega) (by omega)
  rw [h1, h4]
  show 0 ≤ IntKind.i64.wrap ((BitVec.ofInt 64 (X : Int) ^^^ BitVec.ofInt 64 ((X / 64 : Nat) : Int)).toNat : Int)
  have e1 : (BitVec.ofInt 64 (X : Int)).toNat = X := by rw [BitVec.toNat_ofInt]; omega
  have e2 : (BitVec.ofInt 64 ((X / 64 : Nat) : Int)).toNat = X / 64 := by rw [BitVec.toNat_ofInt]; omega
  rw [BitVec.toNat_xor, e1, e2]
  have h3 := Nat.xor_lt_two_pow h h2
  rw [wrap64 (by omega) (by omega)]
  omega

set_option maxRecDepth 100000 in
theorem spec_l17Open (bs : List UInt8) (A : List Box) : ACalls Tryz.prog 55 [.aslice (byteRows bs)] A (fun r A' => ∃ bs', bs'.length ≤ 2000 ∧ r = .ptr A.length 0 ∧ A' = A ++ [Rd bs' 0]) := by
  refine acalls_enterK (cf := cf 11 [0, 2, 5]) foll Tryz.func55 Tryz.ntmps55 (by simp [cf]) ?_
  simp only [Tryz.f55, EnterK_some, zW, zX, zD, builtinA, isLeaf, const1, ustrA, simprocAttr, ti3, ti5, ti22, ti159, cf, Tryz.results55]
  refine condK_intro (fun h => ?_) (fun h => ?_)
  · simp [byteRows_length] at h
    simp only [zW, zX, zD, builtinA, isLeaf, const1, ustrA, simprocAttr, ti3, ti5, ti22, ti159, cf, Tryz.results55]
    refine ⟨⟨by simp [byteRows], by rw [byteRows_length]; omega⟩, bs.take 2000, (by rw [List.length_take]; omega), by simp [Rd, byteRows, List.map_take]⟩
  · have h' : bs.length ≤ 2000 := by simp [byteRows_length] at h; omega
    simp only [zW, zX, zD, builtinA, isLeaf, const1, ustrA, simprocAttr, ti3, ti5, ti22, ti159, cf, Tryz.results55]
    exact ⟨bs, h', rfl⟩

set_option maxRecDepth 100000 in
theorem spec_pick (bs : List UInt8) (p : Nat) (n : Int) (i : Nat) (A : List Box) (hi : i < A.length) (hA : A.getD i .dead = Rd bs p) (hp : p < 2 ^ 40) (hn : n < 2 ^ 40) :
    ACalls Tryz.prog 57 [.ptr i 0, .int .i64 n] A (fun r A' => ∃ j : Int, r = .int .i64 j ∧ 0 ≤ j ∧ (1 ≤ n → j < n) ∧ A' = A.set i (Rd bs (p + 1))) := by
  rw [Rd] at hA
  have hp1 : IntKind.i64.wrap ((p : Int) + 1) = ((p + 1 : Nat) : Int) := by rw [wrap64 (by omega) (by omega)]; rfl
  refine acalls_enter (cf := cf 99 [0, 1, 4, 5, 6, 24, 36]) foll Tryz.func57 Tryz.ntmps57 (by simp [cf]) ?_
  simp only [Tryz.f57, EnterK_some, zW, zX, zD, builtinA, isLeaf, const1, ustrA, simprocAttr, ti3, ti5, ti22, ti159, cf, Tryz.results57]
  simp only [zW, zX, zD, builtinA, isLeaf, const1, ustrA, simprocAttr, ti3, ti5, ti22, ti159, cf, Tryz.results57, hA, hi, hp1]
  have hout : Outer A (A.set i (.cells [.aslice (byteRows bs), .int .i64 ((p + 1 : Nat) : Int)])) := outer_set0 A i _ rfl
  by_cases hn1 : n < 1
  · have e1 : decide (n < 1) = true := decide_eq_true hn1
    simp only [zW, zX, zD, builtinA, isLeaf, const1, ustrA, simprocAttr, ti3, ti5, ti22, ti159, cf, Tryz.results57, hA, hi, hp1, e1]
    exact ⟨hout, 0, rfl, by omega, by omega, rfl⟩
  · have e1 : decide (n < 1) = false := decide_eq_false hn1
    simp only [zW, zX, zD, builtinA, isLeaf, const1, ustrA, simprocAttr, ti3, ti5, ti22, ti159, cf, Tryz.results57, hA, hi, hp1, e1, byteRows_length]
    by_cases hb : bs.length = 0
    · have e2 : decide ((bs.length : Int) = 0) = true := decide_eq_true (by omega)
      simp only [zW, zX, zD, builtinA, isLeaf, const1, ustrA, simprocAttr, ti3, ti5, ti22, ti159, cf, Tryz.results57, hA, hi, hp1, e1, e2, byteRows_length]
      exact ⟨hout, 0, rfl, by omega, by omega, rfl⟩
    · have e2 : decide ((bs.length : Int) = 0) = false := decide_eq_false (by omega)
      have hp2 : IntKind.i64.wrap (((p + 1 : Nat) : Int) - 1) = (p : Int) := by rw [wrap64 (by omega) (by omega)]; omega
      simp only [zW, zX, zD, builtinA, isLeaf, const1, ustrA, simprocAttr, ti3, ti5, ti22, ti159, cf, Tryz.results57, hA, hi, hp1, hp2, e1, e2, byteRows_length]
      by_cases hk : p < bs.length
      · have e3 : decide ((p : Int) < bs.length) = true := decide_eq_true (by omega)
        simp only [zW, zX, zD, builtinA, isLeaf, const1, ustrA, simprocAttr, ti3, ti5, ti22, ti159, cf, Tryz.results57, hA, hi, hp1, hp2, e1, e2, e3, byteRows_length, byteRows_getD hk]
        have hb0 := byte_lt (bs.getD p 0)
        rw [wrap64 (by omega) (by omega)]
        have hr0 := Int.tmod_nonneg n (show (0 : Int) ≤ ((bs.getD p 0).toNat : Nat) by omega)
        have hr1 := Int.tmod_lt_of_pos (((bs.getD p 0).toNat : Nat) : Int) (show (0 : Int) < n by omega)
        exact ⟨by omega, by omega, hout, _, rfl, hr0, fun _ => hr1, rfl⟩
      · have e3 : decide ((p : Int) < bs.length) = false := decide_eq_false (by omega)
        simp only [zW, zX, zD, builtinA, isLeaf, const1, ustrA, simprocAttr, ti3, ti5, ti22, ti159, cf, Tryz.results57, hA, hi, hp1, hp2, e1, e2, e3, byteRows_length]
        refine .inl ⟨by kernel_rfl, by kernel_rfl, ?_⟩
        obtain ⟨L, hL⟩ : ∃ L, L = bs.length := ⟨_, rfl⟩
        have hL0 : 0 < L := by omega
        have hm0 : p % L < L := Nat.mod_lt _ hL0
        have hm1 : (p * 7 + 3) % L < L := Nat.mod_lt _ hL0
        have hq : p / L ≤ p := Nat.div_le_self _ _
        obtain ⟨b0, hb0⟩ : ∃ b0 : Nat, b0 = (bs.getD (p % L) 0).toNat := ⟨_, rfl⟩
        obtain ⟨b1, hb1⟩ : ∃ b1 : Nat, b1 = (bs.getD ((p * 7 + 3) % L) 0).toNat := ⟨_, rfl⟩
        have hb0l : b0 < 256 := by rw [hb0]; exact (bs.getD (p % L) 0).toNat_lt
        have hb1l : b1 < 256 := by rw [hb1]; exact (bs.getD ((p * 7 + 3) % L) 0).toNat_lt
        have g0 : (byteRows bs).getD (p % L) [] = [.int .u8 (b0 : Int)] := by rw [byteRows_getD (by omega), hb0]
        have g1 : (byteRows bs).getD ((p * 7 + 3) % L) [] = [.int .u8 (b1 : Int)] := by rw [byteRows_getD (by omega), hb1]
        obtain ⟨q, hqd⟩ : ∃ q, q = p / L := ⟨_, rfl⟩
        have t0 : ((p : Int)).tmod (L : Int) = ((p % L : Nat) : Int) := rfl
        have t1 : (((p * 7 + 3 : Nat)) : Int).tmod (L : Int) = (((p * 7 + 3) % L : Nat) : Int) := rfl
        have t2 : ((p : Int)).tdiv (L : Int) = (q : Int) := by rw [hqd]; rfl
        have w0 : IntKind.i64.wrap (b0 : Int) = b0 := wrap64 (by omega) (by omega)
        have w1 : IntKind.i64.wrap ((b0 : Int) * 131) = ((b0 * 131 : Nat) : Int) := by rw [wrap64 (by omega) (by omega)]; omega
        have w2 : IntKind.i64.wrap (b1 : Int) = b1 := wrap64 (by omega) (by omega)
        have w3 : IntKind.i64.wrap ((b1 : Int) * 1117) = ((b1 * 1117 : Nat) : Int) := by rw [wrap64 (by omega) (by omega)]; omega
        have w4 : IntKind.i64.wrap ((p : Int) * 7) = ((p * 7 : Nat) : Int) := by rw [wrap64 (by omega) (by omega)]; omega
        have w5 : IntKind.i64.wrap (((p * 7 : Nat) : Int) + 3) = ((p * 7 + 3 : Nat) : Int) := by rw [wrap64 (by omega) (by omega)]; omega
        have w6 : IntKind.i64.wrap (((b0 * 131 : Nat) : Int) + ((b1 * 1117 : Nat) : Int)) = ((b0 * 131 + b1 * 1117 : Nat) : Int) := by rw [wrap64 (by omega) (by omega)]; omega
        have w7 : IntKind.i64.wrap ((p : Int) * 29) = ((p * 29 : Nat) : Int) := by rw [wrap64 (by omega) (by omega)]; omega
        have w8 : IntKind.i64.wrap (((b0 * 131 + b1 * 1117 : Nat) : Int) + ((p * 29 : Nat) : Int)) = ((b0 * 131 + b1 * 1117 + p * 29 : Nat) : Int) := by rw [wrap64 (by omega) (by omega)]; omega
        have w9 : IntKind.i64.wrap (q : Int) = q := wrap64 (by omega) (by omega)
        have wa : IntKind.i64.wrap ((q : Int) * 53) = ((q * 53 : Nat) : Int) := by rw [wrap64 (by omega) (by omega)]; omega
        have wb : IntKind.i64.wrap (((b0 * 131 + b1 * 1117 + p * 29 : Nat) : Int) + ((q * 53 : Nat) : Int)) = ((b0 * 131 + b1 * 1117 + p * 29 + q * 53 : Nat) : Int) := by rw [wrap64 (by omega) (by omega)]; omega
        rw [← hL]
        simp only [zW, zX, zD, builtinA, isLeaf, const1, ustrA, simprocAttr, ti3, ti5, ti22, ti159, cf, Tryz.results57, hA, hi, hp1, hp2, e1, e2, e3, byteRows_length, ← hL, t0, t1, t2, w0, w1, w2, w3, w4, w5, w6, w7, w8, w9, wa, wb, g0, g1]
        obtain ⟨X, hX⟩ : ∃ X, X = b0 * 131 + b1 * 1117 + p * 29 + q * 53 := ⟨_, rfl⟩
        have hXl : X < 2 ^ 62 := by omega
        rw [← hX]
        have hx := xor_wrap hXl
        refine ⟨by omega, ⟨by omega, by omega⟩, by omega, ⟨by omega, by omega⟩, by omega, by omega, hout, _, rfl, Int.tmod_nonneg n hx, fun _ => Int.tmod_lt_of_pos _ (by omega), rfl⟩

set_option maxRecDepth 100000 in
theorem spec_of (bs : List UInt8) (p : Nat) (l : List (List UInt8)) (i : Nat) (A : List Box) (hi : i < A.length) (hA : A.getD i .dead = Rd bs p) (hp : p < 2 ^ 40) (hl : 0 < l.length ∧ l.length < 1000) :
    ACalls Tryz.prog 114 [.ptr i 0, .slice (l.map fun s => [.str s])] A (fun r A' => ∃ s, r = .str s ∧ s ∈ l ∧ A' = A.set i (Rd bs (p + 1))) := by
  have hll : (l.map fun s => [AV.str s]).length = l.length := by simp
  refine acalls_enter (cf := cf 12 [0, 1, 4]) foll Tryz.func114 Tryz.ntmps114 (by simp [cf]) ?_
  simp only [Tryz.f114, EnterK_some, zW, zX, zD, builtinA, isLeaf, const1, ustrA, simprocAttr, ti9, ti69, ca57, cf, Tryz.results114]
  simp only [hll]
  refine callK_intro (by simp only [zW, zX, zD, builtinA, isLeaf, const1, ustrA, simprocAttr]; rfl) (spec_pick bs p _ i _ hi hA hp (by omega)) ?_ rfl
  rintro v A' ⟨j, rfl, h0, h1, rfl⟩
  obtain ⟨k, rfl⟩ := Int.eq_ofNat_of_zero_le h0
  have hk : k < l.length := by have := h1 (by omega); omega
  have hg : (l.map fun s => [AV.str s]).getD k [] = [.str (l.getD k [])] := by simp [List.getD, hk]
  simp only [zW, zX, zD, builtinA, isLeaf, const1, ustrA, simprocAttr, ti9, ti69, ca57, cf, Tryz.results114, hi, hll, hg]
  exact ⟨⟨by omega, by omega⟩, outer_set0 A i _ (rd_closed _ _ _), _, rfl, Abs.getD_mem hk⟩

set_option maxRecDepth 100000 in
theorem spec_num (bs : List UInt8) (p : Nat) (l : List Int) (i : Nat) (A : List Box) (hi : i < A.length) (hA : A.getD i .dead = Rd bs p) (hp : p < 2 ^ 40) (hl : 0 < l.length ∧ l.length < 1000) :
    ACalls Tryz.prog 112 [.ptr i 0, .slice (l.map fun s => [.int .i64 s])] A (fun r A' => ∃ s, r = .int .i64 s ∧ s ∈ l ∧ A' = A.set i (Rd bs (p + 1))) := by
  have hll : (l.map fun s => [AV.int .i64 s]).length = l.length := by simp
  refine acalls_enter (cf := cf 12 [0, 1, 4]) foll Tryz.func112 Tryz.ntmps112 (by simp [cf]) ?_
  simp only [Tryz.f112, EnterK_some, zW, zX, zD, builtinA, isLeaf, const1, ustrA, simprocAttr, ti3, ti161, ca57, cf, Tryz.results112]
  simp only [hll]
  refine callK_intro (by simp only [zW, zX, zD, builtinA, isLeaf, const1, ustrA, simprocAttr]; rfl) (spec_pick bs p _ i _ hi hA hp (by omega)) ?_ rfl
  rintro v A' ⟨j, rfl, h0, h1, rfl⟩
  obtain ⟨k, rfl⟩ := Int.eq_ofNat_of_zero_le h0
  have hk : k < l.length := by have := h1 (by omega); omega
  have hg : (l.map fun s => [AV.int .i64 s]).getD k [] = [.int .i64 (l.getD k 0)] := by simp [List.getD, hk]
  simp only [zW, zX, zD, builtinA, isLeaf, const1, ustrA, simprocAttr, ti3, ti161, ca57, cf, Tryz.results112, hi, hll, hg]
  exact ⟨⟨by omega, by omega⟩, outer_set0 A i _ (rd_closed _ _ _), _, rfl, Abs.getD_mem hk⟩

end Go.Proofs.YtpoknljchikklaaGreat

/- Drawn types. -/
set_option linter.unusedVariables false
set_option linter.unusedSimpArgs false
namespace Go.Proofs.YtpoknljchikklaaGreat
open Go.Abs

theorem enc_closed (t : Ty) (n : Nat) : (enc t).all (closed1 n) = true := by cases t; rfl
theorem enc_drop (t : Ty) : List.drop 4 (enc t) = [] := by cases t; rw [enc]; rfl
set_option maxRecDepth 100000 in
theorem spec_l1Num (A : List Box) : ACalls Tryz.prog 117 [] A (fun r A' => r = .agg (enc (toTy .num)) ∧ A' = A) := by
  rw [toTy, enc, encs]
  refine acalls_enter (cf := cf 2 [0]) foll Tryz.func117 Tryz.ntmps117 (by simp [cf]) ?_
  simp only [Tryz.f117, EnterK_some, zW, zX, zD, builtinA, isLeaf, const1, Nat.reduceAdd, Nat.reduceMul, Nat.reduceSub, Nat.reduceLT, Nat.reduceLeDiff, Nat.reduceEqDiff, Nat.reduceBEq, Nat.reduceBNe, reduceIte, reduceCtorEq, Int.reduceToNat, Int.reduceLT, Int.reduceLE, Int.reduceEq, Int.reduceNe, Int.reduceNeg, ustrA, ti31, cf, Tryz.results117]
set_option maxRecDepth 100000 in
theorem spec_l1Name (m n : List UInt8) (A : List Box) : ACalls Tryz.prog 116 [.str m, .str n] A (fun r A' => r = .agg (enc (toTy (.nm m n))) ∧ A' = A) := by
  rw [toTy, enc, encs]
  refine acalls_enter (cf := cf 8 [0, 1, 4]) foll Tryz.func116 Tryz.ntmps116 (by simp [cf]) ?_
  simp only [Tryz.f116, EnterK_some, zW, zX, zD, builtinA, isLeaf, const1, Nat.reduceAdd, Nat.reduceMul, Nat.reduceSub, Nat.reduceLT, Nat.reduceLeDiff, Nat.reduceEqDiff, Nat.reduceBEq, Nat.reduceBNe, reduceIte, reduceCtorEq, Int.reduceToNat, Int.reduceLT, Int.reduceLE, Int.reduceEq, Int.reduceNe, Int.reduceNeg, ustrA, ti31, cf, Tryz.results116]
set_option maxRecDepth 100000 in
theorem spec_l1Fun (a b : Ty) (A : List Box) : ACalls Tryz.prog 166 [.agg (enc a), .agg (enc b)] A (fun r A' => r = .agg (enc (.mk 2 [] [] [a, b])) ∧ A' = A) := by
  rw [enc, encs, encs, encs]
  refine acalls_enter (cf := cf 9 [0, 1, 2, 3, 4]) foll Tryz.func166 Tryz.ntmps166 (by simp [cf]) ?_
  simp only [Tryz.f166, EnterK_some, zW, zX, zD, builtinA, isLeaf, const1, Nat.reduceAdd, Nat.reduceMul, Nat.reduceSub, Nat.reduceLT, Nat.reduceLeDiff, Nat.reduceEqDiff, Nat.reduceBEq, Nat.reduceBNe, reduceIte, reduceCtorEq, Int.reduceToNat, Int.reduceLT, Int.reduceLE, Int.reduceEq, Int.reduceNe, Int.reduceNeg, ustrA, ti29, ti31, cf, Tryz.results166]
  simp only [enc_take, enc_length]
  simp only [zW, zX, zD, builtinA, isLeaf, const1, Nat.reduceAdd, Nat.reduceMul, Nat.reduceSub, Nat.reduceLT, Nat.reduceLeDiff, Nat.reduceEqDiff, Nat.reduceBEq, Nat.reduceBNe, reduceIte, reduceCtorEq, Int.reduceToNat, Int.reduceLT, Int.reduceLE, Int.reduceEq, Int.reduceNe, Int.reduceNeg, ustrA, ti29, ti31, cf, Tryz.results166, frzL_enc, enc_take, enc_length]
  exact ⟨fun v hv => enc_leaf a v hv, fun v hv => enc_leaf b v hv⟩
end Go.Proofs.YtpoknljchikklaaGreat
