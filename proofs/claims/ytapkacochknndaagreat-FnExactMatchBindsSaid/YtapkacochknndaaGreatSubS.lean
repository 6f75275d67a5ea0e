/- The model's SubstType. -/
import Derived.Test.YtapkacochknndaaGreatSubI
import Derived.Test.YtapkacochknndaaGreatAbsW3
set_option linter.unusedVariables false
set_option linter.unusedSimpArgs false
namespace Go.Proofs.YtapkacochknndaaGreat
open Go.Abs

def lookT (m n : List UInt8) (t : Ty) : List BdI → Ty
  | [] => t
  | b :: bs => if b.mod = m ∧ b.name = n then b.typ else lookT m n t bs
theorem bd_drop {l : List BdI} {i : Nat} (h : i < l.length) : l.drop i = l.getD i bd0 :: l.drop (i + 1) := by
  have : l.getD i bd0 = l[i] := by simp [List.getD, h]
  rw [this, List.getElem_cons_drop h]
theorem sub_closed (t : Ty) (n : Nat) : (enc t).all (closed1 n) = true := by cases t; rw [enc]; rfl
theorem sub_drop (t : Ty) : List.drop 4 (enc t) = [] := by cases t; rw [enc]; rfl
mutual
def subT (bs : List BdI) : Ty → Ty
  | .mk k m n ks => if k = 3 then lookT m n (.mk k m n ks) bs else .mk k [] [] (subTs bs ks)
def subTs (bs : List BdI) : List Ty → List Ty
  | [] => []
  | t :: l => subT bs t :: subTs bs l
end
theorem subTs_map (bs : List BdI) : ∀ l, subTs bs l = l.map (subT bs)
  | [] => by simp [subTs]
  | t :: l => by rw [subTs, subTs_map bs l]; rfl

set_option maxRecDepth 100000 in
theorem spec_l1Look (bs : List BdI) (hl : bs.length ≤ 1048576) (k : Int) (m n : List UInt8) (ks : List Ty) (A : List Box) : ACalls Tryz.prog 140 [.slice (bEs bs), .agg (enc (.mk k m n ks))] A (fun r A' => (∃ b, r = .tuple [.agg (enc (lookT m n (.mk k m n ks) bs)), .bool b]) ∧ A' = A) := by
  rw [bT4 (.mk k m n ks)]
  simp only [Ty.kind, Ty.mod, Ty.name, Ty.kids]
  refine acalls_enter (cf := cf 37 [0, 1, 3, 4, 5, 6, 10, 30]) foll Tryz.func140 Tryz.ntmps140 (by simp [cf]) ?_
  simp only [Tryz.f140, EnterK_some, zW, zX, zD, builtinA, isLeaf, const1, Nat.reduceAdd, Nat.reduceMul, Nat.reduceSub, Nat.reduceLT, Nat.reduceLeDiff, Nat.reduceEqDiff, Nat.reduceBEq, Nat.reduceBNe, reduceIte, reduceCtorEq, Int.reduceToNat, Int.reduceLT, Int.reduceLE, Int.reduceEq, Int.reduceNe, Int.reduceNeg, ustrA, ti3, ti9, ti38, ti57, ti91, cf, Tryz.results140]
  refine aloop_intro [0, 3, 4, 6] (fun e A' => ∃ i, i ≤ bs.length ∧ lookT m n (.mk k m n ks) (bs.drop i) = lookT m n (.mk k m n ks) bs ∧ e = [(0, .slice (bEs bs)), (3, .ptr A.length 0), (4, .ptr (A.length + 1) 0), (6, .int .i64 i)] ∧ A' = A ++ [.cells [.int .i64 k, .str m, .str n, .slice (encs ks)], .cells [.int .i64 0, .str [], .str [], .nils]]) (fun e _ => bs.length - (intOf (Abs.look 6 e)).toNat) ?_ ?_
  · simp only [zW, zX, zD, builtinA, isLeaf, const1, Nat.reduceAdd, Nat.reduceMul, Nat.reduceSub, Nat.reduceLT, Nat.reduceLeDiff, Nat.reduceEqDiff, Nat.reduceBEq, Nat.reduceBNe, reduceIte, reduceCtorEq, Int.reduceToNat, Int.reduceLT, Int.reduceLE, Int.reduceEq, Int.reduceNe, Int.reduceNeg, ustrA, ti3, ti9, ti38, ti57, ti91, cf, Tryz.results140]
    exact ⟨0, by omega, rfl, rfl⟩
  · rintro e A' ⟨i, hi, hq, rfl, rfl⟩
    simp only [zW, zX, zD, builtinA, isLeaf, const1, Nat.reduceAdd, Nat.reduceMul, Nat.reduceSub, Nat.reduceLT, Nat.reduceLeDiff, Nat.reduceEqDiff, Nat.reduceBEq, Nat.reduceBNe, reduceIte, reduceCtorEq, Int.reduceToNat, Int.reduceLT, Int.reduceLE, Int.reduceEq, Int.reduceNe, Int.reduceNeg, ustrA, ti3, ti9, ti38, ti57, ti91, cf, Tryz.results140, bEs_length]
    refine condK_intro (fun h2 => ?_) (fun h2 => ?_)
    · have hi2 : i < bs.length := by simpa using h2
      have he := bEs_getD hi2
      have hi1 : IntKind.i64.wrap ((i : Int) + 1) = ((i + 1 : Nat) : Int) := by rw [wrap64 (by omega) (by omega)]; rfl
      have pi : (0 : Int) ≤ (i : Int) ∧ (i : Int) < (bs.length : Int) := ⟨by omega, by omega⟩
      rw [bd_drop hi2, lookT] at hq
      generalize bs.getD i bd0 = b at *
      simp only [bE] at he
      simp only [zW, zX, zD, builtinA, isLeaf, const1, Nat.reduceAdd, Nat.reduceMul, Nat.reduceSub, Nat.reduceLT, Nat.reduceLeDiff, Nat.reduceEqDiff, Nat.reduceBEq, Nat.reduceBNe, reduceIte, reduceCtorEq, Int.reduceToNat, Int.reduceLT, Int.reduceLE, Int.reduceEq, Int.reduceNe, Int.reduceNeg, ustrA, ti3, ti9, ti38, ti57, ti91, cf, Tryz.results140, he, bEs_length]
      refine .inl ⟨by kernel_rfl, by kernel_rfl, pi, ?_⟩
      by_cases k1 : b.mod = m
      · simp only [zW, zX, zD, builtinA, isLeaf, const1, Nat.reduceAdd, Nat.reduceMul, Nat.reduceSub, Nat.reduceLT, Nat.reduceLeDiff, Nat.reduceEqDiff, Nat.reduceBEq, Nat.reduceBNe, reduceIte, reduceCtorEq, Int.reduceToNat, Int.reduceLT, Int.reduceLE, Int.reduceEq, Int.reduceNe, Int.reduceNeg, ustrA, ti3, ti9, ti38, ti57, ti91, cf, Tryz.results140, decide_eq_true k1, he, bEs_length]
        refine ⟨pi, ?_⟩
        by_cases k2 : b.name = n
        · rw [if_pos ⟨k1, k2⟩] at hq
          simp only [zW, zX, zD, builtinA, isLeaf, const1, Nat.reduceAdd, Nat.reduceMul, Nat.reduceSub, Nat.reduceLT, Nat.reduceLeDiff, Nat.reduceEqDiff, Nat.reduceBEq, Nat.reduceBNe, reduceIte, reduceCtorEq, Int.reduceToNat, Int.reduceLT, Int.reduceLE, Int.reduceEq, Int.reduceNe, Int.reduceNeg, ustrA, ti3, ti9, ti38, ti57, ti91, cf, Tryz.results140, decide_eq_true k2, he, bEs_length]
          refine ⟨pi, true, ?_⟩
          rw [← hq, bT4]
        · rw [if_neg (fun h => k2 h.2)] at hq
          simp only [zW, zX, zD, builtinA, isLeaf, const1, Nat.reduceAdd, Nat.reduceMul, Nat.reduceSub, Nat.reduceLT, Nat.reduceLeDiff, Nat.reduceEqDiff, Nat.reduceBEq, Nat.reduceBNe, reduceIte, reduceCtorEq, Int.reduceToNat, Int.reduceLT, Int.reduceLE, Int.reduceEq, Int.reduceNe, Int.reduceNeg, ustrA, ti3, ti9, ti38, ti57, ti91, cf, Tryz.results140, decide_eq_false k2, hi1, LoopK_eq]
          refine ⟨⟨i + 1, by omega, hq, rfl⟩, ?_⟩
          simp only [intOf]; omega
      · rw [if_neg (fun h => k1 h.1)] at hq
        simp only [zW, zX, zD, builtinA, isLeaf, const1, Nat.reduceAdd, Nat.reduceMul, Nat.reduceSub, Nat.reduceLT, Nat.reduceLeDiff, Nat.reduceEqDiff, Nat.reduceBEq, Nat.reduceBNe, reduceIte, reduceCtorEq, Int.reduceToNat, Int.reduceLT, Int.reduceLE, Int.reduceEq, Int.reduceNe, Int.reduceNeg, ustrA, ti3, ti9, ti38, ti57, ti91, cf, Tryz.results140, decide_eq_false k1, hi1, LoopK_eq]
        refine ⟨⟨i + 1, by omega, hq, rfl⟩, ?_⟩
        simp only [intOf]; omega
    · have : i = bs.length := by simp at h2; omega
      subst this
      rw [List.drop_length, lookT] at hq
      simp only [zW, zX, zD, builtinA, isLeaf, const1, Nat.reduceAdd, Nat.reduceMul, Nat.reduceSub, Nat.reduceLT, Nat.reduceLeDiff, Nat.reduceEqDiff, Nat.reduceBEq, Nat.reduceBNe, reduceIte, reduceCtorEq, Int.reduceToNat, Int.reduceLT, Int.reduceLE, Int.reduceEq, Int.reduceNe, Int.reduceNeg, ustrA, ti3, ti9, ti38, ti57, ti91, cf, Tryz.results140]
      refine ⟨false, ?_⟩
      rw [← hq, bT4]; rfl

theorem lookT_sz (bs : List BdI) (hz : ∀ b ∈ bs, sz b.typ ≤ 1048576) (m n : List UInt8) (t : Ty) (ht : sz t ≤ 1048576) : sz (lookT m n t bs) ≤ 1048576 := by
  induction bs with
  | nil => exact ht
  | cons b bs ih =>
    rw [lookT]
    split
    · exact hz _ (by simp)
    · exact ih fun x hx => hz x (by simp [hx])

set_option maxRecDepth 100000 in
theorem spec_l1Copy0 (τ : Ty) (hτ : sz τ ≤ 1048576) : ∀ (A : List Box), ACalls Tryz.prog 57 [.agg (enc τ)] A (fun r A' => r = .agg (enc τ) ∧ A' = A) := by
  induction τ using Ty.ind with
  | h k m n ks ih =>
    intro A
    have hks : ks.length ≤ 1048576 := by rw [sz] at hτ; omega
    have hok : ∀ t ∈ ks, sz t ≤ 1048576 := fun t ht => by rw [sz] at hτ; have := szs_mem ht; omega
    rw [enc]
    refine acalls_enter (cf := cf 31 [0, 1, 2, 3, 4, 16]) foll Tryz.func57 Tryz.ntmps57 (by simp [cf]) ?_
    simp only [Tryz.f57, EnterK_some, zW, zX, zD, builtinA, isLeaf, const1, Nat.reduceAdd, Nat.reduceMul, Nat.reduceSub, Nat.reduceLT, Nat.reduceLeDiff, Nat.reduceEqDiff, Nat.reduceBEq, Nat.reduceBNe, reduceIte, reduceCtorEq, Int.reduceToNat, Int.reduceLT, Int.reduceLE, Int.reduceEq, Int.reduceNe, Int.reduceNeg, ustrA, ti3, ti9, ti55, ti57, ca57, cf, Tryz.results57]
    refine aloop_intro [1, 2, 3, 4] (fun e A' => ∃ i B x, i ≤ ks.length ∧ e = [(1, .ptr A.length 0), (2, .ptr (A.length + 1) 0), (3, .ptr (A.length + 2) 0), (4, .int .i64 i)] ∧ A' = A ++ (.cells [.int .i64 k, .str m, .str n, .slice (encs ks)] :: .cells [.int .i64 0, .str [], .str [], .nils] :: .cells [.int .i64 k, .str m, .str n, x] :: B) ∧
      ((i = 0 ∧ x = .nils ∧ B = []) ∨ (∃ j, x = .own (A.length + (j + 3)) ∧ j < B.length ∧ B.getD j .dead = .row 4 (encs (ks.take i)) 0))) (fun e _ => ks.length - (intOf (Abs.look 4 e)).toNat) ?_ ?_
    · simp only [zW, zX, zD, builtinA, isLeaf, const1, Nat.reduceAdd, Nat.reduceMul, Nat.reduceSub, Nat.reduceLT, Nat.reduceLeDiff, Nat.reduceEqDiff, Nat.reduceBEq, Nat.reduceBNe, reduceIte, reduceCtorEq, Int.reduceToNat, Int.reduceLT, Int.reduceLE, Int.reduceEq, Int.reduceNe, Int.reduceNeg, ustrA, ti3, ti9, ti55, ti57, ca57, cf, Tryz.results57]
      exact ⟨0, [], .nils, by omega, rfl, rfl, .inl ⟨rfl, rfl, rfl⟩⟩
    · rintro e A' ⟨i, B, x, hi, rfl, rfl, hx⟩
      simp only [zW, zX, zD, builtinA, isLeaf, const1, Nat.reduceAdd, Nat.reduceMul, Nat.reduceSub, Nat.reduceLT, Nat.reduceLeDiff, Nat.reduceEqDiff, Nat.reduceBEq, Nat.reduceBNe, reduceIte, reduceCtorEq, Int.reduceToNat, Int.reduceLT, Int.reduceLE, Int.reduceEq, Int.reduceNe, Int.reduceNeg, ustrA, ti3, ti9, ti55, ti57, ca57, cf, Tryz.results57, encs_length]
      refine condK_intro (fun h2 => ?_) (fun h2 => ?_)
      · have hi2 : i < ks.length := by simpa using h2
        have he := encs_getD hi2
        have hmm := getD_mem hi2
        have hi1 : IntKind.i64.wrap ((i : Int) + 1) = ((i + 1 : Nat) : Int) := by rw [wrap64 (by omega) (by omega)]; rfl
        rcases hx with ⟨rfl, rfl, rfl⟩ | ⟨j, rfl, hj, hg⟩
        · simp only [wpc_skip, AThen_normal, wpc_block, wpc_seq, wpc_drawn]
          refine .inr (drawE_intro [(false, 0, 2), (false, 0, 2), (false, 0, 0), (false, 0, 0), (false, 0, 0), (false, 0, 0), (false, 0, 0), (true, 0, 0), (true, 1, 1), (true, 2, 2), (false, 3, 3), (true, 3, 3)] [A ++ [.cells [.int .i64 k, .str m, .str n, .slice (encs ks)], .cells [.int .i64 0, .str [], .str [], .nils], .cells [.int .i64 k, .str m, .str n, .nils]], A ++ [.cells [.int .i64 k, .str m, .str n, .slice (encs ks)], .cells [.int .i64 0, .str [], .str [], .nils], .cells [.int .i64 k, .str m, .str n, .nils]], A ++ [.cells [.int .i64 k, .str m, .str n, .slice (encs ks)], .cells [.int .i64 0, .str [], .str [], .nils], .cells [.int .i64 k, .str m, .str n, .nils], .row 4 [enc (ks.getD 0 ty0)] 0], A ++ [.cells [.int .i64 k, .str m, .str n, .slice (encs ks)], .cells [.int .i64 0, .str [], .str [], .nils], .cells [.int .i64 k, .str m, .str n, .nils], .row 4 [enc (ks.getD 0 ty0)] 0, .row 4 [enc (ks.getD 0 ty0)] 0], A ++ [.cells [.int .i64 k, .str m, .str n, .slice (encs ks)], .cells [.int .i64 0, .str [], .str [], .nils], .cells [.int .i64 k, .str m, .str n, .own (A.length + 4)], .row 4 [enc (ks.getD 0 ty0)] 0, .row 4 [enc (ks.getD 0 ty0)] 0]] 4 rfl (by kernel_rfl) (by kernel_rfl) (by kernel_rfl) (by kernel_rfl) (by kernel_rfl) (by kernel_rfl) ?_)
          simp only [zW, zX, zD, builtinA, isLeaf, const1, Nat.reduceAdd, Nat.reduceMul, Nat.reduceSub, Nat.reduceLT, Nat.reduceLeDiff, Nat.reduceEqDiff, Nat.reduceBEq, Nat.reduceBNe, reduceIte, reduceCtorEq, Int.reduceToNat, Int.reduceLT, Int.reduceLE, Int.reduceEq, Int.reduceNe, Int.reduceNeg, ustrA, ti3, ti9, ti55, ti57, ca57, cf, Tryz.results57, he, enc_length, enc_take, sub_drop, frzL_enc, sub_closed, Option.map_some, encs_length]
          refine ⟨⟨by omega, by omega⟩, ?_⟩
          refine callE_intro (by simp only [zW, zX, zD, builtinA, isLeaf, const1, Nat.reduceAdd, Nat.reduceMul, Nat.reduceSub, Nat.reduceLT, Nat.reduceLeDiff, Nat.reduceEqDiff, Nat.reduceBEq, Nat.reduceBNe, reduceIte, reduceCtorEq, Int.reduceToNat, Int.reduceLT, Int.reduceLE, Int.reduceEq, Int.reduceNe, Int.reduceNeg, ustrA, enc_length, enc_take, sub_drop, frzL_enc, sub_closed, Option.map_some] <;> rfl) (ih _ hmm (hok _ hmm) _) ?_ rfl rfl
          simp only [zW, zX, zD, builtinA, isLeaf, const1, Nat.reduceAdd, Nat.reduceMul, Nat.reduceSub, Nat.reduceLT, Nat.reduceLeDiff, Nat.reduceEqDiff, Nat.reduceBEq, Nat.reduceBNe, reduceIte, reduceCtorEq, Int.reduceToNat, Int.reduceLT, Int.reduceLE, Int.reduceEq, Int.reduceNe, Int.reduceNeg, ustrA, ti3, ti9, ti55, ti57, ca57, cf, Tryz.results57, he, enc_length, enc_take, sub_drop, frzL_enc, sub_closed, Option.map_some, encs_length]
          have hsn : [enc (ks.getD 0 ty0)] = encs (ks.take 1) := by
            match ks, hi2 with
            | t :: l, _ => simp [encs]
          simp only [zW, zX, zD, builtinA, isLeaf, const1, Nat.reduceAdd, Nat.reduceMul, Nat.reduceSub, Nat.reduceLT, Nat.reduceLeDiff, Nat.reduceEqDiff, Nat.reduceBEq, Nat.reduceBNe, reduceIte, reduceCtorEq, Int.reduceToNat, Int.reduceLT, Int.reduceLE, Int.reduceEq, Int.reduceNe, Int.reduceNeg, ustrA, ti3, ti9, ti55, ti57, ca57, cf, Tryz.results57, hi1, LoopK_eq]
          refine ⟨fun v hv => enc_leaf _ v hv, fun r hr => by rw [List.mem_singleton.1 hr, enc_length], ⟨0 + 1, [.row 4 [enc (ks.getD 0 ty0)] 0, .row 4 [enc (ks.getD 0 ty0)] 0], _, by omega, rfl, rfl, .inr ⟨1, rfl, by simp, by rw [hsn]; rfl⟩⟩, ?_⟩
          simp only [intOf]
          omega
        · have hsn : encs (ks.take i) ++ [enc (ks.getD i ty0)] = encs (ks.take (i + 1)) := by
            rw [encs_map, encs_map, List.take_add_one, List.map_append]
            simp [List.getD, hi2]
          simp only [wpc_skip, AThen_normal, wpc_block, wpc_seq, wpc_drawn]
          refine .inr (drawE_intro [(false, 0, 2), (false, 0, 2), (false, 0, 0), (false, 0, 0), (false, 0, 0), (false, 0, 0), (false, 0, 0), (true, 0, 0), (true, 1, 1), (true, 2, 2), (false, 3, 3), (true, 3, 3)] [A ++ (.cells [.int .i64 k, .str m, .str n, .slice (encs ks)] :: .cells [.int .i64 0, .str [], .str [], .nils] :: .cells [.int .i64 k, .str m, .str n, .own (A.length + (j + 3))] :: B), A ++ (.cells [.int .i64 k, .str m, .str n, .slice (encs ks)] :: .cells [.int .i64 0, .str [], .str [], .nils] :: .cells [.int .i64 k, .str m, .str n, .own (A.length + (j + 3))] :: B), A ++ (.cells [.int .i64 k, .str m, .str n, .slice (encs ks)] :: .cells [.int .i64 0, .str [], .str [], .nils] :: .cells [.int .i64 k, .str m, .str n, .own (A.length + (j + 3))] :: (B ++ [.row 4 [enc (ks.getD i ty0)] 0])), A ++ (.cells [.int .i64 k, .str m, .str n, .slice (encs ks)] :: .cells [.int .i64 0, .str [], .str [], .nils] :: .cells [.int .i64 k, .str m, .str n, .own (A.length + (j + 3))] :: (B.set j .dead ++ [.row 4 [enc (ks.getD i ty0)] 0, .row 4 (encs (ks.take i) ++ [enc (ks.getD i ty0)]) 0])), A ++ (.cells [.int .i64 k, .str m, .str n, .slice (encs ks)] :: .cells [.int .i64 0, .str [], .str [], .nils] :: .cells [.int .i64 k, .str m, .str n, .own (A.length + (B.length + 1 + 3))] :: (B.set j .dead ++ [.row 4 [enc (ks.getD i ty0)] 0, .row 4 (encs (ks.take i) ++ [enc (ks.getD i ty0)]) 0]))] 4 rfl (by kernel_rfl) (by kernel_rfl) (by kernel_rfl) (by kernel_rfl) (by kernel_rfl) (by kernel_rfl) ?_)
          simp only [zW, zX, zD, builtinA, isLeaf, const1, Nat.reduceAdd, Nat.reduceMul, Nat.reduceSub, Nat.reduceLT, Nat.reduceLeDiff, Nat.reduceEqDiff, Nat.reduceBEq, Nat.reduceBNe, reduceIte, reduceCtorEq, Int.reduceToNat, Int.reduceLT, Int.reduceLE, Int.reduceEq, Int.reduceNe, Int.reduceNeg, ustrA, ti3, ti9, ti55, ti57, ca57, cf, Tryz.results57, he, hj, hg, enc_length, enc_take, sub_drop, frzL_enc, sub_closed, Option.map_some, encs_length]
          refine ⟨⟨by omega, by omega⟩, ?_⟩
          refine callE_intro (by simp only [zW, zX, zD, builtinA, isLeaf, const1, Nat.reduceAdd, Nat.reduceMul, Nat.reduceSub, Nat.reduceLT, Nat.reduceLeDiff, Nat.reduceEqDiff, Nat.reduceBEq, Nat.reduceBNe, reduceIte, reduceCtorEq, Int.reduceToNat, Int.reduceLT, Int.reduceLE, Int.reduceEq, Int.reduceNe, Int.reduceNeg, ustrA, enc_length, enc_take, sub_drop, frzL_enc, sub_closed, Option.map_some] <;> rfl) (ih _ hmm (hok _ hmm) _) ?_ rfl rfl
          simp only [zW, zX, zD, builtinA, isLeaf, const1, Nat.reduceAdd, Nat.reduceMul, Nat.reduceSub, Nat.reduceLT, Nat.reduceLeDiff, Nat.reduceEqDiff, Nat.reduceBEq, Nat.reduceBNe, reduceIte, reduceCtorEq, Int.reduceToNat, Int.reduceLT, Int.reduceLE, Int.reduceEq, Int.reduceNe, Int.reduceNeg, ustrA, ti3, ti9, ti55, ti57, ca57, cf, Tryz.results57, he, hj, hg, enc_length, enc_take, sub_drop, frzL_enc, sub_closed, Option.map_some, encs_length]
          simp only [zW, zX, zD, builtinA, isLeaf, const1, Nat.reduceAdd, Nat.reduceMul, Nat.reduceSub, Nat.reduceLT, Nat.reduceLeDiff, Nat.reduceEqDiff, Nat.reduceBEq, Nat.reduceBNe, reduceIte, reduceCtorEq, Int.reduceToNat, Int.reduceLT, Int.reduceLE, Int.reduceEq, Int.reduceNe, Int.reduceNeg, ustrA, ti3, ti9, ti55, ti57, ca57, cf, Tryz.results57, hi1, LoopK_eq]
          refine ⟨fun v hv => enc_leaf _ v hv, ⟨fun r hr => by rw [List.mem_singleton.1 hr, enc_length], by rw [List.length_take]; omega⟩, ⟨i + 1, B.set j .dead ++ [.row 4 [enc (ks.getD i ty0)] 0, .row 4 (encs (ks.take i) ++ [enc (ks.getD i ty0)]) 0], _, by omega, rfl, rfl, .inr ⟨B.length + 1, rfl, by simp, ?_⟩⟩, ?_⟩
          · rw [getD_sapp, hsn]; rfl
          · simp only [intOf]
            omega
      · have : i = ks.length := by simp at h2; omega
        subst this
        rw [List.take_length] at hx
        rcases hx with ⟨h0, rfl, rfl⟩ | ⟨j, rfl, hj, hg⟩
        · have : ks = [] := by cases ks with
            | nil => rfl
            | cons => simp at h0
          subst this
          simp only [zW, zX, zD, builtinA, isLeaf, const1, Nat.reduceAdd, Nat.reduceMul, Nat.reduceSub, Nat.reduceLT, Nat.reduceLeDiff, Nat.reduceEqDiff, Nat.reduceBEq, Nat.reduceBNe, reduceIte, reduceCtorEq, Int.reduceToNat, Int.reduceLT, Int.reduceLE, Int.reduceEq, Int.reduceNe, Int.reduceNeg, ustrA, ti3, ti9, ti55, ti57, ca57, cf, Tryz.results57, encs]
        · simp only [zW, zX, zD, builtinA, isLeaf, const1, Nat.reduceAdd, Nat.reduceMul, Nat.reduceSub, Nat.reduceLT, Nat.reduceLeDiff, Nat.reduceEqDiff, Nat.reduceBEq, Nat.reduceBNe, reduceIte, reduceCtorEq, Int.reduceToNat, Int.reduceLT, Int.reduceLE, Int.reduceEq, Int.reduceNe, Int.reduceNeg, ustrA, ti3, ti9, ti55, ti57, ca57, cf, Tryz.results57, hg, hj]

set_option maxRecDepth 100000 in
theorem spec_l1Subst (bs : List BdI) (hl : bs.length ≤ 1048576) (hz : ∀ b ∈ bs, sz b.typ ≤ 1048576) (τ : Ty) (hτ : sz τ ≤ 1048576) : ∀ (A : List Box), ACalls Tryz.prog 111 [.agg (enc τ), .slice (bEs bs)] A (fun r A' => r = .agg (enc (subT bs τ)) ∧ A' = A) := by
  induction τ using Ty.ind with
  | h k m n ks ih =>
    intro A
    have hks : ks.length ≤ 1048576 := by rw [sz] at hτ; omega
    have hok : ∀ t ∈ ks, sz t ≤ 1048576 := fun t ht => by rw [sz] at hτ; have := szs_mem ht; omega
    by_cases hk3 : k = 3
    · have hL := spec_l1Look bs hl k m n ks
      have hC : ∀ A, ACalls Tryz.prog 57 [.agg (enc (lookT m n (.mk k m n ks) bs))] A (fun r A' => r = .agg (enc (lookT m n (.mk k m n ks) bs)) ∧ A' = A) := fun A => spec_l1Copy0 _ (lookT_sz bs hz m n _ hτ) A
      have hs3 : subT bs (.mk k m n ks) = lookT m n (.mk k m n ks) bs := by rw [subT, if_pos hk3]
      rw [hs3]
      generalize lookT m n (.mk k m n ks) bs = ρ at *
      rw [bT4 (.mk k m n ks)] at hL ⊢
      simp only [Ty.kind, Ty.mod, Ty.name, Ty.kids] at hL ⊢
      refine acalls_enter (cf := cf 43 [0, 1, 2, 4, 5, 7, 8, 11, 27]) foll Tryz.func111 Tryz.ntmps111 (by simp [cf]) ?_
      simp only [Tryz.f111, EnterK_some, zW, zX, zD, builtinA, isLeaf, const1, Nat.reduceAdd, Nat.reduceMul, Nat.reduceSub, Nat.reduceLT, Nat.reduceLeDiff, Nat.reduceEqDiff, Nat.reduceBEq, Nat.reduceBNe, reduceIte, reduceCtorEq, Int.reduceToNat, Int.reduceLT, Int.reduceLE, Int.reduceEq, Int.reduceNe, Int.reduceNeg, ustrA, ti3, ti55, ti57, ca57, ca111, ca140, cf, Tryz.results111]
      simp only [zW, zX, zD, builtinA, isLeaf, const1, Nat.reduceAdd, Nat.reduceMul, Nat.reduceSub, Nat.reduceLT, Nat.reduceLeDiff, Nat.reduceEqDiff, Nat.reduceBEq, Nat.reduceBNe, reduceIte, reduceCtorEq, Int.reduceToNat, Int.reduceLT, Int.reduceLE, Int.reduceEq, Int.reduceNe, Int.reduceNeg, ustrA, ti3, ti55, ti57, ca57, ca111, ca140, cf, Tryz.results111, decide_eq_true hk3]
      refine callK_intro (by simp only [zW, zX, zD, builtinA, isLeaf, const1, Nat.reduceAdd, Nat.reduceMul, Nat.reduceSub, Nat.reduceLT, Nat.reduceLeDiff, Nat.reduceEqDiff, Nat.reduceBEq, Nat.reduceBNe, reduceIte, reduceCtorEq, Int.reduceToNat, Int.reduceLT, Int.reduceLE, Int.reduceEq, Int.reduceNe, Int.reduceNeg, ustrA, Option.map_some]; rfl) (hL _) ?_ rfl
      rintro r A' ⟨⟨b, rfl⟩, rfl⟩
      simp only [zW, zX, zD, builtinA, isLeaf, const1, Nat.reduceAdd, Nat.reduceMul, Nat.reduceSub, Nat.reduceLT, Nat.reduceLeDiff, Nat.reduceEqDiff, Nat.reduceBEq, Nat.reduceBNe, reduceIte, reduceCtorEq, Int.reduceToNat, Int.reduceLT, Int.reduceLE, Int.reduceEq, Int.reduceNe, Int.reduceNeg, ustrA, ti3, ti55, ti57, ca57, ca111, ca140, cf, Tryz.results111, enc_length, enc_take, sub_drop, frzL_enc, sub_closed, Option.map_some]
      refine callK_intro (by simp only [zW, zX, zD, builtinA, isLeaf, const1, Nat.reduceAdd, Nat.reduceMul, Nat.reduceSub, Nat.reduceLT, Nat.reduceLeDiff, Nat.reduceEqDiff, Nat.reduceBEq, Nat.reduceBNe, reduceIte, reduceCtorEq, Int.reduceToNat, Int.reduceLT, Int.reduceLE, Int.reduceEq, Int.reduceNe, Int.reduceNeg, ustrA, enc_length, enc_take, sub_drop, frzL_enc, sub_closed, Option.map_some]; rfl) (hC _) ?_ rfl; rintro v A' ⟨rfl, rfl⟩
      simp only [zW, zX, zD, builtinA, isLeaf, const1, Nat.reduceAdd, Nat.reduceMul, Nat.reduceSub, Nat.reduceLT, Nat.reduceLeDiff, Nat.reduceEqDiff, Nat.reduceBEq, Nat.reduceBNe, reduceIte, reduceCtorEq, Int.reduceToNat, Int.reduceLT, Int.reduceLE, Int.reduceEq, Int.reduceNe, Int.reduceNeg, ustrA, ti3, ti55, ti57, ca57, ca111, ca140, cf, Tryz.results111, enc_length, enc_take, sub_drop, frzL_enc, sub_closed, Option.map_some]
    have hs3 : subT bs (.mk k m n ks) = .mk k [] [] (ks.map (subT bs)) := by rw [subT, if_neg hk3, subTs_map]
    rw [hs3]
    rw [enc, enc]
    refine acalls_enter (cf := cf 43 [0, 1, 2, 4, 5, 7, 8, 11, 27]) foll Tryz.func111 Tryz.ntmps111 (by simp [cf]) ?_
    simp only [Tryz.f111, EnterK_some, zW, zX, zD, builtinA, isLeaf, const1, Nat.reduceAdd, Nat.reduceMul, Nat.reduceSub, Nat.reduceLT, Nat.reduceLeDiff, Nat.reduceEqDiff, Nat.reduceBEq, Nat.reduceBNe, reduceIte, reduceCtorEq, Int.reduceToNat, Int.reduceLT, Int.reduceLE, Int.reduceEq, Int.reduceNe, Int.reduceNeg, ustrA, ti3, ti55, ti57, ca57, ca111, ca140, cf, Tryz.results111]
    simp only [zW, zX, zD, builtinA, isLeaf, const1, Nat.reduceAdd, Nat.reduceMul, Nat.reduceSub, Nat.reduceLT, Nat.reduceLeDiff, Nat.reduceEqDiff, Nat.reduceBEq, Nat.reduceBNe, reduceIte, reduceCtorEq, Int.reduceToNat, Int.reduceLT, Int.reduceLE, Int.reduceEq, Int.reduceNe, Int.reduceNeg, ustrA, ti3, ti55, ti57, ca57, ca111, ca140, cf, Tryz.results111, decide_eq_false hk3]
    refine aloop_intro [1, 2, 4, 7, 8] (fun e A' => ∃ i B x, i ≤ ks.length ∧ e = [(1, .slice (bEs bs)), (2, .ptr A.length 0), (4, .ptr (A.length + 1) 0), (7, .ptr (A.length + 2) 0), (8, .int .i64 i)] ∧ A' = A ++ (.cells [.int .i64 k, .str m, .str n, .slice (encs ks)] :: .cells [.int .i64 0, .str [], .str [], .nils] :: .cells [.int .i64 k, .str [], .str [], x] :: B) ∧
      ((i = 0 ∧ x = .nils ∧ B = []) ∨ (∃ j, x = .own (A.length + (j + 3)) ∧ j < B.length ∧ B.getD j .dead = .row 4 (encs ((ks.take i).map (subT bs))) 0))) (fun e _ => ks.length - (intOf (Abs.look 8 e)).toNat) ?_ ?_
    · simp only [zW, zX, zD, builtinA, isLeaf, const1, Nat.reduceAdd, Nat.reduceMul, Nat.reduceSub, Nat.reduceLT, Nat.reduceLeDiff, Nat.reduceEqDiff, Nat.reduceBEq, Nat.reduceBNe, reduceIte, reduceCtorEq, Int.reduceToNat, Int.reduceLT, Int.reduceLE, Int.reduceEq, Int.reduceNe, Int.reduceNeg, ustrA, ti3, ti55, ti57, ca57, ca111, ca140, cf, Tryz.results111]
      exact ⟨0, [], .nils, by omega, rfl, rfl, .inl ⟨rfl, rfl, rfl⟩⟩
    · rintro e A' ⟨i, B, x, hi, rfl, rfl, hx⟩
      simp only [zW, zX, zD, builtinA, isLeaf, const1, Nat.reduceAdd, Nat.reduceMul, Nat.reduceSub, Nat.reduceLT, Nat.reduceLeDiff, Nat.reduceEqDiff, Nat.reduceBEq, Nat.reduceBNe, reduceIte, reduceCtorEq, Int.reduceToNat, Int.reduceLT, Int.reduceLE, Int.reduceEq, Int.reduceNe, Int.reduceNeg, ustrA, ti3, ti55, ti57, ca57, ca111, ca140, cf, Tryz.results111, encs_length]
      refine condK_intro (fun h2 => ?_) (fun h2 => ?_)
      · have hi2 : i < ks.length := by simpa using h2
        have he := encs_getD hi2
        have hmm := getD_mem hi2
        have hi1 : IntKind.i64.wrap ((i : Int) + 1) = ((i + 1 : Nat) : Int) := by rw [wrap64 (by omega) (by omega)]; rfl
        rcases hx with ⟨rfl, rfl, rfl⟩ | ⟨j, rfl, hj, hg⟩
        · simp only [wpc_skip, AThen_normal, wpc_block, wpc_seq, wpc_drawn]
          refine .inr (drawE_intro [(false, 0, 2), (false, 0, 2), (false, 0, 0), (false, 0, 0), (false, 0, 0), (false, 0, 0), (false, 0, 0), (false, 0, 0), (true, 0, 0), (true, 1, 1), (true, 2, 2), (false, 3, 3), (true, 3, 3)] [A ++ [.cells [.int .i64 k, .str m, .str n, .slice (encs ks)], .cells [.int .i64 0, .str [], .str [], .nils], .cells [.int .i64 k, .str [], .str [], .nils]], A ++ [.cells [.int .i64 k, .str m, .str n, .slice (encs ks)], .cells [.int .i64 0, .str [], .str [], .nils], .cells [.int .i64 k, .str [], .str [], .nils]], A ++ [.cells [.int .i64 k, .str m, .str n, .slice (encs ks)], .cells [.int .i64 0, .str [], .str [], .nils], .cells [.int .i64 k, .str [], .str [], .nils], .row 4 [enc (subT bs (ks.getD 0 ty0))] 0], A ++ [.cells [.int .i64 k, .str m, .str n, .slice (encs ks)], .cells [.int .i64 0, .str [], .str [], .nils], .cells [.int .i64 k, .str [], .str [], .nils], .row 4 [enc (subT bs (ks.getD 0 ty0))] 0, .row 4 [enc (subT bs (ks.getD 0 ty0))] 0], A ++ [.cells [.int .i64 k, .str m, .str n, .slice (encs ks)], .cells [.int .i64 0, .str [], .str [], .nils], .cells [.int .i64 k, .str [], .str [], .own (A.length + 4)], .row 4 [enc (subT bs (ks.getD 0 ty0))] 0, .row 4 [enc (subT bs (ks.getD 0 ty0))] 0]] 4 rfl (by kernel_rfl) (by kernel_rfl) (by kernel_rfl) (by kernel_rfl) (by kernel_rfl) (by kernel_rfl) ?_)
          simp only [zW, zX, zD, builtinA, isLeaf, const1, Nat.reduceAdd, Nat.reduceMul, Nat.reduceSub, Nat.reduceLT, Nat.reduceLeDiff, Nat.reduceEqDiff, Nat.reduceBEq, Nat.reduceBNe, reduceIte, reduceCtorEq, Int.reduceToNat, Int.reduceLT, Int.reduceLE, Int.reduceEq, Int.reduceNe, Int.reduceNeg, ustrA, ti3, ti55, ti57, ca57, ca111, ca140, cf, Tryz.results111, he, enc_length, enc_take, sub_drop, frzL_enc, sub_closed, Option.map_some, encs_length]
          refine ⟨⟨by omega, by omega⟩, ?_⟩
          refine callE_intro (by simp only [zW, zX, zD, builtinA, isLeaf, const1, Nat.reduceAdd, Nat.reduceMul, Nat.reduceSub, Nat.reduceLT, Nat.reduceLeDiff, Nat.reduceEqDiff, Nat.reduceBEq, Nat.reduceBNe, reduceIte, reduceCtorEq, Int.reduceToNat, Int.reduceLT, Int.reduceLE, Int.reduceEq, Int.reduceNe, Int.reduceNeg, ustrA, enc_length, enc_take, sub_drop, frzL_enc, sub_closed, Option.map_some] <;> rfl) (ih _ hmm (hok _ hmm) _) ?_ rfl rfl
          simp only [zW, zX, zD, builtinA, isLeaf, const1, Nat.reduceAdd, Nat.reduceMul, Nat.reduceSub, Nat.reduceLT, Nat.reduceLeDiff, Nat.reduceEqDiff, Nat.reduceBEq, Nat.reduceBNe, reduceIte, reduceCtorEq, Int.reduceToNat, Int.reduceLT, Int.reduceLE, Int.reduceEq, Int.reduceNe, Int.reduceNeg, ustrA, ti3, ti55, ti57, ca57, ca111, ca140, cf, Tryz.results111, he, enc_length, enc_take, sub_drop, frzL_enc, sub_closed, Option.map_some, encs_length]
          have hsn : [enc (subT bs (ks.getD 0 ty0))] = encs ((ks.take 1).map (subT bs)) := by
            match ks, hi2 with
            | t :: l, _ => simp [encs]
          simp only [zW, zX, zD, builtinA, isLeaf, const1, Nat.reduceAdd, Nat.reduceMul, Nat.reduceSub, Nat.reduceLT, Nat.reduceLeDiff, Nat.reduceEqDiff, Nat.reduceBEq, Nat.reduceBNe, reduceIte, reduceCtorEq, Int.reduceToNat, Int.reduceLT, Int.reduceLE, Int.reduceEq, Int.reduceNe, Int.reduceNeg, ustrA, ti3, ti55, ti57, ca57, ca111, ca140, cf, Tryz.results111, hi1, LoopK_eq]
          refine ⟨fun v hv => enc_leaf _ v hv, fun r hr => by rw [List.mem_singleton.1 hr, enc_length], ⟨0 + 1, [.row 4 [enc (subT bs (ks.getD 0 ty0))] 0, .row 4 [enc (subT bs (ks.getD 0 ty0))] 0], _, by omega, rfl, rfl, .inr ⟨1, rfl, by simp, by rw [hsn]; rfl⟩⟩, ?_⟩
          simp only [intOf]
          omega
        · have hsn : encs ((ks.take i).map (subT bs)) ++ [enc (subT bs (ks.getD i ty0))] = encs ((ks.take (i + 1)).map (subT bs)) := by
            rw [encs_map, encs_map, List.take_add_one, List.map_append, List.map_append]
            simp [List.getD, hi2]
          simp only [wpc_skip, AThen_normal, wpc_block, wpc_seq, wpc_drawn]
          refine .inr (drawE_intro [(false, 0, 2), (false, 0, 2), (false, 0, 0), (false, 0, 0), (false, 0, 0), (false, 0, 0), (false, 0, 0), (false, 0, 0), (true, 0, 0), (true, 1, 1), (true, 2, 2), (false, 3, 3), (true, 3, 3)] [A ++ (.cells [.int .i64 k, .str m, .str n, .slice (encs ks)] :: .cells [.int .i64 0, .str [], .str [], .nils] :: .cells [.int .i64 k, .str [], .str [], .own (A.length + (j + 3))] :: B), A ++ (.cells [.int .i64 k, .str m, .str n, .slice (encs ks)] :: .cells [.int .i64 0, .str [], .str [], .nils] :: .cells [.int .i64 k, .str [], .str [], .own (A.length + (j + 3))] :: B), A ++ (.cells [.int .i64 k, .str m, .str n, .slice (encs ks)] :: .cells [.int .i64 0, .str [], .str [], .nils] :: .cells [.int .i64 k, .str [], .str [], .own (A.length + (j + 3))] :: (B ++ [.row 4 [enc (subT bs (ks.getD i ty0))] 0])), A ++ (.cells [.int .i64 k, .str m, .str n, .slice (encs ks)] :: .cells [.int .i64 0, .str [], .str [], .nils] :: .cells [.int .i64 k, .str [], .str [], .own (A.length + (j + 3))] :: (B.set j .dead ++ [.row 4 [enc (subT bs (ks.getD i ty0))] 0, .row 4 (encs ((ks.take i).map (subT bs)) ++ [enc (subT bs (ks.getD i ty0))]) 0])), A ++ (.cells [.int .i64 k, .str m, .str n, .slice (encs ks)] :: .cells [.int .i64 0, .str [], .str [], .nils] :: .cells [.int .i64 k, .str [], .str [], .own (A.length + (B.length + 1 + 3))] :: (B.set j .dead ++ [.row 4 [enc (subT bs (ks.getD i ty0))] 0, .row 4 (encs ((ks.take i).map (subT bs)) ++ [enc (subT bs (ks.getD i ty0))]) 0]))] 4 rfl (by kernel_rfl) (by kernel_rfl) (by kernel_rfl) (by kernel_rfl) (by kernel_rfl) (by kernel_rfl) ?_)
          simp only [zW, zX, zD, builtinA, isLeaf, const1, Nat.reduceAdd, Nat.reduceMul, Nat.reduceSub, Nat.reduceLT, Nat.reduceLeDiff, Nat.reduceEqDiff, Nat.reduceBEq, Nat.reduceBNe, reduceIte, reduceCtorEq, Int.reduceToNat, Int.reduceLT, Int.reduceLE, Int.reduceEq, Int.reduceNe, Int.reduceNeg, ustrA, ti3, ti55, ti57, ca57, ca111, ca140, cf, Tryz.results111, he, hj, hg, enc_length, enc_take, sub_drop, frzL_enc, sub_closed, Option.map_some, encs_length]
          refine ⟨⟨by omega, by omega⟩, ?_⟩
          refine callE_intro (by simp only [zW, zX, zD, builtinA, isLeaf, const1, Nat.reduceAdd, Nat.reduceMul, Nat.reduceSub, Nat.reduceLT, Nat.reduceLeDiff, Nat.reduceEqDiff, Nat.reduceBEq, Nat.reduceBNe, reduceIte, reduceCtorEq, Int.reduceToNat, Int.reduceLT, Int.reduceLE, Int.reduceEq, Int.reduceNe, Int.reduceNeg, ustrA, enc_length, enc_take, sub_drop, frzL_enc, sub_closed, Option.map_some] <;> rfl) (ih _ hmm (hok _ hmm) _) ?_ rfl rfl
          simp only [zW, zX, zD, builtinA, isLeaf, const1, Nat.reduceAdd, Nat.reduceMul, Nat.reduceSub, Nat.reduceLT, Nat.reduceLeDiff, Nat.reduceEqDiff, Nat.reduceBEq, Nat.reduceBNe, reduceIte, reduceCtorEq, Int.reduceToNat, Int.reduceLT, Int.reduceLE, Int.reduceEq, Int.reduceNe, Int.reduceNeg, ustrA, ti3, ti55, ti57, ca57, ca111, ca140, cf, Tryz.results111, he, hj, hg, enc_length, enc_take, sub_drop, frzL_enc, sub_closed, Option.map_some, encs_length]
          simp only [zW, zX, zD, builtinA, isLeaf, const1, Nat.reduceAdd, Nat.reduceMul, Nat.reduceSub, Nat.reduceLT, Nat.reduceLeDiff, Nat.reduceEqDiff, Nat.reduceBEq, Nat.reduceBNe, reduceIte, reduceCtorEq, Int.reduceToNat, Int.reduceLT, Int.reduceLE, Int.reduceEq, Int.reduceNe, Int.reduceNeg, ustrA, ti3, ti55, ti57, ca57, ca111, ca140, cf, Tryz.results111, hi1, LoopK_eq]
          refine ⟨fun v hv => enc_leaf _ v hv, ⟨fun r hr => by rw [List.mem_singleton.1 hr, enc_length], by rw [List.length_map, List.length_take]; omega⟩, ⟨i + 1, B.set j .dead ++ [.row 4 [enc (subT bs (ks.getD i ty0))] 0, .row 4 (encs ((ks.take i).map (subT bs)) ++ [enc (subT bs (ks.getD i ty0))]) 0], _, by omega, rfl, rfl, .inr ⟨B.length + 1, rfl, by simp, ?_⟩⟩, ?_⟩
          · rw [getD_sapp, hsn]; rfl
          · simp only [intOf]
            omega
      · have : i = ks.length := by simp at h2; omega
        subst this
        rw [List.take_length] at hx
        rcases hx with ⟨h0, rfl, rfl⟩ | ⟨j, rfl, hj, hg⟩
        · have : ks = [] := by cases ks with
            | nil => rfl
            | cons => simp at h0
          subst this
          simp only [zW, zX, zD, builtinA, isLeaf, const1, Nat.reduceAdd, Nat.reduceMul, Nat.reduceSub, Nat.reduceLT, Nat.reduceLeDiff, Nat.reduceEqDiff, Nat.reduceBEq, Nat.reduceBNe, reduceIte, reduceCtorEq, Int.reduceToNat, Int.reduceLT, Int.reduceLE, Int.reduceEq, Int.reduceNe, Int.reduceNeg, ustrA, ti3, ti55, ti57, ca57, ca111, ca140, cf, Tryz.results111, encs]
        · simp only [zW, zX, zD, builtinA, isLeaf, const1, Nat.reduceAdd, Nat.reduceMul, Nat.reduceSub, Nat.reduceLT, Nat.reduceLeDiff, Nat.reduceEqDiff, Nat.reduceBEq, Nat.reduceBNe, reduceIte, reduceCtorEq, Int.reduceToNat, Int.reduceLT, Int.reduceLE, Int.reduceEq, Int.reduceNe, Int.reduceNeg, ustrA, ti3, ti55, ti57, ca57, ca111, ca140, cf, Tryz.results111, hg, hj]

end Go.Proofs.YtapkacochknndaaGreat
