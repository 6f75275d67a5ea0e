/- Reading a signature with normal types, and what a name in it stands for. -/
import Derived.Test.YtjoaedbeohgciaaGreatSigFind
import Derived.Test.YtjoaedbeohgciaaGreatAbsW3
set_option linter.unusedVariables false
set_option linter.unusedSimpArgs false
namespace Go.Proofs.YtjoaedbeohgciaaGreat
open Go.Abs

theorem mean_ok {x : SigI} {y : VI} (hl : localB x.name = true) (h : ItemOf x y) : VOk (meanI y) := by
  cases y with
  | ab n => exact ⟨by simp only [meanI, okV, nmB]; rw [← h.1, hl]; simp, by simp [meanI, dep], by simp [meanI, cnt]⟩
  | al n v => exact h.2.2.2
  | va n v => exact h.2.2.2
/-- what reading with normal types answers -/
def RdN (s : List SigI) : Option (List VI) → Prop
  | some zs => ∃ ys, s.length ≤ 8 ∧ ReadsTo s ys ∧ ordB ys = true ∧ normL [] ys = some zs
  | none => (8 < s.length ∨ ∃ x ∈ s, itemOk x = false) ∨ ∃ ys, s.length ≤ 8 ∧ ReadsTo s ys ∧ (ordB ys = false ∨ normL [] ys = none)

set_option maxRecDepth 100000 in
theorem impl_readNormal (s : List SigI) (hs : s.length ≤ 1048576) (ho : ∀ x ∈ s, x.Ok ∧ sz x.typ ≤ 1048576) (A : List Box) : ACalls Tryz.prog 31 [.slice (sEs s)] A (fun r A' => ∃ B, A' = A ++ B ∧
    ((∃ zs j, RdN s (some zs) ∧ r = .tuple [.own (A.length + j), .bool true] ∧ j < B.length ∧ B.getD j .dead = .row 1 (vRows zs) 0) ∨ (RdN s none ∧ r = .tuple [.nils, .bool false]))) := by
  refine acalls_enterK (cf := cf 17 [0, 2, 3, 4, 5, 12]) foll Tryz.func31 Tryz.ntmps31 (by simp [cf]) ?_
  simp only [Tryz.f31, EnterK_some, zW, zX, zD, builtinA, isLeaf, const1, Nat.reduceAdd, Nat.reduceMul, Nat.reduceSub, Nat.reduceLT, Nat.reduceLeDiff, Nat.reduceEqDiff, Nat.reduceBEq, Nat.reduceBNe, reduceIte, reduceCtorEq, Int.reduceToNat, Int.reduceLT, Int.reduceLE, Int.reduceEq, Int.reduceNe, Int.reduceNeg, ustrA, ca43, ca53, cf, Tryz.results31]
  refine callK_intro (by simp only [zW, zX, zD, builtinA, isLeaf, const1, Nat.reduceAdd, Nat.reduceMul, Nat.reduceSub, Nat.reduceLT, Nat.reduceLeDiff, Nat.reduceEqDiff, Nat.reduceBEq, Nat.reduceBNe, reduceIte, reduceCtorEq, Int.reduceToNat, Int.reduceLT, Int.reduceLE, Int.reduceEq, Int.reduceNe, Int.reduceNeg, ustrA, Option.map_some]; rfl) (impl_readSig s hs ho _) ?_ rfl
  rintro r A' ⟨h, rfl⟩
  rcases h with ⟨ys, h8, hrt, rfl⟩ | ⟨hbad, rfl⟩
  · cases hord : ordB ys with
    | false =>
      simp only [zW, zX, zD, builtinA, isLeaf, const1, Nat.reduceAdd, Nat.reduceMul, Nat.reduceSub, Nat.reduceLT, Nat.reduceLeDiff, Nat.reduceEqDiff, Nat.reduceBEq, Nat.reduceBNe, reduceIte, reduceCtorEq, Int.reduceToNat, Int.reduceLT, Int.reduceLE, Int.reduceEq, Int.reduceNe, Int.reduceNeg, ustrA, ca43, ca53, cf, Tryz.results31]
      exact ⟨[], by simp, .inr (.inr ⟨ys, h8, hrt, .inl hord⟩)⟩
    | true =>
      have hn := impl_normal ys (by have := hrt.1; omega) (fun k hk => by
        have := hrt.2 k (by rw [← hrt.1]; exact hk)
        exact mean_ok this.1 this.2) hord
      simp only [zW, zX, zD, builtinA, isLeaf, const1, Nat.reduceAdd, Nat.reduceMul, Nat.reduceSub, Nat.reduceLT, Nat.reduceLeDiff, Nat.reduceEqDiff, Nat.reduceBEq, Nat.reduceBNe, reduceIte, reduceCtorEq, Int.reduceToNat, Int.reduceLT, Int.reduceLE, Int.reduceEq, Int.reduceNe, Int.reduceNeg, ustrA, ca43, ca53, cf, Tryz.results31]
      refine callO_intro (hn _) ?_
      rintro r A2 ⟨B, rfl, ⟨zs, j, e, rfl, hj, hg⟩ | ⟨e, rfl⟩⟩
      · simp only [zW, zX, zD, builtinA, isLeaf, const1, Nat.reduceAdd, Nat.reduceMul, Nat.reduceSub, Nat.reduceLT, Nat.reduceLeDiff, Nat.reduceEqDiff, Nat.reduceBEq, Nat.reduceBNe, reduceIte, reduceCtorEq, Int.reduceToNat, Int.reduceLT, Int.reduceLE, Int.reduceEq, Int.reduceNe, Int.reduceNeg, ustrA, ca43, ca53, cf, Tryz.results31]
        exact ⟨_, rfl, .inl ⟨zs, j, ⟨ys, h8, hrt, hord, e⟩, rfl, hj, hg⟩⟩
      · simp only [zW, zX, zD, builtinA, isLeaf, const1, Nat.reduceAdd, Nat.reduceMul, Nat.reduceSub, Nat.reduceLT, Nat.reduceLeDiff, Nat.reduceEqDiff, Nat.reduceBEq, Nat.reduceBNe, reduceIte, reduceCtorEq, Int.reduceToNat, Int.reduceLT, Int.reduceLE, Int.reduceEq, Int.reduceNe, Int.reduceNeg, ustrA, ca43, ca53, cf, Tryz.results31]
        exact ⟨_, rfl, .inr (.inr ⟨ys, h8, hrt, .inr e⟩)⟩
  · simp only [zW, zX, zD, builtinA, isLeaf, const1, Nat.reduceAdd, Nat.reduceMul, Nat.reduceSub, Nat.reduceLT, Nat.reduceLeDiff, Nat.reduceEqDiff, Nat.reduceBEq, Nat.reduceBNe, reduceIte, reduceCtorEq, Int.reduceToNat, Int.reduceLT, Int.reduceLE, Int.reduceEq, Int.reduceNe, Int.reduceNeg, ustrA, ca43, ca53, cf, Tryz.results31]
    exact ⟨[], by simp, .inr (.inl hbad)⟩

theorem vX_free : ∀ v, ifree (vX v) = true
  | .num => rfl
  | .nm m n => rfl
  | .fn a b => by
    have h1 := vX_free a
    have h2 := vX_free b
    simp [vX, ifree, ifrees, h1, h2]
theorem findR_free (o : Option VT) : ifree (findR o) = true := by
  cases o with
  | none => rfl
  | some v => simp [findR, ifree, ifrees, vX_free v]
theorem findR_view (ys : List VI) (hl : ys.length ≤ 1000) (q : Ky) {A : List Box} {i : Nat} (hb : A.getD i .dead = .row 1 (vRows ys) 0) : ACalls Tryz.prog 55 [.own i, .agg (kE q)] A (fun r A' => ∃ o, FindO ys q o ∧ r = findR o ∧ A' = A) := by
  refine ACalls.borrow (.cons (.row i 1 0 (vRows ys) (vRows ys) hb rfl (vRows_leaf ys) (vRows_view ys _)) (.cons (.agg _ _ rfl fun k hk => .leaf _ (by have h2 : k < 2 := hk; match k, h2 with | 0, _ => rfl | 1, _ => rfl)) .nil)) ((impl_findSig ys hl q _).mono ?_)
  rintro r A' ⟨o, h1, rfl, rfl⟩
  exact ⟨[], by simp, findR_free o, by simp, o, h1, rfl, by simp⟩
/-- what a key of a signature stands for -/
def MeanIs (s : List SigI) (q : Ky) (o : Option VT) : Prop := (∃ zs, RdN s (some zs) ∧ FindO zs q o) ∨ (RdN s none ∧ o = none)
theorem normL_len : ∀ {ys zs : List VI} {m : List (BNm × VT)}, normL m ys = some zs → zs.length = ys.length
  | [], zs, m, h => by cases h; rfl
  | y :: ys, zs, m, h => by
    rw [normL] at h
    split at h
    · obtain ⟨x, hx, rfl⟩ := Option.map_eq_some_iff.1 h
      simp [normL_len hx]
    · cases h

set_option maxRecDepth 100000 in
theorem impl_findMeaning (s : List SigI) (hs : s.length ≤ 1048576) (ho : ∀ x ∈ s, x.Ok ∧ sz x.typ ≤ 1048576) (q : Ky) (A : List Box) : ACalls Tryz.prog 39 [.slice (sEs s), .agg (kE q)] A (fun r A' => ∃ o, MeanIs s q o ∧ SubOut A o r A') := by
  rw [kE]
  refine acalls_enterK (cf := cf 28 [0, 1, 3, 4, 5, 6, 7, 8, 15, 24]) foll Tryz.func39 Tryz.ntmps39 (by simp [cf]) ?_
  simp only [Tryz.f39, EnterK_some, zW, zX, zD, builtinA, isLeaf, const1, Nat.reduceAdd, Nat.reduceMul, Nat.reduceSub, Nat.reduceLT, Nat.reduceLeDiff, Nat.reduceEqDiff, Nat.reduceBEq, Nat.reduceBNe, reduceIte, reduceCtorEq, Int.reduceToNat, Int.reduceLT, Int.reduceLE, Int.reduceEq, Int.reduceNe, Int.reduceNeg, ustrA, ti33, ti67, ca31, ca55, cf, Tryz.results39]
  refine callO_intro (impl_readNormal s hs ho _) ?_
  rintro r A1 ⟨B, rfl, ⟨zs, j, hrd, rfl, hj, hg⟩ | ⟨hrd, rfl⟩⟩
  · have hzl : zs.length ≤ 1000 := by
      obtain ⟨ys, h8, hrt, _, hn⟩ := hrd
      have := normL_len hn
      have := hrt.1
      omega
    have hg2 : (A ++ (.cells [.bool q.1, .str q.2] :: .cells [.int .i64 0, .str [], .str [], .nils] :: B)).getD (A.length + 2 + j) .dead = .row 1 (vRows zs) 0 := by
      rw [Abs.getD_append_right (by omega), show A.length + 2 + j - A.length = j + 1 + 1 by omega]; exact hg
    have hfv := findR_view zs hzl q hg2
    simp only [kE] at hfv
    simp only [zW, zX, zD, builtinA, isLeaf, const1, Nat.reduceAdd, Nat.reduceMul, Nat.reduceSub, Nat.reduceLT, Nat.reduceLeDiff, Nat.reduceEqDiff, Nat.reduceBEq, Nat.reduceBNe, reduceIte, reduceCtorEq, Int.reduceToNat, Int.reduceLT, Int.reduceLE, Int.reduceEq, Int.reduceNe, Int.reduceNeg, ustrA, ti33, ti67, ca31, ca55, cf, Tryz.results39]
    refine callO_intro hfv ?_
    rintro r A' ⟨o, hfo, rfl, rfl⟩
    cases o with
    | none =>
      simp only [findR]
      simp only [zW, zX, zD, builtinA, isLeaf, const1, Nat.reduceAdd, Nat.reduceMul, Nat.reduceSub, Nat.reduceLT, Nat.reduceLeDiff, Nat.reduceEqDiff, Nat.reduceBEq, Nat.reduceBNe, reduceIte, reduceCtorEq, Int.reduceToNat, Int.reduceLT, Int.reduceLE, Int.reduceEq, Int.reduceNe, Int.reduceNeg, ustrA, ti33, ti67, ca31, ca55, cf, Tryz.results39]
      exact ⟨none, .inl ⟨zs, hrd, hfo⟩, rfl, by simp, fun i hi => Abs.getD_append_left hi⟩
    | some w =>
      simp only [findR]
      simp only [zW, zX, zD, builtinA, isLeaf, const1, Nat.reduceAdd, Nat.reduceMul, Nat.reduceSub, Nat.reduceLT, Nat.reduceLeDiff, Nat.reduceEqDiff, Nat.reduceBEq, Nat.reduceBNe, reduceIte, reduceCtorEq, Int.reduceToNat, Int.reduceLT, Int.reduceLE, Int.reduceEq, Int.reduceNe, Int.reduceNeg, ustrA, ti33, ti67, ca31, ca55, cf, Tryz.results39]
      refine wpO_invoke _ _ _ _ _ _ _ _ _ _ _ _ _ _ _ _ ?_
      simp only [zW, zX, zD, builtinA, isLeaf, const1, Nat.reduceAdd, Nat.reduceMul, Nat.reduceSub, Nat.reduceLT, Nat.reduceLeDiff, Nat.reduceEqDiff, Nat.reduceBEq, Nat.reduceBNe, reduceIte, reduceCtorEq, Int.reduceToNat, Int.reduceLT, Int.reduceLE, Int.reduceEq, Int.reduceNe, Int.reduceNeg, ustrA, ti33, ti67, ca31, ca55, cf, Tryz.results39]
      refine meth_invK (met3 (by kernel_rfl) (by kernel_rfl) (by kernel_rfl) (by kernel_rfl) (by kernel_rfl) (by kernel_rfl)) (plainM w _) rfl (fun _ => rfl) ?_
      rintro r A' ⟨rfl, rfl⟩
      have hpl : ∀ n, (prow w n true).length = 4 := fun n => prow_length _ _ _
      simp only [zW, zX, zD, builtinA, isLeaf, const1, Nat.reduceAdd, Nat.reduceMul, Nat.reduceSub, Nat.reduceLT, Nat.reduceLeDiff, Nat.reduceEqDiff, Nat.reduceBEq, Nat.reduceBNe, reduceIte, reduceCtorEq, Int.reduceToNat, Int.reduceLT, Int.reduceLE, Int.reduceEq, Int.reduceNe, Int.reduceNeg, ustrA, ti33, ti67, ca31, ca55, cf, Tryz.results39, hpl]
      refine ⟨some w, .inl ⟨zs, hrd, hfo⟩, prow w (A.length + (B.length + 1 + 1)) true, pidx w (A.length + (B.length + 1 + 1)), by rw [List.take_of_length_le (by rw [hpl]; exact Nat.le_refl _)], own_plain w _ true _ (fun k hk => ?_), pidx_nodup _ _, fun i hi => by have := pidx_in _ _ i hi; omega, by simp, fun i hi => Abs.getD_append_left hi⟩
      rw [Abs.getD_append_right (by omega), show A.length + (B.length + 1 + 1) + k - A.length = (B.length + k) + 1 + 1 by omega, List.getD_cons_succ, List.getD_cons_succ, Abs.getD_append_right (by omega), show B.length + k - B.length = k by omega]
  · simp only [zW, zX, zD, builtinA, isLeaf, const1, Nat.reduceAdd, Nat.reduceMul, Nat.reduceSub, Nat.reduceLT, Nat.reduceLeDiff, Nat.reduceEqDiff, Nat.reduceBEq, Nat.reduceBNe, reduceIte, reduceCtorEq, Int.reduceToNat, Int.reduceLT, Int.reduceLE, Int.reduceEq, Int.reduceNe, Int.reduceNeg, ustrA, ti33, ti67, ca31, ca55, cf, Tryz.results39]
    exact ⟨none, .inr ⟨hrd, rfl⟩, rfl, by simp, fun i hi => Abs.getD_append_left hi⟩
end Go.Proofs.YtjoaedbeohgciaaGreat
