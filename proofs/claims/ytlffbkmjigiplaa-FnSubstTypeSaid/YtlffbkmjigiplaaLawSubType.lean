/- Whatever the type and the bindings that are drawn: SubstType answers as the model says; names bound to themselves change nothing; a type with no bound name stays as it is. No condition beside the row's own. -/
import Derived.Test.YtlffbkmjigiplaaSubFacts
import Derived.Test.YtlffbkmjigiplaaAbsW3
set_option linter.unusedVariables false
set_option linter.unusedSimpArgs false
namespace Go.Proofs.Ytlffbkmjigiplaa
open Go.Abs Go.RowKit Go.ChangeShapes Go.WideShapes Go.ChangeAt Go.ChangeMaps

set_option maxRecDepth 100000 in
set_option maxHeartbeats 4000000 in
theorem substTy_true (bs : List UInt8) : ACalls Try.prog 3 [.aslice (byteRows bs)] [] (fun v _ => v = .bool true) := by
  refine acalls_enter (cf := cf 137 [0, 2, 3, 4, 5, 6, 7, 8, 9, 10, 11, 12, 13, 14, 15, 18, 48, 63, 87]) foll Try.func3 Try.ntmps3 (by simp [cf]) ?_
  simp only [Try.f3, EnterK_some, zW, zX, zD, builtinA, isLeaf, const1, Nat.reduceAdd, Nat.reduceMul, Nat.reduceSub, Nat.reduceLT, Nat.reduceLeDiff, Nat.reduceEqDiff, Nat.reduceBEq, Nat.reduceBNe, reduceIte, reduceCtorEq, Int.reduceToNat, Int.reduceLT, Int.reduceLE, Int.reduceEq, Int.reduceNe, Int.reduceNeg, ustrA, ti3, ti4, ti5, ti9, ti22, ti23, ti25, ti26, ti34, ca6, ca7, ca8, ca9, ca10, cf, Try.results3]
  by_cases hb : 1048576 < bs.length
  · have e1 : decide ((1048576 : Int) < bs.length) = true := decide_eq_true (by omega)
    simp only [zW, zX, zD, builtinA, isLeaf, const1, Nat.reduceAdd, Nat.reduceMul, Nat.reduceSub, Nat.reduceLT, Nat.reduceLeDiff, Nat.reduceEqDiff, Nat.reduceBEq, Nat.reduceBNe, reduceIte, reduceCtorEq, Int.reduceToNat, Int.reduceLT, Int.reduceLE, Int.reduceEq, Int.reduceNe, Int.reduceNeg, ustrA, ti3, ti4, ti5, ti9, ti22, ti23, ti25, ti26, ti34, ca6, ca7, ca8, ca9, ca10, cf, Try.results3, byteRows_length, e1]
  · have e1 : decide ((1048576 : Int) < bs.length) = false := decide_eq_false (by omega)
    simp only [zW, zX, zD, builtinA, isLeaf, const1, Nat.reduceAdd, Nat.reduceMul, Nat.reduceSub, Nat.reduceLT, Nat.reduceLeDiff, Nat.reduceEqDiff, Nat.reduceBEq, Nat.reduceBNe, reduceIte, reduceCtorEq, Int.reduceToNat, Int.reduceLT, Int.reduceLE, Int.reduceEq, Int.reduceNe, Int.reduceNeg, ustrA, ti3, ti4, ti5, ti9, ti22, ti23, ti25, ti26, ti34, ca6, ca7, ca8, ca9, ca10, cf, Try.results3, byteRows_length, e1]
    refine callK_intro (by simp only [zW, zX, zD, builtinA, isLeaf, const1, Nat.reduceAdd, Nat.reduceMul, Nat.reduceSub, Nat.reduceLT, Nat.reduceLeDiff, Nat.reduceEqDiff, Nat.reduceBEq, Nat.reduceBNe, reduceIte, reduceCtorEq, Int.reduceToNat, Int.reduceLT, Int.reduceLE, Int.reduceEq, Int.reduceNe, Int.reduceNeg, ustrA]; rfl) (spec_DrawSubstType bs _) ?_ rfl
    rintro v A' ⟨τ, l, rfl, hs, hl, hbd, rfl⟩
    have hτ := okSz τ (by omega)
    have hbo := bds_ok hbd
    obtain ⟨o, ho⟩ := subIs_ex τ l
    obtain ⟨k', m', n', ks', hρ⟩ : ∃ k m n ks, oTyS o = .mk k m n ks := by cases oTyS o; exact ⟨_, _, _, _, rfl⟩
    have hszρ := sz_oTyS ho
    have hspec : ∀ A, ACalls Try.prog 8 [.agg (enc τ), .slice (bEs l)] A (fun r A' => r = .tuple [.agg (enc (.mk k' m' n' ks')), .bool o.isSome] ∧ A' = A) := fun A => (spec_SubstType τ hτ (by omega) l (by omega) hbo A).mono fun r A' h => by
      obtain ⟨⟨o', h1, h2⟩, h3⟩ := h
      exact ⟨by rw [h2, ← subIs_one ho h1, hρ], h3⟩
    have himpl : ∀ A, ACalls Try.prog 7 [.agg (enc τ), .slice (bEs l)] A (OutS A k' m' n' ks' o.isSome) := fun A => (impl_subst_new ho (by omega) (fun b hb => (hbo b hb).1) A).mono fun r A' h => outS_of hρ h
    have htn := impl_TypeNames τ
    have htr := fun A => impl_TypeSame (.mk k' m' n' ks') (.mk k' m' n' ks') (by rw [← hρ]; omega) (by rw [← hρ]; omega) A
    rw [decide_eq_true rfl] at htr
    have hne : ∀ x : Bool, decide (¬ x = x) = false := fun x => by simp
    simp only [zW, zX, zD, builtinA, isLeaf, const1, Nat.reduceAdd, Nat.reduceMul, Nat.reduceSub, Nat.reduceLT, Nat.reduceLeDiff, Nat.reduceEqDiff, Nat.reduceBEq, Nat.reduceBNe, reduceIte, reduceCtorEq, Int.reduceToNat, Int.reduceLT, Int.reduceLE, Int.reduceEq, Int.reduceNe, Int.reduceNeg, ustrA, ti3, ti4, ti5, ti9, ti22, ti23, ti25, ti26, ti34, ca6, ca7, ca8, ca9, ca10, cf, Try.results3, enc_length, enc_take, enc_drop, frzL_enc, enc_closed, Option.map_some]
    refine callO_intro (himpl _) ?_
    rintro r A1 ⟨B1, v1, S1, rfl, rfl, hK1, hN1, hR1⟩
    simp only [zW, zX, zD, builtinA, isLeaf, const1, Nat.reduceAdd, Nat.reduceMul, Nat.reduceSub, Nat.reduceLT, Nat.reduceLeDiff, Nat.reduceEqDiff, Nat.reduceBEq, Nat.reduceBNe, reduceIte, reduceCtorEq, Int.reduceToNat, Int.reduceLT, Int.reduceLE, Int.reduceEq, Int.reduceNe, Int.reduceNeg, ustrA, ti3, ti4, ti5, ti9, ti22, ti23, ti25, ti26, ti34, ca6, ca7, ca8, ca9, ca10, cf, Try.results3, enc_length, enc_take, enc_drop, frzL_enc, enc_closed, Option.map_some]
    refine callO_intro (hspec _) ?_
    rintro r A2 ⟨rfl, rfl⟩
    have b0 : (Box.cells (enc τ) :: (B1 ++ [Box.cells [.int .i64 k', .str m', .str n', v1], .cells (enc (.mk k' m' n' ks'))])).getD 0 .dead = .cells (enc τ) := rfl
    have b1 : (Box.cells (enc τ) :: (B1 ++ [Box.cells [.int .i64 k', .str m', .str n', v1], .cells (enc (.mk k' m' n' ks'))])).getD (B1.length + 1) .dead = .cells [.int .i64 k', .str m', .str n', v1] := by simp [List.getD]
    have b2 : (Box.cells (enc τ) :: (B1 ++ [Box.cells [.int .i64 k', .str m', .str n', v1], .cells (enc (.mk k' m' n' ks'))])).getD (B1.length + 1 + 1) .dead = .cells (enc (.mk k' m' n' ks')) := by simp [List.getD]
    have hK2 : OwnK (Box.cells (enc τ) :: (B1 ++ [Box.cells [.int .i64 k', .str m', .str n', v1], .cells (enc (.mk k' m' n' ks'))])) ks' v1 S1 := hK1.frame fun i hi => by
      have := (hR1 i hi).2
      rw [show (Box.cells (enc τ) :: (B1 ++ [Box.cells [.int .i64 k', .str m', .str n', v1], .cells (enc (.mk k' m' n' ks'))])) = ([Box.cells (enc τ)] ++ B1) ++ [Box.cells [.int .i64 k', .str m', .str n', v1], .cells (enc (.mk k' m' n' ks'))] by simp, Abs.getD_append_left this]
    have hl2 : B1.length + 1 + 1 < (Box.cells (enc τ) :: (B1 ++ [Box.cells [.int .i64 k', .str m', .str n', v1], .cells (enc (.mk k' m' n' ks'))])).length := by simp
    simp only [zW, zX, zD, builtinA, isLeaf, const1, Nat.reduceAdd, Nat.reduceMul, Nat.reduceSub, Nat.reduceLT, Nat.reduceLeDiff, Nat.reduceEqDiff, Nat.reduceBEq, Nat.reduceBNe, reduceIte, reduceCtorEq, Int.reduceToNat, Int.reduceLT, Int.reduceLE, Int.reduceEq, Int.reduceNe, Int.reduceNeg, ustrA, ti3, ti4, ti5, ti9, ti22, ti23, ti25, ti26, ti34, ca6, ca7, ca8, ca9, ca10, cf, Try.results3, enc_length, enc_take, enc_drop, frzL_enc, enc_closed, Option.map_some]
    have hv2 := hK2.viewT k' m' n'
    clear hK1 hR1
    generalize (Box.cells (enc τ) :: (B1 ++ [Box.cells [.int .i64 k', .str m', .str n', v1], .cells (enc (.mk k' m' n' ks'))])) = A2 at *
    refine callO_intro (borrowI (.cons hv2 (.cons (viewNS _ _) .nil)) rfl htr) ?_
    rintro r A' ⟨rfl, rfl⟩
    rcases o with _ | w
    · simp only [zW, zX, zD, builtinA, isLeaf, const1, Nat.reduceAdd, Nat.reduceMul, Nat.reduceSub, Nat.reduceLT, Nat.reduceLeDiff, Nat.reduceEqDiff, Nat.reduceBEq, Nat.reduceBNe, reduceIte, reduceCtorEq, Int.reduceToNat, Int.reduceLT, Int.reduceLE, Int.reduceEq, Int.reduceNe, Int.reduceNeg, ustrA, ti3, ti4, ti5, ti9, ti22, ti23, ti25, ti26, ti34, ca6, ca7, ca8, ca9, ca10, cf, Try.results3, b1, b2, enc_length, enc_take, enc_drop, frzL_enc, enc_closed, Option.map_some, Option.isSome_none]
      refine callO_intro (borrowI (.cons hv2 (.cons (viewNS _ _) .nil)) rfl htr) ?_
      rintro r A' ⟨rfl, rfl⟩
      simp only [zW, zX, zD, builtinA, isLeaf, const1, Nat.reduceAdd, Nat.reduceMul, Nat.reduceSub, Nat.reduceLT, Nat.reduceLeDiff, Nat.reduceEqDiff, Nat.reduceBEq, Nat.reduceBNe, reduceIte, reduceCtorEq, Int.reduceToNat, Int.reduceLT, Int.reduceLE, Int.reduceEq, Int.reduceNe, Int.reduceNeg, ustrA, ti3, ti4, ti5, ti9, ti22, ti23, ti25, ti26, ti34, ca6, ca7, ca8, ca9, ca10, cf, Try.results3]
    · obtain ⟨v, rfl, hv⟩ := subIs_valid ho
      obtain ⟨k, m, n, ks, hτm⟩ : ∃ k m n ks, toTy v = .mk k m n ks := by cases toTy v; exact ⟨_, _, _, _, rfl⟩
      have himp2 : ∀ A, ACalls Try.prog 7 [.agg (enc (toTy v)), .slice (bEs ((selfs (nmsV [] v)).map ofB))] A (OutS A k m n ks true) := fun A => (impl_subst_new (subIs_self hv) (by have h1 := nmsV_len v []; have h2 := hv.cnt; rw [List.length_nil] at h1; simp only [selfs, List.length_map]; omega) (fun b hb => by
        obtain ⟨q, hq, rfl⟩ := List.mem_map.1 hb
        have := nm_short (okQ_selfs hv q hq).2
        exact ⟨by simp only [ofB]; omega, by simp only [ofB]; omega, ok_toTyS _ (okQ_selfs hv q hq).1.ok⟩) A).mono fun r A' h => outS_of (o := some v) hτm h
      have htt := fun A => impl_TypeSame (.mk k m n ks) (toTy v) (by rw [← hτm]; omega) (by omega) A
      rw [decide_eq_true hτm.symm] at htt
      have hpl : (∀ p ∈ nmsV [] v, ∀ b ∈ l, ¬ (b.mod = p.1 ∧ b.name = p.2)) → Ty.mk k' m' n' ks' = toTy v := fun h => by
        rw [← hρ, oTyS, subIs_apart hv ho h]
      have htx : (∀ p ∈ nmsV [] v, ∀ b ∈ l, ¬ (b.mod = p.1 ∧ b.name = p.2)) → ∀ A, ACalls Try.prog 9 [.agg (enc (.mk k' m' n' ks')), .agg (enc (toTy v))] A (fun r A' => r = .bool true ∧ A' = A) := fun h A => by
        have h2 := impl_TypeSame (.mk k' m' n' ks') (toTy v) (by rw [← hρ]; omega) (by omega) A
        rwa [decide_eq_true (hpl h)] at h2
      have hnl : (nmsV [] v).length ≤ 63 := by have h1 := nmsV_len v []; have h2 := hv.cnt; rw [List.length_nil] at h1; omega
      rw [nmsOf_toTy hv] at htn
      generalize nmsV [] v = ns at *
      have hl3 : B1.length + 1 + 1 < A'.length := hl2
      simp only [zW, zX, zD, builtinA, isLeaf, const1, Nat.reduceAdd, Nat.reduceMul, Nat.reduceSub, Nat.reduceLT, Nat.reduceLeDiff, Nat.reduceEqDiff, Nat.reduceBEq, Nat.reduceBNe, reduceIte, reduceCtorEq, Int.reduceToNat, Int.reduceLT, Int.reduceLE, Int.reduceEq, Int.reduceNe, Int.reduceNeg, ustrA, ti3, ti4, ti5, ti9, ti22, ti23, ti25, ti26, ti34, ca6, ca7, ca8, ca9, ca10, cf, Try.results3, b0, b1, b2, enc_length, enc_take, enc_drop, frzL_enc, enc_closed, Option.map_some, Option.isSome_some]
      have gf : ∀ i, i < A'.length → (A' ++ [Box.row 6 [] 0]).getD i .dead = A'.getD i .dead := fun i hi => Abs.getD_append_left hi
      have gs : (A' ++ [Box.row 6 [] 0]).getD A'.length .dead = .row 6 [] 0 := by rw [Abs.getD_append_right (Nat.le_refl _)]; simp
      have gl : A'.length < (A' ++ [Box.row 6 [] 0]).length := by simp
      have g0 := (gf 0 (by omega)).trans b0
      generalize (A' ++ [Box.row 6 [] 0]) = A9 at *
      simp only [zW, zX, zD, builtinA, isLeaf, const1, Nat.reduceAdd, Nat.reduceMul, Nat.reduceSub, Nat.reduceLT, Nat.reduceLeDiff, Nat.reduceEqDiff, Nat.reduceBEq, Nat.reduceBNe, reduceIte, reduceCtorEq, Int.reduceToNat, Int.reduceLT, Int.reduceLE, Int.reduceEq, Int.reduceNe, Int.reduceNeg, ustrA, ti3, ti4, ti5, ti9, ti22, ti23, ti25, ti26, ti34, ca6, ca7, ca8, ca9, ca10, cf, Try.results3, g0, enc_length, enc_take, enc_drop, frzL_enc, enc_closed, Option.map_some]
      refine callO_intro (htn _) ?_
      rintro r A5 ⟨B5, rfl, hr, _⟩
      replace gf : ∀ i, i < A'.length → (A9 ++ B5).getD i .dead = A'.getD i .dead := fun i hi => by rw [Abs.getD_append_left (by omega)]; exact gf i hi
      replace gs : (A9 ++ B5).getD A'.length .dead = .row 6 [] 0 := by rw [Abs.getD_append_left gl]; exact gs
      replace g0 := (gf 0 (by omega)).trans b0
      have hjs : ∀ j, A9.length ≤ j → j ≠ A'.length := fun j hj => by omega
      replace gl : A'.length < (A9 ++ B5).length := by simp; omega
      generalize hA10 : A9 ++ B5 = A10 at *
      rcases hr with ⟨rfl, rfl⟩ | ⟨j, rfl, hj, hg⟩
      · simp only [zW, zX, zD, builtinA, isLeaf, const1, Nat.reduceAdd, Nat.reduceMul, Nat.reduceSub, Nat.reduceLT, Nat.reduceLeDiff, Nat.reduceEqDiff, Nat.reduceBEq, Nat.reduceBNe, reduceIte, reduceCtorEq, Int.reduceToNat, Int.reduceLT, Int.reduceLE, Int.reduceEq, Int.reduceNe, Int.reduceNeg, ustrA, ti3, ti4, ti5, ti9, ti22, ti23, ti25, ti26, ti34, ca6, ca7, ca8, ca9, ca10, cf, Try.results3]
        refine aloop_intro [3, 4, 5, 9, 10, 11, 12] (fun e H => e = [(3, .ptr 0 0), (4, .slice (bEs l)), (5, .ptr (B1.length + 1) 0), (9, .own A'.length), (10, .bool false), (11, .nils), (12, .int .i64 0)] ∧ H = A10) (fun e _ => 0) ?_ ?_
        · simp only [zW, zX, zD, builtinA, isLeaf, const1, Nat.reduceAdd, Nat.reduceMul, Nat.reduceSub, Nat.reduceLT, Nat.reduceLeDiff, Nat.reduceEqDiff, Nat.reduceBEq, Nat.reduceBNe, reduceIte, reduceCtorEq, Int.reduceToNat, Int.reduceLT, Int.reduceLE, Int.reduceEq, Int.reduceNe, Int.reduceNeg, ustrA, ti3, ti4, ti5, ti9, ti22, ti23, ti25, ti26, ti34, ca6, ca7, ca8, ca9, ca10, cf, Try.results3]
        · rintro e H ⟨rfl, rfl⟩
          simp only [zW, zX, zD, builtinA, isLeaf, const1, Nat.reduceAdd, Nat.reduceMul, Nat.reduceSub, Nat.reduceLT, Nat.reduceLeDiff, Nat.reduceEqDiff, Nat.reduceBEq, Nat.reduceBNe, reduceIte, reduceCtorEq, Int.reduceToNat, Int.reduceLT, Int.reduceLE, Int.reduceEq, Int.reduceNe, Int.reduceNeg, ustrA, ti3, ti4, ti5, ti9, ti22, ti23, ti25, ti26, ti34, ca6, ca7, ca8, ca9, ca10, cf, Try.results3]
          refine condK_intro (fun h => absurd h (by simp)) (fun _ => ?_)
          simp only [zW, zX, zD, builtinA, isLeaf, const1, Nat.reduceAdd, Nat.reduceMul, Nat.reduceSub, Nat.reduceLT, Nat.reduceLeDiff, Nat.reduceEqDiff, Nat.reduceBEq, Nat.reduceBNe, reduceIte, reduceCtorEq, Int.reduceToNat, Int.reduceLT, Int.reduceLE, Int.reduceEq, Int.reduceNe, Int.reduceNeg, ustrA, ti3, ti4, ti5, ti9, ti22, ti23, ti25, ti26, ti34, ca6, ca7, ca8, ca9, ca10, cf, Try.results3, g0, gs, enc_length, enc_take, enc_drop, frzL_enc, enc_closed, Option.map_some]
          refine callK_intro (by simp only [zW, zX, zD, builtinA, isLeaf, const1, Nat.reduceAdd, Nat.reduceMul, Nat.reduceSub, Nat.reduceLT, Nat.reduceLeDiff, Nat.reduceEqDiff, Nat.reduceBEq, Nat.reduceBNe, reduceIte, reduceCtorEq, Int.reduceToNat, Int.reduceLT, Int.reduceLE, Int.reduceEq, Int.reduceNe, Int.reduceNeg, ustrA, g0, gs, gl, enc_length, enc_take, enc_drop, frzL_enc, enc_closed, Option.map_some]; rfl) (himp2 _) ?_ rfl
          rintro r A3 ⟨B3, v3, S3, hA3, rfl, hK3, hN3, hR3⟩
          simp only [zW, zX, zD, builtinA, isLeaf, const1, Nat.reduceAdd, Nat.reduceMul, Nat.reduceSub, Nat.reduceLT, Nat.reduceLeDiff, Nat.reduceEqDiff, Nat.reduceBEq, Nat.reduceBNe, reduceIte, reduceCtorEq, Int.reduceToNat, Int.reduceLT, Int.reduceLE, Int.reduceEq, Int.reduceNe, Int.reduceNeg, ustrA, ti3, ti4, ti5, ti9, ti22, ti23, ti25, ti26, ti34, ca6, ca7, ca8, ca9, ca10, cf, Try.results3, enc_length, enc_take, enc_drop, frzL_enc, enc_closed, Option.map_some]
          have fr : ∀ i, i < A'.length → (A3 ++ [Box.cells [.int .i64 k, .str m, .str n, v3]]).getD i .dead = A'.getD i .dead := fun i hi => by
            rw [Abs.getD_append_left (by rw [hA3]; simp; omega), hA3, Abs.getD_append_left (by simp; omega), Abs.getD_set_ne' (by omega)]
            exact gf i hi
          have c0 := (fr 0 (by omega)).trans b0
          have c1 := (fr (B1.length + 1) (by omega)).trans b1
          have c3 : (A3 ++ [Box.cells [.int .i64 k, .str m, .str n, v3]]).getD A3.length .dead = .cells [.int .i64 k, .str m, .str n, v3] := by rw [Abs.getD_append_right (Nat.le_refl _)]; simp
          have hK4 : OwnK (A3 ++ [Box.cells [.int .i64 k, .str m, .str n, v3]]) ks v3 S3 := hK3.frame fun i hi => by rw [Abs.getD_append_left (hR3 i hi).2]
          have hK5 : OwnK (A3 ++ [Box.cells [.int .i64 k, .str m, .str n, v3]]) ks' v1 S1 := hK2.frame fun i hi => fr i (hK2.low i hi)
          have l4 : A3.length < (A3 ++ [Box.cells [.int .i64 k, .str m, .str n, v3]]).length := by simp
          have l5 : A'.length ≤ A3.length := by rw [hA3]; simp; omega
          clear hK3 hR3 hA3 fr
          generalize (A3 ++ [Box.cells [.int .i64 k, .str m, .str n, v3]]) = A4 at *
          simp only [zW, zX, zD, builtinA, isLeaf, const1, Nat.reduceAdd, Nat.reduceMul, Nat.reduceSub, Nat.reduceLT, Nat.reduceLeDiff, Nat.reduceEqDiff, Nat.reduceBEq, Nat.reduceBNe, reduceIte, reduceCtorEq, Int.reduceToNat, Int.reduceLT, Int.reduceLE, Int.reduceEq, Int.reduceNe, Int.reduceNeg, ustrA, ti3, ti4, ti5, ti9, ti22, ti23, ti25, ti26, ti34, ca6, ca7, ca8, ca9, ca10, cf, Try.results3, c0, c1, c3, enc_length, enc_take, enc_drop, frzL_enc, enc_closed, Option.map_some]
          refine callO_intro (borrowI (.cons (hK4.viewT k m n) (.cons (viewNS _ _) .nil)) rfl htt) ?_
          rintro r A7 ⟨rfl, rfl⟩
          simp only [zW, zX, zD, builtinA, isLeaf, const1, Nat.reduceAdd, Nat.reduceMul, Nat.reduceSub, Nat.reduceLT, Nat.reduceLeDiff, Nat.reduceEqDiff, Nat.reduceBEq, Nat.reduceBNe, reduceIte, reduceCtorEq, Int.reduceToNat, Int.reduceLT, Int.reduceLE, Int.reduceEq, Int.reduceNe, Int.reduceNeg, ustrA, ti3, ti4, ti5, ti9, ti22, ti23, ti25, ti26, ti34, ca6, ca7, ca8, ca9, ca10, cf, Try.results3, c0, c1, c3, enc_length, enc_take, enc_drop, frzL_enc, enc_closed, Option.map_some]
          refine callO_intro (borrowI (.cons (hK5.viewT k' m' n') (.cons (viewNS _ _) .nil)) rfl (htx (by simp))) ?_
          rintro r A8 ⟨rfl, rfl⟩
          simp only [zW, zX, zD, builtinA, isLeaf, const1, Nat.reduceAdd, Nat.reduceMul, Nat.reduceSub, Nat.reduceLT, Nat.reduceLeDiff, Nat.reduceEqDiff, Nat.reduceBEq, Nat.reduceBNe, reduceIte, reduceCtorEq, Int.reduceToNat, Int.reduceLT, Int.reduceLE, Int.reduceEq, Int.reduceNe, Int.reduceNeg, ustrA, ti3, ti4, ti5, ti9, ti22, ti23, ti25, ti26, ti34, ca6, ca7, ca8, ca9, ca10, cf, Try.results3]
      · have hjl : j < A10.length := live_lt hg (by simp)
        simp only [zW, zX, zD, builtinA, isLeaf, const1, Nat.reduceAdd, Nat.reduceMul, Nat.reduceSub, Nat.reduceLT, Nat.reduceLeDiff, Nat.reduceEqDiff, Nat.reduceBEq, Nat.reduceBNe, reduceIte, reduceCtorEq, Int.reduceToNat, Int.reduceLT, Int.reduceLE, Int.reduceEq, Int.reduceNe, Int.reduceNeg, ustrA, ti3, ti4, ti5, ti9, ti22, ti23, ti25, ti26, ti34, ca6, ca7, ca8, ca9, ca10, cf, Try.results3]
        refine aloop_intro [3, 4, 5, 9, 10, 11, 12] (fun e H => ∃ (i s : Nat) (sm : Bool), i ≤ ns.length ∧ e = [(3, .ptr 0 0), (4, .slice (bEs l)), (5, .ptr (B1.length + 1) 0), (9, .own s), (10, .bool sm), (11, .own j), (12, .int .i64 i)] ∧ (∀ q, q < A'.length → H.getD q .dead = A'.getD q .dead) ∧ H.getD j .dead = .gr none 4 (nrows ns) ∧ H.getD s .dead = .row 6 (bEs ((selfs (ns.take i)).map ofB)) 0 ∧ A'.length ≤ s ∧ s ≠ j ∧ s < H.length ∧ j < H.length ∧ (sm = false → ∀ p ∈ ns.take i, ∀ b ∈ l, ¬ (b.mod = p.1 ∧ b.name = p.2))) (fun e _ => ns.length - (intOf (Abs.look 12 e)).toNat) ?_ ?_
        · simp only [zW, zX, zD, builtinA, isLeaf, const1, Nat.reduceAdd, Nat.reduceMul, Nat.reduceSub, Nat.reduceLT, Nat.reduceLeDiff, Nat.reduceEqDiff, Nat.reduceBEq, Nat.reduceBNe, reduceIte, reduceCtorEq, Int.reduceToNat, Int.reduceLT, Int.reduceLE, Int.reduceEq, Int.reduceNe, Int.reduceNeg, ustrA, ti3, ti4, ti5, ti9, ti22, ti23, ti25, ti26, ti34, ca6, ca7, ca8, ca9, ca10, cf, Try.results3]
          exact ⟨0, A'.length, false, by omega, rfl, gf, hg, gs, Nat.le_refl _, fun h => hjs j hj h.symm, gl, hjl, fun _ p hp => by simp at hp⟩
        · clear gf gs g0 gl hg hjl
          rintro e H ⟨i, s, sm, hi, rfl, gf, hg, gs, hs1, hs2, gl, hjl, hsm⟩
          have g0 := (gf 0 (by omega)).trans b0
          simp only [zW, zX, zD, builtinA, isLeaf, const1, Nat.reduceAdd, Nat.reduceMul, Nat.reduceSub, Nat.reduceLT, Nat.reduceLeDiff, Nat.reduceEqDiff, Nat.reduceBEq, Nat.reduceBNe, reduceIte, reduceCtorEq, Int.reduceToNat, Int.reduceLT, Int.reduceLE, Int.reduceEq, Int.reduceNe, Int.reduceNeg, ustrA, ti3, ti4, ti5, ti9, ti22, ti23, ti25, ti26, ti34, ca6, ca7, ca8, ca9, ca10, cf, Try.results3, hg, nrows_length]
          refine condK_intro (fun h2 => ?_) (fun h2 => ?_)
          · have hi2 : i < ns.length := by simpa using h2
            have hgi := nrows_getD hi2
            have hi1 : IntKind.i64.wrap ((i : Int) + 1) = ((i + 1 : Nat) : Int) := by rw [wrap64 (by omega) (by omega)]; rfl
            have pi : (0 : Int) ≤ (i : Int) ∧ (i : Int) < (ns.length : Int) := ⟨by omega, by omega⟩
            simp only [zW, zX, zD, builtinA, isLeaf, const1, Nat.reduceAdd, Nat.reduceMul, Nat.reduceSub, Nat.reduceLT, Nat.reduceLeDiff, Nat.reduceEqDiff, Nat.reduceBEq, Nat.reduceBNe, reduceIte, reduceCtorEq, Int.reduceToNat, Int.reduceLT, Int.reduceLE, Int.reduceEq, Int.reduceNe, Int.reduceNeg, ustrA, ti3, ti4, ti5, ti9, ti22, ti23, ti25, ti26, ti34, ca6, ca7, ca8, ca9, ca10, cf, Try.results3]
            refine .inr (drawI_intro (.pur 0 (.pur 1 (.pur 2 (.pur 3 (.pur 4 (.pur 5 (.pur 6 (.pur 7 (.pur 8 (.pur 9 (.pur 10 (.pur 11 (.pur 12 (.pur 13 (.pur 14 (.pur 15 (.or 16 (.or 17 (.pur 18 .done) .stop) .stop))))))))))))))))) (IBox j (.gr none 4 (nrows ns))) (by kernel_rfl) ?_ ?_)
            · exact ⟨hg, hjl⟩
            iterate 16 (refine wpI_pur_intro (v := ?_) _ rfl rfl (by decide) rfl (fun A' hI => ?_) ?_; rotate_left 1; (simp only [zW, zX, zD, builtinA, isLeaf, const1, Nat.reduceAdd, Nat.reduceMul, Nat.reduceSub, Nat.reduceLT, Nat.reduceLeDiff, Nat.reduceEqDiff, Nat.reduceBEq, Nat.reduceBNe, reduceIte, reduceCtorEq, Int.reduceToNat, Int.reduceLT, Int.reduceLE, Int.reduceEq, Int.reduceNe, Int.reduceNeg, ustrA, ti3, ti4, ti5, ti9, ti22, ti23, ti25, ti26, ti34, ca6, ca7, ca8, ca9, ca10, cf, Try.results3, hI.1, hI.2, hgi, pi.1, pi.2, nrows_length, gs]; first | exact ⟨rfl, rfl⟩ | exact rfl))
            simp only [zW, zX, zD, builtinA, isLeaf, const1, Nat.reduceAdd, Nat.reduceMul, Nat.reduceSub, Nat.reduceLT, Nat.reduceLeDiff, Nat.reduceEqDiff, Nat.reduceBEq, Nat.reduceBNe, reduceIte, reduceCtorEq, Int.reduceToNat, Int.reduceLT, Int.reduceLE, Int.reduceEq, Int.reduceNe, Int.reduceNeg, ustrA, ti3, ti4, ti5, ti9, ti22, ti23, ti25, ti26, ti34, ca6, ca7, ca8, ca9, ca10, cf, Try.results3, wpI_or_eq, wpI_stop_eq, wpI_done_eq]
            refine ⟨by simp, IBox.app ⟨hg, hjl⟩ _, ?_⟩
            rw [Abs.getD_append_left gl, gs]
            simp only [zW, zX, zD, builtinA, isLeaf, const1, Nat.reduceAdd, Nat.reduceMul, Nat.reduceSub, Nat.reduceLT, Nat.reduceLeDiff, Nat.reduceEqDiff, Nat.reduceBEq, Nat.reduceBNe, reduceIte, reduceCtorEq, Int.reduceToNat, Int.reduceLT, Int.reduceLE, Int.reduceEq, Int.reduceNe, Int.reduceNeg, ustrA, ti3, ti4, ti5, ti9, ti22, ti23, ti25, ti26, ti34, ca6, ca7, ca8, ca9, ca10, cf, Try.results3, wpI_or_eq, wpI_stop_eq, wpI_done_eq]
            have hst : ns.take (i + 1) = ns.take i ++ [ns.getD i ([], [])] := by rw [List.take_add_one]; simp [List.getD, hi2]
            have hrow := selfs_snoc (ns.take i) (ns.getD i ([], []))
            rw [← hst] at hrow
            rw [hrow]
            refine ⟨⟨by simp, by rw [bEs_length, List.length_map, selfs, List.length_map, List.length_take]; omega⟩, IBox.app (IBox.set (IBox.app ⟨hg, hjl⟩ _) hs2 _) _, ?_⟩
            (refine wpI_pur_intro (v := ?_) _ rfl rfl (by decide) rfl (fun A' hI => ?_) ?_; rotate_left 1; (simp only [zW, zX, zD, builtinA, isLeaf, const1, Nat.reduceAdd, Nat.reduceMul, Nat.reduceSub, Nat.reduceLT, Nat.reduceLeDiff, Nat.reduceEqDiff, Nat.reduceBEq, Nat.reduceBNe, reduceIte, reduceCtorEq, Int.reduceToNat, Int.reduceLT, Int.reduceLE, Int.reduceEq, Int.reduceNe, Int.reduceNeg, ustrA, ti3, ti4, ti5, ti9, ti22, ti23, ti25, ti26, ti34, ca6, ca7, ca8, ca9, ca10, cf, Try.results3, hI.1, hI.2]; first | exact ⟨rfl, rfl⟩ | exact rfl))
            simp only [zW, zX, zD, builtinA, isLeaf, const1, Nat.reduceAdd, Nat.reduceMul, Nat.reduceSub, Nat.reduceLT, Nat.reduceLeDiff, Nat.reduceEqDiff, Nat.reduceBEq, Nat.reduceBNe, reduceIte, reduceCtorEq, Int.reduceToNat, Int.reduceLT, Int.reduceLE, Int.reduceEq, Int.reduceNe, Int.reduceNeg, ustrA, ti3, ti4, ti5, ti9, ti22, ti23, ti25, ti26, ti34, ca6, ca7, ca8, ca9, ca10, cf, Try.results3, wpI_done_eq]
            generalize hX : Box.row 6 [[AV.str (ns.getD i ([], [])).fst, AV.str (ns.getD i ([], [])).snd, AV.int IntKind.i64 3, AV.str (ns.getD i ([], [])).fst, AV.str (ns.getD i ([], [])).snd, AV.slice []]] 0 = X
            have kf : ∀ q, q < A'.length → ((H ++ [X]).set s .dead ++ [Box.row 6 (bEs ((selfs (ns.take (i + 1))).map ofB)) 0]).getD q .dead = A'.getD q .dead := fun q hq => by
              rw [Abs.getD_append_left (by simp; omega), Abs.getD_set_ne' (by omega), Abs.getD_append_left (by omega)]; exact gf q hq
            have kg : ((H ++ [X]).set s .dead ++ [Box.row 6 (bEs ((selfs (ns.take (i + 1))).map ofB)) 0]).getD j .dead = .gr none 4 (nrows ns) := by
              rw [Abs.getD_append_left (by simp; omega), Abs.getD_set_ne' hs2, Abs.getD_append_left (by omega)]; exact hg
            have ks2 : ((H ++ [X]).set s .dead ++ [Box.row 6 (bEs ((selfs (ns.take (i + 1))).map ofB)) 0]).getD (H.length + 1) .dead = .row 6 (bEs ((selfs (ns.take (i + 1))).map ofB)) 0 := by
              rw [Abs.getD_append_right (by simp)]; simp
            have kl : ((H ++ [X]).set s .dead ++ [Box.row 6 (bEs ((selfs (ns.take (i + 1))).map ofB)) 0]).length = H.length + 1 + 1 := by simp
            generalize ((H ++ [X]).set s .dead ++ [Box.row 6 (bEs ((selfs (ns.take (i + 1))).map ofB)) 0]) = K at *
            refine aloop_intro [3, 4, 5, 9, 10, 11, 12, 13] (fun e H' => ∃ (q : Nat) (sm : Bool), q ≤ l.length ∧ e = [(3, .ptr 0 0), (4, .slice (bEs l)), (5, .ptr (B1.length + 1) 0), (9, .own (H.length + 1)), (10, .bool sm), (11, .own j), (12, .int .i64 i), (13, .int .i64 q)] ∧ H' = K ∧ (sm = false → (∀ p ∈ ns.take i, ∀ b ∈ l, ¬ (b.mod = p.1 ∧ b.name = p.2)) ∧ ∀ b ∈ l.take q, ¬ (b.mod = (ns.getD i ([], [])).1 ∧ b.name = (ns.getD i ([], [])).2))) (fun e _ => l.length - (intOf (Abs.look 13 e)).toNat) ?_ ?_
            · simp only [zW, zX, zD, builtinA, isLeaf, const1, Nat.reduceAdd, Nat.reduceMul, Nat.reduceSub, Nat.reduceLT, Nat.reduceLeDiff, Nat.reduceEqDiff, Nat.reduceBEq, Nat.reduceBNe, reduceIte, reduceCtorEq, Int.reduceToNat, Int.reduceLT, Int.reduceLE, Int.reduceEq, Int.reduceNe, Int.reduceNeg, ustrA, ti3, ti4, ti5, ti9, ti22, ti23, ti25, ti26, ti34, ca6, ca7, ca8, ca9, ca10, cf, Try.results3]
              exact ⟨0, sm, by omega, rfl, fun h => ⟨hsm h, by simp⟩⟩
            · rintro e H' ⟨q, sm, hq, rfl, rfl, hsm2⟩
              simp only [zW, zX, zD, builtinA, isLeaf, const1, Nat.reduceAdd, Nat.reduceMul, Nat.reduceSub, Nat.reduceLT, Nat.reduceLeDiff, Nat.reduceEqDiff, Nat.reduceBEq, Nat.reduceBNe, reduceIte, reduceCtorEq, Int.reduceToNat, Int.reduceLT, Int.reduceLE, Int.reduceEq, Int.reduceNe, Int.reduceNeg, ustrA, ti3, ti4, ti5, ti9, ti22, ti23, ti25, ti26, ti34, ca6, ca7, ca8, ca9, ca10, cf, Try.results3, bEs_length]
              refine condK_intro (fun h3 => ?_) (fun h3 => ?_)
              · have hq2 : q < l.length := by simpa using h3
                have hbq := bEs_getD hq2
                have hq1 : IntKind.i64.wrap ((q : Int) + 1) = ((q + 1 : Nat) : Int) := by rw [wrap64 (by omega) (by omega)]; rfl
                have pq : (0 : Int) ≤ (q : Int) ∧ (q : Int) < (l.length : Int) := ⟨by omega, by omega⟩
                rw [bE] at hbq
                have hlt := bd_take hq2
                generalize l.getD q bd0 = b at *
                generalize ns.getD i ([], []) = p at *
                cases sm with
                | true =>
                  simp only [zW, zX, zD, builtinA, isLeaf, const1, Nat.reduceAdd, Nat.reduceMul, Nat.reduceSub, Nat.reduceLT, Nat.reduceLeDiff, Nat.reduceEqDiff, Nat.reduceBEq, Nat.reduceBNe, reduceIte, reduceCtorEq, Int.reduceToNat, Int.reduceLT, Int.reduceLE, Int.reduceEq, Int.reduceNe, Int.reduceNeg, ustrA, ti3, ti4, ti5, ti9, ti22, ti23, ti25, ti26, ti34, ca6, ca7, ca8, ca9, ca10, cf, Try.results3]
                  refine .inl ⟨by kernel_rfl, by kernel_rfl, ?_⟩
                  simp only [zW, zX, zD, builtinA, isLeaf, const1, Nat.reduceAdd, Nat.reduceMul, Nat.reduceSub, Nat.reduceLT, Nat.reduceLeDiff, Nat.reduceEqDiff, Nat.reduceBEq, Nat.reduceBNe, reduceIte, reduceCtorEq, Int.reduceToNat, Int.reduceLT, Int.reduceLE, Int.reduceEq, Int.reduceNe, Int.reduceNeg, ustrA, ti3, ti4, ti5, ti9, ti22, ti23, ti25, ti26, ti34, ca6, ca7, ca8, ca9, ca10, cf, Try.results3, hq1, LoopK_eq]
                  refine ⟨⟨q + 1, true, by omega, rfl, by simp⟩, ?_⟩
                  simp only [intOf]; omega
                | false =>
                  obtain ⟨hf1, hf2⟩ := hsm2 rfl
                  have hnx : ¬ (b.mod = p.1 ∧ b.name = p.2) → ∀ x ∈ l.take (q + 1), ¬ (x.mod = p.1 ∧ x.name = p.2) := fun h x hx => by
                    rw [hlt] at hx
                    rcases List.mem_append.1 hx with hx | hx
                    · exact hf2 x hx
                    · rw [List.mem_singleton.1 hx]; exact h
                  simp only [zW, zX, zD, builtinA, isLeaf, const1, Nat.reduceAdd, Nat.reduceMul, Nat.reduceSub, Nat.reduceLT, Nat.reduceLeDiff, Nat.reduceEqDiff, Nat.reduceBEq, Nat.reduceBNe, reduceIte, reduceCtorEq, Int.reduceToNat, Int.reduceLT, Int.reduceLE, Int.reduceEq, Int.reduceNe, Int.reduceNeg, ustrA, ti3, ti4, ti5, ti9, ti22, ti23, ti25, ti26, ti34, ca6, ca7, ca8, ca9, ca10, cf, Try.results3, hbq, hgi, kg, bEs_length, nrows_length]
                  refine .inl ⟨by kernel_rfl, by kernel_rfl, pq, pi, ?_⟩
                  by_cases k1 : b.mod = p.1
                  · simp only [zW, zX, zD, builtinA, isLeaf, const1, Nat.reduceAdd, Nat.reduceMul, Nat.reduceSub, Nat.reduceLT, Nat.reduceLeDiff, Nat.reduceEqDiff, Nat.reduceBEq, Nat.reduceBNe, reduceIte, reduceCtorEq, Int.reduceToNat, Int.reduceLT, Int.reduceLE, Int.reduceEq, Int.reduceNe, Int.reduceNeg, ustrA, ti3, ti4, ti5, ti9, ti22, ti23, ti25, ti26, ti34, ca6, ca7, ca8, ca9, ca10, cf, Try.results3, decide_eq_true k1, hbq, hgi, kg, bEs_length, nrows_length]
                    refine ⟨pq, pi, ?_⟩
                    by_cases k2 : b.name = p.2
                    · simp only [zW, zX, zD, builtinA, isLeaf, const1, Nat.reduceAdd, Nat.reduceMul, Nat.reduceSub, Nat.reduceLT, Nat.reduceLeDiff, Nat.reduceEqDiff, Nat.reduceBEq, Nat.reduceBNe, reduceIte, reduceCtorEq, Int.reduceToNat, Int.reduceLT, Int.reduceLE, Int.reduceEq, Int.reduceNe, Int.reduceNeg, ustrA, ti3, ti4, ti5, ti9, ti22, ti23, ti25, ti26, ti34, ca6, ca7, ca8, ca9, ca10, cf, Try.results3, decide_eq_true k2, hq1, LoopK_eq]
                      refine ⟨⟨q + 1, true, by omega, rfl, by simp⟩, ?_⟩
                      simp only [intOf]; omega
                    · simp only [zW, zX, zD, builtinA, isLeaf, const1, Nat.reduceAdd, Nat.reduceMul, Nat.reduceSub, Nat.reduceLT, Nat.reduceLeDiff, Nat.reduceEqDiff, Nat.reduceBEq, Nat.reduceBNe, reduceIte, reduceCtorEq, Int.reduceToNat, Int.reduceLT, Int.reduceLE, Int.reduceEq, Int.reduceNe, Int.reduceNeg, ustrA, ti3, ti4, ti5, ti9, ti22, ti23, ti25, ti26, ti34, ca6, ca7, ca8, ca9, ca10, cf, Try.results3, decide_eq_false k2, hq1, LoopK_eq]
                      refine ⟨⟨q + 1, false, by omega, rfl, fun _ => ⟨hf1, hnx fun h => k2 h.2⟩⟩, ?_⟩
                      simp only [intOf]; omega
                  · simp only [zW, zX, zD, builtinA, isLeaf, const1, Nat.reduceAdd, Nat.reduceMul, Nat.reduceSub, Nat.reduceLT, Nat.reduceLeDiff, Nat.reduceEqDiff, Nat.reduceBEq, Nat.reduceBNe, reduceIte, reduceCtorEq, Int.reduceToNat, Int.reduceLT, Int.reduceLE, Int.reduceEq, Int.reduceNe, Int.reduceNeg, ustrA, ti3, ti4, ti5, ti9, ti22, ti23, ti25, ti26, ti34, ca6, ca7, ca8, ca9, ca10, cf, Try.results3, decide_eq_false k1, hq1, LoopK_eq]
                    refine ⟨⟨q + 1, false, by omega, rfl, fun _ => ⟨hf1, hnx fun h => k1 h.1⟩⟩, ?_⟩
                    simp only [intOf]; omega
              · have : q = l.length := by simp at h3; omega
                subst this
                rw [List.take_length] at hsm2
                simp only [zW, zX, zD, builtinA, isLeaf, const1, Nat.reduceAdd, Nat.reduceMul, Nat.reduceSub, Nat.reduceLT, Nat.reduceLeDiff, Nat.reduceEqDiff, Nat.reduceBEq, Nat.reduceBNe, reduceIte, reduceCtorEq, Int.reduceToNat, Int.reduceLT, Int.reduceLE, Int.reduceEq, Int.reduceNe, Int.reduceNeg, ustrA, ti3, ti4, ti5, ti9, ti22, ti23, ti25, ti26, ti34, ca6, ca7, ca8, ca9, ca10, cf, Try.results3, hi1, LoopK_eq]
                refine ⟨⟨i + 1, H.length + 1, sm, by omega, rfl, kf, kg, ks2, by omega, by omega, by omega, by omega, fun h p hp => ?_⟩, ?_⟩
                · rw [hst] at hp
                  rcases List.mem_append.1 hp with hp | hp
                  · exact (hsm2 h).1 p hp
                  · rw [List.mem_singleton.1 hp]; exact (hsm2 h).2
                · simp only [intOf]; omega
          · have : i = ns.length := by simp at h2; omega
            subst this
            rw [List.take_length] at gs hsm
            simp only [zW, zX, zD, builtinA, isLeaf, const1, Nat.reduceAdd, Nat.reduceMul, Nat.reduceSub, Nat.reduceLT, Nat.reduceLeDiff, Nat.reduceEqDiff, Nat.reduceBEq, Nat.reduceBNe, reduceIte, reduceCtorEq, Int.reduceToNat, Int.reduceLT, Int.reduceLE, Int.reduceEq, Int.reduceNe, Int.reduceNeg, ustrA, ti3, ti4, ti5, ti9, ti22, ti23, ti25, ti26, ti34, ca6, ca7, ca8, ca9, ca10, cf, Try.results3, g0, gs, enc_length, enc_take, enc_drop, frzL_enc, enc_closed, Option.map_some]
            refine callK_intro (by simp only [zW, zX, zD, builtinA, isLeaf, const1, Nat.reduceAdd, Nat.reduceMul, Nat.reduceSub, Nat.reduceLT, Nat.reduceLeDiff, Nat.reduceEqDiff, Nat.reduceBEq, Nat.reduceBNe, reduceIte, reduceCtorEq, Int.reduceToNat, Int.reduceLT, Int.reduceLE, Int.reduceEq, Int.reduceNe, Int.reduceNeg, ustrA, g0, gs, gl, enc_length, enc_take, enc_drop, frzL_enc, enc_closed, Option.map_some]; rfl) (himp2 _) ?_ rfl
            rintro r A3 ⟨B3, v3, S3, hA3, rfl, hK3, hN3, hR3⟩
            simp only [zW, zX, zD, builtinA, isLeaf, const1, Nat.reduceAdd, Nat.reduceMul, Nat.reduceSub, Nat.reduceLT, Nat.reduceLeDiff, Nat.reduceEqDiff, Nat.reduceBEq, Nat.reduceBNe, reduceIte, reduceCtorEq, Int.reduceToNat, Int.reduceLT, Int.reduceLE, Int.reduceEq, Int.reduceNe, Int.reduceNeg, ustrA, ti3, ti4, ti5, ti9, ti22, ti23, ti25, ti26, ti34, ca6, ca7, ca8, ca9, ca10, cf, Try.results3, enc_length, enc_take, enc_drop, frzL_enc, enc_closed, Option.map_some]
            have fr : ∀ i, i < A'.length → (A3 ++ [Box.cells [.int .i64 k, .str m, .str n, v3]]).getD i .dead = A'.getD i .dead := fun i hi => by
              rw [Abs.getD_append_left (by rw [hA3]; simp; omega), hA3, Abs.getD_append_left (by simp; omega), Abs.getD_set_ne' (by omega)]
              exact gf i hi
            have c0 := (fr 0 (by omega)).trans b0
            have c1 := (fr (B1.length + 1) (by omega)).trans b1
            have c3 : (A3 ++ [Box.cells [.int .i64 k, .str m, .str n, v3]]).getD A3.length .dead = .cells [.int .i64 k, .str m, .str n, v3] := by rw [Abs.getD_append_right (Nat.le_refl _)]; simp
            have hK4 : OwnK (A3 ++ [Box.cells [.int .i64 k, .str m, .str n, v3]]) ks v3 S3 := hK3.frame fun i hi => by rw [Abs.getD_append_left (hR3 i hi).2]
            have hK5 : OwnK (A3 ++ [Box.cells [.int .i64 k, .str m, .str n, v3]]) ks' v1 S1 := hK2.frame fun i hi => fr i (hK2.low i hi)
            have l4 : A3.length < (A3 ++ [Box.cells [.int .i64 k, .str m, .str n, v3]]).length := by simp
            have l5 : A'.length ≤ A3.length := by rw [hA3]; simp; omega
            clear hK3 hR3 hA3 fr
            generalize (A3 ++ [Box.cells [.int .i64 k, .str m, .str n, v3]]) = A4 at *
            simp only [zW, zX, zD, builtinA, isLeaf, const1, Nat.reduceAdd, Nat.reduceMul, Nat.reduceSub, Nat.reduceLT, Nat.reduceLeDiff, Nat.reduceEqDiff, Nat.reduceBEq, Nat.reduceBNe, reduceIte, reduceCtorEq, Int.reduceToNat, Int.reduceLT, Int.reduceLE, Int.reduceEq, Int.reduceNe, Int.reduceNeg, ustrA, ti3, ti4, ti5, ti9, ti22, ti23, ti25, ti26, ti34, ca6, ca7, ca8, ca9, ca10, cf, Try.results3, c0, c1, c3, enc_length, enc_take, enc_drop, frzL_enc, enc_closed, Option.map_some]
            refine callO_intro (borrowI (.cons (hK4.viewT k m n) (.cons (viewNS _ _) .nil)) rfl htt) ?_
            rintro r A7 ⟨rfl, rfl⟩
            cases sm with
            | true => simp only [zW, zX, zD, builtinA, isLeaf, const1, Nat.reduceAdd, Nat.reduceMul, Nat.reduceSub, Nat.reduceLT, Nat.reduceLeDiff, Nat.reduceEqDiff, Nat.reduceBEq, Nat.reduceBNe, reduceIte, reduceCtorEq, Int.reduceToNat, Int.reduceLT, Int.reduceLE, Int.reduceEq, Int.reduceNe, Int.reduceNeg, ustrA, ti3, ti4, ti5, ti9, ti22, ti23, ti25, ti26, ti34, ca6, ca7, ca8, ca9, ca10, cf, Try.results3, c0, c1, c3, enc_length, enc_take, enc_drop, frzL_enc, enc_closed, Option.map_some]
            | false =>
              simp only [zW, zX, zD, builtinA, isLeaf, const1, Nat.reduceAdd, Nat.reduceMul, Nat.reduceSub, Nat.reduceLT, Nat.reduceLeDiff, Nat.reduceEqDiff, Nat.reduceBEq, Nat.reduceBNe, reduceIte, reduceCtorEq, Int.reduceToNat, Int.reduceLT, Int.reduceLE, Int.reduceEq, Int.reduceNe, Int.reduceNeg, ustrA, ti3, ti4, ti5, ti9, ti22, ti23, ti25, ti26, ti34, ca6, ca7, ca8, ca9, ca10, cf, Try.results3, c0, c1, c3, enc_length, enc_take, enc_drop, frzL_enc, enc_closed, Option.map_some]
              refine callO_intro (borrowI (.cons (hK5.viewT k' m' n') (.cons (viewNS _ _) .nil)) rfl (htx (hsm rfl))) ?_
              rintro r A8 ⟨rfl, rfl⟩
              simp only [zW, zX, zD, builtinA, isLeaf, const1, Nat.reduceAdd, Nat.reduceMul, Nat.reduceSub, Nat.reduceLT, Nat.reduceLeDiff, Nat.reduceEqDiff, Nat.reduceBEq, Nat.reduceBNe, reduceIte, reduceCtorEq, Int.reduceToNat, Int.reduceLT, Int.reduceLE, Int.reduceEq, Int.reduceNe, Int.reduceNeg, ustrA, ti3, ti4, ti5, ti9, ti22, ti23, ti25, ti26, ti34, ca6, ca7, ca8, ca9, ca10, cf, Try.results3]

theorem substTy_rec : ∀ t ∈ Try.f3.params.toList, Try.prog.readableRec t = true ∧ t < Try.prog.types.size := by
  rw [Try.params3]
  intro t ht
  simp at ht
  subst ht
  exact ⟨by kernel_rfl, of_decide_eq_true (by kernel_rfl)⟩
set_option maxRecDepth 100000 in
theorem substTy_lifted (os : Os) (started : os.Started) (H : Type) (enc' : TypeId × Value → H) :
    ReturnsInHanded {} Try.checked os 3 .any (Rows.fnSubstTypeSpec.pre6 enc' Try.prog Try.f3 Rows.fnSubstTypeRow.domain false) (Rows.fnSubstTypeSpec.post enc' Try.prog Try.f3 false true false false) := by
  refine returnsInHanded_of_change (C := Try.checked) ownk started (by kernel_rfl) Try.func3
    (ChangeSpec.witness6 (enc := enc') (C := Try.checked) false ⟨#[], #[.slice none 0 0], []⟩ 8 (by kernel_rfl) (by kernel_rfl) (by kernel_rfl) (by kernel_rfl)) ?_
  intro W base args ds gs before hval0 hW hcnd _
  have hval : ∀ (j : Nat) t v, Try.f3.params[j]? = some t → args[j]? = some v → Value.okWide Try.prog W .any base t v := hval0
  have hW' := hW
  obtain ⟨p, q, hA0, hV, rfl, hfz, hnd⟩ := hW
  have hA : DataW.TrodAll enc' Try.prog W 0 (fun _ => true) true Try.f3.params.toList args.toList ds p := hA0
  rw [Try.params3] at hA hval
  have hlt := hA.lt
  obtain ⟨v0, d0, rfl, rfl, h0⟩ := trodAll_one hA
  obtain ⟨rfl, rfl⟩ := trodVars_none hV
  obtain ⟨x0, r0⟩ := rv_bytes Try.underlying22 Try.underlying5 (by kernel_rfl) (hval 0 22 v0 rfl rfl) h0 (fun x hx => hlt x (by simp [hx]))
  refine (law_calls (substTy_true x0) (.cons r0 .nil)).mono fun e W' ⟨he, hb⟩ => ?_
  subst he
  exact ⟨_, rfl, law_post laid substTy_rec rfl Try.underlying4 (by kernel_rfl) ⟨rfl, rfl⟩ rfl hW' hb⟩
theorem substTy_holds : Rows.FnSubstTypeSaid :=
  OpenClaim.holds_of_wide 3 Try.f3 rfl rfl rfl rfl rfl rfl rfl ⟨rfl, rfl, rfl, rfl, rfl⟩ rfl rfl rfl rfl rfl (by kernel_rfl) Try.func3 (by kernel_rfl)
    (of_decide_eq_true (by kernel_rfl)) (by unfold Func.isWrapper; first | (rw [if_pos (by decide +kernel)]; kernel_rfl) | (rw [if_neg (by decide +kernel)]; exact ⟨rfl, rfl⟩))
    (fun os started H enc' _ => substTy_lifted os started H enc')
end Go.Proofs.Ytlffbkmjigiplaa
