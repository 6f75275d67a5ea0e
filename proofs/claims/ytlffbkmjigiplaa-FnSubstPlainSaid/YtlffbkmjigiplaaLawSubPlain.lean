/- Whatever the type and the bindings that are drawn: SubstType answers as the model says; no bindings change nothing; a type without names stays as it is. No condition beside the row's own. -/
import Derived.Test.YtlffbkmjigiplaaDrawSub
import Derived.Test.YtlffbkmjigiplaaSubOutS
import Derived.Test.YtlffbkmjigiplaaTyNames
import Derived.Test.YtlffbkmjigiplaaSameA2
import Derived.Test.YtlffbkmjigiplaaOkSz
import Derived.Test.YtlffbkmjigiplaaFrk
import Derived.Test.YtlffbkmjigiplaaAbsW3
set_option linter.unusedVariables false
set_option linter.unusedSimpArgs false
namespace Go.Proofs.Ytlffbkmjigiplaa
open Go.Abs Go.RowKit Go.ChangeShapes Go.WideShapes Go.ChangeAt Go.ChangeMaps

theorem subV_nil : ∀ v, subV [] v = v
  | .num => rfl
  | .nm m n => by simp [subV, lookB]
  | .fn a b => by rw [subV, subV_nil a, subV_nil b]
theorem addN_ne {ns : List Nm} {p : Nm} : addN ns p ≠ [] := by
  unfold addN
  split
  · rename_i h; intro e; rw [e] at h; simp at h
  · simp
theorem nmsV_mono : ∀ (v : VT) {ns : List Nm}, ns ≠ [] → nmsV ns v ≠ []
  | .num, ns, h => h
  | .nm m k, ns, h => addN_ne
  | .fn a b, ns, h => nmsV_mono b (nmsV_mono a h)
theorem subV_plain (m : List (BNm × VT)) : ∀ (v : VT), nmsV [] v = [] → subV m v = v
  | .num, _ => rfl
  | .nm a b, h => absurd h addN_ne
  | .fn a b, h => by
    have ha : nmsV [] a = [] := by
      rcases Classical.em (nmsV [] a = []) with e | e
      · exact e
      · exact absurd h (nmsV_mono b e)
    rw [nmsV, ha] at h
    rw [subV, subV_plain m a ha, subV_plain m b h]
theorem okV_fit {v : VT} (h : VOk v) : dep v ≤ 8 ∧ cnt v ≤ 63 := ⟨h.dep, h.cnt⟩
theorem subIs_none {v : VT} (hv : VOk v) : SubIs (toTy v) [] (some v) :=
  .inl ⟨v, [], rfl, hv, rfl, by simp, by have e : subV (foldB []) v = v := subV_nil v; simp only [e]; rw [if_pos (okV_fit hv)]⟩
theorem subIs_plain {v w : VT} {bs : List BdI} (hv : VOk v) (h : SubIs (toTy v) bs (some w)) (hn : nmsV [] v = []) : w = v := by
  rcases h with ⟨v', bd, e, hv', rfl, hok, h⟩ | ⟨_, h⟩
  · rw [← toTy_injS e, subV_plain _ _ hn, if_pos (okV_fit hv)] at h
    exact Option.some.inj h
  · cases h
theorem bds_ok {l : List BdI} (h : ∀ b ∈ l, BdS b) : ∀ b ∈ l, b.Ok ∧ szB b ≤ 1048576 := fun b hb => by
  have := h b hb
  rw [BdS, szB] at this
  exact ⟨⟨by omega, by omega, okSz _ (by omega)⟩, by rw [szB]; omega⟩
theorem subIs_valid {τ : Ty} {bs : List BdI} {w : VT} (h : SubIs τ bs (some w)) : ∃ v, τ = toTy v ∧ VOk v := by
  rcases h with ⟨v', bd, e, hv', rfl, hok, h⟩ | ⟨_, h⟩
  · exact ⟨v', e, hv'⟩
  · cases h
theorem sz_oTyS {τ : Ty} {bs : List BdI} {o : Option VT} (h : SubIs τ bs o) : sz (oTyS o) ≤ 126 := by
  cases o with
  | none => simp [oTyS, ty0, sz, szs]
  | some w =>
    have hw := subIs_some h
    have := sz_toTyS w hw.ok
    have := hw.cnt
    rw [oTyS]; omega

set_option maxRecDepth 100000 in
set_option maxHeartbeats 4000000 in
theorem substPlain_true (bs : List UInt8) : ACalls Try.prog 4 [.aslice (byteRows bs)] [] (fun v _ => v = .bool true) := by
  refine acalls_enter (cf := cf 75 [0, 2, 3, 4, 5, 6, 7, 8, 9, 10, 13, 43]) foll Try.func4 Try.ntmps4 (by simp [cf]) ?_
  simp only [Try.f4, EnterK_some, zW, zX, zD, builtinA, isLeaf, const1, Nat.reduceAdd, Nat.reduceMul, Nat.reduceSub, Nat.reduceLT, Nat.reduceLeDiff, Nat.reduceEqDiff, Nat.reduceBEq, Nat.reduceBNe, reduceIte, reduceCtorEq, Int.reduceToNat, Int.reduceLT, Int.reduceLE, Int.reduceEq, Int.reduceNe, Int.reduceNeg, ustrA, ti3, ti4, ti5, ti22, ti23, ti25, ti26, ti34, ca6, ca7, ca8, ca9, ca10, cf, Try.results4]
  by_cases hb : 1048576 < bs.length
  · have e1 : decide ((1048576 : Int) < bs.length) = true := decide_eq_true (by omega)
    simp only [zW, zX, zD, builtinA, isLeaf, const1, Nat.reduceAdd, Nat.reduceMul, Nat.reduceSub, Nat.reduceLT, Nat.reduceLeDiff, Nat.reduceEqDiff, Nat.reduceBEq, Nat.reduceBNe, reduceIte, reduceCtorEq, Int.reduceToNat, Int.reduceLT, Int.reduceLE, Int.reduceEq, Int.reduceNe, Int.reduceNeg, ustrA, ti3, ti4, ti5, ti22, ti23, ti25, ti26, ti34, ca6, ca7, ca8, ca9, ca10, cf, Try.results4, byteRows_length, e1]
  · have e1 : decide ((1048576 : Int) < bs.length) = false := decide_eq_false (by omega)
    simp only [zW, zX, zD, builtinA, isLeaf, const1, Nat.reduceAdd, Nat.reduceMul, Nat.reduceSub, Nat.reduceLT, Nat.reduceLeDiff, Nat.reduceEqDiff, Nat.reduceBEq, Nat.reduceBNe, reduceIte, reduceCtorEq, Int.reduceToNat, Int.reduceLT, Int.reduceLE, Int.reduceEq, Int.reduceNe, Int.reduceNeg, ustrA, ti3, ti4, ti5, ti22, ti23, ti25, ti26, ti34, ca6, ca7, ca8, ca9, ca10, cf, Try.results4, byteRows_length, e1]
    refine callK_intro (by simp only [zW, zX, zD, builtinA, isLeaf, const1, Nat.reduceAdd, Nat.reduceMul, Nat.reduceSub, Nat.reduceLT, Nat.reduceLeDiff, Nat.reduceEqDiff, Nat.reduceBEq, Nat.reduceBNe, reduceIte, reduceCtorEq, Int.reduceToNat, Int.reduceLT, Int.reduceLE, Int.reduceEq, Int.reduceNe, Int.reduceNeg, ustrA]; rfl) (spec_DrawSubstType bs _) ?_ rfl
    rintro v A' ⟨τ, l, rfl, hs, hl, hbd, rfl⟩
    have hτ := okSz τ (by omega)
    have hbo := bds_ok hbd
    obtain ⟨o, ho⟩ := subIs_ex τ l
    obtain ⟨k', m', n', ks', hρ⟩ : ∃ k m n ks, oTyS o = .mk k m n ks := by cases oTyS o; exact ⟨_, _, _, _, rfl⟩
    have hszρ := sz_oTyS ho
    have hspec : ∀ A, ACalls Try.prog 8 [.agg (enc τ), .slice (bEs l)] A (fun r A' => r = .tuple [.agg (enc (.mk k' m' n' ks')), .bool o.isSome] ∧ A' = A) := fun A => (spec_SubstType τ hτ (by omega) l (by omega) hbo A).mono fun r A' h => by
      obtain ⟨⟨o', h1, h2⟩, h3⟩ := h
      exact ⟨by rw [h2, ← subIs_one ho h1, hρ], h3⟩
    have himpl : ∀ A, ACalls Try.prog 7 [.agg (enc τ), .slice (bEs l)] A (OutS A k' m' n' ks' o.isSome) := fun A => (impl_subst_new ho (by omega) (fun b hb => (hbo b hb).1) A).mono fun r A' h => outS_of hρ h
    have htn := impl_TypeNames τ
    have htr := fun A => impl_TypeSame (.mk k' m' n' ks') (.mk k' m' n' ks') (by rw [← hρ]; omega) (by rw [← hρ]; omega) A
    rw [decide_eq_true rfl] at htr
    have hne : ∀ x : Bool, decide (¬ x = x) = false := fun x => by simp
    simp only [zW, zX, zD, builtinA, isLeaf, const1, Nat.reduceAdd, Nat.reduceMul, Nat.reduceSub, Nat.reduceLT, Nat.reduceLeDiff, Nat.reduceEqDiff, Nat.reduceBEq, Nat.reduceBNe, reduceIte, reduceCtorEq, Int.reduceToNat, Int.reduceLT, Int.reduceLE, Int.reduceEq, Int.reduceNe, Int.reduceNeg, ustrA, ti3, ti4, ti5, ti22, ti23, ti25, ti26, ti34, ca6, ca7, ca8, ca9, ca10, cf, Try.results4, enc_length, enc_take, enc_drop, frzL_enc, enc_closed, Option.map_some]
    refine callO_intro (himpl _) ?_
    rintro r A1 ⟨B1, v1, S1, rfl, rfl, hK1, hN1, hR1⟩
    simp only [zW, zX, zD, builtinA, isLeaf, const1, Nat.reduceAdd, Nat.reduceMul, Nat.reduceSub, Nat.reduceLT, Nat.reduceLeDiff, Nat.reduceEqDiff, Nat.reduceBEq, Nat.reduceBNe, reduceIte, reduceCtorEq, Int.reduceToNat, Int.reduceLT, Int.reduceLE, Int.reduceEq, Int.reduceNe, Int.reduceNeg, ustrA, ti3, ti4, ti5, ti22, ti23, ti25, ti26, ti34, ca6, ca7, ca8, ca9, ca10, cf, Try.results4, enc_length, enc_take, enc_drop, frzL_enc, enc_closed, Option.map_some]
    refine callO_intro (hspec _) ?_
    rintro r A2 ⟨rfl, rfl⟩
    have b0 : (Box.cells (enc τ) :: (B1 ++ [Box.cells [.int .i64 k', .str m', .str n', v1], .cells (enc (.mk k' m' n' ks'))])).getD 0 .dead = .cells (enc τ) := rfl
    have b1 : (Box.cells (enc τ) :: (B1 ++ [Box.cells [.int .i64 k', .str m', .str n', v1], .cells (enc (.mk k' m' n' ks'))])).getD (B1.length + 1) .dead = .cells [.int .i64 k', .str m', .str n', v1] := by simp [List.getD]
    have b2 : (Box.cells (enc τ) :: (B1 ++ [Box.cells [.int .i64 k', .str m', .str n', v1], .cells (enc (.mk k' m' n' ks'))])).getD (B1.length + 1 + 1) .dead = .cells (enc (.mk k' m' n' ks')) := by simp [List.getD]
    have hK2 : OwnK (Box.cells (enc τ) :: (B1 ++ [Box.cells [.int .i64 k', .str m', .str n', v1], .cells (enc (.mk k' m' n' ks'))])) ks' v1 S1 := hK1.frame fun i hi => by
      have := (hR1 i hi).2
      rw [show (Box.cells (enc τ) :: (B1 ++ [Box.cells [.int .i64 k', .str m', .str n', v1], .cells (enc (.mk k' m' n' ks'))])) = ([Box.cells (enc τ)] ++ B1) ++ [Box.cells [.int .i64 k', .str m', .str n', v1], .cells (enc (.mk k' m' n' ks'))] by simp, Abs.getD_append_left this]
    have hl2 : B1.length + 1 + 1 < (Box.cells (enc τ) :: (B1 ++ [Box.cells [.int .i64 k', .str m', .str n', v1], .cells (enc (.mk k' m' n' ks'))])).length := by simp
    simp only [zW, zX, zD, builtinA, isLeaf, const1, Nat.reduceAdd, Nat.reduceMul, Nat.reduceSub, Nat.reduceLT, Nat.reduceLeDiff, Nat.reduceEqDiff, Nat.reduceBEq, Nat.reduceBNe, reduceIte, reduceCtorEq, Int.reduceToNat, Int.reduceLT, Int.reduceLE, Int.reduceEq, Int.reduceNe, Int.reduceNeg, ustrA, ti3, ti4, ti5, ti22, ti23, ti25, ti26, ti34, ca6, ca7, ca8, ca9, ca10, cf, Try.results4, enc_length, enc_take, enc_drop, frzL_enc, enc_closed, Option.map_some]
    have hv2 := hK2.viewT k' m' n'
    clear hK1 hR1
    generalize (Box.cells (enc τ) :: (B1 ++ [Box.cells [.int .i64 k', .str m', .str n', v1], .cells (enc (.mk k' m' n' ks'))])) = A2 at *
    refine callO_intro (borrowI (.cons hv2 (.cons (viewNS _ _) .nil)) rfl htr) ?_
    rintro r A' ⟨rfl, rfl⟩
    rcases o with _ | w
    · simp only [zW, zX, zD, builtinA, isLeaf, const1, Nat.reduceAdd, Nat.reduceMul, Nat.reduceSub, Nat.reduceLT, Nat.reduceLeDiff, Nat.reduceEqDiff, Nat.reduceBEq, Nat.reduceBNe, reduceIte, reduceCtorEq, Int.reduceToNat, Int.reduceLT, Int.reduceLE, Int.reduceEq, Int.reduceNe, Int.reduceNeg, ustrA, ti3, ti4, ti5, ti22, ti23, ti25, ti26, ti34, ca6, ca7, ca8, ca9, ca10, cf, Try.results4, b1, b2, enc_length, enc_take, enc_drop, frzL_enc, enc_closed, Option.map_some, Option.isSome_none]
      refine callO_intro (borrowI (.cons hv2 (.cons (viewNS _ _) .nil)) rfl htr) ?_
      rintro r A' ⟨rfl, rfl⟩
      simp only [zW, zX, zD, builtinA, isLeaf, const1, Nat.reduceAdd, Nat.reduceMul, Nat.reduceSub, Nat.reduceLT, Nat.reduceLeDiff, Nat.reduceEqDiff, Nat.reduceBEq, Nat.reduceBNe, reduceIte, reduceCtorEq, Int.reduceToNat, Int.reduceLT, Int.reduceLE, Int.reduceEq, Int.reduceNe, Int.reduceNeg, ustrA, ti3, ti4, ti5, ti22, ti23, ti25, ti26, ti34, ca6, ca7, ca8, ca9, ca10, cf, Try.results4]
    · obtain ⟨v, rfl, hv⟩ := subIs_valid ho
      obtain ⟨k, m, n, ks, hτm⟩ : ∃ k m n ks, toTy v = .mk k m n ks := by cases toTy v; exact ⟨_, _, _, _, rfl⟩
      have himp2 : ∀ A, ACalls Try.prog 7 [.agg (enc (toTy v)), .slice []] A (OutS A k m n ks true) := fun A => (impl_subst_new (subIs_none hv) (by simp) (by simp) A).mono fun r A' h => outS_of (o := some v) hτm h
      have htt := fun A => impl_TypeSame (.mk k m n ks) (toTy v) (by rw [← hτm]; omega) (by omega) A
      rw [decide_eq_true hτm.symm] at htt
      have hpl : nmsOf (toTy v) = [] → Ty.mk k' m' n' ks' = toTy v := fun h => by
        rw [nmsOf_toTy hv] at h
        rw [← hρ, oTyS, subIs_plain hv ho h]
      have htx : nmsOf (toTy v) = [] → ∀ A, ACalls Try.prog 9 [.agg (enc (.mk k' m' n' ks')), .agg (enc (toTy v))] A (fun r A' => r = .bool true ∧ A' = A) := fun h A => by
        have h2 := impl_TypeSame (.mk k' m' n' ks') (toTy v) (by rw [← hρ]; omega) (by omega) A
        rwa [decide_eq_true (hpl h)] at h2
      generalize nmsOf (toTy v) = ns at *
      simp only [zW, zX, zD, builtinA, isLeaf, const1, Nat.reduceAdd, Nat.reduceMul, Nat.reduceSub, Nat.reduceLT, Nat.reduceLeDiff, Nat.reduceEqDiff, Nat.reduceBEq, Nat.reduceBNe, reduceIte, reduceCtorEq, Int.reduceToNat, Int.reduceLT, Int.reduceLE, Int.reduceEq, Int.reduceNe, Int.reduceNeg, ustrA, ti3, ti4, ti5, ti22, ti23, ti25, ti26, ti34, ca6, ca7, ca8, ca9, ca10, cf, Try.results4, b0, b1, b2, enc_length, enc_take, enc_drop, frzL_enc, enc_closed, Option.map_some, Option.isSome_some]
      refine callK_intro (by simp only [zW, zX, zD, builtinA, isLeaf, const1, Nat.reduceAdd, Nat.reduceMul, Nat.reduceSub, Nat.reduceLT, Nat.reduceLeDiff, Nat.reduceEqDiff, Nat.reduceBEq, Nat.reduceBNe, reduceIte, reduceCtorEq, Int.reduceToNat, Int.reduceLT, Int.reduceLE, Int.reduceEq, Int.reduceNe, Int.reduceNeg, ustrA, enc_length, enc_take, enc_drop, frzL_enc, enc_closed, Option.map_some]; rfl) (himp2 _) ?_ rfl
      rintro r A3 ⟨B3, v3, S3, hA3, rfl, hK3, hN3, hR3⟩
      simp only [zW, zX, zD, builtinA, isLeaf, const1, Nat.reduceAdd, Nat.reduceMul, Nat.reduceSub, Nat.reduceLT, Nat.reduceLeDiff, Nat.reduceEqDiff, Nat.reduceBEq, Nat.reduceBNe, reduceIte, reduceCtorEq, Int.reduceToNat, Int.reduceLT, Int.reduceLE, Int.reduceEq, Int.reduceNe, Int.reduceNeg, ustrA, ti3, ti4, ti5, ti22, ti23, ti25, ti26, ti34, ca6, ca7, ca8, ca9, ca10, cf, Try.results4, enc_length, enc_take, enc_drop, frzL_enc, enc_closed, Option.map_some]
      have c0 : (A3 ++ [Box.cells [.int .i64 k, .str m, .str n, v3]]).getD 0 .dead = .cells (enc (toTy v)) := by rw [hA3, List.append_assoc, List.append_assoc, Abs.getD_append_left (by omega)]; exact b0
      have c1 : (A3 ++ [Box.cells [.int .i64 k, .str m, .str n, v3]]).getD (B1.length + 1) .dead = .cells [.int .i64 k', .str m', .str n', v1] := by rw [hA3, List.append_assoc, List.append_assoc, Abs.getD_append_left (by omega)]; exact b1
      have c3 : (A3 ++ [Box.cells [.int .i64 k, .str m, .str n, v3]]).getD A3.length .dead = .cells [.int .i64 k, .str m, .str n, v3] := by rw [Abs.getD_append_right (Nat.le_refl _)]; simp
      have hK4 : OwnK (A3 ++ [Box.cells [.int .i64 k, .str m, .str n, v3]]) ks v3 S3 := hK3.frame fun i hi => by rw [Abs.getD_append_left (hR3 i hi).2]
      have hK5 : OwnK (A3 ++ [Box.cells [.int .i64 k, .str m, .str n, v3]]) ks' v1 S1 := hK2.frame fun i hi => by rw [hA3, List.append_assoc, List.append_assoc, Abs.getD_append_left (hK2.low i hi)]
      have l4 : A3.length < (A3 ++ [Box.cells [.int .i64 k, .str m, .str n, v3]]).length := by simp
      have l5 : B1.length + 1 + 1 < A3.length := by rw [hA3]; simp; omega
      clear hK3 hR3 hA3
      generalize (A3 ++ [Box.cells [.int .i64 k, .str m, .str n, v3]]) = A4 at *
      simp only [zW, zX, zD, builtinA, isLeaf, const1, Nat.reduceAdd, Nat.reduceMul, Nat.reduceSub, Nat.reduceLT, Nat.reduceLeDiff, Nat.reduceEqDiff, Nat.reduceBEq, Nat.reduceBNe, reduceIte, reduceCtorEq, Int.reduceToNat, Int.reduceLT, Int.reduceLE, Int.reduceEq, Int.reduceNe, Int.reduceNeg, ustrA, ti3, ti4, ti5, ti22, ti23, ti25, ti26, ti34, ca6, ca7, ca8, ca9, ca10, cf, Try.results4, c0, c1, c3, enc_length, enc_take, enc_drop, frzL_enc, enc_closed, Option.map_some]
      refine callO_intro (borrowI (.cons (hK4.viewT k m n) (.cons (viewNS _ _) .nil)) rfl htt) ?_
      rintro r A' ⟨rfl, rfl⟩
      simp only [zW, zX, zD, builtinA, isLeaf, const1, Nat.reduceAdd, Nat.reduceMul, Nat.reduceSub, Nat.reduceLT, Nat.reduceLeDiff, Nat.reduceEqDiff, Nat.reduceBEq, Nat.reduceBNe, reduceIte, reduceCtorEq, Int.reduceToNat, Int.reduceLT, Int.reduceLE, Int.reduceEq, Int.reduceNe, Int.reduceNeg, ustrA, ti3, ti4, ti5, ti22, ti23, ti25, ti26, ti34, ca6, ca7, ca8, ca9, ca10, cf, Try.results4, c0, c1, c3, enc_length, enc_take, enc_drop, frzL_enc, enc_closed, Option.map_some]
      refine callO_intro (htn _) ?_
      rintro r A5 ⟨B5, rfl, hr, _⟩
      have d0 : (A' ++ B5).getD 0 .dead = .cells (enc (toTy v)) := by rw [Abs.getD_append_left (by omega)]; exact c0
      have d1 : (A' ++ B5).getD (B1.length + 1) .dead = .cells [.int .i64 k', .str m', .str n', v1] := by rw [Abs.getD_append_left (by omega)]; exact c1
      have hK6 : OwnK (A' ++ B5) ks' v1 S1 := hK5.frame fun i hi => by rw [Abs.getD_append_left (hK5.low i hi)]
      clear hK5 hK4
      generalize hA6 : A' ++ B5 = A6 at *
      rcases hr with ⟨rfl, rfl⟩ | ⟨j, rfl, hj, hg⟩
      · have e0 : decide ((0 : Int) < ((0 : Nat) : Int)) = false := rfl
        simp only [zW, zX, zD, builtinA, isLeaf, const1, Nat.reduceAdd, Nat.reduceMul, Nat.reduceSub, Nat.reduceLT, Nat.reduceLeDiff, Nat.reduceEqDiff, Nat.reduceBEq, Nat.reduceBNe, reduceIte, reduceCtorEq, Int.reduceToNat, Int.reduceLT, Int.reduceLE, Int.reduceEq, Int.reduceNe, Int.reduceNeg, ustrA, ti3, ti4, ti5, ti22, ti23, ti25, ti26, ti34, ca6, ca7, ca8, ca9, ca10, cf, Try.results4, d0, d1, e0, enc_length, enc_take, enc_drop, frzL_enc, enc_closed, Option.map_some]
        refine callO_intro (borrowI (.cons (hK6.viewT k' m' n') (.cons (viewNS _ _) .nil)) rfl (htx rfl)) ?_
        rintro r A7 ⟨rfl, rfl⟩
        simp only [zW, zX, zD, builtinA, isLeaf, const1, Nat.reduceAdd, Nat.reduceMul, Nat.reduceSub, Nat.reduceLT, Nat.reduceLeDiff, Nat.reduceEqDiff, Nat.reduceBEq, Nat.reduceBNe, reduceIte, reduceCtorEq, Int.reduceToNat, Int.reduceLT, Int.reduceLE, Int.reduceEq, Int.reduceNe, Int.reduceNeg, ustrA, ti3, ti4, ti5, ti22, ti23, ti25, ti26, ti34, ca6, ca7, ca8, ca9, ca10, cf, Try.results4, d0, d1, enc_length, enc_take, enc_drop, frzL_enc, enc_closed, Option.map_some]
      · by_cases hns : ns = []
        · subst hns
          have e0 : decide ((0 : Int) < ((0 : Nat) : Int)) = false := rfl
          simp only [zW, zX, zD, builtinA, isLeaf, const1, Nat.reduceAdd, Nat.reduceMul, Nat.reduceSub, Nat.reduceLT, Nat.reduceLeDiff, Nat.reduceEqDiff, Nat.reduceBEq, Nat.reduceBNe, reduceIte, reduceCtorEq, Int.reduceToNat, Int.reduceLT, Int.reduceLE, Int.reduceEq, Int.reduceNe, Int.reduceNeg, ustrA, ti3, ti4, ti5, ti22, ti23, ti25, ti26, ti34, ca6, ca7, ca8, ca9, ca10, cf, Try.results4, d0, d1, hg, e0, nrows_length, List.length_nil, enc_length, enc_take, enc_drop, frzL_enc, enc_closed, Option.map_some]
          refine callO_intro (borrowI (.cons (hK6.viewT k' m' n') (.cons (viewNS _ _) .nil)) rfl (htx rfl)) ?_
          rintro r A7 ⟨rfl, rfl⟩
          simp only [zW, zX, zD, builtinA, isLeaf, const1, Nat.reduceAdd, Nat.reduceMul, Nat.reduceSub, Nat.reduceLT, Nat.reduceLeDiff, Nat.reduceEqDiff, Nat.reduceBEq, Nat.reduceBNe, reduceIte, reduceCtorEq, Int.reduceToNat, Int.reduceLT, Int.reduceLE, Int.reduceEq, Int.reduceNe, Int.reduceNeg, ustrA, ti3, ti4, ti5, ti22, ti23, ti25, ti26, ti34, ca6, ca7, ca8, ca9, ca10, cf, Try.results4, d0, d1, enc_length, enc_take, enc_drop, frzL_enc, enc_closed, Option.map_some]
        · have hp : 0 < ns.length := List.length_pos_iff.2 hns
          have e3 : decide ((0 : Int) < ns.length) = true := decide_eq_true (by omega)
          simp only [zW, zX, zD, builtinA, isLeaf, const1, Nat.reduceAdd, Nat.reduceMul, Nat.reduceSub, Nat.reduceLT, Nat.reduceLeDiff, Nat.reduceEqDiff, Nat.reduceBEq, Nat.reduceBNe, reduceIte, reduceCtorEq, Int.reduceToNat, Int.reduceLT, Int.reduceLE, Int.reduceEq, Int.reduceNe, Int.reduceNeg, ustrA, ti3, ti4, ti5, ti22, ti23, ti25, ti26, ti34, ca6, ca7, ca8, ca9, ca10, cf, Try.results4, d0, d1, hg, nrows_length, e3, enc_length, enc_take, enc_drop, frzL_enc, enc_closed, Option.map_some]

theorem substPlain_rec : ∀ t ∈ Try.f4.params.toList, Try.prog.readableRec t = true ∧ t < Try.prog.types.size := by
  rw [Try.params4]
  intro t ht
  simp at ht
  subst ht
  exact ⟨by kernel_rfl, of_decide_eq_true (by kernel_rfl)⟩
set_option maxRecDepth 100000 in
theorem substPlain_lifted (os : Os) (started : os.Started) (H : Type) (enc' : TypeId × Value → H) :
    ReturnsInHanded {} Try.checked os 4 .any (Rows.fnSubstPlainSpec.pre6 enc' Try.prog Try.f4 Rows.fnSubstPlainRow.domain false) (Rows.fnSubstPlainSpec.post enc' Try.prog Try.f4 false true false false) := by
  refine returnsInHanded_of_change (C := Try.checked) ownk started (by kernel_rfl) Try.func4
    (ChangeSpec.witness6 (enc := enc') (C := Try.checked) false ⟨#[], #[.slice none 0 0], []⟩ 8 (by kernel_rfl) (by kernel_rfl) (by kernel_rfl) (by kernel_rfl)) ?_
  intro W base args ds gs before hval0 hW hcnd _
  have hval : ∀ (j : Nat) t v, Try.f4.params[j]? = some t → args[j]? = some v → Value.okWide Try.prog W .any base t v := hval0
  have hW' := hW
  obtain ⟨p, q, hA0, hV, rfl, hfz, hnd⟩ := hW
  have hA : DataW.TrodAll enc' Try.prog W 0 (fun _ => true) true Try.f4.params.toList args.toList ds p := hA0
  rw [Try.params4] at hA hval
  have hlt := hA.lt
  obtain ⟨v0, d0, rfl, rfl, h0⟩ := trodAll_one hA
  obtain ⟨rfl, rfl⟩ := trodVars_none hV
  obtain ⟨x0, r0⟩ := rv_bytes Try.underlying22 Try.underlying5 (by kernel_rfl) (hval 0 22 v0 rfl rfl) h0 (fun x hx => hlt x (by simp [hx]))
  refine (law_calls (substPlain_true x0) (.cons r0 .nil)).mono fun e W' ⟨he, hb⟩ => ?_
  subst he
  exact ⟨_, rfl, law_post laid substPlain_rec rfl Try.underlying4 (by kernel_rfl) ⟨rfl, rfl⟩ rfl hW' hb⟩
theorem substPlain_holds : Rows.FnSubstPlainSaid :=
  OpenClaim.holds_of_wide 4 Try.f4 rfl rfl rfl rfl rfl rfl rfl ⟨rfl, rfl, rfl, rfl, rfl⟩ rfl rfl rfl rfl rfl (by kernel_rfl) Try.func4 (by kernel_rfl)
    (of_decide_eq_true (by kernel_rfl)) (by unfold Func.isWrapper; first | (rw [if_pos (by decide +kernel)]; kernel_rfl) | (rw [if_neg (by decide +kernel)]; exact ⟨rfl, rfl⟩))
    (fun os started H enc' _ => substPlain_lifted os started H enc')
end Go.Proofs.Ytlffbkmjigiplaa
