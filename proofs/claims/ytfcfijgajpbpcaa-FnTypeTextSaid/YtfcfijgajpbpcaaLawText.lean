/- Whatever the type and the text that are drawn: texts are written and read as the model says, what is written is read back, and what is read is written again. No condition beside the row's own. -/
import Derived.Test.YtfcfijgajpbpcaaDrawTxt
import Derived.Test.YtfcfijgajpbpcaaFmtS
import Derived.Test.YtfcfijgajpbpcaaParseI
import Derived.Test.YtfcfijgajpbpcaaParseT
import Derived.Test.YtfcfijgajpbpcaaParseR
import Derived.Test.YtfcfijgajpbpcaaSameA2
import Derived.Test.YtfcfijgajpbpcaaOkSz
import Derived.Test.YtfcfijgajpbpcaaFrk
import Derived.Test.YtfcfijgajpbpcaaAbsW3
set_option linter.unusedVariables false
set_option linter.unusedSimpArgs false
namespace Go.Proofs.Ytfcfijgajpbpcaa
open Go.Abs Go.RowKit Go.ChangeShapes Go.WideShapes Go.ChangeAt Go.ChangeMaps

theorem viewNT (A : List Box) (τ : Ty) : View A (.agg (enc τ)) (.agg (enc τ)) := .agg _ _ rfl fun i hi => .leaf _ (enc_leaf τ _ (Abs.getD_mem hi))
/-- what reading hands back, by its root -/
def ParOut (A : List Box) (k : Int) (m n : List UInt8) (ks : List Ty) (ok : Bool) (r : AV) (A' : List Box) : Prop :=
  ∃ v S, r = .tuple [.agg [.int .i64 k, .str m, .str n, v], .bool ok] ∧ OwnK A' ks v S ∧ A.length ≤ A'.length ∧ ∀ i, i < A.length → A'.getD i .dead = A.getD i .dead
theorem parOut_of {A A' : List Box} {o : Option VT} {r : AV} {k : Int} {m n : List UInt8} {ks : List Ty} (ho : oTy o = .mk k m n ks) (h : TyOut A o r A') : ParOut A k m n ks o.isSome r A' := by
  cases o with
  | none =>
    obtain ⟨rfl, h2, h3⟩ := h
    rw [oTy, ty0] at ho
    cases ho
    exact ⟨.nils, [], rfl, .inl ⟨rfl, rfl, rfl⟩, h2, h3⟩
  | some v =>
    obtain ⟨cs, S, rfl, h1, _, _, h2, h3⟩ := h
    have hv : toTy v = .mk k m n ks := ho
    rw [hv, ownT_mk] at h1
    obtain ⟨x, rfl, hK⟩ := h1
    exact ⟨x, S, rfl, hK, h2, h3⟩
theorem sz_oTy {o : Option VT} (h : ∀ v, o = some v → VOk v) : sz (oTy o) ≤ 126 := by
  cases o with
  | none => simp [oTy, ty0, sz, szs]
  | some v =>
    have hv := h v rfl
    have h1 := sz_toTy v hv.ok
    have h2 := hv.cnt
    rw [oTy]; omega

set_option maxRecDepth 100000 in
set_option maxHeartbeats 4000000 in
theorem typeText_true (bs cs : List UInt8) : ACalls Try.prog 3 [.aslice (byteRows bs), .aslice (byteRows cs)] [] (fun v _ => v = .bool true) := by
  refine acalls_enter (cf := cf 87 [0, 1, 4, 5, 6, 7, 8, 9, 10, 11, 12, 13, 21, 56]) foll Try.func3 Try.ntmps3 (by simp [cf]) ?_
  simp only [Try.f3, EnterK_some, zW, zX, zD, builtinA, isLeaf, const1, Nat.reduceAdd, Nat.reduceMul, Nat.reduceSub, Nat.reduceLT, Nat.reduceLeDiff, Nat.reduceEqDiff, Nat.reduceBEq, Nat.reduceBNe, reduceIte, reduceCtorEq, Int.reduceToNat, Int.reduceLT, Int.reduceLE, Int.reduceEq, Int.reduceNe, Int.reduceNeg, ustrA, ti3, ti4, ti5, ti9, ti22, ti25, ca4, ca5, ca6, ca7, ca8, ca9, ca10, ca11, ca12, cf, Try.results3]
  by_cases hb : 1048576 < bs.length
  · have e1 : decide ((1048576 : Int) < bs.length) = true := decide_eq_true (by omega)
    simp only [zW, zX, zD, builtinA, isLeaf, const1, Nat.reduceAdd, Nat.reduceMul, Nat.reduceSub, Nat.reduceLT, Nat.reduceLeDiff, Nat.reduceEqDiff, Nat.reduceBEq, Nat.reduceBNe, reduceIte, reduceCtorEq, Int.reduceToNat, Int.reduceLT, Int.reduceLE, Int.reduceEq, Int.reduceNe, Int.reduceNeg, ustrA, ti3, ti4, ti5, ti9, ti22, ti25, ca4, ca5, ca6, ca7, ca8, ca9, ca10, ca11, ca12, cf, Try.results3, byteRows_length, e1]
  · have e1 : decide ((1048576 : Int) < bs.length) = false := decide_eq_false (by omega)
    by_cases hc : 1048576 < cs.length
    · have e2 : decide ((1048576 : Int) < cs.length) = true := decide_eq_true (by omega)
      simp only [zW, zX, zD, builtinA, isLeaf, const1, Nat.reduceAdd, Nat.reduceMul, Nat.reduceSub, Nat.reduceLT, Nat.reduceLeDiff, Nat.reduceEqDiff, Nat.reduceBEq, Nat.reduceBNe, reduceIte, reduceCtorEq, Int.reduceToNat, Int.reduceLT, Int.reduceLE, Int.reduceEq, Int.reduceNe, Int.reduceNeg, ustrA, ti3, ti4, ti5, ti9, ti22, ti25, ca4, ca5, ca6, ca7, ca8, ca9, ca10, ca11, ca12, cf, Try.results3, byteRows_length, e1, e2]
    · have e2 : decide ((1048576 : Int) < cs.length) = false := decide_eq_false (by omega)
      simp only [zW, zX, zD, builtinA, isLeaf, const1, Nat.reduceAdd, Nat.reduceMul, Nat.reduceSub, Nat.reduceLT, Nat.reduceLeDiff, Nat.reduceEqDiff, Nat.reduceBEq, Nat.reduceBNe, reduceIte, reduceCtorEq, Int.reduceToNat, Int.reduceLT, Int.reduceLE, Int.reduceEq, Int.reduceNe, Int.reduceNeg, ustrA, ti3, ti4, ti5, ti9, ti22, ti25, ca4, ca5, ca6, ca7, ca8, ca9, ca10, ca11, ca12, cf, Try.results3, byteRows_length, e1, e2]
      refine callK_intro (by simp only [zW, zX, zD, builtinA, isLeaf, const1, Nat.reduceAdd, Nat.reduceMul, Nat.reduceSub, Nat.reduceLT, Nat.reduceLeDiff, Nat.reduceEqDiff, Nat.reduceBEq, Nat.reduceBNe, reduceIte, reduceCtorEq, Int.reduceToNat, Int.reduceLT, Int.reduceLE, Int.reduceEq, Int.reduceNe, Int.reduceNeg, ustrA]; rfl) (spec_DrawFormatType bs _) ?_ rfl
      rintro v A' ⟨τ, rfl, hs, rfl⟩
      have hτ := okSz τ (by omega)
      obtain ⟨tx, o, hsF, hiF, htl, hpa, hvB, hoT⟩ : ∃ tx o, (∀ A, ACalls Try.prog 7 [.agg (enc τ)] A (fun r A' => r = .str tx ∧ A' = A)) ∧ (∀ A, ACalls Try.prog 5 [.agg (enc τ)] A (fun r A' => r = .str tx ∧ A' = A)) ∧ tx.length ≤ 1000 ∧ pAll tx = o ∧ validB τ = o.isSome ∧ (o.isSome = true → oTy o = τ) := by
        rcases valid_cases τ with ⟨v, rfl, hv⟩ | h
        · refine ⟨txt v, some v, fun A => (spec_FormatType _ hτ (by omega) A).mono ?_, fun A => (impl_FormatType _ A).mono ?_, by have h1 := txt_len v hv.ok; have h2 := hv.cnt; omega, pAll_txt hv, validB_toTy hv, fun _ => rfl⟩ <;>
          · rintro r A' ⟨⟨v', e, hv', rfl⟩ | ⟨h, rfl⟩, rfl⟩
            · exact ⟨by rw [toTy_inj e], rfl⟩
            · rw [validB_toTy hv] at h; cases h
        · refine ⟨[], none, fun A => (spec_FormatType _ hτ (by omega) A).mono ?_, fun A => (impl_FormatType _ A).mono ?_, by simp, pAll_nil, h, fun h => by cases h⟩ <;>
          · rintro r A' ⟨⟨v', rfl, hv', rfl⟩ | ⟨_, rfl⟩, rfl⟩
            · rw [validB_toTy hv'] at h; cases h
            · exact ⟨rfl, rfl⟩
      obtain ⟨k, m, n, ks, hρ⟩ : ∃ k m n ks, oTy o = .mk k m n ks := by cases oTy o; exact ⟨_, _, _, _, rfl⟩
      have hszo := sz_oTy (o := o) (fun v hv => (pAll_ok (hpa.trans hv)).1)
      have hpr : ∀ A, ACalls Try.prog 6 [.str tx] A (ParOut A k m n ks o.isSome) := fun A => (impl_ParseType tx (by omega) A).mono fun r A' h => parOut_of hρ (by rw [← hpa]; exact h)
      have hTV : ∀ A, ACalls Try.prog 8 [.agg (enc τ)] A (fun r A' => r = .bool o.isSome ∧ A' = A) := fun A => by rw [← hvB]; exact impl_TypeValid τ A
      have hSV : ∀ A, ACalls Try.prog 9 [.agg (enc τ)] A (fun r A' => r = .bool o.isSome ∧ A' = A) := fun A => by rw [← hvB]; exact spec_TypeValid τ hτ (by omega) A
      have hsame : o.isSome = true → ∀ A, ACalls Try.prog 10 [.agg (enc (.mk k m n ks)), .agg (enc τ)] A (fun r A' => r = .bool true ∧ A' = A) := fun h A => by
        have h2 := impl_TypeSame (.mk k m n ks) τ (by rw [← hρ]; omega) (by omega) A
        rwa [decide_eq_true (by rw [← hρ]; exact hoT h)] at h2
      simp only [zW, zX, zD, builtinA, isLeaf, const1, Nat.reduceAdd, Nat.reduceMul, Nat.reduceSub, Nat.reduceLT, Nat.reduceLeDiff, Nat.reduceEqDiff, Nat.reduceBEq, Nat.reduceBNe, reduceIte, reduceCtorEq, Int.reduceToNat, Int.reduceLT, Int.reduceLE, Int.reduceEq, Int.reduceNe, Int.reduceNeg, ustrA, ti3, ti4, ti5, ti9, ti22, ti25, ca4, ca5, ca6, ca7, ca8, ca9, ca10, ca11, ca12, cf, Try.results3, enc_length, enc_take, enc_drop, frzL_enc, enc_closed, Option.map_some]
      refine callO_intro (hiF _) ?_
      rintro r A' ⟨rfl, rfl⟩
      simp only [zW, zX, zD, builtinA, isLeaf, const1, Nat.reduceAdd, Nat.reduceMul, Nat.reduceSub, Nat.reduceLT, Nat.reduceLeDiff, Nat.reduceEqDiff, Nat.reduceBEq, Nat.reduceBNe, reduceIte, reduceCtorEq, Int.reduceToNat, Int.reduceLT, Int.reduceLE, Int.reduceEq, Int.reduceNe, Int.reduceNeg, ustrA, ti3, ti4, ti5, ti9, ti22, ti25, ca4, ca5, ca6, ca7, ca8, ca9, ca10, ca11, ca12, cf, Try.results3]
      refine callO_intro (hpr _) ?_
      rintro r A1 ⟨v1, S1, rfl, hK1, hl1, hf1⟩
      simp only [List.length_cons, List.length_nil] at hl1 hf1
      have b0 : (A1 ++ [Box.cells [.int .i64 k, .str m, .str n, v1]]).getD 0 .dead = .cells (enc τ) := by rw [Abs.getD_append_left (by omega), hf1 0 (by omega)]; rfl
      have b1 : (A1 ++ [Box.cells [.int .i64 k, .str m, .str n, v1]]).getD A1.length .dead = .cells [.int .i64 k, .str m, .str n, v1] := by rw [Abs.getD_append_right (Nat.le_refl _)]; simp
      have hK2 : OwnK (A1 ++ [Box.cells [.int .i64 k, .str m, .str n, v1]]) ks v1 S1 := hK1.frame fun i hi => Abs.getD_append_left (hK1.low i hi)
      simp only [zW, zX, zD, builtinA, isLeaf, const1, Nat.reduceAdd, Nat.reduceMul, Nat.reduceSub, Nat.reduceLT, Nat.reduceLeDiff, Nat.reduceEqDiff, Nat.reduceBEq, Nat.reduceBNe, reduceIte, reduceCtorEq, Int.reduceToNat, Int.reduceLT, Int.reduceLE, Int.reduceEq, Int.reduceNe, Int.reduceNeg, ustrA, ti3, ti4, ti5, ti9, ti22, ti25, ca4, ca5, ca6, ca7, ca8, ca9, ca10, ca11, ca12, cf, Try.results3]
      generalize (A1 ++ [Box.cells [.int .i64 k, .str m, .str n, v1]]) = A2 at *
      clear hK1
      simp only [zW, zX, zD, builtinA, isLeaf, const1, Nat.reduceAdd, Nat.reduceMul, Nat.reduceSub, Nat.reduceLT, Nat.reduceLeDiff, Nat.reduceEqDiff, Nat.reduceBEq, Nat.reduceBNe, reduceIte, reduceCtorEq, Int.reduceToNat, Int.reduceLT, Int.reduceLE, Int.reduceEq, Int.reduceNe, Int.reduceNeg, ustrA, ti3, ti4, ti5, ti9, ti22, ti25, ca4, ca5, ca6, ca7, ca8, ca9, ca10, ca11, ca12, cf, Try.results3, b0, b1, enc_length, enc_take, enc_drop, frzL_enc, enc_closed, Option.map_some]
      refine .inl ⟨by kernel_rfl, by kernel_rfl, ?_⟩
      refine callD_intro (by simp only [zW, zX, zD, builtinA, isLeaf, const1, Nat.reduceAdd, Nat.reduceMul, Nat.reduceSub, Nat.reduceLT, Nat.reduceLeDiff, Nat.reduceEqDiff, Nat.reduceBEq, Nat.reduceBNe, reduceIte, reduceCtorEq, Int.reduceToNat, Int.reduceLT, Int.reduceLE, Int.reduceEq, Int.reduceNe, Int.reduceNeg, ustrA, enc_length, enc_take, enc_drop, frzL_enc, enc_closed, Option.map_some] <;> rfl) (hsF _) ?_ rfl
      simp only [zW, zX, zD, builtinA, isLeaf, const1, Nat.reduceAdd, Nat.reduceMul, Nat.reduceSub, Nat.reduceLT, Nat.reduceLeDiff, Nat.reduceEqDiff, Nat.reduceBEq, Nat.reduceBNe, reduceIte, reduceCtorEq, Int.reduceToNat, Int.reduceLT, Int.reduceLE, Int.reduceEq, Int.reduceNe, Int.reduceNeg, ustrA, ti3, ti4, ti5, ti9, ti22, ti25, ca4, ca5, ca6, ca7, ca8, ca9, ca10, ca11, ca12, cf, Try.results3, b0, enc_length, enc_take, enc_drop, frzL_enc, enc_closed, Option.map_some]
      refine callD_intro (by simp only [zW, zX, zD, builtinA, isLeaf, const1, Nat.reduceAdd, Nat.reduceMul, Nat.reduceSub, Nat.reduceLT, Nat.reduceLeDiff, Nat.reduceEqDiff, Nat.reduceBEq, Nat.reduceBNe, reduceIte, reduceCtorEq, Int.reduceToNat, Int.reduceLT, Int.reduceLE, Int.reduceEq, Int.reduceNe, Int.reduceNeg, ustrA, enc_length, enc_take, enc_drop, frzL_enc, enc_closed, Option.map_some] <;> rfl) (hTV _) ?_ rfl
      simp only [zW, zX, zD, builtinA, isLeaf, const1, Nat.reduceAdd, Nat.reduceMul, Nat.reduceSub, Nat.reduceLT, Nat.reduceLeDiff, Nat.reduceEqDiff, Nat.reduceBEq, Nat.reduceBNe, reduceIte, reduceCtorEq, Int.reduceToNat, Int.reduceLT, Int.reduceLE, Int.reduceEq, Int.reduceNe, Int.reduceNeg, ustrA, ti3, ti4, ti5, ti9, ti22, ti25, ca4, ca5, ca6, ca7, ca8, ca9, ca10, ca11, ca12, cf, Try.results3, b0, enc_length, enc_take, enc_drop, frzL_enc, enc_closed, Option.map_some]
      refine callD_intro (by simp only [zW, zX, zD, builtinA, isLeaf, const1, Nat.reduceAdd, Nat.reduceMul, Nat.reduceSub, Nat.reduceLT, Nat.reduceLeDiff, Nat.reduceEqDiff, Nat.reduceBEq, Nat.reduceBNe, reduceIte, reduceCtorEq, Int.reduceToNat, Int.reduceLT, Int.reduceLE, Int.reduceEq, Int.reduceNe, Int.reduceNeg, ustrA, enc_length, enc_take, enc_drop, frzL_enc, enc_closed, Option.map_some] <;> rfl) (hSV _) ?_ rfl
      simp only [zW, zX, zD, builtinA, isLeaf, const1, Nat.reduceAdd, Nat.reduceMul, Nat.reduceSub, Nat.reduceLT, Nat.reduceLeDiff, Nat.reduceEqDiff, Nat.reduceBEq, Nat.reduceBNe, reduceIte, reduceCtorEq, Int.reduceToNat, Int.reduceLT, Int.reduceLE, Int.reduceEq, Int.reduceNe, Int.reduceNeg, ustrA, ti3, ti4, ti5, ti9, ti22, ti25, ca4, ca5, ca6, ca7, ca8, ca9, ca10, ca11, ca12, cf, Try.results3, b0, enc_length, enc_take, enc_drop, frzL_enc, enc_closed, Option.map_some]
      refine callD_intro (by simp only [zW, zX, zD, builtinA, isLeaf, const1, Nat.reduceAdd, Nat.reduceMul, Nat.reduceSub, Nat.reduceLT, Nat.reduceLeDiff, Nat.reduceEqDiff, Nat.reduceBEq, Nat.reduceBNe, reduceIte, reduceCtorEq, Int.reduceToNat, Int.reduceLT, Int.reduceLE, Int.reduceEq, Int.reduceNe, Int.reduceNeg, ustrA, enc_length, enc_take, enc_drop, frzL_enc, enc_closed, Option.map_some] <;> rfl) (hSV _) ?_ rfl
      generalize o.isSome = oo at *
      cases oo with
      | false =>
        simp only [zW, zX, zD, builtinA, isLeaf, const1, Nat.reduceAdd, Nat.reduceMul, Nat.reduceSub, Nat.reduceLT, Nat.reduceLeDiff, Nat.reduceEqDiff, Nat.reduceBEq, Nat.reduceBNe, reduceIte, reduceCtorEq, Int.reduceToNat, Int.reduceLT, Int.reduceLE, Int.reduceEq, Int.reduceNe, Int.reduceNeg, ustrA, ti3, ti4, ti5, ti9, ti22, ti25, ca4, ca5, ca6, ca7, ca8, ca9, ca10, ca11, ca12, cf, Try.results3, b0, enc_length, enc_take, enc_drop, frzL_enc, enc_closed, Option.map_some]
        refine callK_intro (by simp only [zW, zX, zD, builtinA, isLeaf, const1, Nat.reduceAdd, Nat.reduceMul, Nat.reduceSub, Nat.reduceLT, Nat.reduceLeDiff, Nat.reduceEqDiff, Nat.reduceBEq, Nat.reduceBNe, reduceIte, reduceCtorEq, Int.reduceToNat, Int.reduceLT, Int.reduceLE, Int.reduceEq, Int.reduceNe, Int.reduceNeg, ustrA]; rfl) (spec_DrawParseType cs _) ?_ rfl
        rintro _ _ ⟨s2, rfl, hs2, rfl⟩
        obtain ⟨k2, m2, n2, ks2, hρ2⟩ : ∃ k m n ks, oTy (pAll s2) = .mk k m n ks := by cases oTy (pAll s2); exact ⟨_, _, _, _, rfl⟩
        have hp2 : ∀ A, ACalls Try.prog 6 [.str s2] A (ParOut A k2 m2 n2 ks2 (pAll s2).isSome) := fun A => (impl_ParseType s2 (by omega) A).mono fun r A' h => parOut_of hρ2 h
        have hsp : ∀ A, ACalls Try.prog 12 [.str s2] A (fun r A' => r = .tuple [.agg (enc (.mk k2 m2 n2 ks2)), .bool (pAll s2).isSome] ∧ A' = A) := fun A => by
          have h := spec_ParseType s2 (by omega) A
          rwa [hρ2] at h
        have hsz2 := sz_oTy (o := pAll s2) (fun v hv => (pAll_ok hv).1)
        have hsame2 : ∀ A, ACalls Try.prog 10 [.agg (enc (.mk k2 m2 n2 ks2)), .agg (enc (.mk k2 m2 n2 ks2))] A (fun r A' => r = .bool true ∧ A' = A) := fun A => by
          have h2 := impl_TypeSame (.mk k2 m2 n2 ks2) (.mk k2 m2 n2 ks2) (by rw [← hρ2]; omega) (by rw [← hρ2]; omega) A
          rwa [decide_eq_true rfl] at h2
        have hF2 : (pAll s2).isSome = true → ∀ A, ACalls Try.prog 5 [.agg (enc (.mk k2 m2 n2 ks2))] A (fun r A' => r = .str s2 ∧ A' = A) := fun h A => by
          obtain ⟨v2, hv2⟩ := Option.isSome_iff_exists.1 h
          obtain ⟨hok, htx⟩ := pAll_ok hv2
          have e : toTy v2 = .mk k2 m2 n2 ks2 := by rw [← hρ2, hv2]; rfl
          rw [← e]
          refine (impl_FormatType _ A).mono ?_
          rintro r A' ⟨⟨v', e, hv', rfl⟩ | ⟨h, rfl⟩, rfl⟩
          · exact ⟨by rw [← toTy_inj e, htx], rfl⟩
          · rw [validB_toTy hok] at h; cases h
        clear hρ2
        generalize (pAll s2).isSome = o2 at *
        simp only [zW, zX, zD, builtinA, isLeaf, const1, Nat.reduceAdd, Nat.reduceMul, Nat.reduceSub, Nat.reduceLT, Nat.reduceLeDiff, Nat.reduceEqDiff, Nat.reduceBEq, Nat.reduceBNe, reduceIte, reduceCtorEq, Int.reduceToNat, Int.reduceLT, Int.reduceLE, Int.reduceEq, Int.reduceNe, Int.reduceNeg, ustrA, ti3, ti4, ti5, ti9, ti22, ti25, ca4, ca5, ca6, ca7, ca8, ca9, ca10, ca11, ca12, cf, Try.results3]
        refine callO_intro (hp2 _) ?_
        rintro r A3 ⟨v2, S2, rfl, hK3, hl3, hf3⟩
        have c1 : (A3 ++ [Box.cells [.int .i64 k2, .str m2, .str n2, v2]]).getD A3.length .dead = .cells [.int .i64 k2, .str m2, .str n2, v2] := by rw [Abs.getD_append_right (Nat.le_refl _)]; simp
        have hK4 : OwnK (A3 ++ [Box.cells [.int .i64 k2, .str m2, .str n2, v2]]) ks2 v2 S2 := hK3.frame fun i hi => Abs.getD_append_left (hK3.low i hi)
        have l4 : A3.length < (A3 ++ [Box.cells [.int .i64 k2, .str m2, .str n2, v2]]).length := by simp
        simp only [zW, zX, zD, builtinA, isLeaf, const1, Nat.reduceAdd, Nat.reduceMul, Nat.reduceSub, Nat.reduceLT, Nat.reduceLeDiff, Nat.reduceEqDiff, Nat.reduceBEq, Nat.reduceBNe, reduceIte, reduceCtorEq, Int.reduceToNat, Int.reduceLT, Int.reduceLE, Int.reduceEq, Int.reduceNe, Int.reduceNeg, ustrA, ti3, ti4, ti5, ti9, ti22, ti25, ca4, ca5, ca6, ca7, ca8, ca9, ca10, ca11, ca12, cf, Try.results3]
        generalize (A3 ++ [Box.cells [.int .i64 k2, .str m2, .str n2, v2]]) = A4 at *
        refine callO_intro (hsp _) ?_
        rintro r A' ⟨rfl, rfl⟩
        have d1 : (A' ++ [Box.cells (enc (.mk k2 m2 n2 ks2))]).getD A3.length .dead = .cells [.int .i64 k2, .str m2, .str n2, v2] := by rw [Abs.getD_append_left l4]; exact c1
        have d2 : (A' ++ [Box.cells (enc (.mk k2 m2 n2 ks2))]).getD A'.length .dead = .cells (enc (.mk k2 m2 n2 ks2)) := by rw [Abs.getD_append_right (Nat.le_refl _)]; simp
        have hK5 : OwnK (A' ++ [Box.cells (enc (.mk k2 m2 n2 ks2))]) ks2 v2 S2 := hK4.frame fun i hi => Abs.getD_append_left (hK4.low i hi)
        simp only [zW, zX, zD, builtinA, isLeaf, const1, Nat.reduceAdd, Nat.reduceMul, Nat.reduceSub, Nat.reduceLT, Nat.reduceLeDiff, Nat.reduceEqDiff, Nat.reduceBEq, Nat.reduceBNe, reduceIte, reduceCtorEq, Int.reduceToNat, Int.reduceLT, Int.reduceLE, Int.reduceEq, Int.reduceNe, Int.reduceNeg, ustrA, ti3, ti4, ti5, ti9, ti22, ti25, ca4, ca5, ca6, ca7, ca8, ca9, ca10, ca11, ca12, cf, Try.results3, enc_length, enc_take, enc_drop, frzL_enc, enc_closed, Option.map_some]
        generalize (A' ++ [Box.cells (enc (.mk k2 m2 n2 ks2))]) = A5 at *
        simp only [zW, zX, zD, builtinA, isLeaf, const1, Nat.reduceAdd, Nat.reduceMul, Nat.reduceSub, Nat.reduceLT, Nat.reduceLeDiff, Nat.reduceEqDiff, Nat.reduceBEq, Nat.reduceBNe, reduceIte, reduceCtorEq, Int.reduceToNat, Int.reduceLT, Int.reduceLE, Int.reduceEq, Int.reduceNe, Int.reduceNeg, ustrA, ti3, ti4, ti5, ti9, ti22, ti25, ca4, ca5, ca6, ca7, ca8, ca9, ca10, ca11, ca12, cf, Try.results3, d1, d2, enc_length, enc_take, enc_drop, frzL_enc, enc_closed, Option.map_some]
        refine callO_intro (borrowI (.cons (hK5.viewT k2 m2 n2) (.cons (viewNT _ _) .nil)) rfl hsame2) ?_
        rintro r A6 ⟨rfl, rfl⟩
        cases o2 with
        | false => simp only [zW, zX, zD, builtinA, isLeaf, const1, Nat.reduceAdd, Nat.reduceMul, Nat.reduceSub, Nat.reduceLT, Nat.reduceLeDiff, Nat.reduceEqDiff, Nat.reduceBEq, Nat.reduceBNe, reduceIte, reduceCtorEq, Int.reduceToNat, Int.reduceLT, Int.reduceLE, Int.reduceEq, Int.reduceNe, Int.reduceNeg, ustrA, ti3, ti4, ti5, ti9, ti22, ti25, ca4, ca5, ca6, ca7, ca8, ca9, ca10, ca11, ca12, cf, Try.results3, d1, d2, enc_length, enc_take, enc_drop, frzL_enc, enc_closed, Option.map_some]
        | true =>
          simp only [zW, zX, zD, builtinA, isLeaf, const1, Nat.reduceAdd, Nat.reduceMul, Nat.reduceSub, Nat.reduceLT, Nat.reduceLeDiff, Nat.reduceEqDiff, Nat.reduceBEq, Nat.reduceBNe, reduceIte, reduceCtorEq, Int.reduceToNat, Int.reduceLT, Int.reduceLE, Int.reduceEq, Int.reduceNe, Int.reduceNeg, ustrA, ti3, ti4, ti5, ti9, ti22, ti25, ca4, ca5, ca6, ca7, ca8, ca9, ca10, ca11, ca12, cf, Try.results3, d1, d2, enc_length, enc_take, enc_drop, frzL_enc, enc_closed, Option.map_some]
          refine callO_intro (borrowI (.cons (hK5.viewT k2 m2 n2) .nil) rfl (hF2 rfl)) ?_
          rintro r A7 ⟨rfl, rfl⟩
          simp only [zW, zX, zD, builtinA, isLeaf, const1, Nat.reduceAdd, Nat.reduceMul, Nat.reduceSub, Nat.reduceLT, Nat.reduceLeDiff, Nat.reduceEqDiff, Nat.reduceBEq, Nat.reduceBNe, reduceIte, reduceCtorEq, Int.reduceToNat, Int.reduceLT, Int.reduceLE, Int.reduceEq, Int.reduceNe, Int.reduceNeg, ustrA, ti3, ti4, ti5, ti9, ti22, ti25, ca4, ca5, ca6, ca7, ca8, ca9, ca10, ca11, ca12, cf, Try.results3]
      | true =>
        simp only [zW, zX, zD, builtinA, isLeaf, const1, Nat.reduceAdd, Nat.reduceMul, Nat.reduceSub, Nat.reduceLT, Nat.reduceLeDiff, Nat.reduceEqDiff, Nat.reduceBEq, Nat.reduceBNe, reduceIte, reduceCtorEq, Int.reduceToNat, Int.reduceLT, Int.reduceLE, Int.reduceEq, Int.reduceNe, Int.reduceNeg, ustrA, ti3, ti4, ti5, ti9, ti22, ti25, ca4, ca5, ca6, ca7, ca8, ca9, ca10, ca11, ca12, cf, Try.results3, b0, b1, enc_length, enc_take, enc_drop, frzL_enc, enc_closed, Option.map_some]
        refine callDO_intro (borrowI (.cons (hK2.viewT k m n) (.cons (viewNT _ _) .nil)) rfl (hsame rfl)) ?_
        simp only [zW, zX, zD, builtinA, isLeaf, const1, Nat.reduceAdd, Nat.reduceMul, Nat.reduceSub, Nat.reduceLT, Nat.reduceLeDiff, Nat.reduceEqDiff, Nat.reduceBEq, Nat.reduceBNe, reduceIte, reduceCtorEq, Int.reduceToNat, Int.reduceLT, Int.reduceLE, Int.reduceEq, Int.reduceNe, Int.reduceNeg, ustrA, ti3, ti4, ti5, ti9, ti22, ti25, ca4, ca5, ca6, ca7, ca8, ca9, ca10, ca11, ca12, cf, Try.results3]
        refine callK_intro (by simp only [zW, zX, zD, builtinA, isLeaf, const1, Nat.reduceAdd, Nat.reduceMul, Nat.reduceSub, Nat.reduceLT, Nat.reduceLeDiff, Nat.reduceEqDiff, Nat.reduceBEq, Nat.reduceBNe, reduceIte, reduceCtorEq, Int.reduceToNat, Int.reduceLT, Int.reduceLE, Int.reduceEq, Int.reduceNe, Int.reduceNeg, ustrA]; rfl) (spec_DrawParseType cs _) ?_ rfl
        rintro _ _ ⟨s2, rfl, hs2, rfl⟩
        obtain ⟨k2, m2, n2, ks2, hρ2⟩ : ∃ k m n ks, oTy (pAll s2) = .mk k m n ks := by cases oTy (pAll s2); exact ⟨_, _, _, _, rfl⟩
        have hp2 : ∀ A, ACalls Try.prog 6 [.str s2] A (ParOut A k2 m2 n2 ks2 (pAll s2).isSome) := fun A => (impl_ParseType s2 (by omega) A).mono fun r A' h => parOut_of hρ2 h
        have hsp : ∀ A, ACalls Try.prog 12 [.str s2] A (fun r A' => r = .tuple [.agg (enc (.mk k2 m2 n2 ks2)), .bool (pAll s2).isSome] ∧ A' = A) := fun A => by
          have h := spec_ParseType s2 (by omega) A
          rwa [hρ2] at h
        have hsz2 := sz_oTy (o := pAll s2) (fun v hv => (pAll_ok hv).1)
        have hsame2 : ∀ A, ACalls Try.prog 10 [.agg (enc (.mk k2 m2 n2 ks2)), .agg (enc (.mk k2 m2 n2 ks2))] A (fun r A' => r = .bool true ∧ A' = A) := fun A => by
          have h2 := impl_TypeSame (.mk k2 m2 n2 ks2) (.mk k2 m2 n2 ks2) (by rw [← hρ2]; omega) (by rw [← hρ2]; omega) A
          rwa [decide_eq_true rfl] at h2
        have hF2 : (pAll s2).isSome = true → ∀ A, ACalls Try.prog 5 [.agg (enc (.mk k2 m2 n2 ks2))] A (fun r A' => r = .str s2 ∧ A' = A) := fun h A => by
          obtain ⟨v2, hv2⟩ := Option.isSome_iff_exists.1 h
          obtain ⟨hok, htx⟩ := pAll_ok hv2
          have e : toTy v2 = .mk k2 m2 n2 ks2 := by rw [← hρ2, hv2]; rfl
          rw [← e]
          refine (impl_FormatType _ A).mono ?_
          rintro r A' ⟨⟨v', e, hv', rfl⟩ | ⟨h, rfl⟩, rfl⟩
          · exact ⟨by rw [← toTy_inj e, htx], rfl⟩
          · rw [validB_toTy hok] at h; cases h
        clear hρ2
        generalize (pAll s2).isSome = o2 at *
        simp only [zW, zX, zD, builtinA, isLeaf, const1, Nat.reduceAdd, Nat.reduceMul, Nat.reduceSub, Nat.reduceLT, Nat.reduceLeDiff, Nat.reduceEqDiff, Nat.reduceBEq, Nat.reduceBNe, reduceIte, reduceCtorEq, Int.reduceToNat, Int.reduceLT, Int.reduceLE, Int.reduceEq, Int.reduceNe, Int.reduceNeg, ustrA, ti3, ti4, ti5, ti9, ti22, ti25, ca4, ca5, ca6, ca7, ca8, ca9, ca10, ca11, ca12, cf, Try.results3]
        refine callO_intro (hp2 _) ?_
        rintro r A3 ⟨v2, S2, rfl, hK3, hl3, hf3⟩
        have c1 : (A3 ++ [Box.cells [.int .i64 k2, .str m2, .str n2, v2]]).getD A3.length .dead = .cells [.int .i64 k2, .str m2, .str n2, v2] := by rw [Abs.getD_append_right (Nat.le_refl _)]; simp
        have hK4 : OwnK (A3 ++ [Box.cells [.int .i64 k2, .str m2, .str n2, v2]]) ks2 v2 S2 := hK3.frame fun i hi => Abs.getD_append_left (hK3.low i hi)
        have l4 : A3.length < (A3 ++ [Box.cells [.int .i64 k2, .str m2, .str n2, v2]]).length := by simp
        simp only [zW, zX, zD, builtinA, isLeaf, const1, Nat.reduceAdd, Nat.reduceMul, Nat.reduceSub, Nat.reduceLT, Nat.reduceLeDiff, Nat.reduceEqDiff, Nat.reduceBEq, Nat.reduceBNe, reduceIte, reduceCtorEq, Int.reduceToNat, Int.reduceLT, Int.reduceLE, Int.reduceEq, Int.reduceNe, Int.reduceNeg, ustrA, ti3, ti4, ti5, ti9, ti22, ti25, ca4, ca5, ca6, ca7, ca8, ca9, ca10, ca11, ca12, cf, Try.results3]
        generalize (A3 ++ [Box.cells [.int .i64 k2, .str m2, .str n2, v2]]) = A4 at *
        refine callO_intro (hsp _) ?_
        rintro r A' ⟨rfl, rfl⟩
        have d1 : (A' ++ [Box.cells (enc (.mk k2 m2 n2 ks2))]).getD A3.length .dead = .cells [.int .i64 k2, .str m2, .str n2, v2] := by rw [Abs.getD_append_left l4]; exact c1
        have d2 : (A' ++ [Box.cells (enc (.mk k2 m2 n2 ks2))]).getD A'.length .dead = .cells (enc (.mk k2 m2 n2 ks2)) := by rw [Abs.getD_append_right (Nat.le_refl _)]; simp
        have hK5 : OwnK (A' ++ [Box.cells (enc (.mk k2 m2 n2 ks2))]) ks2 v2 S2 := hK4.frame fun i hi => Abs.getD_append_left (hK4.low i hi)
        simp only [zW, zX, zD, builtinA, isLeaf, const1, Nat.reduceAdd, Nat.reduceMul, Nat.reduceSub, Nat.reduceLT, Nat.reduceLeDiff, Nat.reduceEqDiff, Nat.reduceBEq, Nat.reduceBNe, reduceIte, reduceCtorEq, Int.reduceToNat, Int.reduceLT, Int.reduceLE, Int.reduceEq, Int.reduceNe, Int.reduceNeg, ustrA, ti3, ti4, ti5, ti9, ti22, ti25, ca4, ca5, ca6, ca7, ca8, ca9, ca10, ca11, ca12, cf, Try.results3, enc_length, enc_take, enc_drop, frzL_enc, enc_closed, Option.map_some]
        generalize (A' ++ [Box.cells (enc (.mk k2 m2 n2 ks2))]) = A5 at *
        simp only [zW, zX, zD, builtinA, isLeaf, const1, Nat.reduceAdd, Nat.reduceMul, Nat.reduceSub, Nat.reduceLT, Nat.reduceLeDiff, Nat.reduceEqDiff, Nat.reduceBEq, Nat.reduceBNe, reduceIte, reduceCtorEq, Int.reduceToNat, Int.reduceLT, Int.reduceLE, Int.reduceEq, Int.reduceNe, Int.reduceNeg, ustrA, ti3, ti4, ti5, ti9, ti22, ti25, ca4, ca5, ca6, ca7, ca8, ca9, ca10, ca11, ca12, cf, Try.results3, d1, d2, enc_length, enc_take, enc_drop, frzL_enc, enc_closed, Option.map_some]
        refine callO_intro (borrowI (.cons (hK5.viewT k2 m2 n2) (.cons (viewNT _ _) .nil)) rfl hsame2) ?_
        rintro r A6 ⟨rfl, rfl⟩
        cases o2 with
        | false => simp only [zW, zX, zD, builtinA, isLeaf, const1, Nat.reduceAdd, Nat.reduceMul, Nat.reduceSub, Nat.reduceLT, Nat.reduceLeDiff, Nat.reduceEqDiff, Nat.reduceBEq, Nat.reduceBNe, reduceIte, reduceCtorEq, Int.reduceToNat, Int.reduceLT, Int.reduceLE, Int.reduceEq, Int.reduceNe, Int.reduceNeg, ustrA, ti3, ti4, ti5, ti9, ti22, ti25, ca4, ca5, ca6, ca7, ca8, ca9, ca10, ca11, ca12, cf, Try.results3, d1, d2, enc_length, enc_take, enc_drop, frzL_enc, enc_closed, Option.map_some]
        | true =>
          simp only [zW, zX, zD, builtinA, isLeaf, const1, Nat.reduceAdd, Nat.reduceMul, Nat.reduceSub, Nat.reduceLT, Nat.reduceLeDiff, Nat.reduceEqDiff, Nat.reduceBEq, Nat.reduceBNe, reduceIte, reduceCtorEq, Int.reduceToNat, Int.reduceLT, Int.reduceLE, Int.reduceEq, Int.reduceNe, Int.reduceNeg, ustrA, ti3, ti4, ti5, ti9, ti22, ti25, ca4, ca5, ca6, ca7, ca8, ca9, ca10, ca11, ca12, cf, Try.results3, d1, d2, enc_length, enc_take, enc_drop, frzL_enc, enc_closed, Option.map_some]
          refine callO_intro (borrowI (.cons (hK5.viewT k2 m2 n2) .nil) rfl (hF2 rfl)) ?_
          rintro r A7 ⟨rfl, rfl⟩
          simp only [zW, zX, zD, builtinA, isLeaf, const1, Nat.reduceAdd, Nat.reduceMul, Nat.reduceSub, Nat.reduceLT, Nat.reduceLeDiff, Nat.reduceEqDiff, Nat.reduceBEq, Nat.reduceBNe, reduceIte, reduceCtorEq, Int.reduceToNat, Int.reduceLT, Int.reduceLE, Int.reduceEq, Int.reduceNe, Int.reduceNeg, ustrA, ti3, ti4, ti5, ti9, ti22, ti25, ca4, ca5, ca6, ca7, ca8, ca9, ca10, ca11, ca12, cf, Try.results3]

theorem typeText_rec : ∀ t ∈ Try.f3.params.toList, Try.prog.readableRec t = true ∧ t < Try.prog.types.size := by
  rw [Try.params3]
  intro t ht
  simp at ht
  subst ht
  exact ⟨by kernel_rfl, of_decide_eq_true (by kernel_rfl)⟩
set_option maxRecDepth 100000 in
theorem typeText_lifted (os : Os) (started : os.Started) (H : Type) (enc' : TypeId × Value → H) :
    ReturnsInHanded {} Try.checked os 3 .any (Rows.fnTypeTextSpec.pre6 enc' Try.prog Try.f3 Rows.fnTypeTextRow.domain false) (Rows.fnTypeTextSpec.post enc' Try.prog Try.f3 false true false false) := by
  refine returnsInHanded_of_change (C := Try.checked) ownk started (by kernel_rfl) Try.func3
    (ChangeSpec.witness6 (enc := enc') (C := Try.checked) false ⟨#[], #[.slice none 0 0, .slice none 0 0], []⟩ 8 (by kernel_rfl) (by kernel_rfl) (by kernel_rfl) (by kernel_rfl)) ?_
  intro W base args ds gs before hval0 hW hcnd _
  have hval : ∀ (j : Nat) t v, Try.f3.params[j]? = some t → args[j]? = some v → Value.okWide Try.prog W .any base t v := hval0
  have hW' := hW
  obtain ⟨p, q, hA0, hV, rfl, hfz, hnd⟩ := hW
  have hA : DataW.TrodAll enc' Try.prog W 0 (fun _ => true) true Try.f3.params.toList args.toList ds p := hA0
  rw [Try.params3] at hA hval
  have hlt := hA.lt
  obtain ⟨v0, v1, d0, d1, p0, p1, rfl, rfl, rfl, h0, h1⟩ := trodAll_two hA
  obtain ⟨rfl, rfl⟩ := trodVars_none hV
  obtain ⟨x0, r0⟩ := rv_bytes Try.underlying22 Try.underlying5 (by kernel_rfl) (hval 0 22 v0 rfl rfl) h0 (fun x hx => hlt x (by simp [hx]))
  obtain ⟨x1, r1⟩ := rv_bytes Try.underlying22 Try.underlying5 (by kernel_rfl) (hval 1 22 v1 rfl rfl) h1 (fun x hx => hlt x (by simp [hx]))
  refine (law_calls (typeText_true x0 x1) (.cons r0 (.cons r1 .nil))).mono fun e W' ⟨he, hb⟩ => ?_
  subst he
  exact ⟨_, rfl, law_post laid typeText_rec rfl Try.underlying4 (by kernel_rfl) ⟨rfl, rfl⟩ rfl hW' hb⟩
theorem typeText_holds : Rows.FnTypeTextSaid :=
  OpenClaim.holds_of_wide 3 Try.f3 rfl rfl rfl rfl rfl rfl rfl ⟨rfl, rfl, rfl, rfl, rfl⟩ rfl rfl rfl rfl rfl (by kernel_rfl) Try.func3 (by kernel_rfl)
    (of_decide_eq_true (by kernel_rfl)) (by unfold Func.isWrapper; first | (rw [if_pos (by decide +kernel)]; kernel_rfl) | (rw [if_neg (by decide +kernel)]; exact ⟨rfl, rfl⟩))
    (fun os started H enc' _ => typeText_lifted os started H enc')
end Go.Proofs.Ytfcfijgajpbpcaa
