/- For every text the program's ParseType answers as the model's ParseType does, in every field; what it hands back is memory of its own, which neither the reading of it nor a second call changes. No condition beside the row's own. -/
import Derived.Test.YtamicokgpigmkaaLawTy
import Derived.Test.YtamicokgpigmkaaParseI
import Derived.Test.YtamicokgpigmkaaParseT
import Derived.Test.YtamicokgpigmkaaOwnMark
set_option linter.unusedVariables false
set_option linter.unusedSimpArgs false
namespace Go.Proofs.Ytamicokgpigmkaa
open Go.Abs Go.RowKit Go.ChangeShapes Go.WideShapes Go.ChangeAt Go.ChangeMaps

/-- what is handed back, whatever it is -/
def OutT (A : List Box) (τ : Ty) (ok : Bool) (r : AV) (A' : List Box) : Prop :=
  ∃ k m n v S, τ = .mk k m n τ.kids ∧ r = .tuple [.agg [.int .i64 k, .str m, .str n, v], .bool ok] ∧ OwnK A' τ.kids v S ∧ S.Nodup ∧ (∀ i ∈ S, A.length ≤ i) ∧ A.length ≤ A'.length ∧ ∀ i, i < A.length → A'.getD i .dead = A.getD i .dead
theorem outT_of {A A' : List Box} {o : Option VT} {r : AV} (h : TyOut A o r A') : OutT A (oTy o) o.isSome r A' := by
  cases o with
  | none =>
    obtain ⟨rfl, h2, h3⟩ := h
    exact ⟨0, [], [], .nils, [], rfl, rfl, .inl ⟨rfl, rfl, rfl⟩, by simp, by simp, h2, h3⟩
  | some v =>
    obtain ⟨cs, S, rfl, h1, h2, h3, h4, h5⟩ := h
    simp only [oTy]
    cases ht : toTy v with
    | mk k m n ks =>
      rw [ht, ownT_mk] at h1
      obtain ⟨w, rfl, hw⟩ := h1
      exact ⟨k, m, n, w, S, rfl, rfl, hw, h2, h3, h4, h5⟩

theorem viewE (A : List Box) (τ : Ty) : View A (.agg (enc τ)) (.agg (enc τ)) := .agg _ _ rfl fun i hi => .leaf _ (enc_leaf τ _ (Abs.getD_mem hi))

set_option maxRecDepth 100000 in
theorem exactParseType_true (s : List UInt8) : ACalls Try.prog 6 [.str s] [] (fun v _ => v = .bool true) := by
  by_cases hl : s.length ≤ 1048576
  · have hd : decide ((1048576 : Int) < (s.length : Int)) = false := decide_eq_false (by omega)
    obtain ⟨k, m, n, ks, hτ⟩ : ∃ k m n ks, oTy (pAll s) = .mk k m n ks := by cases oTy (pAll s); exact ⟨_, _, _, _, rfl⟩
    have hok : (Ty.mk k m n ks).Ok ∧ counts ks ≤ 63 := by
      rw [← hτ]
      cases hp : pAll s with
      | none => simp [oTy, ty0] at hτ hp ⊢; simp [hp, oTy, ty0] at hτ; obtain ⟨_, _, _, rfl⟩ := hτ; exact ⟨.mk (by simp) (by simp) (by simp) (by simp), by simp [counts]⟩
      | some v =>
        obtain ⟨hv, _⟩ := pAll_ok hp
        rw [hp] at hτ
        have hc := count_toTy v
        have := hv.cnt
        simp only [oTy] at hτ ⊢
        rw [hτ, count] at hc
        exact ⟨ok_toTy v hv.ok, by omega⟩
    have hspec := spec_ParseType s (by omega)
    have himpl : ∀ A, ACalls Try.prog 21 [.str s] A (OutT A (.mk k m n ks) (pAll s).isSome) := fun A => (impl_ParseType s (by omega) A).mono fun r A' h => by
      have := outT_of h
      rwa [hτ] at this
    rw [hτ] at hspec
    generalize (pAll s).isSome = ok at hspec himpl
    have bb : ∀ b : Bool, (decide (b = b)) = true := fun b => by simp
    refine acalls_enter (cf := cf 66 [0, 2, 3, 4, 5, 6, 7, 8, 9, 10, 13, 32, 40, 43, 57, 62, 65]) foll Try.func6 Try.ntmps6 (by simp [cf]) ?_
    simp only [Try.f6, EnterK_some, zW, zX, zD, builtinA, isLeaf, const1, Nat.reduceAdd, Nat.reduceMul, Nat.reduceSub, Nat.reduceLT, Nat.reduceLeDiff, Nat.reduceEqDiff, Nat.reduceBEq, Nat.reduceBNe, reduceIte, reduceCtorEq, Int.reduceToNat, Int.reduceLT, Int.reduceLE, Int.reduceEq, Int.reduceNe, Int.reduceNeg, ustrA, ti3, ti4, ti9, ti38, ca20, ca21, ca22, ca23, ca24, cf, Try.results6]
    simp only [zW, zX, zD, builtinA, isLeaf, const1, Nat.reduceAdd, Nat.reduceMul, Nat.reduceSub, Nat.reduceLT, Nat.reduceLeDiff, Nat.reduceEqDiff, Nat.reduceBEq, Nat.reduceBNe, reduceIte, reduceCtorEq, Int.reduceToNat, Int.reduceLT, Int.reduceLE, Int.reduceEq, Int.reduceNe, Int.reduceNeg, ustrA, ti3, ti4, ti9, ti38, ca20, ca21, ca22, ca23, ca24, cf, Try.results6, hd]
    refine callK_intro (by simp only [zW, zX, zD, builtinA, isLeaf, const1, Nat.reduceAdd, Nat.reduceMul, Nat.reduceSub, Nat.reduceLT, Nat.reduceLeDiff, Nat.reduceEqDiff, Nat.reduceBEq, Nat.reduceBNe, reduceIte, reduceCtorEq, Int.reduceToNat, Int.reduceLT, Int.reduceLE, Int.reduceEq, Int.reduceNe, Int.reduceNeg, ustrA, Option.map_some]; rfl) (hspec _) ?_ rfl; rintro v A' ⟨rfl, rfl⟩
    simp only [zW, zX, zD, builtinA, isLeaf, const1, Nat.reduceAdd, Nat.reduceMul, Nat.reduceSub, Nat.reduceLT, Nat.reduceLeDiff, Nat.reduceEqDiff, Nat.reduceBEq, Nat.reduceBNe, reduceIte, reduceCtorEq, Int.reduceToNat, Int.reduceLT, Int.reduceLE, Int.reduceEq, Int.reduceNe, Int.reduceNeg, ustrA, ti3, ti4, ti9, ti38, ca20, ca21, ca22, ca23, ca24, cf, Try.results6, enc_length, enc_take, frzL_enc, Option.map_some]
    refine callK_intro (by simp only [zW, zX, zD, builtinA, isLeaf, const1, Nat.reduceAdd, Nat.reduceMul, Nat.reduceSub, Nat.reduceLT, Nat.reduceLeDiff, Nat.reduceEqDiff, Nat.reduceBEq, Nat.reduceBNe, reduceIte, reduceCtorEq, Int.reduceToNat, Int.reduceLT, Int.reduceLE, Int.reduceEq, Int.reduceNe, Int.reduceNeg, ustrA, Option.map_some] <;> rfl) (himpl _) ?_ rfl
    rintro r A1 ⟨k', m', n', v, S, e, rfl, hK, hN, hge, hle, hfr⟩
    cases e
    simp only [Ty.kids] at hK
    have hA1 : 0 < A1.length := Nat.lt_of_lt_of_le (by simp) hle
    have h0S : 0 ∉ S := fun h => by have := hge 0 h; simp at this
    have hlow := hK.low
    have hLS : A1.length ∉ S := fun h => by have := hlow _ h; omega
    have g0 : ∀ B, (A1 ++ B).getD 0 .dead = .cells (enc (Ty.mk k m n ks)) := fun B => by
      rw [Abs.getD_append_left hA1, hfr 0 (by simp)]; rfl
    have K2 : OwnK (A1 ++ [Box.cells [.int .i64 k, .str m, .str n, v]]) ks v S := hK.frame fun j hj => Abs.getD_append_left (hlow j hj)
    simp only [zW, zX, zD, builtinA, isLeaf, const1, Nat.reduceAdd, Nat.reduceMul, Nat.reduceSub, Nat.reduceLT, Nat.reduceLeDiff, Nat.reduceEqDiff, Nat.reduceBEq, Nat.reduceBNe, reduceIte, reduceCtorEq, Int.reduceToNat, Int.reduceLT, Int.reduceLE, Int.reduceEq, Int.reduceNe, Int.reduceNeg, ustrA, ti3, ti4, ti9, ti38, ca20, ca21, ca22, ca23, ca24, cf, Try.results6, g0, enc_length, enc_take, Option.map_some]
    refine callO_intro (borrow0 (.cons (K2.viewT k m n) (.cons (viewE _ _) .nil)) rfl (fun A => laws_eqType _ hok.1 A)) ?_
    rintro r A' ⟨rfl, rfl⟩
    simp only [zW, zX, zD, builtinA, isLeaf, const1, Nat.reduceAdd, Nat.reduceMul, Nat.reduceSub, Nat.reduceLT, Nat.reduceLeDiff, Nat.reduceEqDiff, Nat.reduceBEq, Nat.reduceBNe, reduceIte, reduceCtorEq, Int.reduceToNat, Int.reduceLT, Int.reduceLE, Int.reduceEq, Int.reduceNe, Int.reduceNeg, ustrA, ti3, ti4, ti9, ti38, ca20, ca21, ca22, ca23, ca24, cf, Try.results6]
    refine callO_intro (laws_markType k m n ks hok.1 _ v S 1 K2 hN (by omega) (by omega)) ?_
    rintro r A3 ⟨rfl, hl3, K3, hf3⟩
    simp only [List.length_append, List.length_cons, List.length_nil] at hl3 hf3
    have c1 : A3.getD A1.length .dead = .cells [.int .i64 k, .str m, .str n, v] := by
      rw [hf3 _ (by omega) hLS, Abs.getD_append_right (by omega)]; simp
    have c0 : A3.getD 0 .dead = .cells (enc (Ty.mk k m n ks)) := by rw [hf3 0 (by omega) h0S, g0]
    have hmn := markL_next ks 1
    have hge2 : decide ((markL ks 1).2 < 0) = false := by rw [hmn]; exact decide_eq_false (by omega)
    simp only [zW, zX, zD, builtinA, isLeaf, const1, Nat.reduceAdd, Nat.reduceMul, Nat.reduceSub, Nat.reduceLT, Nat.reduceLeDiff, Nat.reduceEqDiff, Nat.reduceBEq, Nat.reduceBNe, reduceIte, reduceCtorEq, Int.reduceToNat, Int.reduceLT, Int.reduceLE, Int.reduceEq, Int.reduceNe, Int.reduceNeg, ustrA, ti3, ti4, ti9, ti38, ca20, ca21, ca22, ca23, ca24, cf, Try.results6, c1]
    refine callO_intro (borrow0 (.cons (K3.viewT k m n) (.cons (.leaf _ rfl) .nil)) rfl (fun A => laws_heldType k m n ks hok.1 1 (by omega) (by omega) A)) ?_
    rintro r A' ⟨rfl, rfl⟩
    simp only [zW, zX, zD, builtinA, isLeaf, const1, Nat.reduceAdd, Nat.reduceMul, Nat.reduceSub, Nat.reduceLT, Nat.reduceLeDiff, Nat.reduceEqDiff, Nat.reduceBEq, Nat.reduceBNe, reduceIte, reduceCtorEq, Int.reduceToNat, Int.reduceLT, Int.reduceLE, Int.reduceEq, Int.reduceNe, Int.reduceNeg, ustrA, ti3, ti4, ti9, ti38, ca20, ca21, ca22, ca23, ca24, cf, Try.results6, hge2]
    refine callK_intro (by simp only [zW, zX, zD, builtinA, isLeaf, const1, Nat.reduceAdd, Nat.reduceMul, Nat.reduceSub, Nat.reduceLT, Nat.reduceLeDiff, Nat.reduceEqDiff, Nat.reduceBEq, Nat.reduceBNe, reduceIte, reduceCtorEq, Int.reduceToNat, Int.reduceLT, Int.reduceLE, Int.reduceEq, Int.reduceNe, Int.reduceNeg, ustrA, Option.map_some] <;> rfl) (himpl _) ?_ rfl
    rintro r A4 ⟨k', m', n', v2, S2, e, rfl, hK4, hN4, hge4, hle4, hf4⟩
    cases e
    simp only [Ty.kids] at hK4
    have d0 : ∀ B, (A4 ++ B).getD 0 .dead = .cells (enc (Ty.mk k m n ks)) := fun B => by
      rw [Abs.getD_append_left (by omega), hf4 0 (by omega), c0]
    have d1 : ∀ B, (A4 ++ B).getD A1.length .dead = .cells [.int .i64 k, .str m, .str n, v] := fun B => by
      rw [Abs.getD_append_left (by omega), hf4 _ (by omega), c1]
    have K5 : OwnK (A4 ++ [Box.cells [.int .i64 k, .str m, .str n, v2]]) ks v2 S2 := hK4.frame fun j hj => Abs.getD_append_left (hK4.low j hj)
    have K6 : OwnK (A4 ++ [Box.cells [.int .i64 k, .str m, .str n, v2]]) (markL ks 1).1 v S := K3.frame fun j hj => by
      have := K3.low j hj
      rw [Abs.getD_append_left (by omega), hf4 j this]
    simp only [zW, zX, zD, builtinA, isLeaf, const1, Nat.reduceAdd, Nat.reduceMul, Nat.reduceSub, Nat.reduceLT, Nat.reduceLeDiff, Nat.reduceEqDiff, Nat.reduceBEq, Nat.reduceBNe, reduceIte, reduceCtorEq, Int.reduceToNat, Int.reduceLT, Int.reduceLE, Int.reduceEq, Int.reduceNe, Int.reduceNeg, ustrA, ti3, ti4, ti9, ti38, ca20, ca21, ca22, ca23, ca24, cf, Try.results6, d0, d1, enc_length, enc_take, Option.map_some]
    refine callO_intro (borrow0 (.cons (K5.viewT k m n) (.cons (viewE _ _) .nil)) rfl (fun A => laws_eqType _ hok.1 A)) ?_
    rintro r A' ⟨rfl, rfl⟩
    simp only [zW, zX, zD, builtinA, isLeaf, const1, Nat.reduceAdd, Nat.reduceMul, Nat.reduceSub, Nat.reduceLT, Nat.reduceLeDiff, Nat.reduceEqDiff, Nat.reduceBEq, Nat.reduceBNe, reduceIte, reduceCtorEq, Int.reduceToNat, Int.reduceLT, Int.reduceLE, Int.reduceEq, Int.reduceNe, Int.reduceNeg, ustrA, ti3, ti4, ti9, ti38, ca20, ca21, ca22, ca23, ca24, cf, Try.results6, d1]
    refine callO_intro (borrow0 (.cons (K6.viewT k m n) (.cons (.leaf _ rfl) .nil)) rfl (fun A => laws_heldType k m n ks hok.1 1 (by omega) (by omega) A)) ?_
    rintro r A' ⟨rfl, rfl⟩
    simp only [zW, zX, zD, builtinA, isLeaf, const1, Nat.reduceAdd, Nat.reduceMul, Nat.reduceSub, Nat.reduceLT, Nat.reduceLeDiff, Nat.reduceEqDiff, Nat.reduceBEq, Nat.reduceBNe, reduceIte, reduceCtorEq, Int.reduceToNat, Int.reduceLT, Int.reduceLE, Int.reduceEq, Int.reduceNe, Int.reduceNeg, ustrA, ti3, ti4, ti9, ti38, ca20, ca21, ca22, ca23, ca24, cf, Try.results6, hge2]
  · have hd : decide ((1048576 : Int) < (s.length : Int)) = true := decide_eq_true (by omega)
    refine acalls_enter (cf := cf 66 [0, 2, 3, 4, 5, 6, 7, 8, 9, 10, 13, 32, 40, 43, 57, 62, 65]) foll Try.func6 Try.ntmps6 (by simp [cf]) ?_
    simp only [Try.f6, EnterK_some, zW, zX, zD, builtinA, isLeaf, const1, Nat.reduceAdd, Nat.reduceMul, Nat.reduceSub, Nat.reduceLT, Nat.reduceLeDiff, Nat.reduceEqDiff, Nat.reduceBEq, Nat.reduceBNe, reduceIte, reduceCtorEq, Int.reduceToNat, Int.reduceLT, Int.reduceLE, Int.reduceEq, Int.reduceNe, Int.reduceNeg, ustrA, ti3, ti4, ti9, ti38, ca20, ca21, ca22, ca23, ca24, cf, Try.results6]
    simp only [zW, zX, zD, builtinA, isLeaf, const1, Nat.reduceAdd, Nat.reduceMul, Nat.reduceSub, Nat.reduceLT, Nat.reduceLeDiff, Nat.reduceEqDiff, Nat.reduceBEq, Nat.reduceBNe, reduceIte, reduceCtorEq, Int.reduceToNat, Int.reduceLT, Int.reduceLE, Int.reduceEq, Int.reduceNe, Int.reduceNeg, ustrA, ti3, ti4, ti9, ti38, ca20, ca21, ca22, ca23, ca24, cf, Try.results6, hd]

theorem exactParseType_rec : ∀ t ∈ Try.f6.params.toList, Try.prog.readableRec t = true ∧ t < Try.prog.types.size := by
  rw [Try.params6]
  intro t ht
  simp at ht
  subst ht
  exact ⟨by kernel_rfl, of_decide_eq_true (by kernel_rfl)⟩
set_option maxRecDepth 100000 in
theorem exactParseType_lifted (os : Os) (started : os.Started) (H : Type) (enc' : TypeId × Value → H) :
    ReturnsInHanded {} Try.checked os 6 .any (Rows.fnExactParseTypeSpec.pre6 enc' Try.prog Try.f6 Rows.fnExactParseTypeRow.domain false) (Rows.fnExactParseTypeSpec.post enc' Try.prog Try.f6 false true false false) := by
  refine returnsInHanded_of_change (C := Try.checked) ownk started (by kernel_rfl) Try.func6
    (ChangeSpec.witness6 (enc := enc') (C := Try.checked) false ⟨#[], #[.string .empty], []⟩ 8 (by kernel_rfl) (by kernel_rfl) (by kernel_rfl) (by kernel_rfl)) ?_
  intro W base args ds gs before hval0 hW hcnd _
  have hval : ∀ (j : Nat) t v, Try.f6.params[j]? = some t → args[j]? = some v → Value.okWide Try.prog W .any base t v := hval0
  have hW' := hW
  obtain ⟨p, q, hA0, hV, rfl, hfz, hnd⟩ := hW
  have hA : DataW.TrodAll enc' Try.prog W 0 (fun _ => true) true Try.f6.params.toList args.toList ds p := hA0
  rw [Try.params6] at hA hval
  have hlt := hA.lt
  obtain ⟨v0, d0, rfl, rfl, h0⟩ := trodAll_one hA
  obtain ⟨rfl, rfl⟩ := trodVars_none hV
  obtain ⟨x0, e0, e0', e0'', ws0⟩ := open_string Try.underlying9 (hval 0 9 v0 rfl rfl) h0
  subst e0
  refine (law_calls (exactParseType_true x0.data.toList) (.cons (rv_string _ x0) .nil)).mono fun e W' ⟨he, hb⟩ => ?_
  subst he
  exact ⟨_, rfl, law_post laid exactParseType_rec rfl Try.underlying4 (by kernel_rfl) ⟨rfl, rfl⟩ rfl hW' hb⟩
theorem exactParseType_holds : Rows.FnExactParseTypeSaid :=
  OpenClaim.holds_of_wide 6 Try.f6 rfl rfl rfl rfl rfl rfl rfl ⟨rfl, rfl, rfl, rfl, rfl⟩ rfl rfl rfl rfl rfl (by kernel_rfl) Try.func6 (by kernel_rfl)
    (of_decide_eq_true (by kernel_rfl)) (by unfold Func.isWrapper; first | (rw [if_pos (by decide +kernel)]; kernel_rfl) | (rw [if_neg (by decide +kernel)]; exact ⟨rfl, rfl⟩))
    (fun os started H enc' _ => exactParseType_lifted os started H enc')
end Go.Proofs.Ytamicokgpigmkaa
