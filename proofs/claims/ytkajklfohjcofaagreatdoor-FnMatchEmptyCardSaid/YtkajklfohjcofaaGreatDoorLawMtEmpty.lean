/- Whatever the signature that is drawn: MatchSig of it and the empty one answers as the model says, and MatchOk exactly where it has a normal form; the empty one matches only what is empty. No condition beside the row's own. -/
import Derived.Test.YtkajklfohjcofaaGreatDoorK17
set_option linter.unusedVariables false
set_option linter.unusedSimpArgs false
namespace Go.Proofs.YtkajklfohjcofaaGreatDoor
open Go.Abs Go.RowKit Go.ChangeShapes Go.WideShapes Go.ChangeAt Go.ChangeMaps

set_option maxRecDepth 100000 in
set_option maxHeartbeats 4000000 in
theorem mtEmpty_true (bs : List UInt8) : ACalls Tryz.prog 8 [.aslice (byteRows bs)] [] (fun v _ => v = .bool true) := by
  refine acalls_enter (cf := cf 52 [0, 2, 3, 5, 6, 8, 9, 12]) foll Tryz.func8 Tryz.ntmps8 (by simp [cf]) ?_
  simp only [Tryz.f8, EnterK_some, zW, zX, zD, builtinA, isLeaf, const1, ustrA, simprocAttr, ti3, ti4, ti5, ti25, ti34, ti49, ca16, ca18, ca28, ca29, cf, Tryz.results8]
  by_cases hb : 1048576 < bs.length
  · have e1 : decide ((1048576 : Int) < bs.length) = true := decide_eq_true (by omega)
    simp only [zW, zX, zD, builtinA, isLeaf, const1, ustrA, simprocAttr, ti3, ti4, ti5, ti25, ti34, ti49, ca16, ca18, ca28, ca29, cf, Tryz.results8, byteRows_length, e1]
  · have e1 : decide ((1048576 : Int) < bs.length) = false := decide_eq_false (by omega)
    simp only [zW, zX, zD, builtinA, isLeaf, const1, ustrA, simprocAttr, ti3, ti4, ti5, ti25, ti34, ti49, ca16, ca18, ca28, ca29, cf, Tryz.results8, byteRows_length, e1]
    refine callK_intro (by simp only [zW, zX, zD, builtinA, isLeaf, const1, ustrA, simprocAttr]; rfl) (spec_DrawMatchSig bs _) ?_ rfl
    rintro v A' ⟨s, t, rfl, hs, hsm, ht, htm, rfl⟩
    obtain ⟨hso, hsz⟩ := smx_all hs hsm
    obtain ⟨o, ho⟩ := rdN_ex s
    obtain ⟨c, p, hM⟩ := mtIs_ex s []
    obtain ⟨c', p', hM'⟩ := mtIs_ex [] s
    have hno : ∀ x ∈ ([] : List SigI), x.Ok ∧ sz x.typ ≤ 1048576 := by simp
    have hspec : ∀ A, ACalls Tryz.prog 16 [.slice (sEs s), .slice []] A (fun r A' => r = .int .i64 c ∧ A' = A) := fun A => spec_MatchSigF hM (by omega) hso (by simp) hno A
    have himpl : ∀ A, ACalls Tryz.prog 18 [.slice (sEs s), .slice []] A (fun r A' => r = .int .i64 c ∧ A' = A) := fun A => impl_MatchSigF hM (by omega) hso (by simp) hno A
    have himpl' : ∀ A, ACalls Tryz.prog 18 [.slice [], .slice (sEs s)] A (fun r A' => r = .int .i64 c' ∧ A' = A) := fun A => impl_MatchSigF hM' (by simp) hno (by omega) hso A
    have hnorm : ∀ A, ACalls Tryz.prog 29 [.slice (sEs s)] A (SgNew A (nrX o) o.isSome) := sg_call fun A => (impl_NormalSig s (by omega) hso A).mono fun r A' h => by
      obtain ⟨o', h1, h2⟩ := h
      rw [rdN_oo h1 ho] at h2
      exact h2
    have hsl := sEs_length s
    have hcc : decide (c = c) = true := by simp
    have hfin : (c = 0 ↔ o.isSome = true) ∧ (c' = 0 ↔ (o.isSome = true ∧ s.length = 0)) := by
      cases o with
      | none =>
        have h1 := mt_none hM (.inl ho)
        have h2 := mt_none hM' (.inr ho)
        constructor
        · simp; omega
        · simp; omega
      | some zs =>
        obtain ⟨rfl, _⟩ := mtIs_one hM (mt_nil ho)
        obtain ⟨c2, p2, h3, h4⟩ := mt_of_nil ho
        obtain ⟨rfl, _⟩ := mtIs_one hM' h3
        simp [h4]
    generalize o.isSome = q at *
    have hq1 : (decide (c = 0) == q) = true := by rw [beq_iff_eq, Bool.eq_iff_iff]; simpa using hfin.1
    have hq2 : decide (c' = 0) = (q && decide (s.length = 0)) := by rw [Bool.eq_iff_iff]; simpa using hfin.2
    have hq3 : decide ((s.length : Int) = 0) = decide (s.length = 0) := by simp
    clear hM hM' ho
    simp only [zW, zX, zD, builtinA, isLeaf, const1, ustrA, simprocAttr, ti3, ti4, ti5, ti25, ti34, ti49, ca16, ca18, ca28, ca29, cf, Tryz.results8]
    refine callK_intro (by simp only [zW, zX, zD, builtinA, isLeaf, const1, ustrA, simprocAttr]; rfl) (himpl _) ?_ rfl
    rintro r A' ⟨rfl, rfl⟩
    simp only [zW, zX, zD, builtinA, isLeaf, const1, ustrA, simprocAttr, ti3, ti4, ti5, ti25, ti34, ti49, ca16, ca18, ca28, ca29, cf, Tryz.results8]
    refine callO_intro (hnorm _) ?_
    rintro r A1 ⟨B1, v1, S1, rfl, hB1, rfl, hv1, hK1, hN1, hR1⟩
    simp only [zW, zX, zD, builtinA, isLeaf, const1, ustrA, simprocAttr, ti3, ti4, ti5, ti25, ti34, ti49, ca16, ca18, ca28, ca29, cf, Tryz.results8]
    refine callK_intro (by simp only [zW, zX, zD, builtinA, isLeaf, const1, ustrA, simprocAttr]; rfl) (himpl' _) ?_ rfl
    rintro r A' ⟨rfl, rfl⟩
    simp only [zW, zX, zD, builtinA, isLeaf, const1, ustrA, simprocAttr, ti3, ti4, ti5, ti25, ti34, ti49, ca16, ca18, ca28, ca29, cf, Tryz.results8]
    refine callK_intro (by simp only [zW, zX, zD, builtinA, isLeaf, const1, ustrA, simprocAttr]; rfl) (hspec _) ?_ rfl
    rintro r A' ⟨rfl, rfl⟩
    simp only [zW, zX, zD, builtinA, isLeaf, const1, ustrA, simprocAttr, ti3, ti4, ti5, ti25, ti34, ti49, ca16, ca18, ca28, ca29, cf, Tryz.results8, hcc, hq1]
    cases q with
    | false =>
      simp only [zW, zX, zD, builtinA, isLeaf, const1, ustrA, simprocAttr, ti3, ti4, ti5, ti25, ti34, ti49, ca16, ca18, ca28, ca29, cf, Tryz.results8, hq2]
      done
    | true =>
      simp only [zW, zX, zD, builtinA, isLeaf, const1, ustrA, simprocAttr, ti3, ti4, ti5, ti25, ti34, ti49, ca16, ca18, ca28, ca29, cf, Tryz.results8, hq2, hsl, hq3]
      done
theorem mtEmpty_rec : ∀ t ∈ Tryz.f8.params.toList, Tryz.prog.readableRec t = true ∧ t < Tryz.prog.types.size := by
  rw [Tryz.params8]
  intro t ht
  simp at ht
  subst ht
  exact ⟨by kernel_rfl, of_decide_eq_true (by kernel_rfl)⟩
set_option maxRecDepth 100000 in
theorem mtEmpty_lifted (os : Os) (started : os.Started) (H : Type) (enc' : TypeId × Value → H) :
    ReturnsInHanded {} Tryz.checked os 8 .any (fun w args => (Rows.fnMatchEmptySpec.pre enc' Tryz.prog Tryz.f8 Rows.fnMatchEmptyRow.domain false w args ∧ laidMetH Tryz.prog laidL w) ∧ sizedMet enc' Tryz.prog Tryz.f8 (OpenSpec.ofChange Rows.fnMatchEmptySpec) false w args) (Rows.fnMatchEmptySpec.post enc' Tryz.prog Tryz.f8 false true false false) := by
  refine returnsInHanded_of_change_and (C := Tryz.checked) (X := fun w _ => laidMetH Tryz.prog laidL w) (fun _ _ _ hh h => h.of_heap hh) ownk started (by kernel_rfl) Tryz.func8
    (ChangeSpec.witness_at (enc := enc') (C := Tryz.checked) (os := os) (X := fun w _ => laidMetH Tryz.prog laidL w) false (laidWorld os) #[.slice none 0 0] 8 rfl (by kernel_rfl) (by kernel_rfl) (by kernel_rfl) (by kernel_rfl) (by kernel_rfl) (laidWorld_met os _)) ?_
  intro W base args ds gs before hval0 hW hcnd _ hL _
  have hval : ∀ (j : Nat) t v, Tryz.f8.params[j]? = some t → args[j]? = some v → Value.okWide Tryz.prog W .any base t v := hval0
  have hW' := hW
  obtain ⟨p, q, hA0, hV, rfl, hfz, hnd⟩ := hW
  have hA : DataW.TrodAll enc' Tryz.prog W 0 (fun _ => true) true Tryz.f8.params.toList args.toList ds p := hA0
  rw [Tryz.params8] at hA hval
  have hlt := hA.lt
  obtain ⟨v0, d0, rfl, rfl, h0⟩ := trodAll_one hA
  obtain ⟨rfl, rfl⟩ := trodVars_none hV
  obtain ⟨x0, r0⟩ := rv_bytes Tryz.underlying34 Tryz.underlying5 (by kernel_rfl) (hval 0 34 v0 rfl rfl) h0 (fun x hx => hlt x (by simp [hx]))
  refine (law_calls (mtEmpty_true x0) (.cons r0 .nil) (gv_of_laid hL)).mono fun e W' ⟨he, hb⟩ => ?_
  subst he
  exact ⟨_, rfl, law_post laid mtEmpty_rec rfl Tryz.underlying4 (by kernel_rfl) ⟨rfl, rfl⟩ rfl hW' hb⟩
theorem mtEmpty_facts : joinedFacts Tryz.pinned.checked.prog 8 Tryz.f8 Rows.fnMatchEmptySpec Rows.fnMatchEmptyRow = true := by kernel_rfl
theorem mtEmpty_row : Rows.FnMatchEmptySaid :=
  OpenClaim.holds_of_wide 8 Tryz.f8 rfl rfl rfl rfl rfl rfl rfl ⟨rfl, rfl, rfl, rfl, rfl⟩ rfl rfl rfl rfl rfl (by kernel_rfl) Tryz.func8 mtEmpty_facts
    (of_decide_eq_true (by kernel_rfl)) (by unfold Func.isWrapper; first | (rw [if_pos (by decide +kernel)]; kernel_rfl) | (rw [if_neg (by decide +kernel)]; exact ⟨rfl, rfl⟩))
    (fun os started H enc' _ => mtEmpty_lifted os started H enc')
theorem mtEmpty_holds : Rows.FnMatchEmptyCardSaid :=
  Claim7.holds_tied_plain_at .later [] [.handle] true (true, "3b9c0b29125ae3c1057be6c9ea7f3211bb3d44f2cff06c881e93488895868c60") true
    mtEmpty_row (fun _ h => by cases h) (by kernel_rfl) (fun _ h => by cases h) fnMatchEmpty_row_tie rfl ⟨rfl, rfl⟩ (by kernel_rfl) rfl
    (fun f fn hf hfn => by
      obtain rfl : f = 8 := Option.some.inj ((show Tryz.prog.funcNamed Rows.fnMatchEmptyRow.func = some 8 by kernel_rfl).symm.trans hf) |>.symm
      obtain rfl : fn = Tryz.f8 := (Option.some.inj (Tryz.func8.symm.trans hfn)).symm
      refine ⟨by kernel_rfl, fun j t ht => ?_⟩
      rw [Tryz.params8] at ht
      rcases j with _ | j
      · obtain rfl : 34 = t := by simpa using ht
        exact (show Tryz.prog.wantsStandIn 34 = false by kernel_rfl)
      · simp at ht)
    (by kernel_rfl)
end Go.Proofs.YtkajklfohjcofaaGreatDoor

