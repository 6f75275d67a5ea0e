/- Whatever the signature that is drawn: MatchSig of it and itself answers as the model says, and MatchOk exactly where it has a normal form; then EquivSigs says that it is equivalent to its normal form. No condition beside the row's own. -/
import Derived.Test.YtkajklfohjcofaaGreatDoorK17
set_option linter.unusedVariables false
set_option linter.unusedSimpArgs false
namespace Go.Proofs.YtkajklfohjcofaaGreatDoor
open Go.Abs Go.RowKit Go.ChangeShapes Go.WideShapes Go.ChangeAt Go.ChangeMaps

set_option maxRecDepth 100000 in
set_option maxHeartbeats 4000000 in
theorem mtRefl_true (bs : List UInt8) : ACalls Tryz.prog 7 [.aslice (byteRows bs)] [] (fun v _ => v = .bool true) := by
  refine acalls_enter (cf := cf 53 [0, 2, 3, 5, 6, 7, 10, 38]) foll Tryz.func7 Tryz.ntmps7 (by simp [cf]) ?_
  simp only [Tryz.f7, EnterK_some, zW, zX, zD, builtinA, isLeaf, const1, ustrA, simprocAttr, ti3, ti4, ti5, ti34, ca16, ca18, ca21, ca28, ca29, cf, Tryz.results7]
  by_cases hb : 1048576 < bs.length
  · have e1 : decide ((1048576 : Int) < bs.length) = true := decide_eq_true (by omega)
    simp only [zW, zX, zD, builtinA, isLeaf, const1, ustrA, simprocAttr, ti3, ti4, ti5, ti34, ca16, ca18, ca21, ca28, ca29, cf, Tryz.results7, byteRows_length, e1]
  · have e1 : decide ((1048576 : Int) < bs.length) = false := decide_eq_false (by omega)
    simp only [zW, zX, zD, builtinA, isLeaf, const1, ustrA, simprocAttr, ti3, ti4, ti5, ti34, ca16, ca18, ca21, ca28, ca29, cf, Tryz.results7, byteRows_length, e1]
    refine callK_intro (by simp only [zW, zX, zD, builtinA, isLeaf, const1, ustrA, simprocAttr]; rfl) (spec_DrawMatchSig bs _) ?_ rfl
    rintro v A' ⟨s, t, rfl, hs, hsm, ht, htm, rfl⟩
    obtain ⟨hso, hsz⟩ := smx_all hs hsm
    obtain ⟨o, ho⟩ := rdN_ex s
    obtain ⟨c, p, hM⟩ := mtIs_ex s s
    obtain ⟨hxl, hxm⟩ := nr_small (fun x hx => (hsm x hx).1) ho
    obtain ⟨hxo, hxz⟩ := smx_all (s := nrX o) (by omega) hxm
    have hspec := fun A => spec_MatchSigF hM (by omega) hso (by omega) hso A
    have himpl := fun A => impl_MatchSigF hM (by omega) hso (by omega) hso A
    have hnorm : ∀ A, ACalls Tryz.prog 29 [.slice (sEs s)] A (SgNew A (nrX o) o.isSome) := sg_call fun A => (impl_NormalSig s (by omega) hso A).mono fun r A' h => by
      obtain ⟨o', h1, h2⟩ := h
      rw [rdN_oo h1 ho] at h2
      exact h2
    have hne : decide (¬ c = c) = false := by simp
    simp only [zW, zX, zD, builtinA, isLeaf, const1, ustrA, simprocAttr, ti3, ti4, ti5, ti34, ca16, ca18, ca21, ca28, ca29, cf, Tryz.results7]
    refine callO_intro (himpl _) ?_
    rintro r A' ⟨rfl, rfl⟩
    simp only [zW, zX, zD, builtinA, isLeaf, const1, ustrA, simprocAttr, ti3, ti4, ti5, ti34, ca16, ca18, ca21, ca28, ca29, cf, Tryz.results7]
    refine callO_intro (hnorm _) ?_
    rintro r A1 ⟨B1, v1, S1, rfl, hB1, rfl, hv1, hK1, hN1, hR1⟩
    simp only [zW, zX, zD, builtinA, isLeaf, const1, ustrA, simprocAttr, ti3, ti4, ti5, ti34, ca16, ca18, ca21, ca28, ca29, cf, Tryz.results7]
    refine callO_intro (hspec _) ?_
    rintro r A2 ⟨rfl, rfl⟩
    cases o with
    | none =>
      have hc := mt_none hM (.inl ho)
      have hc0 : decide (c = 0) = false := decide_eq_false (by omega)
      simp only [zW, zX, zD, builtinA, isLeaf, const1, ustrA, simprocAttr, ti3, ti4, ti5, ti34, ca16, ca18, ca21, ca28, ca29, cf, Tryz.results7, hne, hc0]
      refine callO_intro (hspec _) ?_
      rintro r A2 ⟨rfl, rfl⟩
      simp only [zW, zX, zD, builtinA, isLeaf, const1, ustrA, simprocAttr, ti3, ti4, ti5, ti34, ca16, ca18, ca21, ca28, ca29, cf, Tryz.results7, hne, hc0]
    | some zs =>
      obtain ⟨rfl, rfl⟩ := mtIs_one hM (mt_self ho ho)
      have hn := rdN_again ho
      have heq := fun A => impl_EquivSigsF (mt_self ho hn) (mt_self hn ho) (by omega) hso (by simp only [nrX] at hxl; omega) hxo A
      simp only [zW, zX, zD, builtinA, isLeaf, const1, ustrA, simprocAttr, ti3, ti4, ti5, ti34, ca16, ca18, ca21, ca28, ca29, cf, Tryz.results7, hne]
      refine callO_intro (borrow0 (.cons (.leaf _ rfl) (.cons hK1.view .nil)) rfl heq) ?_
      rintro r A' ⟨rfl, rfl⟩
      simp only [zW, zX, zD, builtinA, isLeaf, const1, ustrA, simprocAttr, ti3, ti4, ti5, ti34, ca16, ca18, ca21, ca28, ca29, cf, Tryz.results7]
theorem mtRefl_rec : ∀ t ∈ Tryz.f7.params.toList, Tryz.prog.readableRec t = true ∧ t < Tryz.prog.types.size := by
  rw [Tryz.params7]
  intro t ht
  simp at ht
  subst ht
  exact ⟨by kernel_rfl, of_decide_eq_true (by kernel_rfl)⟩
set_option maxRecDepth 100000 in
theorem mtRefl_lifted (os : Os) (started : os.Started) (H : Type) (enc' : TypeId × Value → H) :
    ReturnsInHanded {} Tryz.checked os 7 .any (fun w args => (Rows.fnMatchReflexiveSpec.pre enc' Tryz.prog Tryz.f7 Rows.fnMatchReflexiveRow.domain false w args ∧ laidMetH Tryz.prog laidL w) ∧ sizedMet enc' Tryz.prog Tryz.f7 (OpenSpec.ofChange Rows.fnMatchReflexiveSpec) false w args) (Rows.fnMatchReflexiveSpec.post enc' Tryz.prog Tryz.f7 false true false false) := by
  refine returnsInHanded_of_change_and (C := Tryz.checked) (X := fun w _ => laidMetH Tryz.prog laidL w) (fun _ _ _ hh h => h.of_heap hh) ownk started (by kernel_rfl) Tryz.func7
    (ChangeSpec.witness_at (enc := enc') (C := Tryz.checked) (os := os) (X := fun w _ => laidMetH Tryz.prog laidL w) false (laidWorld os) #[.slice none 0 0] 8 rfl (by kernel_rfl) (by kernel_rfl) (by kernel_rfl) (by kernel_rfl) (by kernel_rfl) (laidWorld_met os _)) ?_
  intro W base args ds gs before hval0 hW hcnd _ hL _
  have hval : ∀ (j : Nat) t v, Tryz.f7.params[j]? = some t → args[j]? = some v → Value.okWide Tryz.prog W .any base t v := hval0
  have hW' := hW
  obtain ⟨p, q, hA0, hV, rfl, hfz, hnd⟩ := hW
  have hA : DataW.TrodAll enc' Tryz.prog W 0 (fun _ => true) true Tryz.f7.params.toList args.toList ds p := hA0
  rw [Tryz.params7] at hA hval
  have hlt := hA.lt
  obtain ⟨v0, d0, rfl, rfl, h0⟩ := trodAll_one hA
  obtain ⟨rfl, rfl⟩ := trodVars_none hV
  obtain ⟨x0, r0⟩ := rv_bytes Tryz.underlying34 Tryz.underlying5 (by kernel_rfl) (hval 0 34 v0 rfl rfl) h0 (fun x hx => hlt x (by simp [hx]))
  refine (law_calls (mtRefl_true x0) (.cons r0 .nil) (gv_of_laid hL)).mono fun e W' ⟨he, hb⟩ => ?_
  subst he
  exact ⟨_, rfl, law_post laid mtRefl_rec rfl Tryz.underlying4 (by kernel_rfl) ⟨rfl, rfl⟩ rfl hW' hb⟩
theorem mtRefl_facts : joinedFacts Tryz.pinned.checked.prog 7 Tryz.f7 Rows.fnMatchReflexiveSpec Rows.fnMatchReflexiveRow = true := by kernel_rfl
theorem mtRefl_row : Rows.FnMatchReflexiveSaid :=
  OpenClaim.holds_of_wide 7 Tryz.f7 rfl rfl rfl rfl rfl rfl rfl ⟨rfl, rfl, rfl, rfl, rfl⟩ rfl rfl rfl rfl rfl (by kernel_rfl) Tryz.func7 mtRefl_facts
    (of_decide_eq_true (by kernel_rfl)) (by unfold Func.isWrapper; first | (rw [if_pos (by decide +kernel)]; kernel_rfl) | (rw [if_neg (by decide +kernel)]; exact ⟨rfl, rfl⟩))
    (fun os started H enc' _ => mtRefl_lifted os started H enc')
theorem mtRefl_holds : Rows.FnMatchReflexiveCardSaid :=
  Claim7.holds_tied_plain_at .later [] [.handle] true (true, "3b9c0b29125ae3c1057be6c9ea7f3211bb3d44f2cff06c881e93488895868c60") true
    mtRefl_row (fun _ h => by cases h) (by kernel_rfl) (fun _ h => by cases h) fnMatchReflexive_row_tie rfl ⟨rfl, rfl⟩ (by kernel_rfl) rfl
    (fun f fn hf hfn => by
      obtain rfl : f = 7 := Option.some.inj ((show Tryz.prog.funcNamed Rows.fnMatchReflexiveRow.func = some 7 by kernel_rfl).symm.trans hf) |>.symm
      obtain rfl : fn = Tryz.f7 := (Option.some.inj (Tryz.func7.symm.trans hfn)).symm
      refine ⟨by kernel_rfl, fun j t ht => ?_⟩
      rw [Tryz.params7] at ht
      rcases j with _ | j
      · obtain rfl : 34 = t := by simpa using ht
        exact (show Tryz.prog.wantsStandIn 34 = false by kernel_rfl)
      · simp at ht)
    (by kernel_rfl)
end Go.Proofs.YtkajklfohjcofaaGreatDoor

