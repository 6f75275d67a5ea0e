/- Whatever the two signatures that are drawn: MatchSig answers as the model says; if they match, the first one strengthened matches the second one and the first one. No condition beside the row's own. -/
import Derived.Test.YtkajklfohjcofaaGreatDoorK17
set_option linter.unusedVariables false
set_option linter.unusedSimpArgs false
namespace Go.Proofs.YtkajklfohjcofaaGreatDoor
open Go.Abs Go.RowKit Go.ChangeShapes Go.WideShapes Go.ChangeAt Go.ChangeMaps

set_option maxRecDepth 100000 in
set_option maxHeartbeats 4000000 in
theorem mtStr_true (bs : List UInt8) : ACalls Tryz.prog 13 [.aslice (byteRows bs)] [] (fun v _ => v = .bool true) := by
  refine acalls_enter (cf := cf 52 [0, 2, 3, 4, 5, 6, 7, 10, 36]) foll Tryz.func13 Tryz.ntmps13 (by simp [cf]) ?_
  simp only [Tryz.f13, EnterK_some, zW, zX, zD, builtinA, isLeaf, const1, ustrA, simprocAttr, ti3, ti5, ti34, ca16, ca18, ca28, ca40, cf, Tryz.results13]
  by_cases hb : 1048576 < bs.length
  · have e1 : decide ((1048576 : Int) < bs.length) = true := decide_eq_true (by omega)
    simp only [zW, zX, zD, builtinA, isLeaf, const1, ustrA, simprocAttr, ti3, ti5, ti34, ca16, ca18, ca28, ca40, cf, Tryz.results13, byteRows_length, e1]
  · have e1 : decide ((1048576 : Int) < bs.length) = false := decide_eq_false (by omega)
    simp only [zW, zX, zD, builtinA, isLeaf, const1, ustrA, simprocAttr, ti3, ti5, ti34, ca16, ca18, ca28, ca40, cf, Tryz.results13, byteRows_length, e1]
    refine callK_intro (by simp only [zW, zX, zD, builtinA, isLeaf, const1, ustrA, simprocAttr]; rfl) (spec_DrawMatchSig bs _) ?_ rfl
    rintro v A' ⟨s, t, rfl, hs, hsm, ht, htm, rfl⟩
    obtain ⟨hso, hsz⟩ := smx_all hs hsm
    obtain ⟨hto, htz⟩ := smx_all ht htm
    obtain ⟨c, p, hM⟩ := mtIs_ex s t
    obtain ⟨o, ho⟩ := rdS_ex s [77]
    obtain ⟨hxl, hxo, hxz⟩ := str_small hsm ho
    have hspec := fun A => spec_MatchSigF hM (by omega) hso (by omega) hto A
    have himpl := fun A => impl_MatchSigF hM (by omega) hso (by omega) hto A
    have hstr : ∀ A, ACalls Tryz.prog 40 [.slice (sEs s), .str [77]] A (SgNew A (nrX o) o.isSome) := sg_call fun A => (impl_StrengthenSig s (by omega) hso [77] A).mono fun r A' h => by
      obtain ⟨o', h1, h2⟩ := h
      rw [rdS_eq h1 ho] at h2
      exact h2
    have hne : ∀ x : Int, decide (¬ x = x) = false := fun x => by simp
    have heq : ∀ x : Int, decide (x = x) = true := fun x => by simp
    simp only [zW, zX, zD, builtinA, isLeaf, const1, ustrA, simprocAttr, ti3, ti5, ti34, ca16, ca18, ca28, ca40, cf, Tryz.results13]
    refine callO_intro (himpl _) ?_
    rintro r A' ⟨rfl, rfl⟩
    simp only [zW, zX, zD, builtinA, isLeaf, const1, ustrA, simprocAttr, ti3, ti5, ti34, ca16, ca18, ca28, ca40, cf, Tryz.results13]
    refine callO_intro (hstr _) ?_
    rintro r A1 ⟨B1, v1, S1, rfl, hB1, rfl, hv1, hK1, hN1, hR1⟩
    simp only [zW, zX, zD, builtinA, isLeaf, const1, ustrA, simprocAttr, ti3, ti5, ti34, ca16, ca18, ca28, ca40, cf, Tryz.results13]
    refine callO_intro (hspec _) ?_
    rintro r A2 ⟨rfl, rfl⟩
    by_cases hc : c = 0
    · subst hc
      cases o with
      | none =>
        simp only [zW, zX, zD, builtinA, isLeaf, const1, ustrA, simprocAttr, ti3, ti5, ti34, ca16, ca18, ca28, ca40, cf, Tryz.results13, hne, Option.isSome_none]
        refine callO_intro (hspec _) ?_
        rintro r A2 ⟨rfl, rfl⟩
        simp only [zW, zX, zD, builtinA, isLeaf, const1, ustrA, simprocAttr, ti3, ti5, ti34, ca16, ca18, ca28, ca40, cf, Tryz.results13, heq]
      | some zs =>
        obtain ⟨⟨q1, hm1⟩, ⟨q2, hm2⟩⟩ := mt_str hM ho
        have h1 : ∀ A, ACalls Tryz.prog 18 [.slice (sEs (nrX (some zs))), .slice (sEs t)] A (fun r A' => r = .int .i64 0 ∧ A' = A) := fun A => impl_MatchSigF hm1 (by simp only [nrX] at hxl; omega) hxo (by omega) hto A
        have h2 : ∀ A, ACalls Tryz.prog 18 [.slice (sEs (nrX (some zs))), .slice (sEs s)] A (fun r A' => r = .int .i64 0 ∧ A' = A) := fun A => impl_MatchSigF hm2 (by simp only [nrX] at hxl; omega) hxo (by omega) hso A
        simp only [zW, zX, zD, builtinA, isLeaf, const1, ustrA, simprocAttr, ti3, ti5, ti34, ca16, ca18, ca28, ca40, cf, Tryz.results13, hne, Option.isSome_some]
        refine callO_intro (borrow0 (.cons hK1.view (.cons (.leaf _ rfl) .nil)) rfl h1) ?_
        rintro r A' ⟨rfl, rfl⟩
        simp only [zW, zX, zD, builtinA, isLeaf, const1, ustrA, simprocAttr, ti3, ti5, ti34, ca16, ca18, ca28, ca40, cf, Tryz.results13]
        refine callO_intro (borrow0 (.cons hK1.view (.cons (.leaf _ rfl) .nil)) rfl h2) ?_
        rintro r A' ⟨rfl, rfl⟩
        simp only [zW, zX, zD, builtinA, isLeaf, const1, ustrA, simprocAttr, ti3, ti5, ti34, ca16, ca18, ca28, ca40, cf, Tryz.results13]
    · simp only [zW, zX, zD, builtinA, isLeaf, const1, ustrA, simprocAttr, ti3, ti5, ti34, ca16, ca18, ca28, ca40, cf, Tryz.results13, hne, decide_eq_false hc, Bool.not_false]
      refine callO_intro (hspec _) ?_
      rintro r A2 ⟨rfl, rfl⟩
      simp only [zW, zX, zD, builtinA, isLeaf, const1, ustrA, simprocAttr, ti3, ti5, ti34, ca16, ca18, ca28, ca40, cf, Tryz.results13, heq]
theorem mtStr_rec : ∀ t ∈ Tryz.f13.params.toList, Tryz.prog.readableRec t = true ∧ t < Tryz.prog.types.size := by
  rw [Tryz.params13]
  intro t ht
  simp at ht
  subst ht
  exact ⟨by kernel_rfl, of_decide_eq_true (by kernel_rfl)⟩
set_option maxRecDepth 100000 in
theorem mtStr_lifted (os : Os) (started : os.Started) (H : Type) (enc' : TypeId × Value → H) :
    ReturnsInHanded {} Tryz.checked os 13 .any (fun w args => (Rows.fnMatchStrengthenSpec.pre enc' Tryz.prog Tryz.f13 Rows.fnMatchStrengthenRow.domain false w args ∧ laidMetH Tryz.prog laidL w) ∧ sizedMet enc' Tryz.prog Tryz.f13 (OpenSpec.ofChange Rows.fnMatchStrengthenSpec) false w args) (Rows.fnMatchStrengthenSpec.post enc' Tryz.prog Tryz.f13 false true false false) := by
  refine returnsInHanded_of_change_and (C := Tryz.checked) (X := fun w _ => laidMetH Tryz.prog laidL w) (fun _ _ _ hh h => h.of_heap hh) ownk started (by kernel_rfl) Tryz.func13
    (ChangeSpec.witness_at (enc := enc') (C := Tryz.checked) (os := os) (X := fun w _ => laidMetH Tryz.prog laidL w) false (laidWorld os) #[.slice none 0 0] 8 rfl (by kernel_rfl) (by kernel_rfl) (by kernel_rfl) (by kernel_rfl) (by kernel_rfl) (laidWorld_met os _)) ?_
  intro W base args ds gs before hval0 hW hcnd _ hL _
  have hval : ∀ (j : Nat) t v, Tryz.f13.params[j]? = some t → args[j]? = some v → Value.okWide Tryz.prog W .any base t v := hval0
  have hW' := hW
  obtain ⟨p, q, hA0, hV, rfl, hfz, hnd⟩ := hW
  have hA : DataW.TrodAll enc' Tryz.prog W 0 (fun _ => true) true Tryz.f13.params.toList args.toList ds p := hA0
  rw [Tryz.params13] at hA hval
  have hlt := hA.lt
  obtain ⟨v0, d0, rfl, rfl, h0⟩ := trodAll_one hA
  obtain ⟨rfl, rfl⟩ := trodVars_none hV
  obtain ⟨x0, r0⟩ := rv_bytes Tryz.underlying34 Tryz.underlying5 (by kernel_rfl) (hval 0 34 v0 rfl rfl) h0 (fun x hx => hlt x (by simp [hx]))
  refine (law_calls (mtStr_true x0) (.cons r0 .nil) (gv_of_laid hL)).mono fun e W' ⟨he, hb⟩ => ?_
  subst he
  exact ⟨_, rfl, law_post laid mtStr_rec rfl Tryz.underlying4 (by kernel_rfl) ⟨rfl, rfl⟩ rfl hW' hb⟩
theorem mtStr_facts : joinedFacts Tryz.pinned.checked.prog 13 Tryz.f13 Rows.fnMatchStrengthenSpec Rows.fnMatchStrengthenRow = true := by kernel_rfl
theorem mtStr_row : Rows.FnMatchStrengthenSaid :=
  OpenClaim.holds_of_wide 13 Tryz.f13 rfl rfl rfl rfl rfl rfl rfl ⟨rfl, rfl, rfl, rfl, rfl⟩ rfl rfl rfl rfl rfl (by kernel_rfl) Tryz.func13 mtStr_facts
    (of_decide_eq_true (by kernel_rfl)) (by unfold Func.isWrapper; first | (rw [if_pos (by decide +kernel)]; kernel_rfl) | (rw [if_neg (by decide +kernel)]; exact ⟨rfl, rfl⟩))
    (fun os started H enc' _ => mtStr_lifted os started H enc')
theorem mtStr_holds : Rows.FnMatchStrengthenCardSaid :=
  Claim7.holds_tied_plain_at .later [] [.handle] true (true, "3b9c0b29125ae3c1057be6c9ea7f3211bb3d44f2cff06c881e93488895868c60") true
    mtStr_row (fun _ h => by cases h) (by kernel_rfl) (fun _ h => by cases h) fnMatchStrengthen_row_tie rfl ⟨rfl, rfl⟩ (by kernel_rfl) rfl
    (fun f fn hf hfn => by
      obtain rfl : f = 13 := Option.some.inj ((show Tryz.prog.funcNamed Rows.fnMatchStrengthenRow.func = some 13 by kernel_rfl).symm.trans hf) |>.symm
      obtain rfl : fn = Tryz.f13 := (Option.some.inj (Tryz.func13.symm.trans hfn)).symm
      refine ⟨by kernel_rfl, fun j t ht => ?_⟩
      rw [Tryz.params13] at ht
      rcases j with _ | j
      · obtain rfl : 34 = t := by simpa using ht
        exact (show Tryz.prog.wantsStandIn 34 = false by kernel_rfl)
      · simp at ht)
    (by kernel_rfl)
end Go.Proofs.YtkajklfohjcofaaGreatDoor

