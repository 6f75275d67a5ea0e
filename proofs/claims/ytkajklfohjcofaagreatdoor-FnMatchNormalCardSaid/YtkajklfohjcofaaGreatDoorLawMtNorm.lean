/- Whatever the two signatures that are drawn: MatchSig answers as the model says; if both have normal forms, these are matched with the same answer; if not, the answer is that one is not valid or too large. No condition beside the row's own. -/
import Derived.Test.YtkajklfohjcofaaGreatDoorK17
set_option linter.unusedVariables false
set_option linter.unusedSimpArgs false
namespace Go.Proofs.YtkajklfohjcofaaGreatDoor
open Go.Abs Go.RowKit Go.ChangeShapes Go.WideShapes Go.ChangeAt Go.ChangeMaps

set_option maxRecDepth 100000 in
set_option maxHeartbeats 4000000 in
theorem mtNorm_true (bs : List UInt8) : ACalls Tryz.prog 9 [.aslice (byteRows bs)] [] (fun v _ => v = .bool true) := by
  refine acalls_enter (cf := cf 62 [0, 2, 3, 4, 5, 6, 7, 8, 9, 12, 43]) foll Tryz.func9 Tryz.ntmps9 (by simp [cf]) ?_
  simp only [Tryz.f9, EnterK_some, zW, zX, zD, builtinA, isLeaf, const1, ustrA, simprocAttr, ti3, ti5, ti34, ca16, ca18, ca28, ca29, cf, Tryz.results9]
  by_cases hb : 1048576 < bs.length
  · have e1 : decide ((1048576 : Int) < bs.length) = true := decide_eq_true (by omega)
    simp only [zW, zX, zD, builtinA, isLeaf, const1, ustrA, simprocAttr, ti3, ti5, ti34, ca16, ca18, ca28, ca29, cf, Tryz.results9, byteRows_length, e1]
  · have e1 : decide ((1048576 : Int) < bs.length) = false := decide_eq_false (by omega)
    simp only [zW, zX, zD, builtinA, isLeaf, const1, ustrA, simprocAttr, ti3, ti5, ti34, ca16, ca18, ca28, ca29, cf, Tryz.results9, byteRows_length, e1]
    refine callK_intro (by simp only [zW, zX, zD, builtinA, isLeaf, const1, ustrA, simprocAttr]; rfl) (spec_DrawMatchSig bs _) ?_ rfl
    rintro v A' ⟨s, t, rfl, hs, hsm, ht, htm, rfl⟩
    obtain ⟨hso, hsz⟩ := smx_all hs hsm
    obtain ⟨hto, htz⟩ := smx_all ht htm
    obtain ⟨o, ho⟩ := rdN_ex s
    obtain ⟨u, hu⟩ := rdN_ex t
    obtain ⟨c, p, hM⟩ := mtIs_ex s t
    obtain ⟨hxl, hxm⟩ := nr_small (fun x hx => (hsm x hx).1) ho
    obtain ⟨hxo, hxz⟩ := smx_all (s := nrX o) (by omega) hxm
    obtain ⟨hyl, hym⟩ := nr_small (fun x hx => (htm x hx).1) hu
    obtain ⟨hyo, hyz⟩ := smx_all (s := nrX u) (by omega) hym
    have hspec := fun A => spec_MatchSigF hM (by omega) hso (by omega) hto A
    have himpl := fun A => impl_MatchSigF hM (by omega) hso (by omega) hto A
    have hnorm : ∀ A, ACalls Tryz.prog 29 [.slice (sEs s)] A (SgNew A (nrX o) o.isSome) := sg_call fun A => (impl_NormalSig s (by omega) hso A).mono fun r A' h => by
      obtain ⟨o', h1, h2⟩ := h
      rw [rdN_oo h1 ho] at h2
      exact h2
    have hnorm2 : ∀ A, ACalls Tryz.prog 29 [.slice (sEs t)] A (SgNew A (nrX u) u.isSome) := sg_call fun A => (impl_NormalSig t (by omega) hto A).mono fun r A' h => by
      obtain ⟨o', h1, h2⟩ := h
      rw [rdN_oo h1 hu] at h2
      exact h2
    have hne : decide (¬ c = c) = false := by simp
    have hcc : decide (c = c) = true := by simp
    have hbad : (o = none ∨ u = none) → (decide (c = 5) || decide (c = 4)) = true := fun h => by
      have : c = 4 ∨ c = 5 := by
        rcases h with rfl | rfl
        · exact mt_none hM (.inl ho)
        · exact mt_none hM (.inr hu)
      rcases this with rfl | rfl <;> rfl
    simp only [zW, zX, zD, builtinA, isLeaf, const1, ustrA, simprocAttr, ti3, ti5, ti34, ca16, ca18, ca28, ca29, cf, Tryz.results9]
    refine callO_intro (himpl _) ?_
    rintro r A' ⟨rfl, rfl⟩
    simp only [zW, zX, zD, builtinA, isLeaf, const1, ustrA, simprocAttr, ti3, ti5, ti34, ca16, ca18, ca28, ca29, cf, Tryz.results9]
    refine callO_intro (hnorm _) ?_
    rintro r A1 ⟨B1, v1, S1, rfl, hB1, rfl, hv1, hK1, hN1, hR1⟩
    simp only [zW, zX, zD, builtinA, isLeaf, const1, ustrA, simprocAttr, ti3, ti5, ti34, ca16, ca18, ca28, ca29, cf, Tryz.results9]
    refine callO_intro (hnorm2 _) ?_
    rintro r A3 ⟨B3, v3, S3, rfl, hB3, rfl, hv3, hK3, hN3, hR3⟩
    have hK4 := hK1.frame (A' := A1 ++ B3) fun i hi => Abs.getD_append_left (hK1.low i hi)
    simp only [zW, zX, zD, builtinA, isLeaf, const1, ustrA, simprocAttr, ti3, ti5, ti34, ca16, ca18, ca28, ca29, cf, Tryz.results9]
    refine callO_intro (hspec _) ?_
    rintro r A2 ⟨rfl, rfl⟩
    have hb1 : o = none ∨ u = none → ∀ P : Prop, (c = 5 → P) → (c ≠ 5 → c = 4 → P) → P := fun h P h5 h4 => by
      have : c = 4 ∨ c = 5 := by
        rcases h with rfl | rfl
        · exact mt_none hM (.inl ho)
        · exact mt_none hM (.inr hu)
      rcases this with h | h
      · exact h4 (by omega) h
      · exact h5 h
    cases o with
    | none =>
      simp only [zW, zX, zD, builtinA, isLeaf, const1, ustrA, simprocAttr, ti3, ti5, ti34, ca16, ca18, ca28, ca29, cf, Tryz.results9, hne]
      refine callO_intro (hspec _) ?_
      rintro r A2 ⟨rfl, rfl⟩
      refine hb1 (.inl rfl) _ (fun h5 => ?_) (fun h5 h4 => ?_)
      · simp only [zW, zX, zD, builtinA, isLeaf, const1, ustrA, simprocAttr, ti3, ti5, ti34, ca16, ca18, ca28, ca29, cf, Tryz.results9, hcc, decide_eq_true h5]
      · simp only [zW, zX, zD, builtinA, isLeaf, const1, ustrA, simprocAttr, ti3, ti5, ti34, ca16, ca18, ca28, ca29, cf, Tryz.results9, hcc, decide_eq_false h5, decide_eq_true h4]
    | some zs =>
      cases u with
      | none =>
        simp only [zW, zX, zD, builtinA, isLeaf, const1, ustrA, simprocAttr, ti3, ti5, ti34, ca16, ca18, ca28, ca29, cf, Tryz.results9, hne]
        refine callO_intro (hspec _) ?_
        rintro r A2 ⟨rfl, rfl⟩
        refine hb1 (.inr rfl) _ (fun h5 => ?_) (fun h5 h4 => ?_)
        · simp only [zW, zX, zD, builtinA, isLeaf, const1, ustrA, simprocAttr, ti3, ti5, ti34, ca16, ca18, ca28, ca29, cf, Tryz.results9, hcc, decide_eq_true h5]
        · simp only [zW, zX, zD, builtinA, isLeaf, const1, ustrA, simprocAttr, ti3, ti5, ti34, ca16, ca18, ca28, ca29, cf, Tryz.results9, hcc, decide_eq_false h5, decide_eq_true h4]
      | some ws =>
        have hM2 : MtIs (zs.map siOf) (ws.map siOf) c p := by
          rcases hM with ⟨hs', ws', h1, h2, h3, h4⟩ | ⟨h1, _⟩
          · cases rdN_oo ho h1
            cases rdN_oo hu h2
            exact .inl ⟨zs, ws, rdN_again ho, rdN_again hu, h3, h4⟩
          · rcases h1 with h1 | h1
            · exact absurd h1 (rdN_not ho)
            · exact absurd h1 (rdN_not hu)
        have himpl2 : ∀ A, ACalls Tryz.prog 18 [.slice (sEs (nrX (some zs))), .slice (sEs (nrX (some ws)))] A (fun r A' => r = .int .i64 c ∧ A' = A) := fun A => impl_MatchSigF hM2 (by simp only [nrX] at hxl; omega) hxo (by simp only [nrX] at hyl; omega) hyo A
        simp only [zW, zX, zD, builtinA, isLeaf, const1, ustrA, simprocAttr, ti3, ti5, ti34, ca16, ca18, ca28, ca29, cf, Tryz.results9, hne]
        refine callO_intro (borrow0 (.cons hK4.view (.cons hK3.view .nil)) rfl himpl2) ?_
        rintro r A' ⟨rfl, rfl⟩
        simp only [zW, zX, zD, builtinA, isLeaf, const1, ustrA, simprocAttr, ti3, ti5, ti34, ca16, ca18, ca28, ca29, cf, Tryz.results9]
theorem mtNorm_rec : ∀ t ∈ Tryz.f9.params.toList, Tryz.prog.readableRec t = true ∧ t < Tryz.prog.types.size := by
  rw [Tryz.params9]
  intro t ht
  simp at ht
  subst ht
  exact ⟨by kernel_rfl, of_decide_eq_true (by kernel_rfl)⟩
set_option maxRecDepth 100000 in
theorem mtNorm_lifted (os : Os) (started : os.Started) (H : Type) (enc' : TypeId × Value → H) :
    ReturnsInHanded {} Tryz.checked os 9 .any (fun w args => (Rows.fnMatchNormalSpec.pre enc' Tryz.prog Tryz.f9 Rows.fnMatchNormalRow.domain false w args ∧ laidMetH Tryz.prog laidL w) ∧ sizedMet enc' Tryz.prog Tryz.f9 (OpenSpec.ofChange Rows.fnMatchNormalSpec) false w args) (Rows.fnMatchNormalSpec.post enc' Tryz.prog Tryz.f9 false true false false) := by
  refine returnsInHanded_of_change_and (C := Tryz.checked) (X := fun w _ => laidMetH Tryz.prog laidL w) (fun _ _ _ hh h => h.of_heap hh) ownk started (by kernel_rfl) Tryz.func9
    (ChangeSpec.witness_at (enc := enc') (C := Tryz.checked) (os := os) (X := fun w _ => laidMetH Tryz.prog laidL w) false (laidWorld os) #[.slice none 0 0] 8 rfl (by kernel_rfl) (by kernel_rfl) (by kernel_rfl) (by kernel_rfl) (by kernel_rfl) (laidWorld_met os _)) ?_
  intro W base args ds gs before hval0 hW hcnd _ hL _
  have hval : ∀ (j : Nat) t v, Tryz.f9.params[j]? = some t → args[j]? = some v → Value.okWide Tryz.prog W .any base t v := hval0
  have hW' := hW
  obtain ⟨p, q, hA0, hV, rfl, hfz, hnd⟩ := hW
  have hA : DataW.TrodAll enc' Tryz.prog W 0 (fun _ => true) true Tryz.f9.params.toList args.toList ds p := hA0
  rw [Tryz.params9] at hA hval
  have hlt := hA.lt
  obtain ⟨v0, d0, rfl, rfl, h0⟩ := trodAll_one hA
  obtain ⟨rfl, rfl⟩ := trodVars_none hV
  obtain ⟨x0, r0⟩ := rv_bytes Tryz.underlying34 Tryz.underlying5 (by kernel_rfl) (hval 0 34 v0 rfl rfl) h0 (fun x hx => hlt x (by simp [hx]))
  refine (law_calls (mtNorm_true x0) (.cons r0 .nil) (gv_of_laid hL)).mono fun e W' ⟨he, hb⟩ => ?_
  subst he
  exact ⟨_, rfl, law_post laid mtNorm_rec rfl Tryz.underlying4 (by kernel_rfl) ⟨rfl, rfl⟩ rfl hW' hb⟩
theorem mtNorm_facts : joinedFacts Tryz.pinned.checked.prog 9 Tryz.f9 Rows.fnMatchNormalSpec Rows.fnMatchNormalRow = true := by kernel_rfl
theorem mtNorm_row : Rows.FnMatchNormalSaid :=
  OpenClaim.holds_of_wide 9 Tryz.f9 rfl rfl rfl rfl rfl rfl rfl ⟨rfl, rfl, rfl, rfl, rfl⟩ rfl rfl rfl rfl rfl (by kernel_rfl) Tryz.func9 mtNorm_facts
    (of_decide_eq_true (by kernel_rfl)) (by unfold Func.isWrapper; first | (rw [if_pos (by decide +kernel)]; kernel_rfl) | (rw [if_neg (by decide +kernel)]; exact ⟨rfl, rfl⟩))
    (fun os started H enc' _ => mtNorm_lifted os started H enc')
theorem mtNorm_holds : Rows.FnMatchNormalCardSaid :=
  Claim7.holds_tied_plain_at .later [] [.handle] true (true, "3b9c0b29125ae3c1057be6c9ea7f3211bb3d44f2cff06c881e93488895868c60") true
    mtNorm_row (fun _ h => by cases h) (by kernel_rfl) (fun _ h => by cases h) fnMatchNormal_row_tie rfl ⟨rfl, rfl⟩ (by kernel_rfl) rfl
    (fun f fn hf hfn => by
      obtain rfl : f = 9 := Option.some.inj ((show Tryz.prog.funcNamed Rows.fnMatchNormalRow.func = some 9 by kernel_rfl).symm.trans hf) |>.symm
      obtain rfl : fn = Tryz.f9 := (Option.some.inj (Tryz.func9.symm.trans hfn)).symm
      refine ⟨by kernel_rfl, fun j t ht => ?_⟩
      rw [Tryz.params9] at ht
      rcases j with _ | j
      · obtain rfl : 34 = t := by simpa using ht
        exact (show Tryz.prog.wantsStandIn 34 = false by kernel_rfl)
      · simp at ht)
    (by kernel_rfl)
end Go.Proofs.YtkajklfohjcofaaGreatDoor

