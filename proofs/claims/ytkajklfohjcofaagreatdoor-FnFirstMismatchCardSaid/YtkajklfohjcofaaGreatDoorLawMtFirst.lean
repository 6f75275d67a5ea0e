/- Whatever the two signatures that are drawn: FirstMismatch answers as the model says; if it names an item, MatchSig's answer is neither MatchOk nor MatchInvalid, the items before that item are matched, and with it MatchSig answers the same; if not, MatchSig finds no item that is missing or different. No condition beside the row's own. -/
import Derived.Test.YtkajklfohjcofaaGreatDoorK17
set_option linter.unusedVariables false
set_option linter.unusedSimpArgs false
namespace Go.Proofs.YtkajklfohjcofaaGreatDoor
open Go.Abs Go.RowKit Go.ChangeShapes Go.WideShapes Go.ChangeAt Go.ChangeMaps

set_option maxRecDepth 100000 in
set_option maxHeartbeats 4000000 in
theorem mtFirst_true (bs : List UInt8) : ACalls Tryz.prog 12 [.aslice (byteRows bs)] [] (fun v _ => v = .bool true) := by
  refine acalls_enter (cf := cf 95 [0, 2, 3, 4, 5, 6, 7, 8, 9, 12, 44]) foll Tryz.func12 Tryz.ntmps12 (by simp [cf]) ?_
  simp only [Tryz.f12, EnterK_some, zW, zX, zD, builtinA, isLeaf, const1, ustrA, simprocAttr, ti3, ti4, ti5, ti25, ti34, ti49, ca18, ca22, ca23, ca39, cf, Tryz.results12]
  by_cases hb : 1048576 < bs.length
  · have e1 : decide ((1048576 : Int) < bs.length) = true := decide_eq_true (by omega)
    simp only [zW, zX, zD, builtinA, isLeaf, const1, ustrA, simprocAttr, ti3, ti4, ti5, ti25, ti34, ti49, ca18, ca22, ca23, ca39, cf, Tryz.results12, byteRows_length, e1]
  · have e1 : decide ((1048576 : Int) < bs.length) = false := decide_eq_false (by omega)
    simp only [zW, zX, zD, builtinA, isLeaf, const1, ustrA, simprocAttr, ti3, ti4, ti5, ti25, ti34, ti49, ca18, ca22, ca23, ca39, cf, Tryz.results12, byteRows_length, e1]
    refine callK_intro (by simp only [zW, zX, zD, builtinA, isLeaf, const1, ustrA, simprocAttr]; rfl) (spec_DrawFirstMismatch bs _) ?_ rfl
    rintro v A' ⟨s, t, rfl, hs, hsm, ht, htm, rfl⟩
    obtain ⟨hso, hsz⟩ := smx_all hs hsm
    obtain ⟨hto, htz⟩ := smx_all ht htm
    obtain ⟨c, p, hM⟩ := mtIs_ex s t
    have hfirst := mt_first hM
    have hspec := fun A => spec_FirstMismatchF hM (by omega) hso (by omega) hto A
    have himpl := fun A => impl_FirstMismatchF hM (by omega) hso (by omega) hto A
    have hmt := fun A => impl_MatchSigF hM (by omega) hso (by omega) hto A
    have hcut : ∀ k c' q, MtIs s (t.take k) c' q → ∀ A, ACalls Tryz.prog 18 [.slice (sEs s), .slice ((sEs t).take k)] A (fun r A' => r = .int .i64 c' ∧ A' = A) := fun k c' q h A => by
      rw [sEs_take]
      exact impl_MatchSigF h (by omega) hso (by simp; omega) (fun x hx => hto x (List.mem_of_mem_take hx)) A
    obtain ⟨i, q⟩ := p
    have hne : ∀ x : Int, decide (¬ x = x) = false := fun x => by simp
    have heq : ∀ x : Int, decide (x = x) = true := fun x => by simp
    clear hM
    simp only [zW, zX, zD, builtinA, isLeaf, const1, ustrA, simprocAttr, ti3, ti4, ti5, ti25, ti34, ti49, ca18, ca22, ca23, ca39, cf, Tryz.results12]
    refine callO_intro (himpl _) ?_
    rintro r A' ⟨rfl, rfl⟩
    simp only [zW, zX, zD, builtinA, isLeaf, const1, ustrA, simprocAttr, ti3, ti4, ti5, ti25, ti34, ti49, ca18, ca22, ca23, ca39, cf, Tryz.results12]
    refine callO_intro (hspec _) ?_
    rintro r A' ⟨rfl, rfl⟩
    simp only [zW, zX, zD, builtinA, isLeaf, const1, ustrA, simprocAttr, ti3, ti4, ti5, ti25, ti34, ti49, ca18, ca22, ca23, ca39, cf, Tryz.results12]
    refine callO_intro (hmt _) ?_
    rintro r A' ⟨rfl, rfl⟩
    rcases hfirst with ⟨hq, h1, h2, h3⟩ | ⟨hq, h0, h5, hlt, ⟨q1, hm1⟩, ⟨q2, hm2⟩⟩
    · simp only at hq
      subst hq
      simp only [zW, zX, zD, builtinA, isLeaf, const1, ustrA, simprocAttr, ti3, ti4, ti5, ti25, ti34, ti49, ca18, ca22, ca23, ca39, cf, Tryz.results12, hne, heq, decide_eq_false h1, decide_eq_false h2, decide_eq_false h3, Bool.not_false]
      done
    · simp only at hq hlt hm1 hm2
      subst hq
      have d1 : decide ((i : Int) < (t.length : Int)) = true := decide_eq_true (by omega)
      have hi1 : IntKind.i64.wrap ((i : Int) + 1) = ((i + 1 : Nat) : Int) := by rw [wrap64 (by omega) (by omega)]; rfl
      simp only [zW, zX, zD, builtinA, isLeaf, const1, ustrA, simprocAttr, ti3, ti4, ti5, ti25, ti34, ti49, ca18, ca22, ca23, ca39, cf, Tryz.results12, hne, heq, decide_eq_false h0, decide_eq_false h5, Bool.not_false, sEs_length, d1, hi1, Int.toNat_natCast]
      refine ⟨⟨rows_sEs t, by omega, by omega⟩, ?_⟩
      refine callO_intro (hcut _ _ _ hm1 _) ?_
      rintro r A' ⟨rfl, rfl⟩
      simp only [zW, zX, zD, builtinA, isLeaf, const1, ustrA, simprocAttr, ti3, ti4, ti5, ti25, ti34, ti49, ca18, ca22, ca23, ca39, cf, Tryz.results12, hne, heq]
      simp only [hi1, Int.toNat_natCast, sEs_length]
      refine ⟨⟨rows_sEs t, by omega, by omega⟩, ?_⟩
      refine callO_intro (hcut _ _ _ hm2 _) ?_
      rintro r A' ⟨rfl, rfl⟩
      simp only [zW, zX, zD, builtinA, isLeaf, const1, ustrA, simprocAttr, ti3, ti4, ti5, ti25, ti34, ti49, ca18, ca22, ca23, ca39, cf, Tryz.results12, hne, heq]
theorem mtFirst_rec : ∀ t ∈ Tryz.f12.params.toList, Tryz.prog.readableRec t = true ∧ t < Tryz.prog.types.size := by
  rw [Tryz.params12]
  intro t ht
  simp at ht
  subst ht
  exact ⟨by kernel_rfl, of_decide_eq_true (by kernel_rfl)⟩
set_option maxRecDepth 100000 in
theorem mtFirst_lifted (os : Os) (started : os.Started) (H : Type) (enc' : TypeId × Value → H) :
    ReturnsInHanded {} Tryz.checked os 12 .any (fun w args => (Rows.fnFirstMismatchSpec.pre enc' Tryz.prog Tryz.f12 Rows.fnFirstMismatchRow.domain false w args ∧ laidMetH Tryz.prog laidL w) ∧ sizedMet enc' Tryz.prog Tryz.f12 (OpenSpec.ofChange Rows.fnFirstMismatchSpec) false w args) (Rows.fnFirstMismatchSpec.post enc' Tryz.prog Tryz.f12 false true false false) := by
  refine returnsInHanded_of_change_and (C := Tryz.checked) (X := fun w _ => laidMetH Tryz.prog laidL w) (fun _ _ _ hh h => h.of_heap hh) ownk started (by kernel_rfl) Tryz.func12
    (ChangeSpec.witness_at (enc := enc') (C := Tryz.checked) (os := os) (X := fun w _ => laidMetH Tryz.prog laidL w) false (laidWorld os) #[.slice none 0 0] 8 rfl (by kernel_rfl) (by kernel_rfl) (by kernel_rfl) (by kernel_rfl) (by kernel_rfl) (laidWorld_met os _)) ?_
  intro W base args ds gs before hval0 hW hcnd _ hL _
  have hval : ∀ (j : Nat) t v, Tryz.f12.params[j]? = some t → args[j]? = some v → Value.okWide Tryz.prog W .any base t v := hval0
  have hW' := hW
  obtain ⟨p, q, hA0, hV, rfl, hfz, hnd⟩ := hW
  have hA : DataW.TrodAll enc' Tryz.prog W 0 (fun _ => true) true Tryz.f12.params.toList args.toList ds p := hA0
  rw [Tryz.params12] at hA hval
  have hlt := hA.lt
  obtain ⟨v0, d0, rfl, rfl, h0⟩ := trodAll_one hA
  obtain ⟨rfl, rfl⟩ := trodVars_none hV
  obtain ⟨x0, r0⟩ := rv_bytes Tryz.underlying34 Tryz.underlying5 (by kernel_rfl) (hval 0 34 v0 rfl rfl) h0 (fun x hx => hlt x (by simp [hx]))
  refine (law_calls (mtFirst_true x0) (.cons r0 .nil) (gv_of_laid hL)).mono fun e W' ⟨he, hb⟩ => ?_
  subst he
  exact ⟨_, rfl, law_post laid mtFirst_rec rfl Tryz.underlying4 (by kernel_rfl) ⟨rfl, rfl⟩ rfl hW' hb⟩
theorem mtFirst_facts : joinedFacts Tryz.pinned.checked.prog 12 Tryz.f12 Rows.fnFirstMismatchSpec Rows.fnFirstMismatchRow = true := by kernel_rfl
theorem mtFirst_row : Rows.FnFirstMismatchSaid :=
  OpenClaim.holds_of_wide 12 Tryz.f12 rfl rfl rfl rfl rfl rfl rfl ⟨rfl, rfl, rfl, rfl, rfl⟩ rfl rfl rfl rfl rfl (by kernel_rfl) Tryz.func12 mtFirst_facts
    (of_decide_eq_true (by kernel_rfl)) (by unfold Func.isWrapper; first | (rw [if_pos (by decide +kernel)]; kernel_rfl) | (rw [if_neg (by decide +kernel)]; exact ⟨rfl, rfl⟩))
    (fun os started H enc' _ => mtFirst_lifted os started H enc')
theorem mtFirst_holds : Rows.FnFirstMismatchCardSaid :=
  Claim7.holds_tied_plain_at .later [] [.handle] true (true, "3b9c0b29125ae3c1057be6c9ea7f3211bb3d44f2cff06c881e93488895868c60") true
    mtFirst_row (fun _ h => by cases h) (by kernel_rfl) (fun _ h => by cases h) fnFirstMismatch_row_tie rfl ⟨rfl, rfl⟩ (by kernel_rfl) rfl
    (fun f fn hf hfn => by
      obtain rfl : f = 12 := Option.some.inj ((show Tryz.prog.funcNamed Rows.fnFirstMismatchRow.func = some 12 by kernel_rfl).symm.trans hf) |>.symm
      obtain rfl : fn = Tryz.f12 := (Option.some.inj (Tryz.func12.symm.trans hfn)).symm
      refine ⟨by kernel_rfl, fun j t ht => ?_⟩
      rw [Tryz.params12] at ht
      rcases j with _ | j
      · obtain rfl : 34 = t := by simpa using ht
        exact (show Tryz.prog.wantsStandIn 34 = false by kernel_rfl)
      · simp at ht)
    (by kernel_rfl)
end Go.Proofs.YtkajklfohjcofaaGreatDoor

