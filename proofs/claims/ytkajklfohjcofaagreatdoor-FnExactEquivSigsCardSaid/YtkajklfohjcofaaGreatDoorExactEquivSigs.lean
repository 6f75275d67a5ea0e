/- For every two lists of items, the program's EquivSigs answers as the model's EquivSigs does; nothing that the call was given is changed. No condition beside the row's own. -/
import Derived.Test.YtkajklfohjcofaaGreatDoorMatchI
import Derived.Test.YtkajklfohjcofaaGreatDoorSpMatch
import Derived.Test.YtkajklfohjcofaaGreatDoorLaid
import Derived.Test.YtkajklfohjcofaaGreatDoorSigLaw
set_option linter.unusedVariables false
set_option linter.unusedSimpArgs false
namespace Go.Proofs.YtkajklfohjcofaaGreatDoor
open Go.Abs Go.RowKit Go.ChangeShapes Go.WideShapes Go.ChangeAt Go.ChangeMaps

set_option maxRecDepth 100000 in
theorem exactEquivSigs_true (a : List SigI) (ha : SigsOk a) (b : List SigI) (hb : SigsOk b) : ACalls Tryz.prog 4 [.aslice (sEAs a), .aslice (sEAs b)] [] (fun v _ => v = .bool true) := by
  refine acalls_enter (cf := cf 45 [0, 1, 4, 5, 6, 7, 8, 9, 14, 19, 34, 39, 44]) foll Tryz.func4 Tryz.ntmps4 (by simp [cf]) ?_
  simp only [Tryz.f4, EnterK_some, zW, zX, zD, builtinA, isLeaf, const1, ustrA, simprocAttr, ti3, ti4, ca15, ca17, ca19, ca20, ca21, cf, Tryz.results4]
  refine callK_intro (by simp only [zW, zX, zD, builtinA, isLeaf, const1, ustrA, simprocAttr, Option.map_some]; rfl) (laws_szSigItemS a ha.1 ha.2 _ _ (by omega) (by omega)) ?_ rfl; rintro v A' ⟨rfl, rfl⟩
  by_cases h1 : ((a.length + szIs a : Nat) : Int) ≤ 1048576
  · have v1 : left 1048576 (a.length + szIs a) = 1048576 - (a.length + szIs a : Nat) := by rw [left, if_pos h1]
    have n1 : decide ((1048576 : Int) - (a.length + szIs a : Nat) < 0) = false := decide_eq_false (by omega)
    rw [v1]
    simp only [zW, zX, zD, builtinA, isLeaf, const1, ustrA, simprocAttr, ti3, ti4, ca15, ca17, ca19, ca20, ca21, cf, Tryz.results4, n1]
    refine callK_intro (by simp only [zW, zX, zD, builtinA, isLeaf, const1, ustrA, simprocAttr, Option.map_some]; rfl) (laws_szSigItemS b hb.1 hb.2 _ _ (by omega) (by omega)) ?_ rfl; rintro v A' ⟨rfl, rfl⟩
    by_cases h2 : ((b.length + szIs b : Nat) : Int) ≤ 1048576 - (a.length + szIs a : Nat)
    · have v2 : left (1048576 - (a.length + szIs a : Nat)) (b.length + szIs b) = 1048576 - (a.length + szIs a : Nat) - (b.length + szIs b : Nat) := by rw [left, if_pos h2]
      have n2 : decide ((1048576 : Int) - (a.length + szIs a : Nat) - (b.length + szIs b : Nat) < 0) = false := decide_eq_false (by omega)
      have haz : ∀ x ∈ a, szI x ≤ 1048576 := fun x hx => by have := szIs_mem hx; omega
      have hao : ∀ x ∈ a, x.Ok ∧ sz x.typ ≤ 1048576 := fun x hx => ⟨ha.2 x hx, by have := haz x hx; rw [szI] at this; omega⟩
      have hbz : ∀ x ∈ b, szI x ≤ 1048576 := fun x hx => by have := szIs_mem hx; omega
      have hbo : ∀ x ∈ b, x.Ok ∧ sz x.typ ≤ 1048576 := fun x hx => ⟨hb.2 x hx, by have := hbz x hx; rw [szI] at this; omega⟩
      obtain ⟨c, p, hM⟩ := mtIs_ex a b
      obtain ⟨c', p', hM'⟩ := mtIs_ex b a
      have hspec := fun A => spec_EquivSigsF hM hM' (by omega) hao (by omega) hbo A
      have himpl := fun A => impl_EquivSigsF hM hM' (by omega) hao (by omega) hbo A
      clear hM hM'
      generalize (decide (c = 0) && decide (c' = 0)) = q at *
      rw [v2]
      simp only [zW, zX, zD, builtinA, isLeaf, const1, ustrA, simprocAttr, ti3, ti4, ca15, ca17, ca19, ca20, ca21, cf, Tryz.results4, n2]
      refine callK_intro (by simp only [zW, zX, zD, builtinA, isLeaf, const1, ustrA, simprocAttr]; rfl) (laws_toSigItemS a (by omega) (by omega) _) ?_ rfl; rintro v A' ⟨rfl, rfl⟩
      simp only [zW, zX, zD, builtinA, isLeaf, const1, ustrA, simprocAttr, ti3, ti4, ca15, ca17, ca19, ca20, ca21, cf, Tryz.results4]
      refine callK_intro (by simp only [zW, zX, zD, builtinA, isLeaf, const1, ustrA, simprocAttr]; rfl) (laws_toSigItemS b (by omega) (by omega) _) ?_ rfl; rintro v A' ⟨rfl, rfl⟩
      simp only [zW, zX, zD, builtinA, isLeaf, const1, ustrA, simprocAttr, ti3, ti4, ca15, ca17, ca19, ca20, ca21, cf, Tryz.results4]
      refine callK_intro (by simp only [zW, zX, zD, builtinA, isLeaf, const1, ustrA, simprocAttr]; rfl) (hspec _) ?_ rfl; rintro v A' ⟨rfl, rfl⟩
      simp only [zW, zX, zD, builtinA, isLeaf, const1, ustrA, simprocAttr, ti3, ti4, ca15, ca17, ca19, ca20, ca21, cf, Tryz.results4]
      refine callK_intro (by simp only [zW, zX, zD, builtinA, isLeaf, const1, ustrA, simprocAttr]; rfl) (laws_toSigItemS a (by omega) (by omega) _) ?_ rfl; rintro v A' ⟨rfl, rfl⟩
      simp only [zW, zX, zD, builtinA, isLeaf, const1, ustrA, simprocAttr, ti3, ti4, ca15, ca17, ca19, ca20, ca21, cf, Tryz.results4]
      refine callK_intro (by simp only [zW, zX, zD, builtinA, isLeaf, const1, ustrA, simprocAttr]; rfl) (laws_toSigItemS b (by omega) (by omega) _) ?_ rfl; rintro v A' ⟨rfl, rfl⟩
      simp only [zW, zX, zD, builtinA, isLeaf, const1, ustrA, simprocAttr, ti3, ti4, ca15, ca17, ca19, ca20, ca21, cf, Tryz.results4]
      refine callK_intro (by simp only [zW, zX, zD, builtinA, isLeaf, const1, ustrA, simprocAttr]; rfl) (himpl _) ?_ rfl; rintro v A' ⟨rfl, rfl⟩
      simp only [zW, zX, zD, builtinA, isLeaf, const1, ustrA, simprocAttr, ti3, ti4, ca15, ca17, ca19, ca20, ca21, cf, Tryz.results4]
      refine callK_intro (by simp only [zW, zX, zD, builtinA, isLeaf, const1, ustrA, simprocAttr]; rfl) (laws_toSigItemS a (by omega) (by omega) _) ?_ rfl; rintro v A' ⟨rfl, rfl⟩
      simp only [zW, zX, zD, builtinA, isLeaf, const1, ustrA, simprocAttr, ti3, ti4, ca15, ca17, ca19, ca20, ca21, cf, Tryz.results4]
      refine callK_intro (by simp only [zW, zX, zD, builtinA, isLeaf, const1, ustrA, simprocAttr]; rfl) (laws_eqSigItemS a ha.1 ha.2 _) ?_ rfl; rintro v A' ⟨rfl, rfl⟩
      simp only [zW, zX, zD, builtinA, isLeaf, const1, ustrA, simprocAttr, ti3, ti4, ca15, ca17, ca19, ca20, ca21, cf, Tryz.results4]
      refine callK_intro (by simp only [zW, zX, zD, builtinA, isLeaf, const1, ustrA, simprocAttr]; rfl) (laws_toSigItemS b (by omega) (by omega) _) ?_ rfl; rintro v A' ⟨rfl, rfl⟩
      simp only [zW, zX, zD, builtinA, isLeaf, const1, ustrA, simprocAttr, ti3, ti4, ca15, ca17, ca19, ca20, ca21, cf, Tryz.results4]
      refine callK_intro (by simp only [zW, zX, zD, builtinA, isLeaf, const1, ustrA, simprocAttr]; rfl) (laws_eqSigItemS b hb.1 hb.2 _) ?_ rfl; rintro v A' ⟨rfl, rfl⟩
      simp only [zW, zX, zD, builtinA, isLeaf, const1, ustrA, simprocAttr, ti3, ti4, ca15, ca17, ca19, ca20, ca21, cf, Tryz.results4]
    · have v2 : left (1048576 - (a.length + szIs a : Nat)) (b.length + szIs b) = -1 := by rw [left, if_neg h2]
      rw [v2]
      simp only [zW, zX, zD, builtinA, isLeaf, const1, ustrA, simprocAttr, ti3, ti4, ca15, ca17, ca19, ca20, ca21, cf, Tryz.results4]
  · have v1 : left 1048576 (a.length + szIs a) = -1 := by rw [left, if_neg h1]
    rw [v1]
    simp only [zW, zX, zD, builtinA, isLeaf, const1, ustrA, simprocAttr, ti3, ti4, ca15, ca17, ca19, ca20, ca21, cf, Tryz.results4]

theorem exactEquivSigs_rec : ∀ t ∈ Tryz.f4.params.toList, Tryz.prog.readableRec t = true ∧ t < Tryz.prog.types.size := by
  rw [Tryz.params4]
  intro t ht
  simp at ht
  subst ht
  exact ⟨by kernel_rfl, of_decide_eq_true (by kernel_rfl)⟩
set_option maxRecDepth 100000 in
theorem exactEquivSigs_lifted (os : Os) (started : os.Started) (H : Type) (enc' : TypeId × Value → H) :
    ReturnsInHanded {} Tryz.checked os 4 .any (fun w args => (Rows.fnExactEquivSigsSpec.pre enc' Tryz.prog Tryz.f4 Rows.fnExactEquivSigsRow.domain false w args ∧ laidMetH Tryz.prog laidL w) ∧ sizedMet enc' Tryz.prog Tryz.f4 (OpenSpec.ofChange Rows.fnExactEquivSigsSpec) false w args) (Rows.fnExactEquivSigsSpec.post enc' Tryz.prog Tryz.f4 false true false false) := by
  refine returnsInHanded_of_change_and (C := Tryz.checked) (X := fun w _ => laidMetH Tryz.prog laidL w) (fun _ _ _ hh h => h.of_heap hh) ownk started (by kernel_rfl) Tryz.func4
    (ChangeSpec.witness_at (enc := enc') (C := Tryz.checked) (os := os) (X := fun w _ => laidMetH Tryz.prog laidL w) false (laidWorld os) #[.slice none 0 0, .slice none 0 0] 8 rfl (by kernel_rfl) (by kernel_rfl) (by kernel_rfl) (by kernel_rfl) (by kernel_rfl) (laidWorld_met os _)) ?_
  intro W base args ds gs before hval0 hW hcnd _ hL _
  have hval : ∀ (j : Nat) t v, Tryz.f4.params[j]? = some t → args[j]? = some v → Value.okWide Tryz.prog W .any base t v := hval0
  have hW' := hW
  obtain ⟨p, q, hA0, hV, rfl, hfz, hnd⟩ := hW
  have hA : DataW.TrodAll enc' Tryz.prog W 0 (fun _ => true) true Tryz.f4.params.toList args.toList ds p := hA0
  rw [Tryz.params4] at hA hval
  have hlt := hA.lt
  obtain ⟨v0, v1, d0, d1, p0, p1, rfl, rfl, rfl, h0, h1⟩ := trodAll_two hA
  obtain ⟨rfl, rfl⟩ := trodVars_none hV
  obtain ⟨x0, hx0, r0⟩ := rv_sigs (hval 0 22 v0 rfl rfl) h0
  obtain ⟨x1, hx1, r1⟩ := rv_sigs (hval 1 22 v1 rfl rfl) h1
  refine (law_calls (exactEquivSigs_true x0 hx0 x1 hx1) (.cons r0 (.cons r1 .nil)) (gv_of_laid hL)).mono fun e W' ⟨he, hb⟩ => ?_
  subst he
  exact ⟨_, rfl, law_post laid exactEquivSigs_rec rfl Tryz.underlying4 (by kernel_rfl) ⟨rfl, rfl⟩ rfl hW' hb⟩
theorem exactEquivSigs_facts : joinedFacts Tryz.pinned.checked.prog 4 Tryz.f4 Rows.fnExactEquivSigsSpec Rows.fnExactEquivSigsRow = true := by kernel_rfl
theorem exactEquivSigs_row : Rows.FnExactEquivSigsSaid :=
  OpenClaim.holds_of_wide 4 Tryz.f4 rfl rfl rfl rfl rfl rfl rfl ⟨rfl, rfl, rfl, rfl, rfl⟩ rfl rfl rfl rfl rfl (by kernel_rfl) Tryz.func4 exactEquivSigs_facts
    (of_decide_eq_true (by kernel_rfl)) (by unfold Func.isWrapper; first | (rw [if_pos (by decide +kernel)]; kernel_rfl) | (rw [if_neg (by decide +kernel)]; exact ⟨rfl, rfl⟩))
    (fun os started H enc' _ => exactEquivSigs_lifted os started H enc')
theorem exactEquivSigs_holds : Rows.FnExactEquivSigsCardSaid :=
  Claim7.holds_tied_plain_at .later [] [.handle] true (true, "3b9c0b29125ae3c1057be6c9ea7f3211bb3d44f2cff06c881e93488895868c60") true
    exactEquivSigs_row (fun _ h => by cases h) (by kernel_rfl) (fun _ h => by cases h) fnExactEquivSigs_row_tie rfl ⟨rfl, rfl⟩ (by kernel_rfl) rfl
    (fun f fn hf hfn => by
      obtain rfl : f = 4 := Option.some.inj ((show Tryz.prog.funcNamed Rows.fnExactEquivSigsRow.func = some 4 by kernel_rfl).symm.trans hf) |>.symm
      obtain rfl : fn = Tryz.f4 := (Option.some.inj (Tryz.func4.symm.trans hfn)).symm
      refine ⟨by kernel_rfl, fun j t ht => ?_⟩
      rw [Tryz.params4] at ht
      rcases j with _ | _ | j
      · obtain rfl : 22 = t := by simpa using ht
        exact (show Tryz.prog.wantsStandIn 22 = false by kernel_rfl)
      · obtain rfl : 22 = t := by simpa using ht
        exact (show Tryz.prog.wantsStandIn 22 = false by kernel_rfl)
      · simp at ht)
    (by kernel_rfl)
end Go.Proofs.YtkajklfohjcofaaGreatDoor
