/- For every unit, however deep, the program's UnitValid answers as the model's UnitValid does; nothing that the call was given is changed. No condition beside the row's own. -/
import Derived.Test.YtebgneaehhaclaaGreatUnRead
import Derived.Test.YtebgneaehhaclaaGreatUns
import Derived.Test.YtebgneaehhaclaaGreatAbsW3
set_option linter.unusedVariables false
set_option linter.unusedSimpArgs false
namespace Go.Proofs.YtebgneaehhaclaaGreat
open Go.Abs Go.RowKit Go.ChangeShapes Go.WideShapes Go.ChangeAt Go.ChangeMaps

theorem unOf_true {u : UnI} {x : VU} (h : UnOf u x) : unitB u = true := by
  rw [unitB_read h.plen h.params h.blen h.body h.flen h.face, h.ordb, h.ordf, h.mod, h.nd]; rfl
theorem unBig {u : UnI} (h : u.Ok) (hz : szU u ≤ 1048576) : UnBig u := by
  obtain ⟨h1, h2, h3, h4⟩ := h
  have e : szU u = ((u.name.length + (u.params.length + szPs u.params)) + (u.body.length + szJs u.body)) + (u.face.length + szIs u.face) := rfl
  refine ⟨⟨by omega, fun p hp => ?_⟩, ⟨by omega, fun x hx => ⟨h3.2 x hx, by have := szJs_mem hx; omega⟩⟩, by omega, fun x hx => ⟨h4.2 x hx, by have := szIs_mem hx; unfold szI at this; omega⟩⟩
  have hs := szPs_mem hp
  have hpo := (h2.2 p hp).2
  unfold szP at hs
  exact ⟨by omega, fun x hx => ⟨hpo.2 x hx, by have := szIs_mem hx; unfold szI at this; omega⟩⟩

set_option maxRecDepth 100000 in
theorem impl_UnitValid (u : UnI) (hu : UnBig u) (A : List Box) : ACalls Tryz.prog 9 [.agg (uE u)] A (fun r A' => r = .bool (unitB u) ∧ A' = A) := by
  have hr := fun A => impl_readUnit u hu A
  simp only [uE] at hr ⊢
  refine acalls_enter (cf := cf 11 [0, 1, 2, 4]) foll Tryz.func9 Tryz.ntmps9 (by simp [cf]) ?_
  simp only [Tryz.f9, EnterK_some, zW, zX, zD, builtinA, isLeaf, const1, ustrA, simprocAttr, ti33, ti81, ca29, cf, Tryz.results9]
  refine callK_intro (by simp only [zW, zX, zD, builtinA, isLeaf, const1, ustrA, simprocAttr, Option.map_some] <;> rfl) (hr _) ?_ rfl
  rintro r A' ⟨⟨x, hx, rfl⟩ | ⟨hb, c1, c2, c3, rfl⟩, rfl⟩
  · rw [unOf_true hx, uvE]
    simp only [zW, zX, zD, builtinA, isLeaf, const1, ustrA, simprocAttr, ti33, ti81, ca29, cf, Tryz.results9]
  · rw [hb]
    simp only [zW, zX, zD, builtinA, isLeaf, const1, ustrA, simprocAttr, ti33, ti81, ca29, cf, Tryz.results9]

set_option maxRecDepth 100000 in
theorem exactUnitValid_true (a : UnI) (ha : a.Ok) : ACalls Tryz.prog 3 [.agg (uEA a)] [] (fun v _ => v = .bool true) := by
  refine acalls_enter (cf := cf 27 [0, 1, 2, 3, 4, 5, 6, 11, 21, 26]) foll Tryz.func3 Tryz.ntmps3 (by simp [cf]) ?_
  simp only [Tryz.f3, EnterK_some, zW, zX, zD, builtinA, isLeaf, const1, ustrA, simprocAttr, ti3, ti4, ti26, ti33, ca6, ca7, ca8, ca9, ca10, cf, Tryz.results3]
  simp only [uEA_take]
  simp only [zW, zX, zD, builtinA, isLeaf, const1, ustrA, simprocAttr, ti3, ti4, ti26, ti33, ca6, ca7, ca8, ca9, ca10, cf, Tryz.results3, uEA_length, uEA_take]
  refine callK_intro (by simp only [zW, zX, zD, builtinA, isLeaf, const1, ustrA, simprocAttr, frzL_uEA, Option.map_some]; rfl) (laws_szUnit a ha _ _ (by omega) (by omega)) ?_ rfl; rintro v A' ⟨rfl, rfl⟩
  by_cases h1 : ((szU a : Nat) : Int) ≤ 1048576
  · have v1 := left_yes h1
    have n1 : decide ((1048576 : Int) - (szU a : Nat) < 0) = false := decide_eq_false (by omega)
    have hz : szU a ≤ 1048576 := by omega
    have hb := unBig ha hz
    rw [v1]
    simp only [zW, zX, zD, builtinA, isLeaf, const1, ustrA, simprocAttr, ti3, ti4, ti26, ti33, ca6, ca7, ca8, ca9, ca10, cf, Tryz.results3, n1, uEA_length, uEA_take]
    refine callK_intro (by simp only [zW, zX, zD, builtinA, isLeaf, const1, ustrA, simprocAttr, frzL_uEA, Option.map_some]; rfl) (laws_toUnit a hz _) ?_ rfl; rintro v A' ⟨rfl, rfl⟩
    simp only [zW, zX, zD, builtinA, isLeaf, const1, ustrA, simprocAttr, ti3, ti4, ti26, ti33, ca6, ca7, ca8, ca9, ca10, cf, Tryz.results3, uE_length, uE_take]
    refine callK_intro (by simp only [zW, zX, zD, builtinA, isLeaf, const1, ustrA, simprocAttr, frzL_uE, Option.map_some]; rfl) (spec_UnitValid a hb _) ?_ rfl; rintro v A' ⟨rfl, rfl⟩
    simp only [zW, zX, zD, builtinA, isLeaf, const1, ustrA, simprocAttr, ti3, ti4, ti26, ti33, ca6, ca7, ca8, ca9, ca10, cf, Tryz.results3, uEA_length, uEA_take]
    refine callK_intro (by simp only [zW, zX, zD, builtinA, isLeaf, const1, ustrA, simprocAttr, frzL_uEA, Option.map_some]; rfl) (laws_toUnit a hz _) ?_ rfl; rintro v A' ⟨rfl, rfl⟩
    simp only [zW, zX, zD, builtinA, isLeaf, const1, ustrA, simprocAttr, ti3, ti4, ti26, ti33, ca6, ca7, ca8, ca9, ca10, cf, Tryz.results3, uE_length, uE_take]
    refine callK_intro (by simp only [zW, zX, zD, builtinA, isLeaf, const1, ustrA, simprocAttr, frzL_uE, Option.map_some]; rfl) (impl_UnitValid a hb _) ?_ rfl; rintro v A' ⟨rfl, rfl⟩
    simp only [zW, zX, zD, builtinA, isLeaf, const1, ustrA, simprocAttr, ti3, ti4, ti26, ti33, ca6, ca7, ca8, ca9, ca10, cf, Tryz.results3, uEA_length, uEA_take, uE_length, uE_take]
    refine .inl ⟨by kernel_rfl, by kernel_rfl, ?_⟩
    refine callD_intro (by simp only [zW, zX, zD, builtinA, isLeaf, const1, ustrA, simprocAttr, frzL_uEA, Option.map_some] <;> rfl) (laws_toUnit a hz _) ?_ rfl
    simp only [zW, zX, zD, builtinA, isLeaf, const1, ustrA, simprocAttr, ti3, ti4, ti26, ti33, ca6, ca7, ca8, ca9, ca10, cf, Tryz.results3, uE_length, uE_take]
    refine callD_intro (by simp only [zW, zX, zD, builtinA, isLeaf, const1, ustrA, simprocAttr, frzL_uE, Option.map_some] <;> rfl) (laws_eqUnit a ha _) ?_ rfl
    simp only [zW, zX, zD, builtinA, isLeaf, const1, ustrA, simprocAttr, ti3, ti4, ti26, ti33, ca6, ca7, ca8, ca9, ca10, cf, Tryz.results3]
  · have v1 := left_no h1
    rw [v1]
    simp only [zW, zX, zD, builtinA, isLeaf, const1, ustrA, simprocAttr, ti3, ti4, ti26, ti33, ca6, ca7, ca8, ca9, ca10, cf, Tryz.results3]

theorem exactUnitValid_rec : ∀ t ∈ Tryz.f3.params.toList, Tryz.prog.readableRec t = true ∧ t < Tryz.prog.types.size := by
  rw [Tryz.params3]
  intro t ht
  simp at ht
  subst ht
  exact ⟨by kernel_rfl, of_decide_eq_true (by kernel_rfl)⟩
set_option maxRecDepth 100000 in
theorem exactUnitValid_lifted (os : Os) (started : os.Started) (H : Type) (enc' : TypeId × Value → H) :
    ReturnsInHanded {} Tryz.checked os 3 .any (Rows.fnExactUnitValidSpec.pre6 enc' Tryz.prog Tryz.f3 Rows.fnExactUnitValidRow.domain false) (Rows.fnExactUnitValidSpec.post enc' Tryz.prog Tryz.f3 false true false false) := by
  refine returnsInHanded_of_change (C := Tryz.checked) ownk started (by kernel_rfl) Tryz.func3
    (ChangeSpec.witness6 (enc := enc') (C := Tryz.checked) false ⟨#[], #[.agg #[.string .empty, .slice none 0 0, .slice none 0 0, .slice none 0 0]], []⟩ 8 (by kernel_rfl) (by kernel_rfl) (by kernel_rfl) (by kernel_rfl)) ?_
  intro W base args ds gs before hval0 hW hcnd _
  have hval : ∀ (j : Nat) t v, Tryz.f3.params[j]? = some t → args[j]? = some v → Value.okWide Tryz.prog W .any base t v := hval0
  have hW' := hW
  obtain ⟨p, q, hA0, hV, rfl, hfz, hnd⟩ := hW
  have hA : DataW.TrodAll enc' Tryz.prog W 0 (fun _ => true) true Tryz.f3.params.toList args.toList ds p := hA0
  rw [Tryz.params3] at hA hval
  have hlt := hA.lt
  obtain ⟨v0, d0, rfl, rfl, h0⟩ := trodAll_one hA
  obtain ⟨rfl, rfl⟩ := trodVars_none hV
  obtain ⟨x0, hx0, r0⟩ := rv_unit (hval 0 26 v0 rfl rfl) h0
  refine (law_calls (exactUnitValid_true x0 hx0) (.cons r0 .nil)).mono fun e W' ⟨he, hb⟩ => ?_
  subst he
  exact ⟨_, rfl, law_post laid exactUnitValid_rec rfl Tryz.underlying4 (by kernel_rfl) ⟨rfl, rfl⟩ rfl hW' hb⟩
theorem exactUnitValid_facts : joinedFacts Tryz.pinned.checked.prog 3 Tryz.f3 Rows.fnExactUnitValidSpec Rows.fnExactUnitValidRow = true := by kernel_rfl
theorem exactUnitValid_holds : Rows.FnExactUnitValidSaid :=
  OpenClaim.holds_of_wide 3 Tryz.f3 rfl rfl rfl rfl rfl rfl rfl ⟨rfl, rfl, rfl, rfl, rfl⟩ rfl rfl rfl rfl rfl (by kernel_rfl) Tryz.func3 exactUnitValid_facts
    (of_decide_eq_true (by kernel_rfl)) (by unfold Func.isWrapper; first | (rw [if_pos (by decide +kernel)]; kernel_rfl) | (rw [if_neg (by decide +kernel)]; exact ⟨rfl, rfl⟩))
    (fun os started H enc' _ => exactUnitValid_lifted os started H enc')
end Go.Proofs.YtebgneaehhaclaaGreat
