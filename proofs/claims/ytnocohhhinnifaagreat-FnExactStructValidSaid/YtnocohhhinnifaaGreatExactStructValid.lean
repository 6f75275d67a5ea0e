/- For every list of definitions, however deep, the program's StructValid answers as the model's StructValid does; nothing that the call was given is changed. No condition beside the row's own. -/
import Derived.Test.YtnocohhhinnifaaGreatStRead2
import Derived.Test.YtnocohhhinnifaaGreatItLaw
import Derived.Test.YtnocohhhinnifaaGreatAbsW3
set_option linter.unusedVariables false
set_option linter.unusedSimpArgs false
namespace Go.Proofs.YtnocohhhinnifaaGreat
open Go.Abs Go.RowKit Go.ChangeShapes Go.WideShapes Go.ChangeAt Go.ChangeMaps

set_option maxRecDepth 100000 in
theorem exactStructValid_true (a : List ItI) (ha : ItsOk a) : ACalls Tryz.prog 3 [.aslice (iEAs a)] [] (fun v _ => v = .bool true) := by
  refine acalls_enter (cf := cf 27 [0, 2, 3, 4, 5, 6, 11, 21, 26]) foll Tryz.func3 Tryz.ntmps3 (by simp [cf]) ?_
  simp only [Tryz.f3, EnterK_some, zW, zX, zD, builtinA, isLeaf, const1, ustrA, simprocAttr, ti3, ti4, ca8, ca9, ca10, ca11, ca12, cf, Tryz.results3]
  refine callK_intro (by simp only [zW, zX, zD, builtinA, isLeaf, const1, ustrA, simprocAttr, Option.map_some]; rfl) (laws_szItemS a ha.1 ha.2 _ _ (by omega) (by omega)) ?_ rfl; rintro v A' ⟨rfl, rfl⟩
  by_cases h1 : ((a.length + szJs a : Nat) : Int) ≤ 1048576
  · have v1 : left 1048576 (a.length + szJs a) = 1048576 - (a.length + szJs a : Nat) := by rw [left, if_pos h1]
    have n1 : decide ((1048576 : Int) - (a.length + szJs a : Nat) < 0) = false := decide_eq_false (by omega)
    have hz : ∀ x ∈ a, szJ x ≤ 1048576 := fun x hx => by have := szJs_mem hx; omega
    rw [v1]
    simp only [zW, zX, zD, builtinA, isLeaf, const1, ustrA, simprocAttr, ti3, ti4, ca8, ca9, ca10, ca11, ca12, cf, Tryz.results3, n1]
    refine callK_intro (by simp only [zW, zX, zD, builtinA, isLeaf, const1, ustrA, simprocAttr]; rfl) (laws_toItemS a (by omega) (by omega) _) ?_ rfl; rintro v A' ⟨rfl, rfl⟩
    simp only [zW, zX, zD, builtinA, isLeaf, const1, ustrA, simprocAttr, ti3, ti4, ca8, ca9, ca10, ca11, ca12, cf, Tryz.results3]
    refine callK_intro (by simp only [zW, zX, zD, builtinA, isLeaf, const1, ustrA, simprocAttr]; rfl) (spec_StructValid a (by omega) (fun x hx => ⟨ha.2 x hx, hz x hx⟩) _) ?_ rfl; rintro v A' ⟨rfl, rfl⟩
    simp only [zW, zX, zD, builtinA, isLeaf, const1, ustrA, simprocAttr, ti3, ti4, ca8, ca9, ca10, ca11, ca12, cf, Tryz.results3]
    refine callK_intro (by simp only [zW, zX, zD, builtinA, isLeaf, const1, ustrA, simprocAttr]; rfl) (laws_toItemS a (by omega) (by omega) _) ?_ rfl; rintro v A' ⟨rfl, rfl⟩
    simp only [zW, zX, zD, builtinA, isLeaf, const1, ustrA, simprocAttr, ti3, ti4, ca8, ca9, ca10, ca11, ca12, cf, Tryz.results3]
    refine callK_intro (by simp only [zW, zX, zD, builtinA, isLeaf, const1, ustrA, simprocAttr]; rfl) (impl_StructValid a (by omega) hz _) ?_ rfl; rintro v A' ⟨rfl, rfl⟩
    simp only [zW, zX, zD, builtinA, isLeaf, const1, ustrA, simprocAttr, ti3, ti4, ca8, ca9, ca10, ca11, ca12, cf, Tryz.results3]
    refine callK_intro (by simp only [zW, zX, zD, builtinA, isLeaf, const1, ustrA, simprocAttr]; rfl) (laws_toItemS a (by omega) (by omega) _) ?_ rfl; rintro v A' ⟨rfl, rfl⟩
    simp only [zW, zX, zD, builtinA, isLeaf, const1, ustrA, simprocAttr, ti3, ti4, ca8, ca9, ca10, ca11, ca12, cf, Tryz.results3]
    refine callK_intro (by simp only [zW, zX, zD, builtinA, isLeaf, const1, ustrA, simprocAttr]; rfl) (laws_eqItemS a ha.1 ha.2 _) ?_ rfl; rintro v A' ⟨rfl, rfl⟩
    simp only [zW, zX, zD, builtinA, isLeaf, const1, ustrA, simprocAttr, ti3, ti4, ca8, ca9, ca10, ca11, ca12, cf, Tryz.results3]
  · have v1 : left 1048576 (a.length + szJs a) = -1 := by rw [left, if_neg h1]
    rw [v1]
    simp only [zW, zX, zD, builtinA, isLeaf, const1, ustrA, simprocAttr, ti3, ti4, ca8, ca9, ca10, ca11, ca12, cf, Tryz.results3]

theorem exactStructValid_rec : ∀ t ∈ Tryz.f3.params.toList, Tryz.prog.readableRec t = true ∧ t < Tryz.prog.types.size := by
  rw [Tryz.params3]
  intro t ht
  simp at ht
  subst ht
  exact ⟨by kernel_rfl, of_decide_eq_true (by kernel_rfl)⟩
set_option maxRecDepth 100000 in
theorem exactStructValid_lifted (os : Os) (started : os.Started) (H : Type) (enc' : TypeId × Value → H) :
    ReturnsInHanded {} Tryz.checked os 3 .any (Rows.fnExactStructValidSpec.pre6 enc' Tryz.prog Tryz.f3 Rows.fnExactStructValidRow.domain false) (Rows.fnExactStructValidSpec.post enc' Tryz.prog Tryz.f3 false true false false) := by
  refine returnsInHanded_of_change (C := Tryz.checked) ownk started (by kernel_rfl) Tryz.func3
    (ChangeSpec.witness6 (enc := enc') (C := Tryz.checked) false ⟨#[], #[.slice none 0 0], []⟩ 8 (by kernel_rfl) (by kernel_rfl) (by kernel_rfl) (by kernel_rfl)) ?_
  intro W base args ds gs before hval0 hW hcnd _
  have hval : ∀ (j : Nat) t v, Tryz.f3.params[j]? = some t → args[j]? = some v → Value.okWide Tryz.prog W .any base t v := hval0
  have hW' := hW
  obtain ⟨p, q, hA0, hV, rfl, hfz, hnd⟩ := hW
  have hA : DataW.TrodAll enc' Tryz.prog W 0 (fun _ => true) true Tryz.f3.params.toList args.toList ds p := hA0
  rw [Tryz.params3] at hA hval
  have hlt := hA.lt
  obtain ⟨v0, d0, rfl, rfl, h0⟩ := trodAll_one hA
  obtain ⟨rfl, rfl⟩ := trodVars_none hV
  obtain ⟨x0, hx0, r0⟩ := rv_items (hval 0 22 v0 rfl rfl) h0
  refine (law_calls (exactStructValid_true x0 hx0) (.cons r0 .nil)).mono fun e W' ⟨he, hb⟩ => ?_
  subst he
  exact ⟨_, rfl, law_post laid exactStructValid_rec rfl Tryz.underlying4 (by kernel_rfl) ⟨rfl, rfl⟩ rfl hW' hb⟩
theorem exactStructValid_facts : joinedFacts Tryz.pinned.checked.prog 3 Tryz.f3 Rows.fnExactStructValidSpec Rows.fnExactStructValidRow = true := by kernel_rfl
theorem exactStructValid_holds : Rows.FnExactStructValidSaid :=
  OpenClaim.holds_of_wide 3 Tryz.f3 rfl rfl rfl rfl rfl rfl rfl ⟨rfl, rfl, rfl, rfl, rfl⟩ rfl rfl rfl rfl rfl (by kernel_rfl) Tryz.func3 exactStructValid_facts
    (of_decide_eq_true (by kernel_rfl)) (by unfold Func.isWrapper; first | (rw [if_pos (by decide +kernel)]; kernel_rfl) | (rw [if_neg (by decide +kernel)]; exact ⟨rfl, rfl⟩))
    (fun os started H enc' _ => exactStructValid_lifted os started H enc')
end Go.Proofs.YtnocohhhinnifaaGreat
