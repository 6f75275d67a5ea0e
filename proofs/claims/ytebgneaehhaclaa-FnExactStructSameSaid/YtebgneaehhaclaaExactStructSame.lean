/- For every two structures the program's StructSame answers as the model's StructSame does, and the arguments are not changed. No condition beside the row's own. -/
import Derived.Test.YtebgneaehhaclaaStEq
import Derived.Test.YtebgneaehhaclaaItLaw
set_option linter.unusedVariables false
set_option linter.unusedSimpArgs false
namespace Go.Proofs.Ytebgneaehhaclaa
open Go.Abs Go.RowKit Go.ChangeShapes Go.WideShapes Go.ChangeAt Go.ChangeMaps

set_option maxRecDepth 100000 in
theorem exactStructSame_true (a : List ItI) (ha : ItsOk a) (b : List ItI) (hb : ItsOk b) : ACalls Try.prog 6 [.aslice (iEAs a), .aslice (iEAs b)] [] (fun v _ => v = .bool true) := by
  refine acalls_enter (cf := cf 45 [0, 1, 4, 5, 6, 7, 8, 9, 14, 19, 34, 39, 44]) foll Try.func6 Try.ntmps6 (by simp [cf]) ?_
  simp only [Try.f6, EnterK_some, zW, zX, zD, builtinA, isLeaf, const1, ustrA, simprocAttr, ti3, ti4, ca22, ca23, ca24, ca25, ca26, cf, Try.results6]
  refine callK_intro (by simp only [zW, zX, zD, builtinA, isLeaf, const1, ustrA, simprocAttr, Option.map_some]; rfl) (laws_szItemS a ha.1 ha.2 _ _ (by omega) (by omega)) ?_ rfl; rintro v A' ⟨rfl, rfl⟩
  by_cases h1 : ((a.length + szJs a : Nat) : Int) ≤ 1048576
  · have v1 : left 1048576 (a.length + szJs a) = 1048576 - (a.length + szJs a : Nat) := by rw [left, if_pos h1]
    have n1 : decide ((1048576 : Int) - (a.length + szJs a : Nat) < 0) = false := decide_eq_false (by omega)
    rw [v1]
    simp only [zW, zX, zD, builtinA, isLeaf, const1, ustrA, simprocAttr, ti3, ti4, ca22, ca23, ca24, ca25, ca26, cf, Try.results6, n1]
    refine callK_intro (by simp only [zW, zX, zD, builtinA, isLeaf, const1, ustrA, simprocAttr, Option.map_some]; rfl) (laws_szItemS b hb.1 hb.2 _ _ (by omega) (by omega)) ?_ rfl; rintro v A' ⟨rfl, rfl⟩
    by_cases h2 : ((b.length + szJs b : Nat) : Int) ≤ 1048576 - (a.length + szJs a : Nat)
    · have v2 : left (1048576 - (a.length + szJs a : Nat)) (b.length + szJs b) = 1048576 - (a.length + szJs a : Nat) - (b.length + szJs b : Nat) := by rw [left, if_pos h2]
      have n2 : decide ((1048576 : Int) - (a.length + szJs a : Nat) - (b.length + szJs b : Nat) < 0) = false := decide_eq_false (by omega)
      rw [v2]
      simp only [zW, zX, zD, builtinA, isLeaf, const1, ustrA, simprocAttr, ti3, ti4, ca22, ca23, ca24, ca25, ca26, cf, Try.results6, n2]
      refine callK_intro (by simp only [zW, zX, zD, builtinA, isLeaf, const1, ustrA, simprocAttr]; rfl) (laws_toItemS a (by omega) (by omega) _) ?_ rfl; rintro v A' ⟨rfl, rfl⟩
      simp only [zW, zX, zD, builtinA, isLeaf, const1, ustrA, simprocAttr, ti3, ti4, ca22, ca23, ca24, ca25, ca26, cf, Try.results6]
      refine callK_intro (by simp only [zW, zX, zD, builtinA, isLeaf, const1, ustrA, simprocAttr]; rfl) (laws_toItemS b (by omega) (by omega) _) ?_ rfl; rintro v A' ⟨rfl, rfl⟩
      simp only [zW, zX, zD, builtinA, isLeaf, const1, ustrA, simprocAttr, ti3, ti4, ca22, ca23, ca24, ca25, ca26, cf, Try.results6]
      refine callK_intro (by simp only [zW, zX, zD, builtinA, isLeaf, const1, ustrA, simprocAttr]; rfl) (spec_StructSame a b ha.2 (by omega) _) ?_ rfl; rintro v A' ⟨rfl, rfl⟩
      simp only [zW, zX, zD, builtinA, isLeaf, const1, ustrA, simprocAttr, ti3, ti4, ca22, ca23, ca24, ca25, ca26, cf, Try.results6]
      refine callK_intro (by simp only [zW, zX, zD, builtinA, isLeaf, const1, ustrA, simprocAttr]; rfl) (laws_toItemS a (by omega) (by omega) _) ?_ rfl; rintro v A' ⟨rfl, rfl⟩
      simp only [zW, zX, zD, builtinA, isLeaf, const1, ustrA, simprocAttr, ti3, ti4, ca22, ca23, ca24, ca25, ca26, cf, Try.results6]
      refine callK_intro (by simp only [zW, zX, zD, builtinA, isLeaf, const1, ustrA, simprocAttr]; rfl) (laws_toItemS b (by omega) (by omega) _) ?_ rfl; rintro v A' ⟨rfl, rfl⟩
      simp only [zW, zX, zD, builtinA, isLeaf, const1, ustrA, simprocAttr, ti3, ti4, ca22, ca23, ca24, ca25, ca26, cf, Try.results6]
      refine callK_intro (by simp only [zW, zX, zD, builtinA, isLeaf, const1, ustrA, simprocAttr]; rfl) (impl_StructSame a b (by omega) (by omega) _) ?_ rfl; rintro v A' ⟨rfl, rfl⟩
      simp only [zW, zX, zD, builtinA, isLeaf, const1, ustrA, simprocAttr, ti3, ti4, ca22, ca23, ca24, ca25, ca26, cf, Try.results6]
      refine callK_intro (by simp only [zW, zX, zD, builtinA, isLeaf, const1, ustrA, simprocAttr]; rfl) (laws_toItemS a (by omega) (by omega) _) ?_ rfl; rintro v A' ⟨rfl, rfl⟩
      simp only [zW, zX, zD, builtinA, isLeaf, const1, ustrA, simprocAttr, ti3, ti4, ca22, ca23, ca24, ca25, ca26, cf, Try.results6]
      refine callK_intro (by simp only [zW, zX, zD, builtinA, isLeaf, const1, ustrA, simprocAttr]; rfl) (laws_eqItemS a ha.1 ha.2 _) ?_ rfl; rintro v A' ⟨rfl, rfl⟩
      simp only [zW, zX, zD, builtinA, isLeaf, const1, ustrA, simprocAttr, ti3, ti4, ca22, ca23, ca24, ca25, ca26, cf, Try.results6]
      refine callK_intro (by simp only [zW, zX, zD, builtinA, isLeaf, const1, ustrA, simprocAttr]; rfl) (laws_toItemS b (by omega) (by omega) _) ?_ rfl; rintro v A' ⟨rfl, rfl⟩
      simp only [zW, zX, zD, builtinA, isLeaf, const1, ustrA, simprocAttr, ti3, ti4, ca22, ca23, ca24, ca25, ca26, cf, Try.results6]
      refine callK_intro (by simp only [zW, zX, zD, builtinA, isLeaf, const1, ustrA, simprocAttr]; rfl) (laws_eqItemS b hb.1 hb.2 _) ?_ rfl; rintro v A' ⟨rfl, rfl⟩
      simp only [zW, zX, zD, builtinA, isLeaf, const1, ustrA, simprocAttr, ti3, ti4, ca22, ca23, ca24, ca25, ca26, cf, Try.results6]
    · have v2 : left (1048576 - (a.length + szJs a : Nat)) (b.length + szJs b) = -1 := by rw [left, if_neg h2]
      rw [v2]
      simp only [zW, zX, zD, builtinA, isLeaf, const1, ustrA, simprocAttr, ti3, ti4, ca22, ca23, ca24, ca25, ca26, cf, Try.results6]
  · have v1 : left 1048576 (a.length + szJs a) = -1 := by rw [left, if_neg h1]
    rw [v1]
    simp only [zW, zX, zD, builtinA, isLeaf, const1, ustrA, simprocAttr, ti3, ti4, ca22, ca23, ca24, ca25, ca26, cf, Try.results6]

theorem exactStructSame_rec : ∀ t ∈ Try.f6.params.toList, Try.prog.readableRec t = true ∧ t < Try.prog.types.size := by
  rw [Try.params6]
  intro t ht
  simp at ht
  subst ht
  exact ⟨by kernel_rfl, of_decide_eq_true (by kernel_rfl)⟩
set_option maxRecDepth 100000 in
theorem exactStructSame_lifted (os : Os) (started : os.Started) (H : Type) (enc' : TypeId × Value → H) :
    ReturnsInHanded {} Try.checked os 6 .any (Rows.fnExactStructSameSpec.pre6 enc' Try.prog Try.f6 Rows.fnExactStructSameRow.domain false) (Rows.fnExactStructSameSpec.post enc' Try.prog Try.f6 false true false false) := by
  refine returnsInHanded_of_change (C := Try.checked) ownk started (by kernel_rfl) Try.func6
    (ChangeSpec.witness6 (enc := enc') (C := Try.checked) false ⟨#[], #[.slice none 0 0, .slice none 0 0], []⟩ 8 (by kernel_rfl) (by kernel_rfl) (by kernel_rfl) (by kernel_rfl)) ?_
  intro W base args ds gs before hval0 hW hcnd _
  have hval : ∀ (j : Nat) t v, Try.f6.params[j]? = some t → args[j]? = some v → Value.okWide Try.prog W .any base t v := hval0
  have hW' := hW
  obtain ⟨p, q, hA0, hV, rfl, hfz, hnd⟩ := hW
  have hA : DataW.TrodAll enc' Try.prog W 0 (fun _ => true) true Try.f6.params.toList args.toList ds p := hA0
  rw [Try.params6] at hA hval
  have hlt := hA.lt
  obtain ⟨v0, v1, d0, d1, p0, p1, rfl, rfl, rfl, h0, h1⟩ := trodAll_two hA
  obtain ⟨rfl, rfl⟩ := trodVars_none hV
  obtain ⟨x0, hx0, r0⟩ := rv_items (hval 0 23 v0 rfl rfl) h0
  obtain ⟨x1, hx1, r1⟩ := rv_items (hval 1 23 v1 rfl rfl) h1
  refine (law_calls (exactStructSame_true x0 hx0 x1 hx1) (.cons r0 (.cons r1 .nil))).mono fun e W' ⟨he, hb⟩ => ?_
  subst he
  exact ⟨_, rfl, law_post laid exactStructSame_rec rfl Try.underlying4 (by kernel_rfl) ⟨rfl, rfl⟩ rfl hW' hb⟩
theorem exactStructSame_facts : joinedFacts Try.pinned.checked.prog 6 Try.f6 Rows.fnExactStructSameSpec Rows.fnExactStructSameRow = true := by kernel_rfl
theorem exactStructSame_holds : Rows.FnExactStructSameSaid :=
  OpenClaim.holds_of_wide 6 Try.f6 rfl rfl rfl rfl rfl rfl rfl ⟨rfl, rfl, rfl, rfl, rfl⟩ rfl rfl rfl rfl rfl (by kernel_rfl) Try.func6 exactStructSame_facts
    (of_decide_eq_true (by kernel_rfl)) (by unfold Func.isWrapper; first | (rw [if_pos (by decide +kernel)]; kernel_rfl) | (rw [if_neg (by decide +kernel)]; exact ⟨rfl, rfl⟩))
    (fun os started H enc' _ => exactStructSame_lifted os started H enc')
end Go.Proofs.Ytebgneaehhaclaa
