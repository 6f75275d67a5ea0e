/- For every expression, however deep, the program's MaxFree answers as the model's MaxFree does; nothing that the call was given is changed. No condition beside the row's own. -/
import Derived.Test.YtmnlipkjldpjeaaGreatExWalk
import Derived.Test.YtmnlipkjldpjeaaGreatExSpec
import Derived.Test.YtmnlipkjldpjeaaGreatExLaw
import Derived.Test.YtmnlipkjldpjeaaGreatAbsW3
set_option linter.unusedVariables false
set_option linter.unusedSimpArgs false
namespace Go.Proofs.YtmnlipkjldpjeaaGreat
open Go.Abs Go.RowKit Go.ChangeShapes Go.WideShapes Go.ChangeAt Go.ChangeMaps

set_option maxRecDepth 100000 in
theorem exactMaxFree_true (x : Ex) (hx : x.Ok) : ACalls Tryz.prog 4 [.agg (encXA x)] [] (fun v _ => v = .bool true) := by
  refine acalls_enter (cf := cf 27 [0, 1, 2, 3, 4, 5, 6, 11, 21, 26]) foll Tryz.func4 Tryz.ntmps4 (by simp [cf]) ?_
  simp only [Tryz.f4, EnterK_some, zW, zX, zD, builtinA, isLeaf, const1, ustrA, simprocAttr, ti3, ti27, ti35, ca5, ca7, ca9, ca10, ca11, cf, Tryz.results4]
  simp only [encXA_take]
  refine ⟨by rw [encXA_length]; omega, ?_⟩
  refine callK_intro (by simp only [zW, zX, zD, builtinA, isLeaf, const1, ustrA, simprocAttr, frzL_encXA, Option.map_some]; rfl) (laws_szExpr x hx _ _ (by omega) (by omega)) ?_ rfl; rintro v A' ⟨rfl, rfl⟩
  by_cases hs : szX x ≤ 1048576
  · have hv : left 1048576 (szX x) = 1048576 - szX x := by rw [left, if_pos (by omega)]
    have hn : decide ((1048576 : Int) - szX x < 0) = false := decide_eq_false (by omega)
    obtain ⟨nn, hsp, him⟩ := max_key x hx hs
    have bb : decide (nn = nn) = true := by simp
    rw [hv]
    simp only [zW, zX, zD, builtinA, isLeaf, const1, ustrA, simprocAttr, ti3, ti27, ti35, ca5, ca7, ca9, ca10, ca11, cf, Tryz.results4, hn, encXA_take, encXA_length]
    refine callK_intro (by simp only [zW, zX, zD, builtinA, isLeaf, const1, ustrA, simprocAttr, frzL_encXA, Option.map_some]; rfl) (laws_toExpr x hs _) ?_ rfl; rintro v A' ⟨rfl, rfl⟩
    simp only [zW, zX, zD, builtinA, isLeaf, const1, ustrA, simprocAttr, ti3, ti27, ti35, ca5, ca7, ca9, ca10, ca11, cf, Tryz.results4, encX_take, encX_length]
    refine callK_intro (by simp only [zW, zX, zD, builtinA, isLeaf, const1, ustrA, simprocAttr, frzL_encX, Option.map_some]; rfl) (hsp _) ?_ rfl; rintro v A' ⟨rfl, rfl⟩
    simp only [zW, zX, zD, builtinA, isLeaf, const1, ustrA, simprocAttr, ti3, ti27, ti35, ca5, ca7, ca9, ca10, ca11, cf, Tryz.results4, encXA_take, encXA_length]
    refine callK_intro (by simp only [zW, zX, zD, builtinA, isLeaf, const1, ustrA, simprocAttr, frzL_encXA, Option.map_some]; rfl) (laws_toExpr x hs _) ?_ rfl; rintro v A' ⟨rfl, rfl⟩
    simp only [zW, zX, zD, builtinA, isLeaf, const1, ustrA, simprocAttr, ti3, ti27, ti35, ca5, ca7, ca9, ca10, ca11, cf, Tryz.results4, encX_take, encX_length]
    refine callK_intro (by simp only [zW, zX, zD, builtinA, isLeaf, const1, ustrA, simprocAttr, frzL_encX, Option.map_some]; rfl) (him _) ?_ rfl; rintro v A' ⟨rfl, rfl⟩
    simp only [zW, zX, zD, builtinA, isLeaf, const1, ustrA, simprocAttr, ti3, ti27, ti35, ca5, ca7, ca9, ca10, ca11, cf, Tryz.results4, bb, encX_take, encX_length, encXA_take, encXA_length]
    refine .inl ⟨by kernel_rfl, by kernel_rfl, ?_⟩
    refine callD_intro (by simp only [zW, zX, zD, builtinA, isLeaf, const1, ustrA, simprocAttr, frzL_encXA, Option.map_some] <;> rfl) (laws_toExpr x hs _) ?_ rfl
    simp only [zW, zX, zD, builtinA, isLeaf, const1, ustrA, simprocAttr, ti3, ti27, ti35, ca5, ca7, ca9, ca10, ca11, cf, Tryz.results4, encX_take, encX_length]
    refine callD_intro (by simp only [zW, zX, zD, builtinA, isLeaf, const1, ustrA, simprocAttr, frzL_encX, Option.map_some] <;> rfl) (laws_eqExpr x hx _) ?_ rfl
    simp only [zW, zX, zD, builtinA, isLeaf, const1, ustrA, simprocAttr, ti3, ti27, ti35, ca5, ca7, ca9, ca10, ca11, cf, Tryz.results4]
  · have hv : left 1048576 (szX x) = -1 := by rw [left, if_neg (by omega)]
    rw [hv]
    simp only [zW, zX, zD, builtinA, isLeaf, const1, ustrA, simprocAttr, ti3, ti27, ti35, ca5, ca7, ca9, ca10, ca11, cf, Tryz.results4]

theorem exactMaxFree_rec : ∀ t ∈ Tryz.f4.params.toList, Tryz.prog.readableRec t = true ∧ t < Tryz.prog.types.size := by
  rw [Tryz.params4]
  intro t ht
  simp at ht
  subst ht
  exact ⟨by kernel_rfl, of_decide_eq_true (by kernel_rfl)⟩
set_option maxRecDepth 100000 in
theorem exactMaxFree_lifted (os : Os) (started : os.Started) (H : Type) (enc' : TypeId × Value → H) :
    ReturnsInHanded {} Tryz.checked os 4 .any (Rows.fnExactMaxFreeSpec.pre6 enc' Tryz.prog Tryz.f4 Rows.fnExactMaxFreeRow.domain false) (Rows.fnExactMaxFreeSpec.post enc' Tryz.prog Tryz.f4 false true false false) := by
  refine returnsInHanded_of_change (C := Tryz.checked) ownk started (by kernel_rfl) Tryz.func4
    (ChangeSpec.witness6 (enc := enc') (C := Tryz.checked) false ⟨#[], #[.agg #[.int .i64 0, .int .i64 0, .string .empty, .string .empty, .int .i64 0, .string .empty, .string .empty, .slice none 0 0, .slice none 0 0]], []⟩ 8 (by kernel_rfl) (by kernel_rfl) (by kernel_rfl) (by kernel_rfl)) ?_
  intro W base args ds gs before hval0 hW hcnd _
  have hval : ∀ (j : Nat) t v, Tryz.f4.params[j]? = some t → args[j]? = some v → Value.okWide Tryz.prog W .any base t v := hval0
  have hW' := hW
  obtain ⟨p, q, hA0, hV, rfl, hfz, hnd⟩ := hW
  have hA : DataW.TrodAll enc' Tryz.prog W 0 (fun _ => true) true Tryz.f4.params.toList args.toList ds p := hA0
  rw [Tryz.params4] at hA hval
  have hlt := hA.lt
  obtain ⟨v0, d0, rfl, rfl, h0⟩ := trodAll_one hA
  obtain ⟨rfl, rfl⟩ := trodVars_none hV
  obtain ⟨x0, hx0, r0⟩ := rv_expr (hval 0 27 v0 rfl rfl) h0
  refine (law_calls (exactMaxFree_true x0 hx0) (.cons r0 .nil)).mono fun e W' ⟨he, hb⟩ => ?_
  subst he
  exact ⟨_, rfl, law_post laid exactMaxFree_rec rfl Tryz.underlying4 (by kernel_rfl) ⟨rfl, rfl⟩ rfl hW' hb⟩
theorem exactMaxFree_holds : Rows.FnExactMaxFreeSaid :=
  OpenClaim.holds_of_wide 4 Tryz.f4 rfl rfl rfl rfl rfl rfl rfl ⟨rfl, rfl, rfl, rfl, rfl⟩ rfl rfl rfl rfl rfl (by kernel_rfl) Tryz.func4 (by kernel_rfl)
    (of_decide_eq_true (by kernel_rfl)) (by unfold Func.isWrapper; first | (rw [if_pos (by decide +kernel)]; kernel_rfl) | (rw [if_neg (by decide +kernel)]; exact ⟨rfl, rfl⟩))
    (fun os started H enc' _ => exactMaxFree_lifted os started H enc')
end Go.Proofs.YtmnlipkjldpjeaaGreat
