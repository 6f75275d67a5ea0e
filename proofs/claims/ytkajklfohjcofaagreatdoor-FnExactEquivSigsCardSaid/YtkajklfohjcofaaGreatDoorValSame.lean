/- Whether two types are equal, by the program's method. -/
import Derived.Test.YtkajklfohjcofaaGreatDoorTypesMeth
import Derived.Test.YtkajklfohjcofaaGreatDoorAbsW3
set_option linter.unusedVariables false
set_option linter.unusedSimpArgs false
namespace Go.Proofs.YtkajklfohjcofaaGreatDoor
open Go.Abs

open Classical in
def SmM (v w : VT) : Prop := ∀ A, ACalls Tryz.prog ((pickF 211 218 181) v) [vX v, .iface (vT w) (vX w)] A (fun r A' => r = .bool (decide (v = w)) ∧ A' = A)

set_option maxRecDepth 100000 in
theorem num_same (w : VT) : SmM .num w := fun A => by
  cases w with
  | num =>
    show ACalls Tryz.prog 211 [.agg [], .iface 207 (.agg [])] A _
    refine acalls_enter (cf := cf 13 [0, 1, 4, 6]) foll Tryz.func211 Tryz.ntmps211 (by simp [cf]) ?_
    simp only [Tryz.f211, EnterK_some, zW, zX, zD, builtinA, isLeaf, const1, ustrA, simprocAttr, ti92, ti207, za207, cf, Tryz.results211]
    simp only [zW, zX, zD, builtinA, isLeaf, const1, ustrA, simprocAttr, ti92, ti207, za207, cf, Tryz.results211, wpO_typeAssert, assert_yes]
  | nm a b =>
    show ACalls Tryz.prog 211 [.agg [], .iface 154 (.agg [.str a, .str b])] A _
    have has := fun A => assert_no [] 154 207 (.agg [.str a, .str b]) rfl (A := A)
    refine acalls_enter (cf := cf 13 [0, 1, 4, 6]) foll Tryz.func211 Tryz.ntmps211 (by simp [cf]) ?_
    simp only [Tryz.f211, EnterK_some, zW, zX, zD, builtinA, isLeaf, const1, ustrA, simprocAttr, ti92, ti207, za207, cf, Tryz.results211]
    simp only [zW, zX, zD, builtinA, isLeaf, const1, ustrA, simprocAttr, ti92, ti207, za207, cf, Tryz.results211, wpO_typeAssert, has]
  | fn a b =>
    show ACalls Tryz.prog 211 [.agg [], .iface 218 (.agg [.iface (vT a) (vX a), .iface (vT b) (vX b)])] A _
    have has := fun A => assert_no [] 218 207 (.agg [.iface (vT a) (vX a), .iface (vT b) (vX b)]) rfl (A := A)
    refine acalls_enter (cf := cf 13 [0, 1, 4, 6]) foll Tryz.func211 Tryz.ntmps211 (by simp [cf]) ?_
    simp only [Tryz.f211, EnterK_some, zW, zX, zD, builtinA, isLeaf, const1, ustrA, simprocAttr, ti92, ti207, za207, cf, Tryz.results211]
    simp only [zW, zX, zD, builtinA, isLeaf, const1, ustrA, simprocAttr, ti92, ti207, za207, cf, Tryz.results211, wpO_typeAssert, has]

set_option maxRecDepth 100000 in
theorem name_same (a b : List UInt8) (w : VT) : SmM (.nm a b) w := fun A => by
  cases w with
  | num =>
    show ACalls Tryz.prog 181 [.agg [.str a, .str b], .iface 207 (.agg [])] A _
    have has := fun A => assert_no [.str [], .str []] 207 154 (.agg []) rfl (A := A)
    refine acalls_enter (cf := cf 18 [0, 1, 2, 4, 5, 6]) foll Tryz.func181 Tryz.ntmps181 (by simp [cf]) ?_
    simp only [Tryz.f181, EnterK_some, zW, zX, zD, builtinA, isLeaf, const1, ustrA, simprocAttr, ti92, ti154, ks154, za154, cf, Tryz.results181]
    simp only [zW, zX, zD, builtinA, isLeaf, const1, ustrA, simprocAttr, ti92, ti154, ks154, za154, cf, Tryz.results181, wpO_typeAssert, has]
  | nm c d =>
    show ACalls Tryz.prog 181 [.agg [.str a, .str b], .iface 154 (.agg [.str c, .str d])] A _
    refine acalls_enter (cf := cf 18 [0, 1, 2, 4, 5, 6]) foll Tryz.func181 Tryz.ntmps181 (by simp [cf]) ?_
    simp only [Tryz.f181, EnterK_some, zW, zX, zD, builtinA, isLeaf, const1, ustrA, simprocAttr, ti92, ti154, ks154, za154, cf, Tryz.results181]
    simp only [zW, zX, zD, builtinA, isLeaf, const1, ustrA, simprocAttr, ti92, ti154, ks154, za154, cf, Tryz.results181, wpO_typeAssert, assert_yes]
    simp
  | fn c d =>
    show ACalls Tryz.prog 181 [.agg [.str a, .str b], .iface 218 (.agg [.iface (vT c) (vX c), .iface (vT d) (vX d)])] A _
    have has := fun A => assert_no [.str [], .str []] 218 154 (.agg [.iface (vT c) (vX c), .iface (vT d) (vX d)]) rfl (A := A)
    refine acalls_enter (cf := cf 18 [0, 1, 2, 4, 5, 6]) foll Tryz.func181 Tryz.ntmps181 (by simp [cf]) ?_
    simp only [Tryz.f181, EnterK_some, zW, zX, zD, builtinA, isLeaf, const1, ustrA, simprocAttr, ti92, ti154, ks154, za154, cf, Tryz.results181]
    simp only [zW, zX, zD, builtinA, isLeaf, const1, ustrA, simprocAttr, ti92, ti154, ks154, za154, cf, Tryz.results181, wpO_typeAssert, has]

open Classical in
set_option maxRecDepth 100000 in
theorem fun_same (a b : VT) (ha : ∀ w, SmM a w) (hb : ∀ w, SmM b w) (w : VT) : SmM (.fn a b) w := fun A => by
  cases w with
  | num =>
    show ACalls Tryz.prog 218 [.agg [.iface (vT a) (vX a), .iface (vT b) (vX b)], .iface 207 (.agg [])] A _
    have has := fun A => assert_no [.nili, .nili] 207 218 (.agg []) rfl (A := A)
    refine acalls_enter (cf := cf 27 [0, 1, 2, 4, 5, 6]) foll Tryz.func218 Tryz.ntmps218 (by simp [cf]) ?_
    simp only [Tryz.f218, EnterK_some, zW, zX, zD, builtinA, isLeaf, const1, ustrA, simprocAttr, ti92, ti218, za218, cf, Tryz.results218]
    simp only [zW, zX, zD, builtinA, isLeaf, const1, ustrA, simprocAttr, ti92, ti218, za218, cf, Tryz.results218, wpO_typeAssert, has]
  | nm c d =>
    show ACalls Tryz.prog 218 [.agg [.iface (vT a) (vX a), .iface (vT b) (vX b)], .iface 154 (.agg [.str c, .str d])] A _
    have has := fun A => assert_no [.nili, .nili] 154 218 (.agg [.str c, .str d]) rfl (A := A)
    refine acalls_enter (cf := cf 27 [0, 1, 2, 4, 5, 6]) foll Tryz.func218 Tryz.ntmps218 (by simp [cf]) ?_
    simp only [Tryz.f218, EnterK_some, zW, zX, zD, builtinA, isLeaf, const1, ustrA, simprocAttr, ti92, ti218, za218, cf, Tryz.results218]
    simp only [zW, zX, zD, builtinA, isLeaf, const1, ustrA, simprocAttr, ti92, ti218, za218, cf, Tryz.results218, wpO_typeAssert, has]
  | fn c d =>
    show ACalls Tryz.prog 218 [.agg [.iface (vT a) (vX a), .iface (vT b) (vX b)], .iface 218 (.agg [.iface (vT c) (vX c), .iface (vT d) (vX d)])] A _
    refine acalls_enter (cf := cf 27 [0, 1, 2, 4, 5, 6]) foll Tryz.func218 Tryz.ntmps218 (by simp [cf]) ?_
    simp only [Tryz.f218, EnterK_some, zW, zX, zD, builtinA, isLeaf, const1, ustrA, simprocAttr, ti92, ti218, za218, cf, Tryz.results218]
    simp only [zW, zX, zD, builtinA, isLeaf, const1, ustrA, simprocAttr, ti92, ti218, za218, cf, Tryz.results218, wpO_typeAssert, assert_yes]
    refine wpO_invoke _ _ _ _ _ _ _ _ _ _ _ _ _ _ _ _ ?_
    simp only [zW, zX, zD, builtinA, isLeaf, const1, ustrA, simprocAttr, ti92, ti218, za218, cf, Tryz.results218]
    refine meth_invK (met3 (by kernel_rfl) (by kernel_rfl) (by kernel_rfl) (by kernel_rfl) (by kernel_rfl) (by kernel_rfl)) (ha c _) rfl (fun _ => rfl) ?_
    rintro r A' ⟨rfl, rfl⟩
    by_cases h1 : a = c
    · rw [decide_eq_true h1]
      simp only [zW, zX, zD, builtinA, isLeaf, const1, ustrA, simprocAttr, ti92, ti218, za218, cf, Tryz.results218]
      refine wpO_invoke _ _ _ _ _ _ _ _ _ _ _ _ _ _ _ _ ?_
      simp only [zW, zX, zD, builtinA, isLeaf, const1, ustrA, simprocAttr, ti92, ti218, za218, cf, Tryz.results218]
      refine meth_invK (met3 (by kernel_rfl) (by kernel_rfl) (by kernel_rfl) (by kernel_rfl) (by kernel_rfl) (by kernel_rfl)) (hb d _) rfl (fun _ => rfl) ?_
      rintro r A' ⟨rfl, rfl⟩
      simp only [zW, zX, zD, builtinA, isLeaf, const1, ustrA, simprocAttr, ti92, ti218, za218, cf, Tryz.results218]
      simp [h1]
    · rw [decide_eq_false h1]
      simp only [zW, zX, zD, builtinA, isLeaf, const1, ustrA, simprocAttr, ti92, ti218, za218, cf, Tryz.results218]
      simp [h1]
theorem smM : ∀ v w : VT, SmM v w
  | .num, w => num_same w
  | .nm a b, w => name_same a b w
  | .fn a b, w => fun_same a b (smM a) (smM b) w
end Go.Proofs.YtkajklfohjcofaaGreatDoor
