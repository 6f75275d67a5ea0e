/- Bound names of types: the map, and replacing in a type. -/
import Derived.Test.YtapkacochknndaaGreatTypesMeth
import Derived.Test.YtapkacochknndaaGreatAbsW3
set_option linter.unusedVariables false
set_option linter.unusedSimpArgs false
namespace Go.Proofs.YtapkacochknndaaGreat
open Go.Abs

abbrev BNm := List UInt8 × List UInt8
def bkE (p : BNm) : List AV := [.str p.1, .str p.2]
def lookB (p : BNm) : List (BNm × VT) → Option VT
  | [] => none
  | (q, v) :: m => if p = q then some v else lookB p m
def subV (m : List (BNm × VT)) : VT → VT
  | .num => .num
  | .nm a b => (lookB (a, b) m).getD (.nm a b)
  | .fn a b => .fn (subV m a) (subV m b)
def esB (m : List (BNm × VT)) : List (AV × AV) := m.map fun q => (.agg (bkE q.1), .iface (vT q.2) (vX q.2))
abbrev KB : List (Nat × TK) := [(0, .str), (1, .str)]
theorem bkE_eq (x y : BNm) : eqK KB (bkE x) (bkE y) = some (decide (x = y)) := by
  have : decide (x = y) = (decide (x.1 = y.1) && (decide (x.2 = y.2) && true)) := by
    rw [Bool.eq_iff_iff]
    simp [Prod.ext_iff]
  rw [this]
  simp [KB, eqK, bkE, c1A]
  try congr 1
theorem find_b (q : BNm) : ∀ (m : List (BNm × VT)) (n : Nat), (findA KB (bkE q) (esB m) n = some none ∧ lookB q m = none) ∨ ∃ j v, findA KB (bkE q) (esB m) n = some (some (j, .iface (vT v) (vX v))) ∧ lookB q m = some v
  | [], n => .inl ⟨rfl, rfl⟩
  | (p, v) :: m, n => by
    simp only [esB, List.map_cons, findA]
    rw [if_pos (show (bkE p).length = (bkE q).length from rfl), bkE_eq]
    by_cases h : q = p
    · subst h
      simp only [decide_true, lookB, if_true]
      exact .inr ⟨_, _, rfl, rfl⟩
    · simp only [decide_eq_false h, lookB, if_neg h]
      exact find_b q m (n + 1)
theorem esB_app (m : List (BNm × VT)) (p : BNm) (v : VT) : esB m ++ [(.agg [.str p.1, .str p.2], .iface (vT v) (vX v))] = esB (m ++ [(p, v)]) := by simp [esB, bkE]

def SubM (m : List (BNm × VT)) (v : VT) : Prop := ∀ A i, i < A.length → A.getD i .dead = .mapb (esB m) → ACalls Tryz.prog ((pickF 204 211 181) v) [vX v, .map i] A (fun r A' => r = .iface (vT (subV m v)) (vX (subV m v)) ∧ A' = A)

theorem num_sub (m : List (BNm × VT)) : SubM m .num := fun A i hi hA => by
  show ACalls Tryz.prog 204 _ _ _
  rw [vX]
  refine acalls_enter (cf := cf 7 [0, 4]) foll Tryz.func204 Tryz.ntmps204 (by simp [cf]) ?_
  simp only [Tryz.f204, EnterK_some, zW, zX, zD, builtinA, isLeaf, const1, ustrA, simprocAttr, ti206, cf, Tryz.results204]
  try rfl

set_option maxRecDepth 100000 in
theorem name_sub (m : List (BNm × VT)) (a b : List UInt8) : SubM m (.nm a b) := fun A i hi hA => by
  show ACalls Tryz.prog 181 _ _ _
  rw [vX]
  have g1 : ∀ B : List Box, (A ++ B).getD i .dead = .mapb (esB m) := fun B => by rw [Abs.getD_append_left hi]; exact hA
  rcases find_b (a, b) m 0 with ⟨h1, h2⟩ | ⟨j, v, h1, h2⟩
  · simp only [bkE] at h1
    rw [subV, h2]
    refine acalls_enter (cf := cf 17 [0, 1, 2, 4, 5, 6, 13]) foll Tryz.func181 Tryz.ntmps181 (by simp [cf]) ?_
    simp only [Tryz.f181, EnterK_some, zW, zX, zD, builtinA, isLeaf, const1, ustrA, simprocAttr, ti77, ti121, mi121, cf, Tryz.results181]
    simp only [zW, zX, zD, builtinA, isLeaf, const1, ustrA, simprocAttr, ti77, ti121, mi121, cf, Tryz.results181, g1, h1]
    rfl
  · simp only [bkE] at h1
    rw [subV, h2]
    refine acalls_enter (cf := cf 17 [0, 1, 2, 4, 5, 6, 13]) foll Tryz.func181 Tryz.ntmps181 (by simp [cf]) ?_
    simp only [Tryz.f181, EnterK_some, zW, zX, zD, builtinA, isLeaf, const1, ustrA, simprocAttr, ti77, ti121, mi121, cf, Tryz.results181]
    simp only [zW, zX, zD, builtinA, isLeaf, const1, ustrA, simprocAttr, ti77, ti121, mi121, cf, Tryz.results181, g1, h1]

set_option maxRecDepth 100000 in
theorem fun_sub (m : List (BNm × VT)) (a b : VT) (ha : SubM m a) (hb : SubM m b) : SubM m (.fn a b) := fun A i hi hA => by
  show ACalls Tryz.prog 211 _ _ _
  rw [vX]
  have g1 : ∀ B : List Box, (A ++ B).getD i .dead = .mapb (esB m) := fun B => by rw [Abs.getD_append_left hi]; exact hA
  refine acalls_enter (cf := cf 15 [0, 1, 2, 4]) foll Tryz.func211 Tryz.ntmps211 (by simp [cf]) ?_
  simp only [Tryz.f211, EnterK_some, zW, zX, zD, builtinA, isLeaf, const1, ustrA, simprocAttr, ti100, ti221, cf, Tryz.results211]
  refine .inl ⟨by kernel_rfl, by kernel_rfl, ?_⟩
  refine wpD_invoke _ _ _ _ _ _ _ _ _ _ _ _ _ _ _ _ ?_
  simp only [zW, zX, zD, builtinA, isLeaf, const1, ustrA, simprocAttr, ti100, ti221, cf, Tryz.results211]
  refine meth_invD (met3 (by kernel_rfl) (by kernel_rfl) (by kernel_rfl) (by kernel_rfl) (by kernel_rfl) (by kernel_rfl)) (ha _ i (by simp; omega) (g1 _)) rfl (fun _ => rfl) ?_
  simp only [zW, zX, zD, builtinA, isLeaf, const1, ustrA, simprocAttr, ti100, ti221, cf, Tryz.results211]
  refine wpD_invoke _ _ _ _ _ _ _ _ _ _ _ _ _ _ _ _ ?_
  simp only [zW, zX, zD, builtinA, isLeaf, const1, ustrA, simprocAttr, ti100, ti221, cf, Tryz.results211]
  refine meth_invD (met3 (by kernel_rfl) (by kernel_rfl) (by kernel_rfl) (by kernel_rfl) (by kernel_rfl) (by kernel_rfl)) (hb _ i (by simp; omega) (g1 _)) rfl (fun _ => rfl) ?_
  simp only [zW, zX, zD, builtinA, isLeaf, const1, ustrA, simprocAttr, ti100, ti221, cf, Tryz.results211]
  try rfl
theorem subM (m : List (BNm × VT)) : ∀ v, SubM m v
  | .num => num_sub m
  | .nm a b => name_sub m a b
  | .fn a b => fun_sub m a b (subM m a) (subM m b)
end Go.Proofs.YtapkacochknndaaGreat
