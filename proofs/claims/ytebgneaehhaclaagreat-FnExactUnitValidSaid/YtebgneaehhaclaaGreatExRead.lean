/- The program's reading of expressions. -/
import Derived.Test.YtebgneaehhaclaaGreatExRd
import Derived.Test.YtebgneaehhaclaaGreatZero0
import Derived.Test.YtebgneaehhaclaaGreatAbsW3
set_option linter.unusedVariables false
set_option linter.unusedSimpArgs false
namespace Go.Proofs.YtebgneaehhaclaaGreat
open Go.Abs

set_option maxRecDepth 100000 in
theorem impl_enter (i : Nat) (c d : Int) (A : List Box) (hi : i < A.length) (hA : A.getD i .dead = .cells [.int .i64 c]) (h0 : 0 ≤ c) (h1 : c ≤ 1000) :
    ACalls Tryz.prog 128 [.ptr i 0, .int .i64 d] A (fun r A' => r = .bool (decide (c + 1 ≤ 400) && decide (d ≤ 40)) ∧ A' = A.set i (.cells [.int .i64 (c + 1)])) := by
  have hw : IntKind.i64.wrap (c + 1) = c + 1 := wrap64 (by omega) (by omega)
  have hg : ∀ X, (A.set i X).getD i .dead = X := fun X => getD_set1 hi
  have ho : Outer A (A.set i (.cells [.int .i64 (c + 1)])) := by have := outer_set A [] i (.cells [.int .i64 (c + 1)]) rfl; simpa using this
  by_cases g1 : c + 1 ≤ 400
  · rw [decide_eq_true g1]
    refine acalls_enter (cf := cf 18 [0, 1, 4]) foll Tryz.func128 Tryz.ntmps128 (by simp [cf]) ?_
    simp only [Tryz.f128, EnterK_some, zW, zX, zD, builtinA, isLeaf, const1, ustrA, simprocAttr, ti3, ti198, cf, Tryz.results128]
    simp only [zW, zX, zD, builtinA, isLeaf, const1, ustrA, simprocAttr, ti3, ti198, cf, Tryz.results128, hA, hw, hg, hi, decide_eq_true g1]
    exact ho
  · rw [decide_eq_false g1]
    refine acalls_enter (cf := cf 18 [0, 1, 4]) foll Tryz.func128 Tryz.ntmps128 (by simp [cf]) ?_
    simp only [Tryz.f128, EnterK_some, zW, zX, zD, builtinA, isLeaf, const1, ustrA, simprocAttr, ti3, ti198, cf, Tryz.results128]
    simp only [zW, zX, zD, builtinA, isLeaf, const1, ustrA, simprocAttr, ti3, ti198, cf, Tryz.results128, hA, hw, hg, hi, decide_eq_false g1]
    exact ho

set_option maxRecDepth 100000 in
theorem impl_operandCount (k : Int) (A : List Box) : ACalls Tryz.prog 131 [.int .i64 k] A (fun r A' => r = .int .i64 (opc k) ∧ A' = A) := by
  refine acalls_enter (cf := cf 15 [0, 2, 3, 4, 8, 10, 13]) foll Tryz.func131 Tryz.ntmps131 (by simp [cf]) ?_
  simp only [Tryz.f131, EnterK_some, zW, zX, zD, builtinA, isLeaf, const1, ustrA, simprocAttr, ti3, cf, Tryz.results131]
  repeat' first
    | (refine guardT_intro (fun h => ?_) (fun h => ?_) <;> (try simp only [decide_eq_true_eq, decide_eq_false_iff_not, Bool.not_eq_eq_eq_not, Bool.not_true, Bool.not_false] at h) <;> simp only [zW, zX, zD, builtinA, isLeaf, const1, ustrA, simprocAttr, ti3, cf, Tryz.results131, h])
    | (refine guardF_intro (fun h => ?_) (fun h => ?_) <;> (try simp only [decide_eq_true_eq, decide_eq_false_iff_not, Bool.not_eq_eq_eq_not, Bool.not_true, Bool.not_false] at h) <;> simp only [zW, zX, zD, builtinA, isLeaf, const1, ustrA, simprocAttr, ti3, cf, Tryz.results131, h])
    | (refine condK_intro (fun h => ?_) (fun h => ?_) <;> (try simp only [decide_eq_true_eq, decide_eq_false_iff_not, Bool.not_eq_eq_eq_not, Bool.not_true, Bool.not_false] at h) <;> simp only [zW, zX, zD, builtinA, isLeaf, const1, ustrA, simprocAttr, ti3, cf, Tryz.results131, h])
    | (refine guardDT_intro (fun h => ?_) (fun h => ?_) <;> (try simp only [decide_eq_true_eq, decide_eq_false_iff_not, Bool.not_eq_eq_eq_not, Bool.not_true, Bool.not_false] at h) <;> simp only [zW, zX, zD, builtinA, isLeaf, const1, ustrA, simprocAttr, ti3, cf, Tryz.results131, h])
    | (refine guardDF_intro (fun h => ?_) (fun h => ?_) <;> (try simp only [decide_eq_true_eq, decide_eq_false_iff_not, Bool.not_eq_eq_eq_not, Bool.not_true, Bool.not_false] at h) <;> simp only [zW, zX, zD, builtinA, isLeaf, const1, ustrA, simprocAttr, ti3, cf, Tryz.results131, h])
    | refine And.intro ?_ ?_
  all_goals simp [opc, *]

set_option maxRecDepth 100000 in
set_option maxHeartbeats 4000000 in
theorem impl_unusedAreZero (k i : Int) (m n : List UInt8) (t : Ty) (ks : List (List AV)) (A : List Box) :
    ACalls Tryz.prog 129 [.agg [.int .i64 k, .int .i64 i, .str m, .str n, .int .i64 t.kind, .str t.mod, .str t.name, .slice (encs t.kids), .slice ks]] A (fun r A' => r = .bool (zeroX k i m n t) ∧ A' = A) := by
  have hz := fun A => impl_TypeSame0 t A
  have hz0 := fun A => impl_TypeSame0 ty0 A
  rw [show enc ty0 = [.int .i64 0, .str [], .str [], .slice []] from rfl] at hz hz0
  rw [encQ4] at hz
  by_cases k1 : k = 1
  · refine acalls_enter (cf := cf 36 [0, 1, 2, 4, 5, 9, 13]) foll Tryz.func129 Tryz.ntmps129 (by simp [cf]) ?_
    simp only [Tryz.f129, EnterK_some, zW, zX, zD, builtinA, isLeaf, const1, ustrA, simprocAttr, ti3, ti9, ti51, ti54, ca124, cf, Tryz.results129]
    simp only [zW, zX, zD, builtinA, isLeaf, const1, ustrA, simprocAttr, ti3, ti9, ti51, ti54, ca124, cf, Tryz.results129, decide_eq_true k1]
    by_cases hm : m = []
    · simp only [zW, zX, zD, builtinA, isLeaf, const1, ustrA, simprocAttr, ti3, ti9, ti51, ti54, ca124, cf, Tryz.results129, decide_eq_true hm]
      by_cases hn : n = []
      · simp only [zW, zX, zD, builtinA, isLeaf, const1, ustrA, simprocAttr, ti3, ti9, ti51, ti54, ca124, cf, Tryz.results129, decide_eq_true hn]
        refine callK_intro (by simp only [zW, zX, zD, builtinA, isLeaf, const1, ustrA, simprocAttr, Option.map_some] <;> rfl) (hz _) ?_ rfl
        rintro r A' ⟨rfl, rfl⟩
        simp only [zW, zX, zD, builtinA, isLeaf, const1, ustrA, simprocAttr, ti3, ti9, ti51, ti54, ca124, cf, Tryz.results129]
        try simp [zeroX, k1, hm, hn]
      · simp only [zW, zX, zD, builtinA, isLeaf, const1, ustrA, simprocAttr, ti3, ti9, ti51, ti54, ca124, cf, Tryz.results129, decide_eq_false hn]
        try simp [zeroX, k1, hm, hn]
    · simp only [zW, zX, zD, builtinA, isLeaf, const1, ustrA, simprocAttr, ti3, ti9, ti51, ti54, ca124, cf, Tryz.results129, decide_eq_false hm]
      try simp [zeroX, k1, hm]
  by_cases k2 : k = 2
  · refine acalls_enter (cf := cf 36 [0, 1, 2, 4, 5, 9, 13]) foll Tryz.func129 Tryz.ntmps129 (by simp [cf]) ?_
    simp only [Tryz.f129, EnterK_some, zW, zX, zD, builtinA, isLeaf, const1, ustrA, simprocAttr, ti3, ti9, ti51, ti54, ca124, cf, Tryz.results129]
    simp only [zW, zX, zD, builtinA, isLeaf, const1, ustrA, simprocAttr, ti3, ti9, ti51, ti54, ca124, cf, Tryz.results129, decide_eq_false k1, decide_eq_true k2]
    by_cases hm : m = []
    · simp only [zW, zX, zD, builtinA, isLeaf, const1, ustrA, simprocAttr, ti3, ti9, ti51, ti54, ca124, cf, Tryz.results129, decide_eq_true hm]
      by_cases hn : n = []
      · simp only [zW, zX, zD, builtinA, isLeaf, const1, ustrA, simprocAttr, ti3, ti9, ti51, ti54, ca124, cf, Tryz.results129, decide_eq_true hn]
        refine callK_intro (by simp only [zW, zX, zD, builtinA, isLeaf, const1, ustrA, simprocAttr, Option.map_some] <;> rfl) (hz _) ?_ rfl
        rintro r A' ⟨rfl, rfl⟩
        simp only [zW, zX, zD, builtinA, isLeaf, const1, ustrA, simprocAttr, ti3, ti9, ti51, ti54, ca124, cf, Tryz.results129]
        try simp [zeroX, k1, k2, hm, hn]
      · simp only [zW, zX, zD, builtinA, isLeaf, const1, ustrA, simprocAttr, ti3, ti9, ti51, ti54, ca124, cf, Tryz.results129, decide_eq_false hn]
        try simp [zeroX, k1, k2, hm, hn]
    · simp only [zW, zX, zD, builtinA, isLeaf, const1, ustrA, simprocAttr, ti3, ti9, ti51, ti54, ca124, cf, Tryz.results129, decide_eq_false hm]
      try simp [zeroX, k1, k2, hm]
  by_cases k3 : k = 3
  · refine acalls_enter (cf := cf 36 [0, 1, 2, 4, 5, 9, 13]) foll Tryz.func129 Tryz.ntmps129 (by simp [cf]) ?_
    simp only [Tryz.f129, EnterK_some, zW, zX, zD, builtinA, isLeaf, const1, ustrA, simprocAttr, ti3, ti9, ti51, ti54, ca124, cf, Tryz.results129]
    simp only [zW, zX, zD, builtinA, isLeaf, const1, ustrA, simprocAttr, ti3, ti9, ti51, ti54, ca124, cf, Tryz.results129, decide_eq_false k1, decide_eq_false k2, decide_eq_true k3]
    by_cases hi : i = 0
    · simp only [zW, zX, zD, builtinA, isLeaf, const1, ustrA, simprocAttr, ti3, ti9, ti51, ti54, ca124, cf, Tryz.results129, decide_eq_true hi]
      refine callK_intro (by simp only [zW, zX, zD, builtinA, isLeaf, const1, ustrA, simprocAttr, Option.map_some] <;> rfl) (hz _) ?_ rfl
      rintro r A' ⟨rfl, rfl⟩
      simp only [zW, zX, zD, builtinA, isLeaf, const1, ustrA, simprocAttr, ti3, ti9, ti51, ti54, ca124, cf, Tryz.results129]
      try simp [zeroX, k1, k2, k3, hi]
    · simp only [zW, zX, zD, builtinA, isLeaf, const1, ustrA, simprocAttr, ti3, ti9, ti51, ti54, ca124, cf, Tryz.results129, decide_eq_false hi]
      try simp [zeroX, k1, k2, k3, hi]
  by_cases k4 : k = 4
  · refine acalls_enter (cf := cf 36 [0, 1, 2, 4, 5, 9, 13]) foll Tryz.func129 Tryz.ntmps129 (by simp [cf]) ?_
    simp only [Tryz.f129, EnterK_some, zW, zX, zD, builtinA, isLeaf, const1, ustrA, simprocAttr, ti3, ti9, ti51, ti54, ca124, cf, Tryz.results129]
    simp only [zW, zX, zD, builtinA, isLeaf, const1, ustrA, simprocAttr, ti3, ti9, ti51, ti54, ca124, cf, Tryz.results129, decide_eq_false k1, decide_eq_false k2, decide_eq_false k3, decide_eq_true k4]
    by_cases hi : i = 0
    · simp only [zW, zX, zD, builtinA, isLeaf, const1, ustrA, simprocAttr, ti3, ti9, ti51, ti54, ca124, cf, Tryz.results129, decide_eq_true hi]
      by_cases hm : m = []
      · simp only [zW, zX, zD, builtinA, isLeaf, const1, ustrA, simprocAttr, ti3, ti9, ti51, ti54, ca124, cf, Tryz.results129, decide_eq_true hm]
        by_cases hn : n = []
        · simp only [zW, zX, zD, builtinA, isLeaf, const1, ustrA, simprocAttr, ti3, ti9, ti51, ti54, ca124, cf, Tryz.results129, decide_eq_true hn]
          refine callK_intro (by simp only [zW, zX, zD, builtinA, isLeaf, const1, ustrA, simprocAttr, Option.map_some] <;> rfl) (hz0 _) ?_ rfl
          rintro r A' ⟨rfl, rfl⟩
          simp only [zW, zX, zD, builtinA, isLeaf, const1, ustrA, simprocAttr, ti3, ti9, ti51, ti54, ca124, cf, Tryz.results129]
          try simp [zeroX, k1, k2, k3, k4, hi, hm, hn]
        · simp only [zW, zX, zD, builtinA, isLeaf, const1, ustrA, simprocAttr, ti3, ti9, ti51, ti54, ca124, cf, Tryz.results129, decide_eq_false hn]
          try simp [zeroX, k1, k2, k3, k4, hi, hm, hn]
      · simp only [zW, zX, zD, builtinA, isLeaf, const1, ustrA, simprocAttr, ti3, ti9, ti51, ti54, ca124, cf, Tryz.results129, decide_eq_false hm]
        try simp [zeroX, k1, k2, k3, k4, hi, hm]
    · simp only [zW, zX, zD, builtinA, isLeaf, const1, ustrA, simprocAttr, ti3, ti9, ti51, ti54, ca124, cf, Tryz.results129, decide_eq_false hi]
      try simp [zeroX, k1, k2, k3, k4, hi]
  refine acalls_enter (cf := cf 36 [0, 1, 2, 4, 5, 9, 13]) foll Tryz.func129 Tryz.ntmps129 (by simp [cf]) ?_
  simp only [Tryz.f129, EnterK_some, zW, zX, zD, builtinA, isLeaf, const1, ustrA, simprocAttr, ti3, ti9, ti51, ti54, ca124, cf, Tryz.results129]
  simp only [zW, zX, zD, builtinA, isLeaf, const1, ustrA, simprocAttr, ti3, ti9, ti51, ti54, ca124, cf, Tryz.results129, decide_eq_false k1, decide_eq_false k2, decide_eq_false k3, decide_eq_false k4]
  by_cases hi : i = 0
  · simp only [zW, zX, zD, builtinA, isLeaf, const1, ustrA, simprocAttr, ti3, ti9, ti51, ti54, ca124, cf, Tryz.results129, decide_eq_true hi]
    by_cases hm : m = []
    · simp only [zW, zX, zD, builtinA, isLeaf, const1, ustrA, simprocAttr, ti3, ti9, ti51, ti54, ca124, cf, Tryz.results129, decide_eq_true hm]
      by_cases hn : n = []
      · simp only [zW, zX, zD, builtinA, isLeaf, const1, ustrA, simprocAttr, ti3, ti9, ti51, ti54, ca124, cf, Tryz.results129, decide_eq_true hn]
        refine callK_intro (by simp only [zW, zX, zD, builtinA, isLeaf, const1, ustrA, simprocAttr, Option.map_some] <;> rfl) (hz _) ?_ rfl
        rintro r A' ⟨rfl, rfl⟩
        simp only [zW, zX, zD, builtinA, isLeaf, const1, ustrA, simprocAttr, ti3, ti9, ti51, ti54, ca124, cf, Tryz.results129]
        try simp [zeroX, k1, k2, k3, k4, hi, hm, hn]
      · simp only [zW, zX, zD, builtinA, isLeaf, const1, ustrA, simprocAttr, ti3, ti9, ti51, ti54, ca124, cf, Tryz.results129, decide_eq_false hn]
        try simp [zeroX, k1, k2, k3, k4, hi, hm, hn]
    · simp only [zW, zX, zD, builtinA, isLeaf, const1, ustrA, simprocAttr, ti3, ti9, ti51, ti54, ca124, cf, Tryz.results129, decide_eq_false hm]
      try simp [zeroX, k1, k2, k3, k4, hi, hm]
  · simp only [zW, zX, zD, builtinA, isLeaf, const1, ustrA, simprocAttr, ti3, ti9, ti51, ti54, ca124, cf, Tryz.results129, decide_eq_false hi]
    try simp [zeroX, k1, k2, k3, k4, hi]

set_option maxRecDepth 100000 in
set_option maxHeartbeats 4000000 in
theorem impl_readHead (k i : Int) (m n : List UInt8) (t : Ty) (ks : List (List AV)) (vs : List VE) (hl : (vs.length : Int) = opc k) (A : List Box) :
    ACalls Tryz.prog 133 [.agg [.int .i64 k, .int .i64 i, .str m, .str n, .int .i64 t.kind, .str t.mod, .str t.name, .slice (encs t.kids), .slice ks], .slice (rowsV vs)] A (fun r A' => r = .tuple [(headX k i m n t vs).1, .bool (headX k i m n t vs).2.isSome] ∧ A' = A) := by
  by_cases k1 : k = 1
  · have hd : decide (0 ≤ i ∧ i ≤ 12) = (decide (0 ≤ i) && decide (i ≤ 12)) := by rw [Bool.eq_iff_iff]; simp
    rw [headX, if_pos k1]
    refine acalls_enter (cf := cf 99 [0, 1, 2, 4, 5, 6, 7, 9, 10, 24, 38, 51, 66, 76, 86]) foll Tryz.func133 Tryz.ntmps133 (by simp [cf]) ?_
    simp only [Tryz.f133, EnterK_some, zW, zX, zD, builtinA, isLeaf, const1, ustrA, simprocAttr, ti3, ti9, ti51, ti54, ti98, ti268, ti290, ti291, ti292, ti295, ti297, ti299, ti301, ca122, ca157, cf, Tryz.results133]
    simp only [zW, zX, zD, builtinA, isLeaf, const1, ustrA, simprocAttr, ti3, ti9, ti51, ti54, ti98, ti268, ti290, ti291, ti292, ti295, ti297, ti299, ti301, ca122, ca157, cf, Tryz.results133, decide_eq_true k1]
    refine .inl ⟨by kernel_rfl, by kernel_rfl, ?_⟩
    by_cases h1 : 0 ≤ i
    · by_cases h2 : i ≤ 12
      · simp only [zW, zX, zD, builtinA, isLeaf, const1, ustrA, simprocAttr, ti3, ti9, ti51, ti54, ti98, ti268, ti290, ti291, ti292, ti295, ti297, ti299, ti301, ca122, ca157, cf, Tryz.results133, decide_eq_true h1, decide_eq_true h2]
        simp [h1, h2]
      · simp only [zW, zX, zD, builtinA, isLeaf, const1, ustrA, simprocAttr, ti3, ti9, ti51, ti54, ti98, ti268, ti290, ti291, ti292, ti295, ti297, ti299, ti301, ca122, ca157, cf, Tryz.results133, decide_eq_true h1, decide_eq_false h2]
        simp [h1, h2]
    · simp only [zW, zX, zD, builtinA, isLeaf, const1, ustrA, simprocAttr, ti3, ti9, ti51, ti54, ti98, ti268, ti290, ti291, ti292, ti295, ti297, ti299, ti301, ca122, ca157, cf, Tryz.results133, decide_eq_false h1]
      simp [h1]
  by_cases k2 : k = 2
  · rw [headX, if_neg k1, if_pos k2]
    refine acalls_enter (cf := cf 99 [0, 1, 2, 4, 5, 6, 7, 9, 10, 24, 38, 51, 66, 76, 86]) foll Tryz.func133 Tryz.ntmps133 (by simp [cf]) ?_
    simp only [Tryz.f133, EnterK_some, zW, zX, zD, builtinA, isLeaf, const1, ustrA, simprocAttr, ti3, ti9, ti51, ti54, ti98, ti268, ti290, ti291, ti292, ti295, ti297, ti299, ti301, ca122, ca157, cf, Tryz.results133]
    simp only [zW, zX, zD, builtinA, isLeaf, const1, ustrA, simprocAttr, ti3, ti9, ti51, ti54, ti98, ti268, ti290, ti291, ti292, ti295, ti297, ti299, ti301, ca122, ca157, cf, Tryz.results133, decide_eq_false k1, decide_eq_true k2]
    refine .inl ⟨by kernel_rfl, by kernel_rfl, ?_⟩
    by_cases h1 : 0 ≤ i
    · by_cases h2 : i ≤ 99
      · simp only [zW, zX, zD, builtinA, isLeaf, const1, ustrA, simprocAttr, ti3, ti9, ti51, ti54, ti98, ti268, ti290, ti291, ti292, ti295, ti297, ti299, ti301, ca122, ca157, cf, Tryz.results133, decide_eq_true h1, decide_eq_true h2]
        simp [h1, h2]
      · simp only [zW, zX, zD, builtinA, isLeaf, const1, ustrA, simprocAttr, ti3, ti9, ti51, ti54, ti98, ti268, ti290, ti291, ti292, ti295, ti297, ti299, ti301, ca122, ca157, cf, Tryz.results133, decide_eq_true h1, decide_eq_false h2]
        simp [h1, h2]
    · simp only [zW, zX, zD, builtinA, isLeaf, const1, ustrA, simprocAttr, ti3, ti9, ti51, ti54, ti98, ti268, ti290, ti291, ti292, ti295, ti297, ti299, ti301, ca122, ca157, cf, Tryz.results133, decide_eq_false h1]
      simp [h1]
  by_cases k3 : k = 3
  · rw [headX, if_neg k1, if_neg k2, if_pos k3]
    refine acalls_enter (cf := cf 99 [0, 1, 2, 4, 5, 6, 7, 9, 10, 24, 38, 51, 66, 76, 86]) foll Tryz.func133 Tryz.ntmps133 (by simp [cf]) ?_
    simp only [Tryz.f133, EnterK_some, zW, zX, zD, builtinA, isLeaf, const1, ustrA, simprocAttr, ti3, ti9, ti51, ti54, ti98, ti268, ti290, ti291, ti292, ti295, ti297, ti299, ti301, ca122, ca157, cf, Tryz.results133]
    simp only [zW, zX, zD, builtinA, isLeaf, const1, ustrA, simprocAttr, ti3, ti9, ti51, ti54, ti98, ti268, ti290, ti291, ti292, ti295, ti297, ti299, ti301, ca122, ca157, cf, Tryz.results133, decide_eq_false k1, decide_eq_false k2, decide_eq_true k3]
    refine .inl ⟨by kernel_rfl, by kernel_rfl, ?_⟩
    refine callD_intro (by simp only [zW, zX, zD, builtinA, isLeaf, const1, ustrA, simprocAttr, Option.map_some] <;> rfl) (impl_validName m n _) ?_ rfl
    simp only [zW, zX, zD, builtinA, isLeaf, const1, ustrA, simprocAttr, ti3, ti9, ti51, ti54, ti98, ti268, ti290, ti291, ti292, ti295, ti297, ti299, ti301, ca122, ca157, cf, Tryz.results133]
    cases hn : ((decide (m = []) || moduleB m) && localB n) <;> rfl
  by_cases k4 : k = 4
  · obtain ⟨b, rfl⟩ : ∃ b, vs = [b] := by
      match vs, hl with
      | [b], _ => exact ⟨b, rfl⟩
      | [], hl => simp [opc, k4] at hl
      | _ :: _ :: _, hl => simp [opc, k4] at hl; omega
    have hr := fun A => impl_readType t A
    rw [encQ4] at hr
    rw [headX, if_neg k1, if_neg k2, if_neg k3, if_pos k4]
    refine acalls_enter (cf := cf 99 [0, 1, 2, 4, 5, 6, 7, 9, 10, 24, 38, 51, 66, 76, 86]) foll Tryz.func133 Tryz.ntmps133 (by simp [cf]) ?_
    simp only [Tryz.f133, EnterK_some, zW, zX, zD, builtinA, isLeaf, const1, ustrA, simprocAttr, ti3, ti9, ti51, ti54, ti98, ti268, ti290, ti291, ti292, ti295, ti297, ti299, ti301, ca122, ca157, cf, Tryz.results133]
    simp only [zW, zX, zD, builtinA, isLeaf, const1, ustrA, simprocAttr, ti3, ti9, ti51, ti54, ti98, ti268, ti290, ti291, ti292, ti295, ti297, ti299, ti301, ca122, ca157, cf, Tryz.results133, decide_eq_false k1, decide_eq_false k2, decide_eq_false k3, decide_eq_true k4]
    refine callK_intro (by simp only [zW, zX, zD, builtinA, isLeaf, const1, ustrA, simprocAttr, Option.map_some] <;> rfl) (hr _) ?_ rfl
    rintro r A' ⟨⟨v, rfl, hv, rfl⟩ | ⟨hv, rfl⟩, rfl⟩
    · rw [rdT_toTy hv]
      simp only [zW, zX, zD, builtinA, isLeaf, const1, ustrA, simprocAttr, ti3, ti9, ti51, ti54, ti98, ti268, ti290, ti291, ti292, ti295, ti297, ti299, ti301, ca122, ca157, cf, Tryz.results133, rowsV, ifE, List.map_cons, List.map_nil, List.getD_cons_zero, List.length_cons, List.length_nil]
      try simp
    · rw [rdT_bad hv]
      simp only [zW, zX, zD, builtinA, isLeaf, const1, ustrA, simprocAttr, ti3, ti9, ti51, ti54, ti98, ti268, ti290, ti291, ti292, ti295, ti297, ti299, ti301, ca122, ca157, cf, Tryz.results133, rowsV, ifE, List.map_cons, List.map_nil, List.getD_cons_zero, List.length_cons, List.length_nil]
      try simp
  by_cases k5 : k = 5
  · obtain ⟨a, b, rfl⟩ : ∃ a b, vs = [a, b] := by
      match vs, hl with
      | [a, b], _ => exact ⟨a, b, rfl⟩
      | [], hl => simp [opc, k5] at hl
      | [_], hl => simp [opc, k5] at hl
      | _ :: _ :: _ :: _, hl => simp [opc, k5] at hl; omega
    rw [headX, if_neg k1, if_neg k2, if_neg k3, if_neg k4, if_pos k5]
    refine acalls_enter (cf := cf 99 [0, 1, 2, 4, 5, 6, 7, 9, 10, 24, 38, 51, 66, 76, 86]) foll Tryz.func133 Tryz.ntmps133 (by simp [cf]) ?_
    simp only [Tryz.f133, EnterK_some, zW, zX, zD, builtinA, isLeaf, const1, ustrA, simprocAttr, ti3, ti9, ti51, ti54, ti98, ti268, ti290, ti291, ti292, ti295, ti297, ti299, ti301, ca122, ca157, cf, Tryz.results133]
    simp only [zW, zX, zD, builtinA, isLeaf, const1, ustrA, simprocAttr, ti3, ti9, ti51, ti54, ti98, ti268, ti290, ti291, ti292, ti295, ti297, ti299, ti301, ca122, ca157, cf, Tryz.results133, decide_eq_false k1, decide_eq_false k2, decide_eq_false k3, decide_eq_false k4, decide_eq_true k5]
    refine .inl ⟨by kernel_rfl, by kernel_rfl, ?_⟩
    simp only [zW, zX, zD, builtinA, isLeaf, const1, ustrA, simprocAttr, ti3, ti9, ti51, ti54, ti98, ti268, ti290, ti291, ti292, ti295, ti297, ti299, ti301, ca122, ca157, cf, Tryz.results133, rowsV, ifE, List.map_cons, List.map_nil, List.getD_cons_zero, List.getD_cons_succ, List.length_cons, List.length_nil]
    try simp
  by_cases k6 : k = 6
  · obtain ⟨a, b, rfl⟩ : ∃ a b, vs = [a, b] := by
      match vs, hl with
      | [a, b], _ => exact ⟨a, b, rfl⟩
      | [], hl => simp [opc, k6] at hl
      | [_], hl => simp [opc, k6] at hl
      | _ :: _ :: _ :: _, hl => simp [opc, k6] at hl; omega
    rw [headX, if_neg k1, if_neg k2, if_neg k3, if_neg k4, if_neg k5, if_pos k6]
    refine acalls_enter (cf := cf 99 [0, 1, 2, 4, 5, 6, 7, 9, 10, 24, 38, 51, 66, 76, 86]) foll Tryz.func133 Tryz.ntmps133 (by simp [cf]) ?_
    simp only [Tryz.f133, EnterK_some, zW, zX, zD, builtinA, isLeaf, const1, ustrA, simprocAttr, ti3, ti9, ti51, ti54, ti98, ti268, ti290, ti291, ti292, ti295, ti297, ti299, ti301, ca122, ca157, cf, Tryz.results133]
    simp only [zW, zX, zD, builtinA, isLeaf, const1, ustrA, simprocAttr, ti3, ti9, ti51, ti54, ti98, ti268, ti290, ti291, ti292, ti295, ti297, ti299, ti301, ca122, ca157, cf, Tryz.results133, decide_eq_false k1, decide_eq_false k2, decide_eq_false k3, decide_eq_false k4, decide_eq_false k5, decide_eq_true k6]
    refine .inl ⟨by kernel_rfl, by kernel_rfl, ?_⟩
    simp only [zW, zX, zD, builtinA, isLeaf, const1, ustrA, simprocAttr, ti3, ti9, ti51, ti54, ti98, ti268, ti290, ti291, ti292, ti295, ti297, ti299, ti301, ca122, ca157, cf, Tryz.results133, rowsV, ifE, List.map_cons, List.map_nil, List.getD_cons_zero, List.getD_cons_succ, List.length_cons, List.length_nil]
    try simp
  by_cases k7 : k = 7
  · obtain ⟨e, a, b, rfl⟩ : ∃ e a b, vs = [e, a, b] := by
      match vs, hl with
      | [e, a, b], _ => exact ⟨e, a, b, rfl⟩
      | [], hl => simp [opc, k7] at hl
      | [_], hl => simp [opc, k7] at hl
      | [_, _], hl => simp [opc, k7] at hl
      | _ :: _ :: _ :: _ :: _, hl => simp [opc, k7] at hl; omega
    rw [headX, if_neg k1, if_neg k2, if_neg k3, if_neg k4, if_neg k5, if_neg k6, if_pos k7]
    refine acalls_enter (cf := cf 99 [0, 1, 2, 4, 5, 6, 7, 9, 10, 24, 38, 51, 66, 76, 86]) foll Tryz.func133 Tryz.ntmps133 (by simp [cf]) ?_
    simp only [Tryz.f133, EnterK_some, zW, zX, zD, builtinA, isLeaf, const1, ustrA, simprocAttr, ti3, ti9, ti51, ti54, ti98, ti268, ti290, ti291, ti292, ti295, ti297, ti299, ti301, ca122, ca157, cf, Tryz.results133]
    simp only [zW, zX, zD, builtinA, isLeaf, const1, ustrA, simprocAttr, ti3, ti9, ti51, ti54, ti98, ti268, ti290, ti291, ti292, ti295, ti297, ti299, ti301, ca122, ca157, cf, Tryz.results133, decide_eq_false k1, decide_eq_false k2, decide_eq_false k3, decide_eq_false k4, decide_eq_false k5, decide_eq_false k6, decide_eq_true k7]
    refine .inl ⟨by kernel_rfl, by kernel_rfl, ?_⟩
    simp only [zW, zX, zD, builtinA, isLeaf, const1, ustrA, simprocAttr, ti3, ti9, ti51, ti54, ti98, ti268, ti290, ti291, ti292, ti295, ti297, ti299, ti301, ca122, ca157, cf, Tryz.results133, rowsV, ifE, List.map_cons, List.map_nil, List.getD_cons_zero, List.getD_cons_succ, List.length_cons, List.length_nil]
    try simp
  rw [headX, if_neg k1, if_neg k2, if_neg k3, if_neg k4, if_neg k5, if_neg k6, if_neg k7]
  refine acalls_enter (cf := cf 99 [0, 1, 2, 4, 5, 6, 7, 9, 10, 24, 38, 51, 66, 76, 86]) foll Tryz.func133 Tryz.ntmps133 (by simp [cf]) ?_
  simp only [Tryz.f133, EnterK_some, zW, zX, zD, builtinA, isLeaf, const1, ustrA, simprocAttr, ti3, ti9, ti51, ti54, ti98, ti268, ti290, ti291, ti292, ti295, ti297, ti299, ti301, ca122, ca157, cf, Tryz.results133]
  simp only [zW, zX, zD, builtinA, isLeaf, const1, ustrA, simprocAttr, ti3, ti9, ti51, ti54, ti98, ti268, ti290, ti291, ti292, ti295, ti297, ti299, ti301, ca122, ca157, cf, Tryz.results133, decide_eq_false k1, decide_eq_false k2, decide_eq_false k3, decide_eq_false k4, decide_eq_false k5, decide_eq_false k6, decide_eq_false k7]
  try simp

end Go.Proofs.YtebgneaehhaclaaGreat
