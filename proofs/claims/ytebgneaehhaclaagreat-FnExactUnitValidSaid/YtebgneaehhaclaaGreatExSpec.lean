/- The model's ExprValid. -/
import Derived.Test.YtebgneaehhaclaaGreatExVal
import Derived.Test.YtebgneaehhaclaaGreatZero
import Derived.Test.YtebgneaehhaclaaGreatAbsW3
set_option linter.unusedVariables false
set_option linter.unusedSimpArgs false
namespace Go.Proofs.YtebgneaehhaclaaGreat
open Go.Abs

theorem toX_enc (x : Ex) : ∃ k i m n t ks, x = .mk k i m n t ks := by cases x; exact ⟨_, _, _, _, _, _, rfl⟩

set_option maxRecDepth 100000 in
theorem spec_l4Kids (k : Int) (A : List Box) : ACalls Tryz.prog 100 [.int .i64 k] A (fun v A' => v = .int .i64 (kidsX k) ∧ A' = A) := by
  refine acalls_enter (cf := cf 15 [0, 2, 3, 4, 8, 10, 13]) foll Tryz.func100 Tryz.ntmps100 (by simp [cf]) ?_
  simp only [Tryz.f100, EnterK_some, zW, zX, zD, builtinA, isLeaf, const1, ustrA, simprocAttr, ti3, cf, Tryz.results100]
  repeat' first
    | (refine guardT_intro (fun h => ?_) (fun h => ?_) <;> (try simp only [decide_eq_true_eq, decide_eq_false_iff_not, Bool.not_eq_eq_eq_not, Bool.not_true, Bool.not_false] at h) <;> simp only [zW, zX, zD, builtinA, isLeaf, const1, ustrA, simprocAttr, ti3, cf, Tryz.results100, h])
    | (refine guardF_intro (fun h => ?_) (fun h => ?_) <;> (try simp only [decide_eq_true_eq, decide_eq_false_iff_not, Bool.not_eq_eq_eq_not, Bool.not_true, Bool.not_false] at h) <;> simp only [zW, zX, zD, builtinA, isLeaf, const1, ustrA, simprocAttr, ti3, cf, Tryz.results100, h])
    | (refine condK_intro (fun h => ?_) (fun h => ?_) <;> (try simp only [decide_eq_true_eq, decide_eq_false_iff_not, Bool.not_eq_eq_eq_not, Bool.not_true, Bool.not_false] at h) <;> simp only [zW, zX, zD, builtinA, isLeaf, const1, ustrA, simprocAttr, ti3, cf, Tryz.results100, h])
    | (refine guardDT_intro (fun h => ?_) (fun h => ?_) <;> (try simp only [decide_eq_true_eq, decide_eq_false_iff_not, Bool.not_eq_eq_eq_not, Bool.not_true, Bool.not_false] at h) <;> simp only [zW, zX, zD, builtinA, isLeaf, const1, ustrA, simprocAttr, ti3, cf, Tryz.results100, h])
    | (refine guardDF_intro (fun h => ?_) (fun h => ?_) <;> (try simp only [decide_eq_true_eq, decide_eq_false_iff_not, Bool.not_eq_eq_eq_not, Bool.not_true, Bool.not_false] at h) <;> simp only [zW, zX, zD, builtinA, isLeaf, const1, ustrA, simprocAttr, ti3, cf, Tryz.results100, h])
    | refine And.intro ?_ ?_
  all_goals simp [kidsX, *]

set_option maxRecDepth 100000 in
set_option maxHeartbeats 4000000 in
theorem spec_l4Own (k i : Int) (m n : List UInt8) (t : Ty) (ht : t.Ok) (hc : sz t ≤ 1048576) (ks : List (List AV)) (A : List Box) :
    ACalls Tryz.prog 101 [.agg [.int .i64 k, .int .i64 i, .str m, .str n, .int .i64 t.kind, .str t.mod, .str t.name, .slice (encs t.kids), .slice ks]] A (fun v A' => v = .bool (ownX k i m n t) ∧ A' = A) := by
  have hz := fun A => spec_l2Zero t A
  have hv := fun A => spec_TypeValid t ht hc A
  rw [encT4] at hz hv
  by_cases k3 : k = 3
  · by_cases h1 : i = 0
    · by_cases h2 : t = ty0
      · cases h3 : localB n with
        | false =>
          refine acalls_enter (cf := cf 87 [0, 1, 2, 5, 36, 38, 39, 54, 69]) foll Tryz.func101 Tryz.ntmps101 (by simp [cf]) ?_
          simp only [Tryz.f101, EnterK_some, zW, zX, zD, builtinA, isLeaf, const1, ustrA, simprocAttr, ti3, ti9, ti51, ti54, ca23, ca81, ca83, ca84, cf, Tryz.results101]
          simp only [zW, zX, zD, builtinA, isLeaf, const1, ustrA, simprocAttr, ti3, ti9, ti51, ti54, ca23, ca81, ca83, ca84, cf, Tryz.results101, decide_eq_true k3, decide_eq_true h1]
          refine callK_intro (by simp only [zW, zX, zD, builtinA, isLeaf, const1, ustrA, simprocAttr, Option.map_some]; rfl) (hz _) ?_ rfl; rintro v A' ⟨rfl, rfl⟩
          simp only [zW, zX, zD, builtinA, isLeaf, const1, ustrA, simprocAttr, ti3, ti9, ti51, ti54, ca23, ca81, ca83, ca84, cf, Tryz.results101, decide_eq_true h2]
          refine callK_intro (by simp only [zW, zX, zD, builtinA, isLeaf, const1, ustrA, simprocAttr, Option.map_some]; rfl) (spec_LocalName n _) ?_ rfl; rintro v A' ⟨rfl, rfl⟩
          simp only [zW, zX, zD, builtinA, isLeaf, const1, ustrA, simprocAttr, ti3, ti9, ti51, ti54, ca23, ca81, ca83, ca84, cf, Tryz.results101, h3]
          simp [ownX, k3, h3]
        | true =>
          by_cases h4 : m = []
          · refine acalls_enter (cf := cf 87 [0, 1, 2, 5, 36, 38, 39, 54, 69]) foll Tryz.func101 Tryz.ntmps101 (by simp [cf]) ?_
            simp only [Tryz.f101, EnterK_some, zW, zX, zD, builtinA, isLeaf, const1, ustrA, simprocAttr, ti3, ti9, ti51, ti54, ca23, ca81, ca83, ca84, cf, Tryz.results101]
            simp only [zW, zX, zD, builtinA, isLeaf, const1, ustrA, simprocAttr, ti3, ti9, ti51, ti54, ca23, ca81, ca83, ca84, cf, Tryz.results101, decide_eq_true k3, decide_eq_true h1]
            refine callK_intro (by simp only [zW, zX, zD, builtinA, isLeaf, const1, ustrA, simprocAttr, Option.map_some]; rfl) (hz _) ?_ rfl; rintro v A' ⟨rfl, rfl⟩
            simp only [zW, zX, zD, builtinA, isLeaf, const1, ustrA, simprocAttr, ti3, ti9, ti51, ti54, ca23, ca81, ca83, ca84, cf, Tryz.results101, decide_eq_true h2]
            refine callK_intro (by simp only [zW, zX, zD, builtinA, isLeaf, const1, ustrA, simprocAttr, Option.map_some]; rfl) (spec_LocalName n _) ?_ rfl; rintro v A' ⟨rfl, rfl⟩
            simp only [zW, zX, zD, builtinA, isLeaf, const1, ustrA, simprocAttr, ti3, ti9, ti51, ti54, ca23, ca81, ca83, ca84, cf, Tryz.results101, h3, decide_eq_true h4]
            simp [ownX, k3, h1, h2, h3, h4]
          · refine acalls_enter (cf := cf 87 [0, 1, 2, 5, 36, 38, 39, 54, 69]) foll Tryz.func101 Tryz.ntmps101 (by simp [cf]) ?_
            simp only [Tryz.f101, EnterK_some, zW, zX, zD, builtinA, isLeaf, const1, ustrA, simprocAttr, ti3, ti9, ti51, ti54, ca23, ca81, ca83, ca84, cf, Tryz.results101]
            simp only [zW, zX, zD, builtinA, isLeaf, const1, ustrA, simprocAttr, ti3, ti9, ti51, ti54, ca23, ca81, ca83, ca84, cf, Tryz.results101, decide_eq_true k3, decide_eq_true h1]
            refine callK_intro (by simp only [zW, zX, zD, builtinA, isLeaf, const1, ustrA, simprocAttr, Option.map_some]; rfl) (hz _) ?_ rfl; rintro v A' ⟨rfl, rfl⟩
            simp only [zW, zX, zD, builtinA, isLeaf, const1, ustrA, simprocAttr, ti3, ti9, ti51, ti54, ca23, ca81, ca83, ca84, cf, Tryz.results101, decide_eq_true h2]
            refine callK_intro (by simp only [zW, zX, zD, builtinA, isLeaf, const1, ustrA, simprocAttr, Option.map_some]; rfl) (spec_LocalName n _) ?_ rfl; rintro v A' ⟨rfl, rfl⟩
            simp only [zW, zX, zD, builtinA, isLeaf, const1, ustrA, simprocAttr, ti3, ti9, ti51, ti54, ca23, ca81, ca83, ca84, cf, Tryz.results101, h3, decide_eq_false h4]
            refine callK_intro (by simp only [zW, zX, zD, builtinA, isLeaf, const1, ustrA, simprocAttr, Option.map_some]; rfl) (spec_ModuleName m _) ?_ rfl; rintro v A' ⟨rfl, rfl⟩
            simp only [zW, zX, zD, builtinA, isLeaf, const1, ustrA, simprocAttr, ti3, ti9, ti51, ti54, ca23, ca81, ca83, ca84, cf, Tryz.results101]
            simp [ownX, k3, h1, h2, h3, h4]
      · refine acalls_enter (cf := cf 87 [0, 1, 2, 5, 36, 38, 39, 54, 69]) foll Tryz.func101 Tryz.ntmps101 (by simp [cf]) ?_
        simp only [Tryz.f101, EnterK_some, zW, zX, zD, builtinA, isLeaf, const1, ustrA, simprocAttr, ti3, ti9, ti51, ti54, ca23, ca81, ca83, ca84, cf, Tryz.results101]
        simp only [zW, zX, zD, builtinA, isLeaf, const1, ustrA, simprocAttr, ti3, ti9, ti51, ti54, ca23, ca81, ca83, ca84, cf, Tryz.results101, decide_eq_true k3, decide_eq_true h1]
        refine callK_intro (by simp only [zW, zX, zD, builtinA, isLeaf, const1, ustrA, simprocAttr, Option.map_some]; rfl) (hz _) ?_ rfl; rintro v A' ⟨rfl, rfl⟩
        simp only [zW, zX, zD, builtinA, isLeaf, const1, ustrA, simprocAttr, ti3, ti9, ti51, ti54, ca23, ca81, ca83, ca84, cf, Tryz.results101, decide_eq_false h2]
        simp [ownX, k3, h2]
    · refine acalls_enter (cf := cf 87 [0, 1, 2, 5, 36, 38, 39, 54, 69]) foll Tryz.func101 Tryz.ntmps101 (by simp [cf]) ?_
      simp only [Tryz.f101, EnterK_some, zW, zX, zD, builtinA, isLeaf, const1, ustrA, simprocAttr, ti3, ti9, ti51, ti54, ca23, ca81, ca83, ca84, cf, Tryz.results101]
      simp only [zW, zX, zD, builtinA, isLeaf, const1, ustrA, simprocAttr, ti3, ti9, ti51, ti54, ca23, ca81, ca83, ca84, cf, Tryz.results101, decide_eq_true k3, decide_eq_false h1]
      simp [ownX, k3, h1]
  · by_cases h1 : m = []
    · by_cases h2 : n = []
      · by_cases k1 : k = 1
        · by_cases h3 : 0 ≤ i
          · by_cases h4 : i ≤ 12
            · refine acalls_enter (cf := cf 87 [0, 1, 2, 5, 36, 38, 39, 54, 69]) foll Tryz.func101 Tryz.ntmps101 (by simp [cf]) ?_
              simp only [Tryz.f101, EnterK_some, zW, zX, zD, builtinA, isLeaf, const1, ustrA, simprocAttr, ti3, ti9, ti51, ti54, ca23, ca81, ca83, ca84, cf, Tryz.results101]
              simp only [zW, zX, zD, builtinA, isLeaf, const1, ustrA, simprocAttr, ti3, ti9, ti51, ti54, ca23, ca81, ca83, ca84, cf, Tryz.results101, decide_eq_false k3, decide_eq_true h1, decide_eq_true h2, decide_eq_true k1, decide_eq_true h3, decide_eq_true h4]
              refine callK_intro (by simp only [zW, zX, zD, builtinA, isLeaf, const1, ustrA, simprocAttr, Option.map_some]; rfl) (hz _) ?_ rfl; rintro v A' ⟨rfl, rfl⟩
              simp only [zW, zX, zD, builtinA, isLeaf, const1, ustrA, simprocAttr, ti3, ti9, ti51, ti54, ca23, ca81, ca83, ca84, cf, Tryz.results101]
              simp [ownX, k3, k1, h1, h2, h3, h4]
            · refine acalls_enter (cf := cf 87 [0, 1, 2, 5, 36, 38, 39, 54, 69]) foll Tryz.func101 Tryz.ntmps101 (by simp [cf]) ?_
              simp only [Tryz.f101, EnterK_some, zW, zX, zD, builtinA, isLeaf, const1, ustrA, simprocAttr, ti3, ti9, ti51, ti54, ca23, ca81, ca83, ca84, cf, Tryz.results101]
              simp only [zW, zX, zD, builtinA, isLeaf, const1, ustrA, simprocAttr, ti3, ti9, ti51, ti54, ca23, ca81, ca83, ca84, cf, Tryz.results101, decide_eq_false k3, decide_eq_true h1, decide_eq_true h2, decide_eq_true k1, decide_eq_true h3, decide_eq_false h4]
              simp [ownX, k3, k1, h1, h2, h3, h4]
          · refine acalls_enter (cf := cf 87 [0, 1, 2, 5, 36, 38, 39, 54, 69]) foll Tryz.func101 Tryz.ntmps101 (by simp [cf]) ?_
            simp only [Tryz.f101, EnterK_some, zW, zX, zD, builtinA, isLeaf, const1, ustrA, simprocAttr, ti3, ti9, ti51, ti54, ca23, ca81, ca83, ca84, cf, Tryz.results101]
            simp only [zW, zX, zD, builtinA, isLeaf, const1, ustrA, simprocAttr, ti3, ti9, ti51, ti54, ca23, ca81, ca83, ca84, cf, Tryz.results101, decide_eq_false k3, decide_eq_true h1, decide_eq_true h2, decide_eq_true k1, decide_eq_false h3]
            simp [ownX, k3, k1, h1, h2, h3]
        · by_cases k2 : k = 2
          · by_cases h3 : 0 ≤ i
            · by_cases h4 : i ≤ 99
              · refine acalls_enter (cf := cf 87 [0, 1, 2, 5, 36, 38, 39, 54, 69]) foll Tryz.func101 Tryz.ntmps101 (by simp [cf]) ?_
                simp only [Tryz.f101, EnterK_some, zW, zX, zD, builtinA, isLeaf, const1, ustrA, simprocAttr, ti3, ti9, ti51, ti54, ca23, ca81, ca83, ca84, cf, Tryz.results101]
                simp only [zW, zX, zD, builtinA, isLeaf, const1, ustrA, simprocAttr, ti3, ti9, ti51, ti54, ca23, ca81, ca83, ca84, cf, Tryz.results101, decide_eq_false k3, decide_eq_true h1, decide_eq_true h2, decide_eq_false k1, decide_eq_true k2, decide_eq_true h3, decide_eq_true h4]
                refine callK_intro (by simp only [zW, zX, zD, builtinA, isLeaf, const1, ustrA, simprocAttr, Option.map_some]; rfl) (hz _) ?_ rfl; rintro v A' ⟨rfl, rfl⟩
                simp only [zW, zX, zD, builtinA, isLeaf, const1, ustrA, simprocAttr, ti3, ti9, ti51, ti54, ca23, ca81, ca83, ca84, cf, Tryz.results101]
                simp [ownX, k3, k1, k2, h1, h2, h3, h4]
              · refine acalls_enter (cf := cf 87 [0, 1, 2, 5, 36, 38, 39, 54, 69]) foll Tryz.func101 Tryz.ntmps101 (by simp [cf]) ?_
                simp only [Tryz.f101, EnterK_some, zW, zX, zD, builtinA, isLeaf, const1, ustrA, simprocAttr, ti3, ti9, ti51, ti54, ca23, ca81, ca83, ca84, cf, Tryz.results101]
                simp only [zW, zX, zD, builtinA, isLeaf, const1, ustrA, simprocAttr, ti3, ti9, ti51, ti54, ca23, ca81, ca83, ca84, cf, Tryz.results101, decide_eq_false k3, decide_eq_true h1, decide_eq_true h2, decide_eq_false k1, decide_eq_true k2, decide_eq_true h3, decide_eq_false h4]
                simp [ownX, k3, k1, k2, h1, h2, h3, h4]
            · refine acalls_enter (cf := cf 87 [0, 1, 2, 5, 36, 38, 39, 54, 69]) foll Tryz.func101 Tryz.ntmps101 (by simp [cf]) ?_
              simp only [Tryz.f101, EnterK_some, zW, zX, zD, builtinA, isLeaf, const1, ustrA, simprocAttr, ti3, ti9, ti51, ti54, ca23, ca81, ca83, ca84, cf, Tryz.results101]
              simp only [zW, zX, zD, builtinA, isLeaf, const1, ustrA, simprocAttr, ti3, ti9, ti51, ti54, ca23, ca81, ca83, ca84, cf, Tryz.results101, decide_eq_false k3, decide_eq_true h1, decide_eq_true h2, decide_eq_false k1, decide_eq_true k2, decide_eq_false h3]
              simp [ownX, k3, k1, k2, h1, h2, h3]
          · by_cases k4 : k = 4
            · by_cases h3 : i = 0
              · refine acalls_enter (cf := cf 87 [0, 1, 2, 5, 36, 38, 39, 54, 69]) foll Tryz.func101 Tryz.ntmps101 (by simp [cf]) ?_
                simp only [Tryz.f101, EnterK_some, zW, zX, zD, builtinA, isLeaf, const1, ustrA, simprocAttr, ti3, ti9, ti51, ti54, ca23, ca81, ca83, ca84, cf, Tryz.results101]
                simp only [zW, zX, zD, builtinA, isLeaf, const1, ustrA, simprocAttr, ti3, ti9, ti51, ti54, ca23, ca81, ca83, ca84, cf, Tryz.results101, decide_eq_false k3, decide_eq_true h1, decide_eq_true h2, decide_eq_false k1, decide_eq_false k2, decide_eq_true k4, decide_eq_true h3]
                refine callK_intro (by simp only [zW, zX, zD, builtinA, isLeaf, const1, ustrA, simprocAttr, Option.map_some]; rfl) (hv _) ?_ rfl; rintro v A' ⟨rfl, rfl⟩
                simp only [zW, zX, zD, builtinA, isLeaf, const1, ustrA, simprocAttr, ti3, ti9, ti51, ti54, ca23, ca81, ca83, ca84, cf, Tryz.results101]
                simp [ownX, k3, k1, k2, k4, h1, h2, h3]
              · refine acalls_enter (cf := cf 87 [0, 1, 2, 5, 36, 38, 39, 54, 69]) foll Tryz.func101 Tryz.ntmps101 (by simp [cf]) ?_
                simp only [Tryz.f101, EnterK_some, zW, zX, zD, builtinA, isLeaf, const1, ustrA, simprocAttr, ti3, ti9, ti51, ti54, ca23, ca81, ca83, ca84, cf, Tryz.results101]
                simp only [zW, zX, zD, builtinA, isLeaf, const1, ustrA, simprocAttr, ti3, ti9, ti51, ti54, ca23, ca81, ca83, ca84, cf, Tryz.results101, decide_eq_false k3, decide_eq_true h1, decide_eq_true h2, decide_eq_false k1, decide_eq_false k2, decide_eq_true k4, decide_eq_false h3]
                simp [ownX, k3, k1, k2, k4, h1, h2, h3]
            · by_cases h3 : i = 0
              · refine acalls_enter (cf := cf 87 [0, 1, 2, 5, 36, 38, 39, 54, 69]) foll Tryz.func101 Tryz.ntmps101 (by simp [cf]) ?_
                simp only [Tryz.f101, EnterK_some, zW, zX, zD, builtinA, isLeaf, const1, ustrA, simprocAttr, ti3, ti9, ti51, ti54, ca23, ca81, ca83, ca84, cf, Tryz.results101]
                simp only [zW, zX, zD, builtinA, isLeaf, const1, ustrA, simprocAttr, ti3, ti9, ti51, ti54, ca23, ca81, ca83, ca84, cf, Tryz.results101, decide_eq_false k3, decide_eq_true h1, decide_eq_true h2, decide_eq_false k1, decide_eq_false k2, decide_eq_false k4, decide_eq_true h3]
                refine callK_intro (by simp only [zW, zX, zD, builtinA, isLeaf, const1, ustrA, simprocAttr, Option.map_some]; rfl) (hz _) ?_ rfl; rintro v A' ⟨rfl, rfl⟩
                simp only [zW, zX, zD, builtinA, isLeaf, const1, ustrA, simprocAttr, ti3, ti9, ti51, ti54, ca23, ca81, ca83, ca84, cf, Tryz.results101]
                simp [ownX, k3, k1, k2, k4, h1, h2, h3]
              · refine acalls_enter (cf := cf 87 [0, 1, 2, 5, 36, 38, 39, 54, 69]) foll Tryz.func101 Tryz.ntmps101 (by simp [cf]) ?_
                simp only [Tryz.f101, EnterK_some, zW, zX, zD, builtinA, isLeaf, const1, ustrA, simprocAttr, ti3, ti9, ti51, ti54, ca23, ca81, ca83, ca84, cf, Tryz.results101]
                simp only [zW, zX, zD, builtinA, isLeaf, const1, ustrA, simprocAttr, ti3, ti9, ti51, ti54, ca23, ca81, ca83, ca84, cf, Tryz.results101, decide_eq_false k3, decide_eq_true h1, decide_eq_true h2, decide_eq_false k1, decide_eq_false k2, decide_eq_false k4, decide_eq_false h3]
                simp [ownX, k3, k1, k2, k4, h1, h2, h3]
      · refine acalls_enter (cf := cf 87 [0, 1, 2, 5, 36, 38, 39, 54, 69]) foll Tryz.func101 Tryz.ntmps101 (by simp [cf]) ?_
        simp only [Tryz.f101, EnterK_some, zW, zX, zD, builtinA, isLeaf, const1, ustrA, simprocAttr, ti3, ti9, ti51, ti54, ca23, ca81, ca83, ca84, cf, Tryz.results101]
        simp only [zW, zX, zD, builtinA, isLeaf, const1, ustrA, simprocAttr, ti3, ti9, ti51, ti54, ca23, ca81, ca83, ca84, cf, Tryz.results101, decide_eq_false k3, decide_eq_true h1, decide_eq_false h2]
        simp [ownX, k3, h2]
    · refine acalls_enter (cf := cf 87 [0, 1, 2, 5, 36, 38, 39, 54, 69]) foll Tryz.func101 Tryz.ntmps101 (by simp [cf]) ?_
      simp only [Tryz.f101, EnterK_some, zW, zX, zD, builtinA, isLeaf, const1, ustrA, simprocAttr, ti3, ti9, ti51, ti54, ca23, ca81, ca83, ca84, cf, Tryz.results101]
      simp only [zW, zX, zD, builtinA, isLeaf, const1, ustrA, simprocAttr, ti3, ti9, ti51, ti54, ca23, ca81, ca83, ca84, cf, Tryz.results101, decide_eq_false k3, decide_eq_false h1]
      simp [ownX, k3, h1]

set_option maxRecDepth 100000 in
theorem spec_l4Shape (x : Ex) (hx : x.Ok) (hc : szX x ≤ 1048576) : ∀ (d : Int) (A : List Box), -1000 ≤ d → d ≤ 1000 → ACalls Tryz.prog 66 [.agg (encX x), .int .i64 d] A (fun v A' => v = .bool (shapeX x d) ∧ A' = A) := by
  induction x using Ex.ind with
  | h k i m n t ks ih =>
    intro d A h0 h1
    obtain ⟨hm, hn, ht, hks, hok⟩ := hx
    have hsx : szX (.mk k i m n t ks) = m.length + n.length + sz t + (ks.length + szXs ks) := by rw [szX]
    rw [hsx] at hc
    rw [encX, shapeX]
    refine acalls_enter (cf := cf 38 [0, 1, 2, 4, 5, 21, 26, 37]) foll Tryz.func66 Tryz.ntmps66 (by simp [cf]) ?_
    simp only [Tryz.f66, EnterK_some, zW, zX, zD, builtinA, isLeaf, const1, ustrA, simprocAttr, ti3, ti52, ti54, ca66, ca100, ca101, cf, Tryz.results66]
    refine .inl ⟨by kernel_rfl, by kernel_rfl, ?_⟩
    by_cases hd : d < 1
    · simp only [decide_eq_true hd]
      simp only [zW, zX, zD, builtinA, isLeaf, const1, ustrA, simprocAttr, ti3, ti52, ti54, ca66, ca100, ca101, cf, Tryz.results66]
      rw [decide_eq_false (show ¬ (1 : Int) ≤ d by omega)]
      rfl
    · simp only [decide_eq_false hd]
      simp only [zW, zX, zD, builtinA, isLeaf, const1, ustrA, simprocAttr, ti3, ti52, ti54, ca66, ca100, ca101, cf, Tryz.results66]
      refine callD_intro (by simp only [zW, zX, zD, builtinA, isLeaf, const1, ustrA, simprocAttr, Option.map_some] <;> rfl) (spec_l4Kids k _) ?_ rfl
      rw [decide_eq_true (show (1 : Int) ≤ d by omega)]
      by_cases hk : kidsX k = ks.length
      · simp only [zW, zX, zD, builtinA, isLeaf, const1, ustrA, simprocAttr, ti3, ti52, ti54, ca66, ca100, ca101, cf, Tryz.results66, encXs_length, decide_eq_true hk]
        refine callD_intro (by simp only [zW, zX, zD, builtinA, isLeaf, const1, ustrA, simprocAttr, Option.map_some] <;> rfl) (spec_l4Own k i m n t ht (by omega) _ _) ?_ rfl
        by_cases ho : ownX k i m n t = true
        · simp only [zW, zX, zD, builtinA, isLeaf, const1, ustrA, simprocAttr, ti3, ti52, ti54, ca66, ca100, ca101, cf, Tryz.results66, ho]
          have hw : IntKind.i64.wrap (d - 1) = d - 1 := wrap64 (by omega) (by omega)
          refine aloop_intro [1, 2, 5] (fun e A' => ∃ j, j ≤ ks.length ∧ shapeXs (ks.take j) (d - 1) = true ∧ e = [(1, .int .i64 d), (2, .ptr A.length 0), (5, .int .i64 j)] ∧ A' = A ++ [.cells [.int .i64 k, .int .i64 i, .str m, .str n, .int .i64 t.kind, .str t.mod, .str t.name, .slice (encs t.kids), .slice (encXs ks)]]) (fun e _ => ks.length - (intOf (Abs.look 5 e)).toNat) ?_ ?_
          · simp only [zW, zX, zD, builtinA, isLeaf, const1, ustrA, simprocAttr, ti3, ti52, ti54, ca66, ca100, ca101, cf, Tryz.results66]
            exact ⟨0, by omega, by simp [shapeXs], rfl⟩
          · rintro e A' ⟨j, hi, hsh, rfl, rfl⟩
            simp only [zW, zX, zD, builtinA, isLeaf, const1, ustrA, simprocAttr, ti3, ti52, ti54, ca66, ca100, ca101, cf, Tryz.results66, encXs_length]
            refine condK_intro (fun h2 => ?_) (fun h2 => ?_)
            · have hi2 : j < ks.length := by simpa using h2
              have he := encXs_getD hi2
              have hmm := ex_mem hi2
              have hi1 : IntKind.i64.wrap ((j : Int) + 1) = ((j + 1 : Nat) : Int) := by rw [wrap64 (by omega) (by omega)]; rfl
              have hst := shapeXs_take hi2 (d - 1)
              have hszm := szXs_mem hmm
              simp only [zW, zX, zD, builtinA, isLeaf, const1, ustrA, simprocAttr, ti3, ti52, ti54, ca66, ca100, ca101, cf, Tryz.results66, he, encX_length, encX_take, encXs_length, hw]
              refine ⟨⟨by omega, by omega⟩, ?_⟩
              refine callK_intro (by simp only [zW, zX, zD, builtinA, isLeaf, const1, ustrA, simprocAttr, frzL_encX, Option.map_some]; rfl) (ih _ hmm (hok _ hmm) (by omega) _ _ (by omega) (by omega)) ?_ rfl; rintro v A' ⟨rfl, rfl⟩
              cases hs : shapeX (ks.getD j ex0) (d - 1) with
              | true =>
                rw [hsh, hs] at hst
                simp only [zW, zX, zD, builtinA, isLeaf, const1, ustrA, simprocAttr, ti3, ti52, ti54, ca66, ca100, ca101, cf, Tryz.results66, hi1, LoopK_eq]
                refine ⟨⟨j + 1, by omega, hst, rfl⟩, ?_⟩
                simp only [intOf]
                omega
              | false =>
                simp only [zW, zX, zD, builtinA, isLeaf, const1, ustrA, simprocAttr, ti3, ti52, ti54, ca66, ca100, ca101, cf, Tryz.results66]
                rw [shapeXs_false hi2 hs]
            · simp only [zW, zX, zD, builtinA, isLeaf, const1, ustrA, simprocAttr, ti3, ti52, ti54, ca66, ca100, ca101, cf, Tryz.results66]
              have : j = ks.length := by simp at h2; omega
              subst this
              rw [List.take_length] at hsh
              rw [hsh]
        · simp only [zW, zX, zD, builtinA, isLeaf, const1, ustrA, simprocAttr, ti3, ti52, ti54, ca66, ca100, ca101, cf, Tryz.results66, ho]
      · simp only [zW, zX, zD, builtinA, isLeaf, const1, ustrA, simprocAttr, ti3, ti52, ti54, ca66, ca100, ca101, cf, Tryz.results66, encXs_length, decide_eq_false hk]

theorem cntUs_take {l : List Ex} {most : Int} {i : Nat} (h : i < l.length) (hm : cntUs (l.take i) most 1 ≤ most) : cntUs (l.take (i + 1)) most 1 = cntUs (l.take i) most 1 + cntU (l.getD i ex0) (most - cntUs (l.take i) most 1) := by
  have key : ∀ (l : List Ex) (n : Int) (i : Nat), i < l.length → cntUs (l.take i) most n ≤ most → cntUs (l.take (i + 1)) most n = cntUs (l.take i) most n + cntU (l.getD i ex0) (most - cntUs (l.take i) most n) := by
    intro l
    induction l with
    | nil => intro n i h; simp at h
    | cons x l ih =>
      intro n i h hm
      cases i with
      | zero =>
        simp only [List.take_zero, cntUs, List.take_succ_cons, List.getD_cons_zero] at hm ⊢
        rw [if_pos hm]
      | succ i =>
        simp only [List.take_succ_cons, cntUs, List.getD_cons_succ] at hm ⊢
        by_cases hn : n ≤ most
        · rw [if_pos hn] at hm
          simp only [if_pos hn]
          exact ih _ i (by simpa using h) hm
        · rw [if_neg hn] at hm; omega
  exact key l 1 i h hm
theorem cntUs_over {l : List Ex} {most : Int} {i : Nat} (hm : most < cntUs (l.take i) most 1) (hi : i ≤ l.length) : cntUs l most 1 = cntUs (l.take i) most 1 := by
  have key : ∀ (l : List Ex) (n : Int) (i : Nat), most < cntUs (l.take i) most n → cntUs l most n = cntUs (l.take i) most n := by
    intro l
    induction l with
    | nil => intro n i h; simp
    | cons x l ih =>
      intro n i h
      cases i with
      | zero =>
        simp only [List.take_zero, cntUs] at h ⊢
        rw [if_neg (by omega)]
      | succ i =>
        simp only [List.take_succ_cons, cntUs] at h ⊢
        by_cases hn : n ≤ most
        · rw [if_pos hn] at h
          simp only [if_pos hn]
          exact ih _ i h
        · simp only [if_neg hn]
  exact key l 1 i hm
theorem countXs_take_le (l : List Ex) : ∀ i, countXs (l.take i) ≤ countXs l := by
  induction l with
  | nil => intro i; simp [countXs]
  | cons t l ih =>
    intro i
    cases i with
    | zero => simp [countXs]
    | succ i => simp only [List.take_succ_cons, countXs]; have := ih i; omega

set_option maxRecDepth 100000 in
theorem spec_l4Count (x : Ex) (hx : x.Ok) (hc : szX x ≤ 1048576) : ∀ (most : Int) (A : List Box), 0 ≤ most → most ≤ 1000 → ACalls Tryz.prog 67 [.agg (encX x), .int .i64 most] A (fun v A' => v = .int .i64 (cntU x most) ∧ A' = A) := by
  induction x using Ex.ind with
  | h k i m n t ks ih =>
    intro most A h0 h1
    obtain ⟨hm, hn, ht, hks, hok⟩ := hx
    have hsx : szX (.mk k i m n t ks) = m.length + n.length + sz t + (ks.length + szXs ks) := by rw [szX]
    rw [hsx] at hc
    have hcx := countXs_sz ks
    have hlen : ks.length ≤ 1048576 := by omega
    have hU : ∀ j, cntUs (ks.take j) most 1 ≤ 2000000 ∧ 1 ≤ cntUs (ks.take j) most 1 := fun j => by
      have h2 := cntUs_is (ks.take j) most 1 h0 (by omega)
      have h3 := countXs_take_le ks j
      omega
    rw [encX, cntU]
    refine acalls_enter (cf := cf 31 [0, 1, 2, 4, 5, 6, 16]) foll Tryz.func67 Tryz.ntmps67 (by simp [cf]) ?_
    simp only [Tryz.f67, EnterK_some, zW, zX, zD, builtinA, isLeaf, const1, ustrA, simprocAttr, ti3, ti52, ti54, ca67, cf, Tryz.results67]
    refine aloop_intro [1, 2, 5, 6] (fun e A' => ∃ j, j ≤ ks.length ∧ e = [(1, .int .i64 most), (2, .ptr A.length 0), (5, .int .i64 (cntUs (ks.take j) most 1)), (6, .int .i64 j)] ∧ A' = A ++ [.cells [.int .i64 k, .int .i64 i, .str m, .str n, .int .i64 t.kind, .str t.mod, .str t.name, .slice (encs t.kids), .slice (encXs ks)]]) (fun e _ => ks.length - (intOf (Abs.look 6 e)).toNat) ?_ ?_
    · simp only [zW, zX, zD, builtinA, isLeaf, const1, ustrA, simprocAttr, ti3, ti52, ti54, ca67, cf, Tryz.results67]
      exact ⟨0, by omega, by simp [cntUs]⟩
    · rintro e A' ⟨j, hi, rfl, rfl⟩
      have hUj := hU j
      have hUj1 := hU (j + 1)
      simp only [zW, zX, zD, builtinA, isLeaf, const1, ustrA, simprocAttr, ti3, ti52, ti54, ca67, cf, Tryz.results67, encXs_length]
      by_cases h2 : j < ks.length
      · have d1 : decide ((j : Int) < (ks.length : Int)) = true := by simp; omega
        by_cases h3 : cntUs (ks.take j) most 1 ≤ most
        · have he := encXs_getD h2
          have hmm := ex_mem h2
          have hi1 : IntKind.i64.wrap ((j : Int) + 1) = ((j + 1 : Nat) : Int) := by rw [wrap64 (by omega) (by omega)]; rfl
          have hct := cntUs_take h2 h3
          have hszm := szXs_mem hmm
          have hw0 : IntKind.i64.wrap (most - cntUs (ks.take j) most 1) = most - cntUs (ks.take j) most 1 := wrap64 (by omega) (by omega)
          have hw : IntKind.i64.wrap (cntUs (ks.take j) most 1 + cntU (ks.getD j ex0) (most - cntUs (ks.take j) most 1)) = cntUs (ks.take (j + 1)) most 1 := by
            rw [← hct]; exact wrap64 (by omega) (by omega)
          simp only [zW, zX, zD, builtinA, isLeaf, const1, ustrA, simprocAttr, ti3, ti52, ti54, ca67, cf, Tryz.results67, d1, decide_eq_true h3, he, encX_length, encX_take, encXs_length, hw0]
          refine ⟨⟨by omega, by omega⟩, ?_⟩
          refine callK_intro (by simp only [zW, zX, zD, builtinA, isLeaf, const1, ustrA, simprocAttr, frzL_encX, Option.map_some]; rfl) (ih _ hmm (hok _ hmm) (by omega) _ _ (by omega) (by omega)) ?_ rfl; rintro v A' ⟨rfl, rfl⟩
          simp only [zW, zX, zD, builtinA, isLeaf, const1, ustrA, simprocAttr, ti3, ti52, ti54, ca67, cf, Tryz.results67, hi1, hw, LoopK_eq]
          refine ⟨⟨j + 1, by omega, rfl⟩, ?_⟩
          simp only [intOf]
          omega
        · simp only [zW, zX, zD, builtinA, isLeaf, const1, ustrA, simprocAttr, ti3, ti52, ti54, ca67, cf, Tryz.results67, d1, decide_eq_false h3]
          rw [cntUs_over (by omega) hi]
      · have d1 : decide ((j : Int) < (ks.length : Int)) = false := by simp; omega
        have : j = ks.length := by omega
        subst this
        simp only [zW, zX, zD, builtinA, isLeaf, const1, ustrA, simprocAttr, ti3, ti52, ti54, ca67, cf, Tryz.results67, d1]
        try rw [List.take_length]

set_option maxRecDepth 100000 in
theorem spec_ExprValid (x : Ex) (hx : x.Ok) (hc : szX x ≤ 1048576) (A : List Box) : ACalls Tryz.prog 36 [.agg (encX x)] A (fun v A' => v = .bool (validX x) ∧ A' = A) := by
  have hu := cntU_is x 400 (by omega)
  have hd : decide (cntU x 400 ≤ 400) = decide (countX x ≤ 400) := by
    rw [Bool.eq_iff_iff]; simp only [decide_eq_true_eq]
    constructor
    · intro h
      rcases Nat.lt_or_ge 400 (countX x) with h' | h'
      · have := hu.2.2.2 (by omega); omega
      · exact h'
    · intro h; rw [hu.2.2.1 (by omega)]; omega
  refine acalls_enter (cf := cf 10 [0, 1, 2]) foll Tryz.func36 Tryz.ntmps36 (by simp [cf]) ?_
  simp only [Tryz.f36, EnterK_some, zW, zX, zD, builtinA, isLeaf, const1, ustrA, simprocAttr, ti3, ti54, ca66, ca67, cf, Tryz.results36]
  simp only [encX_take]
  refine ⟨by rw [encX_length]; omega, ?_⟩
  refine callK_intro (by simp only [zW, zX, zD, builtinA, isLeaf, const1, ustrA, simprocAttr, frzL_encX, Option.map_some]; rfl) (spec_l4Shape x hx hc _ _ (by omega) (by omega)) ?_ rfl; rintro v A' ⟨rfl, rfl⟩
  rw [validX]
  cases hs : shapeX x 40 with
  | true =>
    simp only [zW, zX, zD, builtinA, isLeaf, const1, ustrA, simprocAttr, ti3, ti54, ca66, ca67, cf, Tryz.results36, encX_take]
    refine ⟨by rw [encX_length]; omega, ?_⟩
    refine callK_intro (by simp only [zW, zX, zD, builtinA, isLeaf, const1, ustrA, simprocAttr, frzL_encX, Option.map_some]; rfl) (spec_l4Count x hx hc _ _ (by omega) (by omega)) ?_ rfl; rintro v A' ⟨rfl, rfl⟩
    simp only [zW, zX, zD, builtinA, isLeaf, const1, ustrA, simprocAttr, ti3, ti54, ca66, ca67, cf, Tryz.results36, hd]
    try simp
  | false =>
    simp only [zW, zX, zD, builtinA, isLeaf, const1, ustrA, simprocAttr, ti3, ti54, ca66, ca67, cf, Tryz.results36]
end Go.Proofs.YtebgneaehhaclaaGreat
