/- The names of types, values and modules: what the program's and the model's functions answer. -/
import Derived.Test.YtejbjgmgdbcddaaGreatAbsW3
import Derived.Test.YtejbjgmgdbcddaaGreatFacts
set_option linter.unusedVariables false
set_option linter.unusedSimpArgs false
namespace Go.Proofs.YtejbjgmgdbcddaaGreat
open Go.Abs

def localB (s : List UInt8) : Bool := s.length == 1 && (decide (97 ≤ (s.getD 0 0).toNat) && decide ((s.getD 0 0).toNat ≤ 122))
def moduleB (s : List UInt8) : Bool := (s.length == 1 && (decide (65 ≤ (s.getD 0 0).toNat) && decide ((s.getD 0 0).toNat ≤ 90))) && !decide (s = [73])

theorem local_no (s : List UInt8) (h : ¬ (s.length : Int) = 1) : localB s = false := by
  have : s.length ≠ 1 := by omega
  simp [localB, this]
theorem local_lo (s : List UInt8) (h : ¬ (97 : Int) ≤ (s.getD 0 0).toNat) : localB s = false := by
  have : ¬ 97 ≤ (s.getD 0 0).toNat := by omega
  unfold localB; rw [decide_eq_false this]; simp
theorem local_hi (s : List UInt8) (h1 : (s.length : Int) = 1) (h : (97 : Int) ≤ (s.getD 0 0).toNat) : localB s = decide (((s.getD 0 0).toNat : Int) ≤ 122) := by
  have e1 : s.length = 1 := by omega
  have e2 : 97 ≤ (s.getD 0 0).toNat := by omega
  unfold localB; rw [decide_eq_true e2, e1]
  rw [Bool.eq_iff_iff]; simp; omega
theorem module_no (s : List UInt8) (h : ¬ (s.length : Int) = 1) : moduleB s = false := by
  have : s.length ≠ 1 := by omega
  simp [moduleB, this]
theorem module_lo (s : List UInt8) (h : ¬ (65 : Int) ≤ (s.getD 0 0).toNat) : moduleB s = false := by
  have : ¬ 65 ≤ (s.getD 0 0).toNat := by omega
  unfold moduleB; rw [decide_eq_false this]; simp
theorem module_up (s : List UInt8) (h : ¬ ((s.getD 0 0).toNat : Int) ≤ 90) : moduleB s = false := by
  have : ¬ (s.getD 0 0).toNat ≤ 90 := by omega
  unfold moduleB; rw [decide_eq_false this]; simp
theorem module_hi (s : List UInt8) (h1 : (s.length : Int) = 1) (h : (65 : Int) ≤ (s.getD 0 0).toNat) (h2 : ((s.getD 0 0).toNat : Int) ≤ 90) : moduleB s = !decide (s = [73]) := by
  have e1 : s.length = 1 := by omega
  have e2 : 65 ≤ (s.getD 0 0).toNat := by omega
  have e3 : (s.getD 0 0).toNat ≤ 90 := by omega
  unfold moduleB; rw [decide_eq_true e2, decide_eq_true e3, e1]; simp

set_option maxRecDepth 100000 in
theorem impl_LocalName (s : List UInt8) (A : List Box) : ACalls Tryz.prog 50 [.str s] A (fun v A' => v = .bool (localB s) ∧ A' = A) := by
  refine acalls_enter (cf := cf 16 [0, 2]) foll Tryz.func50 Tryz.ntmps50 (by simp [cf]) ?_
  simp only [Tryz.f50, EnterK_some, zW, zX, zD, builtinA, isLeaf, const1, ustrA, simprocAttr, ti3, ti5, ti9, cf, Tryz.results50]
  repeat' first
    | (refine guardT_intro (fun h => ?_) (fun h => ?_) <;> (try simp only [decide_eq_true_eq, decide_eq_false_iff_not, Bool.not_eq_eq_eq_not, Bool.not_true, Bool.not_false] at h) <;> simp only [zW, zX, zD, builtinA, isLeaf, const1, ustrA, simprocAttr, ti3, ti5, ti9, cf, Tryz.results50, h])
    | (refine guardF_intro (fun h => ?_) (fun h => ?_) <;> (try simp only [decide_eq_true_eq, decide_eq_false_iff_not, Bool.not_eq_eq_eq_not, Bool.not_true, Bool.not_false] at h) <;> simp only [zW, zX, zD, builtinA, isLeaf, const1, ustrA, simprocAttr, ti3, ti5, ti9, cf, Tryz.results50, h])
    | (refine condK_intro (fun h => ?_) (fun h => ?_) <;> (try simp only [decide_eq_true_eq, decide_eq_false_iff_not, Bool.not_eq_eq_eq_not, Bool.not_true, Bool.not_false] at h) <;> simp only [zW, zX, zD, builtinA, isLeaf, const1, ustrA, simprocAttr, ti3, ti5, ti9, cf, Tryz.results50, h])
    | (refine guardDT_intro (fun h => ?_) (fun h => ?_) <;> (try simp only [decide_eq_true_eq, decide_eq_false_iff_not, Bool.not_eq_eq_eq_not, Bool.not_true, Bool.not_false] at h) <;> simp only [zW, zX, zD, builtinA, isLeaf, const1, ustrA, simprocAttr, ti3, ti5, ti9, cf, Tryz.results50, h])
    | (refine guardDF_intro (fun h => ?_) (fun h => ?_) <;> (try simp only [decide_eq_true_eq, decide_eq_false_iff_not, Bool.not_eq_eq_eq_not, Bool.not_true, Bool.not_false] at h) <;> simp only [zW, zX, zD, builtinA, isLeaf, const1, ustrA, simprocAttr, ti3, ti5, ti9, cf, Tryz.results50, h])
    | refine And.intro ?_ ?_
  · omega
  · rename_i h1
    rw [local_hi s h1 h]
  · rw [local_lo s ‹_›]
  · rw [local_no s ‹_›]
set_option maxRecDepth 100000 in
theorem spec_LocalName (s : List UInt8) (A : List Box) : ACalls Tryz.prog 36 [.str s] A (fun v A' => v = .bool (localB s) ∧ A' = A) := by
  refine acalls_enter (cf := cf 16 [0, 2]) foll Tryz.func36 Tryz.ntmps36 (by simp [cf]) ?_
  simp only [Tryz.f36, EnterK_some, zW, zX, zD, builtinA, isLeaf, const1, ustrA, simprocAttr, ti3, ti5, ti9, cf, Tryz.results36]
  repeat' first
    | (refine guardT_intro (fun h => ?_) (fun h => ?_) <;> (try simp only [decide_eq_true_eq, decide_eq_false_iff_not, Bool.not_eq_eq_eq_not, Bool.not_true, Bool.not_false] at h) <;> simp only [zW, zX, zD, builtinA, isLeaf, const1, ustrA, simprocAttr, ti3, ti5, ti9, cf, Tryz.results36, h])
    | (refine guardF_intro (fun h => ?_) (fun h => ?_) <;> (try simp only [decide_eq_true_eq, decide_eq_false_iff_not, Bool.not_eq_eq_eq_not, Bool.not_true, Bool.not_false] at h) <;> simp only [zW, zX, zD, builtinA, isLeaf, const1, ustrA, simprocAttr, ti3, ti5, ti9, cf, Tryz.results36, h])
    | (refine condK_intro (fun h => ?_) (fun h => ?_) <;> (try simp only [decide_eq_true_eq, decide_eq_false_iff_not, Bool.not_eq_eq_eq_not, Bool.not_true, Bool.not_false] at h) <;> simp only [zW, zX, zD, builtinA, isLeaf, const1, ustrA, simprocAttr, ti3, ti5, ti9, cf, Tryz.results36, h])
    | (refine guardDT_intro (fun h => ?_) (fun h => ?_) <;> (try simp only [decide_eq_true_eq, decide_eq_false_iff_not, Bool.not_eq_eq_eq_not, Bool.not_true, Bool.not_false] at h) <;> simp only [zW, zX, zD, builtinA, isLeaf, const1, ustrA, simprocAttr, ti3, ti5, ti9, cf, Tryz.results36, h])
    | (refine guardDF_intro (fun h => ?_) (fun h => ?_) <;> (try simp only [decide_eq_true_eq, decide_eq_false_iff_not, Bool.not_eq_eq_eq_not, Bool.not_true, Bool.not_false] at h) <;> simp only [zW, zX, zD, builtinA, isLeaf, const1, ustrA, simprocAttr, ti3, ti5, ti9, cf, Tryz.results36, h])
    | refine And.intro ?_ ?_
  · omega
  · rename_i h1
    rw [local_hi s h1 h]
  · rw [local_lo s ‹_›]
  · rw [local_no s ‹_›]
set_option maxRecDepth 100000 in
theorem impl_ModuleName (s : List UInt8) (A : List Box) : ACalls Tryz.prog 68 [.str s] A (fun v A' => v = .bool (moduleB s) ∧ A' = A) := by
  refine acalls_enter (cf := cf 20 [0, 2]) foll Tryz.func68 Tryz.ntmps68 (by simp [cf]) ?_
  simp only [Tryz.f68, EnterK_some, zW, zX, zD, builtinA, isLeaf, const1, ustrA, simprocAttr, ti3, ti5, ti9, cf, Tryz.results68]
  repeat' first
    | (refine guardT_intro (fun h => ?_) (fun h => ?_) <;> (try simp only [decide_eq_true_eq, decide_eq_false_iff_not, Bool.not_eq_eq_eq_not, Bool.not_true, Bool.not_false] at h) <;> simp only [zW, zX, zD, builtinA, isLeaf, const1, ustrA, simprocAttr, ti3, ti5, ti9, cf, Tryz.results68, h])
    | (refine guardF_intro (fun h => ?_) (fun h => ?_) <;> (try simp only [decide_eq_true_eq, decide_eq_false_iff_not, Bool.not_eq_eq_eq_not, Bool.not_true, Bool.not_false] at h) <;> simp only [zW, zX, zD, builtinA, isLeaf, const1, ustrA, simprocAttr, ti3, ti5, ti9, cf, Tryz.results68, h])
    | (refine condK_intro (fun h => ?_) (fun h => ?_) <;> (try simp only [decide_eq_true_eq, decide_eq_false_iff_not, Bool.not_eq_eq_eq_not, Bool.not_true, Bool.not_false] at h) <;> simp only [zW, zX, zD, builtinA, isLeaf, const1, ustrA, simprocAttr, ti3, ti5, ti9, cf, Tryz.results68, h])
    | (refine guardDT_intro (fun h => ?_) (fun h => ?_) <;> (try simp only [decide_eq_true_eq, decide_eq_false_iff_not, Bool.not_eq_eq_eq_not, Bool.not_true, Bool.not_false] at h) <;> simp only [zW, zX, zD, builtinA, isLeaf, const1, ustrA, simprocAttr, ti3, ti5, ti9, cf, Tryz.results68, h])
    | (refine guardDF_intro (fun h => ?_) (fun h => ?_) <;> (try simp only [decide_eq_true_eq, decide_eq_false_iff_not, Bool.not_eq_eq_eq_not, Bool.not_true, Bool.not_false] at h) <;> simp only [zW, zX, zD, builtinA, isLeaf, const1, ustrA, simprocAttr, ti3, ti5, ti9, cf, Tryz.results68, h])
    | refine And.intro ?_ ?_
  · omega
  · rename_i h1 h2
    rw [module_hi s h1 h2 h]
  · rw [module_up s ‹_›]
  · rw [module_lo s ‹_›]
  · rw [module_no s ‹_›]
set_option maxRecDepth 100000 in
theorem spec_ModuleName (s : List UInt8) (A : List Box) : ACalls Tryz.prog 61 [.str s] A (fun v A' => v = .bool (moduleB s) ∧ A' = A) := by
  refine acalls_enter (cf := cf 20 [0, 2]) foll Tryz.func61 Tryz.ntmps61 (by simp [cf]) ?_
  simp only [Tryz.f61, EnterK_some, zW, zX, zD, builtinA, isLeaf, const1, ustrA, simprocAttr, ti3, ti5, ti9, cf, Tryz.results61]
  repeat' first
    | (refine guardT_intro (fun h => ?_) (fun h => ?_) <;> (try simp only [decide_eq_true_eq, decide_eq_false_iff_not, Bool.not_eq_eq_eq_not, Bool.not_true, Bool.not_false] at h) <;> simp only [zW, zX, zD, builtinA, isLeaf, const1, ustrA, simprocAttr, ti3, ti5, ti9, cf, Tryz.results61, h])
    | (refine guardF_intro (fun h => ?_) (fun h => ?_) <;> (try simp only [decide_eq_true_eq, decide_eq_false_iff_not, Bool.not_eq_eq_eq_not, Bool.not_true, Bool.not_false] at h) <;> simp only [zW, zX, zD, builtinA, isLeaf, const1, ustrA, simprocAttr, ti3, ti5, ti9, cf, Tryz.results61, h])
    | (refine condK_intro (fun h => ?_) (fun h => ?_) <;> (try simp only [decide_eq_true_eq, decide_eq_false_iff_not, Bool.not_eq_eq_eq_not, Bool.not_true, Bool.not_false] at h) <;> simp only [zW, zX, zD, builtinA, isLeaf, const1, ustrA, simprocAttr, ti3, ti5, ti9, cf, Tryz.results61, h])
    | (refine guardDT_intro (fun h => ?_) (fun h => ?_) <;> (try simp only [decide_eq_true_eq, decide_eq_false_iff_not, Bool.not_eq_eq_eq_not, Bool.not_true, Bool.not_false] at h) <;> simp only [zW, zX, zD, builtinA, isLeaf, const1, ustrA, simprocAttr, ti3, ti5, ti9, cf, Tryz.results61, h])
    | (refine guardDF_intro (fun h => ?_) (fun h => ?_) <;> (try simp only [decide_eq_true_eq, decide_eq_false_iff_not, Bool.not_eq_eq_eq_not, Bool.not_true, Bool.not_false] at h) <;> simp only [zW, zX, zD, builtinA, isLeaf, const1, ustrA, simprocAttr, ti3, ti5, ti9, cf, Tryz.results61, h])
    | refine And.intro ?_ ?_
  · omega
  · rename_i h1 h2
    rw [module_hi s h1 h2 h]
  · rw [module_up s ‹_›]
  · rw [module_lo s ‹_›]
  · rw [module_no s ‹_›]
set_option maxRecDepth 100000 in
theorem impl_validName (m n : List UInt8) (A : List Box) : ACalls Tryz.prog 66 [.str m, .str n] A (fun v A' => v = .bool ((decide (m = []) || moduleB m) && localB n) ∧ A' = A) := by
  refine acalls_enter (cf := cf 15 [0, 1, 4]) foll Tryz.func66 Tryz.ntmps66 (by simp [cf]) ?_
  simp only [Tryz.f66, EnterK_some, zW, zX, zD, builtinA, isLeaf, const1, ustrA, simprocAttr, ti9, ca50, ca68, cf, Tryz.results66]
  by_cases hm : m = []
  · simp only [zW, zX, zD, builtinA, isLeaf, const1, ustrA, simprocAttr, ti9, ca50, ca68, cf, Tryz.results66, decide_eq_true hm]
    refine callK_intro (by simp only [zW, zX, zD, builtinA, isLeaf, const1, ustrA, simprocAttr, Option.map_some]; rfl) (impl_LocalName n _) ?_ rfl; rintro v A' ⟨rfl, rfl⟩
    simp only [zW, zX, zD, builtinA, isLeaf, const1, ustrA, simprocAttr, ti9, ca50, ca68, cf, Tryz.results66]
  · simp only [zW, zX, zD, builtinA, isLeaf, const1, ustrA, simprocAttr, ti9, ca50, ca68, cf, Tryz.results66, decide_eq_false hm]
    refine callK_intro (by simp only [zW, zX, zD, builtinA, isLeaf, const1, ustrA, simprocAttr, Option.map_some]; rfl) (impl_ModuleName m _) ?_ rfl; rintro v A' ⟨rfl, rfl⟩
    cases hmm : moduleB m with
    | true =>
      simp only [zW, zX, zD, builtinA, isLeaf, const1, ustrA, simprocAttr, ti9, ca50, ca68, cf, Tryz.results66]
      refine callK_intro (by simp only [zW, zX, zD, builtinA, isLeaf, const1, ustrA, simprocAttr, Option.map_some]; rfl) (impl_LocalName n _) ?_ rfl; rintro v A' ⟨rfl, rfl⟩
      simp only [zW, zX, zD, builtinA, isLeaf, const1, ustrA, simprocAttr, ti9, ca50, ca68, cf, Tryz.results66]
    | false =>
      simp only [zW, zX, zD, builtinA, isLeaf, const1, ustrA, simprocAttr, ti9, ca50, ca68, cf, Tryz.results66]

end Go.Proofs.YtejbjgmgdbcddaaGreat
