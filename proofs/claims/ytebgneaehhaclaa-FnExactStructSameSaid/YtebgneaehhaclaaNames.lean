/- The names of types, values and modules: what the program's and the model's functions answer. -/
import Derived.Test.YtebgneaehhaclaaAbsW3
import Derived.Test.YtebgneaehhaclaaFacts
set_option linter.unusedVariables false
set_option linter.unusedSimpArgs false
namespace Go.Proofs.Ytebgneaehhaclaa
open Go.Abs

def localB (s : List UInt8) : Bool := s.length == 1 && (decide (97 ≤ (s.getD 0 0).toNat) && decide ((s.getD 0 0).toNat ≤ 122))
def moduleB (s : List UInt8) : Bool := (s.length == 1 && (decide (65 ≤ (s.getD 0 0).toNat) && decide ((s.getD 0 0).toNat ≤ 90))) && !decide (s = [73])

theorem local_no (s : List UInt8) (h : ¬ (s.length : Int) = 1) : localB s = false := by
  have : s.length ≠ 1 := by omega
  simp [localB, this]
theorem local_lo (s : List UInt8) (h : ¬ (97 : Int) ≤ (s.getD 0 0).toNat) : localB s = false := by
  have : ¬ 97 ≤ (s.getD 0 0).toNat := by omega
  unfold localB; rw [decide_eq_false this]; simp
theorem local_hi (s : List UInt8) (h1 : (s.length : Int) = 1) (h : (97 : Int) ≤ (s.getD 0 0).toNat) : localB s = decide (((s.getD 0 0).toNat : Int) ≤ 122) := by
  have e1 : s.length = 1 := by omega
  have e2 : 97 ≤ (s.getD 0 0).toNat := by omega
  unfold localB; rw [decide_eq_true e2, e1]
  rw [Bool.eq_iff_iff]; simp; omega
theorem module_no (s : List UInt8) (h : ¬ (s.length : Int) = 1) : moduleB s = false := by
  have : s.length ≠ 1 := by omega
  simp [moduleB, this]
theorem module_lo (s : List UInt8) (h : ¬ (65 : Int) ≤ (s.getD 0 0).toNat) : moduleB s = false := by
  have : ¬ 65 ≤ (s.getD 0 0).toNat := by omega
  unfold moduleB; rw [decide_eq_false this]; simp
theorem module_up (s : List UInt8) (h : ¬ ((s.getD 0 0).toNat : Int) ≤ 90) : moduleB s = false := by
  have : ¬ (s.getD 0 0).toNat ≤ 90 := by omega
  unfold moduleB; rw [decide_eq_false this]; simp
theorem module_hi (s : List UInt8) (h1 : (s.length : Int) = 1) (h : (65 : Int) ≤ (s.getD 0 0).toNat) (h2 : ((s.getD 0 0).toNat : Int) ≤ 90) : moduleB s = !decide (s = [73]) := by
  have e1 : s.length = 1 := by omega
  have e2 : 65 ≤ (s.getD 0 0).toNat := by omega
  have e3 : (s.getD 0 0).toNat ≤ 90 := by omega
  unfold moduleB; rw [decide_eq_true e2, decide_eq_true e3, e1]; simp


end Go.Proofs.Ytebgneaehhaclaa
