/- The texts of types. -/
import Derived.Test.YtmgppdedcciogaaGreatTypesMeth
import Derived.Test.YtmgppdedcciogaaGreatAbsW3
set_option linter.unusedVariables false
set_option linter.unusedSimpArgs false
namespace Go.Proofs.YtmgppdedcciogaaGreat
open Go.Abs

def path (m n : List UInt8) : List UInt8 := if m = [] then n else m ++ [46] ++ n
def txt : VT → List UInt8
  | .num => [73]
  | .nm m n => path m n
  | .fn a b => [40] ++ txt a ++ [62] ++ txt b ++ [41]

theorem nm_len {m n : List UInt8} (h : nmB m n = true) : n.length = 1 ∧ m.length ≤ 1 := by
  simp only [nmB, Bool.and_eq_true, Bool.or_eq_true, decide_eq_true_eq] at h
  obtain ⟨h1, h2⟩ := h
  have h3 : n.length = 1 := by simp [localB] at h2; exact h2.1
  rcases h1 with h1 | h1
  · exact ⟨h3, by simp [h1]⟩
  · simp [moduleB] at h1; exact ⟨h3, by omega⟩
theorem txt_len : ∀ v, okV v = true → (txt v).length ≤ 4 * cnt v
  | .num, _ => by simp [txt, cnt]
  | .nm m n, h => by
    have := nm_len h
    simp only [txt, path, cnt]
    split <;> simp <;> omega
  | .fn a b, h => by
    simp [okV] at h
    have ha := txt_len a h.1
    have hb := txt_len b h.2
    simp [txt, cnt]
    omega

theorem toTy_inj : ∀ {v v' : VT}, toTy v = toTy v' → v = v'
  | .num, .num, _ => rfl
  | .num, .nm _ _, h => by simp [toTy] at h
  | .num, .fn _ _, h => by simp [toTy] at h
  | .nm _ _, .num, h => by simp [toTy] at h
  | .nm _ _, .fn _ _, h => by simp [toTy] at h
  | .fn _ _, .num, h => by simp [toTy] at h
  | .fn _ _, .nm _ _, h => by simp [toTy] at h
  | .nm m n, .nm m' n', h => by simp [toTy] at h; rw [h.1, h.2]
  | .fn a b, .fn a' b', h => by
    simp [toTy] at h
    rw [toTy_inj h.1, toTy_inj h.2]
end Go.Proofs.YtmgppdedcciogaaGreat
