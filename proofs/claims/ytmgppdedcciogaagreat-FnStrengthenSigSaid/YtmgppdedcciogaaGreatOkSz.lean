/- Types that are small enough. -/
import Derived.Test.YtmgppdedcciogaaGreatTypes
set_option linter.unusedVariables false
namespace Go.Proofs.YtmgppdedcciogaaGreat
mutual
theorem okSz : ∀ t, sz t ≤ 1048576 → Ty.Ok t
  | .mk k m n ks, h => by
    rw [sz] at h
    exact .mk (by omega) (by omega) (by omega) (oksSz ks (by omega))
theorem oksSz : ∀ l, szs l ≤ 1048576 → ∀ t ∈ l, Ty.Ok t
  | [], _ => by simp
  | t :: l, h => by
    rw [szs] at h
    intro u hu
    rcases List.mem_cons.1 hu with e | hu
    · rw [e]; exact okSz t (by omega)
    · exact oksSz l (by omega) u hu
end
end Go.Proofs.YtmgppdedcciogaaGreat
