/- What is owned holds no place of other memory. -/
import Derived.Test.YtejbjgmgdbcddaaGreatOwnTo
import Derived.Test.YtejbjgmgdbcddaaGreatAbsW3
set_option linter.unusedVariables false
set_option linter.unusedSimpArgs false
namespace Go.Proofs.YtejbjgmgdbcddaaGreat
open Go.Abs

mutual
theorem OwnT.free {A : List Box} : ∀ {t : Ty} {r : List AV} {S : List Nat}, OwnT A t r S → ifrees r = true ∧ ∀ i ∈ S, ifreeB (A.getD i .dead) = true
  | .mk k m n ks, r, S, h => by
    rw [OwnT] at h
    obtain ⟨v, rfl, h⟩ := h
    rcases h with ⟨rfl, _, rfl⟩ | ⟨rfl, _, rfl⟩ | ⟨i, rows, S', rfl, rfl, h3, h4⟩
    · exact ⟨by simp [ifrees, ifree], by simp⟩
    · exact ⟨by simp [ifrees, ifree], by simp⟩
    · refine ⟨by simp [ifrees, ifree], fun j hj => ?_⟩
      have h5 := OwnR.free h4
      rcases List.mem_cons.1 hj with rfl | hj
      · rw [h3]; exact h5.1
      · exact h5.2 j hj
theorem OwnR.free {A : List Box} : ∀ {ks : List Ty} {rows : List (List AV)} {S : List Nat}, OwnR A ks rows S → rows.all ifrees = true ∧ ∀ i ∈ S, ifreeB (A.getD i .dead) = true
  | [], rows, S, h => by rw [OwnR] at h; rw [h.1, h.2]; exact ⟨rfl, by simp⟩
  | t :: ks, rows, S, h => by
    rw [OwnR] at h
    obtain ⟨r, rows', S1, S2, rfl, rfl, h3, h4⟩ := h
    have a := OwnT.free h3
    have b := OwnR.free h4
    refine ⟨by rw [List.all_cons, a.1, b.1]; rfl, fun j hj => ?_⟩
    rcases List.mem_append.1 hj with hj | hj
    · exact a.2 j hj
    · exact b.2 j hj
end
end Go.Proofs.YtejbjgmgdbcddaaGreat
