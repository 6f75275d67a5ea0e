/- What the two sides' readings of a signature have in common. -/
import Derived.Test.YtejbjgmgdbcddaaGreatSigRead
import Derived.Test.YtejbjgmgdbcddaaGreatSigSpec
set_option linter.unusedVariables false
set_option linter.unusedSimpArgs false
namespace Go.Proofs.YtejbjgmgdbcddaaGreat
open Go.Abs

theorem itemOf_isT {x : SigI} {y : VI} (h : ItemOf x y) (k : List UInt8) : (isTB x && decide (x.name = k)) = decide ((false, k) = viK y) := by
  rw [Bool.eq_iff_iff]
  cases y with
  | ab n => obtain ⟨h1, h2, h3⟩ := h; simp [isTB, h1, h2, viK, eq_comm]
  | al n v => obtain ⟨h1, h2, h3⟩ := h; simp [isTB, h1, h2, viK, eq_comm]
  | va n v => obtain ⟨h1, h2, h3⟩ := h; simp [isTB, h1, h2, viK]
theorem itemOf_same {x x' : SigI} {y y' : VI} (h : ItemOf x y) (h' : ItemOf x' y') : sameK x x' = decide (viK y = viK y') := by
  rw [Bool.eq_iff_iff]
  cases y <;> cases y' <;> (obtain ⟨h1, h2, _⟩ := h; obtain ⟨h3, h4, _⟩ := h'; simp [sameK, isTB, h1, h2, h3, h4, viK, eq_comm])
theorem hasT_keys {s : List SigI} {ys : List VI} (h : ReadsTo s ys) (k : List UInt8) : ∀ i, i ≤ s.length → hasT (s.take i) k = decide ((false, k) ∈ (ys.take i).map viK)
  | 0, _ => by simp [hasT]
  | i + 1, hi => by
    have hy : i < ys.length := by have := h.1; omega
    rw [hasT_take (by omega), keys_take hy, hasT_keys h k i (by omega), itemOf_isT (h.2 i (by omega)).2 k]
    rw [Bool.eq_iff_iff]; simp
theorem dup_keys {s : List SigI} {ys : List VI} (h : ReadsTo s ys) {x : SigI} {y : VI} (hx : ItemOf x y) : ∀ i, i ≤ s.length → dupB (s.take i) x = decide (viK y ∈ (ys.take i).map viK)
  | 0, _ => by simp [dupB]
  | i + 1, hi => by
    have hy : i < ys.length := by have := h.1; omega
    have e : dupB (s.take (i + 1)) x = (dupB (s.take i) x || sameK x (s.getD i si0)) := by rw [si_take (by omega)]; simp [dupB]
    rw [e, keys_take hy, dup_keys h hx i (by omega), itemOf_same hx (h.2 i (by omega)).2]
    rw [Bool.eq_iff_iff]; simp
theorem step_eq {s : List SigI} {ys : List VI} (h : ReadsTo s ys) {i : Nat} (hi : i < s.length) : itemB (s.take i) (s.getD i si0) = stepB (ys.take i) (ys.getD i vi0) := by
  obtain ⟨hl, hit⟩ := h.2 i hi
  have hk : knN (s.take i) = okN ((ys.take i).map viK) := by
    funext p
    rw [knN, okN, hasT_keys h p.2 i (by omega)]
  rw [itemB, stepB, hl, dup_keys h hit i (by omega), Bool.true_and, Bool.and_comm]
  congr 1
  generalize s.getD i si0 = x at *
  generalize ys.getD i vi0 = y at *
  cases y with
  | ab n => obtain ⟨h1, h2, h3⟩ := hit; simp [typB, h2, h3, allI]
  | al n v => obtain ⟨h1, h2, h3, h4⟩ := hit; rw [typB, if_neg (by omega), if_pos (.inl h2), h3, validB_toTy h4, knT_toTy, hk, allI, Bool.true_and]
  | va n v => obtain ⟨h1, h2, h3, h4⟩ := hit; rw [typB, if_neg (by omega), if_pos (.inr h2), h3, validB_toTy h4, knT_toTy, hk, allI, Bool.true_and]
theorem sigB_reads {s : List SigI} {ys : List VI} (h8 : s.length ≤ 8) (h : ReadsTo s ys) : sigB s = ordB ys := by
  rw [sigB, ordB, h.1, decide_eq_true h8, Bool.true_and, Bool.eq_iff_iff, List.all_eq_true, List.all_eq_true]
  constructor
  · intro k i hi
    rw [← step_eq h (List.mem_range.mp hi)]; exact k i hi
  · intro k i hi
    rw [step_eq h (List.mem_range.mp hi)]; exact k i hi
theorem sigB_bad {s : List SigI} (h : 8 < s.length ∨ ∃ x ∈ s, itemOk x = false) : sigB s = false := by
  rcases h with h | ⟨x, hx, hb⟩
  · rw [sigB, decide_eq_false (by omega), Bool.false_and]
  · obtain ⟨i, hi, rfl⟩ := List.getElem_of_mem hx
    refine sigB_no hi ?_
    have e : s.getD i si0 = s[i] := by simp [List.getD, hi]
    rw [e]
    generalize s[i] = x at hb
    rw [itemOk] at hb
    rw [itemB, typB]
    by_cases k1 : x.kind = 1
    · rw [if_pos k1] at hb ⊢
      cases hl : localB x.name with
      | false => rfl
      | true => rw [hl, Bool.true_and] at hb; rw [hb]; simp
    · rw [if_neg k1] at hb ⊢
      by_cases k2 : x.kind = 2 ∨ x.kind = 3
      · rw [if_pos k2] at hb ⊢
        cases hl : localB x.name with
        | false => rfl
        | true => rw [hl, Bool.true_and] at hb; rw [hb]; simp
      · rw [if_neg k2]; simp

end Go.Proofs.YtejbjgmgdbcddaaGreat
