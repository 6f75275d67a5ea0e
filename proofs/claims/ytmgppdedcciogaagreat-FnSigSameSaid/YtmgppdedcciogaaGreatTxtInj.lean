/- Different types have different texts. -/
import Derived.Test.YtmgppdedcciogaaGreatFmt
set_option linter.unusedVariables false
set_option linter.unusedSimpArgs false
namespace Go.Proofs.YtmgppdedcciogaaGreat
open Go.Abs

theorem nm_form {m n : List UInt8} (h : nmB m n = true) : ∃ l : UInt8, n = [l] ∧ 97 ≤ l.toNat ∧ (m = [] ∨ ∃ M : UInt8, m = [M] ∧ 65 ≤ M.toNat ∧ M.toNat ≤ 90 ∧ M.toNat ≠ 73) := by
  simp only [nmB, Bool.and_eq_true, Bool.or_eq_true, decide_eq_true_eq] at h
  obtain ⟨h1, h2⟩ := h
  simp only [localB, Bool.and_eq_true, beq_iff_eq, decide_eq_true_eq] at h2
  obtain ⟨h3, h4, h5⟩ := h2
  obtain ⟨l, rfl⟩ := List.length_eq_one_iff.1 h3
  refine ⟨l, rfl, h4, ?_⟩
  rcases h1 with h1 | h1
  · exact .inl h1
  · simp only [moduleB, Bool.and_eq_true, beq_iff_eq, decide_eq_true_eq, Bool.not_eq_true', decide_eq_false_iff_not] at h1
    obtain ⟨⟨h6, h7, h8⟩, h9⟩ := h1
    obtain ⟨M, rfl⟩ := List.length_eq_one_iff.1 h6
    refine .inr ⟨M, rfl, h7, h8, fun h => h9 ?_⟩
    rw [UInt8.toNat_inj.1 (h.trans (by rfl : (73 : Nat) = (73 : UInt8).toNat))]

theorem txt_pf : ∀ (v v' : VT) (r r' : List UInt8), okV v = true → okV v' = true → txt v ++ r = txt v' ++ r' → v = v' ∧ r = r'
  | .num, .num, r, r', _, _, h => by simpa [txt] using h
  | .num, .nm m n, r, r', _, h2, h => by
    obtain ⟨l, rfl, hl, rfl | ⟨M, rfl, hM⟩⟩ := nm_form h2
    · simp [txt, path] at h; rw [← h.1] at hl; exact absurd hl (by decide)
    · simp [txt, path] at h; rw [← h.1] at hM; exact absurd rfl hM.2.2
  | .nm m n, .num, r, r', h2, _, h => by
    obtain ⟨l, rfl, hl, rfl | ⟨M, rfl, hM⟩⟩ := nm_form h2
    · simp [txt, path] at h; rw [h.1] at hl; exact absurd hl (by decide)
    · simp [txt, path] at h; rw [h.1] at hM; exact absurd rfl hM.2.2
  | .num, .fn a b, r, r', _, _, h => by simp [txt] at h
  | .fn a b, .num, r, r', _, _, h => by simp [txt] at h
  | .nm m n, .fn a b, r, r', h2, _, h => by
    obtain ⟨l, rfl, hl, rfl | ⟨M, rfl, hM⟩⟩ := nm_form h2
    · simp [txt, path] at h; rw [h.1] at hl; exact absurd hl (by decide)
    · simp [txt, path] at h; rw [h.1] at hM; exact absurd hM.1 (by decide)
  | .fn a b, .nm m n, r, r', _, h2, h => by
    obtain ⟨l, rfl, hl, rfl | ⟨M, rfl, hM⟩⟩ := nm_form h2
    · simp [txt, path] at h; rw [← h.1] at hl; exact absurd hl (by decide)
    · simp [txt, path] at h; rw [← h.1] at hM; exact absurd hM.1 (by decide)
  | .nm m n, .nm m' n', r, r', h1, h2, h => by
    obtain ⟨l, rfl, hl, hm⟩ := nm_form h1
    obtain ⟨l', rfl, hl', hm'⟩ := nm_form h2
    rcases hm with rfl | ⟨M, rfl, hM⟩ <;> rcases hm' with rfl | ⟨M', rfl, hM'⟩ <;> simp [txt, path] at h
    · exact ⟨by rw [h.1], h.2⟩
    · rw [h.1] at hl; omega
    · rw [← h.1] at hl'; omega
    · exact ⟨by rw [h.1, h.2.1], h.2.2⟩
  | .fn a b, .fn a' b', r, r', h1, h2, h => by
    simp only [okV, Bool.and_eq_true] at h1 h2
    simp only [txt, List.append_assoc, List.cons_append, List.nil_append, List.cons.injEq, true_and] at h
    obtain ⟨rfl, e⟩ := txt_pf a a' _ _ h1.1 h2.1 h
    simp only [List.cons.injEq, true_and] at e
    obtain ⟨rfl, e⟩ := txt_pf b b' _ _ h1.2 h2.2 e
    exact ⟨rfl, by simpa using e⟩
theorem txt_inj {v v' : VT} (h1 : okV v = true) (h2 : okV v' = true) (h : txt v = txt v') : v = v' := by
  refine (txt_pf v v' [] [] h1 h2 ?_).1
  rw [h]
theorem txt_ne {v : VT} (h : okV v = true) : txt v ≠ [] := by
  intro e
  cases v with
  | num => simp [txt] at e
  | fn a b => simp [txt] at e
  | nm m n =>
    obtain ⟨l, rfl, _, rfl | ⟨M, rfl, _⟩⟩ := nm_form h <;> simp [txt, path] at e
end Go.Proofs.YtmgppdedcciogaaGreat
