/- What is written is read back. -/
import Derived.Test.YtfcfijgajpbpcaaParseP
set_option linter.unusedVariables false
set_option linter.unusedSimpArgs false
namespace Go.Proofs.Ytfcfijgajpbpcaa
open Go.Abs

theorem one_of {l : List UInt8} (h : l.length = 1) : ∃ c, l = [c] := by
  match l, h with
  | [c], _ => exact ⟨c, rfl⟩
theorem loc_facts {c : UInt8} (h : localB [c] = true) : c ≠ 73 ∧ c ≠ 40 ∧ moduleB [c] = false := by
  simp only [localB, Bool.and_eq_true, decide_eq_true_eq, beq_iff_eq] at h
  have h1 : 97 ≤ c.toNat := h.2.1
  refine ⟨fun e => ?_, fun e => ?_, ?_⟩
  · rw [e] at h1; exact absurd h1 (by decide)
  · rw [e] at h1; exact absurd h1 (by decide)
  · simp only [moduleB]
    have : decide (([c].getD 0 0).toNat ≤ 90) = false := decide_eq_false (by show ¬ c.toNat ≤ 90; omega)
    rw [this]; simp
theorem mod_facts {c : UInt8} (h : moduleB [c] = true) : c ≠ 73 ∧ c ≠ 40 := by
  simp only [moduleB, Bool.and_eq_true, decide_eq_true_eq, beq_iff_eq, Bool.not_eq_true', decide_eq_false_iff_not] at h
  have h1 : 65 ≤ c.toNat := h.1.2.1
  refine ⟨fun e => h.2 (by rw [e]), fun e => ?_⟩
  rw [e] at h1; exact absurd h1 (by decide)
theorem pTy_txt : ∀ (v : VT) (d : Nat) (rest : List UInt8), okV v = true → dep v ≤ d → pTy d (txt v ++ rest) = some (v, (txt v).length)
  | .num, 0, rest, h, hd => by simp [dep] at hd
  | .num, d + 1, rest, h, hd => by simp [txt, pTy]
  | .nm m n, 0, rest, h, hd => by simp [dep] at hd
  | .nm m n, d + 1, rest, h, hd => by
    have hl := nm_len h
    simp only [okV, nmB, Bool.and_eq_true, Bool.or_eq_true, decide_eq_true_eq] at h
    obtain ⟨h1, h2⟩ := h
    obtain ⟨c, rfl⟩ := one_of hl.1
    obtain ⟨c1, c2, c3⟩ := loc_facts h2
    rcases h1 with rfl | h1
    · simp [txt, path, pTy, c1, c2, pName, c3, h2]
    · have hm : m.length = 1 := by simp [moduleB] at h1; exact h1.1.1
      obtain ⟨M, rfl⟩ := one_of hm
      obtain ⟨m1, m2⟩ := mod_facts h1
      simp [txt, path, pTy, m1, m2, pName, h1, h2]
  | .fn a b, 0, rest, h, hd => by simp [dep] at hd
  | .fn a b, d + 1, rest, h, hd => by
    simp only [okV, Bool.and_eq_true] at h
    simp only [dep] at hd
    have ha := pTy_txt a d (62 :: (txt b ++ (41 :: rest))) h.1 (by omega)
    have hb := pTy_txt b d (41 :: rest) h.2 (by omega)
    have e : txt (.fn a b) ++ rest = 40 :: (txt a ++ (62 :: (txt b ++ (41 :: rest)))) := by simp [txt]
    have g1 : (txt a ++ (62 :: (txt b ++ (41 :: rest))))[(txt a).length]? = some 62 := by simp
    have g2 : (txt a ++ (62 :: (txt b ++ (41 :: rest)))).drop ((txt a).length + 1) = txt b ++ (41 :: rest) := by
      rw [List.drop_append]; simp
    have g3 : (txt a ++ (62 :: (txt b ++ (41 :: rest))))[(txt a).length + 1 + (txt b).length]? = some 41 := by
      rw [← List.getElem?_drop, g2]; simp
    rw [e, pTy, if_neg (by decide), if_pos rfl]
    simp only [pFun, ha, g1, if_true, g2, hb, g3, Option.map_some]
    simp [txt]; omega
theorem pAll_txt {v : VT} (h : VOk v) : pAll (txt v) = some v := by
  have h1 := pTy_txt v 8 [] h.ok h.dep
  rw [List.append_nil] at h1
  simp only [pAll, h1]
  simp [h.cnt]
theorem pAll_nil : pAll [] = none := rfl
end Go.Proofs.Ytfcfijgajpbpcaa
