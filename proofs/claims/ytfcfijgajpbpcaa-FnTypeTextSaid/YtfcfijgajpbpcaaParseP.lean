/- Reading a type from a text, as a function. -/
import Derived.Test.YtfcfijgajpbpcaaTxt
set_option linter.unusedVariables false
set_option linter.unusedSimpArgs false
namespace Go.Proofs.Ytfcfijgajpbpcaa
open Go.Abs

def pName : List UInt8 → Option (VT × Nat)
  | [] => none
  | c :: s => if moduleB [c] = true then (match s with
      | e :: d :: _ => if e = 46 ∧ localB [d] = true then some (.nm [c] [d], 3) else none
      | _ => none)
    else if localB [c] = true then some (.nm [] [c], 1) else none
def pFun (p : List UInt8 → Option (VT × Nat)) (s : List UInt8) : Option (VT × Nat) :=
  match p s with
  | none => none
  | some (a, k) => if s[k]? = some 62 then (match p (s.drop (k + 1)) with
      | none => none
      | some (b, l) => if s[k + 1 + l]? = some 41 then some (.fn a b, k + 1 + l + 1) else none) else none
def pTy : Nat → List UInt8 → Option (VT × Nat)
  | 0, _ => none
  | d + 1, [] => none
  | d + 1, c :: s => if c = 73 then some (.num, 1) else if c = 40 then (pFun (pTy d) s).map fun x => (x.1, x.2 + 1) else pName (c :: s)

theorem pName_sound {s : List UInt8} {v : VT} {k : Nat} (h : pName s = some (v, k)) : 1 ≤ k ∧ k ≤ s.length ∧ txt v = s.take k ∧ okV v = true ∧ dep v ≤ 1 := by
  match s, h with
  | [], h => simp [pName] at h
  | [c], h =>
    simp only [pName] at h
    split at h
    · cases h
    · split at h
      · rename_i h2
        cases h
        exact ⟨by omega, by simp, by simp [txt, path], by simp [okV, nmB, h2], by simp [dep]⟩
      · cases h
  | [c, e], h =>
    simp only [pName] at h
    split at h
    · cases h
    · split at h
      · rename_i h2
        cases h
        exact ⟨by omega, by simp, by simp [txt, path], by simp [okV, nmB, h2], by simp [dep]⟩
      · cases h
  | c :: e :: d :: s, h =>
    simp only [pName] at h
    split at h
    · rename_i h1
      split at h
      · rename_i h2
        cases h
        exact ⟨by omega, by simp, by simp [txt, path, h2.1], by simp [okV, nmB, h1, h2.2], by simp [dep]⟩
      · cases h
    · split at h
      · rename_i h2
        cases h
        exact ⟨by omega, by simp, by simp [txt, path], by simp [okV, nmB, h2], by simp [dep]⟩
      · cases h

theorem getE {s : List UInt8} {k : Nat} {c : UInt8} (h : s[k]? = some c) : k < s.length ∧ s.take (k + 1) = s.take k ++ [c] := by
  obtain ⟨h1, h2⟩ := List.getElem?_eq_some_iff.1 h
  exact ⟨h1, by rw [List.take_add_one, h]; rfl⟩

theorem pTy_sound : ∀ (d : Nat) {s : List UInt8} {v : VT} {k : Nat}, pTy d s = some (v, k) → 1 ≤ k ∧ k ≤ s.length ∧ txt v = s.take k ∧ okV v = true ∧ dep v ≤ d
  | 0, s, v, k, h => by simp [pTy] at h
  | d + 1, [], v, k, h => by simp [pTy] at h
  | d + 1, c :: s, v, k, h => by
    simp only [pTy] at h
    split at h
    · rename_i hc
      cases h
      exact ⟨by omega, by simp, by simp [txt, hc], rfl, by simp [dep]⟩
    · split at h
      · rename_i hc
        subst hc
        cases hf : pFun (pTy d) s with
        | none => rw [hf] at h; cases h
        | some x =>
          rw [hf] at h
          obtain ⟨w, j⟩ := x
          simp only [Option.map_some, Option.some.injEq, Prod.mk.injEq] at h
          obtain ⟨rfl, rfl⟩ := h
          unfold pFun at hf
          split at hf
          · cases hf
          · rename_i a k1 ha
            split at hf
            · rename_i h1
              split at hf
              · cases hf
              · rename_i b l hb
                split at hf
                · rename_i h2
                  cases hf
                  obtain ⟨a1, a2, a3, a4, a5⟩ := pTy_sound d ha
                  obtain ⟨b1, b2, b3, b4, b5⟩ := pTy_sound d hb
                  obtain ⟨e1, e2⟩ := getE h1
                  obtain ⟨f1, f2⟩ := getE h2
                  refine ⟨by omega, by simp; omega, ?_, by simp [okV, a4, b4], by simp [dep]; omega⟩
                  have e3 : s.take (k1 + 1 + l) = s.take (k1 + 1) ++ (s.drop (k1 + 1)).take l := by rw [List.take_add]
                  rw [txt, a3, b3, List.take_succ_cons, f2, e3, e2]
                  simp
                · cases hf
            · cases hf
      · obtain ⟨a1, a2, a3, a4, a5⟩ := pName_sound h
        exact ⟨a1, a2, a3, a4, by omega⟩

/-- the type that a text is the text of -/
def pAll (s : List UInt8) : Option VT :=
  match pTy 8 s with
  | some (v, k) => if k = s.length ∧ cnt v ≤ 63 then some v else none
  | none => none
theorem pAll_ok {s : List UInt8} {v : VT} (h : pAll s = some v) : VOk v ∧ txt v = s := by
  unfold pAll at h
  split at h
  · rename_i w k hp
    split at h
    · rename_i hc
      cases h
      obtain ⟨a1, a2, a3, a4, a5⟩ := pTy_sound 8 hp
      exact ⟨⟨a4, a5, hc.2⟩, by rw [a3, hc.1, List.take_length]⟩
    · cases h
  · cases h
end Go.Proofs.Ytfcfijgajpbpcaa
