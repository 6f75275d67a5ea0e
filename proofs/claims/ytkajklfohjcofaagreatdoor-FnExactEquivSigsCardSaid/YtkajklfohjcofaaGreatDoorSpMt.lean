/- What matching answers. -/
import Derived.Test.YtkajklfohjcofaaGreatDoorMatchP
import Derived.Test.YtkajklfohjcofaaGreatDoorAbsW3
set_option linter.unusedVariables false
set_option linter.unusedSimpArgs false
namespace Go.Proofs.YtkajklfohjcofaaGreatDoor
open Go.Abs

/-- the code and the place of what is found -/
def mcO : Option (Nat × Ky × Int) → Int
  | none => 0
  | some x => x.2.2
def mpO : Option (Nat × Ky × Int) → Nat × Bool
  | none => (0, false)
  | some x => (x.1, true)
theorem offC_code (hs : List VI) : ∀ (ys : List VI) (m : List (BNm × VT)) (i : Nat) (x : Nat × Ky × Int), offC hs m ys i = some x → 0 < x.2.2 ∧ x.2.2 ≤ 4 ∧ i ≤ x.1 ∧ x.1 < i + ys.length
  | [], m, i, x, h => by cases h
  | y :: ys, m, i, x, h => by
    rw [offC] at h
    split at h
    · have h1 := offC_code hs ys _ _ x h
      simp only [List.length_cons]
      exact ⟨h1.1, h1.2.1, by omega, by omega⟩
    · rename_i hne
      cases h
      have := visC_range hs m y
      simp only [List.length_cons]
      exact ⟨by omega, this.2, by omega, by omega⟩
/-- what matching answers: its code and the place of the first item that is not offered -/
def MtIs (a b : List SigI) (c : Int) (p : Nat × Bool) : Prop :=
  (∃ hs ws, RdN a (some hs) ∧ RdN b (some ws) ∧ c = mcO (offC hs [] ws 0) ∧ p = mpO (offC hs [] ws 0)) ∨
  (RdN a none ∨ RdN b none) ∧ p = (0, false) ∧ c = (if sigB a = true ∧ sigB b = true then 4 else 5)
theorem mtIs_ex (a b : List SigI) : ∃ c p, MtIs a b c p := by
  obtain ⟨oa, ha⟩ := rdN_ex a
  obtain ⟨ob, hb⟩ := rdN_ex b
  cases oa with
  | none => exact ⟨_, _, .inr ⟨.inl ha, rfl, rfl⟩⟩
  | some hs =>
    cases ob with
    | none => exact ⟨_, _, .inr ⟨.inr hb, rfl, rfl⟩⟩
    | some ws => exact ⟨_, _, .inl ⟨hs, ws, ha, hb, rfl, rfl⟩⟩
theorem mtIs_one {a b : List SigI} {c c' : Int} {p p' : Nat × Bool} (h : MtIs a b c p) (h' : MtIs a b c' p') : c = c' ∧ p = p' := by
  rcases h with ⟨hs, ws, h1, h2, rfl, rfl⟩ | ⟨h1, rfl, rfl⟩
  · rcases h' with ⟨hs', ws', h3, h4, rfl, rfl⟩ | ⟨h3, rfl, rfl⟩
    · rw [rdN_one h1 h3, rdN_one h2 h4]; exact ⟨rfl, rfl⟩
    · rcases h3 with h3 | h3
      · exact absurd h3 (rdN_not h1)
      · exact absurd h3 (rdN_not h2)
  · rcases h' with ⟨hs', ws', h3, h4, rfl, rfl⟩ | ⟨h3, rfl, rfl⟩
    · rcases h1 with h1 | h1
      · exact absurd h1 (rdN_not h3)
      · exact absurd h1 (rdN_not h4)
    · exact ⟨rfl, rfl⟩
theorem mtIs_range {a b : List SigI} {c : Int} {p : Nat × Bool} (h : MtIs a b c p) : 0 ≤ c ∧ c ≤ 5 := by
  rcases h with ⟨hs, ws, h1, h2, rfl, rfl⟩ | ⟨h1, rfl, rfl⟩
  · cases hq : offC hs [] ws 0 with
    | none => simp [mcO]
    | some x => have := offC_code _ _ _ _ _ hq; simp only [mcO]; omega
  · split <;> omega
theorem rdN_sigB {s : List SigI} {zs : List VI} (h : RdN s (some zs)) : sigB s = true := by
  obtain ⟨ys, h8, hr, hord, hn⟩ := h
  rw [sigB_reads h8 hr]; exact hord
/-- abstract types are all that counts -/
theorem knownB_abs (hs : List VI) : ∀ {a b : List VI}, a.map absO = b.map absO → knownB hs a = knownB hs b
  | [], [], _ => rfl
  | [], _ :: _, h => by simp at h
  | _ :: _, [], h => by simp at h
  | x :: a, y :: b, h => by
    simp only [List.map_cons, List.cons.injEq] at h
    have ih := knownB_abs hs h.2
    cases x <;> cases y <;> simp only [absO, reduceCtorEq, Option.some.injEq] at h
    · obtain ⟨rfl, _⟩ := h; simp only [knownB, ih]
    all_goals first | (simp only [knownB]; exact ih) | exact h.1.elim
theorem findF_vok {a : List SigI} {hs : List VI} (h : RdN a (some hs)) {q : Ky} {f : VT} (hf : findF hs q = some f) : VOk f := by
  obtain ⟨i, hi, _, h2⟩ := findF_some hf
  rw [← h2]; exact (rdN_vok h).2 i hi
theorem knownB_len (hs : List VI) : ∀ a : List VI, (knownB hs a).length ≤ a.length
  | [] => by simp [knownB]
  | .ab n :: a => by
    have := knownB_len hs a
    simp only [knownB]
    cases findF hs (false, n) <;> simp <;> omega
  | .al _ _ :: a => by have := knownB_len hs a; simp only [knownB, List.length_cons]; omega
  | .va _ _ :: a => by have := knownB_len hs a; simp only [knownB, List.length_cons]; omega
theorem vok_fit {f : VT} (h : VOk f) (n : List UInt8) : fitI (.al n f) = true := by
  have h1 := h.dep
  have h2 := h.cnt
  have h1 : dep f ≤ 8 := h1
  have h2 : cnt f ≤ 63 := h2
  simp [fitI, meanI, h1, h2]

end Go.Proofs.YtkajklfohjcofaaGreatDoor
