/- Names in the type that a name stands for: those without a module are abstract, and stand for themselves. -/
import Derived.Test.YtmgppdedcciogaaGreatPreFacts
set_option linter.unusedVariables false
set_option linter.unusedSimpArgs false
namespace Go.Proofs.YtmgppdedcciogaaGreat
open Go.Abs

def isAb (n : List UInt8) : VI → Bool
  | .ab k => decide (k = n)
  | _ => false
/-- a name that no item before hides -/
def okA (l : List VI) (p : Nm) : Bool := !decide (p.1 = []) || l.any (isAb p.2)
theorem okA_snoc {l : List VI} {y : VI} {p : Nm} (h : okA l p = true) : okA (l ++ [y]) p = true := by
  simp only [okA, Bool.or_eq_true, List.any_append] at h ⊢
  rcases h with h | h
  · exact .inl h
  · exact .inr (.inl h)
theorem allV_sub2 {p q : Nm → Bool} {m : List (BNm × VT)} (hm : ∀ x ∈ m, allV q x.2 = true) (hp : ∀ x, p x = true → lookB x m ≠ none ∨ q x = true) : ∀ {v : VT}, allV p v = true → allV q (subV m v) = true
  | .num, _ => rfl
  | .nm a b, h => by
    rw [subV]
    cases hl : lookB (a, b) m with
    | none =>
      rcases hp _ h with h2 | h2
      · exact absurd hl h2
      · exact h2
    | some w => exact hm _ (lookB_in hl)
  | .fn a b, h => by
    simp only [allV, Bool.and_eq_true] at h
    simp only [subV, allV, Bool.and_eq_true]
    exact ⟨allV_sub2 hm hp h.1, allV_sub2 hm hp h.2⟩
theorem lookB_snoc {q : BNm} {a : List (BNm × VT)} (x : BNm × VT) : lookB q a ≠ none ∨ x.1 = q → lookB q (a ++ [x]) ≠ none := by
  induction a with
  | nil =>
    rintro (h | h)
    · exact absurd rfl h
    · obtain ⟨k, v⟩ := x
      simp only [List.nil_append, lookB]
      rw [if_pos h.symm]; simp
  | cons y a ih =>
    obtain ⟨k, v⟩ := y
    intro h
    simp only [List.cons_append, lookB] at h ⊢
    split
    · simp
    · rename_i hk
      rw [if_neg hk] at h
      exact ih h
theorem take_snoc {ys : List VI} {i : Nat} (h : i < ys.length) : ys.take (i + 1) = ys.take i ++ [ys.getD i vi0] := by
  rw [List.take_add_one]; simp [List.getD, h]
theorem key_at {ys : List VI} {i : Nat} (h : i < ys.length) : (ys.take (i + 1)).map viK = (ys.take i).map viK ++ [viK (ys.getD i vi0)] := by
  rw [take_snoc h, List.map_append]; rfl
/-- each type item is known behind it -/
theorem known_all (ys : List VI) : ∀ i, i ≤ ys.length → ∀ n, (false, n) ∈ (ys.take i).map viK → lookB ([], n) (nxtL (ys.take i)) ≠ none
  | 0, _, n, h => by simp at h
  | i + 1, hi, n, h => by
    have ih := known_all ys i (by omega) n
    rw [key_at (by omega)] at h
    rw [nxtL_snoc ys (by omega)]
    generalize ys.getD i vi0 = y at *
    rcases List.mem_append.1 h with h | h
    · have := ih h
      cases y with
      | ab k => exact lookB_snoc _ (.inl this)
      | al k v => exact lookB_snoc _ (.inl this)
      | va k v => exact this
    · rw [List.mem_singleton] at h
      cases y with
      | ab k => simp only [viK, Prod.mk.injEq, true_and] at h; subst h; exact lookB_snoc _ (.inr rfl)
      | al k v => simp only [viK, Prod.mk.injEq, true_and] at h; subst h; exact lookB_snoc _ (.inr rfl)
      | va k v => simp [viK] at h
theorem stepOf {ys : List VI} (ho : ordB ys = true) {i : Nat} (hi : i < ys.length) : stepB (ys.take i) (ys.getD i vi0) = true := by
  unfold ordB at ho
  rw [List.all_eq_true] at ho
  exact ho i (List.mem_range.mpr hi)
theorem hpA {ys : List VI} {i : Nat} (hi : i ≤ ys.length) : ∀ x : Nm, okN ((ys.take i).map viK) x = true → lookB x (nxtL (ys.take i)) ≠ none ∨ okA (ys.take i) x = true := fun x hx => by
  obtain ⟨a, b⟩ := x
  simp only [okN, Bool.or_eq_true, Bool.not_eq_true', decide_eq_true_eq, decide_eq_false_iff_not] at hx
  rcases hx with hx | hx
  · right; simp [okA, hx]
  · by_cases ha : a = []
    · subst ha; exact .inl (known_all ys i hi b hx)
    · right; simp [okA, ha]
theorem nxtL_ab (ys : List VI) (ho : ordB ys = true) : ∀ i, i ≤ ys.length → ∀ x ∈ nxtL (ys.take i), allV (okA (ys.take i)) x.2 = true
  | 0, _ => by simp [nxtL]
  | i + 1, h => by
    have ih := nxtL_ab ys ho i (by omega)
    have hs := stepOf ho (show i < ys.length by omega)
    have hpa := hpA (ys := ys) (i := i) (by omega)
    rw [nxtL_snoc ys (by omega), take_snoc (show i < ys.length by omega)]
    simp only [stepB, Bool.and_eq_true] at hs
    generalize ys.getD i vi0 = y at *
    cases y with
    | ab n =>
      simp only [nxtM, List.mem_append, List.mem_singleton]
      rintro x (hx | rfl)
      · exact allV_mono (fun p hp => okA_snoc hp) (ih x hx)
      · simp [allV, okA, isAb]
    | al n v =>
      simp only [allI] at hs
      simp only [nxtM, List.mem_append, List.mem_singleton]
      rintro x (hx | rfl)
      · exact allV_mono (fun p hp => okA_snoc hp) (ih x hx)
      · exact allV_mono (fun p hp => okA_snoc hp) (allV_sub2 ih hpa hs.1)
    | va n v =>
      simp only [nxtM]
      exact fun x hx => allV_mono (fun p hp => okA_snoc hp) (ih x hx)
theorem nmsV_of {p : Nm → Bool} {v : VT} (h : allV p v = true) : ∀ q ∈ nmsV [] v, p q = true := by
  have := nmsV_all p v []
  rw [h, List.all_nil, Bool.true_and] at this
  exact List.all_eq_true.1 this
theorem mean_names {s : List SigI} {q : Ky} {v : VT} (h : MeanIs s q (some v)) : ∀ p ∈ nmsV [] v, p.1 = [] → MeanIs s (false, p.2) (some (.nm [] p.2)) := by
  rcases h with ⟨zs, hr, i, hi, hk, hm⟩ | ⟨_, h⟩
  · have hr0 := hr
    obtain ⟨ys, h8, hrt, hord, hn⟩ := hr
    obtain ⟨hf, rfl⟩ := normL_fit hn
    rw [zsN_length] at hi
    rw [zsN_getD ys hi] at hm
    have hz0 : ∀ j, j < ys.length → ∀ n, isAb n (ys.getD j vi0) = true → MeanIs s (false, n) (some (.nm [] n)) := fun j hj n ha => by
      refine .inl ⟨_, hr0, j, by rw [zsN_length]; exact hj, ?_⟩
      rw [zsN_getD ys hj]
      cases hy : ys.getD j vi0 with
      | ab k => rw [hy] at ha; simp only [isAb, decide_eq_true_eq] at ha; subst ha; exact ⟨rfl, rfl⟩
      | al k v => rw [hy] at ha; cases ha
      | va k v => rw [hy] at ha; cases ha
    have hany : ∀ n, (ys.take i).any (isAb n) = true → MeanIs s (false, n) (some (.nm [] n)) := fun n ha => by
      obtain ⟨y, hy, ha⟩ := List.any_eq_true.1 ha
      obtain ⟨j, hj, rfl⟩ := List.mem_iff_getElem.1 hy
      rw [List.length_take] at hj
      refine hz0 j (by omega) n ?_
      have e : ys.getD j vi0 = (ys.take i)[j] := by simp [List.getD, show j < ys.length by omega]
      rw [e]; exact ha
    have hs := stepOf hord hi
    simp only [stepB, Bool.and_eq_true] at hs
    have hall := nxtL_ab ys hord i (by omega)
    have hpa := hpA (ys := ys) (i := i) (by omega)
    have fin : ∀ w, allV (okN ((ys.take i).map viK)) w = true → subV (nxtL (ys.take i)) w = v → ∀ p ∈ nmsV [] v, p.1 = [] → MeanIs s (false, p.2) (some (.nm [] p.2)) := fun w h1 h2 p hp hp1 => by
      have h3 := nmsV_of (allV_sub2 hall hpa h1) p (by rw [h2]; exact hp)
      simp only [okA, hp1, decide_true, Bool.not_true, Bool.false_or] at h3
      exact hany _ h3
    have hz := hz0 i hi
    generalize ys.getD i vi0 = y at *
    cases y with
    | ab n =>
      simp only [subI, meanI] at hm
      subst hm
      intro p hp hp1
      have : p = ([], n) := by simpa [nmsV, addN] using hp
      subst this
      exact hz n (by simp [isAb])
    | al n w => exact fin w hs.1 hm
    | va n w => exact fin w hs.1 hm
  · cases h
end Go.Proofs.YtmgppdedcciogaaGreat
