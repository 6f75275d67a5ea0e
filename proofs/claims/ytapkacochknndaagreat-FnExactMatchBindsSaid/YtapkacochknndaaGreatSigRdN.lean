/- Reading a signature with normal types, and what a name in it stands for. -/
import Derived.Test.YtapkacochknndaaGreatSigFind
import Derived.Test.YtapkacochknndaaGreatAbsW3
set_option linter.unusedVariables false
set_option linter.unusedSimpArgs false
namespace Go.Proofs.YtapkacochknndaaGreat
open Go.Abs

theorem mean_ok {x : SigI} {y : VI} (hl : localB x.name = true) (h : ItemOf x y) : VOk (meanI y) := by
  cases y with
  | ab n => exact ⟨by simp only [meanI, okV, nmB]; rw [← h.1, hl]; simp, by simp [meanI, dep], by simp [meanI, cnt]⟩
  | al n v => exact h.2.2.2
  | va n v => exact h.2.2.2
/-- what reading with normal types answers -/
def RdN (s : List SigI) : Option (List VI) → Prop
  | some zs => ∃ ys, s.length ≤ 8 ∧ ReadsTo s ys ∧ ordB ys = true ∧ normL [] ys = some zs
  | none => (8 < s.length ∨ ∃ x ∈ s, itemOk x = false) ∨ ∃ ys, s.length ≤ 8 ∧ ReadsTo s ys ∧ (ordB ys = false ∨ normL [] ys = none)


theorem vX_free : ∀ v, ifree (vX v) = true
  | .num => rfl
  | .nm m n => rfl
  | .fn a b => by
    have h1 := vX_free a
    have h2 := vX_free b
    simp [vX, ifree, ifrees, h1, h2]
theorem findR_free (o : Option VT) : ifree (findR o) = true := by
  cases o with
  | none => rfl
  | some v => simp [findR, ifree, ifrees, vX_free v]
theorem findR_view (ys : List VI) (hl : ys.length ≤ 1000) (q : Ky) {A : List Box} {i : Nat} (hb : A.getD i .dead = .row 1 (vRows ys) 0) : ACalls Tryz.prog 59 [.own i, .agg (kE q)] A (fun r A' => ∃ o, FindO ys q o ∧ r = findR o ∧ A' = A) := by
  refine ACalls.borrow (.cons (.row i 1 0 (vRows ys) (vRows ys) hb rfl (vRows_leaf ys) (vRows_view ys _)) (.cons (.agg _ _ rfl fun k hk => .leaf _ (by have h2 : k < 2 := hk; match k, h2 with | 0, _ => rfl | 1, _ => rfl)) .nil)) ((impl_findSig ys hl q _).mono ?_)
  rintro r A' ⟨o, h1, rfl, rfl⟩
  exact ⟨[], by simp, findR_free o, by simp, o, h1, rfl, by simp⟩
/-- what a key of a signature stands for -/
def MeanIs (s : List SigI) (q : Ky) (o : Option VT) : Prop := (∃ zs, RdN s (some zs) ∧ FindO zs q o) ∨ (RdN s none ∧ o = none)
theorem normL_len : ∀ {ys zs : List VI} {m : List (BNm × VT)}, normL m ys = some zs → zs.length = ys.length
  | [], zs, m, h => by cases h; rfl
  | y :: ys, zs, m, h => by
    rw [normL] at h
    split at h
    · obtain ⟨x, hx, rfl⟩ := Option.map_eq_some_iff.1 h
      simp [normL_len hx]
    · cases h

end Go.Proofs.YtapkacochknndaaGreat
