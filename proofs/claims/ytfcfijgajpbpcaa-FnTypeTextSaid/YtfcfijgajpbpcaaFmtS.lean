/- Both write the same texts. -/
import Derived.Test.YtfcfijgajpbpcaaFmtP
import Derived.Test.YtfcfijgajpbpcaaFmt
import Derived.Test.YtfcfijgajpbpcaaAbsW3
set_option linter.unusedVariables false
set_option linter.unusedSimpArgs false
namespace Go.Proofs.Ytfcfijgajpbpcaa
open Go.Abs

theorem fmt_key (τ : Ty) (hτ : τ.Ok) (hs : sz τ ≤ 1048576) : ∃ t, (∀ A, ACalls Try.prog 7 [.agg (enc τ)] A (fun r A' => r = .str t ∧ A' = A)) ∧ (∀ A, ACalls Try.prog 5 [.agg (enc τ)] A (fun r A' => r = .str t ∧ A' = A)) := by
  rcases valid_cases τ with ⟨v, rfl, hv⟩ | h
  · refine ⟨txt v, fun A => (spec_FormatType _ hτ hs A).mono ?_, fun A => (impl_FormatType _ A).mono ?_⟩ <;>
    · rintro r A' ⟨⟨v', e, hv', rfl⟩ | ⟨h, rfl⟩, rfl⟩
      · exact ⟨by rw [toTy_inj e], rfl⟩
      · rw [validB_toTy hv] at h; cases h
  · refine ⟨[], fun A => (spec_FormatType _ hτ hs A).mono ?_, fun A => (impl_FormatType _ A).mono ?_⟩ <;>
    · rintro r A' ⟨⟨v', rfl, hv', rfl⟩ | ⟨_, rfl⟩, rfl⟩
      · rw [validB_toTy hv'] at h; cases h
      · exact ⟨rfl, rfl⟩
end Go.Proofs.Ytfcfijgajpbpcaa
