/- What a substitution hands back, by its root. -/
import Derived.Test.YtmgppdedcciogaaGreatSubNew
set_option linter.unusedVariables false
set_option linter.unusedSimpArgs false
namespace Go.Proofs.YtmgppdedcciogaaGreat
open Go.Abs

theorem subIs_ex (τ : Ty) (bs : List BdI) : ∃ o, SubIs τ bs o := by
  rcases valid_cases τ with ⟨v, rfl, hv⟩ | hv
  · rcases hb : bs.all okB with _ | _
    · exact ⟨none, .inr ⟨.inr (okB_bad hb), rfl⟩⟩
    · obtain ⟨bd, rfl, hok⟩ := okB_all hb
      exact ⟨_, .inl ⟨v, bd, rfl, hv, rfl, hok, rfl⟩⟩
  · exact ⟨none, .inr ⟨.inl hv, rfl⟩⟩
theorem subIs_some {τ : Ty} {bs : List BdI} {w : VT} (h : SubIs τ bs (some w)) : VOk w := by
  rcases h with ⟨v, bd, rfl, hv, rfl, hok, h⟩ | ⟨_, h⟩
  · split at h
    · rename_i hc
      cases h
      exact ⟨(sub_ok (foldB bd) (fun x hx => (hok x (foldB_in bd x hx)).1) v hv.ok).1, hc.1, hc.2⟩
    · cases h
  · cases h
theorem subIs_ok {τ : Ty} {bs : List BdI} {o : Option VT} (h : SubIs τ bs o) : (oTyS o).Ok ∧ count (oTyS o) ≤ 64 := by
  cases o with
  | none => exact ⟨by rw [oTyS, ty0]; exact .mk (by simp) (by simp) (by simp) (by simp), by simp [oTyS, ty0, count, counts]⟩
  | some w =>
    have hw := subIs_some h
    have := hw.cnt
    exact ⟨ok_toTyS w hw.ok, by rw [oTyS, count_toTy]; omega⟩
def OutS (A : List Box) (k : Int) (m n : List UInt8) (ks : List Ty) (ok : Bool) (r : AV) (A' : List Box) : Prop :=
  ∃ B v S, A' = A ++ B ∧ r = .tuple [.agg [.int .i64 k, .str m, .str n, v], .bool ok] ∧ OwnK A' ks v S ∧ S.Nodup ∧ ∀ i ∈ S, A.length ≤ i ∧ i < A'.length
theorem outS_of {A A' : List Box} {o : Option VT} {r : AV} {k : Int} {m n : List UInt8} {ks : List Ty} (ho : oTyS o = .mk k m n ks) (h : SubNew A o r A') : OutS A k m n ks o.isSome r A' := by
  obtain ⟨B, cs, S, h1, h2, rfl, h3, h4, h5, h6⟩ := h
  rw [ho, ownT_mk] at h4
  obtain ⟨v, rfl, hK⟩ := h4
  exact ⟨B, v, S, h1, rfl, hK, h5, h6⟩
theorem viewNS (A : List Box) (τ : Ty) : View A (.agg (enc τ)) (.agg (enc τ)) := .agg _ _ rfl fun i hi => .leaf _ (enc_leaf τ _ (Abs.getD_mem hi))
end Go.Proofs.YtmgppdedcciogaaGreat
