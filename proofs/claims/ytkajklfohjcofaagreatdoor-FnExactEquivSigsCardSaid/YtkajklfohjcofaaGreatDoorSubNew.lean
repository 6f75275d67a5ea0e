/- What SubstType hands back, all other new memory forgotten; the same for a call with borrowed arguments. -/
import Derived.Test.YtkajklfohjcofaaGreatDoorSubT
import Derived.Test.YtkajklfohjcofaaGreatDoorOwnBd
import Derived.Test.YtkajklfohjcofaaGreatDoorAbsW3
set_option linter.unusedVariables false
set_option linter.unusedSimpArgs false
namespace Go.Proofs.YtkajklfohjcofaaGreatDoor
open Go.Abs

mutual
theorem OwnT.free {A : List Box} : ∀ {t : Ty} {r : List AV} {S : List Nat}, OwnT A t r S → ifrees r = true ∧ ∀ i ∈ S, ifreeB (A.getD i .dead) = true
  | .mk k m n ks, r, S, h => by
    rw [OwnT] at h
    obtain ⟨v, rfl, h⟩ := h
    rcases h with ⟨rfl, _, rfl⟩ | ⟨rfl, _, rfl⟩ | ⟨i, rows, S', rfl, rfl, h3, h4⟩
    · exact ⟨by simp [ifrees, ifree], by simp⟩
    · exact ⟨by simp [ifrees, ifree], by simp⟩
    · refine ⟨by simp [ifrees, ifree], fun j hj => ?_⟩
      have h5 := OwnR.free h4
      rcases List.mem_cons.1 hj with rfl | hj
      · rw [h3]; exact h5.1
      · exact h5.2 j hj
theorem OwnR.free {A : List Box} : ∀ {ks : List Ty} {rows : List (List AV)} {S : List Nat}, OwnR A ks rows S → rows.all ifrees = true ∧ ∀ i ∈ S, ifreeB (A.getD i .dead) = true
  | [], rows, S, h => by rw [OwnR] at h; rw [h.1, h.2]; exact ⟨rfl, by simp⟩
  | t :: ks, rows, S, h => by
    rw [OwnR] at h
    obtain ⟨r, rows', S1, S2, rfl, rfl, h3, h4⟩ := h
    have a := OwnT.free h3
    have b := OwnR.free h4
    refine ⟨by rw [List.all_cons, a.1, b.1]; rfl, fun j hj => ?_⟩
    rcases List.mem_append.1 hj with hj | hj
    · exact a.2 j hj
    · exact b.2 j hj
end

def SubNew (A : List Box) (o : Option VT) (r : AV) (A' : List Box) : Prop :=
  ∃ B cs S, A' = A ++ B ∧ (∀ b ∈ B, ifreeB b = true) ∧ r = .tuple [.agg cs, .bool o.isSome] ∧ ifrees cs = true ∧ OwnT A' (oTyS o) cs S ∧ S.Nodup ∧ ∀ i ∈ S, A.length ≤ i ∧ i < A'.length
theorem subNew_mk {A A' : List Box} {o : Option VT} {cs : List AV} {S : List Nat} (hT : OwnT A' (oTyS o) cs S) (hN : S.Nodup) (hge : ∀ i ∈ S, A.length ≤ i) (hl : A.length ≤ A'.length) (hf : ∀ i, i < A.length → A'.getD i .dead = A.getD i .dead) :
    ∃ keep, SubNew A o (.tuple [.agg cs, .bool o.isSome]) (only keep A') := by
  refine ⟨fun k => decide (k < A.length) || decide (k ∈ S), ?_⟩
  have hfree := hT.free
  have hlow := hT.low
  generalize hkp : (fun k => decide (k < A.length) || decide (k ∈ S)) = keep
  have k1 : ∀ k, k < A.length → keep k = true := fun k hk => by rw [← hkp]; simp [hk]
  have k2 : ∀ k, k ∈ S → keep k = true := fun k hk => by rw [← hkp]; simp [hk]
  have k3 : ∀ k, A.length ≤ k → keep k = true → k ∈ S := fun k h1 h2 => by
    rw [← hkp] at h2
    simp at h2
    rcases h2 with h2 | h2
    · omega
    · exact h2
  have e := split_front (A := A) (A' := only keep A') (by rw [only_length]; exact hl) (fun k hk => by rw [only_getD, if_pos (k1 k hk)]; exact hf k hk)
  refine ⟨_, cs, S, e, fun b hb => ?_, rfl, hfree.1, hT.frame fun i hi => by rw [only_getD, if_pos (k2 i hi)], hN, fun i hi => ⟨hge i hi, by rw [only_length]; exact hlow i hi⟩⟩
  obtain ⟨i, hi, rfl⟩ := List.mem_iff_getElem.1 hb
  rw [List.getElem_drop]
  have hi2 : A.length + i < (only keep A').length := by simp at hi; omega
  have e2 : (only keep A')[A.length + i] = (only keep A').getD (A.length + i) .dead := by simp [List.getD, hi2]
  rw [e2, only_getD]
  split
  · rename_i hk; exact hfree.2 _ (k3 _ (by omega) hk)
  · rfl
theorem subNew_of {A A' : List Box} {o : Option VT} {r : AV} (h : SubOut A o r A') : ∃ keep, SubNew A o r (only keep A') := by
  cases o with
  | none =>
    obtain ⟨rfl, h2, h3⟩ := h
    exact subNew_mk (o := none) (S := []) (by rw [oTyS, ty0, ownT_mk]; exact ⟨_, rfl, .inl ⟨rfl, rfl, rfl⟩⟩) (by simp) (by simp) h2 h3
  | some v =>
    obtain ⟨cs, S, rfl, h1, h2, h3, h4, h5⟩ := h
    exact subNew_mk (o := some v) h1 h2 h3 h4 h5

/-- a contract with new memory, and the same for borrowed arguments -/
theorem new_call {f : FuncId} {args : List AV} {o : Option VT} (h : ∀ A, ACalls Tryz.prog f args A (fun r A' => SubOut A o r A')) (A : List Box) : ACalls Tryz.prog f args A (SubNew A o) :=
  ACalls.only ((h A).mono fun r A' h => subNew_of h)
theorem new_view {f : FuncId} {args args' : List AV} {o : Option VT} (h : ∀ A, ACalls Tryz.prog f args' A (SubNew A o)) {A : List Box} (hv : Views A args args') : ACalls Tryz.prog f args A (SubNew A o) := by
  refine ACalls.borrow hv ((h _).mono ?_)
  rintro r A' ⟨B, cs, S, rfl, h1, rfl, h3, h4, h5, h6⟩
  refine ⟨B, rfl, by simp [ifree, ifrees, h3], h1, B, cs, S, rfl, h1, rfl, h3, h4.frame fun i hi => ?_, h5, fun i hi => ?_⟩
  · have := (h6 i hi).1
    rw [deads_length] at this
    rw [Abs.getD_append_right this, Abs.getD_append_right (by rw [deads_length]; exact this), deads_length]
  · have := h6 i hi
    simp only [List.length_append, deads_length] at this ⊢
    exact this
theorem impl_subst_new {τ : Ty} {bs : List BdI} {o : Option VT} (ho : SubIs τ bs o) (hl : bs.length ≤ 1048576) (hk : ∀ b ∈ bs, b.Ok) (A : List Box) : ACalls Tryz.prog 35 [.agg (enc τ), .slice (bEs bs)] A (SubNew A o) :=
  ACalls.only ((impl_SubstType τ bs hl hk A).mono fun r A' h => by
    obtain ⟨o', h1, h2⟩ := h
    rw [subIs_one ho h1]
    exact subNew_of h2)
theorem impl_subst_b {τ : Ty} {bs : List BdI} {o : Option VT} (ho : SubIs τ bs o) (hl : bs.length ≤ 1048576) (hk : ∀ b ∈ bs, b.Ok) {A : List Box} {args : List AV} (hv : Views A args [.agg (enc τ), .slice (bEs bs)]) : ACalls Tryz.prog 35 args A (SubNew A o) := by
  refine ACalls.borrow hv ((impl_subst_new ho hl hk _).mono ?_)
  rintro r A' ⟨B, cs, S, rfl, h1, rfl, h3, h4, h5, h6⟩
  refine ⟨B, rfl, by simp [ifree, ifrees, h3], h1, B, cs, S, rfl, h1, rfl, h3, h4.frame fun i hi => ?_, h5, fun i hi => ?_⟩
  · have := (h6 i hi).1
    rw [deads_length] at this
    rw [Abs.getD_append_right this, Abs.getD_append_right (by rw [deads_length]; exact this), deads_length]
  · have := h6 i hi
    simp only [List.length_append, deads_length] at this ⊢
    exact this
end Go.Proofs.YtkajklfohjcofaaGreatDoor
