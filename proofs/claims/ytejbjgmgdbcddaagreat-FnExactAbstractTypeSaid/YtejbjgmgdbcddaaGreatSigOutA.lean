/- A signature's answer in memory of its own. -/
import Derived.Test.YtejbjgmgdbcddaaGreatOwnFree
import Derived.Test.YtejbjgmgdbcddaaGreatSigBase
import Derived.Test.YtejbjgmgdbcddaaGreatSigPl
import Derived.Test.YtejbjgmgdbcddaaGreatOwnSi
import Derived.Test.YtejbjgmgdbcddaaGreatAbsW3
set_option linter.unusedVariables false
set_option linter.unusedSimpArgs false
namespace Go.Proofs.YtejbjgmgdbcddaaGreat
open Go.Abs

theorem OwnK.free {A : List Box} {ks : List Ty} {v : AV} {S : List Nat} (h : OwnK A ks v S) : ifree v = true ∧ ∀ i ∈ S, ifreeB (A.getD i .dead) = true := by
  have h2 := OwnT.free (ownT_mk.2 ⟨v, rfl, h⟩ : OwnT A (.mk 0 [] [] ks) _ S)
  simpa [ifrees, ifree] using h2
theorem OwnG.free {A : List Box} : ∀ {xs : List SigI} {rows : List (List AV)} {S : List Nat}, OwnG A xs rows S → rows.all ifrees = true ∧ ∀ i ∈ S, ifreeB (A.getD i .dead) = true
  | [], rows, S, h => by rw [OwnG] at h; rw [h.1, h.2]; exact ⟨rfl, by simp⟩
  | t :: ks, rows, S, h => by
    rw [OwnG] at h
    obtain ⟨v, rows', S1, S2, rfl, rfl, h3, h4⟩ := h
    have a := h3.free
    have b := OwnG.free h4
    refine ⟨by rw [List.all_cons, b.1]; simp [sRow, ifrees, ifree, a.1], fun j hj => ?_⟩
    rcases List.mem_append.1 hj with hj | hj
    · exact a.2 j hj
    · exact b.2 j hj
theorem OwnI.free {A : List Box} {xs : List SigI} {v : AV} {S : List Nat} (h : OwnI A xs v S) : ifree v = true ∧ ∀ i ∈ S, ifreeB (A.getD i .dead) = true := by
  rcases h with ⟨rfl, _, rfl⟩ | ⟨i, rows, S', rfl, rfl, h3, h4⟩
  · exact ⟨rfl, by simp⟩
  · refine ⟨rfl, fun j hj => ?_⟩
    have h5 := h4.free
    rcases List.mem_cons.1 hj with rfl | hj
    · rw [h3]; exact h5.1
    · exact h5.2 j hj
/-- what is handed back, in new memory -/
def SgOut (A : List Box) (xs : List SigI) (ok : Bool) (r : AV) (A' : List Box) : Prop :=
  ∃ v S, r = .tuple [v, .bool ok] ∧ OwnI A' xs v S ∧ S.Nodup ∧ (∀ i ∈ S, A.length ≤ i) ∧ A.length ≤ A'.length ∧ ∀ i, i < A.length → A'.getD i .dead = A.getD i .dead
def SgNew (A : List Box) (xs : List SigI) (ok : Bool) (r : AV) (A' : List Box) : Prop :=
  ∃ B v S, A' = A ++ B ∧ (∀ b ∈ B, ifreeB b = true) ∧ r = .tuple [v, .bool ok] ∧ ifree v = true ∧ OwnI A' xs v S ∧ S.Nodup ∧ ∀ i ∈ S, A.length ≤ i ∧ i < A'.length
theorem sgNew_of {A A' : List Box} {xs : List SigI} {ok : Bool} {r : AV} (h : SgOut A xs ok r A') : ∃ keep, SgNew A xs ok r (only keep A') := by
  obtain ⟨v, S, rfl, hT, hN, hge, hl, hf⟩ := h
  refine ⟨fun k => decide (k < A.length) || decide (k ∈ S), ?_⟩
  have hfree := hT.free
  have hlow := hT.low
  generalize hkp : (fun k => decide (k < A.length) || decide (k ∈ S)) = keep
  have k1 : ∀ k, k < A.length → keep k = true := fun k hk => by rw [← hkp]; simp [hk]
  have k2 : ∀ k, k ∈ S → keep k = true := fun k hk => by rw [← hkp]; simp [hk]
  have k3 : ∀ k, A.length ≤ k → keep k = true → k ∈ S := fun k h1 h2 => by
    rw [← hkp] at h2
    simp at h2
    rcases h2 with h2 | h2
    · omega
    · exact h2
  have e := split_front (A := A) (A' := only keep A') (by rw [only_length]; exact hl) (fun k hk => by rw [only_getD, if_pos (k1 k hk)]; exact hf k hk)
  refine ⟨_, v, S, e, fun b hb => ?_, rfl, hfree.1, hT.frame fun i hi => by rw [only_getD, if_pos (k2 i hi)], hN, fun i hi => ⟨hge i hi, by rw [only_length]; exact hlow i hi⟩⟩
  obtain ⟨i, hi, rfl⟩ := List.mem_iff_getElem.1 hb
  rw [List.getElem_drop]
  have hi2 : A.length + i < (only keep A').length := by simp at hi; omega
  have e2 : (only keep A')[A.length + i] = (only keep A').getD (A.length + i) .dead := by simp [List.getD, hi2]
  rw [e2, only_getD]
  split
  · rename_i hk; exact hfree.2 _ (k3 _ (by omega) hk)
  · rfl
theorem sg_call {f : FuncId} {args : List AV} {xs : List SigI} {ok : Bool} (h : ∀ A, ACalls Tryz.prog f args A (fun r A' => SgOut A xs ok r A')) (A : List Box) : ACalls Tryz.prog f args A (SgNew A xs ok) :=
  ACalls.only ((h A).mono fun r A' h => sgNew_of h)
theorem sg_view {f : FuncId} {args args' : List AV} {xs : List SigI} {ok : Bool} (h : ∀ A, ACalls Tryz.prog f args' A (SgNew A xs ok)) {A : List Box} (hv : Views A args args') : ACalls Tryz.prog f args A (SgNew A xs ok) := by
  refine ACalls.borrow hv ((h _).mono ?_)
  rintro r A' ⟨B, v, S, rfl, h1, rfl, h3, h4, h5, h6⟩
  refine ⟨B, rfl, by simp [ifree, ifrees, h3], h1, B, v, S, rfl, h1, rfl, h3, h4.frame fun i hi => ?_, h5, fun i hi => ?_⟩
  · have := (h6 i hi).1
    rw [deads_length] at this
    rw [Abs.getD_append_right this, Abs.getD_append_right (by rw [deads_length]; exact this), deads_length]
  · have := h6 i hi
    simp only [List.length_append, deads_length] at this ⊢
    exact this
set_option maxRecDepth 100000 in
theorem impl_plainSig (ys : List VI) (hl : ys.length ≤ 1000) (A : List Box) : ACalls Tryz.prog 21 [.slice (vRows ys)] A (fun r A' => ∃ j, r = .own j ∧ NewG A (ys.map siOf) j A') := by
  refine acalls_enterK (cf := cf 5 [0, 2]) foll Tryz.func21 Tryz.ntmps21 (by simp [cf]) ?_
  simp only [Tryz.f21, EnterK_some, zW, zX, zD, builtinA, isLeaf, const1, ustrA, simprocAttr, ca33, cf, Tryz.results21]
  refine callO_intro (impl_plainItems ys hl _) ?_
  rintro r A' ⟨j, rfl, h⟩
  simp only [zW, zX, zD, builtinA, isLeaf, const1, ustrA, simprocAttr, ca33, cf, Tryz.results21]
  exact ⟨j, rfl, h⟩
def nrX : Option (List VI) → List SigI
  | some zs => zs.map siOf
  | none => []
theorem itemsX_ok {s : List SigI} (hs : ∀ x ∈ s, x.Ok) {zs : List VI} (h8 : zs.length ≤ 8) (hv : ∀ i, i < zs.length → VOk (meanI (zs.getD i vi0)) ∧ (viK (zs.getD i vi0)).2.length < 2 ^ 63) : (zs.map siOf).length ≤ 8 ∧ (∀ x ∈ zs.map siOf, x.Ok) ∧ totG (zs.map siOf) ≤ 1600 := by
  have key : ∀ x ∈ zs.map siOf, x.Ok ∧ counts x.typ.kids ≤ 64 := fun x hx => by
    obtain ⟨y, hy, rfl⟩ := List.mem_map.1 hx
    obtain ⟨k, hk, rfl⟩ := List.mem_iff_getElem.1 hy
    have h := hv k hk
    have e : zs.getD k vi0 = zs[k] := by simp [List.getD, hk]
    rw [e] at h
    refine ⟨(siOf_ok h.1 h.2).1, ?_⟩
    have hc := h.1.cnt
    generalize zs[k] = y at *
    have hk : ∀ v, counts (toTy v).kids + 1 = cnt v := fun v => by
      rw [← count_toTy]; cases toTy v; simp [count, Ty.kids]; omega
    cases y with
    | ab n => simp [siOf, ty0, Ty.kids, counts]
    | al n v => have := hk v; simp only [siOf, meanI] at *; omega
    | va n v => have := hk v; simp only [siOf, meanI] at *; omega
  refine ⟨by simpa using h8, fun x hx => (key x hx).1, ?_⟩
  have hb : ∀ l : List SigI, (∀ x ∈ l, counts x.typ.kids ≤ 64) → totG l ≤ 197 * l.length := by
    intro l
    induction l with
    | nil => simp [totG]
    | cons x l ih =>
      intro h
      have := h x (by simp)
      have := ih fun y hy => h y (by simp [hy])
      rw [totG, List.length_cons]; omega
  have := hb _ fun x hx => (key x hx).2
  simp only [List.length_map] at this
  omega
theorem sg_none (A B : List Box) : SgOut A [] false (.tuple [.nils, .bool false]) (A ++ B) := ⟨_, [], rfl, .inl ⟨rfl, rfl, rfl⟩, by simp, by simp, by simp, fun i hi => Abs.getD_append_left hi⟩
end Go.Proofs.YtejbjgmgdbcddaaGreat
