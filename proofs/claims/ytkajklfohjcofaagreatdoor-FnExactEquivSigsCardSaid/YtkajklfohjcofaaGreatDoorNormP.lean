/- The normal signature as data. -/
import Derived.Test.YtkajklfohjcofaaGreatDoorSpNorm
import Derived.Test.YtkajklfohjcofaaGreatDoorSigPure
set_option linter.unusedVariables false
set_option linter.unusedSimpArgs false
namespace Go.Proofs.YtkajklfohjcofaaGreatDoor
open Go.Abs

def siOf : VI → SigI
  | .ab n => ⟨1, n, ty0⟩
  | .al n v => ⟨2, n, toTy v⟩
  | .va n v => ⟨3, n, toTy v⟩
theorem itemOf_si {x : SigI} {y : VI} (h : ItemOf x y) : x = siOf y := by
  obtain ⟨k, n, t⟩ := x
  cases y <;> simp only [ItemOf] at h
  · obtain ⟨rfl, rfl, rfl⟩ := h; rfl
  · obtain ⟨rfl, rfl, rfl, _⟩ := h; rfl
  · obtain ⟨rfl, rfl, rfl, _⟩ := h; rfl
theorem itemOf_of {y : VI} (h : VOk (meanI y)) : ItemOf (siOf y) y := by
  cases y with
  | ab n => exact ⟨rfl, rfl, rfl⟩
  | al n v => exact ⟨rfl, rfl, rfl, h⟩
  | va n v => exact ⟨rfl, rfl, rfl, h⟩
theorem readsTo_si {s : List SigI} {ys : List VI} (h : ReadsTo s ys) : s = ys.map siOf := by
  refine List.ext_getElem (by simp [h.1]) fun i h1 h2 => ?_
  have := itemOf_si (h.2 i h1).2
  have hy : i < ys.length := by have := h.1; omega
  simpa [List.getD, h1, hy] using this
theorem meanI_key {y : VI} (h : VOk (meanI y)) (hl : localB (viK y).2 = true) : True := trivial

theorem allV_sub {p : Nm → Bool} {m : List (BNm × VT)} (hm : ∀ x ∈ m, allV p x.2 = true) : ∀ {v : VT}, allV p v = true → allV p (subV m v) = true
  | .num, _ => rfl
  | .nm a b, h => by
    rw [subV]
    cases hl : lookB (a, b) m with
    | none => exact h
    | some w =>
      obtain ⟨q, hq⟩ : ∃ q, (q, w) ∈ m := by
        clear h hm
        induction m with
        | nil => cases hl
        | cons x m ih =>
          obtain ⟨q, v⟩ := x
          rw [lookB] at hl
          split at hl
          · cases hl; exact ⟨q, by simp⟩
          · obtain ⟨q', h'⟩ := ih hl; exact ⟨q', by simp [h']⟩
      exact hm _ hq
  | .fn a b, h => by
    simp only [allV, Bool.and_eq_true] at h
    simp only [subV, allV, Bool.and_eq_true]
    exact ⟨allV_sub hm h.1, allV_sub hm h.2⟩
theorem allV_mono {p q : Nm → Bool} (h : ∀ x, p x = true → q x = true) : ∀ {v : VT}, allV p v = true → allV q v = true
  | .num, _ => rfl
  | .nm a b, h' => h _ h'
  | .fn a b, h' => by
    simp only [allV, Bool.and_eq_true] at h' ⊢
    exact ⟨allV_mono h h'.1, allV_mono h h'.2⟩

/-- the first items with normal types -/
def zsN (ys : List VI) (i : Nat) : List VI := (List.range i).map fun k => subI (nxtL (ys.take k)) (ys.getD k vi0)
theorem zsN_length (ys : List VI) (i : Nat) : (zsN ys i).length = i := by simp [zsN]
theorem zsN_succ (ys : List VI) (i : Nat) : zsN ys (i + 1) = zsN ys i ++ [subI (nxtL (ys.take i)) (ys.getD i vi0)] := by simp [zsN, List.range_succ]
theorem zsN_getD (ys : List VI) {i k : Nat} (h : k < i) : (zsN ys i).getD k vi0 = subI (nxtL (ys.take k)) (ys.getD k vi0) := by
  simp [zsN, List.getD, h]
theorem normL_from (ys : List VI) : ∀ n i, n = ys.length - i → i ≤ ys.length → (∀ k, k < i → fitI (subI (nxtL (ys.take k)) (ys.getD k vi0)) = true) → normL [] ys = (normL (nxtL (ys.take i)) (ys.drop i)).map (zsN ys i ++ ·)
  | _, 0, _, _, _ => by simp [zsN, nxtL]
  | n, i + 1, hn, hi, hk => by
    rw [normL_from ys (n + 1) i (by omega) (by omega) fun k h => hk k (by omega), vi_drop (show i < ys.length by omega), normL, if_pos (hk i (by omega)), nxtL_snoc ys (by omega), zsN_succ, Option.map_map]
    congr 1
    funext x
    simp
theorem normL_yes {ys : List VI} (hf : fitL ys) : normL [] ys = some (zsN ys ys.length) := by
  rw [normL_from ys 0 ys.length (by omega) (Nat.le_refl _) hf, List.drop_length, normL]
  simp
theorem normL_no {ys : List VI} {i : Nat} (hi : i < ys.length) (hf : ∀ k, k < i → fitI (subI (nxtL (ys.take k)) (ys.getD k vi0)) = true) (h : fitI (subI (nxtL (ys.take i)) (ys.getD i vi0)) = false) : normL [] ys = none := by
  rw [normL_from ys _ i rfl (by omega) hf, vi_drop hi, normL, if_neg (by rw [h]; simp)]
  rfl
theorem normL_fit {ys zs : List VI} (h : normL [] ys = some zs) : fitL ys ∧ zs = zsN ys ys.length := by
  have hf : fitL ys := by
    intro i hi
    cases hc : fitI (subI (nxtL (ys.take i)) (ys.getD i vi0)) with
    | true => rfl
    | false =>
      exfalso
      obtain ⟨j, hj, hmin⟩ : ∃ j, (j ≤ i ∧ fitI (subI (nxtL (ys.take j)) (ys.getD j vi0)) = false) ∧ ∀ k, k < j → fitI (subI (nxtL (ys.take k)) (ys.getD k vi0)) = true := by
        clear h
        induction i using Nat.strongRecOn with
        | _ i ih =>
          by_cases hx : ∀ k, k < i → fitI (subI (nxtL (ys.take k)) (ys.getD k vi0)) = true
          · exact ⟨i, ⟨Nat.le_refl _, hc⟩, hx⟩
          · simp only [Classical.not_forall] at hx
            obtain ⟨k, hk, hk2⟩ := hx
            obtain ⟨j, h1, h2⟩ := ih k hk (by omega) (by simpa using hk2)
            exact ⟨j, ⟨by omega, h1.2⟩, h2⟩
      rw [normL_no (by omega) hmin hj.2] at h
      cases h
  exact ⟨hf, by rw [normL_yes hf] at h; exact (Option.some.inj h).symm⟩
/-- what is known mentions what is defined only -/
theorem nxtL_all (ys : List VI) (ho : ordB ys = true) : ∀ i, i ≤ ys.length → ∀ x ∈ nxtL (ys.take i), allV (okN ((ys.take i).map viK)) x.2 = true
  | 0, _ => by simp [nxtL]
  | i + 1, h => by
    have ih := nxtL_all ys ho i (by omega)
    have hs : stepB (ys.take i) (ys.getD i vi0) = true := by
      unfold ordB at ho
      rw [List.all_eq_true] at ho
      exact ho i (List.mem_range.mpr h)
    simp only [stepB, Bool.and_eq_true] at hs
    have hmono : ∀ x, okN ((ys.take i).map viK) x = true → okN ((ys.take (i + 1)).map viK) x = true := fun x hx => by
      rw [keys_take h]
      simp only [okN, Bool.or_eq_true, decide_eq_true_eq, List.mem_append] at hx ⊢
      rcases hx with hx | hx
      · exact .inl hx
      · exact .inr (.inl hx)
    rw [nxtL_snoc ys (by omega)]
    cases hy : ys.getD i vi0 with
    | ab n =>
      simp only [nxtM, List.mem_append, List.mem_singleton]
      rintro x (hx | rfl)
      · exact allV_mono hmono (ih x hx)
      · simp only [allV]
        rw [keys_take h, hy]
        simp [okN, viK]
    | al n v =>
      rw [hy] at hs
      simp only [allI] at hs
      simp only [nxtM, List.mem_append, List.mem_singleton]
      rintro x (hx | rfl)
      · exact allV_mono hmono (ih x hx)
      · exact allV_mono hmono (allV_sub ih hs.1)
    | va n v =>
      simp only [nxtM]
      exact fun x hx => allV_mono hmono (ih x hx)
theorem zsN_keys (ys : List VI) : ∀ i, i ≤ ys.length → (zsN ys i).map viK = (ys.take i).map viK
  | 0, _ => by simp [zsN]
  | i + 1, h => by rw [zsN_succ, List.map_append, zsN_keys ys i (by omega), keys_take h]; simp [viK_sub]
/-- a normal signature is in order -/
theorem ordB_norm {ys : List VI} (ho : ordB ys = true) : ordB (zsN ys ys.length) = true := by
  have hz := zsN_length ys ys.length
  have ho' := ho
  unfold ordB at ho' ⊢
  rw [List.all_eq_true] at ho' ⊢
  intro i hi
  rw [List.mem_range, hz] at hi
  have hs := ho' i (List.mem_range.mpr hi)
  have e : (zsN ys ys.length).take i = zsN ys i := by
    simp only [zsN, ← List.map_take]
    congr 1
    rw [List.take_range, Nat.min_eq_left (by omega)]
  rw [e, zsN_getD ys hi]
  simp only [stepB, Bool.and_eq_true, viK_sub, zsN_keys ys i (by omega)] at hs ⊢
  refine ⟨?_, hs.2⟩
  have hall := nxtL_all ys ho i (by omega)
  generalize nxtL (ys.take i) = m at *
  generalize ys.getD i vi0 = y at *
  cases y with
  | ab n => rfl
  | al n v => exact allV_sub hall hs.1
  | va n v => exact allV_sub hall hs.1
theorem zsN_ok {ys : List VI} (hy : ∀ i, i < ys.length → VOk (meanI (ys.getD i vi0))) (hf : fitL ys) {i : Nat} (hi : i < ys.length) : VOk (meanI (subI (nxtL (ys.take i)) (ys.getD i vi0))) := by
  have h1 := nxtL_ok ys hy hf i (by omega)
  have h2 := mean_sub h1 (hy i hi)
  have h3 := hf i hi
  simp only [fitI, Bool.and_eq_true, decide_eq_true_eq] at h3
  exact ⟨h2.1, h3.1, h3.2⟩
theorem siOf_name (y : VI) : (siOf y).name = (viK y).2 := by cases y <;> rfl
theorem zsN_reads {s : List SigI} {ys : List VI} (hr : ReadsTo s ys) (hf : fitL ys) : ReadsTo ((zsN ys ys.length).map siOf) (zsN ys ys.length) := by
  have hy : ∀ i, i < ys.length → VOk (meanI (ys.getD i vi0)) := fun k hk => by
    have := hr.2 k (by rw [← hr.1]; exact hk)
    exact mean_ok this.1 this.2
  refine ⟨by simp, fun i hi => ?_⟩
  have hi' : i < ys.length := by simpa [zsN_length] using hi
  have e : ((zsN ys ys.length).map siOf).getD i si0 = siOf ((zsN ys ys.length).getD i vi0) := by
    simp [List.getD, zsN, hi']
  have hrl := hr.2 i (by rw [← hr.1]; exact hi')
  rw [e, zsN_getD ys hi']
  refine ⟨?_, itemOf_of (zsN_ok hy hf hi')⟩
  rw [siOf_name, viK_sub, ← siOf_name, ← itemOf_si hrl.2]
  exact hrl.1
end Go.Proofs.YtkajklfohjcofaaGreatDoor
