/- What a name of a signature stands for is one thing only. -/
import Derived.Test.YtkajklfohjcofaaGreatDoorSigRdN
import Derived.Test.YtkajklfohjcofaaGreatDoorSubT
set_option linter.unusedVariables false
set_option linter.unusedSimpArgs false
namespace Go.Proofs.YtkajklfohjcofaaGreatDoor
open Go.Abs

theorem itemOf_one {x : SigI} {y y' : VI} (h : ItemOf x y) (h' : ItemOf x y') : y = y' := by
  cases y <;> cases y' <;> simp only [ItemOf] at h h'
  all_goals first
    | (exfalso; have := h.2.1; have := h'.2.1; omega)
    | (rw [← h.1, ← h'.1, toTy_injS (h.2.2.1.symm.trans h'.2.2.1)]; done)
    | (rw [← h.1, ← h'.1]; done)
theorem itemOf_yes {x : SigI} {y : VI} (hl : localB x.name = true) (h : ItemOf x y) : itemOk x = true := by
  cases y <;> simp only [ItemOf] at h
  · simp [itemOk, hl, h.2.1, h.2.2]
  · simp [itemOk, hl, h.2.1, h.2.2.1, validB_toTy h.2.2.2]
  · simp [itemOk, hl, h.2.1, h.2.2.1, validB_toTy h.2.2.2]
theorem vi_ext {ys zs : List VI} (hl : ys.length = zs.length) (h : ∀ i, i < ys.length → ys.getD i vi0 = zs.getD i vi0) : ys = zs := by
  refine List.ext_getElem hl fun i h1 h2 => ?_
  have := h i h1
  simpa [List.getD, h1, h2] using this
theorem readsTo_one {s : List SigI} {ys zs : List VI} (h : ReadsTo s ys) (h' : ReadsTo s zs) : ys = zs :=
  vi_ext (h.1.trans h'.1.symm) fun i hi => itemOf_one (h.2 i (h.1 ▸ hi)).2 (h'.2 i (h.1 ▸ hi)).2
theorem readsTo_not {s : List SigI} {ys : List VI} (h : ReadsTo s ys) : ¬ ∃ x ∈ s, itemOk x = false := by
  rintro ⟨x, hx, hf⟩
  obtain ⟨i, hi, rfl⟩ := List.mem_iff_getElem.1 hx
  have := h.2 i hi
  have e : s.getD i si0 = s[i] := by simp [List.getD, hi]
  rw [e] at this
  rw [itemOf_yes this.1 this.2] at hf
  cases hf
theorem rdN_one {s : List SigI} {zs zs' : List VI} (h : RdN s (some zs)) (h' : RdN s (some zs')) : zs = zs' := by
  obtain ⟨ys, _, hr, _, hn⟩ := h
  obtain ⟨ys', _, hr', _, hn'⟩ := h'
  rw [readsTo_one hr hr', hn'] at hn
  exact (Option.some.inj hn).symm
theorem rdN_not {s : List SigI} {zs : List VI} (h : RdN s (some zs)) : ¬ RdN s none := by
  obtain ⟨ys, h8, hr, ho, hn⟩ := h
  rintro ((h | h) | ⟨ys', _, hr', h | h⟩)
  · omega
  · exact readsTo_not hr h
  · rw [readsTo_one hr' hr, ho] at h; cases h
  · rw [readsTo_one hr' hr, hn] at h; cases h
theorem ordB_ne {ys : List VI} (h : ordB ys = true) {i j : Nat} (hij : i < j) (hj : j < ys.length) : viK (ys.getD i vi0) ≠ viK (ys.getD j vi0) := by
  intro e
  have hs : stepB (ys.take j) (ys.getD j vi0) = true := by
    unfold ordB at h
    rw [List.all_eq_true] at h
    exact h j (List.mem_range.mpr hj)
  simp only [stepB, Bool.and_eq_true, Bool.not_eq_true', decide_eq_false_iff_not] at hs
  refine hs.2 (List.mem_map.2 ⟨ys.getD i vi0, ?_, e⟩)
  rw [List.mem_take_iff_getElem]
  exact ⟨i, by omega, by simp [List.getD, show i < ys.length by omega]⟩
theorem ordB_inj {ys : List VI} (h : ordB ys = true) {i j : Nat} (hi : i < ys.length) (hj : j < ys.length) (e : viK (ys.getD i vi0) = viK (ys.getD j vi0)) : i = j := by
  rcases Nat.lt_trichotomy i j with hl | hl | hl
  · exact absurd e (ordB_ne h hl hj)
  · exact hl
  · exact absurd e.symm (ordB_ne h hl hi)
theorem normL_keys : ∀ {ys zs : List VI} {m : List (BNm × VT)}, normL m ys = some zs → zs.map viK = ys.map viK
  | [], zs, m, h => by cases h; rfl
  | y :: ys, zs, m, h => by
    rw [normL] at h
    split at h
    · obtain ⟨x, hx, rfl⟩ := Option.map_eq_some_iff.1 h
      simp [normL_keys hx, viK_sub]
    · cases h
theorem keys_getD {ys zs : List VI} (h : zs.map viK = ys.map viK) {i : Nat} (hi : i < zs.length) : viK (zs.getD i vi0) = viK (ys.getD i vi0) := by
  have hl : zs.length = ys.length := by simpa using congrArg List.length h
  have := congrArg (fun l => l[i]?) h
  simpa [List.getD, hi, hl ▸ hi] using this
theorem findO_one {s : List SigI} {zs : List VI} (h : RdN s (some zs)) {q : Ky} {o o' : Option VT} (h1 : FindO zs q o) (h2 : FindO zs q o') : o = o' := by
  obtain ⟨ys, _, hr, ho, hn⟩ := h
  have hk := normL_keys hn
  have hl := normL_len hn
  cases o with
  | none =>
    cases o' with
    | none => rfl
    | some v => obtain ⟨i, hi, hq, _⟩ := h2; exact absurd hq (h1 i hi)
  | some v =>
    obtain ⟨i, hi, hq, hv⟩ := h1
    cases o' with
    | none => exact absurd hq (h2 i hi)
    | some w =>
      obtain ⟨j, hj, hq2, hw⟩ := h2
      have e : i = j := ordB_inj ho (by omega) (by omega) (by rw [← keys_getD hk hi, ← keys_getD hk hj, hq, hq2])
      rw [← hv, ← hw, e]
/-- one answer only -/
theorem meanIs_one {s : List SigI} {q : Ky} {o o' : Option VT} (h : MeanIs s q o) (h' : MeanIs s q o') : o = o' := by
  rcases h with ⟨zs, hr, hf⟩ | ⟨hr, rfl⟩
  · rcases h' with ⟨zs', hr', hf'⟩ | ⟨hr', rfl⟩
    · rw [← rdN_one hr hr'] at hf'
      exact findO_one hr hf hf'
    · exact absurd hr' (rdN_not hr)
  · rcases h' with ⟨zs', hr', hf'⟩ | ⟨hr', rfl⟩
    · exact absurd hr (rdN_not hr')
    · rfl
end Go.Proofs.YtkajklfohjcofaaGreatDoor
