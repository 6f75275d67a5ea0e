/- What becomes of a signature without an item, or with an item made abstract: data. -/
import Derived.Test.YtejbjgmgdbcddaaGreatSpAbs
import Derived.Test.YtejbjgmgdbcddaaGreatSigOutA
set_option linter.unusedVariables false
set_option linter.unusedSimpArgs false
namespace Go.Proofs.YtejbjgmgdbcddaaGreat
open Go.Abs

theorem ord_ne {ys : List VI} (h : ordB ys = true) {i k : Nat} (hik : i < k) (hk : k < ys.length) : viK (ys.getD i vi0) ≠ viK (ys.getD k vi0) := by
  unfold ordB at h
  rw [List.all_eq_true] at h
  have h1 := h k (List.mem_range.mpr hk)
  simp only [stepB, Bool.and_eq_true, Bool.not_eq_true', decide_eq_false_iff_not] at h1
  intro e
  refine h1.2 ?_
  rw [← e]
  refine List.mem_map.2 ⟨ys.getD i vi0, ?_, rfl⟩
  have : ys.getD i vi0 = (ys.take k)[i]'(by simp; omega) := by simp [List.getD, show i < ys.length by omega]
  rw [this]
  exact List.getElem_mem _
def dropI (ys : List VI) (i : Nat) : List VI := ys.take i ++ ys.drop (i + 1)
def noK (q : Ky) (y : VI) : Bool := !decide (viK y = q)
theorem vi_split {ys : List VI} {i : Nat} (hi : i < ys.length) : ys = ys.take i ++ ys.getD i vi0 :: ys.drop (i + 1) := by
  have e : ys.getD i vi0 = ys[i] := by simp [List.getD, hi]
  rw [e, List.getElem_cons_drop hi, List.take_append_drop]
theorem filt_key {ys : List VI} (h : ordB ys = true) {i : Nat} (hi : i < ys.length) {q : Ky} (hq : viK (ys.getD i vi0) = q) : ys.filter (noK q) = dropI ys i := by
  have e1 : (ys.take i).filter (noK q) = ys.take i := by
    rw [List.filter_eq_self]
    intro y hy
    obtain ⟨k, hk, rfl⟩ := List.getElem_of_mem hy
    have hk2 : k < i := by simp at hk; omega
    have hne := ord_ne h hk2 hi
    have e : (ys.take i)[k] = ys.getD k vi0 := by simp [List.getD, show k < ys.length by omega]
    rw [e]
    simp only [noK, Bool.not_eq_true', decide_eq_false_iff_not]
    rw [← hq]; exact hne
  have e2 : (ys.drop (i + 1)).filter (noK q) = ys.drop (i + 1) := by
    rw [List.filter_eq_self]
    intro y hy
    obtain ⟨k, hk, rfl⟩ := List.getElem_of_mem hy
    have hk2 : i + 1 + k < ys.length := by simp at hk; omega
    have hne := ord_ne h (show i < i + 1 + k by omega) hk2
    have e : (ys.drop (i + 1))[k] = ys.getD (i + 1 + k) vi0 := by simp [List.getD, hk2]
    rw [e]
    simp only [noK, Bool.not_eq_true', decide_eq_false_iff_not]
    rw [← hq]; exact fun e => hne e.symm
  conv => lhs; rw [vi_split hi]
  rw [List.filter_append, List.filter_cons, e1, e2, if_neg (by rw [noK, hq]; simp)]
  rfl
theorem filt_none {ys : List VI} {q : Ky} (h : ∀ i, i < ys.length → viK (ys.getD i vi0) ≠ q) : ys.filter (noK q) = ys := by
  rw [List.filter_eq_self]
  intro y hy
  obtain ⟨k, hk, rfl⟩ := List.getElem_of_mem hy
  have := h k hk
  simp only [noK, Bool.not_eq_true', decide_eq_false_iff_not]
  simpa [List.getD, hk] using this
theorem isDr_si (nm : List UInt8) (y : VI) : isDr nm (siOf y) = noK (true, nm) y := by
  rw [Bool.eq_iff_iff]
  cases y <;> simp only [isDr, siOf, noK, viK, Bool.or_eq_true, decide_eq_true_eq, Bool.not_eq_true', decide_eq_false_iff_not, Prod.mk.injEq, ne_eq] <;> simp <;> exact decide_eq_true_iff
theorem isAT_si (nm : List UInt8) (y : VI) : isAT nm (siOf y) = decide (viK y = (false, nm)) := by
  rw [Bool.eq_iff_iff]
  cases y <;> simp only [isAT, siOf, isTB, viK, Bool.and_eq_true, Bool.or_eq_true, decide_eq_true_eq, Prod.mk.injEq] <;> simp <;> exact decide_eq_true_iff
theorem reads_si {s : List SigI} {ys : List VI} (h : ReadsTo s ys) : s = ys.map siOf := by
  refine List.ext_getElem (by simp [h.1]) fun i h1 h2 => ?_
  have := itemOf_si (h.2 i h1).2
  simpa [List.getD, h1, show i < ys.length by rw [h.1]; exact h1] using this
theorem filt_si (nm : List UInt8) (ys : List VI) : (ys.map siOf).filter (isDr nm) = (ys.filter (noK (true, nm))).map siOf := by
  rw [List.filter_map]
  congr 1
  refine List.filter_congr fun y _ => ?_
  exact isDr_si nm y
theorem dropI_len {ys : List VI} {i : Nat} (hi : i < ys.length) : (dropI ys i).length + 1 = ys.length := by
  simp only [dropI, List.length_append, List.length_take, List.length_drop]; omega
theorem drT_some {s : List SigI} {ys : List VI} (h8 : s.length ≤ 8) (hr : ReadsTo s ys) (ho : ordB ys = true) {nm : List UInt8} {i : Nat} (hi : i < ys.length) (hq : viK (ys.getD i vi0) = (true, nm)) : drT s nm = some ((dropI ys i).map siOf) := by
  have e : s.filter (isDr nm) = (dropI ys i).map siOf := by rw [reads_si hr, filt_si, filt_key ho hi hq]
  have hl : (s.filter (isDr nm)).length ≠ s.length := by
    rw [e, List.length_map]; have := dropI_len hi; have := hr.1; omega
  rw [drT, if_pos ⟨by rw [sigB_reads h8 hr]; exact ho, hl⟩, e]
theorem drT_none {s : List SigI} {ys : List VI} (hr : ReadsTo s ys) {nm : List UInt8} (h : ∀ i, i < ys.length → viK (ys.getD i vi0) ≠ (true, nm)) : drT s nm = none := by
  have e : s.filter (isDr nm) = s := by rw [reads_si hr, filt_si, filt_none h]
  rw [drT, if_neg (by rw [e]; simp)]
theorem drT_bad {s : List SigI} {nm : List UInt8} (h : sigB s = false) : drT s nm = none := by rw [drT, if_neg (by simp [h])]
def abI (ys : List VI) (nm : List UInt8) (i : Nat) : List VI := ys.take i ++ .ab nm :: ys.drop (i + 1)
theorem abT_some {s : List SigI} {ys : List VI} (h8 : s.length ≤ 8) (hr : ReadsTo s ys) (ho : ordB ys = true) {nm : List UInt8} {i : Nat} (hi : i < ys.length) (hq : viK (ys.getD i vi0) = (false, nm)) : abT s nm = some ((abI ys nm i).map siOf) := by
  have hg : ∀ k, k < ys.length → s.getD k si0 = siOf (ys.getD k vi0) := fun k hk => itemOf_si (hr.2 k (by rw [← hr.1]; exact hk)).2
  have hi' : i < s.length := by rw [← hr.1]; exact hi
  rw [abT, if_pos (by rw [sigB_reads h8 hr]; exact ho), abL_at hi' (fun k hk => by
    rw [hg k (by omega), isAT_si]
    exact decide_eq_false (by rw [← hq]; exact ord_ne ho hk hi)) (by rw [hg i hi, isAT_si]; exact decide_eq_true hq)]
  congr 1
  rw [List.set_eq_take_append_cons_drop, if_pos hi', abI, List.map_append, List.map_cons, List.map_take, List.map_drop, ← reads_si hr]
  rfl
theorem abT_none {s : List SigI} {ys : List VI} (hr : ReadsTo s ys) {nm : List UInt8} (h : ∀ i, i < ys.length → viK (ys.getD i vi0) ≠ (false, nm)) : abT s nm = none := by
  have e : abL nm s = none := by
    rw [abL_from nm s s.length (Nat.le_refl _) fun k hk => by
      rw [show s.getD k si0 = siOf (ys.getD k vi0) from itemOf_si (hr.2 k hk).2, isAT_si]
      exact decide_eq_false (h k (by rw [hr.1]; exact hk)), List.drop_length, abL]
    rfl
  rw [abT, e]; simp
theorem abT_bad {s : List SigI} {nm : List UInt8} (h : sigB s = false) : abT s nm = none := by rw [abT, if_neg (by simp [h])]
theorem viX_all {s : List SigI} (hs : ∀ x ∈ s, x.Ok) {ys : List VI} (hr : ReadsTo s ys) : ∀ y ∈ ys, VOk (meanI y) ∧ (viK y).2.length < 2 ^ 63 := by
  intro y hy
  obtain ⟨k, hk, rfl⟩ := List.getElem_of_mem hy
  have h1 := hr.2 k (by rw [← hr.1]; exact hk)
  have e : ys[k] = ys.getD k vi0 := by simp [List.getD, hk]
  rw [e]
  refine ⟨mean_ok h1.1 h1.2, ?_⟩
  rw [← siOf_name, ← itemOf_si h1.2]
  exact (hs _ (si_mem (by rw [← hr.1]; exact hk))).1
theorem getD_all {zs : List VI} (P : VI → Prop) (h : ∀ z ∈ zs, P z) : ∀ i, i < zs.length → P (zs.getD i vi0) := fun i hi => h _ (by simp [List.getD, hi])
theorem dropX_ok {s : List SigI} (hs : ∀ x ∈ s, x.Ok) {ys : List VI} (h8 : s.length ≤ 8) (hr : ReadsTo s ys) {i : Nat} (hi : i < ys.length) : ((dropI ys i).map siOf).length ≤ 8 ∧ (∀ x ∈ (dropI ys i).map siOf, x.Ok) ∧ totG ((dropI ys i).map siOf) ≤ 1600 := by
  refine itemsX_ok hs (by have := dropI_len hi; have := hr.1; omega) (getD_all (fun z => VOk (meanI z) ∧ (viK z).2.length < 2 ^ 63) fun z hz => viX_all hs hr z ?_)
  rcases List.mem_append.1 hz with h | h
  · exact List.mem_of_mem_take h
  · exact List.mem_of_mem_drop h
theorem abX_ok {s : List SigI} (hs : ∀ x ∈ s, x.Ok) {ys : List VI} (h8 : s.length ≤ 8) (hr : ReadsTo s ys) {nm : List UInt8} {i : Nat} (hi : i < ys.length) (hq : viK (ys.getD i vi0) = (false, nm)) : ((abI ys nm i).map siOf).length ≤ 8 ∧ (∀ x ∈ (abI ys nm i).map siOf, x.Ok) ∧ totG ((abI ys nm i).map siOf) ≤ 1600 := by
  have hl : (abI ys nm i).length = ys.length := by simp only [abI, List.length_append, List.length_take, List.length_cons, List.length_drop]; omega
  refine itemsX_ok hs (by rw [hl, hr.1]; exact h8) (getD_all (fun z => VOk (meanI z) ∧ (viK z).2.length < 2 ^ 63) fun z hz => ?_)
  rcases List.mem_append.1 hz with h | h
  · exact viX_all hs hr z (List.mem_of_mem_take h)
  · rcases List.mem_cons.1 h with rfl | h
    · have h1 := hr.2 i (by rw [← hr.1]; exact hi)
      have hk : (viK (ys.getD i vi0)).2 = nm := by rw [hq]
      have hnm : (s.getD i si0).name = nm := by
        rw [← hk, itemOf_si h1.2, siOf_name]
      have hl2 : localB nm = true := by rw [← hnm]; exact h1.1
      have hm := mean_ok (x := ⟨1, nm, ty0⟩) (y := .ab nm) hl2 ⟨rfl, rfl, rfl⟩
      refine ⟨hm, ?_⟩
      have := (hs _ (si_mem (show i < s.length by rw [← hr.1]; exact hi))).1
      rw [hnm] at this
      exact this
    · exact viX_all hs hr z (List.mem_of_mem_drop h)
theorem drX_ok {s : List SigI} (hs : ∀ x ∈ s, x.Ok) (nm : List UInt8) : ((drT s nm).getD []).length ≤ 8 ∧ (∀ x ∈ (drT s nm).getD [], x.Ok) ∧ totG ((drT s nm).getD []) ≤ 1600 := by
  have hn : drT s nm = none → ((drT s nm).getD []).length ≤ 8 ∧ (∀ x ∈ (drT s nm).getD [], x.Ok) ∧ totG ((drT s nm).getD []) ≤ 1600 := fun h => by rw [h]; exact ⟨by simp, by simp, by simp [totG]⟩
  cases hb : sigB s with
  | false => exact hn (drT_bad hb)
  | true =>
    obtain ⟨ys, h8, hr, hord⟩ := sigB_yes hb
    by_cases h : ∃ i, i < ys.length ∧ viK (ys.getD i vi0) = (true, nm)
    · obtain ⟨i, hi, hq⟩ := h
      rw [drT_some h8 hr hord hi hq]
      exact dropX_ok hs h8 hr hi
    · exact hn (drT_none hr fun i hi e => h ⟨i, hi, e⟩)
theorem abX2_ok {s : List SigI} (hs : ∀ x ∈ s, x.Ok) (nm : List UInt8) : ((abT s nm).getD []).length ≤ 8 ∧ (∀ x ∈ (abT s nm).getD [], x.Ok) ∧ totG ((abT s nm).getD []) ≤ 1600 := by
  have hn : abT s nm = none → ((abT s nm).getD []).length ≤ 8 ∧ (∀ x ∈ (abT s nm).getD [], x.Ok) ∧ totG ((abT s nm).getD []) ≤ 1600 := fun h => by rw [h]; exact ⟨by simp, by simp, by simp [totG]⟩
  cases hb : sigB s with
  | false => exact hn (abT_bad hb)
  | true =>
    obtain ⟨ys, h8, hr, hord⟩ := sigB_yes hb
    by_cases h : ∃ i, i < ys.length ∧ viK (ys.getD i vi0) = (false, nm)
    · obtain ⟨i, hi, hq⟩ := h
      rw [abT_some h8 hr hord hi hq]
      exact abX_ok hs h8 hr hi hq
    · exact hn (abT_none hr fun i hi e => h ⟨i, hi, e⟩)
end Go.Proofs.YtejbjgmgdbcddaaGreat
