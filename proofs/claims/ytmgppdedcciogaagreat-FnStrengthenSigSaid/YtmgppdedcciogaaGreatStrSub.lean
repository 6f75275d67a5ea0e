/- Strengthening is substitution: what a value has for a type in the strengthened signature is the type that it has before, with each abstract type replaced. -/
import Derived.Test.YtmgppdedcciogaaGreatAbFacts
import Derived.Test.YtmgppdedcciogaaGreatSubOutS
set_option linter.unusedVariables false
set_option linter.unusedSimpArgs false
namespace Go.Proofs.YtmgppdedcciogaaGreat
open Go.Abs

def abB (mod : List UInt8) : VI → Option (BNm × VT)
  | .ab n => some (([], n), .nm mod n)
  | _ => none
/-- the bindings of the abstract types -/
def strB (mod : List UInt8) (ys : List VI) : List (BNm × VT) := ys.filterMap (abB mod)
theorem strB_mod {mod : List UInt8} : ∀ {ys : List VI}, ∀ x ∈ strB mod ys, x.1.1 = [] ∧ x.2 = .nm mod x.1.2 := fun x hx => by
  obtain ⟨y, _, h⟩ := List.mem_filterMap.1 hx
  cases y with
  | ab n => simp only [abB, Option.some.injEq] at h; subst h; exact ⟨rfl, rfl⟩
  | al n v => cases h
  | va n v => cases h
theorem look_mod {q : BNm} {m : List (BNm × VT)} (hm : ∀ x ∈ m, x.1.1 = []) (hq : q.1 ≠ []) : lookB q m = none := by
  cases h : lookB q m with
  | none => rfl
  | some w => exact absurd (hm _ (lookB_in h)) hq
theorem strB_look {mod : List UInt8} : ∀ {ys : List VI} {n : List UInt8}, VI.ab n ∈ ys → lookB ([], n) (strB mod ys) = some (.nm mod n)
  | y :: ys, n, h => by
    have hrest : VI.ab n ∈ ys → lookB ([], n) (strB mod ys) = some (.nm mod n) := strB_look
    cases y with
    | ab k =>
      rw [strB, List.filterMap_cons]
      simp only [abB, lookB]
      split
      · rename_i e; simp only [Prod.mk.injEq, true_and] at e; rw [e]
      · rename_i e
        refine hrest ?_
        rcases List.mem_cons.1 h with h | h
        · injection h with h; exact absurd (by rw [h]) e
        · exact h
    | al k v =>
      rw [strB, List.filterMap_cons]
      simp only [abB]
      exact hrest (by simpa using h)
    | va k v =>
      rw [strB, List.filterMap_cons]
      simp only [abB]
      exact hrest (by simpa using h)
theorem look_map (F : List (BNm × VT)) (q : BNm) : ∀ m : List (BNm × VT), lookB q (m.map fun x => (x.1, subV F x.2)) = (lookB q m).map (subV F)
  | [] => rfl
  | (k, v) :: m => by
    simp only [List.map_cons, lookB]
    split
    · rfl
    · exact look_map F q m
theorem sub_sub {F m : List (BNm × VT)} {P : Nm → Bool} (h : ∀ p, P p = true → lookB p m ≠ none ∨ lookB p F = none) : ∀ {v : VT}, allV P v = true → subV (m.map fun x => (x.1, subV F x.2)) v = subV F (subV m v)
  | .num, _ => rfl
  | .nm a b, hv => by
    rw [subV, look_map]
    rw [show subV m (.nm a b) = (lookB (a, b) m).getD (.nm a b) from rfl]
    cases hl : lookB (a, b) m with
    | some w => rfl
    | none =>
      rcases h _ hv with h | h
      · exact absurd hl h
      · simp only [Option.map_none, Option.getD_none, subV, h]
  | .fn a b, hv => by
    simp only [allV, Bool.and_eq_true] at hv
    simp only [subV, sub_sub h hv.1, sub_sub h hv.2]
theorem strTake (mod : List UInt8) (ys : List VI) (i : Nat) : (ys.map (strI mod)).take i = (ys.take i).map (strI mod) := by rw [List.map_take]
theorem nxt_mod (ys : List VI) : ∀ i, i ≤ ys.length → ∀ x ∈ nxtL (ys.take i), x.1.1 = []
  | 0, _ => by simp [nxtL]
  | i + 1, h => by
    have ih := nxt_mod ys i (by omega)
    rw [nxtL_snoc ys (by omega)]
    generalize ys.getD i vi0 = y at *
    cases y with
    | ab n => simp only [nxtM, List.mem_append, List.mem_singleton]; rintro x (hx | rfl); exact ih x hx; rfl
    | al n v => simp only [nxtM, List.mem_append, List.mem_singleton]; rintro x (hx | rfl); exact ih x hx; rfl
    | va n v => exact ih
theorem okN_sub {mod : List UInt8} {ys : List VI} {i : Nat} (hi : i ≤ ys.length) : ∀ p : Nm, okN ((ys.take i).map viK) p = true → lookB p (nxtL (ys.take i)) ≠ none ∨ lookB p (strB mod ys) = none := fun p hp => by
  obtain ⟨a, b⟩ := p
  by_cases ha : a = []
  · subst ha
    simp only [okN, decide_true, Bool.not_true, Bool.false_or, decide_eq_true_eq] at hp
    exact .inl (known_all ys i hi b hp)
  · exact .inr (look_mod (fun x hx => (strB_mod x hx).1) ha)
theorem nxt_str {mod : List UInt8} {ys : List VI} (hm : mod ≠ []) (ho : ordB ys = true) : ∀ i, i ≤ ys.length → nxtL ((ys.map (strI mod)).take i) = (nxtL (ys.take i)).map fun x => (x.1, subV (strB mod ys) x.2)
  | 0, _ => rfl
  | i + 1, h => by
    have ih := nxt_str hm ho i (by omega)
    have hs := stepOf ho (show i < ys.length by omega)
    have hsub := okN_sub (mod := mod) (ys := ys) (i := i) (by omega)
    have hmod := nxt_mod ys i (by omega)
    have hmem : ys.getD i vi0 ∈ ys := Abs.getD_mem (by omega)
    rw [nxtL_snoc _ (by simp; omega), nxtL_snoc ys (by omega), strI_getD mod (by omega), ih]
    simp only [stepB, Bool.and_eq_true] at hs
    generalize ys.getD i vi0 = y at *
    cases y with
    | ab n =>
      have e1 : subV (strB mod ys) (.nm [] n) = .nm mod n := by rw [subV, strB_look hmem]; rfl
      have e2 : subV ((nxtL (ys.take i)).map fun x => (x.1, subV (strB mod ys) x.2)) (.nm mod n) = .nm mod n := by
        rw [subV, look_map, look_mod hmod hm]; rfl
      simp only [strI, nxtM, List.map_append, List.map_cons, List.map_nil, e1, e2]
    | al n v =>
      simp only [allI] at hs
      simp only [strI, nxtM, List.map_append, List.map_cons, List.map_nil, sub_sub hsub hs.1]
    | va n v => rfl
/-- the type of a value in the strengthened signature -/
theorem str_val {s : List SigI} {mod : List UInt8} {ys : List VI} (h8 : s.length ≤ 8) (hr : ReadsTo s ys) (ho : ordB ys = true) (hm : moduleB mod = true) {n : List UInt8} {v w : VT} (hv : MeanIs s (true, n) (some v)) (hw : MeanIs ((ys.map (strI mod)).map siOf) (true, n) (some w)) : w = subV (strB mod ys) v := by
  rcases hw with ⟨zs, hz, i, hi, hk, hmn⟩ | ⟨_, h⟩
  · obtain ⟨us, h8u, hru, hou, hnu⟩ := hz
    have e := readsTo_one hru (str_reads hm hr)
    subst e
    obtain ⟨hf, rfl⟩ := normL_fit hnu
    rw [zsN_length] at hi
    rw [zsN_getD _ hi] at hk hmn
    rw [List.length_map] at hi
    rw [viK_sub, strI_getD mod hi, viK_str] at hk
    rw [strI_getD mod hi, nxt_str (moduleB_ne hm) ho i (by omega)] at hmn
    rcases hv with ⟨zs, hz, hf2⟩ | ⟨_, h⟩
    · have hz0 := hz
      obtain ⟨ys', h8', hr', ho', hn'⟩ := hz
      have e := readsTo_one hr' hr
      subst e
      obtain ⟨hfs, rfl⟩ := normL_fit hn'
      have hs := stepOf ho hi
      simp only [stepB, Bool.and_eq_true] at hs
      have hmi : MeanIs s (true, n) (some (meanI (subI (nxtL (ys'.take i)) (ys'.getD i vi0)))) := .inl ⟨_, hz0, i, by rw [zsN_length]; exact hi, by rw [zsN_getD ys' hi, viK_sub]; exact hk, by rw [zsN_getD ys' hi]⟩
      have e2 := Option.some.inj (meanIs_one (.inl ⟨_, hz0, hf2⟩) hmi)
      have hsub := okN_sub (mod := mod) (ys := ys') (i := i) (by omega)
      generalize ys'.getD i vi0 = y at *
      cases y with
      | ab k => simp [viK] at hk
      | al k t => simp [viK] at hk
      | va k t =>
        simp only [allI] at hs
        simp only [strI, subI, meanI] at hmn e2
        rw [e2, ← hmn, sub_sub hsub hs.1]
    · cases h
  · cases h
theorem strB_ok {s : List SigI} {mod : List UInt8} {ys : List VI} (hr : ReadsTo s ys) (hm : moduleB mod = true) : ∀ q ∈ strB mod ys, okQ q := fun q hq => by
  obtain ⟨y, hy, h⟩ := List.mem_filterMap.1 hq
  obtain ⟨i, hi, rfl⟩ := List.mem_iff_getElem.1 hy
  have h1 := (hr.2 i (by rw [← hr.1]; exact hi))
  have h2 := str_ok hm hr hi
  have e : ys.getD i vi0 = ys[i] := by simp [List.getD, hi]
  rw [e] at h1 h2
  have hl : localB (viK ys[i]).2 = true := by rw [← siOf_name, ← itemOf_si h1.2]; exact h1.1
  generalize ys[i] = y at *
  cases y with
  | ab n =>
    simp only [abB, Option.some.injEq] at h
    subst h
    simp only [viK] at hl
    exact ⟨h2, by simp [nmB, hl]⟩
  | al n v => cases h
  | va n v => cases h
/-- what substituting the bindings answers -/
theorem str_subIs {s : List SigI} {mod : List UInt8} {ys : List VI} (h8 : s.length ≤ 8) (hr : ReadsTo s ys) (ho : ordB ys = true) (hm : moduleB mod = true) {n : List UInt8} {v w z : VT} (hv : MeanIs s (true, n) (some v)) (hw : MeanIs ((ys.map (strI mod)).map siOf) (true, n) (some w)) (hz : SubIs (toTy v) ((strB mod ys).map ofB) (some z)) : w = z := by
  have hvo := meanIs_vok hv
  have h2 : SubIs (toTy v) ((strB mod ys).map ofB) (if dep (subV (foldB (strB mod ys)) v) ≤ 8 ∧ cnt (subV (foldB (strB mod ys)) v) ≤ 63 then some (subV (foldB (strB mod ys)) v) else none) := .inl ⟨v, _, rfl, hvo, rfl, strB_ok hr hm, rfl⟩
  have e := subIs_one hz h2
  split at e
  · have hfold : ∀ v : VT, subV (foldB (strB mod ys)) v = subV (strB mod ys) v := fun v => by
      induction v with
      | num => rfl
      | nm a b => simp only [subV, lookB_foldB]
      | fn a b iha ihb => simp only [subV, iha, ihb]
    rw [hfold] at e
    rw [Option.some.inj e]
    exact str_val h8 hr ho hm hv hw
  · cases e
end Go.Proofs.YtmgppdedcciogaaGreat
