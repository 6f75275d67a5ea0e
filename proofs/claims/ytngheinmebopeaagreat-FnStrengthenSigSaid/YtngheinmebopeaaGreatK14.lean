/- SpFind, PreFacts, AbFacts, SubOutS, StrSub, SigVal, SigEq, SigFT. -/
import Derived.Test.YtngheinmebopeaaGreatK13
import Derived.Test.YtngheinmebopeaaGreatAbsW3
/- The model's FindType and FindVal. -/
set_option linter.unusedVariables false
set_option linter.unusedSimpArgs false
namespace Go.Proofs.YtngheinmebopeaaGreat
open Go.Abs

theorem rdN_ex (s : List SigI) : ∃ o, RdN s o := by
  cases hb : sigB s with
  | false => exact ⟨none, rdN_bad hb⟩
  | true =>
    obtain ⟨ys, h8, hr, hord⟩ := sigB_yes hb
    cases hn : normL [] ys with
    | none => exact ⟨none, .inr ⟨ys, h8, hr, .inr hn⟩⟩
    | some zs => exact ⟨some zs, ys, h8, hr, hord, hn⟩
theorem findO_ex (zs : List VI) (q : Ky) : ∃ o, FindO zs q o := by
  by_cases h : ∃ i, i < zs.length ∧ viK (zs.getD i vi0) = q
  · obtain ⟨i, h1, h2⟩ := h
    exact ⟨some (meanI (zs.getD i vi0)), i, h1, h2, rfl⟩
  · exact ⟨none, fun i hi hq => h ⟨i, hi, hq⟩⟩
theorem meanIs_ex (s : List SigI) (q : Ky) : ∃ o, MeanIs s q o := by
  obtain ⟨o, ho⟩ := rdN_ex s
  cases o with
  | none => exact ⟨none, .inr ⟨ho, rfl⟩⟩
  | some zs =>
    obtain ⟨o, h⟩ := findO_ex zs q
    exact ⟨o, .inl ⟨zs, ho, h⟩⟩
theorem rdN_vok {s : List SigI} {zs : List VI} (h : RdN s (some zs)) : zs.length ≤ 8 ∧ ∀ i, i < zs.length → VOk (meanI (zs.getD i vi0)) := by
  obtain ⟨ys, h8, hr, hord, hn⟩ := h
  obtain ⟨hf, rfl⟩ := normL_fit hn
  have hy : ∀ i, i < ys.length → VOk (meanI (ys.getD i vi0)) := fun k hk => by
    have := hr.2 k (by rw [← hr.1]; exact hk)
    exact mean_ok this.1 this.2
  refine ⟨by rw [zsN_length, hr.1]; exact h8, fun i hi => ?_⟩
  rw [zsN_length] at hi
  rw [zsN_getD ys hi]
  exact zsN_ok hy hf hi
theorem meanIs_vok {s : List SigI} {q : Ky} {v : VT} (h : MeanIs s q (some v)) : VOk v := by
  rcases h with ⟨zs, hr, i, hi, _, rfl⟩ | ⟨_, h⟩
  · exact (rdN_vok hr).2 i hi
  · cases h
end Go.Proofs.YtngheinmebopeaaGreat

/- What a name stands for in the first items of a signature. -/
set_option linter.unusedVariables false
set_option linter.unusedSimpArgs false
namespace Go.Proofs.YtngheinmebopeaaGreat
open Go.Abs

theorem sisB_iff : ∀ (a b : List SigI), sisB a b = true ↔ a = b
  | [], [] => by simp [sisB]
  | [], _ :: _ => by simp [sisB]
  | _ :: _, [] => by simp [sisB]
  | x :: a, y :: b => by
    rw [sisB, Bool.and_eq_true, sisB_iff a b, siB]
    obtain ⟨k, n, t⟩ := x
    obtain ⟨k', n', t'⟩ := y
    simp [and_assoc]
theorem sisB_refl (a : List SigI) : sisB a a = true := (sisB_iff a a).2 rfl
theorem szIs_bd : ∀ (l : List SigI) (b : Nat), (∀ x ∈ l, szI x ≤ b) → szIs l ≤ l.length * b
  | [], b, _ => by simp [szIs]
  | x :: l, b, h => by
    have h1 := h x (by simp)
    have h2 := szIs_bd l b fun y hy => h y (by simp [hy])
    simp only [szIs, List.map_cons, List.sum_cons, List.length_cons] at h2 ⊢
    rw [Nat.succ_mul]; omega
theorem smx_all {s : List SigI} (hs : s.length ≤ 9) (hm : ∀ x ∈ s, SmX x) : (∀ x ∈ s, x.Ok ∧ sz x.typ ≤ 1048576) ∧ s.length + szIs s ≤ 1048576 := by
  refine ⟨fun x hx => (hm x hx).ok, ?_⟩
  have h2 := szIs_bd s 300 fun x hx => by
    have h3 : x.name.length ≤ 2 ∧ sz x.typ ≤ 200 := hm x hx
    rw [szI]; omega
  omega
theorem vi_sz {y : VI} (h : VOk (meanI y)) : sz (siOf y).typ ≤ 200 := by
  cases y with
  | ab n => simp [siOf, ty0, sz, szs]
  | al n v =>
    have h1 := sz_toTyS v h.1
    have h2 := h.cnt
    simp only [meanI] at h2
    simp only [siOf]; omega
  | va n v =>
    have h1 := sz_toTyS v h.1
    have h2 := h.cnt
    simp only [meanI] at h2
    simp only [siOf]; omega
/-- what strengthening hands back is small and in order -/
theorem str_small {s : List SigI} (hm : ∀ x ∈ s, SmX x) {mod : List UInt8} {o : Option (List VI)} (h : RdS s mod o) : (nrX o).length ≤ 8 ∧ (∀ x ∈ nrX o, x.Ok ∧ sz x.typ ≤ 1048576) ∧ (nrX o).length + szIs (nrX o) ≤ 1048576 := by
  have h1 := strX_ok (fun x hx => (hm x hx).ok.1) h
  have key : ∀ x ∈ nrX o, x.name.length ≤ 2 ∧ sz x.typ ≤ 200 := by
    cases o with
    | none => simp [nrX]
    | some zs =>
      obtain ⟨ys, h8, hr, hord, hmd, rfl⟩ := h
      intro x hx
      obtain ⟨y, hy, rfl⟩ := List.mem_map.1 hx
      obtain ⟨y0, hy0, rfl⟩ := List.mem_map.1 hy
      obtain ⟨i, hi, rfl⟩ := List.mem_iff_getElem.1 hy0
      have e : ys.getD i vi0 = ys[i] := by simp [List.getD, hi]
      have h3 := str_ok hmd hr hi
      have h4 := hr.2 i (by rw [← hr.1]; exact hi)
      rw [e] at h3 h4
      refine ⟨?_, vi_sz h3⟩
      rw [siOf_name, viK_str, ← siOf_name, ← itemOf_si h4.2]
      exact (hm _ (si_mem (by rw [← hr.1]; exact hi))).1
  refine ⟨h1.1, fun x hx => ⟨h1.2.1 x hx, by have := (key x hx).2; omega⟩, ?_⟩
  have h2 := szIs_bd (nrX o) 300 fun x hx => by have := key x hx; rw [szI]; omega
  have := h1.1
  omega
theorem rdS_some {s : List SigI} {mod : List UInt8} {o : Option (List VI)} (h : RdS s mod o) : (sigB s && moduleB mod) = o.isSome := by
  cases o with
  | none => rcases h with h | h <;> simp [h]
  | some zs =>
    obtain ⟨ys, h8, hr, hord, hmd, rfl⟩ := h
    simp [sigB_reads h8 hr, hord, hmd]
theorem rdS_twice {s : List SigI} {mod m2 : List UInt8} {zs : List VI} (h : RdS s mod (some zs)) (h2 : moduleB m2 = true) : RdS (zs.map siOf) m2 (some zs) := by
  obtain ⟨ys, h8, hr, hord, hmd, rfl⟩ := h
  refine ⟨ys.map (strI mod), by simp [hr.1]; exact h8, str_reads hmd hr, ordB_str hmd hord, h2, ?_⟩
  rw [List.map_map]
  congr 1
  funext y
  cases y <;> rfl
end Go.Proofs.YtngheinmebopeaaGreat

namespace Go.Proofs.YtngheinmebopeaaGreat
open Go.Abs

theorem oTyS_sz {s : List SigI} {q : Ky} {o : Option VT} (h : MeanIs s q o) : sz (oTyS o) ≤ 200 := by
  cases o with
  | none => simp [oTyS, ty0, sz, szs]
  | some w =>
    have hw := meanIs_vok h
    have h1 := sz_toTyS w hw.1
    have h2 := hw.cnt
    simp only [oTyS]; omega
end Go.Proofs.YtngheinmebopeaaGreat

/- Names in the type that a name stands for: those without a module are abstract, and stand for themselves. -/
set_option linter.unusedVariables false
set_option linter.unusedSimpArgs false
namespace Go.Proofs.YtngheinmebopeaaGreat
open Go.Abs

theorem lookB_snoc {q : BNm} {a : List (BNm × VT)} (x : BNm × VT) : lookB q a ≠ none ∨ x.1 = q → lookB q (a ++ [x]) ≠ none := by
  induction a with
  | nil =>
    rintro (h | h)
    · exact absurd rfl h
    · obtain ⟨k, v⟩ := x
      simp only [List.nil_append, lookB]
      rw [if_pos h.symm]; simp
  | cons y a ih =>
    obtain ⟨k, v⟩ := y
    intro h
    simp only [List.cons_append, lookB] at h ⊢
    split
    · simp
    · rename_i hk
      rw [if_neg hk] at h
      exact ih h
theorem take_snocV {ys : List VI} {i : Nat} (h : i < ys.length) : ys.take (i + 1) = ys.take i ++ [ys.getD i vi0] := by
  rw [List.take_add_one]; simp [List.getD, h]
theorem key_at {ys : List VI} {i : Nat} (h : i < ys.length) : (ys.take (i + 1)).map viK = (ys.take i).map viK ++ [viK (ys.getD i vi0)] := by
  rw [take_snocV h, List.map_append]; rfl
/-- each type item is known behind it -/
theorem known_all (ys : List VI) : ∀ i, i ≤ ys.length → ∀ n, (false, n) ∈ (ys.take i).map viK → lookB ([], n) (nxtL (ys.take i)) ≠ none
  | 0, _, n, h => by simp at h
  | i + 1, hi, n, h => by
    have ih := known_all ys i (by omega) n
    rw [key_at (by omega)] at h
    rw [nxtL_snoc ys (by omega)]
    generalize ys.getD i vi0 = y at *
    rcases List.mem_append.1 h with h | h
    · have := ih h
      cases y with
      | ab k => exact lookB_snoc _ (.inl this)
      | al k v => exact lookB_snoc _ (.inl this)
      | va k v => exact this
    · rw [List.mem_singleton] at h
      cases y with
      | ab k => simp only [viK, Prod.mk.injEq, true_and] at h; subst h; exact lookB_snoc _ (.inr rfl)
      | al k v => simp only [viK, Prod.mk.injEq, true_and] at h; subst h; exact lookB_snoc _ (.inr rfl)
      | va k v => simp [viK] at h
theorem stepOf {ys : List VI} (ho : ordB ys = true) {i : Nat} (hi : i < ys.length) : stepB (ys.take i) (ys.getD i vi0) = true := by
  unfold ordB at ho
  rw [List.all_eq_true] at ho
  exact ho i (List.mem_range.mpr hi)
end Go.Proofs.YtngheinmebopeaaGreat

/- What a substitution hands back, by its root. -/
set_option linter.unusedVariables false
set_option linter.unusedSimpArgs false
namespace Go.Proofs.YtngheinmebopeaaGreat
open Go.Abs

theorem subIs_ex (τ : Ty) (bs : List BdI) : ∃ o, SubIs τ bs o := by
  rcases valid_cases τ with ⟨v, rfl, hv⟩ | hv
  · rcases hb : bs.all okB with _ | _
    · exact ⟨none, .inr ⟨.inr (okB_bad hb), rfl⟩⟩
    · obtain ⟨bd, rfl, hok⟩ := okB_all hb
      exact ⟨_, .inl ⟨v, bd, rfl, hv, rfl, hok, rfl⟩⟩
  · exact ⟨none, .inr ⟨.inl hv, rfl⟩⟩
def OutS (A : List Box) (k : Int) (m n : List UInt8) (ks : List Ty) (ok : Bool) (r : AV) (A' : List Box) : Prop :=
  ∃ B v S, A' = A ++ B ∧ r = .tuple [.agg [.int .i64 k, .str m, .str n, v], .bool ok] ∧ OwnK A' ks v S ∧ S.Nodup ∧ ∀ i ∈ S, A.length ≤ i ∧ i < A'.length
theorem outS_of {A A' : List Box} {o : Option VT} {r : AV} {k : Int} {m n : List UInt8} {ks : List Ty} (ho : oTyS o = .mk k m n ks) (h : SubNew A o r A') : OutS A k m n ks o.isSome r A' := by
  obtain ⟨B, cs, S, h1, h2, rfl, h3, h4, h5, h6⟩ := h
  rw [ho, ownT_mk] at h4
  obtain ⟨v, rfl, hK⟩ := h4
  exact ⟨B, v, S, h1, rfl, hK, h5, h6⟩
end Go.Proofs.YtngheinmebopeaaGreat

/- Strengthening is substitution: what a value has for a type in the strengthened signature is the type that it has before, with each abstract type replaced. -/
set_option linter.unusedVariables false
set_option linter.unusedSimpArgs false
namespace Go.Proofs.YtngheinmebopeaaGreat
open Go.Abs

def abB (mod : List UInt8) : VI → Option (BNm × VT)
  | .ab n => some (([], n), .nm mod n)
  | _ => none
/-- the bindings of the abstract types -/
def strB (mod : List UInt8) (ys : List VI) : List (BNm × VT) := ys.filterMap (abB mod)
theorem strB_mod {mod : List UInt8} : ∀ {ys : List VI}, ∀ x ∈ strB mod ys, x.1.1 = [] ∧ x.2 = .nm mod x.1.2 := fun x hx => by
  obtain ⟨y, _, h⟩ := List.mem_filterMap.1 hx
  cases y with
  | ab n => simp only [abB, Option.some.injEq] at h; subst h; exact ⟨rfl, rfl⟩
  | al n v => cases h
  | va n v => cases h
theorem look_mod {q : BNm} {m : List (BNm × VT)} (hm : ∀ x ∈ m, x.1.1 = []) (hq : q.1 ≠ []) : lookB q m = none := by
  cases h : lookB q m with
  | none => rfl
  | some w => exact absurd (hm _ (lookB_in h)) hq
theorem strB_look {mod : List UInt8} : ∀ {ys : List VI} {n : List UInt8}, VI.ab n ∈ ys → lookB ([], n) (strB mod ys) = some (.nm mod n)
  | y :: ys, n, h => by
    have hrest : VI.ab n ∈ ys → lookB ([], n) (strB mod ys) = some (.nm mod n) := strB_look
    cases y with
    | ab k =>
      rw [strB, List.filterMap_cons]
      simp only [abB, lookB]
      split
      · rename_i e; simp only [Prod.mk.injEq, true_and] at e; rw [e]
      · rename_i e
        refine hrest ?_
        rcases List.mem_cons.1 h with h | h
        · injection h with h; exact absurd (by rw [h]) e
        · exact h
    | al k v =>
      rw [strB, List.filterMap_cons]
      simp only [abB]
      exact hrest (by simpa using h)
    | va k v =>
      rw [strB, List.filterMap_cons]
      simp only [abB]
      exact hrest (by simpa using h)
theorem look_map (F : List (BNm × VT)) (q : BNm) : ∀ m : List (BNm × VT), lookB q (m.map fun x => (x.1, subV F x.2)) = (lookB q m).map (subV F)
  | [] => rfl
  | (k, v) :: m => by
    simp only [List.map_cons, lookB]
    split
    · rfl
    · exact look_map F q m
theorem sub_sub {F m : List (BNm × VT)} {P : Nm → Bool} (h : ∀ p, P p = true → lookB p m ≠ none ∨ lookB p F = none) : ∀ {v : VT}, allV P v = true → subV (m.map fun x => (x.1, subV F x.2)) v = subV F (subV m v)
  | .num, _ => rfl
  | .nm a b, hv => by
    rw [subV, look_map]
    rw [show subV m (.nm a b) = (lookB (a, b) m).getD (.nm a b) from rfl]
    cases hl : lookB (a, b) m with
    | some w => rfl
    | none =>
      rcases h _ hv with h | h
      · exact absurd hl h
      · simp only [Option.map_none, Option.getD_none, subV, h]
  | .fn a b, hv => by
    simp only [allV, Bool.and_eq_true] at hv
    simp only [subV, sub_sub h hv.1, sub_sub h hv.2]
theorem nxt_mod (ys : List VI) : ∀ i, i ≤ ys.length → ∀ x ∈ nxtL (ys.take i), x.1.1 = []
  | 0, _ => by simp [nxtL]
  | i + 1, h => by
    have ih := nxt_mod ys i (by omega)
    rw [nxtL_snoc ys (by omega)]
    generalize ys.getD i vi0 = y at *
    cases y with
    | ab n => simp only [nxtM, List.mem_append, List.mem_singleton]; rintro x (hx | rfl); exact ih x hx; rfl
    | al n v => simp only [nxtM, List.mem_append, List.mem_singleton]; rintro x (hx | rfl); exact ih x hx; rfl
    | va n v => exact ih
theorem okN_sub {mod : List UInt8} {ys : List VI} {i : Nat} (hi : i ≤ ys.length) : ∀ p : Nm, okN ((ys.take i).map viK) p = true → lookB p (nxtL (ys.take i)) ≠ none ∨ lookB p (strB mod ys) = none := fun p hp => by
  obtain ⟨a, b⟩ := p
  by_cases ha : a = []
  · subst ha
    simp only [okN, decide_true, Bool.not_true, Bool.false_or, decide_eq_true_eq] at hp
    exact .inl (known_all ys i hi b hp)
  · exact .inr (look_mod (fun x hx => (strB_mod x hx).1) ha)
theorem nxt_str {mod : List UInt8} {ys : List VI} (hm : mod ≠ []) (ho : ordB ys = true) : ∀ i, i ≤ ys.length → nxtL ((ys.map (strI mod)).take i) = (nxtL (ys.take i)).map fun x => (x.1, subV (strB mod ys) x.2)
  | 0, _ => rfl
  | i + 1, h => by
    have ih := nxt_str hm ho i (by omega)
    have hs := stepOf ho (show i < ys.length by omega)
    have hsub := okN_sub (mod := mod) (ys := ys) (i := i) (by omega)
    have hmod := nxt_mod ys i (by omega)
    have hmem : ys.getD i vi0 ∈ ys := Abs.getD_mem (by omega)
    rw [nxtL_snoc _ (by simp; omega), nxtL_snoc ys (by omega), strI_getD mod (by omega), ih]
    simp only [stepB, Bool.and_eq_true] at hs
    generalize ys.getD i vi0 = y at *
    cases y with
    | ab n =>
      have e1 : subV (strB mod ys) (.nm [] n) = .nm mod n := by rw [subV, strB_look hmem]; rfl
      have e2 : subV ((nxtL (ys.take i)).map fun x => (x.1, subV (strB mod ys) x.2)) (.nm mod n) = .nm mod n := by
        rw [subV, look_map, look_mod hmod hm]; rfl
      simp only [strI, nxtM, List.map_append, List.map_cons, List.map_nil, e1, e2]
    | al n v =>
      simp only [allI] at hs
      simp only [strI, nxtM, List.map_append, List.map_cons, List.map_nil, sub_sub hsub hs.1]
    | va n v => rfl
/-- the type of a value in the strengthened signature -/
theorem str_val {s : List SigI} {mod : List UInt8} {ys : List VI} (h8 : s.length ≤ 8) (hr : ReadsTo s ys) (ho : ordB ys = true) (hm : moduleB mod = true) {n : List UInt8} {v w : VT} (hv : MeanIs s (true, n) (some v)) (hw : MeanIs ((ys.map (strI mod)).map siOf) (true, n) (some w)) : w = subV (strB mod ys) v := by
  rcases hw with ⟨zs, hz, i, hi, hk, hmn⟩ | ⟨_, h⟩
  · obtain ⟨us, h8u, hru, hou, hnu⟩ := hz
    have e := readsTo_one hru (str_reads hm hr)
    subst e
    obtain ⟨hf, rfl⟩ := normL_fit hnu
    rw [zsN_length] at hi
    rw [zsN_getD _ hi] at hk hmn
    rw [List.length_map] at hi
    rw [viK_sub, strI_getD mod hi, viK_str] at hk
    rw [strI_getD mod hi, nxt_str (moduleB_ne hm) ho i (by omega)] at hmn
    rcases hv with ⟨zs, hz, hf2⟩ | ⟨_, h⟩
    · have hz0 := hz
      obtain ⟨ys', h8', hr', ho', hn'⟩ := hz
      have e := readsTo_one hr' hr
      subst e
      obtain ⟨hfs, rfl⟩ := normL_fit hn'
      have hs := stepOf ho hi
      simp only [stepB, Bool.and_eq_true] at hs
      have hmi : MeanIs s (true, n) (some (meanI (subI (nxtL (ys'.take i)) (ys'.getD i vi0)))) := .inl ⟨_, hz0, i, by rw [zsN_length]; exact hi, by rw [zsN_getD ys' hi, viK_sub]; exact hk, by rw [zsN_getD ys' hi]⟩
      have e2 := Option.some.inj (meanIs_one (.inl ⟨_, hz0, hf2⟩) hmi)
      have hsub := okN_sub (mod := mod) (ys := ys') (i := i) (by omega)
      generalize ys'.getD i vi0 = y at *
      cases y with
      | ab k => simp [viK] at hk
      | al k t => simp [viK] at hk
      | va k t =>
        simp only [allI] at hs
        simp only [strI, subI, meanI] at hmn e2
        rw [e2, ← hmn, sub_sub hsub hs.1]
    · cases h
  · cases h
theorem strB_ok {s : List SigI} {mod : List UInt8} {ys : List VI} (hr : ReadsTo s ys) (hm : moduleB mod = true) : ∀ q ∈ strB mod ys, okQ q := fun q hq => by
  obtain ⟨y, hy, h⟩ := List.mem_filterMap.1 hq
  obtain ⟨i, hi, rfl⟩ := List.mem_iff_getElem.1 hy
  have h1 := (hr.2 i (by rw [← hr.1]; exact hi))
  have h2 := str_ok hm hr hi
  have e : ys.getD i vi0 = ys[i] := by simp [List.getD, hi]
  rw [e] at h1 h2
  have hl : localB (viK ys[i]).2 = true := by rw [← siOf_name, ← itemOf_si h1.2]; exact h1.1
  generalize ys[i] = y at *
  cases y with
  | ab n =>
    simp only [abB, Option.some.injEq] at h
    subst h
    simp only [viK] at hl
    exact ⟨h2, by simp [nmB, hl]⟩
  | al n v => cases h
  | va n v => cases h
/-- what substituting the bindings answers -/
theorem str_subIs {s : List SigI} {mod : List UInt8} {ys : List VI} (h8 : s.length ≤ 8) (hr : ReadsTo s ys) (ho : ordB ys = true) (hm : moduleB mod = true) {n : List UInt8} {v w z : VT} (hv : MeanIs s (true, n) (some v)) (hw : MeanIs ((ys.map (strI mod)).map siOf) (true, n) (some w)) (hz : SubIs (toTy v) ((strB mod ys).map ofB) (some z)) : w = z := by
  have hvo := meanIs_vok hv
  have h2 : SubIs (toTy v) ((strB mod ys).map ofB) (if dep (subV (foldB (strB mod ys)) v) ≤ 8 ∧ cnt (subV (foldB (strB mod ys)) v) ≤ 63 then some (subV (foldB (strB mod ys)) v) else none) := .inl ⟨v, _, rfl, hvo, rfl, strB_ok hr hm, rfl⟩
  have e := subIs_one hz h2
  split at e
  · have hfold : ∀ v : VT, subV (foldB (strB mod ys)) v = subV (strB mod ys) v := fun v => by
      induction v with
      | num => rfl
      | nm a b => simp only [subV, lookB_foldB]
      | fn a b iha ihb => simp only [subV, iha, ihb]
    rw [hfold] at e
    rw [Option.some.inj e]
    exact str_val h8 hr ho hm hv hw
  · cases e
end Go.Proofs.YtngheinmebopeaaGreat

/- The program's SigValid. -/
set_option linter.unusedVariables false
set_option linter.unusedSimpArgs false
namespace Go.Proofs.YtngheinmebopeaaGreat
open Go.Abs

set_option maxRecDepth 100000 in
theorem impl_SigValid (s : List SigI) (hs : s.length ≤ 1048576) (ho : ∀ x ∈ s, x.Ok ∧ sz x.typ ≤ 1048576) (A : List Box) : ACalls Tryz.prog 12 [.slice (sEs s)] A (fun r A' => r = .bool (sigB s) ∧ A' = A) := by
  refine acalls_enter (cf := cf 11 [0, 2, 4]) foll Tryz.func12 Tryz.ntmps12 (by simp [cf]) ?_
  simp only [Tryz.f12, EnterK_some, zW, zX, zD, builtinA, isLeaf, const1, ustrA, simprocAttr, ca18, cf, Tryz.results12]
  refine callK_intro (by simp only [zW, zX, zD, builtinA, isLeaf, const1, ustrA, simprocAttr, Option.map_some]; rfl) (impl_readSig s hs ho _) ?_ rfl
  rintro r A' ⟨h, rfl⟩
  rcases h with ⟨ys, h8, hr, rfl⟩ | ⟨hb, rfl⟩
  · simp only [zW, zX, zD, builtinA, isLeaf, const1, ustrA, simprocAttr, ca18, cf, Tryz.results12]
    rw [sigB_reads h8 hr]
  · simp only [zW, zX, zD, builtinA, isLeaf, const1, ustrA, simprocAttr, ca18, cf, Tryz.results12]
    rw [sigB_bad hb]
end Go.Proofs.YtngheinmebopeaaGreat

/- The program's SigSame answers whether two lists of items are the same. -/
set_option linter.unusedVariables false
set_option linter.unusedSimpArgs false
namespace Go.Proofs.YtngheinmebopeaaGreat
open Go.Abs

theorem set_eq {A : List Box} {i : Nat} {X : Box} (hi : i < A.length) (h : A.getD i .dead = X) : A.set i X = A := by
  subst h
  apply List.ext_getElem (by simp)
  intro k h1 h2
  by_cases e : i = k
  · subst e; simp [List.getD, h2]
  · rw [List.getElem_set_ne e]
/-- an item whose memory is known -/
structure SigJ where
  kind : Int
  name : List UInt8
  typ : ITy
def sj0 : SigJ := ⟨0, [], it0⟩
def jE (x : SigJ) : List AV := .int .i64 x.kind :: .str x.name :: encI x.typ
def jEs (l : List SigJ) : List (List AV) := l.map jE
def erJ (x : SigJ) : SigI := ⟨x.kind, x.name, erase x.typ⟩
theorem jE_length (x : SigJ) : (jE x).length = 6 := by simp [jE, encI_length]
theorem jE_take (x : SigJ) : List.take 6 (jE x) = jE x := List.take_of_length_le (by rw [jE_length]; exact Nat.le_refl _)
theorem jE_drop0 (x : SigJ) : (jE x).getD 0 .bot = .int .i64 x.kind := rfl
theorem jE_drop1 (x : SigJ) : (List.drop 1 (jE x)).getD 0 .bot = .str x.name := rfl
theorem jE_drop2 (x : SigJ) : List.drop 2 (jE x) = encI x.typ := rfl
theorem jE_len1 (x : SigJ) : (List.drop 1 (jE x)).length = 5 := by rw [List.length_drop, jE_length]
theorem jE_leaf (x : SigJ) : ∀ v ∈ jE x, isLeaf v = true := by
  intro v hv
  simp only [jE, List.mem_cons] at hv
  rcases hv with rfl | rfl | hv
  · rfl
  · rfl
  · exact encI_leaf _ v hv
theorem frzL_jE (x : SigJ) (A : List Box) : frzL (jE x) A = some (jE x, A) := frzL_leaf _ _ (jE_leaf x)
theorem jEs_length (l : List SigJ) : (jEs l).length = l.length := by simp [jEs]
theorem jEs_getD {l : List SigJ} {i : Nat} (h : i < l.length) : (jEs l).getD i [] = jE (l.getD i sj0) := by simp [jEs, List.getD, h]
theorem sj_mem {l : List SigJ} {i : Nat} (h : i < l.length) : l.getD i sj0 ∈ l := by simp [List.getD, h]
theorem sj_drop {l : List SigJ} {i : Nat} (h : i < l.length) : l.drop i = l.getD i sj0 :: l.drop (i + 1) := by
  have : l.getD i sj0 = l[i] := by simp [List.getD, h]
  rw [this, List.getElem_cons_drop h]

set_option maxRecDepth 100000 in
theorem same_item {U : List LL} (hU : Univ U) (hN : U.length ≤ 100000000) (hL : ∀ x ∈ U, x.ks.length ≤ 1000000000) (x y : SigJ) (hx : ∀ z, below x.typ = some z → z ∈ U) (hy : ∀ z, below y.typ = some z → z ∈ U)
    (c it : Nat) (m0 : List (LL × LL)) (h0 : ClS U m0) (A : List Box) (hc : c < A.length) (hi : it < A.length) (hci : c ≠ it) (hAc : A.getD c .dead = .cells [tF1, tF2, .map it]) (hA : A.getD it .dead = .mapb (esOf m0)) :
    ACalls Tryz.prog 46 [.agg (jE x), .agg (jE y), .ptr c 0] A (fun r A' => ∃ m', A' = A.set it (.mapb (esOf m')) ∧ r = .bool (siB (erJ x) (erJ y)) ∧ (siB (erJ x) (erJ y) = true → ClS U m')) := by
  have hs0 : A.set it (.mapb (esOf m0)) = A := set_eq hi hA
  have hout : ∀ m (L : List Box), Outer A (A.set it (.mapb (esOf m)) ++ L) := fun m L => outer_set A _ it _ (es_closed _ _)
  have hL0 : ∀ L : List Box, Outer A (A ++ L) := fun L => by have := hout m0 L; rwa [hs0] at this
  refine acalls_enter (cf := cf 26 [0, 1, 2, 3, 4, 5]) foll Tryz.func46 Tryz.ntmps46 (by simp [cf]) ?_
  simp only [Tryz.f46, EnterK_some, zW, zX, zD, builtinA, isLeaf, const1, ustrA, simprocAttr, ti3, ti9, ti32, ti34, ti63, ca31, cf, Tryz.results46]
  simp only [zW, zX, zD, builtinA, isLeaf, const1, ustrA, simprocAttr, ti3, ti9, ti32, ti34, ti63, ca31, cf, Tryz.results46, jE_length, jE_take, jE_drop0, jE_drop1, jE_len1, jE_drop2, frzL_jE]
  by_cases k1 : x.kind = y.kind
  · simp only [zW, zX, zD, builtinA, isLeaf, const1, ustrA, simprocAttr, ti3, ti9, ti32, ti34, ti63, ca31, cf, Tryz.results46, decide_eq_true k1, jE_length, jE_take, jE_drop0, jE_drop1, jE_len1, jE_drop2]
    by_cases k2 : x.name = y.name
    · have hsm := sameI hU hN hL x.typ y.typ hx hy it m0 h0 (A ++ [Box.cells (jE x), .cells (jE y)]) (by simp; omega) (by rw [Abs.getD_append_left hi]; exact hA)
      have hAc2 : (A ++ [Box.cells (jE x), .cells (jE y)]).getD c .dead = .cells [tF1, tF2, .map it] := by rw [Abs.getD_append_left hc]; exact hAc
      simp only [zW, zX, zD, builtinA, isLeaf, const1, ustrA, simprocAttr, ti3, ti9, ti32, ti34, ti63, ca31, cf, Tryz.results46, decide_eq_true k2, hAc2, jE_length, jE_take, jE_drop0, jE_drop1, jE_len1, jE_drop2, encI_take, encI_length]
      refine callO_intro hsm ?_
      rintro r A' ⟨m', rfl, rfl, hm'⟩
      rw [List.set_append_left _ _ hi]
      simp only [zW, zX, zD, builtinA, isLeaf, const1, ustrA, simprocAttr, ti3, ti9, ti32, ti34, ti63, ca31, cf, Tryz.results46]
      exact ⟨hout _ _, m', rfl, by simp [siB, erJ, k1, k2], fun h => hm' (by simpa [siB, erJ, k1, k2] using h)⟩
    · simp only [zW, zX, zD, builtinA, isLeaf, const1, ustrA, simprocAttr, ti3, ti9, ti32, ti34, ti63, ca31, cf, Tryz.results46, decide_eq_false k2, jE_len1]
      exact ⟨m0, hs0.symm, by simp [siB, erJ, k2], fun h => by simp [siB, erJ, k2] at h⟩
  · simp only [zW, zX, zD, builtinA, isLeaf, const1, ustrA, simprocAttr, ti3, ti9, ti32, ti34, ti63, ca31, cf, Tryz.results46, decide_eq_false k1]
    exact ⟨m0, hs0.symm, by simp [siB, erJ, k1], fun h => by simp [siB, erJ, k1] at h⟩

theorem sisB_map (a b : List SigJ) {i : Nat} (hi : i < a.length) (hj : i < b.length) : sisB ((a.drop i).map erJ) ((b.drop i).map erJ) = (siB (erJ (a.getD i sj0)) (erJ (b.getD i sj0)) && sisB ((a.drop (i + 1)).map erJ) ((b.drop (i + 1)).map erJ)) := by
  rw [sj_drop hi, sj_drop hj, List.map_cons, List.map_cons, sisB]

set_option maxRecDepth 100000 in
theorem eq_items {U : List LL} (hU : Univ U) (hN : U.length ≤ 100000000) (hL : ∀ x ∈ U, x.ks.length ≤ 1000000000) (a b : List SigJ) (ha : ∀ x ∈ a, ∀ z, below x.typ = some z → z ∈ U) (hb : ∀ x ∈ b, ∀ z, below x.typ = some z → z ∈ U) (hla : a.length ≤ 1048576)
    (c it : Nat) (m0 : List (LL × LL)) (h0 : ClS U m0) (A : List Box) (hc : c < A.length) (hi : it < A.length) (hci : c ≠ it) (hAc : A.getD c .dead = .cells [tF1, tF2, .map it]) (hA : A.getD it .dead = .mapb (esOf m0)) :
    ACalls Tryz.prog 45 [.slice (jEs a), .slice (jEs b), .func (.func 46) [] [.ptr c 0]] A (fun r A' => ∃ m', A' = A.set it (.mapb (esOf m')) ∧ r = .bool (sisB (a.map erJ) (b.map erJ))) := by
  have hs0 : A.set it (.mapb (esOf m0)) = A := set_eq hi hA
  have hout : ∀ m (L : List Box), Outer A (A.set it (.mapb (esOf m)) ++ L) := fun m L => outer_set A _ it _ (es_closed _ _)
  have hL0 : ∀ L : List Box, Outer A (A ++ L) := fun L => by have := hout m0 L; rwa [hs0] at this
  by_cases hl : a.length = b.length
  · have hd : decide ((a.length : Int) = (b.length : Int)) = true := decide_eq_true (by omega)
    refine acalls_enter (cf := cf 32 [0, 1, 2, 6, 7, 8, 9, 14, 15, 16, 17, 18, 30]) foll Tryz.func45 Tryz.ntmps45 (by simp [cf]) ?_
    simp only [Tryz.f45, EnterK_some, zW, zX, zD, builtinA, isLeaf, const1, ustrA, simprocAttr, ti3, ti23, ti34, cf, Tryz.results45]
    simp only [zW, zX, zD, builtinA, isLeaf, const1, ustrA, simprocAttr, ti3, ti23, ti34, cf, Tryz.results45, jEs_length, hd]
    refine aloop_intro [1, 2, 15, 16, 17] (fun e A' => ∃ (i : Nat) (B : List Box) (m : List (LL × LL)), i ≤ a.length ∧ sisB ((a.drop i).map erJ) ((b.drop i).map erJ) = sisB (a.map erJ) (b.map erJ) ∧ e = [(1, .slice (jEs b)), (2, .func (.func 46) [] [.ptr c 0]), (15, .slice (jEs a)), (16, .int .i64 a.length), (17, .int .i64 i)] ∧ A' = A.set it (.mapb (esOf m)) ++ B ∧ ClS U m) (fun e _ => a.length - (intOf (Abs.look 17 e)).toNat) ?_ ?_
    · simp only [zW, zX, zD, builtinA, isLeaf, const1, ustrA, simprocAttr, ti3, ti23, ti34, cf, Tryz.results45, jEs_length]
      exact ⟨0, [], m0, by omega, rfl, rfl, by rw [hs0]; simp, h0⟩
    · rintro e A' ⟨i, B, m, hi2, hq, rfl, rfl, hm⟩
      simp only [zW, zX, zD, builtinA, isLeaf, const1, ustrA, simprocAttr, ti3, ti23, ti34, cf, Tryz.results45, jEs_length]
      refine condK_intro (fun h2 => ?_) (fun h2 => ?_)
      · have hi3 : i < a.length := by simpa using h2
        have hj2 : i < b.length := by omega
        rw [sisB_map a b hi3 hj2] at hq
        have e1 := jEs_getD hi3
        have e2 := jEs_getD hj2
        have hxa := ha _ (sj_mem hi3)
        have hxb := hb _ (sj_mem hj2)
        have hi1 : IntKind.i64.wrap ((i : Int) + 1) = ((i + 1 : Nat) : Int) := by rw [wrap64 (by omega) (by omega)]; rfl
        generalize a.getD i sj0 = x at *
        generalize b.getD i sj0 = y at *
        have pa : (0 : Int) ≤ (i : Int) ∧ (i : Int) < (a.length : Int) := ⟨by omega, by omega⟩
        have pb : (0 : Int) ≤ (i : Int) ∧ (i : Int) < (b.length : Int) := ⟨by omega, by omega⟩
        have hcall := fun L => same_item hU hN hL x y hxa hxb c it m hm (A.set it (.mapb (esOf m)) ++ L) (by simp; omega) (by simp; omega) hci (by rw [Abs.getD_append_left (by simpa using hc), Abs.getD_set_ne' (Ne.symm hci)]; exact hAc) (by rw [Abs.getD_append_left (by simpa using hi), Abs.getD_set_self hi])
        simp only [zW, zX, zD, builtinA, isLeaf, const1, ustrA, simprocAttr, ti3, ti23, ti34, cf, Tryz.results45, e1, e2, jE_length, jE_take, jEs_length]
        refine ⟨pa, pb, ?_⟩
        refine wpO_callv _ _ _ _ _ _ _ _ _ _ _ _ _ _ _ ?_
        simp only [zW, zX, zD, builtinA, isLeaf, const1, ustrA, simprocAttr, ti3, ti23, ti34, cf, Tryz.results45]
        refine ⟨by kernel_rfl, ?_⟩
        refine callK_intro (by simp only [zW, zX, zD, builtinA, isLeaf, const1, ustrA, simprocAttr, frzL_jE, Option.map_some, List.nil_append, List.append_nil] <;> rfl) (hcall _) ?_ rfl
        rintro r A' ⟨m', rfl, rfl, hm'⟩
        rw [List.set_append_left _ _ (by simpa using hi), List.set_set]
        cases hh : siB (erJ x) (erJ y) with
        | true =>
          rw [hh, Bool.true_and] at hq
          simp only [zW, zX, zD, builtinA, isLeaf, const1, ustrA, simprocAttr, ti3, ti23, ti34, cf, Tryz.results45, hi1, LoopK_eq]
          refine ⟨⟨i + 1, _, m', by omega, hq, rfl, rfl, hm' hh⟩, ?_⟩
          simp only [intOf]; omega
        | false =>
          rw [hh, Bool.false_and] at hq
          simp only [zW, zX, zD, builtinA, isLeaf, const1, ustrA, simprocAttr, ti3, ti23, ti34, cf, Tryz.results45]
          exact ⟨hout _ _, m', rfl, by rw [← hq]⟩
      · have : i = a.length := by simp at h2; omega
        subst this
        have hb0 : b.drop a.length = [] := by simp; omega
        rw [List.drop_length, hb0, List.map_nil, sisB] at hq
        simp only [zW, zX, zD, builtinA, isLeaf, const1, ustrA, simprocAttr, ti3, ti23, ti34, cf, Tryz.results45]
        exact ⟨hout _ _, m, rfl, by rw [← hq]⟩
  · have hd : decide ((a.length : Int) = (b.length : Int)) = false := decide_eq_false (by omega)
    rw [sisB_len (by simpa using hl)]
    refine acalls_enter (cf := cf 32 [0, 1, 2, 6, 7, 8, 9, 14, 15, 16, 17, 18, 30]) foll Tryz.func45 Tryz.ntmps45 (by simp [cf]) ?_
    simp only [Tryz.f45, EnterK_some, zW, zX, zD, builtinA, isLeaf, const1, ustrA, simprocAttr, ti3, ti23, ti34, cf, Tryz.results45]
    simp only [zW, zX, zD, builtinA, isLeaf, const1, ustrA, simprocAttr, ti3, ti23, ti34, cf, Tryz.results45, jEs_length, hd]
    exact ⟨m0, hs0.symm⟩

set_option maxRecDepth 100000 in
theorem impl_sameSigs {U : List LL} (hU : Univ U) (hN : U.length ≤ 100000000) (hL : ∀ x ∈ U, x.ks.length ≤ 1000000000) (a b : List SigJ) (ha : ∀ x ∈ a, ∀ z, below x.typ = some z → z ∈ U) (hb : ∀ x ∈ b, ∀ z, below x.typ = some z → z ∈ U) (hla : a.length ≤ 1048576)
    (it : Nat) (m0 : List (LL × LL)) (h0 : ClS U m0) (A : List Box) (hi : it < A.length) (hA : A.getD it .dead = .mapb (esOf m0)) :
    ACalls Tryz.prog 25 [.agg [tF1, tF2, .map it], .slice (jEs a), .slice (jEs b)] A (fun r A' => ∃ m', A' = A.set it (.mapb (esOf m')) ∧ r = .bool (sisB (a.map erJ) (b.map erJ))) := by
  have hout : ∀ m (L : List Box), Outer A (A.set it (.mapb (esOf m)) ++ L) := fun m L => outer_set A _ it _ (es_closed _ _)
  have heq := eq_items hU hN hL a b ha hb hla A.length it m0 h0 (A ++ [Box.cells [tF1, tF2, .map it]]) (by simp) (by simp; omega) (by omega)
    (by rw [Abs.getD_append_right (Nat.le_refl _)]; simp) (by rw [Abs.getD_append_left hi]; exact hA)
  refine acalls_enter (cf := cf 11 [0, 1, 2, 3, 6]) foll Tryz.func25 Tryz.ntmps25 (by simp [cf]) ?_
  simp only [Tryz.f25, EnterK_some, zW, zX, zD, builtinA, isLeaf, const1, ustrA, simprocAttr, ti63, ca45, cf, Tryz.results25]
  refine callO_intro heq ?_
  rintro r A' ⟨m', rfl, rfl⟩
  rw [List.set_append_left _ _ hi]
  simp only [zW, zX, zD, builtinA, isLeaf, const1, ustrA, simprocAttr, ti63, ca45, cf, Tryz.results25]
  exact ⟨hout _ _, m', rfl⟩

set_option maxRecDepth 100000 in
theorem impl_SigSameI {U : List LL} (hU : Univ U) (hN : U.length ≤ 100000000) (hL : ∀ x ∈ U, x.ks.length ≤ 1000000000) (a b : List SigJ) (ha : ∀ x ∈ a, ∀ z, below x.typ = some z → z ∈ U) (hb : ∀ x ∈ b, ∀ z, below x.typ = some z → z ∈ U) (hla : a.length ≤ 1048576) (A : List Box) :
    ACalls Tryz.prog 8 [.slice (jEs a), .slice (jEs b)] A (fun r A' => r = .bool (sisB (a.map erJ) (b.map erJ)) ∧ A' = A) := by
  have hc0 : ClS U [] := ⟨[], ⟨by simp, by simp, by simp⟩, by simp⟩
  have heq := impl_sameSigs hU hN hL a b ha hb hla (A.length + 1) [] hc0 (A ++ [Box.cells [tF1, tF2, .map (A.length + 1)], .mapb []]) (by simp)
    (by rw [Abs.getD_append_right (by omega), show A.length + 1 - A.length = 1 by omega]; rfl)
  refine acalls_enter (cf := cf 9 [0, 1, 4]) foll Tryz.func8 Tryz.ntmps8 (by simp [cf]) ?_
  simp only [Tryz.f8, EnterK_some, zW, zX, zD, builtinA, isLeaf, const1, ustrA, simprocAttr, ca25, ca26, cf, Tryz.results8]
  refine callO_intro (tc_new A) ?_
  rintro r A' ⟨rfl, rfl⟩
  simp only [zW, zX, zD, builtinA, isLeaf, const1, ustrA, simprocAttr, ca25, ca26, cf, Tryz.results8]
  refine callO_intro heq ?_
  rintro r A' ⟨m', rfl, rfl⟩
  have hS : ∀ (X : Box) (L : List Box), (A ++ L).set (A.length + 1) X = A ++ L.set 1 X := fun X L => by rw [List.set_append_right _ _ (by omega), show A.length + 1 - A.length = 1 by omega]
  rw [hS]
  simp only [zW, zX, zD, builtinA, isLeaf, const1, ustrA, simprocAttr, ca25, ca26, cf, Tryz.results8]

/-- the memory of the items of a list -/
theorem annotS {G : Ghost} {w : World} (a : List SigI) (v : Value) (h : RV G w (.slice (sEs a)) v) : ∃ aj : List SigJ, aj.map erJ = a ∧ RV G w (.slice (jEs aj)) v ∧ ∀ x ∈ aj, norm x.typ ∧ ∀ z ∈ lists x.typ, LLok G w z := by
  rcases Classical.em (a = []) with rfl | hne
  · exact ⟨[], rfl, h, by simp⟩
  · generalize hr0 : sEs a = rows0 at h
    cases h with
    | slice0 => exact absurd (List.map_eq_nil_iff.1 hr0) hne
    | sliceE => exact absurd (List.map_eq_nil_iff.1 hr0) hne
    | slice _ b off cap sz X hr hcap hx hI hz hh =>
      subst hr0
      have hla : 0 < a.length := List.length_pos_iff.2 hne
      have hsz : sz = 6 := by
        have := (hr (sE (a.getD 0 si0)) (List.mem_map.2 ⟨_, si_mem hla, rfl⟩)).1
        rw [← this, sE_length]
      subst hsz
      have hrow : ∀ i, i < a.length → R4 G w (a.getD i si0).typ (fun j => X i (2 + j)) := fun i hi j hj => by
        have := hh i (2 + j) (by rw [sEs_length]; exact hi) (by omega)
        unfold Abs.rowAt at this
        rw [sEs_getD hi] at this
        have e : (sE (a.getD i si0)).getD (2 + j) .bot = (enc (a.getD i si0).typ).getD j .bot := by rw [Nat.add_comm]; rfl
        rwa [e] at this
      have hex : ∀ i, ∃ t : ITy, i < a.length → erase t = (a.getD i si0).typ ∧ norm t ∧ T4 G w t (fun j => X i (2 + j)) ∧ ∀ z ∈ lists t, LLok G w z := fun i => by
        rcases Nat.lt_or_ge i a.length with hi | hi
        · obtain ⟨t, h1, h2, h3, h4⟩ := annot (G := G) (w := w) _ _ (hrow i hi)
          exact ⟨t, fun _ => ⟨h1, h2, h3, h4⟩⟩
        · exact ⟨it0, fun h => by omega⟩
      obtain ⟨T, hT⟩ := Classical.axiomOfChoice hex
      have hlen : ((List.range a.length).map fun i => (⟨(a.getD i si0).kind, (a.getD i si0).name, T i⟩ : SigJ)).length = a.length := by simp
      have hget : ∀ i, i < a.length → ((List.range a.length).map fun i => (⟨(a.getD i si0).kind, (a.getD i si0).name, T i⟩ : SigJ)).getD i sj0 = ⟨(a.getD i si0).kind, (a.getD i si0).name, T i⟩ := fun i hi => by simp [List.getD, hi]
      refine ⟨(List.range a.length).map fun i => ⟨(a.getD i si0).kind, (a.getD i si0).name, T i⟩, ?_, ?_, fun x hx => ?_⟩
      · apply List.ext_getElem (by simp)
        intro i h1 h2
        have hi : i < a.length := h2
        simp only [List.getElem_map, List.getElem_range, erJ, (hT i hi).1]
        simp [List.getD, hi]
      · have hl2 : (sEs a).length = (jEs ((List.range a.length).map fun i => (⟨(a.getD i si0).kind, (a.getD i si0).name, T i⟩ : SigJ))).length := by rw [sEs_length, jEs_length, hlen]
        rw [hl2]
        refine .slice _ b off cap 6 X (fun r hr' => ?_) (by rw [← hl2]; exact hcap) (by rw [← hl2]; exact hx) (by rw [← hl2]; exact hI) (by rw [← hl2]; exact hz) (fun i j hi hj => ?_)
        · obtain ⟨x, _, rfl⟩ := List.mem_map.1 hr'
          exact ⟨jE_length x, jE_leaf x⟩
        · rw [jEs_length, hlen] at hi
          have h0 := hh i j (by rw [sEs_length]; exact hi) hj
          unfold Abs.rowAt at h0 ⊢
          rw [jEs_getD (by rw [hlen]; exact hi), hget i hi]
          rw [sEs_getD hi] at h0
          match j, hj with
          | 0, _ => exact h0
          | 1, _ => exact h0
          | j + 2, hj =>
            have := (hT i hi).2.2.1 j (by omega)
            rw [show (fun j => X i (2 + j)) j = X i (j + 2) by rw [Nat.add_comm]] at this
            exact this
      · obtain ⟨i, hi, rfl⟩ := List.mem_map.1 hx
        have := hT i (by simpa using hi)
        exact ⟨this.2.1, this.2.2.2⟩

theorem lens_items (a : List SigJ) : (a.flatMap fun x => lists x.typ).length ≤ szIs (a.map erJ) := by
  induction a with
  | nil => simp [szIs]
  | cons x a ih =>
    have h := lists_len x.typ
    simp only [List.flatMap_cons, List.length_append, szIs, List.map_cons, List.sum_cons, szI, erJ] at ih ⊢
    have e : ((a.map erJ).map fun x => x.name.length + sz x.typ).sum = szIs (a.map erJ) := rfl
    simp only [szIs, erJ] at e
    omega

theorem impl_SigSame (a b : List SigI) (ha : a.length + szIs a ≤ 1048576) (hb : b.length + szIs b ≤ 1048576) (A : List Box) : ACalls Tryz.prog 8 [.slice (sEs a), .slice (sEs b)] A (fun r A' => r = .bool (sisB a b) ∧ A' = A) := by
  intro G w base xs hH hx
  obtain ⟨x, y, hxy, h1, h2⟩ := hx.two
  obtain ⟨s, e1, r1, k1⟩ := annotS a x h1
  obtain ⟨t, e2, r2, k2⟩ := annotS b y h2
  have hU : Univ ((s.flatMap fun x => lists x.typ) ++ (t.flatMap fun x => lists x.typ)) := by
    refine ⟨fun p hp q hq he => ?_, fun p hp u hu z hz => ?_⟩
    · have ok : ∀ p ∈ (s.flatMap fun x => lists x.typ) ++ (t.flatMap fun x => lists x.typ), LLok G w p := fun p hp => by
        rcases List.mem_append.1 hp with h | h
        · obtain ⟨x, hx, h⟩ := List.mem_flatMap.1 h; exact (k1 x hx).2 p h
        · obtain ⟨x, hx, h⟩ := List.mem_flatMap.1 h; exact (k2 x hx).2 p h
      exact (ok p hp).inj (ok q hq) he
    · rcases List.mem_append.1 hp with h | h
      · obtain ⟨x, hx, h⟩ := List.mem_flatMap.1 h
        exact List.mem_append_left _ (List.mem_flatMap.2 ⟨x, hx, lists_down x.typ p h u hu z hz⟩)
      · obtain ⟨x, hx, h⟩ := List.mem_flatMap.1 h
        exact List.mem_append_right _ (List.mem_flatMap.2 ⟨x, hx, lists_down x.typ p h u hu z hz⟩)
  have hN : ((s.flatMap fun x => lists x.typ) ++ (t.flatMap fun x => lists x.typ)).length ≤ 100000000 := by
    have q1 := lens_items s
    have q2 := lens_items t
    rw [e1] at q1
    rw [e2] at q2
    rw [List.length_append]; omega
  have hks : ∀ (l : List SigJ) (n : Nat), szIs (l.map erJ) ≤ n → ∀ x ∈ l, ∀ z ∈ lists x.typ, z.ks.length ≤ n := fun l n hn x hx z hz => by
    have h1 := lists_ks z x.typ hz
    have h2 := szIs_mem (x := erJ x) (l := l.map erJ) (List.mem_map.2 ⟨x, hx, rfl⟩)
    have h3 : sz (erase x.typ) ≤ szI (erJ x) := by simp only [szI, erJ]; omega
    omega
  have hL : ∀ z ∈ (s.flatMap fun x => lists x.typ) ++ (t.flatMap fun x => lists x.typ), z.ks.length ≤ 1000000000 := fun z hz => by
    rcases List.mem_append.1 hz with h | h
    · obtain ⟨x, hx, h⟩ := List.mem_flatMap.1 h
      have := hks s 1048576 (by rw [e1]; omega) x hx z h; omega
    · obtain ⟨x, hx, h⟩ := List.mem_flatMap.1 h
      have := hks t 1048576 (by rw [e2]; omega) x hx z h; omega
  have hs : ∀ x ∈ s, ∀ z, below x.typ = some z → z ∈ (s.flatMap fun x => lists x.typ) ++ (t.flatMap fun x => lists x.typ) := fun x hx z hz => List.mem_append_left _ (List.mem_flatMap.2 ⟨x, hx, by rw [lists_eq hz]; simp⟩)
  have ht : ∀ x ∈ t, ∀ z, below x.typ = some z → z ∈ (s.flatMap fun x => lists x.typ) ++ (t.flatMap fun x => lists x.typ) := fun x hx z hz => List.mem_append_right _ (List.mem_flatMap.2 ⟨x, hx, by rw [lists_eq hz]; simp⟩)
  have key := impl_SigSameI hU hN hL s t hs ht (by have : s.length = a.length := by rw [← e1]; simp
                                                   omega) A
  rw [e1, e2] at key
  refine key G w base xs hH ?_
  rw [hxy]
  exact .cons r1 (.cons r2 .nil)
end Go.Proofs.YtngheinmebopeaaGreat

/- The program's FindType and FindVal. -/
set_option linter.unusedVariables false
set_option linter.unusedSimpArgs false
namespace Go.Proofs.YtngheinmebopeaaGreat
open Go.Abs

/-- the answer is stored in one more box and read again -/
theorem subOut_none {A A' : List Box} {b b2 : Box} {r : AV} (h : SubOut (A ++ [b]) none r A') : SubOut A none r (A'.set A.length b2) := by
  obtain ⟨h1, h2, h3⟩ := h
  refine ⟨h1, by simp at h2 ⊢; omega, fun i hi => ?_⟩
  rw [List.getD_eq_getElem?_getD, List.getElem?_set_ne (by omega), ← List.getD_eq_getElem?_getD, h3 i (by simp; omega), Abs.getD_append_left hi]
theorem subOut_some {A A' : List Box} {b b2 : Box} {r : AV} {v : VT} (h : SubOut (A ++ [b]) (some v) r A') : SubOut A (some v) r (A'.set A.length b2) := by
  obtain ⟨cs, S, h1, h2, h3, h4, h5, h6⟩ := h
  refine ⟨cs, S, h1, h2.frame fun i hi => ?_, h3, fun i hi => by have := h4 i hi; simp at this; omega, by simp at h5 ⊢; omega, fun i hi => ?_⟩
  · have := h4 i hi
    simp at this
    rw [List.getD_eq_getElem?_getD, List.getElem?_set_ne (by omega), ← List.getD_eq_getElem?_getD]
  · rw [List.getD_eq_getElem?_getD, List.getElem?_set_ne (by omega), ← List.getD_eq_getElem?_getD, h6 i (by simp; omega), Abs.getD_append_left hi]
theorem subOut_box {A A' : List Box} {b : Box} {r : AV} : ∀ {o : Option VT}, SubOut (A ++ [b]) o r A' → A.length < A'.length ∧ A'.getD A.length .dead = b ∧ ∃ k m n w f, r = .tuple [.agg [.int .i64 k, .str m, .str n, w], .bool f]
  | none, ⟨h1, h2, h3⟩ => ⟨by simp at h2; omega, by rw [h3 _ (by simp)]; simp [List.getD_eq_getElem?_getD], _, _, _, _, _, h1⟩
  | some v, ⟨cs, S, h1, h2, h3, h4, h5, h6⟩ => by
    refine ⟨by simp at h5; omega, by rw [h6 _ (by simp)]; simp [List.getD_eq_getElem?_getD], ?_⟩
    cases ht : toTy v with
    | mk k m n ks =>
      rw [ht] at h2
      obtain ⟨w, rfl, _⟩ := ownT_mk.1 h2
      exact ⟨_, _, _, _, _, h1⟩
theorem subOut_set {A A' : List Box} {b b2 : Box} {r : AV} {o : Option VT} (h : SubOut (A ++ [b]) o r A') : SubOut A o r (A'.set A.length b2) := by
  cases o with
  | none => exact subOut_none h
  | some v => exact subOut_some h


set_option maxRecDepth 100000 in
theorem impl_FindVal (s : List SigI) (hs : s.length ≤ 1048576) (ho : ∀ x ∈ s, x.Ok ∧ sz x.typ ≤ 1048576) (n : List UInt8) (A : List Box) : ACalls Tryz.prog 9 [.slice (sEs s), .str n] A (fun r A' => ∃ o, MeanIs s (true, n) o ∧ SubOut A o r A') := by
  have hf := impl_findMeaning s hs ho (true, n)
  simp only [kE] at hf
  refine acalls_enterK (cf := cf 12 [0, 1, 4, 5]) foll Tryz.func9 Tryz.ntmps9 (by simp [cf]) ?_
  simp only [Tryz.f9, EnterK_some, zW, zX, zD, builtinA, isLeaf, const1, ustrA, simprocAttr, ti32, ti67, ca27, cf, Tryz.results9]
  refine callO_intro (hf _) ?_
  rintro r A' ⟨o, hm, ho2⟩
  obtain ⟨hl, hb, k, m, n2, w, f, rfl⟩ := subOut_box ho2
  have hS : ∀ b2, SubOut A o _ (A'.set A.length b2) := fun b2 => subOut_set ho2
  simp only [zW, zX, zD, builtinA, isLeaf, const1, ustrA, simprocAttr, ti32, ti67, ca27, cf, Tryz.results9, hb, hl]
  exact ⟨o, hm, hS _⟩
end Go.Proofs.YtngheinmebopeaaGreat
