/- PreFacts, AbFacts, SubOutS, StrSub, MtFacts, ValSame, AsM. -/
import Derived.Test.YtkajklfohjcofaaGreatDoorK12
import Derived.Test.YtkajklfohjcofaaGreatDoorAbsW3
import Derived.Test.YtkajklfohjcofaaGreatDoorRows
import Derived.WalkKit
import Derived.LaidEql
import Derived.RowKitTokens
/- What a name stands for in the first items of a signature. -/
set_option linter.unusedVariables false
set_option linter.unusedSimpArgs false
namespace Go.Proofs.YtkajklfohjcofaaGreatDoor
open Go.Abs

theorem szIs_bd : ∀ (l : List SigI) (b : Nat), (∀ x ∈ l, szI x ≤ b) → szIs l ≤ l.length * b
  | [], b, _ => by simp [szIs]
  | x :: l, b, h => by
    have h1 := h x (by simp)
    have h2 := szIs_bd l b fun y hy => h y (by simp [hy])
    simp only [szIs, List.map_cons, List.sum_cons, List.length_cons] at h2 ⊢
    rw [Nat.succ_mul]; omega
theorem smx_all {s : List SigI} (hs : s.length ≤ 9) (hm : ∀ x ∈ s, SmX x) : (∀ x ∈ s, x.Ok ∧ sz x.typ ≤ 1048576) ∧ s.length + szIs s ≤ 1048576 := by
  refine ⟨fun x hx => (hm x hx).ok, ?_⟩
  have h2 := szIs_bd s 300 fun x hx => by
    have h3 : x.name.length ≤ 2 ∧ sz x.typ ≤ 200 := hm x hx
    rw [szI]; omega
  omega
theorem vi_sz {y : VI} (h : VOk (meanI y)) : sz (siOf y).typ ≤ 200 := by
  cases y with
  | ab n => simp [siOf, ty0, sz, szs]
  | al n v =>
    have h1 := sz_toTyS v h.1
    have h2 := h.cnt
    simp only [meanI] at h2
    simp only [siOf]; omega
  | va n v =>
    have h1 := sz_toTyS v h.1
    have h2 := h.cnt
    simp only [meanI] at h2
    simp only [siOf]; omega
/-- what strengthening hands back is small and in order -/
theorem str_small {s : List SigI} (hm : ∀ x ∈ s, SmX x) {mod : List UInt8} {o : Option (List VI)} (h : RdS s mod o) : (nrX o).length ≤ 8 ∧ (∀ x ∈ nrX o, x.Ok ∧ sz x.typ ≤ 1048576) ∧ (nrX o).length + szIs (nrX o) ≤ 1048576 := by
  have h1 := strX_ok (fun x hx => (hm x hx).ok.1) h
  have key : ∀ x ∈ nrX o, x.name.length ≤ 2 ∧ sz x.typ ≤ 200 := by
    cases o with
    | none => simp [nrX]
    | some zs =>
      obtain ⟨ys, h8, hr, hord, hmd, rfl⟩ := h
      intro x hx
      obtain ⟨y, hy, rfl⟩ := List.mem_map.1 hx
      obtain ⟨y0, hy0, rfl⟩ := List.mem_map.1 hy
      obtain ⟨i, hi, rfl⟩ := List.mem_iff_getElem.1 hy0
      have e : ys.getD i vi0 = ys[i] := by simp [List.getD, hi]
      have h3 := str_ok hmd hr hi
      have h4 := hr.2 i (by rw [← hr.1]; exact hi)
      rw [e] at h3 h4
      refine ⟨?_, vi_sz h3⟩
      rw [siOf_name, viK_str, ← siOf_name, ← itemOf_si h4.2]
      exact (hm _ (si_mem (by rw [← hr.1]; exact hi))).1
  refine ⟨h1.1, fun x hx => ⟨h1.2.1 x hx, by have := (key x hx).2; omega⟩, ?_⟩
  have h2 := szIs_bd (nrX o) 300 fun x hx => by have := key x hx; rw [szI]; omega
  have := h1.1
  omega
end Go.Proofs.YtkajklfohjcofaaGreatDoor

namespace Go.Proofs.YtkajklfohjcofaaGreatDoor
open Go.Abs

theorem normL_take : ∀ {ys zs : List VI} {m : List (BNm × VT)} (k : Nat), normL m ys = some zs → normL m (ys.take k) = some (zs.take k)
  | ys, zs, m, 0, h => by simp [normL]
  | [], zs, m, k + 1, h => by rw [normL] at h; cases h; simp [normL]
  | y :: ys, zs, m, k + 1, h => by
    rw [normL] at h
    rw [List.take_succ_cons, normL]
    split at h
    · rename_i hf
      obtain ⟨x, hx, rfl⟩ := Option.map_eq_some_iff.1 h
      rw [if_pos hf, normL_take k hx]
      rfl
    · cases h
theorem take_getD {α : Type} {l : List α} {k i : Nat} (d : α) (h : i < k) : (l.take k).getD i d = l.getD i d := by
  simp [List.getD, List.getElem?_take, h]
theorem ordB_take {ys : List VI} (k : Nat) (h : ordB ys = true) : ordB (ys.take k) = true := by
  unfold ordB at h ⊢
  rw [List.all_eq_true] at h ⊢
  intro i hi
  rw [List.mem_range, List.length_take] at hi
  have := h i (List.mem_range.2 (by omega))
  rw [take_getD vi0 (by omega), List.take_take, Nat.min_eq_left (by omega)]
  exact this
theorem reads_take {s : List SigI} {ys : List VI} (k : Nat) (h : ReadsTo s ys) : ReadsTo (s.take k) (ys.take k) := by
  refine ⟨by rw [List.length_take, List.length_take, h.1], fun i hi => ?_⟩
  rw [List.length_take] at hi
  rw [take_getD si0 (by omega), take_getD vi0 (by omega)]
  exact h.2 i (by omega)
theorem rdN_take {s : List SigI} {zs : List VI} (k : Nat) (h : RdN s (some zs)) : RdN (s.take k) (some (zs.take k)) := by
  obtain ⟨ys, h8, hr, hord, hn⟩ := h
  exact ⟨ys.take k, by rw [List.length_take]; omega, reads_take k hr, ordB_take k hord, normL_take k hn⟩
theorem sEs_take (s : List SigI) (k : Nat) : (sEs s).take k = sEs (s.take k) := by simp [sEs, List.map_take]
end Go.Proofs.YtkajklfohjcofaaGreatDoor

/- Names in the type that a name stands for: those without a module are abstract, and stand for themselves. -/
set_option linter.unusedVariables false
set_option linter.unusedSimpArgs false
namespace Go.Proofs.YtkajklfohjcofaaGreatDoor
open Go.Abs

def isAb (n : List UInt8) : VI → Bool
  | .ab k => decide (k = n)
  | _ => false
/-- a name that no item before hides -/
def okA (l : List VI) (p : Nm) : Bool := !decide (p.1 = []) || l.any (isAb p.2)
theorem okA_snoc {l : List VI} {y : VI} {p : Nm} (h : okA l p = true) : okA (l ++ [y]) p = true := by
  simp only [okA, Bool.or_eq_true, List.any_append] at h ⊢
  rcases h with h | h
  · exact .inl h
  · exact .inr (.inl h)
theorem allV_sub2 {p q : Nm → Bool} {m : List (BNm × VT)} (hm : ∀ x ∈ m, allV q x.2 = true) (hp : ∀ x, p x = true → lookB x m ≠ none ∨ q x = true) : ∀ {v : VT}, allV p v = true → allV q (subV m v) = true
  | .num, _ => rfl
  | .nm a b, h => by
    rw [subV]
    cases hl : lookB (a, b) m with
    | none =>
      rcases hp _ h with h2 | h2
      · exact absurd hl h2
      · exact h2
    | some w => exact hm _ (lookB_in hl)
  | .fn a b, h => by
    simp only [allV, Bool.and_eq_true] at h
    simp only [subV, allV, Bool.and_eq_true]
    exact ⟨allV_sub2 hm hp h.1, allV_sub2 hm hp h.2⟩
theorem lookB_snoc {q : BNm} {a : List (BNm × VT)} (x : BNm × VT) : lookB q a ≠ none ∨ x.1 = q → lookB q (a ++ [x]) ≠ none := by
  induction a with
  | nil =>
    rintro (h | h)
    · exact absurd rfl h
    · obtain ⟨k, v⟩ := x
      simp only [List.nil_append, lookB]
      rw [if_pos h.symm]; simp
  | cons y a ih =>
    obtain ⟨k, v⟩ := y
    intro h
    simp only [List.cons_append, lookB] at h ⊢
    split
    · simp
    · rename_i hk
      rw [if_neg hk] at h
      exact ih h
theorem take_snocV {ys : List VI} {i : Nat} (h : i < ys.length) : ys.take (i + 1) = ys.take i ++ [ys.getD i vi0] := by
  rw [List.take_add_one]; simp [List.getD, h]
theorem key_at {ys : List VI} {i : Nat} (h : i < ys.length) : (ys.take (i + 1)).map viK = (ys.take i).map viK ++ [viK (ys.getD i vi0)] := by
  rw [take_snocV h, List.map_append]; rfl
/-- each type item is known behind it -/
theorem known_all (ys : List VI) : ∀ i, i ≤ ys.length → ∀ n, (false, n) ∈ (ys.take i).map viK → lookB ([], n) (nxtL (ys.take i)) ≠ none
  | 0, _, n, h => by simp at h
  | i + 1, hi, n, h => by
    have ih := known_all ys i (by omega) n
    rw [key_at (by omega)] at h
    rw [nxtL_snoc ys (by omega)]
    generalize ys.getD i vi0 = y at *
    rcases List.mem_append.1 h with h | h
    · have := ih h
      cases y with
      | ab k => exact lookB_snoc _ (.inl this)
      | al k v => exact lookB_snoc _ (.inl this)
      | va k v => exact this
    · rw [List.mem_singleton] at h
      cases y with
      | ab k => simp only [viK, Prod.mk.injEq, true_and] at h; subst h; exact lookB_snoc _ (.inr rfl)
      | al k v => simp only [viK, Prod.mk.injEq, true_and] at h; subst h; exact lookB_snoc _ (.inr rfl)
      | va k v => simp [viK] at h
theorem stepOf {ys : List VI} (ho : ordB ys = true) {i : Nat} (hi : i < ys.length) : stepB (ys.take i) (ys.getD i vi0) = true := by
  unfold ordB at ho
  rw [List.all_eq_true] at ho
  exact ho i (List.mem_range.mpr hi)
theorem hpA {ys : List VI} {i : Nat} (hi : i ≤ ys.length) : ∀ x : Nm, okN ((ys.take i).map viK) x = true → lookB x (nxtL (ys.take i)) ≠ none ∨ okA (ys.take i) x = true := fun x hx => by
  obtain ⟨a, b⟩ := x
  simp only [okN, Bool.or_eq_true, Bool.not_eq_true', decide_eq_true_eq, decide_eq_false_iff_not] at hx
  rcases hx with hx | hx
  · right; simp [okA, hx]
  · by_cases ha : a = []
    · subst ha; exact .inl (known_all ys i hi b hx)
    · right; simp [okA, ha]
theorem nxtL_ab (ys : List VI) (ho : ordB ys = true) : ∀ i, i ≤ ys.length → ∀ x ∈ nxtL (ys.take i), allV (okA (ys.take i)) x.2 = true
  | 0, _ => by simp [nxtL]
  | i + 1, h => by
    have ih := nxtL_ab ys ho i (by omega)
    have hs := stepOf ho (show i < ys.length by omega)
    have hpa := hpA (ys := ys) (i := i) (by omega)
    rw [nxtL_snoc ys (by omega), take_snocV (show i < ys.length by omega)]
    simp only [stepB, Bool.and_eq_true] at hs
    generalize ys.getD i vi0 = y at *
    cases y with
    | ab n =>
      simp only [nxtM, List.mem_append, List.mem_singleton]
      rintro x (hx | rfl)
      · exact allV_mono (fun p hp => okA_snoc hp) (ih x hx)
      · simp [allV, okA, isAb]
    | al n v =>
      simp only [allI] at hs
      simp only [nxtM, List.mem_append, List.mem_singleton]
      rintro x (hx | rfl)
      · exact allV_mono (fun p hp => okA_snoc hp) (ih x hx)
      · exact allV_mono (fun p hp => okA_snoc hp) (allV_sub2 ih hpa hs.1)
    | va n v =>
      simp only [nxtM]
      exact fun x hx => allV_mono (fun p hp => okA_snoc hp) (ih x hx)
end Go.Proofs.YtkajklfohjcofaaGreatDoor

/- What a substitution hands back, by its root. -/
set_option linter.unusedVariables false
set_option linter.unusedSimpArgs false
namespace Go.Proofs.YtkajklfohjcofaaGreatDoor
open Go.Abs

def OutS (A : List Box) (k : Int) (m n : List UInt8) (ks : List Ty) (ok : Bool) (r : AV) (A' : List Box) : Prop :=
  ∃ B v S, A' = A ++ B ∧ r = .tuple [.agg [.int .i64 k, .str m, .str n, v], .bool ok] ∧ OwnK A' ks v S ∧ S.Nodup ∧ ∀ i ∈ S, A.length ≤ i ∧ i < A'.length
theorem outS_of {A A' : List Box} {o : Option VT} {r : AV} {k : Int} {m n : List UInt8} {ks : List Ty} (ho : oTyS o = .mk k m n ks) (h : SubNew A o r A') : OutS A k m n ks o.isSome r A' := by
  obtain ⟨B, cs, S, h1, h2, rfl, h3, h4, h5, h6⟩ := h
  rw [ho, ownT_mk] at h4
  obtain ⟨v, rfl, hK⟩ := h4
  exact ⟨B, v, S, h1, rfl, hK, h5, h6⟩
end Go.Proofs.YtkajklfohjcofaaGreatDoor

/- Strengthening is substitution: what a value has for a type in the strengthened signature is the type that it has before, with each abstract type replaced. -/
set_option linter.unusedVariables false
set_option linter.unusedSimpArgs false
namespace Go.Proofs.YtkajklfohjcofaaGreatDoor
open Go.Abs

def abB (mod : List UInt8) : VI → Option (BNm × VT)
  | .ab n => some (([], n), .nm mod n)
  | _ => none
/-- the bindings of the abstract types -/
def strB (mod : List UInt8) (ys : List VI) : List (BNm × VT) := ys.filterMap (abB mod)
theorem strB_mod {mod : List UInt8} : ∀ {ys : List VI}, ∀ x ∈ strB mod ys, x.1.1 = [] ∧ x.2 = .nm mod x.1.2 := fun x hx => by
  obtain ⟨y, _, h⟩ := List.mem_filterMap.1 hx
  cases y with
  | ab n => simp only [abB, Option.some.injEq] at h; subst h; exact ⟨rfl, rfl⟩
  | al n v => cases h
  | va n v => cases h
theorem look_mod {q : BNm} {m : List (BNm × VT)} (hm : ∀ x ∈ m, x.1.1 = []) (hq : q.1 ≠ []) : lookB q m = none := by
  cases h : lookB q m with
  | none => rfl
  | some w => exact absurd (hm _ (lookB_in h)) hq
theorem strB_look {mod : List UInt8} : ∀ {ys : List VI} {n : List UInt8}, VI.ab n ∈ ys → lookB ([], n) (strB mod ys) = some (.nm mod n)
  | y :: ys, n, h => by
    have hrest : VI.ab n ∈ ys → lookB ([], n) (strB mod ys) = some (.nm mod n) := strB_look
    cases y with
    | ab k =>
      rw [strB, List.filterMap_cons]
      simp only [abB, lookB]
      split
      · rename_i e; simp only [Prod.mk.injEq, true_and] at e; rw [e]
      · rename_i e
        refine hrest ?_
        rcases List.mem_cons.1 h with h | h
        · injection h with h; exact absurd (by rw [h]) e
        · exact h
    | al k v =>
      rw [strB, List.filterMap_cons]
      simp only [abB]
      exact hrest (by simpa using h)
    | va k v =>
      rw [strB, List.filterMap_cons]
      simp only [abB]
      exact hrest (by simpa using h)
theorem look_map (F : List (BNm × VT)) (q : BNm) : ∀ m : List (BNm × VT), lookB q (m.map fun x => (x.1, subV F x.2)) = (lookB q m).map (subV F)
  | [] => rfl
  | (k, v) :: m => by
    simp only [List.map_cons, lookB]
    split
    · rfl
    · exact look_map F q m
theorem sub_sub {F m : List (BNm × VT)} {P : Nm → Bool} (h : ∀ p, P p = true → lookB p m ≠ none ∨ lookB p F = none) : ∀ {v : VT}, allV P v = true → subV (m.map fun x => (x.1, subV F x.2)) v = subV F (subV m v)
  | .num, _ => rfl
  | .nm a b, hv => by
    rw [subV, look_map]
    rw [show subV m (.nm a b) = (lookB (a, b) m).getD (.nm a b) from rfl]
    cases hl : lookB (a, b) m with
    | some w => rfl
    | none =>
      rcases h _ hv with h | h
      · exact absurd hl h
      · simp only [Option.map_none, Option.getD_none, subV, h]
  | .fn a b, hv => by
    simp only [allV, Bool.and_eq_true] at hv
    simp only [subV, sub_sub h hv.1, sub_sub h hv.2]
theorem nxt_mod (ys : List VI) : ∀ i, i ≤ ys.length → ∀ x ∈ nxtL (ys.take i), x.1.1 = []
  | 0, _ => by simp [nxtL]
  | i + 1, h => by
    have ih := nxt_mod ys i (by omega)
    rw [nxtL_snoc ys (by omega)]
    generalize ys.getD i vi0 = y at *
    cases y with
    | ab n => simp only [nxtM, List.mem_append, List.mem_singleton]; rintro x (hx | rfl); exact ih x hx; rfl
    | al n v => simp only [nxtM, List.mem_append, List.mem_singleton]; rintro x (hx | rfl); exact ih x hx; rfl
    | va n v => exact ih
theorem okN_sub {mod : List UInt8} {ys : List VI} {i : Nat} (hi : i ≤ ys.length) : ∀ p : Nm, okN ((ys.take i).map viK) p = true → lookB p (nxtL (ys.take i)) ≠ none ∨ lookB p (strB mod ys) = none := fun p hp => by
  obtain ⟨a, b⟩ := p
  by_cases ha : a = []
  · subst ha
    simp only [okN, decide_true, Bool.not_true, Bool.false_or, decide_eq_true_eq] at hp
    exact .inl (known_all ys i hi b hp)
  · exact .inr (look_mod (fun x hx => (strB_mod x hx).1) ha)
theorem nxt_str {mod : List UInt8} {ys : List VI} (hm : mod ≠ []) (ho : ordB ys = true) : ∀ i, i ≤ ys.length → nxtL ((ys.map (strI mod)).take i) = (nxtL (ys.take i)).map fun x => (x.1, subV (strB mod ys) x.2)
  | 0, _ => rfl
  | i + 1, h => by
    have ih := nxt_str hm ho i (by omega)
    have hs := stepOf ho (show i < ys.length by omega)
    have hsub := okN_sub (mod := mod) (ys := ys) (i := i) (by omega)
    have hmod := nxt_mod ys i (by omega)
    have hmem : ys.getD i vi0 ∈ ys := Abs.getD_mem (by omega)
    rw [nxtL_snoc _ (by simp; omega), nxtL_snoc ys (by omega), strI_getD mod (by omega), ih]
    simp only [stepB, Bool.and_eq_true] at hs
    generalize ys.getD i vi0 = y at *
    cases y with
    | ab n =>
      have e1 : subV (strB mod ys) (.nm [] n) = .nm mod n := by rw [subV, strB_look hmem]; rfl
      have e2 : subV ((nxtL (ys.take i)).map fun x => (x.1, subV (strB mod ys) x.2)) (.nm mod n) = .nm mod n := by
        rw [subV, look_map, look_mod hmod hm]; rfl
      simp only [strI, nxtM, List.map_append, List.map_cons, List.map_nil, e1, e2]
    | al n v =>
      simp only [allI] at hs
      simp only [strI, nxtM, List.map_append, List.map_cons, List.map_nil, sub_sub hsub hs.1]
    | va n v => rfl
end Go.Proofs.YtkajklfohjcofaaGreatDoor

/- Facts on matching, as data. -/
set_option linter.unusedVariables false
set_option linter.unusedSimpArgs false
namespace Go.Proofs.YtkajklfohjcofaaGreatDoor
open Go.Abs

theorem rdN_ordB {s : List SigI} {ws : List VI} (h : RdN s (some ws)) : ordB ws = true := by
  obtain ⟨ys, h8, hr, hord, hn⟩ := h
  rw [(normL_fit hn).2]; exact ordB_norm hord
theorem subV_id {m : List (BNm × VT)} {p : Nm → Bool} (h : ∀ q, p q = true → lookB q m = none ∨ lookB q m = some (.nm q.1 q.2)) : ∀ {v : VT}, allV p v = true → subV m v = v
  | .num, _ => rfl
  | .nm a b, hv => by
    rw [subV]
    rcases h (a, b) hv with h1 | h1 <;> rw [h1] <;> rfl
  | .fn a b, hv => by
    simp only [allV, Bool.and_eq_true] at hv
    rw [subV, subV_id h hv.1, subV_id h hv.2]
theorem okA_any {a b : List VI} (h : ∀ n, a.any (isAb n) = b.any (isAb n)) : okA a = okA b := by
  funext p; simp only [okA, h]
theorem any_abs : ∀ {a b : List VI}, a.map absO = b.map absO → ∀ n, a.any (isAb n) = b.any (isAb n)
  | [], [], _, n => rfl
  | [], _ :: _, h, n => by simp at h
  | _ :: _, [], h, n => by simp at h
  | x :: a, y :: b, h, n => by
    simp only [List.map_cons, List.cons.injEq] at h
    have ih := any_abs h.2 n
    rw [List.any_cons, List.any_cons, ih]
    congr 1
    cases x <;> cases y <;> simp only [absO, reduceCtorEq, Option.some.injEq] at h
    all_goals first | (obtain ⟨rfl, _⟩ := h; rfl) | exact h.1.elim | rfl
/-- normal types mention abstract types only -/
theorem zs_okA {s : List SigI} {zs : List VI} (h : RdN s (some zs)) : ∀ i, i < zs.length → allI (okA (zs.take i)) (zs.getD i vi0) = true := by
  obtain ⟨ys, h8, hr, hord, hn⟩ := h
  obtain ⟨hf, rfl⟩ := normL_fit hn
  intro i hi
  rw [zsN_length] at hi
  have hst := stepOf hord hi
  simp only [stepB, Bool.and_eq_true] at hst
  have e1 : (zsN ys ys.length).take i = zsN ys i := by
    refine List.ext_getElem (by simp [zsN_length]; omega) fun k h1 h2 => ?_
    simp [zsN]
  have e2 : okA ((zsN ys ys.length).take i) = okA (ys.take i) := by
    rw [e1]; exact okA_any (any_abs (absO_zs ys i (by omega)))
  rw [e2, zsN_getD ys hi]
  have hab := nxtL_ab ys hord i (by omega)
  have hp := hpA (ys := ys) (i := i) (by omega)
  cases hy : ys.getD i vi0 with
  | ab n => rfl
  | al n v => rw [hy] at hst; exact allV_sub2 hab hp hst.1
  | va n v => rw [hy] at hst; exact allV_sub2 hab hp hst.1
theorem any_mem {l : List VI} {n : List UInt8} (h : l.any (isAb n) = true) : VI.ab n ∈ l := by
  obtain ⟨y, hy, h1⟩ := List.any_eq_true.1 h
  cases y with
  | ab m => simp only [isAb, decide_eq_true_eq] at h1; subst h1; exact hy
  | al m v => simp [isAb] at h1
  | va m v => simp [isAb] at h1
theorem take_mem {l : List VI} {i : Nat} {y : VI} (h : y ∈ l.take i) : ∃ k, k < i ∧ k < l.length ∧ l.getD k vi0 = y := by
  obtain ⟨k, hk, rfl⟩ := List.mem_iff_getElem.1 h
  simp only [List.length_take] at hk
  exact ⟨k, by omega, by omega, by simp [List.getD, show k < l.length by omega]⟩
/-- an item is found by its key -/
theorem findF_at {zs : List VI} (ho : ordB zs = true) {i : Nat} (hi : i < zs.length) : findF zs (viK (zs.getD i vi0)) = some (meanI (zs.getD i vi0)) := by
  cases h : findF zs (viK (zs.getD i vi0)) with
  | none => exact absurd rfl (findF_none h i hi)
  | some v =>
    obtain ⟨j, hj, h1, h2⟩ := findF_some h
    have e := ordB_inj ho hj hi h1
    rw [← h2, e]
/-- what abstract types stand for in the signature itself -/
theorem known_self {zs : List VI} (ho : ordB zs = true) : ∀ x ∈ knownB zs zs, x.2 = .nm x.1.1 x.1.2 := by
  have key : ∀ a : List VI, (∀ y ∈ a, y ∈ zs) → ∀ x ∈ knownB zs a, x.2 = .nm x.1.1 x.1.2 := by
    intro a
    induction a with
    | nil => intro _ x hx; simp [knownB] at hx
    | cons y a ih =>
      intro hm x hx
      have ih := ih fun z hz => hm z (by simp [hz])
      cases y with
      | ab n =>
        simp only [knownB] at hx
        have hy := hm (.ab n) (by simp)
        obtain ⟨i, hi, he⟩ := List.mem_iff_getElem.1 hy
        have hf := findF_at ho hi
        have e : zs.getD i vi0 = .ab n := by rw [← he]; simp [List.getD, hi]
        rw [e] at hf
        have hf : findF zs (false, n) = some (.nm [] n) := hf
        rw [hf] at hx
        rcases List.mem_cons.1 hx with rfl | hx
        · rfl
        · exact ih x hx
      | al n v => exact ih x (by simpa [knownB] using hx)
      | va n v => exact ih x (by simpa [knownB] using hx)
  exact key zs fun y hy => hy
theorem look_self {m : List (BNm × VT)} (h : ∀ x ∈ m, x.2 = .nm x.1.1 x.1.2) (q : BNm) : lookB q m = none ∨ lookB q m = some (.nm q.1 q.2) := by
  cases hl : lookB q m with
  | none => exact .inl rfl
  | some w =>
    have := h _ (lookB_in hl)
    exact .inr (congrArg some this)
theorem allV_true : ∀ v, allV (fun _ => true) v = true
  | .num => rfl
  | .nm a b => rfl
  | .fn a b => by simp [allV, allV_true a, allV_true b]
/-- a signature offers what it asks for -/
theorem offC_self {zs : List VI} (ho : ordB zs = true) : offC zs [] zs 0 = none := by
  rw [offC_from zs zs _ zs.length rfl (Nat.le_refl _) ?_, List.drop_length, offC]
  intro k hk
  rw [← visC_all ho hk]
  have hf := findF_at ho hk
  have hid : ∀ v, subV (knownB zs zs) v = v := fun v => subV_id (p := fun _ => true) (fun q _ => look_self (known_self ho) q) (allV_true v)
  unfold visC
  rw [hf]
  cases zs.getD k vi0 with
  | ab n => rfl
  | al n v => simp [hid, meanI]
  | va n v => simp [hid, meanI]
theorem nxt_keys (ys : List VI) : ∀ i, i ≤ ys.length → ∀ x ∈ nxtL (ys.take i), (false, x.1.2) ∈ (ys.take i).map viK
  | 0, _, x, h => by simp [nxtL] at h
  | i + 1, hi, x, h => by
    rw [nxtL_snoc ys (by omega)] at h
    rw [key_at (by omega)]
    cases hy : ys.getD i vi0 with
    | ab n =>
      rw [hy] at h
      rcases List.mem_append.1 h with h | h
      · exact List.mem_append.2 (.inl (nxt_keys ys i (by omega) x h))
      · rw [List.mem_singleton.1 h]; simp [viK]
    | al n v =>
      rw [hy] at h
      rcases List.mem_append.1 h with h | h
      · exact List.mem_append.2 (.inl (nxt_keys ys i (by omega) x h))
      · rw [List.mem_singleton.1 h]; simp [viK]
    | va n v =>
      rw [hy] at h
      exact List.mem_append.2 (.inl (nxt_keys ys i (by omega) x h))
theorem key_new {ys : List VI} (ho : ordB ys = true) {i : Nat} (hi : i < ys.length) : viK (ys.getD i vi0) ∉ (ys.take i).map viK := by
  have hst := stepOf ho hi
  simp only [stepB, Bool.and_eq_true, Bool.not_eq_true', decide_eq_false_iff_not] at hst
  exact hst.2
theorem look_ab {ys : List VI} (ho : ordB ys = true) {n : List UInt8} : ∀ i, i ≤ ys.length → VI.ab n ∈ ys.take i → lookB ([], n) (nxtL (ys.take i)) = some (.nm [] n)
  | 0, _, h => by simp at h
  | i + 1, hi, h => by
    rw [nxtL_snoc ys (by omega)]
    rw [take_snocV (by omega)] at h
    rcases List.mem_append.1 h with h | h
    · have ih := look_ab ho i (by omega) h
      cases ys.getD i vi0 with
      | ab m => rw [nxtM, lookB_app, ih]; rfl
      | al m v => rw [nxtM, lookB_app, ih]; rfl
      | va m v => exact ih
    · have h := (List.mem_singleton.1 h).symm
      have hk := key_new ho (show i < ys.length by omega)
      rw [h] at hk ⊢
      rw [nxtM, lookB_app]
      have : lookB ([], n) (nxtL (ys.take i)) = none := lookB_none fun x hx e => by
        have := nxt_keys ys i (by omega) x hx
        rw [e] at this
        exact hk this
      rw [this]
      simp [lookB]
theorem sub_self {s : List SigI} {zs : List VI} (h : RdN s (some zs)) {i : Nat} (hi : i < zs.length) : subI (nxtL (zs.take i)) (zs.getD i vi0) = zs.getD i vi0 := by
  have ho := rdN_ordB h
  have hok := zs_okA h i hi
  have hl : ∀ q, okA (zs.take i) q = true → lookB q (nxtL (zs.take i)) = none ∨ lookB q (nxtL (zs.take i)) = some (.nm q.1 q.2) := fun q hq => by
    obtain ⟨m, n⟩ := q
    by_cases hm : m = []
    · subst hm
      simp only [okA, decide_true, Bool.not_true, Bool.false_or] at hq
      exact .inr (look_ab ho i (by omega) (any_mem hq))
    · exact .inl (look_mod (nxt_mod zs i (by omega)) hm)
  cases hy : zs.getD i vi0 with
  | ab n => rfl
  | al n v => rw [hy] at hok; simp only [subI]; rw [subV_id hl hok]
  | va n v => rw [hy] at hok; simp only [subI]; rw [subV_id hl hok]
/-- a normal signature is its own normal form -/
theorem rdN_again {s : List SigI} {zs : List VI} (h : RdN s (some zs)) : RdN (zs.map siOf) (some zs) := by
  have ho := rdN_ordB h
  have hv := rdN_vok h
  have hs := @sub_self s zs h
  obtain ⟨ys, h8, hr, hord, hn⟩ := id h
  obtain ⟨hf, e⟩ := normL_fit hn
  have hrz := zsN_reads hr hf
  rw [← e] at hrz
  refine ⟨zs, by simpa using hv.1, hrz, ho, ?_⟩
  have hfz : fitL zs := fun i hi => by
    rw [hs hi]
    have h1 := (hv.2 i hi).dep
    have h2 := (hv.2 i hi).cnt
    have h1 : dep (meanI (zs.getD i vi0)) ≤ 8 := h1
    have h2 : cnt (meanI (zs.getD i vi0)) ≤ 63 := h2
    simp only [fitI, decide_eq_true h1, decide_eq_true h2, Bool.and_self]
  rw [normL_yes hfz]
  congr 1
  refine vi_ext (zsN_length _ _) fun i hi => ?_
  rw [zsN_length] at hi
  rw [zsN_getD zs hi, hs hi]
/-- matching with itself -/
theorem mt_self {a b : List SigI} {zs : List VI} (ha : RdN a (some zs)) (hb : RdN b (some zs)) : MtIs a b 0 (0, false) :=
  .inl ⟨zs, zs, ha, hb, by rw [offC_self (rdN_ordB ha)]; rfl, by rw [offC_self (rdN_ordB ha)]; rfl⟩
theorem mt_none {a b : List SigI} {c : Int} {p : Nat × Bool} (h : MtIs a b c p) (hn : RdN a none ∨ RdN b none) : c = 4 ∨ c = 5 := by
  rcases h with ⟨hs, ws, h1, h2, _, _⟩ | ⟨_, _, rfl⟩
  · rcases hn with hn | hn
    · exact absurd hn (rdN_not h1)
    · exact absurd hn (rdN_not h2)
  · split <;> simp
theorem rdN_nil : RdN [] (some []) := ⟨[], by simp, ⟨rfl, fun i hi => by simp at hi⟩, rfl, rfl⟩
theorem rdN_length {s : List SigI} {zs : List VI} (h : RdN s (some zs)) : zs.length = s.length := by
  obtain ⟨ys, h8, hr, hord, hn⟩ := h
  rw [normL_len hn, hr.1]
theorem mt_nil {a : List SigI} {zs : List VI} (ha : RdN a (some zs)) : MtIs a [] 0 (0, false) := .inl ⟨zs, [], ha, rdN_nil, rfl, rfl⟩
theorem mt_of_nil {a : List SigI} {zs : List VI} (ha : RdN a (some zs)) : ∃ c p, MtIs [] a c p ∧ (c = 0 ↔ a.length = 0) := by
  refine ⟨_, _, .inl ⟨[], zs, rdN_nil, ha, rfl, rfl⟩, ?_⟩
  rw [← rdN_length ha]
  cases zs with
  | nil => simp [offC, mcO]
  | cons y zs =>
    have : visC [] [] y = 1 := by cases y <;> simp [visC, findF]
    rw [offC, this]
    simp [mcO]
/-- the items before the first one that is not offered are -/
theorem offC_take (hs : List VI) : ∀ (ws : List VI) (m : List (BNm × VT)) (j : Nat) (x : Nat × Ky × Int), offC hs m ws j = some x → offC hs m (ws.take (x.1 - j)) j = none ∧ offC hs m (ws.take (x.1 - j + 1)) j = some x
  | [], m, j, x, h => by cases h
  | y :: ws, m, j, x, h => by
    rw [offC] at h
    split at h
    · rename_i hc
      have hr := offC_code hs ws _ _ x h
      obtain ⟨h1, h2⟩ := offC_take hs ws _ _ x h
      have e : x.1 - j = (x.1 - (j + 1)) + 1 := by omega
      rw [e, List.take_succ_cons, List.take_succ_cons, offC, offC, if_pos hc, if_pos hc]
      exact ⟨h1, h2⟩
    · rename_i hc
      cases h
      simp only [Nat.sub_self, List.take_zero, Nat.zero_add, List.take_succ_cons]
      refine ⟨rfl, ?_⟩
      rw [offC, if_neg hc]
theorem mt_first {a b : List SigI} {c : Int} {p : Nat × Bool} (h : MtIs a b c p) :
    (p.2 = false ∧ c ≠ 1 ∧ c ≠ 2 ∧ c ≠ 3) ∨ (p.2 = true ∧ c ≠ 0 ∧ c ≠ 5 ∧ p.1 < b.length ∧ (∃ q, MtIs a (b.take p.1) 0 q) ∧ ∃ q, MtIs a (b.take (p.1 + 1)) c q) := by
  rcases h with ⟨hs, ws, h1, h2, rfl, rfl⟩ | ⟨h1, rfl, rfl⟩
  · cases ho : offC hs [] ws 0 with
    | none => exact .inl ⟨rfl, by simp [mcO]⟩
    | some x =>
      have hc := offC_code hs ws [] 0 x ho
      obtain ⟨t1, t2⟩ := offC_take hs ws [] 0 x ho
      simp only [Nat.sub_zero] at t1 t2
      have hl := rdN_length h2
      refine .inr ⟨rfl, ?_, ?_, ?_, ⟨_, .inl ⟨hs, ws.take x.1, h1, rdN_take x.1 h2, by rw [t1]; rfl, rfl⟩⟩, ⟨_, .inl ⟨hs, ws.take (x.1 + 1), h1, rdN_take (x.1 + 1) h2, by rw [t2], rfl⟩⟩⟩
      · simp only [mcO]; omega
      · simp only [mcO]; omega
      · simp only [mpO]; omega
  · exact .inl ⟨rfl, by split <;> omega⟩
/-- what is matched has the keys that are asked for -/
theorem mt_keys {a b : List SigI} {p : Nat × Bool} (h : MtIs a b 0 p) : ∃ hs ws, RdN a (some hs) ∧ RdN b (some ws) ∧ ∀ i, i < ws.length → ∃ f, findF hs (viK (ws.getD i vi0)) = some f := by
  rcases h with ⟨hs, ws, h1, h2, h3, h4⟩ | ⟨h1, _, h3⟩
  · refine ⟨hs, ws, h1, h2, ?_⟩
    cases ho : offC hs [] ws 0 with
    | some x =>
      have := offC_code hs ws [] 0 x ho
      rw [ho] at h3
      simp only [mcO] at h3
      omega
    | none =>
      have key : ∀ (l : List VI) (m : List (BNm × VT)) (j : Nat), offC hs m l j = none → ∀ y ∈ l, ∃ f, findF hs (viK y) = some f := by
        intro l
        induction l with
        | nil => intro m j _ y hy; simp at hy
        | cons z l ih =>
          intro m j h y hy
          rw [offC] at h
          split at h
          · rename_i hc
            rcases List.mem_cons.1 hy with rfl | hy
            · cases hf : findF hs (viK y) with
              | some f => exact ⟨f, rfl⟩
              | none => simp [visC, hf] at hc
            · exact ih _ _ h y hy
          · cases h
      intro i hi
      exact key ws [] 0 ho _ (by simp [List.getD, hi])
  · exfalso; revert h3; split <;> omega
theorem findF_isSome {zs : List VI} {q : Ky} : (findF zs q).isSome = true ↔ ∃ i, i < zs.length ∧ viK (zs.getD i vi0) = q := by
  constructor
  · intro h
    obtain ⟨v, hv⟩ := Option.isSome_iff_exists.1 h
    obtain ⟨i, h1, h2, _⟩ := findF_some hv
    exact ⟨i, h1, h2⟩
  · rintro ⟨i, h1, h2⟩
    cases hf : findF zs q with
    | some v => rfl
    | none => exact absurd h2 (findF_none hf i h1)
theorem mt_same_keys {a b : List SigI} {p p' : Nat × Bool} (h : MtIs a b 0 p) (h' : MtIs b a 0 p') {q : Ky} {o o' : Option VT} (ho : MeanIs a q o) (ho' : MeanIs b q o') : o.isSome = o'.isSome := by
  obtain ⟨hs, ws, h1, h2, h3⟩ := mt_keys h
  obtain ⟨ws', hs', h4, h5, h6⟩ := mt_keys h'
  cases rdN_oo h1 h5
  cases rdN_oo h2 h4
  rw [meanIs_find h1 ho, meanIs_find h2 ho', Bool.eq_iff_iff, findF_isSome, findF_isSome]
  constructor
  · rintro ⟨i, hi, rfl⟩
    obtain ⟨f, hf⟩ := h6 i hi
    obtain ⟨j, hj, hk, _⟩ := findF_some hf
    exact ⟨j, hj, hk⟩
  · rintro ⟨i, hi, rfl⟩
    obtain ⟨f, hf⟩ := h3 i hi
    obtain ⟨j, hj, hk, _⟩ := findF_some hf
    exact ⟨j, hj, hk⟩
end Go.Proofs.YtkajklfohjcofaaGreatDoor

/- Whether two types are equal, by the program's method. -/
set_option linter.unusedVariables false
set_option linter.unusedSimpArgs false
namespace Go.Proofs.YtkajklfohjcofaaGreatDoor
open Go.Abs

open Classical in
def SmM (v w : VT) : Prop := ∀ A, ACalls Tryz.prog ((pickF 211 218 181) v) [vX v, .iface (vT w) (vX w)] A (fun r A' => r = .bool (decide (v = w)) ∧ A' = A)

set_option maxRecDepth 100000 in
theorem num_same (w : VT) : SmM .num w := fun A => by
  cases w with
  | num =>
    show ACalls Tryz.prog 211 [.agg [], .iface 207 (.agg [])] A _
    refine acalls_enter (cf := cf 13 [0, 1, 4, 6]) foll Tryz.func211 Tryz.ntmps211 (by simp [cf]) ?_
    simp only [Tryz.f211, EnterK_some, zW, zX, zD, builtinA, isLeaf, const1, ustrA, simprocAttr, ti92, ti207, za207, cf, Tryz.results211]
    simp only [zW, zX, zD, builtinA, isLeaf, const1, ustrA, simprocAttr, ti92, ti207, za207, cf, Tryz.results211, wpO_typeAssert, assert_yes]
  | nm a b =>
    show ACalls Tryz.prog 211 [.agg [], .iface 154 (.agg [.str a, .str b])] A _
    have has := fun A => assert_no [] 154 207 (.agg [.str a, .str b]) rfl (A := A)
    refine acalls_enter (cf := cf 13 [0, 1, 4, 6]) foll Tryz.func211 Tryz.ntmps211 (by simp [cf]) ?_
    simp only [Tryz.f211, EnterK_some, zW, zX, zD, builtinA, isLeaf, const1, ustrA, simprocAttr, ti92, ti207, za207, cf, Tryz.results211]
    simp only [zW, zX, zD, builtinA, isLeaf, const1, ustrA, simprocAttr, ti92, ti207, za207, cf, Tryz.results211, wpO_typeAssert, has]
  | fn a b =>
    show ACalls Tryz.prog 211 [.agg [], .iface 218 (.agg [.iface (vT a) (vX a), .iface (vT b) (vX b)])] A _
    have has := fun A => assert_no [] 218 207 (.agg [.iface (vT a) (vX a), .iface (vT b) (vX b)]) rfl (A := A)
    refine acalls_enter (cf := cf 13 [0, 1, 4, 6]) foll Tryz.func211 Tryz.ntmps211 (by simp [cf]) ?_
    simp only [Tryz.f211, EnterK_some, zW, zX, zD, builtinA, isLeaf, const1, ustrA, simprocAttr, ti92, ti207, za207, cf, Tryz.results211]
    simp only [zW, zX, zD, builtinA, isLeaf, const1, ustrA, simprocAttr, ti92, ti207, za207, cf, Tryz.results211, wpO_typeAssert, has]

set_option maxRecDepth 100000 in
theorem name_same (a b : List UInt8) (w : VT) : SmM (.nm a b) w := fun A => by
  cases w with
  | num =>
    show ACalls Tryz.prog 181 [.agg [.str a, .str b], .iface 207 (.agg [])] A _
    have has := fun A => assert_no [.str [], .str []] 207 154 (.agg []) rfl (A := A)
    refine acalls_enter (cf := cf 18 [0, 1, 2, 4, 5, 6]) foll Tryz.func181 Tryz.ntmps181 (by simp [cf]) ?_
    simp only [Tryz.f181, EnterK_some, zW, zX, zD, builtinA, isLeaf, const1, ustrA, simprocAttr, ti92, ti154, ks154, za154, cf, Tryz.results181]
    simp only [zW, zX, zD, builtinA, isLeaf, const1, ustrA, simprocAttr, ti92, ti154, ks154, za154, cf, Tryz.results181, wpO_typeAssert, has]
  | nm c d =>
    show ACalls Tryz.prog 181 [.agg [.str a, .str b], .iface 154 (.agg [.str c, .str d])] A _
    refine acalls_enter (cf := cf 18 [0, 1, 2, 4, 5, 6]) foll Tryz.func181 Tryz.ntmps181 (by simp [cf]) ?_
    simp only [Tryz.f181, EnterK_some, zW, zX, zD, builtinA, isLeaf, const1, ustrA, simprocAttr, ti92, ti154, ks154, za154, cf, Tryz.results181]
    simp only [zW, zX, zD, builtinA, isLeaf, const1, ustrA, simprocAttr, ti92, ti154, ks154, za154, cf, Tryz.results181, wpO_typeAssert, assert_yes]
    simp
  | fn c d =>
    show ACalls Tryz.prog 181 [.agg [.str a, .str b], .iface 218 (.agg [.iface (vT c) (vX c), .iface (vT d) (vX d)])] A _
    have has := fun A => assert_no [.str [], .str []] 218 154 (.agg [.iface (vT c) (vX c), .iface (vT d) (vX d)]) rfl (A := A)
    refine acalls_enter (cf := cf 18 [0, 1, 2, 4, 5, 6]) foll Tryz.func181 Tryz.ntmps181 (by simp [cf]) ?_
    simp only [Tryz.f181, EnterK_some, zW, zX, zD, builtinA, isLeaf, const1, ustrA, simprocAttr, ti92, ti154, ks154, za154, cf, Tryz.results181]
    simp only [zW, zX, zD, builtinA, isLeaf, const1, ustrA, simprocAttr, ti92, ti154, ks154, za154, cf, Tryz.results181, wpO_typeAssert, has]

open Classical in
set_option maxRecDepth 100000 in
theorem fun_same (a b : VT) (ha : ∀ w, SmM a w) (hb : ∀ w, SmM b w) (w : VT) : SmM (.fn a b) w := fun A => by
  cases w with
  | num =>
    show ACalls Tryz.prog 218 [.agg [.iface (vT a) (vX a), .iface (vT b) (vX b)], .iface 207 (.agg [])] A _
    have has := fun A => assert_no [.nili, .nili] 207 218 (.agg []) rfl (A := A)
    refine acalls_enter (cf := cf 27 [0, 1, 2, 4, 5, 6]) foll Tryz.func218 Tryz.ntmps218 (by simp [cf]) ?_
    simp only [Tryz.f218, EnterK_some, zW, zX, zD, builtinA, isLeaf, const1, ustrA, simprocAttr, ti92, ti218, za218, cf, Tryz.results218]
    simp only [zW, zX, zD, builtinA, isLeaf, const1, ustrA, simprocAttr, ti92, ti218, za218, cf, Tryz.results218, wpO_typeAssert, has]
  | nm c d =>
    show ACalls Tryz.prog 218 [.agg [.iface (vT a) (vX a), .iface (vT b) (vX b)], .iface 154 (.agg [.str c, .str d])] A _
    have has := fun A => assert_no [.nili, .nili] 154 218 (.agg [.str c, .str d]) rfl (A := A)
    refine acalls_enter (cf := cf 27 [0, 1, 2, 4, 5, 6]) foll Tryz.func218 Tryz.ntmps218 (by simp [cf]) ?_
    simp only [Tryz.f218, EnterK_some, zW, zX, zD, builtinA, isLeaf, const1, ustrA, simprocAttr, ti92, ti218, za218, cf, Tryz.results218]
    simp only [zW, zX, zD, builtinA, isLeaf, const1, ustrA, simprocAttr, ti92, ti218, za218, cf, Tryz.results218, wpO_typeAssert, has]
  | fn c d =>
    show ACalls Tryz.prog 218 [.agg [.iface (vT a) (vX a), .iface (vT b) (vX b)], .iface 218 (.agg [.iface (vT c) (vX c), .iface (vT d) (vX d)])] A _
    refine acalls_enter (cf := cf 27 [0, 1, 2, 4, 5, 6]) foll Tryz.func218 Tryz.ntmps218 (by simp [cf]) ?_
    simp only [Tryz.f218, EnterK_some, zW, zX, zD, builtinA, isLeaf, const1, ustrA, simprocAttr, ti92, ti218, za218, cf, Tryz.results218]
    simp only [zW, zX, zD, builtinA, isLeaf, const1, ustrA, simprocAttr, ti92, ti218, za218, cf, Tryz.results218, wpO_typeAssert, assert_yes]
    refine wpO_invoke _ _ _ _ _ _ _ _ _ _ _ _ _ _ _ _ ?_
    simp only [zW, zX, zD, builtinA, isLeaf, const1, ustrA, simprocAttr, ti92, ti218, za218, cf, Tryz.results218]
    refine meth_invK (met3 (by kernel_rfl) (by kernel_rfl) (by kernel_rfl) (by kernel_rfl) (by kernel_rfl) (by kernel_rfl)) (ha c _) rfl (fun _ => rfl) ?_
    rintro r A' ⟨rfl, rfl⟩
    by_cases h1 : a = c
    · rw [decide_eq_true h1]
      simp only [zW, zX, zD, builtinA, isLeaf, const1, ustrA, simprocAttr, ti92, ti218, za218, cf, Tryz.results218]
      refine wpO_invoke _ _ _ _ _ _ _ _ _ _ _ _ _ _ _ _ ?_
      simp only [zW, zX, zD, builtinA, isLeaf, const1, ustrA, simprocAttr, ti92, ti218, za218, cf, Tryz.results218]
      refine meth_invK (met3 (by kernel_rfl) (by kernel_rfl) (by kernel_rfl) (by kernel_rfl) (by kernel_rfl) (by kernel_rfl)) (hb d _) rfl (fun _ => rfl) ?_
      rintro r A' ⟨rfl, rfl⟩
      simp only [zW, zX, zD, builtinA, isLeaf, const1, ustrA, simprocAttr, ti92, ti218, za218, cf, Tryz.results218]
      simp [h1]
    · rw [decide_eq_false h1]
      simp only [zW, zX, zD, builtinA, isLeaf, const1, ustrA, simprocAttr, ti92, ti218, za218, cf, Tryz.results218]
      simp [h1]
theorem smM : ∀ v w : VT, SmM v w
  | .num, w => num_same w
  | .nm a b, w => name_same a b w
  | .fn a b, w => fun_same a b (smM a) (smM b) w
end Go.Proofs.YtkajklfohjcofaaGreatDoor

/- errors.As where the target is the program's own error type and the error is of that type, or nil: Go's own text is walked, on the memory itself. -/
set_option linter.unusedVariables false
set_option linter.unusedSimpArgs false
namespace Go.Proofs.YtkajklfohjcofaaGreatDoor
open Go.Abs Go.RowKit Go.Extern

def hT (t : Nat) : Value := .pointer (some ⟨1, t, none⟩)
def tT (t : Nat) : Value := .iface 170 (.agg #[hT t])
def vT' (t : Nat) (a : Addr) (fl : Int) : Value := .agg #[hT t, .pointer (some a), .int .u64 fl]

theorem as_valueOfP (t : Addr) (w : World) : (ReflectliteValue.unpack (.iface 75 (.pointer (some t)))).run Tryz.prog w = .ok (vT' 75 ⟨w.heap.size, 0, none⟩ 150) (w.alloc (.cells #[.pointer (some t)] 75)) := by kernel_rfl
theorem as_type (a : Addr) (w : World) : (ReflectliteValue.methodAny (ReflectliteValue.valueError "reflectlite.Value.Type" 0) (fun t _ _ _ => ReflectliteType.toType t) #[vT' 75 a 150]).run Tryz.prog w = .ok (tT 75) w := by kernel_rfl
theorem as_mKind (h : Value) (w : World) : (Go.method 358 170 (.agg #[h]) "Kind").run Tryz.prog w = .ok (163, h) w := by kernel_rfl
theorem as_kindP (w : World) : ((ReflectliteType.abiMethod fun t => (fun a : Nat => Value.int IntKind.u8 (a : Int)) <$> Rtype.kind t) #[hT 75]).run Tryz.prog w = .ok (.int .u8 22) w := by kernel_rfl
theorem as_kindT (w : World) : ((ReflectliteType.abiMethod fun t => (fun a : Nat => Value.int IntKind.u8 (a : Int)) <$> Rtype.kind t) #[hT 70]).run Tryz.prog w = .ok (.int .u8 25) w := by kernel_rfl
theorem as_rlm (z : Sem Value) (f : TypeId → Addr → Nat → Nat → Sem Value) (v : Value) :
    ReflectliteValue.method z f #[v] = (do match ← ReflectliteValue.parts v with | none => z | some (t, a, fl) => f t a fl (fl % 32)) := rfl
theorem as_partsP (a : Addr) (w : World) : (ReflectliteValue.parts (vT' 75 a 150)).run Tryz.prog w = .ok (some (75, a, 150)) w := by kernel_rfl
theorem as_isNil (a p : Addr) (W : World) (ha : W.cell? a = some (.pointer (some p))) :
    (ReflectliteValue.method (ReflectliteValue.valueError "reflectlite.Value.IsNil" 0) ReflectliteValue.isNil #[vT' 75 a 150]).run Tryz.prog W = .ok (.bool false) W := by
  rw [as_rlm]
  simp only [Sem.run_bind, as_partsP, Result.andThen]
  simp [ReflectliteValue.isNil, loadVar, isAgg, underlying, Tryz.underlying75, ha, Result.andThen]
theorem as_mElem (h : Value) (w : World) : (Go.method 358 170 (.agg #[h]) "Elem").run Tryz.prog w = .ok (193, .agg #[h]) w := by kernel_rfl
theorem as_mImpl (h : Value) (w : World) : (Go.method 358 170 (.agg #[h]) "Implements").run Tryz.prog w = .ok (194, .agg #[h]) w := by kernel_rfl
theorem as_mAsg (h : Value) (w : World) : (Go.method 358 170 (.agg #[h]) "AssignableTo").run Tryz.prog w = .ok (191, .agg #[h]) w := by kernel_rfl
theorem as_elem (w : World) : (ReflectliteType.method ReflectliteType.elem #[.agg #[hT 75]]).run Tryz.prog w = .ok (tT 70) w := by kernel_rfl
theorem as_impl (w : World) : (ReflectliteType.relation "Implements" ReflectliteType.implements_ #[.agg #[hT 70], tT 73]).run Tryz.prog w = .ok (.bool true) w := by kernel_rfl
theorem as_typeOf (v : Value) (w : World) : (ReflectliteType.typeOf #[.iface 70 v]).run Tryz.prog w = .ok (tT 70) w := by kernel_rfl
theorem as_asg (w : World) : (ReflectliteType.relation "AssignableTo" ReflectliteType.assignableTo #[.agg #[hT 70], tT 70]).run Tryz.prog w = .ok (.bool true) w := by kernel_rfl
theorem as_valueOfT (x0 x1 x2 x3 : Value) (w : World) : (ReflectliteValue.unpack (.iface 70 (.agg #[x0, x1, x2, x3]))).run Tryz.prog w = .ok (vT' 70 ⟨w.heap.size, 0, none⟩ 153) (w.alloc (.cells #[x0, x1, x2, x3] 70)) := by kernel_rfl
theorem as_elemOf (w : World) : (Rtype.elem? 75).run Tryz.prog w = .ok (some 70) w := by kernel_rfl
theorem as_mk (p : Addr) (w : World) : (ReflectliteValue.mk 70 p ReflectliteValue.flagAddr).run Tryz.prog w = .ok (vT' 70 p 409) w := by kernel_rfl
theorem as_elemV (a p : Addr) (W : World) (ha : W.cell? a = some (.pointer (some p))) :
    (ReflectliteValue.method (ReflectliteValue.valueError "reflectlite.Value.Elem" 0) ReflectliteValue.elem #[vT' 75 a 150]).run Tryz.prog W = .ok (vT' 70 p 409) W := by
  rw [as_rlm]
  simp only [Sem.run_bind, as_partsP, Result.andThen]
  simp [ReflectliteValue.elem, loadVar, isAgg, underlying, Tryz.underlying75, ha, Result.andThen, as_elemOf, as_mk]
theorem as_rls (v x : Value) : ReflectliteValue.set #[v, x] = (do
    let (some (dst, a, fl), some (src, b, _)) := (← ReflectliteValue.parts v, ← ReflectliteValue.parts x)
      | unsupported (.noEntry "extern/(internal/reflectlite.Value).Set.zeroValue")
    if fl / ReflectliteValue.flagAddr % 2 == 0 then unsupported (.noEntry "extern/(internal/reflectlite.Value).Set.unaddressable")
    let val ← loadVar src b
    if ← Rtype.directlyAssignable dst src then storeVar dst a val
    else if ← Rtype.implements dst src then
      if (← Rtype.kind src) == 20 then
        match val with
        | .nilIface => unsupported (.noEntry "extern/reflectlite: a nil value of one interface type handed on as a value of another")
        | _ => storeVar dst a val
      else storeVar dst a (.iface src val)
    else panicString ("reflectlite.Set: value of type " ++ (← Rtype.spelt src) ++ " is not assignable to type " ++ (← Rtype.spelt dst))
    pure (.tuple #[])) := rfl
theorem as_partsA (a : Addr) (w : World) : (ReflectliteValue.parts (vT' 70 a 409)).run Tryz.prog w = .ok (some (70, a, 409)) w := by kernel_rfl
theorem as_partsT (a : Addr) (w : World) : (ReflectliteValue.parts (vT' 70 a 153)).run Tryz.prog w = .ok (some (70, a, 153)) w := by kernel_rfl
theorem as_direct (w : World) : (Rtype.directlyAssignable 70 70).run Tryz.prog w = .ok true w := by kernel_rfl
theorem as_size (w : World) : (sizeOf 70).run Tryz.prog w = .ok 4 w := by kernel_rfl
theorem as_set (ta : Addr) (b : Nat) (x0 x1 x2 x3 : Value) (W W' : World) (hb : W.heap[b]? = some (.cells #[x0, x1, x2, x3] 70 (0, 0))) (hs : (storeVar 70 ta (.agg #[x0, x1, x2, x3])).run Tryz.prog W = .ok () W') :
    (ReflectliteValue.set #[vT' 70 ta 409, vT' 70 ⟨b, 0, none⟩ 153]).run Tryz.prog W = .ok (.tuple #[]) W' := by
  have hl : (loadVar 70 ⟨b, 0, none⟩).run Tryz.prog W = .ok (.agg #[x0, x1, x2, x3]) W := by
    simp [loadVar, isAgg, underlying, Tryz.underlying70, Result.andThen, as_size, loadCells, loadCellsFrom, World.cell?, hb, Addr.add]
  rw [as_rls]
  simp only [Sem.run_bind, as_partsA, as_partsT, Result.andThen]
  simp [ReflectliteValue.flagAddr, hl, Result.andThen, as_direct, hs]
theorem as_alive {w : World} {a : Addr} {v : Value} (h : w.cell? a = some v) : a.block < w.heap.size := by
  rcases Nat.lt_or_ge a.block w.heap.size with h1 | h1
  · exact h1
  · simp [World.cell?, Array.getElem?_eq_none h1] at h

set_option maxRecDepth 100000 in
set_option maxHeartbeats 4000000 in
theorem as_go (t a : Addr) (x0 x1 x2 x3 : Value) (w W' : World) (ha : w.cell? a = some (.pointer (some t)))
    (hs : (storeVar 70 t (.agg #[x0, x1, x2, x3])).run Tryz.prog ((w.alloc (.cells #[hT 75, .pointer (some a), .int .u64 150] 124)).alloc (.cells #[x0, x1, x2, x3] 70)) = .ok () W') :
    Calls Tryz.prog 83 #[.iface 70 (.agg #[x0, x1, x2, x3]), .iface 75 (.pointer (some t)), vT' 75 a 150, tT 70] w fun e w' => e = .returned (.bool true) ∧ w' = W' := by
  have h6 := @run_callFunc_extern Tryz.prog 80 _ (fun args => ReflectliteValue.unpack (args.getD 0 (.tuple #[]))) Tryz.func80 (by kernel_rfl) (by kernel_rfl) (by kernel_rfl) (by kernel_rfl)
  have h10 := @run_callFunc_extern Tryz.prog 113 _ ReflectliteType.typeOf Tryz.func113 (by kernel_rfl) (by kernel_rfl) (by kernel_rfl) (by kernel_rfl)
  have h35 := @run_callFunc_extern Tryz.prog 191 _ (ReflectliteType.relation "AssignableTo" ReflectliteType.assignableTo) Tryz.func191 (by kernel_rfl) (by kernel_rfl) (by kernel_rfl) (by kernel_rfl)
  have h11 := @run_callFunc_extern Tryz.prog 114 _ (ReflectliteValue.method (ReflectliteValue.valueError "reflectlite.Value.Elem" 0) ReflectliteValue.elem) Tryz.func114 (by kernel_rfl) (by kernel_rfl) (by kernel_rfl) (by kernel_rfl)
  have h12 := @run_callFunc_extern Tryz.prog 115 _ ReflectliteValue.set Tryz.func115 (by kernel_rfl) (by kernel_rfl) (by kernel_rfl) (by kernel_rfl)
  have tO := as_typeOf
  have mA := as_mAsg
  have aT := as_asg
  have vO := as_valueOfT
  have hal := as_alive ha
  have el := as_elemV a t (w.alloc (.cells #[hT 75, .pointer (some a), .int .u64 150] 124)) (by rw [World.cell?_alloc_lt _ _ a hal]; exact ha)
  have st := as_set t (w.heap.size + 1) x0 x1 x2 x3 _ W' (by rw [show ∀ o o' : Obj, ((w.alloc o).alloc o').heap = (w.heap.push o).push o' from fun _ _ => rfl, show w.heap.size + 1 = (w.heap.push _).size from (Array.size_push _).symm]; exact Array.getElem?_push_size) hs
  simp only [vT', tT, hT] at *
  go_enter Tryz.func83, Tryz.ntmps83
  go_wp2
  refine wp_loop_rounds 1 ?_
  rw [rounds_succ]
  go_wp2
  go_ret
  exact ⟨rfl, rfl⟩
set_option maxRecDepth 100000 in
set_option maxHeartbeats 4000000 in
theorem as_hit (t : Addr) (x0 x1 x2 x3 : Value) (w W' : World) (hg : w.cell? ⟨0, 0, none⟩ = some (tT 73))
    (hs : (storeVar 70 t (.agg #[x0, x1, x2, x3])).run Tryz.prog ((((w.alloc (.cells #[.pointer (some t)] 75)).alloc (.cells #[hT 75, .pointer (some ⟨w.heap.size, 0, none⟩), .int .u64 150] 124)).alloc (.cells #[hT 75, .pointer (some ⟨w.heap.size, 0, none⟩), .int .u64 150] 124)).alloc (.cells #[x0, x1, x2, x3] 70)) = .ok () W') :
    Calls Tryz.prog 47 #[.iface 70 (.agg #[x0, x1, x2, x3]), .iface 75 (.pointer (some t))] w fun e w' => e = .returned (.bool true) ∧ w' = W' := by
  have h6 := @run_callFunc_extern Tryz.prog 80 _ (fun args => ReflectliteValue.unpack (args.getD 0 (.tuple #[]))) Tryz.func80 (by kernel_rfl) (by kernel_rfl) (by kernel_rfl) (by kernel_rfl)
  have h7 := @run_callFunc_extern Tryz.prog 81 _ (ReflectliteValue.methodAny (ReflectliteValue.valueError "reflectlite.Value.Type" 0) (fun t _ _ _ => ReflectliteType.toType t)) Tryz.func81 (by kernel_rfl) (by kernel_rfl) (by kernel_rfl) (by kernel_rfl)
  have h8 := @run_callFunc_extern Tryz.prog 82 _ (ReflectliteValue.method (ReflectliteValue.valueError "reflectlite.Value.IsNil" 0) ReflectliteValue.isNil) Tryz.func82 (by kernel_rfl) (by kernel_rfl) (by kernel_rfl) (by kernel_rfl)
  have h27 := @run_callFunc_extern Tryz.prog 163 _ (ReflectliteType.abiMethod fun t => do pure (.int .u8 (← Rtype.kind t))) Tryz.func163 (by kernel_rfl) (by kernel_rfl) (by kernel_rfl) (by kernel_rfl)
  have h37 := @run_callFunc_extern Tryz.prog 193 _ (ReflectliteType.method ReflectliteType.elem) Tryz.func193 (by kernel_rfl) (by kernel_rfl) (by kernel_rfl) (by kernel_rfl)
  have h38 := @run_callFunc_extern Tryz.prog 194 _ (ReflectliteType.relation "Implements" ReflectliteType.implements_) Tryz.func194 (by kernel_rfl) (by kernel_rfl) (by kernel_rfl) (by kernel_rfl)
  have f6 := as_valueOfP
  have f7 := as_type
  have mK := as_mKind
  have mE := as_mElem
  have mI := as_mImpl
  have k27 := as_kindP
  have k25 := as_kindT
  have e27 := as_elem
  have i25 := as_impl
  have hlt : 0 < w.heap.size := as_alive hg
  have hp : ∀ o, ((w.alloc (.cells #[.pointer (some t)] 75)).alloc o).cell? ⟨w.heap.size, 0, none⟩ = some (.pointer (some t)) := fun o => by
    rw [World.cell?_alloc_lt _ _ ⟨w.heap.size, 0, none⟩ (by simp)]; simp
  have n8 := as_isNil ⟨w.heap.size, 0, none⟩ t ((w.alloc (.cells #[.pointer (some t)] 75)).alloc (.cells #[hT 75, .pointer (some ⟨w.heap.size, 0, none⟩), .int .u64 150] 124)) (hp _)
  have hg2 : ((w.alloc (.cells #[.pointer (some t)] 75)).alloc (.cells #[hT 75, .pointer (some ⟨w.heap.size, 0, none⟩), .int .u64 150] 124)).cell? ⟨0, 0, none⟩ = some (tT 73) := by
    rw [World.cell?_alloc_lt _ _ ⟨0, 0, none⟩ (by simp), World.cell?_alloc_lt _ _ ⟨0, 0, none⟩ hlt]; exact hg
  have go := as_go t ⟨w.heap.size, 0, none⟩ x0 x1 x2 x3 _ W' (hp _) hs
  clear hs
  simp only [vT', tT, hT] at *
  go_enter Tryz.func47, Tryz.ntmps47
  go_wp2_with (go_at_call 83; refine go.mono ?_; rintro e w' ⟨rfl, rfl⟩)
  go_ret
  exact ⟨rfl, rfl⟩

theorem hrel_skip {G : Ghost} {A : List Box} {w w' : World} {base : Nat} (h : HRel G A w base) (hk : Kept (fun _ => False) w w') : HRel G A w' base ∧ Ext G w G w' := by
  have e : Ext G w G w' := ⟨Nat.le_refl _, fun _ _ x => x, fun x o hx => cell?_congr (hk.block x (h.imm x o hx) (fun f => f)) o, fun _ _ => ⟨rfl, rfl, rfl, rfl, rfl⟩, fun x o hx f => hk.fz (h.imm x o hx) (fun f => f) f⟩
  exact ⟨⟨h.n, fun i hi => (h.box i hi).mono e (by rw [h.n]; exact hi) (fun hl => hk.block _ (h.bnd i hi hl).2 (fun f => f)) (fun _ _ x => x), h.sep, fun i hi hl => ⟨(h.bnd i hi hl).1, Nat.lt_of_lt_of_le (h.bnd i hi hl).2 hk.size⟩, fun b o x => Nat.lt_of_lt_of_le (h.imm b o x) hk.size, Nat.le_trans h.low hk.size, h.gv.block fun b hb => hk.block b (by have := h.low; omega) (fun f => f)⟩, e⟩
theorem hrel_skip1 {G : Ghost} {A : List Box} {w : World} {base : Nat} (h : HRel G A w base) (o : Obj) : HRel G A (w.alloc o) base ∧ Ext G w G (w.alloc o) ∧ Below base w (w.alloc o) :=
  have k := hrel_skip h (kept_alloc (w := w) (o := o))
  ⟨k.1, k.2, kept_alloc.below (fun _ f => f.elim) h.low⟩

set_option maxRecDepth 100000 in
theorem As_hit (A : List Box) (i : Nat) (y0 y1 y2 y3 : AV) (us : List AV) (hi : i < A.length) (hb : A.getD i .dead = .cells us) (hu : us.length = 4) :
    ACalls Tryz.prog 47 [.iface 70 (.agg [y0, y1, y2, y3]), .ifp 75 i 0] A (fun r A' => r = .bool true ∧ A' = A.set i (.cells [y0, y1, y2, y3])) := by
  intro G w base xs h hx
  obtain ⟨x, y, hxy, h1, h2⟩ := RL.two hx
  obtain ⟨xs⟩ := xs
  simp only at hxy
  subst hxy
  cases h1 with
  | iface _ _ x hv h1 =>
  cases h2 with
  | ifp _ _ _ hin =>
  have h1' := h1
  cases h1 with
  | agg _ x hs hc h1 =>
  obtain ⟨x⟩ := x
  match x, hs with
  | [x0, x1, x2, x3], _ =>
  have hg := (h.gv _ rfl).2
  obtain ⟨k1, e1, b1⟩ := hrel_skip1 h (.cells #[.pointer (some ⟨G.blk i, 0, none⟩)] 75)
  obtain ⟨k2, e2, b2⟩ := hrel_skip1 k1 (.cells #[hT 75, .pointer (some ⟨w.heap.size, 0, none⟩), .int .u64 150] 124)
  obtain ⟨k3, e3, b3⟩ := hrel_skip1 k2 (.cells #[hT 75, .pointer (some ⟨w.heap.size, 0, none⟩), .int .u64 150] 124)
  obtain ⟨k4, e4, b4⟩ := hrel_skip1 k3 (.cells #[x0, x1, x2, x3] 70)
  have e := (((e1.trans e2).trans e3).trans e4)
  obtain ⟨w', G', q1, q2, q3, q4⟩ := store_ok (A := A) (A' := A.set i (.cells [y0, y1, y2, y3])) (p := .ptr i 0) (c := 0 + 4 ≤ us.length) ti70 (vs := [y0, y1, y2, y3]) (v := .agg [y0, y1, y2, y3]) (y := .agg #[x0, x1, x2, x3]) rfl rfl (by simp only [storeA, hb]; simp [hu, List.drop_eq_nil_of_le (Nat.le_of_eq hu)]) (by omega) k4 (.ptr i 0 hin) (h1'.mono e)
  refine (as_hit ⟨G.blk i, 0, none⟩ x0 x1 x2 x3 w w' hg q1).mono ?_
  rintro ev w'' ⟨rfl, rfl⟩
  exact ⟨_, _, _, G', rfl, ⟨rfl, rfl⟩, .bool true, q2, e.trans q3, (((b1.trans b2).trans b3).trans b4).trans q4⟩
theorem As_nil (A : List Box) (v : AV) : ACalls Tryz.prog 47 [.nili, v] A (fun r A' => r = .bool false ∧ A' = A) := by
  intro G w base xs h hx
  obtain ⟨x, y, hxy, h1, h2⟩ := RL.two hx
  obtain ⟨xs⟩ := xs
  simp only at hxy
  subst hxy
  cases h1
  have : Calls Tryz.prog 47 #[.nilIface, y] w fun e w' => e = .returned (.bool false) ∧ w' = w := by
    go_enter Tryz.func47, Tryz.ntmps47
    go_wp2
    go_ret
    exact ⟨rfl, rfl⟩
  refine this.mono ?_
  rintro ev w'' ⟨rfl, rfl⟩
  exact ⟨_, _, A, G, rfl, ⟨rfl, rfl⟩, .bool false, h, Ext.refl _ _, Below.refl _ _⟩
end Go.Proofs.YtkajklfohjcofaaGreatDoor
