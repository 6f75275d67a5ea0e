/- StrMt. -/
import Derived.Test.YtkajklfohjcofaaGreatDoorK16
/- What a strengthened signature matches, as data. -/
set_option linter.unusedVariables false
set_option linter.unusedSimpArgs false
namespace Go.Proofs.YtkajklfohjcofaaGreatDoor
open Go.Abs

def strF (mod : List UInt8) (F : List (BNm × VT)) : VI → VI
  | .ab n => .al n (.nm mod n)
  | .al n v => .al n (subV F v)
  | .va n v => .va n (subV F v)
theorem viK_strF (mod : List UInt8) (F : List (BNm × VT)) (y : VI) : viK (strF mod F y) = viK y := by cases y <;> rfl
theorem sub_size {F : List (BNm × VT)} (hF : ∀ x ∈ F, ∃ m n, x.2 = .nm m n) : ∀ v, dep (subV F v) = dep v ∧ cnt (subV F v) = cnt v
  | .num => ⟨rfl, rfl⟩
  | .nm a b => by
    rw [subV]
    cases hl : lookB (a, b) F with
    | none => exact ⟨rfl, rfl⟩
    | some w =>
      obtain ⟨m, n, h⟩ := hF _ (lookB_in hl)
      have h : w = .nm m n := h
      rw [h]; exact ⟨rfl, rfl⟩
  | .fn a b => by
    obtain ⟨a1, a2⟩ := sub_size hF a
    obtain ⟨b1, b2⟩ := sub_size hF b
    simp only [subV, dep, cnt, a1, a2, b1, b2, and_self]
theorem strB_nm {mod : List UInt8} {ys : List VI} : ∀ x ∈ strB mod ys, ∃ m n, x.2 = .nm m n := fun x hx => ⟨_, _, (strB_mod x hx).2⟩
/-- the normal form of a strengthened signature -/
theorem rdN_str {s : List SigI} {mod : List UInt8} {ys hs : List VI} (h8 : s.length ≤ 8) (hr : ReadsTo s ys) (ho : ordB ys = true) (hm : moduleB mod = true) (hn : RdN s (some hs)) :
    RdN ((ys.map (strI mod)).map siOf) (some (hs.map (strF mod (strB mod ys)))) := by
  obtain ⟨ys', h8', hr', ho', hn'⟩ := hn
  have e := readsTo_one hr' hr
  subst e
  obtain ⟨hf, rfl⟩ := normL_fit hn'
  have key : ∀ i, i < ys'.length → subI (nxtL ((ys'.map (strI mod)).take i)) ((ys'.map (strI mod)).getD i vi0) = strF mod (strB mod ys') ((zsN ys' ys'.length).getD i vi0) := fun i hi => by
    rw [zsN_getD ys' hi, strI_getD mod hi, nxt_str (moduleB_ne hm) ho i (by omega)]
    have hs := stepOf ho hi
    simp only [stepB, Bool.and_eq_true] at hs
    have hsub := okN_sub (mod := mod) (ys := ys') (i := i) (by omega)
    have hmod : ∀ x ∈ (nxtL (ys'.take i)).map (fun x => (x.1, subV (strB mod ys') x.2)), x.1.1 = [] := fun x hx => by
      obtain ⟨z, hz, rfl⟩ := List.mem_map.1 hx
      exact nxt_mod ys' i (by omega) z hz
    generalize ys'.getD i vi0 = y at *
    cases y with
    | ab n =>
      simp only [strI, subI, strF]
      rw [subV, look_mod hmod (moduleB_ne hm)]; rfl
    | al n v =>
      simp only [allI] at hs
      simp only [strI, subI, strF, sub_sub hsub hs.1]
    | va n v =>
      simp only [allI] at hs
      simp only [strI, subI, strF, sub_sub hsub hs.1]
  have hfit : fitL (ys'.map (strI mod)) := fun i hi => by
    rw [List.length_map] at hi
    rw [key i hi]
    have h1 := hf i hi
    rw [zsN_getD ys' hi]
    generalize subI (nxtL (ys'.take i)) (ys'.getD i vi0) = y at *
    cases y with
    | ab n => simp [strF, fitI, meanI, dep, cnt]
    | al n v => obtain ⟨a1, a2⟩ := sub_size (F := strB mod ys') strB_nm v; simp only [fitI, meanI] at h1; simp only [strF, fitI, meanI, a1, a2]; exact h1
    | va n v => obtain ⟨a1, a2⟩ := sub_size (F := strB mod ys') strB_nm v; simp only [fitI, meanI] at h1; simp only [strF, fitI, meanI, a1, a2]; exact h1
  refine ⟨ys'.map (strI mod), by simp [hr.1]; exact h8, str_reads hm hr, ordB_str hm ho, ?_⟩
  rw [normL_yes hfit]
  congr 1
  refine vi_ext (by simp [zsN_length]) fun i hi => ?_
  simp only [zsN_length, List.length_map] at hi
  rw [List.length_map, zsN_getD _ hi, key i hi]
  simp [List.getD, zsN_length, hi]

theorem offC_iff {hs ws : List VI} : offC hs [] ws 0 = none ↔ ∀ k, k < ws.length → visC hs (knownB hs (ws.take k)) (ws.getD k vi0) = 0 := by
  constructor
  · intro h k
    induction k using Nat.strongRecOn with
    | _ k ih =>
      intro hk
      have h2 := offC_from hs ws _ k rfl (by omega) fun j hj => ih j hj (by omega)
      rw [h, vi_drop hk, offC] at h2
      by_cases hc : visC hs (knownB hs (ws.take k)) (ws.getD k vi0) = 0
      · exact hc
      · rw [if_neg hc] at h2; cases h2
  · intro h
    rw [offC_from hs ws _ ws.length rfl (Nat.le_refl _) fun k hk => h k hk, List.drop_length, offC]
/-- a strengthened signature offers what the signature offers -/
theorem offC_str {mod : List UInt8} {F : List (BNm × VT)} {hs ws : List VI} (hab : ∀ n, VI.ab n ∈ hs → lookB ([], n) F = some (.nm mod n)) (hFm : ∀ x ∈ F, x.1.1 = []) (hok : ∀ i, i < ws.length → allI (okA (ws.take i)) (ws.getD i vi0) = true) (h : offC hs [] ws 0 = none) : offC (hs.map (strF mod F)) [] ws 0 = none := by
  have hfind : ∀ (l : List VI), (∀ n, VI.ab n ∈ l → lookB ([], n) F = some (.nm mod n)) → ∀ q, findF (l.map (strF mod F)) q = (findF l q).map (subV F) := by
    intro l
    induction l with
    | nil => intro _ q; rfl
    | cons y l ih =>
      intro hl q
      have ih := ih (fun n hn => hl n (by simp [hn])) q
      simp only [List.map_cons, findF, viK_strF, ih]
      split
      · have hm : meanI (strF mod F y) = subV F (meanI y) := by
          cases y with
          | ab n => simp only [strF, meanI, subV]; rw [hl n (by simp)]; rfl
          | al n v => rfl
          | va n v => rfl
        rw [hm]; rfl
      · rfl
  have hfind := hfind hs hab
  have hkn : ∀ a : List VI, knownB (hs.map (strF mod F)) a = (knownB hs a).map fun x => (x.1, subV F x.2) := by
    intro a
    induction a with
    | nil => rfl
    | cons y a ih =>
      cases y with
      | ab n =>
        simp only [knownB, hfind, ih]
        cases findF hs (false, n) <;> rfl
      | al n v => simp only [knownB, ih]
      | va n v => simp only [knownB, ih]
  rw [offC_iff] at h ⊢
  intro k hk
  have hv := h k hk
  have hokk := hok k hk
  have hsub : ∀ p, okA (ws.take k) p = true → lookB p (knownB hs (ws.take k)) ≠ none ∨ lookB p F = none := fun p hp => by
    obtain ⟨m, n⟩ := p
    by_cases hm : m = []
    · subst hm
      simp only [okA, decide_true, Bool.not_true, Bool.false_or] at hp
      have hmem := any_mem hp
      left
      have key : ∀ a : List VI, (∀ y ∈ a, findF hs (viK y) ≠ none) → VI.ab n ∈ a → lookB ([], n) (knownB hs a) ≠ none := by
        intro a
        induction a with
        | nil => intro _ h; simp at h
        | cons y a ih =>
          intro hall hm
          have hy := hall y (by simp)
          have ih := ih fun z hz => hall z (by simp [hz])
          cases y with
          | ab n' =>
            simp only [knownB]
            cases hf : findF hs (false, n') with
            | none => exact absurd hf hy
            | some f =>
              simp only [lookB]
              split
              · simp
              · rename_i hne
                refine ih ?_
                rcases List.mem_cons.1 hm with e | h
                · cases e; exact absurd rfl hne
                · exact h
          | al n' v => exact ih (by simpa using hm)
          | va n' v => exact ih (by simpa using hm)
      refine key _ (fun y hy hf => ?_) hmem
      obtain ⟨j, hj, hjl, rfl⟩ := take_mem hy
      have h2 := h j hjl
      unfold visC at h2
      rw [hf] at h2
      cases h2
    · exact .inr (look_mod hFm hm)
  rw [hkn]
  unfold visC at hv ⊢
  rw [hfind]
  cases hf : findF hs (viK (ws.getD k vi0)) with
  | none => rw [hf] at hv; simp at hv
  | some f =>
    rw [hf] at hv
    cases hy : ws.getD k vi0 with
    | ab n => rfl
    | al n v =>
      rw [hy] at hv hokk
      have e : subV (knownB hs (ws.take k)) v = f := by
        by_cases h1 : subV (knownB hs (ws.take k)) v = f
        · exact h1
        · simp only [if_neg h1] at hv; revert hv; split <;> simp
      simp only [Option.map_some, sub_sub hsub hokk, e, if_true]
    | va n v =>
      rw [hy] at hv hokk
      have e : subV (knownB hs (ws.take k)) v = f := by
        by_cases h1 : subV (knownB hs (ws.take k)) v = f
        · exact h1
        · simp only [if_neg h1] at hv; revert hv; split <;> simp
      simp only [Option.map_some, sub_sub hsub hokk, e, if_true]
/-- what matches a signature matches it when it is strengthened -/
theorem mt_str {a b : List SigI} {mod : List UInt8} {zs : List VI} {p : Nat × Bool} (h : MtIs a b 0 p) (hS : RdS a mod (some zs)) : (∃ q, MtIs (zs.map siOf) b 0 q) ∧ ∃ q, MtIs (zs.map siOf) a 0 q := by
  rcases h with ⟨hs, ws, h1, h2, h3, h4⟩ | ⟨_, _, h3⟩
  · obtain ⟨ys, h8, hr, ho, hm, rfl⟩ := hS
    have hn := rdN_str h8 hr ho hm h1
    have hoff : offC hs [] ws 0 = none := by
      cases hq : offC hs [] ws 0 with
      | none => rfl
      | some x =>
        have := offC_code hs ws [] 0 x hq
        rw [hq] at h3
        simp only [mcO] at h3
        omega
    have hab : ∀ n, VI.ab n ∈ hs → lookB ([], n) (strB mod ys) = some (.nm mod n) := fun n hn' => by
      refine strB_look ?_
      obtain ⟨ys', h8', hr', ho', hn2⟩ := h1
      have e := readsTo_one hr' hr
      subst e
      obtain ⟨hf, rfl⟩ := normL_fit hn2
      obtain ⟨i, hi, he⟩ := List.mem_iff_getElem.1 hn'
      rw [zsN_length] at hi
      have e2 : (zsN ys' ys'.length).getD i vi0 = .ab n := by rw [← he]; simp [List.getD, zsN_length, hi]
      rw [zsN_getD ys' hi] at e2
      have e3 : ys'.getD i vi0 = .ab n := by
        generalize ys'.getD i vi0 = y at e2
        cases y with
        | ab m => exact e2
        | al m v => cases e2
        | va m v => cases e2
      rw [← e3]
      simp [List.getD, hi]
    have hFm : ∀ x ∈ strB mod ys, x.1.1 = [] := fun x hx => (strB_mod x hx).1
    have c1 := offC_str (ws := ws) hab hFm (zs_okA h2) hoff
    have c2 := offC_str (ws := hs) hab hFm (zs_okA h1) (offC_self (rdN_ordB h1))
    exact ⟨⟨_, .inl ⟨_, ws, hn, h2, by rw [c1]; rfl, rfl⟩⟩, ⟨_, .inl ⟨_, hs, hn, h1, by rw [c2]; rfl, rfl⟩⟩⟩
  · exfalso; revert h3; split <;> omega
end Go.Proofs.YtkajklfohjcofaaGreatDoor
