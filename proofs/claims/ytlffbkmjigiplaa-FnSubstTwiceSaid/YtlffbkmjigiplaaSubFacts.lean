/- Facts on substitutions. -/
import Derived.Test.YtlffbkmjigiplaaDrawSub
import Derived.Test.YtlffbkmjigiplaaSubOutS
import Derived.Test.YtlffbkmjigiplaaTyNames
import Derived.Test.YtlffbkmjigiplaaSameA2
import Derived.Test.YtlffbkmjigiplaaOkSz
import Derived.Test.YtlffbkmjigiplaaFrk
import Derived.Test.YtlffbkmjigiplaaAbsW3
set_option linter.unusedVariables false
set_option linter.unusedSimpArgs false
namespace Go.Proofs.Ytlffbkmjigiplaa
open Go.Abs Go.RowKit Go.ChangeShapes Go.WideShapes Go.ChangeAt Go.ChangeMaps

theorem subV_nil : ∀ v, subV [] v = v
  | .num => rfl
  | .nm m n => by simp [subV, lookB]
  | .fn a b => by rw [subV, subV_nil a, subV_nil b]
theorem addN_ne {ns : List Nm} {p : Nm} : addN ns p ≠ [] := by
  unfold addN
  split
  · rename_i h; intro e; rw [e] at h; simp at h
  · simp
theorem nmsV_mono : ∀ (v : VT) {ns : List Nm}, ns ≠ [] → nmsV ns v ≠ []
  | .num, ns, h => h
  | .nm m k, ns, h => addN_ne
  | .fn a b, ns, h => nmsV_mono b (nmsV_mono a h)
theorem subV_plain (m : List (BNm × VT)) : ∀ (v : VT), nmsV [] v = [] → subV m v = v
  | .num, _ => rfl
  | .nm a b, h => absurd h addN_ne
  | .fn a b, h => by
    have ha : nmsV [] a = [] := by
      rcases Classical.em (nmsV [] a = []) with e | e
      · exact e
      · exact absurd h (nmsV_mono b e)
    rw [nmsV, ha] at h
    rw [subV, subV_plain m a ha, subV_plain m b h]
theorem okV_fit {v : VT} (h : VOk v) : dep v ≤ 8 ∧ cnt v ≤ 63 := ⟨h.dep, h.cnt⟩
theorem subIs_none {v : VT} (hv : VOk v) : SubIs (toTy v) [] (some v) :=
  .inl ⟨v, [], rfl, hv, rfl, by simp, by have e : subV (foldB []) v = v := subV_nil v; simp only [e]; rw [if_pos (okV_fit hv)]⟩
theorem subIs_plain {v w : VT} {bs : List BdI} (hv : VOk v) (h : SubIs (toTy v) bs (some w)) (hn : nmsV [] v = []) : w = v := by
  rcases h with ⟨v', bd, e, hv', rfl, hok, h⟩ | ⟨_, h⟩
  · rw [← toTy_injS e, subV_plain _ _ hn, if_pos (okV_fit hv)] at h
    exact Option.some.inj h
  · cases h
theorem bds_ok {l : List BdI} (h : ∀ b ∈ l, BdS b) : ∀ b ∈ l, b.Ok ∧ szB b ≤ 1048576 := fun b hb => by
  have := h b hb
  rw [BdS, szB] at this
  exact ⟨⟨by omega, by omega, okSz _ (by omega)⟩, by rw [szB]; omega⟩
theorem subIs_valid {τ : Ty} {bs : List BdI} {w : VT} (h : SubIs τ bs (some w)) : ∃ v, τ = toTy v ∧ VOk v := by
  rcases h with ⟨v', bd, e, hv', rfl, hok, h⟩ | ⟨_, h⟩
  · exact ⟨v', e, hv'⟩
  · cases h
theorem sz_oTyS {τ : Ty} {bs : List BdI} {o : Option VT} (h : SubIs τ bs o) : sz (oTyS o) ≤ 126 := by
  cases o with
  | none => simp [oTyS, ty0, sz, szs]
  | some w =>
    have hw := subIs_some h
    have := sz_toTyS w hw.ok
    have := hw.cnt
    rw [oTyS]; omega

def lookOk (m : List (BNm × VT)) (q : Nm) : Bool := match lookB q m with
  | none => true
  | some (.nm a b) => decide (a = q.1) && decide (b = q.2)
  | _ => false
theorem lookOk_of {m : List (BNm × VT)} {q : Nm} (h : lookB q m = none ∨ lookB q m = some (.nm q.1 q.2)) : lookOk m q = true := by
  rcases h with h | h <;> simp [lookOk, h]
theorem sub_id (m : List (BNm × VT)) : ∀ v, allV (lookOk m) v = true → subV m v = v
  | .num, _ => rfl
  | .nm a b, h => by
    simp only [allV, lookOk] at h
    rw [subV]
    generalize lookB (a, b) m = q at *
    rcases q with _ | (_ | ⟨c, d⟩ | ⟨c, d⟩)
    · rfl
    · simp at h
    · simp at h
    · simp at h; simp [h.1, h.2]
  | .fn a b, h => by
    simp only [allV, Bool.and_eq_true] at h
    rw [subV, sub_id m a h.1, sub_id m b h.2]
theorem names_allV {v : VT} {p : Nm → Bool} (h : ∀ q ∈ nmsV [] v, p q = true) : allV p v = true := by
  have h1 := nmsV_all p v []
  rw [List.all_nil, Bool.true_and] at h1
  rw [← h1, List.all_eq_true]; exact h
theorem allV_names {v : VT} {p : Nm → Bool} (h : allV p v = true) : ∀ q ∈ nmsV [] v, p q = true := by
  have h1 := nmsV_all p v []
  rw [List.all_nil, Bool.true_and] at h1
  rw [← h1, List.all_eq_true] at h; exact h
theorem okV_names : ∀ v, okV v = true → allV (fun q => nmB q.1 q.2) v = true
  | .num, _ => rfl
  | .nm a b, h => h
  | .fn a b, h => by
    simp only [okV, Bool.and_eq_true] at h
    simp only [allV, Bool.and_eq_true]
    exact ⟨okV_names a h.1, okV_names b h.2⟩
/-- the names of a type, bound to themselves -/
def selfs (ns : List Nm) : List (BNm × VT) := ns.map fun p => (p, .nm p.1 p.2)
theorem selfs_snoc (ns : List Nm) (p : Nm) : bEs ((selfs ns).map ofB) ++ [[.str p.1, .str p.2, .int .i64 3, .str p.1, .str p.2, .slice []]] = bEs ((selfs (ns ++ [p])).map ofB) := by
  simp [selfs, bEs, bE, ofB, toTy, Ty.kind, Ty.mod, Ty.name, Ty.kids, encs]
theorem look_selfs (q : BNm) : ∀ ns, lookB q (selfs ns) = none ∨ lookB q (selfs ns) = some (.nm q.1 q.2)
  | [] => .inl rfl
  | p :: ns => by
    rw [selfs, List.map_cons, lookB]
    by_cases e : q = p
    · rw [if_pos e, e]; exact .inr rfl
    · rw [if_neg e]; exact look_selfs q ns
theorem okQ_selfs {v : VT} (hv : VOk v) : ∀ q ∈ selfs (nmsV [] v), okQ q := fun q hq => by
  obtain ⟨p, hp, rfl⟩ := List.mem_map.1 hq
  have h := allV_names (okV_names v hv.ok) p hp
  exact ⟨⟨h, by simp [dep], by simp [cnt]⟩, h⟩
theorem subIs_self {v : VT} (hv : VOk v) : SubIs (toTy v) ((selfs (nmsV [] v)).map ofB) (some v) := by
  refine .inl ⟨v, _, rfl, hv, rfl, okQ_selfs hv, ?_⟩
  have e : subV (foldB (selfs (nmsV [] v))) v = v := sub_id _ _ (names_allV fun q _ => by
    refine lookOk_of ?_
    rw [lookB_foldB]; exact look_selfs q _)
  simp only [e]
  rw [if_pos (okV_fit hv)]
/-- no name of the type is bound -/
theorem subIs_apart {v w : VT} {bs : List BdI} (hv : VOk v) (h : SubIs (toTy v) bs (some w)) (hn : ∀ p ∈ nmsV [] v, ∀ b ∈ bs, ¬ (b.mod = p.1 ∧ b.name = p.2)) : w = v := by
  rcases h with ⟨v', bd, e, hv', rfl, hok, h⟩ | ⟨_, h⟩
  · have e2 : subV (foldB bd) v = v := sub_id _ _ (names_allV fun q hq => by
      refine lookOk_of (.inl ?_)
      rw [lookB_foldB]
      have hq2 := fun b hb => hn q hq b hb
      clear h hn hok
      induction bd with
      | nil => rfl
      | cons x bd ih =>
        obtain ⟨y, u⟩ := x
        rw [lookB, if_neg]
        · exact ih fun b hb => hq2 b (by simp only [List.map_cons, List.mem_cons]; exact .inr hb)
        · intro e; subst e
          exact hq2 (ofB (q, u)) (by simp) ⟨rfl, rfl⟩)
    rw [← toTy_injS e] at h
    simp only [e2] at h
    rw [if_pos (okV_fit hv)] at h
    exact Option.some.inj h
  · cases h
end Go.Proofs.Ytlffbkmjigiplaa
