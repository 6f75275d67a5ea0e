/- The model's SubstType answers as the program's. -/
import Derived.Test.YtapkacochknndaaGreatSubS
import Derived.Test.YtapkacochknndaaGreatAbsW3
set_option linter.unusedVariables false
set_option linter.unusedSimpArgs false
namespace Go.Proofs.YtapkacochknndaaGreat
open Go.Abs

theorem toTy_injS : ∀ {v v' : VT}, toTy v = toTy v' → v = v'
  | .num, .num, _ => rfl
  | .num, .nm _ _, h => by simp [toTy] at h
  | .num, .fn _ _, h => by simp [toTy] at h
  | .nm _ _, .num, h => by simp [toTy] at h
  | .nm _ _, .fn _ _, h => by simp [toTy] at h
  | .fn _ _, .num, h => by simp [toTy] at h
  | .fn _ _, .nm _ _, h => by simp [toTy] at h
  | .nm m n, .nm m' n', h => by simp [toTy] at h; rw [h.1, h.2]
  | .fn a b, .fn a' b', h => by
    simp [toTy] at h
    rw [toTy_injS h.1, toTy_injS h.2]
theorem validB_sub {w : VT} (h : okV w = true) : validB (toTy w) = (decide (dep w ≤ 8) && decide (cnt w ≤ 63)) := by
  rw [Bool.eq_iff_iff]
  simp only [Bool.and_eq_true, decide_eq_true_eq]
  constructor
  · intro hv
    obtain ⟨v, e, hv⟩ := validB_of hv
    rw [toTy_injS e]
    exact ⟨hv.dep, hv.cnt⟩
  · exact fun hd => validB_toTy ⟨h, hd.1, hd.2⟩
theorem validB_name (m n : List UInt8) : validB (.mk 3 m n []) = nmB m n := by
  have e : Ty.mk 3 m n [] = toTy (.nm m n) := rfl
  rw [e, Bool.eq_iff_iff]
  constructor
  · intro hv
    obtain ⟨v, e, hv⟩ := validB_of hv
    have := hv.ok
    rw [← toTy_injS e] at this
    exact this
  · exact fun h => validB_toTy ⟨h, by simp [dep], by simp [cnt]⟩
theorem lookB_add (p q : BNm) (v : VT) (m : List (BNm × VT)) : lookB p (addB m q v) = (lookB p m).or (if p = q then some v else none) := by
  have happ : ∀ m : List (BNm × VT), lookB p (m ++ [(q, v)]) = (lookB p m).or (if p = q then some v else none) := by
    intro m
    induction m with
    | nil => simp [lookB]
    | cons x m ih =>
      obtain ⟨r, w⟩ := x
      simp only [List.cons_append, lookB]
      by_cases e : p = r
      · simp [e]
      · simp [e, ih]
  unfold addB
  rcases hl : lookB q m with _ | w
  · exact happ m
  · by_cases e : p = q
    · subst e; simp [hl]
    · simp [e]
theorem lookB_fold (p : BNm) : ∀ (l m : List (BNm × VT)), lookB p (l.foldl (fun m q => addB m q.1 q.2) m) = (lookB p m).or (lookB p l)
  | [], m => by simp [lookB]
  | (q, v) :: l, m => by
    rw [List.foldl_cons, lookB_fold p l, lookB_add]
    simp only [lookB]
    by_cases e : p = q
    · subst e; simp
    · simp [e]
theorem lookB_foldB (p : BNm) (bd : List (BNm × VT)) : lookB p (foldB bd) = lookB p bd := by
  rw [foldB, lookB_fold]; simp [lookB]
theorem lookT_eq (m n : List UInt8) (t : Ty) : ∀ bd : List (BNm × VT), lookT m n t (bd.map ofB) = ((lookB (m, n) bd).map toTy).getD t
  | [] => rfl
  | ((a, b), v) :: bd => by
    simp only [List.map_cons, lookT, lookB, ofB]
    by_cases h : a = m ∧ b = n
    · obtain ⟨rfl, rfl⟩ := h; simp
    · have h2 : ¬ (m, n) = (a, b) := fun e => h (by cases e; exact ⟨rfl, rfl⟩)
      rw [if_neg h, if_neg h2]
      exact lookT_eq m n t bd
theorem subT_eq (bd : List (BNm × VT)) : ∀ v, subT (bd.map ofB) (toTy v) = toTy (subV (foldB bd) v)
  | .num => by simp [toTy, subT, subTs, subV]
  | .nm m n => by
    simp only [toTy, subT, if_true, subV, lookB_foldB, lookT_eq]
    cases lookB (m, n) bd <;> simp [toTy]
  | .fn a b => by simp [toTy, subT, subTs, subV, subT_eq bd a, subT_eq bd b]
theorem sz_toTyS : ∀ v, okV v = true → sz (toTy v) ≤ 2 * cnt v
  | .num, _ => by simp [toTy, sz, szs, cnt]
  | .nm m n, h => by
    simp only [okV, nmB, Bool.and_eq_true, Bool.or_eq_true, decide_eq_true_eq] at h
    have h1 : n.length = 1 := by have := h.2; simp only [localB, Bool.and_eq_true, beq_iff_eq] at this; exact this.1
    have h2 : m.length ≤ 1 := by
      rcases h.1 with rfl | h
      · simp
      · simp only [moduleB, Bool.and_eq_true, beq_iff_eq] at h; omega
    simp only [toTy, sz, szs, cnt, List.length_nil]; omega
  | .fn a b, h => by
    simp only [okV, Bool.and_eq_true] at h
    have ha := sz_toTyS a h.1
    have hb := sz_toTyS b h.2
    simp only [toTy, sz, szs, cnt, List.length_nil, List.length_cons]; omega
def okB (b : BdI) : Bool := validB b.typ && nmB b.mod b.name
theorem okB_all : ∀ {bs : List BdI}, bs.all okB = true → ∃ bd : List (BNm × VT), bs = bd.map ofB ∧ ∀ q ∈ bd, okQ q
  | [], _ => ⟨[], rfl, by simp⟩
  | b :: bs, h => by
    simp only [List.all_cons, Bool.and_eq_true] at h
    obtain ⟨bd, rfl, hb⟩ := okB_all h.2
    have h1 := h.1
    simp only [okB, Bool.and_eq_true] at h1
    obtain ⟨v, hv, ho⟩ := validB_of h1.1
    obtain ⟨m, n, t⟩ := b
    have hv' : t = toTy v := hv
    subst hv'
    refine ⟨((m, n), v) :: bd, rfl, fun q hq => ?_⟩
    rcases List.mem_cons.1 hq with rfl | hq
    · exact ⟨ho, h1.2⟩
    · exact hb q hq
theorem okB_bad : ∀ {bs : List BdI}, bs.all okB = false → ∃ b ∈ bs, badB b
  | [], h => by simp at h
  | b :: bs, h => by
    simp only [List.all_cons, Bool.and_eq_false_iff] at h
    rcases h with h | h
    · simp only [okB, Bool.and_eq_false_iff] at h
      exact ⟨b, by simp, h⟩
    · obtain ⟨x, hx, hb⟩ := okB_bad h
      exact ⟨x, by simp [hx], hb⟩

set_option maxRecDepth 100000 in
theorem spec_l1Name0 (m n : List UInt8) (A : List Box) : ACalls Tryz.prog 113 [.str m, .str n] A (fun r A' => r = .agg (enc (.mk 3 m n [])) ∧ A' = A) := by
  rw [enc, encs]
  refine acalls_enter (cf := cf 8 [0, 1, 4]) foll Tryz.func113 Tryz.ntmps113 (by simp [cf]) ?_
  simp only [Tryz.f113, EnterK_some, zW, zX, zD, builtinA, isLeaf, const1, ustrA, simprocAttr, ti57, cf, Tryz.results113]


theorem ok_toTyS : ∀ v, okV v = true → (toTy v).Ok
  | .num, _ => .mk (by simp) (by simp) (by simp) (by simp)
  | .nm m n, h => by
    simp only [okV, nmB, Bool.and_eq_true, Bool.or_eq_true, decide_eq_true_eq] at h
    have h1 : n.length = 1 := by have := h.2; simp only [localB, Bool.and_eq_true, beq_iff_eq] at this; exact this.1
    have h2 : m.length ≤ 1 := by
      rcases h.1 with rfl | h
      · simp
      · simp only [moduleB, Bool.and_eq_true, beq_iff_eq] at h; omega
    exact .mk (by omega) (by omega) (by simp) (by simp)
  | .fn a b, h => by
    simp [okV] at h
    refine .mk (by simp) (by simp) (by simp) fun t ht => ?_
    simp at ht
    rcases ht with rfl | rfl
    · exact ok_toTyS a h.1
    · exact ok_toTyS b h.2

def oTyS : Option VT → Ty
  | none => ty0
  | some v => toTy v


theorem ofB_inj {a b : List (BNm × VT)} (h : a.map ofB = b.map ofB) : a = b := by
  induction a generalizing b with
  | nil => cases b with
    | nil => rfl
    | cons => simp at h
  | cons x a ih => cases b with
    | nil => simp at h
    | cons y b =>
      simp only [List.map_cons, List.cons.injEq] at h
      obtain ⟨⟨x1, x2⟩, x3⟩ := x
      obtain ⟨⟨y1, y2⟩, y3⟩ := y
      have h1 := h.1
      simp only [ofB, BdI.mk.injEq] at h1
      obtain ⟨rfl, rfl, h3⟩ := h1
      rw [toTy_injS h3, ih h.2]
theorem bad_of {bd : List (BNm × VT)} (hok : ∀ q ∈ bd, okQ q) (h : ∃ b ∈ bd.map ofB, badB b) : False := by
  obtain ⟨b, hb, hbad⟩ := h
  obtain ⟨q, hq, rfl⟩ := List.mem_map.1 hb
  have := hok q hq
  rcases hbad with h | h
  · rw [ofB, validB_toTy this.1] at h; cases h
  · rw [ofB, this.2] at h; cases h
/-- one answer only -/
theorem subIs_one {τ : Ty} {bs : List BdI} {o o' : Option VT} (h : SubIs τ bs o) (h' : SubIs τ bs o') : o = o' := by
  rcases h with ⟨v, bd, rfl, hv, rfl, hok, rfl⟩ | ⟨h, rfl⟩
  · rcases h' with ⟨v', bd', e, hv', e', hok', rfl⟩ | ⟨h' | h', rfl⟩
    · rw [toTy_injS e, ofB_inj e']
    · rw [validB_toTy hv] at h'; cases h'
    · exact absurd h' (bad_of hok)
  · rcases h' with ⟨v', bd', rfl, hv', rfl, hok', rfl⟩ | ⟨h', rfl⟩
    · rcases h with h | h
      · rw [validB_toTy hv'] at h; cases h
      · exact absurd h (bad_of hok')
    · rfl
end Go.Proofs.YtapkacochknndaaGreat
