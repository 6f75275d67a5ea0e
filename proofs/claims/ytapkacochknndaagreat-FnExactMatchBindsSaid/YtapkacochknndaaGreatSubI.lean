/- The program's SubstType: what it hands back is memory of its own. -/
import Derived.Test.YtapkacochknndaaGreatSubR
import Derived.Test.YtapkacochknndaaGreatOwnPlain
import Derived.Test.YtapkacochknndaaGreatAbsW3
set_option linter.unusedVariables false
set_option linter.unusedSimpArgs false
namespace Go.Proofs.YtapkacochknndaaGreat
open Go.Abs

theorem lookB_in {p : BNm} {w : VT} : ∀ {m : List (BNm × VT)}, lookB p m = some w → (p, w) ∈ m
  | [], h => by simp [lookB] at h
  | (q, v) :: m, h => by
    rw [lookB] at h
    by_cases e : p = q
    · rw [if_pos e] at h; cases h; subst e; simp
    · rw [if_neg e] at h; exact List.mem_cons_of_mem _ (lookB_in h)
theorem foldB_in (bd : List (BNm × VT)) : ∀ x ∈ foldB bd, x ∈ bd := by
  have h : ∀ (l m : List (BNm × VT)), ∀ x ∈ l.foldl (fun m q => addB m q.1 q.2) m, x ∈ m ∨ x ∈ l := by
    intro l
    induction l with
    | nil => intro m x hx; exact .inl hx
    | cons q l ih =>
      intro m x hx
      rcases ih _ x hx with h | h
      · have h2 : x ∈ m ∨ x = q := by
          simp only [addB] at h
          split at h
          · exact .inl h
          · rcases List.mem_append.1 h with h | h
            · exact .inl h
            · exact .inr (List.mem_singleton.1 h)
        rcases h2 with h2 | h2
        · exact .inl h2
        · exact .inr (by rw [h2]; simp)
      · exact .inr (List.mem_cons_of_mem _ h)
  intro x hx
  rcases h bd [] x hx with h | h
  · simp at h
  · exact h
theorem sub_ok (m : List (BNm × VT)) (hm : ∀ x ∈ m, VOk x.2) : ∀ v, okV v = true → okV (subV m v) = true ∧ dep (subV m v) ≤ dep v + 8 ∧ cnt (subV m v) ≤ cnt v * 63
  | .num, h => ⟨rfl, by simp [subV, dep], by simp [subV, cnt]⟩
  | .nm a b, h => by
    rw [subV]
    rcases hl : lookB (a, b) m with _ | w
    · exact ⟨h, by simp, by simp [cnt]⟩
    · have hw := hm _ (lookB_in hl)
      refine ⟨hw.ok, ?_, ?_⟩
      · have h9 : dep w ≤ 8 := hw.dep
        show dep w ≤ _
        omega
      · have h9 : cnt w ≤ 63 := hw.cnt
        show cnt w ≤ _
        simp only [cnt]; omega
  | .fn a b, h => by
    simp only [okV, Bool.and_eq_true] at h
    obtain ⟨a1, a2, a3⟩ := sub_ok m hm a h.1
    obtain ⟨b1, b2, b3⟩ := sub_ok m hm b h.2
    simp only [subV, okV, dep, cnt, a1, b1, Bool.and_self, true_and]
    exact ⟨by omega, by omega⟩

theorem depM2 : ∀ v, dep v ≤ 900 → DepM v
  | .num, _ => num_depth
  | .nm m n, _ => name_depth m n
  | .fn a b, h => by
    rw [dep] at h
    exact fun_depth a b (depM2 a (by omega)) (depM2 b (by omega)) (by omega)
set_option maxRecDepth 100000 in
theorem impl_withinLimits2 (v : VT) (hd : dep v ≤ 900) (hc : cnt v < 100000) (A : List Box) : ACalls Tryz.prog 115 [.iface (vT v) (vX v)] A (fun r A' => r = .bool (decide (dep v ≤ 8) && decide (cnt v ≤ 63)) ∧ A' = A) := by
  refine acalls_enter (cf := cf 11 [0, 2]) foll Tryz.func115 Tryz.ntmps115 (by simp [cf]) ?_
  simp only [Tryz.f115, EnterK_some, zW, zX, zD, builtinA, isLeaf, const1, ustrA, simprocAttr, ti3, cf, Tryz.results115]
  refine wpO_invoke _ _ _ _ _ _ _ _ _ _ _ _ _ _ _ _ ?_
  simp only [zW, zX, zD, builtinA, isLeaf, const1, ustrA, simprocAttr, ti3, cf, Tryz.results115]
  refine meth_invK (met3 (by kernel_rfl) (by kernel_rfl) (by kernel_rfl) (by kernel_rfl) (by kernel_rfl) (by kernel_rfl)) (depM2 v hd _) rfl (fun _ => rfl) ?_
  rintro v A' ⟨rfl, rfl⟩
  simp only [zW, zX, zD, builtinA, isLeaf, const1, ustrA, simprocAttr, ti3, cf, Tryz.results115]
  by_cases h8 : dep v ≤ 8
  · have e8 : decide ((dep v : Int) ≤ 8) = true := decide_eq_true (by omega)
    rw [decide_eq_true h8]
    simp only [zW, zX, zD, builtinA, isLeaf, const1, ustrA, simprocAttr, ti3, cf, Tryz.results115, e8]
    refine wpO_invoke _ _ _ _ _ _ _ _ _ _ _ _ _ _ _ _ ?_
    simp only [zW, zX, zD, builtinA, isLeaf, const1, ustrA, simprocAttr, ti3, cf, Tryz.results115]
    refine meth_invK (met3 (by kernel_rfl) (by kernel_rfl) (by kernel_rfl) (by kernel_rfl) (by kernel_rfl) (by kernel_rfl)) (cntM v (by omega) _) rfl (fun _ => rfl) ?_
    rintro v A' ⟨rfl, rfl⟩
    simp only [zW, zX, zD, builtinA, isLeaf, const1, ustrA, simprocAttr, ti3, cf, Tryz.results115]
    simp
    omega
  · have e8 : decide ((dep v : Int) ≤ 8) = false := decide_eq_false (by omega)
    rw [decide_eq_false h8]
    simp only [zW, zX, zD, builtinA, isLeaf, const1, ustrA, simprocAttr, ti3, cf, Tryz.results115, e8]

/-- what is handed back -/
def SubOut (A : List Box) (o : Option VT) (r : AV) (A' : List Box) : Prop :=
  match o with
  | none => r = .tuple [.agg [.int .i64 0, .str [], .str [], .nils], .bool false] ∧ A.length ≤ A'.length ∧ ∀ i, i < A.length → A'.getD i .dead = A.getD i .dead
  | some v => ∃ cs S, r = .tuple [.agg cs, .bool true] ∧ OwnT A' (toTy v) cs S ∧ S.Nodup ∧ (∀ i ∈ S, A.length ≤ i) ∧ A.length ≤ A'.length ∧ ∀ i, i < A.length → A'.getD i .dead = A.getD i .dead
/-- what is to be handed back -/
def SubIs (τ : Ty) (bs : List BdI) (o : Option VT) : Prop :=
  (∃ v bd, τ = toTy v ∧ VOk v ∧ bs = bd.map ofB ∧ (∀ q ∈ bd, okQ q) ∧ o = (if dep (subV (foldB bd) v) ≤ 8 ∧ cnt (subV (foldB bd) v) ≤ 63 then some (subV (foldB bd) v) else none)) ∨ ((validB τ = false ∨ ∃ b ∈ bs, badB b) ∧ o = none)

end Go.Proofs.YtapkacochknndaaGreat
