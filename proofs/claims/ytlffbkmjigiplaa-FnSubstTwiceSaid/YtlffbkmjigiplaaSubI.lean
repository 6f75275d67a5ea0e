/- The program's SubstType: what it hands back is memory of its own. -/
import Derived.Test.YtlffbkmjigiplaaSubR
import Derived.Test.YtlffbkmjigiplaaOwnPlain
import Derived.Test.YtlffbkmjigiplaaAbsW3
set_option linter.unusedVariables false
set_option linter.unusedSimpArgs false
namespace Go.Proofs.Ytlffbkmjigiplaa
open Go.Abs

theorem lookB_in {p : BNm} {w : VT} : ∀ {m : List (BNm × VT)}, lookB p m = some w → (p, w) ∈ m
  | [], h => by simp [lookB] at h
  | (q, v) :: m, h => by
    rw [lookB] at h
    by_cases e : p = q
    · rw [if_pos e] at h; cases h; subst e; simp
    · rw [if_neg e] at h; exact List.mem_cons_of_mem _ (lookB_in h)
theorem foldB_in (bd : List (BNm × VT)) : ∀ x ∈ foldB bd, x ∈ bd := by
  have h : ∀ (l m : List (BNm × VT)), ∀ x ∈ l.foldl (fun m q => addB m q.1 q.2) m, x ∈ m ∨ x ∈ l := by
    intro l
    induction l with
    | nil => intro m x hx; exact .inl hx
    | cons q l ih =>
      intro m x hx
      rcases ih _ x hx with h | h
      · have h2 : x ∈ m ∨ x = q := by
          simp only [addB] at h
          split at h
          · exact .inl h
          · rcases List.mem_append.1 h with h | h
            · exact .inl h
            · exact .inr (List.mem_singleton.1 h)
        rcases h2 with h2 | h2
        · exact .inl h2
        · exact .inr (by rw [h2]; simp)
      · exact .inr (List.mem_cons_of_mem _ h)
  intro x hx
  rcases h bd [] x hx with h | h
  · simp at h
  · exact h
theorem sub_ok (m : List (BNm × VT)) (hm : ∀ x ∈ m, VOk x.2) : ∀ v, okV v = true → okV (subV m v) = true ∧ dep (subV m v) ≤ dep v + 8 ∧ cnt (subV m v) ≤ cnt v * 63
  | .num, h => ⟨rfl, by simp [subV, dep], by simp [subV, cnt]⟩
  | .nm a b, h => by
    rw [subV]
    rcases hl : lookB (a, b) m with _ | w
    · exact ⟨h, by simp, by simp [cnt]⟩
    · have hw := hm _ (lookB_in hl)
      refine ⟨hw.ok, ?_, ?_⟩
      · have h9 : dep w ≤ 8 := hw.dep
        show dep w ≤ _
        omega
      · have h9 : cnt w ≤ 63 := hw.cnt
        show cnt w ≤ _
        simp only [cnt]; omega
  | .fn a b, h => by
    simp only [okV, Bool.and_eq_true] at h
    obtain ⟨a1, a2, a3⟩ := sub_ok m hm a h.1
    obtain ⟨b1, b2, b3⟩ := sub_ok m hm b h.2
    simp only [subV, okV, dep, cnt, a1, b1, Bool.and_self, true_and]
    exact ⟨by omega, by omega⟩

theorem depM2 : ∀ v, dep v ≤ 900 → DepM v
  | .num, _ => num_depth
  | .nm m n, _ => name_depth m n
  | .fn a b, h => by
    rw [dep] at h
    exact fun_depth a b (depM2 a (by omega)) (depM2 b (by omega)) (by omega)
set_option maxRecDepth 100000 in
theorem impl_withinLimits2 (v : VT) (hd : dep v ≤ 900) (hc : cnt v < 100000) (A : List Box) : ACalls Try.prog 17 [.iface (vT v) (vX v)] A (fun r A' => r = .bool (decide (dep v ≤ 8) && decide (cnt v ≤ 63)) ∧ A' = A) := by
  refine acalls_enter (cf := cf 11 [0, 2]) foll Try.func17 Try.ntmps17 (by simp [cf]) ?_
  simp only [Try.f17, EnterK_some, zW, zX, zD, builtinA, isLeaf, const1, Nat.reduceAdd, Nat.reduceMul, Nat.reduceSub, Nat.reduceLT, Nat.reduceLeDiff, Nat.reduceEqDiff, Nat.reduceBEq, Nat.reduceBNe, reduceIte, reduceCtorEq, Int.reduceToNat, Int.reduceLT, Int.reduceLE, Int.reduceEq, Int.reduceNe, Int.reduceNeg, ustrA, ti3, cf, Try.results17]
  refine wpO_invoke _ _ _ _ _ _ _ _ _ _ _ _ _ _ _ _ ?_
  simp only [zW, zX, zD, builtinA, isLeaf, const1, Nat.reduceAdd, Nat.reduceMul, Nat.reduceSub, Nat.reduceLT, Nat.reduceLeDiff, Nat.reduceEqDiff, Nat.reduceBEq, Nat.reduceBNe, reduceIte, reduceCtorEq, Int.reduceToNat, Int.reduceLT, Int.reduceLE, Int.reduceEq, Int.reduceNe, Int.reduceNeg, ustrA, ti3, cf, Try.results17]
  refine meth_invK (met3 (by kernel_rfl) (by kernel_rfl) (by kernel_rfl) (by kernel_rfl) (by kernel_rfl) (by kernel_rfl)) (depM2 v hd _) rfl (fun _ => rfl) ?_
  rintro v A' ⟨rfl, rfl⟩
  simp only [zW, zX, zD, builtinA, isLeaf, const1, Nat.reduceAdd, Nat.reduceMul, Nat.reduceSub, Nat.reduceLT, Nat.reduceLeDiff, Nat.reduceEqDiff, Nat.reduceBEq, Nat.reduceBNe, reduceIte, reduceCtorEq, Int.reduceToNat, Int.reduceLT, Int.reduceLE, Int.reduceEq, Int.reduceNe, Int.reduceNeg, ustrA, ti3, cf, Try.results17]
  by_cases h8 : dep v ≤ 8
  · have e8 : decide ((dep v : Int) ≤ 8) = true := decide_eq_true (by omega)
    rw [decide_eq_true h8]
    simp only [zW, zX, zD, builtinA, isLeaf, const1, Nat.reduceAdd, Nat.reduceMul, Nat.reduceSub, Nat.reduceLT, Nat.reduceLeDiff, Nat.reduceEqDiff, Nat.reduceBEq, Nat.reduceBNe, reduceIte, reduceCtorEq, Int.reduceToNat, Int.reduceLT, Int.reduceLE, Int.reduceEq, Int.reduceNe, Int.reduceNeg, ustrA, ti3, cf, Try.results17, e8]
    refine wpO_invoke _ _ _ _ _ _ _ _ _ _ _ _ _ _ _ _ ?_
    simp only [zW, zX, zD, builtinA, isLeaf, const1, Nat.reduceAdd, Nat.reduceMul, Nat.reduceSub, Nat.reduceLT, Nat.reduceLeDiff, Nat.reduceEqDiff, Nat.reduceBEq, Nat.reduceBNe, reduceIte, reduceCtorEq, Int.reduceToNat, Int.reduceLT, Int.reduceLE, Int.reduceEq, Int.reduceNe, Int.reduceNeg, ustrA, ti3, cf, Try.results17]
    refine meth_invK (met3 (by kernel_rfl) (by kernel_rfl) (by kernel_rfl) (by kernel_rfl) (by kernel_rfl) (by kernel_rfl)) (cntM v (by omega) _) rfl (fun _ => rfl) ?_
    rintro v A' ⟨rfl, rfl⟩
    simp only [zW, zX, zD, builtinA, isLeaf, const1, Nat.reduceAdd, Nat.reduceMul, Nat.reduceSub, Nat.reduceLT, Nat.reduceLeDiff, Nat.reduceEqDiff, Nat.reduceBEq, Nat.reduceBNe, reduceIte, reduceCtorEq, Int.reduceToNat, Int.reduceLT, Int.reduceLE, Int.reduceEq, Int.reduceNe, Int.reduceNeg, ustrA, ti3, cf, Try.results17]
    simp
    omega
  · have e8 : decide ((dep v : Int) ≤ 8) = false := decide_eq_false (by omega)
    rw [decide_eq_false h8]
    simp only [zW, zX, zD, builtinA, isLeaf, const1, Nat.reduceAdd, Nat.reduceMul, Nat.reduceSub, Nat.reduceLT, Nat.reduceLeDiff, Nat.reduceEqDiff, Nat.reduceBEq, Nat.reduceBNe, reduceIte, reduceCtorEq, Int.reduceToNat, Int.reduceLT, Int.reduceLE, Int.reduceEq, Int.reduceNe, Int.reduceNeg, ustrA, ti3, cf, Try.results17, e8]

/-- what is handed back -/
def SubOut (A : List Box) (o : Option VT) (r : AV) (A' : List Box) : Prop :=
  match o with
  | none => r = .tuple [.agg [.int .i64 0, .str [], .str [], .nils], .bool false] ∧ A.length ≤ A'.length ∧ ∀ i, i < A.length → A'.getD i .dead = A.getD i .dead
  | some v => ∃ cs S, r = .tuple [.agg cs, .bool true] ∧ OwnT A' (toTy v) cs S ∧ S.Nodup ∧ (∀ i ∈ S, A.length ≤ i) ∧ A.length ≤ A'.length ∧ ∀ i, i < A.length → A'.getD i .dead = A.getD i .dead
/-- what is to be handed back -/
def SubIs (τ : Ty) (bs : List BdI) (o : Option VT) : Prop :=
  (∃ v bd, τ = toTy v ∧ VOk v ∧ bs = bd.map ofB ∧ (∀ q ∈ bd, okQ q) ∧ o = (if dep (subV (foldB bd) v) ≤ 8 ∧ cnt (subV (foldB bd) v) ≤ 63 then some (subV (foldB bd) v) else none)) ∨ ((validB τ = false ∨ ∃ b ∈ bs, badB b) ∧ o = none)

set_option maxRecDepth 100000 in
theorem impl_SubstType (τ : Ty) (bs : List BdI) (hl : bs.length ≤ 1048576) (hk : ∀ b ∈ bs, b.Ok) (A : List Box) : ACalls Try.prog 7 [.agg (enc τ), .slice (bEs bs)] A (fun r A' => ∃ o, SubIs τ bs o ∧ SubOut A o r A') := by
  have hz : ∀ B : List Box, SubOut A none (AV.tuple [AV.agg [AV.int IntKind.i64 0, AV.str [], AV.str [], AV.nils], AV.bool false]) (A ++ B) := fun B => ⟨rfl, by simp, fun i hi => Abs.getD_append_left hi⟩
  refine acalls_enterK (cf := cf 35 [0, 1, 2, 4, 5, 6, 7, 8, 9, 16, 24, 31]) foll Try.func7 Try.ntmps7 (by simp [cf]) ?_
  simp only [Try.f7, EnterK_some, zW, zX, zD, builtinA, isLeaf, const1, Nat.reduceAdd, Nat.reduceMul, Nat.reduceSub, Nat.reduceLT, Nat.reduceLeDiff, Nat.reduceEqDiff, Nat.reduceBEq, Nat.reduceBNe, reduceIte, reduceCtorEq, Int.reduceToNat, Int.reduceLT, Int.reduceLE, Int.reduceEq, Int.reduceNe, Int.reduceNeg, ustrA, ti25, ca15, ca16, ca17, cf, Try.results7]
  simp only [enc_take]
  refine ⟨by rw [enc_length]; omega, ?_⟩
  refine callK_intro (by simp only [zW, zX, zD, builtinA, isLeaf, const1, Nat.reduceAdd, Nat.reduceMul, Nat.reduceSub, Nat.reduceLT, Nat.reduceLeDiff, Nat.reduceEqDiff, Nat.reduceBEq, Nat.reduceBNe, reduceIte, reduceCtorEq, Int.reduceToNat, Int.reduceLT, Int.reduceLE, Int.reduceEq, Int.reduceNe, Int.reduceNeg, ustrA, frzL_enc, Option.map_some]; rfl) (impl_readType τ _) ?_ rfl
  rintro r A' ⟨⟨v, rfl, hv, rfl⟩ | ⟨hv, rfl⟩, rfl⟩
  · simp only [zW, zX, zD, builtinA, isLeaf, const1, Nat.reduceAdd, Nat.reduceMul, Nat.reduceSub, Nat.reduceLT, Nat.reduceLeDiff, Nat.reduceEqDiff, Nat.reduceBEq, Nat.reduceBNe, reduceIte, reduceCtorEq, Int.reduceToNat, Int.reduceLT, Int.reduceLE, Int.reduceEq, Int.reduceNe, Int.reduceNeg, ustrA, ti25, ca15, ca16, ca17, cf, Try.results7]
    refine callK_intro (by simp only [zW, zX, zD, builtinA, isLeaf, const1, Nat.reduceAdd, Nat.reduceMul, Nat.reduceSub, Nat.reduceLT, Nat.reduceLeDiff, Nat.reduceEqDiff, Nat.reduceBEq, Nat.reduceBNe, reduceIte, reduceCtorEq, Int.reduceToNat, Int.reduceLT, Int.reduceLE, Int.reduceEq, Int.reduceNe, Int.reduceNeg, ustrA, Option.map_some]; rfl) (impl_readBinds bs hl hk _) ?_ rfl
    rintro r A' (⟨bd, B, rfl, hok, rfl, rfl⟩ | ⟨hb, x, B, rfl, rfl⟩)
    · have hsub := sub_ok (foldB bd) (fun x hx => (hok x (foldB_in bd x hx)).1) v hv.ok
      have hvd := hv.dep
      have hvc := hv.cnt
      simp only [zW, zX, zD, builtinA, isLeaf, const1, Nat.reduceAdd, Nat.reduceMul, Nat.reduceSub, Nat.reduceLT, Nat.reduceLeDiff, Nat.reduceEqDiff, Nat.reduceBEq, Nat.reduceBNe, reduceIte, reduceCtorEq, Int.reduceToNat, Int.reduceLT, Int.reduceLE, Int.reduceEq, Int.reduceNe, Int.reduceNeg, ustrA, ti25, ca15, ca16, ca17, cf, Try.results7]
      refine wpO_invoke _ _ _ _ _ _ _ _ _ _ _ _ _ _ _ _ ?_
      simp only [zW, zX, zD, builtinA, isLeaf, const1, Nat.reduceAdd, Nat.reduceMul, Nat.reduceSub, Nat.reduceLT, Nat.reduceLeDiff, Nat.reduceEqDiff, Nat.reduceBEq, Nat.reduceBNe, reduceIte, reduceCtorEq, Int.reduceToNat, Int.reduceLT, Int.reduceLE, Int.reduceEq, Int.reduceNe, Int.reduceNeg, ustrA, ti25, ca15, ca16, ca17, cf, Try.results7]
      refine meth_invK (met3 (by kernel_rfl) (by kernel_rfl) (by kernel_rfl) (by kernel_rfl) (by kernel_rfl) (by kernel_rfl)) (subM (foldB bd) v _ (A.length + 2) (by simp) (by simp [List.getD])) rfl (fun _ => rfl) ?_
      rintro r A' ⟨rfl, rfl⟩
      have his : ∀ o, o = (if dep (subV (foldB bd) v) ≤ 8 ∧ cnt (subV (foldB bd) v) ≤ 63 then some (subV (foldB bd) v) else none) → SubIs (toTy v) (bd.map ofB) o := fun o h => .inl ⟨v, bd, rfl, hv, rfl, hok, h⟩
      generalize subV (foldB bd) v = w at *
      simp only [zW, zX, zD, builtinA, isLeaf, const1, Nat.reduceAdd, Nat.reduceMul, Nat.reduceSub, Nat.reduceLT, Nat.reduceLeDiff, Nat.reduceEqDiff, Nat.reduceBEq, Nat.reduceBNe, reduceIte, reduceCtorEq, Int.reduceToNat, Int.reduceLT, Int.reduceLE, Int.reduceEq, Int.reduceNe, Int.reduceNeg, ustrA, ti25, ca15, ca16, ca17, cf, Try.results7]
      refine callK_intro (by simp only [zW, zX, zD, builtinA, isLeaf, const1, Nat.reduceAdd, Nat.reduceMul, Nat.reduceSub, Nat.reduceLT, Nat.reduceLeDiff, Nat.reduceEqDiff, Nat.reduceBEq, Nat.reduceBNe, reduceIte, reduceCtorEq, Int.reduceToNat, Int.reduceLT, Int.reduceLE, Int.reduceEq, Int.reduceNe, Int.reduceNeg, ustrA, Option.map_some]; rfl) (impl_withinLimits2 w (by omega) (by omega) _) ?_ rfl; rintro v A' ⟨rfl, rfl⟩
      by_cases hc : dep w ≤ 8 ∧ cnt w ≤ 63
      · rw [if_pos hc] at his
        have hd : (decide (dep w ≤ 8) && decide (cnt w ≤ 63)) = true := by simp [hc.1, hc.2]
        rw [hd]
        simp only [zW, zX, zD, builtinA, isLeaf, const1, Nat.reduceAdd, Nat.reduceMul, Nat.reduceSub, Nat.reduceLT, Nat.reduceLeDiff, Nat.reduceEqDiff, Nat.reduceBEq, Nat.reduceBNe, reduceIte, reduceCtorEq, Int.reduceToNat, Int.reduceLT, Int.reduceLE, Int.reduceEq, Int.reduceNe, Int.reduceNeg, ustrA, ti25, ca15, ca16, ca17, cf, Try.results7]
        refine wpO_invoke _ _ _ _ _ _ _ _ _ _ _ _ _ _ _ _ ?_
        simp only [zW, zX, zD, builtinA, isLeaf, const1, Nat.reduceAdd, Nat.reduceMul, Nat.reduceSub, Nat.reduceLT, Nat.reduceLeDiff, Nat.reduceEqDiff, Nat.reduceBEq, Nat.reduceBNe, reduceIte, reduceCtorEq, Int.reduceToNat, Int.reduceLT, Int.reduceLE, Int.reduceEq, Int.reduceNe, Int.reduceNeg, ustrA, ti25, ca15, ca16, ca17, cf, Try.results7]
        refine meth_invK (met3 (by kernel_rfl) (by kernel_rfl) (by kernel_rfl) (by kernel_rfl) (by kernel_rfl) (by kernel_rfl)) (plainM w _) rfl (fun _ => rfl) ?_
        rintro r A' ⟨rfl, rfl⟩
        have hpl : ∀ n, (prow w n true).length = 4 := fun n => prow_length _ _ _
        simp only [zW, zX, zD, builtinA, isLeaf, const1, Nat.reduceAdd, Nat.reduceMul, Nat.reduceSub, Nat.reduceLT, Nat.reduceLeDiff, Nat.reduceEqDiff, Nat.reduceBEq, Nat.reduceBNe, reduceIte, reduceCtorEq, Int.reduceToNat, Int.reduceLT, Int.reduceLE, Int.reduceEq, Int.reduceNe, Int.reduceNeg, ustrA, ti25, ca15, ca16, ca17, cf, Try.results7, hpl]
        refine ⟨some w, his _ rfl, prow w (A.length + (B.length + 1 + 1 + 1)) true, pidx w (A.length + (B.length + 1 + 1 + 1)), by rw [List.take_of_length_le (by rw [hpl]; exact Nat.le_refl _)], own_plain w _ true _ (fun k hk => ?_), pidx_nodup _ _, fun i hi => by have := pidx_in _ _ i hi; omega, by simp, fun i hi => Abs.getD_append_left hi⟩
        rw [Abs.getD_append_right (by omega), show A.length + (B.length + 1 + 1 + 1) + k - A.length = (B.length + k) + 1 + 1 + 1 by omega, List.getD_cons_succ, List.getD_cons_succ, List.getD_cons_succ, Abs.getD_append_right (by omega), show B.length + k - B.length = k by omega]
      · rw [if_neg hc] at his
        have hd : (decide (dep w ≤ 8) && decide (cnt w ≤ 63)) = false := by
          rw [Bool.eq_false_iff]; intro h; simp only [Bool.and_eq_true, decide_eq_true_eq] at h; exact hc h
        rw [hd]
        simp only [zW, zX, zD, builtinA, isLeaf, const1, Nat.reduceAdd, Nat.reduceMul, Nat.reduceSub, Nat.reduceLT, Nat.reduceLeDiff, Nat.reduceEqDiff, Nat.reduceBEq, Nat.reduceBNe, reduceIte, reduceCtorEq, Int.reduceToNat, Int.reduceLT, Int.reduceLE, Int.reduceEq, Int.reduceNe, Int.reduceNeg, ustrA, ti25, ca15, ca16, ca17, cf, Try.results7]
        exact ⟨none, his _ rfl, hz _⟩
    · simp only [zW, zX, zD, builtinA, isLeaf, const1, Nat.reduceAdd, Nat.reduceMul, Nat.reduceSub, Nat.reduceLT, Nat.reduceLeDiff, Nat.reduceEqDiff, Nat.reduceBEq, Nat.reduceBNe, reduceIte, reduceCtorEq, Int.reduceToNat, Int.reduceLT, Int.reduceLE, Int.reduceEq, Int.reduceNe, Int.reduceNeg, ustrA, ti25, ca15, ca16, ca17, cf, Try.results7]
      exact ⟨none, .inr ⟨.inr hb, rfl⟩, hz _⟩
  · simp only [zW, zX, zD, builtinA, isLeaf, const1, Nat.reduceAdd, Nat.reduceMul, Nat.reduceSub, Nat.reduceLT, Nat.reduceLeDiff, Nat.reduceEqDiff, Nat.reduceBEq, Nat.reduceBNe, reduceIte, reduceCtorEq, Int.reduceToNat, Int.reduceLT, Int.reduceLE, Int.reduceEq, Int.reduceNe, Int.reduceNeg, ustrA, ti25, ca15, ca16, ca17, cf, Try.results7]
    exact ⟨none, .inr ⟨.inl hv, rfl⟩, hz _⟩
end Go.Proofs.Ytlffbkmjigiplaa
