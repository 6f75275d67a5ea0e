/- Finding an item of a signature. -/
import Derived.Test.YtapkacochknndaaGreatSigNorm
import Derived.Test.YtapkacochknndaaGreatAbsW3
set_option linter.unusedVariables false
set_option linter.unusedSimpArgs false
namespace Go.Proofs.YtapkacochknndaaGreat
open Go.Abs

set_option maxRecDepth 100000 in
theorem pos_cl (y : VI) (q : Ky) (c : Nat) (A : List Box) (hc : c < A.length) (hA : A.getD c .dead = .cells (kE q)) : ACalls Tryz.prog 117 [.iface (viT y) (viX y), .ptr c 0] A (fun r A' => r = .bool (decide (viK y = q)) ∧ A' = A) := by
  have he := kE_eq (viK y) q
  simp only [kE] at hA he
  refine acalls_enter (cf := cf 8 [0, 1, 3]) foll Tryz.func117 Tryz.ntmps117 (by simp [cf]) ?_
  simp only [Tryz.f117, EnterK_some, zW, zX, zD, builtinA, isLeaf, const1, ustrA, simprocAttr, ti104, ks104, cf, Tryz.results117]
  refine .inl ⟨by kernel_rfl, by kernel_rfl, ?_⟩
  refine wpD_invoke _ _ _ _ _ _ _ _ _ _ _ _ _ _ _ _ ?_
  simp only [zW, zX, zD, builtinA, isLeaf, const1, ustrA, simprocAttr, ti104, ks104, cf, Tryz.results117]
  refine methI_invD (metI3 (by kernel_rfl) (by kernel_rfl) (by kernel_rfl) (by kernel_rfl) (by kernel_rfl) (by kernel_rfl)) (keyI y _) rfl (fun _ => rfl) ?_
  simp only [kE]
  simp only [zW, zX, zD, builtinA, isLeaf, const1, ustrA, simprocAttr, ti104, ks104, cf, Tryz.results117, hA, he]

set_option maxRecDepth 100000 in
theorem idx_items (ys : List VI) (hl : ys.length ≤ 1000) (q : Ky) (c : Nat) (A : List Box) (hc : c < A.length) (hA : A.getD c .dead = .cells (kE q)) :
    ACalls Tryz.prog 116 [.slice (vRows ys), .func (.func 117) [] [.ptr c 0]] A (fun r A' => ((∃ i, i < ys.length ∧ viK (ys.getD i vi0) = q ∧ r = .int .i64 (i : Nat)) ∨ ((∀ i, i < ys.length → viK (ys.getD i vi0) ≠ q) ∧ r = .int .i64 (-1))) ∧ A' = A) := by
  refine acalls_enter (cf := cf 19 [0, 1, 4, 5, 7, 8, 9, 16]) foll Tryz.func116 Tryz.ntmps116 (by simp [cf]) ?_
  simp only [Tryz.f116, EnterK_some, zW, zX, zD, builtinA, isLeaf, const1, ustrA, simprocAttr, ti3, ti62, ti95, cf, Tryz.results116]
  simp only [zW, zX, zD, builtinA, isLeaf, const1, ustrA, simprocAttr, ti3, ti62, ti95, cf, Tryz.results116, vRows_length]
  refine aloop_intro [0, 1, 7, 8] (fun e A' => ∃ i, i ≤ ys.length ∧ (∀ k, k < i → viK (ys.getD k vi0) ≠ q) ∧ e = [(0, .slice (vRows ys)), (1, .func (.func 117) [] [.ptr c 0]), (7, .int .i64 ys.length), (8, .int .i64 i)] ∧ A' = A) (fun e _ => ys.length - (intOf (Abs.look 8 e)).toNat) ?_ ?_
  · simp only [zW, zX, zD, builtinA, isLeaf, const1, ustrA, simprocAttr, ti3, ti62, ti95, cf, Tryz.results116]
    exact ⟨0, by omega, fun k hk => by omega, rfl⟩
  · rintro e A' ⟨i, hi, hq, rfl, rfl⟩
    by_cases hlt : i < ys.length
    · have d2 : decide ((i : Int) < (ys.length : Int)) = true := by simp; omega
      have hlt' : 0 ≤ (i : Int) ∧ (i : Int) < (ys.length : Int) := by omega
      have hg := vRows_getD hlt
      have hi1 : IntKind.i64.wrap ((i : Int) + 1) = ((i + 1 : Nat) : Int) := by rw [wrap64 (by omega) (by omega)]; rfl
      generalize hyv : ys.getD i vi0 = y at *
      rw [vRow] at hg
      simp only [zW, zX, zD, builtinA, isLeaf, const1, ustrA, simprocAttr, ti3, ti62, ti95, cf, Tryz.results116, vRows_length, d2, hg]
      refine ⟨hlt', ?_⟩
      refine wpO_callv _ _ _ _ _ _ _ _ _ _ _ _ _ _ _ ?_
      simp only [zW, zX, zD, builtinA, isLeaf, const1, ustrA, simprocAttr, ti3, ti62, ti95, cf, Tryz.results116]
      refine ⟨by kernel_rfl, ?_⟩
      refine callO_intro (pos_cl y q c _ hc hA) ?_
      rintro r A' ⟨rfl, rfl⟩
      by_cases hk : viK y = q
      · simp only [zW, zX, zD, builtinA, isLeaf, const1, ustrA, simprocAttr, ti3, ti62, ti95, cf, Tryz.results116, decide_eq_true hk]
        exact .inl ⟨i, hlt, by rw [hyv]; exact hk, rfl⟩
      · simp only [zW, zX, zD, builtinA, isLeaf, const1, ustrA, simprocAttr, ti3, ti62, ti95, cf, Tryz.results116, decide_eq_false hk, hi1, LoopK_eq]
        refine ⟨⟨i + 1, by omega, fun k hk2 => ?_, rfl⟩, ?_⟩
        · rcases Nat.lt_succ_iff_lt_or_eq.mp hk2 with h | rfl
          · exact hq k h
          · rw [hyv]; exact hk
        · simp only [intOf]; omega
    · have d2 : decide ((i : Int) < (ys.length : Int)) = false := by simp; omega
      have e : i = ys.length := by omega
      subst e
      simp only [zW, zX, zD, builtinA, isLeaf, const1, ustrA, simprocAttr, ti3, ti62, ti95, cf, Tryz.results116, vRows_length, d2]
      exact .inr hq

set_option maxRecDepth 100000 in
theorem impl_position (ys : List VI) (hl : ys.length ≤ 1000) (q : Ky) (A : List Box) : ACalls Tryz.prog 89 [.slice (vRows ys), .agg (kE q)] A (fun r A' => ((∃ i, i < ys.length ∧ viK (ys.getD i vi0) = q ∧ r = .int .i64 (i : Nat)) ∨ ((∀ i, i < ys.length → viK (ys.getD i vi0) ≠ q) ∧ r = .int .i64 (-1))) ∧ A' = A) := by
  have h := idx_items ys hl q A.length (A ++ [.cells (kE q)]) (by simp) (by rw [Abs.getD_append_right (Nat.le_refl _)]; simp)
  simp only [kE] at h
  rw [kE]
  refine acalls_enter (cf := cf 8 [0, 1, 3, 4]) foll Tryz.func89 Tryz.ntmps89 (by simp [cf]) ?_
  simp only [Tryz.f89, EnterK_some, zW, zX, zD, builtinA, isLeaf, const1, ustrA, simprocAttr, ti104, ca116, cf, Tryz.results89]
  refine callO_intro h ?_
  rintro r A' ⟨h2, rfl⟩
  rcases h2 with ⟨i, hi, hv, rfl⟩ | ⟨hn, rfl⟩
  · simp only [zW, zX, zD, builtinA, isLeaf, const1, ustrA, simprocAttr, ti104, ca116, cf, Tryz.results89]
    exact .inl ⟨i, hi, hv, rfl⟩
  · simp only [zW, zX, zD, builtinA, isLeaf, const1, ustrA, simprocAttr, ti104, ca116, cf, Tryz.results89]
    exact .inr hn

/-- the item with a key -/
def FindO (ys : List VI) (q : Ky) (o : Option VT) : Prop := match o with
  | some v => ∃ i, i < ys.length ∧ viK (ys.getD i vi0) = q ∧ meanI (ys.getD i vi0) = v
  | none => ∀ i, i < ys.length → viK (ys.getD i vi0) ≠ q
def findR : Option VT → AV
  | some v => .tuple [.iface (vT v) (vX v), .bool true]
  | none => .tuple [.nili, .bool false]
set_option maxRecDepth 100000 in
theorem impl_findSig (ys : List VI) (hl : ys.length ≤ 1000) (q : Ky) (A : List Box) : ACalls Tryz.prog 59 [.slice (vRows ys), .agg (kE q)] A (fun r A' => ∃ o, FindO ys q o ∧ r = findR o ∧ A' = A) := by
  have h := fun A => impl_position ys hl q A
  simp only [kE] at h
  rw [kE]
  refine acalls_enter (cf := cf 17 [0, 1, 3, 4, 5, 6, 11]) foll Tryz.func59 Tryz.ntmps59 (by simp [cf]) ?_
  simp only [Tryz.f59, EnterK_some, zW, zX, zD, builtinA, isLeaf, const1, ustrA, simprocAttr, ti3, ti62, ti95, ti104, ca89, cf, Tryz.results59]
  refine callO_intro (h _) ?_
  rintro r A' ⟨h2, rfl⟩
  rcases h2 with ⟨i, hi, hv, rfl⟩ | ⟨hn, rfl⟩
  · have d2 : decide ((i : Int) < 0) = false := decide_eq_false (by omega)
    have hg := vRows_getD hi
    generalize hyv : ys.getD i vi0 = y at *
    rw [vRow] at hg
    simp only [zW, zX, zD, builtinA, isLeaf, const1, ustrA, simprocAttr, ti3, ti62, ti95, ti104, ca89, cf, Tryz.results59, d2, vRows_length, hg]
    refine ⟨⟨by omega, by omega⟩, ?_⟩
    refine wpO_invoke _ _ _ _ _ _ _ _ _ _ _ _ _ _ _ _ ?_
    simp only [zW, zX, zD, builtinA, isLeaf, const1, ustrA, simprocAttr, ti3, ti62, ti95, ti104, ca89, cf, Tryz.results59]
    refine methI_invK (metI3 (by kernel_rfl) (by kernel_rfl) (by kernel_rfl) (by kernel_rfl) (by kernel_rfl) (by kernel_rfl)) (meanIf y _) rfl (fun _ => rfl) ?_
    rintro r A' ⟨rfl, rfl⟩
    simp only [zW, zX, zD, builtinA, isLeaf, const1, ustrA, simprocAttr, ti3, ti62, ti95, ti104, ca89, cf, Tryz.results59]
    exact ⟨some (meanI y), ⟨i, hi, by rw [hyv]; exact hv, by rw [hyv]⟩, rfl⟩
  · have d2 : decide ((-1 : Int) < 0) = true := rfl
    simp only [zW, zX, zD, builtinA, isLeaf, const1, ustrA, simprocAttr, ti3, ti62, ti95, ti104, ca89, cf, Tryz.results59, d2]
    exact ⟨none, hn, rfl⟩
end Go.Proofs.YtapkacochknndaaGreat
