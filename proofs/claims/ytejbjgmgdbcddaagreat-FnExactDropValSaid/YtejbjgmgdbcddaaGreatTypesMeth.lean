/- The methods that measure a valid type, and the functions that read one. -/
import Derived.Test.YtejbjgmgdbcddaaGreatAbsW3
import Derived.Test.YtejbjgmgdbcddaaGreatTypesVal
set_option linter.unusedVariables false
set_option linter.unusedSimpArgs false
namespace Go.Proofs.YtejbjgmgdbcddaaGreat
open Go.Abs

def DepM (v : VT) : Prop := ∀ A, ACalls Tryz.prog ((pickF 111 118 104) v) [vX v] A (fun r A' => r = .int .i64 (dep v) ∧ A' = A)
def CntM (v : VT) : Prop := ∀ A, ACalls Tryz.prog ((pickF 110 117 103) v) [vX v] A (fun r A' => r = .int .i64 (cnt v) ∧ A' = A)

set_option maxRecDepth 100000 in
theorem num_depth : DepM .num := fun A => by
  show ACalls Tryz.prog 111 _ _ _
  rw [vX]
  refine acalls_enter (cf := cf 3 [0, 2]) foll Tryz.func111 Tryz.ntmps111 (by simp [cf]) ?_
  simp only [Tryz.f111, EnterK_some, zW, zX, zD, builtinA, isLeaf, const1, ustrA, simprocAttr, ti116, cf, Tryz.results111]
  simp [dep]
set_option maxRecDepth 100000 in
theorem name_depth (m n : List UInt8) : DepM (.nm m n) := fun A => by
  show ACalls Tryz.prog 104 _ _ _
  rw [vX]
  refine acalls_enter (cf := cf 3 [0, 2]) foll Tryz.func104 Tryz.ntmps104 (by simp [cf]) ?_
  simp only [Tryz.f104, EnterK_some, zW, zX, zD, builtinA, isLeaf, const1, ustrA, simprocAttr, ti101, cf, Tryz.results104]
  simp [dep]
set_option maxRecDepth 100000 in
theorem num_count : CntM .num := fun A => by
  show ACalls Tryz.prog 110 _ _ _
  rw [vX]
  refine acalls_enter (cf := cf 3 [0, 2]) foll Tryz.func110 Tryz.ntmps110 (by simp [cf]) ?_
  simp only [Tryz.f110, EnterK_some, zW, zX, zD, builtinA, isLeaf, const1, ustrA, simprocAttr, ti116, cf, Tryz.results110]
  simp [cnt]
set_option maxRecDepth 100000 in
theorem name_count (m n : List UInt8) : CntM (.nm m n) := fun A => by
  show ACalls Tryz.prog 103 _ _ _
  rw [vX]
  refine acalls_enter (cf := cf 3 [0, 2]) foll Tryz.func103 Tryz.ntmps103 (by simp [cf]) ?_
  simp only [Tryz.f103, EnterK_some, zW, zX, zD, builtinA, isLeaf, const1, ustrA, simprocAttr, ti101, cf, Tryz.results103]
  simp [cnt]
set_option maxRecDepth 100000 in
theorem fun_depth (a b : VT) (ha : DepM a) (hb : DepM b) (hd : dep a < 1000 ∧ dep b < 1000) : DepM (.fn a b) := fun A => by
  show ACalls Tryz.prog 118 _ _ _
  rw [vX]
  refine acalls_enter (cf := cf 11 [0, 1, 2]) foll Tryz.func118 Tryz.ntmps118 (by simp [cf]) ?_
  simp only [Tryz.f118, EnterK_some, zW, zX, zD, builtinA, isLeaf, const1, ustrA, simprocAttr, ti3, ti92, ti124, cf, Tryz.results118]
  refine .inl ⟨by kernel_rfl, by kernel_rfl, ?_⟩
  refine wpD_invoke _ _ _ _ _ _ _ _ _ _ _ _ _ _ _ _ ?_
  simp only [zW, zX, zD, builtinA, isLeaf, const1, ustrA, simprocAttr, ti3, ti92, ti124, cf, Tryz.results118]
  refine meth_invD (met3 (by kernel_rfl) (by kernel_rfl) (by kernel_rfl) (by kernel_rfl) (by kernel_rfl) (by kernel_rfl)) (ha _) rfl (fun _ => rfl) ?_
  simp only [zW, zX, zD, builtinA, isLeaf, const1, ustrA, simprocAttr, ti3, ti92, ti124, cf, Tryz.results118]
  refine wpD_invoke _ _ _ _ _ _ _ _ _ _ _ _ _ _ _ _ ?_
  simp only [zW, zX, zD, builtinA, isLeaf, const1, ustrA, simprocAttr, ti3, ti92, ti124, cf, Tryz.results118]
  refine meth_invD (met3 (by kernel_rfl) (by kernel_rfl) (by kernel_rfl) (by kernel_rfl) (by kernel_rfl) (by kernel_rfl)) (hb _) rfl (fun _ => rfl) ?_
  simp only [zW, zX, zD, builtinA, isLeaf, const1, ustrA, simprocAttr, ti3, ti92, ti124, cf, Tryz.results118]
  rw [wrap64 (by split <;> omega) (by split <;> omega), dep]
  congr 1
  split <;> omega
set_option maxRecDepth 100000 in
theorem fun_count (a b : VT) (ha : CntM a) (hb : CntM b) (hd : cnt a < 100000 ∧ cnt b < 100000) : CntM (.fn a b) := fun A => by
  show ACalls Tryz.prog 117 _ _ _
  rw [vX]
  refine acalls_enter (cf := cf 11 [0, 1, 2]) foll Tryz.func117 Tryz.ntmps117 (by simp [cf]) ?_
  simp only [Tryz.f117, EnterK_some, zW, zX, zD, builtinA, isLeaf, const1, ustrA, simprocAttr, ti3, ti92, ti124, cf, Tryz.results117]
  refine .inl ⟨by kernel_rfl, by kernel_rfl, ?_⟩
  refine wpD_invoke _ _ _ _ _ _ _ _ _ _ _ _ _ _ _ _ ?_
  simp only [zW, zX, zD, builtinA, isLeaf, const1, ustrA, simprocAttr, ti3, ti92, ti124, cf, Tryz.results117]
  refine meth_invD (met3 (by kernel_rfl) (by kernel_rfl) (by kernel_rfl) (by kernel_rfl) (by kernel_rfl) (by kernel_rfl)) (ha _) rfl (fun _ => rfl) ?_
  simp only [zW, zX, zD, builtinA, isLeaf, const1, ustrA, simprocAttr, ti3, ti92, ti124, cf, Tryz.results117]
  refine wpD_invoke _ _ _ _ _ _ _ _ _ _ _ _ _ _ _ _ ?_
  simp only [zW, zX, zD, builtinA, isLeaf, const1, ustrA, simprocAttr, ti3, ti92, ti124, cf, Tryz.results117]
  refine meth_invD (met3 (by kernel_rfl) (by kernel_rfl) (by kernel_rfl) (by kernel_rfl) (by kernel_rfl) (by kernel_rfl)) (hb _) rfl (fun _ => rfl) ?_
  simp only [zW, zX, zD, builtinA, isLeaf, const1, ustrA, simprocAttr, ti3, ti92, ti124, cf, Tryz.results117]
  have h1 : IntKind.i64.wrap (1 + (cnt a : Int)) = 1 + cnt a := wrap64 (by omega) (by omega)
  rw [h1, wrap64 (by omega) (by omega), cnt]
  congr 1
theorem depM : ∀ v, dep v ≤ 9 → DepM v
  | .num, _ => num_depth
  | .nm m n, _ => name_depth m n
  | .fn a b, h => by
    rw [dep] at h
    exact fun_depth a b (depM a (by omega)) (depM b (by omega)) (by omega)
theorem cntM : ∀ v, cnt v < 100000 → CntM v
  | .num, _ => num_count
  | .nm m n, _ => name_count m n
  | .fn a b, h => by
    rw [cnt] at h
    exact fun_count a b (cntM a (by omega)) (cntM b (by omega)) (by omega)
set_option maxRecDepth 100000 in
theorem impl_withinLimits (v : VT) (hd : dep v ≤ 9) (A : List Box) : ACalls Tryz.prog 60 [.iface (vT v) (vX v)] A (fun r A' => r = .bool (decide (dep v ≤ 8) && decide (cnt v ≤ 63)) ∧ A' = A) := by
  have hc := cnt_lt hd
  refine acalls_enter (cf := cf 11 [0, 2]) foll Tryz.func60 Tryz.ntmps60 (by simp [cf]) ?_
  simp only [Tryz.f60, EnterK_some, zW, zX, zD, builtinA, isLeaf, const1, ustrA, simprocAttr, ti3, cf, Tryz.results60]
  refine wpO_invoke _ _ _ _ _ _ _ _ _ _ _ _ _ _ _ _ ?_
  simp only [zW, zX, zD, builtinA, isLeaf, const1, ustrA, simprocAttr, ti3, cf, Tryz.results60]
  refine meth_invK (met3 (by kernel_rfl) (by kernel_rfl) (by kernel_rfl) (by kernel_rfl) (by kernel_rfl) (by kernel_rfl)) (depM v hd _) rfl (fun _ => rfl) ?_
  rintro v A' ⟨rfl, rfl⟩
  simp only [zW, zX, zD, builtinA, isLeaf, const1, ustrA, simprocAttr, ti3, cf, Tryz.results60]
  by_cases h8 : dep v ≤ 8
  · have e8 : decide ((dep v : Int) ≤ 8) = true := decide_eq_true (by omega)
    rw [decide_eq_true h8]
    simp only [zW, zX, zD, builtinA, isLeaf, const1, ustrA, simprocAttr, ti3, cf, Tryz.results60, e8]
    refine wpO_invoke _ _ _ _ _ _ _ _ _ _ _ _ _ _ _ _ ?_
    simp only [zW, zX, zD, builtinA, isLeaf, const1, ustrA, simprocAttr, ti3, cf, Tryz.results60]
    refine meth_invK (met3 (by kernel_rfl) (by kernel_rfl) (by kernel_rfl) (by kernel_rfl) (by kernel_rfl) (by kernel_rfl)) (cntM v (by omega) _) rfl (fun _ => rfl) ?_
    rintro v A' ⟨rfl, rfl⟩
    simp only [zW, zX, zD, builtinA, isLeaf, const1, ustrA, simprocAttr, ti3, cf, Tryz.results60]
    simp
    omega
  · have e8 : decide ((dep v : Int) ≤ 8) = false := decide_eq_false (by omega)
    rw [decide_eq_false h8]
    simp only [zW, zX, zD, builtinA, isLeaf, const1, ustrA, simprocAttr, ti3, cf, Tryz.results60, e8]
set_option maxRecDepth 100000 in
theorem impl_readType (τ : Ty) (A : List Box) : ACalls Tryz.prog 52 [.agg (enc τ)] A (fun r A' => ((∃ v, τ = toTy v ∧ VOk v ∧ r = .tuple [.iface (vT v) (vX v), .bool true]) ∨ (validB τ = false ∧ r = .tuple [.nili, .bool false])) ∧ A' = A) := by
  refine acalls_enter (cf := cf 19 [0, 1, 2, 3, 4, 5, 17]) foll Tryz.func52 Tryz.ntmps52 (by simp [cf]) ?_
  simp only [Tryz.f52, EnterK_some, zW, zX, zD, builtinA, isLeaf, const1, ustrA, simprocAttr, ti42, ca59, ca60, cf, Tryz.results52]
  simp only [enc_take]
  refine ⟨by rw [enc_length]; omega, ?_⟩
  refine callK_intro (by simp only [zW, zX, zD, builtinA, isLeaf, const1, ustrA, simprocAttr, frzL_enc, Option.map_some]; rfl) (impl_readNode τ _ _ (by omega) (by omega)) ?_ rfl; rintro v A' ⟨rfl, rfl⟩
  cases hr : (readO τ 1).2 with
  | false =>
    have hv : validB τ = false := by
      rcases valid_cases τ with ⟨v, rfl, hv⟩ | h
      · have := hv.dep
        rw [readO_toTy v 1 hv.ok (by omega)] at hr
        cases hr
      · exact h
    simp only [zW, zX, zD, builtinA, isLeaf, const1, ustrA, simprocAttr, ti42, ca59, ca60, cf, Tryz.results52]
    exact .inr hv
  | true =>
    obtain ⟨v, rfl, hv, hd⟩ := readO_of τ 1 hr
    have hro := readO_toTy v 1 hv hd
    have hcl := cnt_lt (v := v) (k := 9) (by omega)
    rw [hro]
    simp only [ifA]
    simp only [zW, zX, zD, builtinA, isLeaf, const1, ustrA, simprocAttr, ti42, ca59, ca60, cf, Tryz.results52]
    refine callK_intro (by simp only [zW, zX, zD, builtinA, isLeaf, const1, ustrA, simprocAttr]; rfl) (impl_withinLimits v (by omega) _) ?_ rfl; rintro v A' ⟨rfl, rfl⟩
    by_cases hc : cnt v ≤ 63
    · have h8 : dep v ≤ 8 := by omega
      rw [decide_eq_true hc, decide_eq_true h8]
      simp only [zW, zX, zD, builtinA, isLeaf, const1, ustrA, simprocAttr, ti42, ca59, ca60, cf, Tryz.results52]
      exact .inl ⟨v, rfl, ⟨hv, h8, hc⟩, rfl⟩
    · have hn : validB (toTy v) = false := by
        rw [validB, count_toTy, decide_eq_false hc, Bool.and_false]
      rw [decide_eq_false hc]
      simp only [zW, zX, zD, builtinA, isLeaf, const1, ustrA, simprocAttr, ti42, ca59, ca60, cf, Tryz.results52]
      exact .inr hn
end Go.Proofs.YtejbjgmgdbcddaaGreat
