/- The methods that measure a valid type, and the functions that read one. -/
import Derived.Test.YtnocohhhinnifaaGreatAbsW3
import Derived.Test.YtnocohhhinnifaaGreatTypesVal
set_option linter.unusedVariables false
set_option linter.unusedSimpArgs false
namespace Go.Proofs.YtnocohhhinnifaaGreat
open Go.Abs

def DepM (v : VT) : Prop := ∀ A, ACalls Tryz.prog ((pickF 213 226 220) v) [vX v] A (fun r A' => r = .int .i64 (dep v) ∧ A' = A)
def CntM (v : VT) : Prop := ∀ A, ACalls Tryz.prog ((pickF 212 225 219) v) [vX v] A (fun r A' => r = .int .i64 (cnt v) ∧ A' = A)

set_option maxRecDepth 100000 in
theorem num_depth : DepM .num := fun A => by
  show ACalls Tryz.prog 213 _ _ _
  rw [vX]
  refine acalls_enter (cf := cf 3 [0, 2]) foll Tryz.func213 Tryz.ntmps213 (by simp [cf]) ?_
  simp only [Tryz.f213, EnterK_some, zW, zX, zD, builtinA, isLeaf, const1, ustrA, simprocAttr, ti206, cf, Tryz.results213]
  simp [dep]
set_option maxRecDepth 100000 in
theorem name_depth (m n : List UInt8) : DepM (.nm m n) := fun A => by
  show ACalls Tryz.prog 220 _ _ _
  rw [vX]
  refine acalls_enter (cf := cf 3 [0, 2]) foll Tryz.func220 Tryz.ntmps220 (by simp [cf]) ?_
  simp only [Tryz.f220, EnterK_some, zW, zX, zD, builtinA, isLeaf, const1, ustrA, simprocAttr, ti207, cf, Tryz.results220]
  simp [dep]
set_option maxRecDepth 100000 in
theorem num_count : CntM .num := fun A => by
  show ACalls Tryz.prog 212 _ _ _
  rw [vX]
  refine acalls_enter (cf := cf 3 [0, 2]) foll Tryz.func212 Tryz.ntmps212 (by simp [cf]) ?_
  simp only [Tryz.f212, EnterK_some, zW, zX, zD, builtinA, isLeaf, const1, ustrA, simprocAttr, ti206, cf, Tryz.results212]
  simp [cnt]
set_option maxRecDepth 100000 in
theorem name_count (m n : List UInt8) : CntM (.nm m n) := fun A => by
  show ACalls Tryz.prog 219 _ _ _
  rw [vX]
  refine acalls_enter (cf := cf 3 [0, 2]) foll Tryz.func219 Tryz.ntmps219 (by simp [cf]) ?_
  simp only [Tryz.f219, EnterK_some, zW, zX, zD, builtinA, isLeaf, const1, ustrA, simprocAttr, ti207, cf, Tryz.results219]
  simp [cnt]
set_option maxRecDepth 100000 in
theorem fun_depth (a b : VT) (ha : DepM a) (hb : DepM b) (hd : dep a < 1000 ∧ dep b < 1000) : DepM (.fn a b) := fun A => by
  show ACalls Tryz.prog 226 _ _ _
  rw [vX]
  refine acalls_enter (cf := cf 11 [0, 1, 2]) foll Tryz.func226 Tryz.ntmps226 (by simp [cf]) ?_
  simp only [Tryz.f226, EnterK_some, zW, zX, zD, builtinA, isLeaf, const1, ustrA, simprocAttr, ti3, ti128, ti211, cf, Tryz.results226]
  refine .inl ⟨by kernel_rfl, by kernel_rfl, ?_⟩
  refine wpD_invoke _ _ _ _ _ _ _ _ _ _ _ _ _ _ _ _ ?_
  simp only [zW, zX, zD, builtinA, isLeaf, const1, ustrA, simprocAttr, ti3, ti128, ti211, cf, Tryz.results226]
  refine meth_invD (met3 (by kernel_rfl) (by kernel_rfl) (by kernel_rfl) (by kernel_rfl) (by kernel_rfl) (by kernel_rfl)) (ha _) rfl (fun _ => rfl) ?_
  simp only [zW, zX, zD, builtinA, isLeaf, const1, ustrA, simprocAttr, ti3, ti128, ti211, cf, Tryz.results226]
  refine wpD_invoke _ _ _ _ _ _ _ _ _ _ _ _ _ _ _ _ ?_
  simp only [zW, zX, zD, builtinA, isLeaf, const1, ustrA, simprocAttr, ti3, ti128, ti211, cf, Tryz.results226]
  refine meth_invD (met3 (by kernel_rfl) (by kernel_rfl) (by kernel_rfl) (by kernel_rfl) (by kernel_rfl) (by kernel_rfl)) (hb _) rfl (fun _ => rfl) ?_
  simp only [zW, zX, zD, builtinA, isLeaf, const1, ustrA, simprocAttr, ti3, ti128, ti211, cf, Tryz.results226]
  rw [wrap64 (by split <;> omega) (by split <;> omega), dep]
  congr 1
  split <;> omega
set_option maxRecDepth 100000 in
theorem fun_count (a b : VT) (ha : CntM a) (hb : CntM b) (hd : cnt a < 100000 ∧ cnt b < 100000) : CntM (.fn a b) := fun A => by
  show ACalls Tryz.prog 225 _ _ _
  rw [vX]
  refine acalls_enter (cf := cf 11 [0, 1, 2]) foll Tryz.func225 Tryz.ntmps225 (by simp [cf]) ?_
  simp only [Tryz.f225, EnterK_some, zW, zX, zD, builtinA, isLeaf, const1, ustrA, simprocAttr, ti3, ti128, ti211, cf, Tryz.results225]
  refine .inl ⟨by kernel_rfl, by kernel_rfl, ?_⟩
  refine wpD_invoke _ _ _ _ _ _ _ _ _ _ _ _ _ _ _ _ ?_
  simp only [zW, zX, zD, builtinA, isLeaf, const1, ustrA, simprocAttr, ti3, ti128, ti211, cf, Tryz.results225]
  refine meth_invD (met3 (by kernel_rfl) (by kernel_rfl) (by kernel_rfl) (by kernel_rfl) (by kernel_rfl) (by kernel_rfl)) (ha _) rfl (fun _ => rfl) ?_
  simp only [zW, zX, zD, builtinA, isLeaf, const1, ustrA, simprocAttr, ti3, ti128, ti211, cf, Tryz.results225]
  refine wpD_invoke _ _ _ _ _ _ _ _ _ _ _ _ _ _ _ _ ?_
  simp only [zW, zX, zD, builtinA, isLeaf, const1, ustrA, simprocAttr, ti3, ti128, ti211, cf, Tryz.results225]
  refine meth_invD (met3 (by kernel_rfl) (by kernel_rfl) (by kernel_rfl) (by kernel_rfl) (by kernel_rfl) (by kernel_rfl)) (hb _) rfl (fun _ => rfl) ?_
  simp only [zW, zX, zD, builtinA, isLeaf, const1, ustrA, simprocAttr, ti3, ti128, ti211, cf, Tryz.results225]
  have h1 : IntKind.i64.wrap (1 + (cnt a : Int)) = 1 + cnt a := wrap64 (by omega) (by omega)
  rw [h1, wrap64 (by omega) (by omega), cnt]
  congr 1
theorem depM : ∀ v, dep v ≤ 9 → DepM v
  | .num, _ => num_depth
  | .nm m n, _ => name_depth m n
  | .fn a b, h => by
    rw [dep] at h
    exact fun_depth a b (depM a (by omega)) (depM b (by omega)) (by omega)
theorem cntM : ∀ v, cnt v < 100000 → CntM v
  | .num, _ => num_count
  | .nm m n, _ => name_count m n
  | .fn a b, h => by
    rw [cnt] at h
    exact fun_count a b (cntM a (by omega)) (cntM b (by omega)) (by omega)
set_option maxRecDepth 100000 in
theorem impl_withinLimits (v : VT) (hd : dep v ≤ 9) (A : List Box) : ACalls Tryz.prog 117 [.iface (vT v) (vX v)] A (fun r A' => r = .bool (decide (dep v ≤ 8) && decide (cnt v ≤ 63)) ∧ A' = A) := by
  have hc := cnt_lt hd
  refine acalls_enter (cf := cf 11 [0, 2]) foll Tryz.func117 Tryz.ntmps117 (by simp [cf]) ?_
  simp only [Tryz.f117, EnterK_some, zW, zX, zD, builtinA, isLeaf, const1, ustrA, simprocAttr, ti3, cf, Tryz.results117]
  refine wpO_invoke _ _ _ _ _ _ _ _ _ _ _ _ _ _ _ _ ?_
  simp only [zW, zX, zD, builtinA, isLeaf, const1, ustrA, simprocAttr, ti3, cf, Tryz.results117]
  refine meth_invK (met3 (by kernel_rfl) (by kernel_rfl) (by kernel_rfl) (by kernel_rfl) (by kernel_rfl) (by kernel_rfl)) (depM v hd _) rfl (fun _ => rfl) ?_
  rintro v A' ⟨rfl, rfl⟩
  simp only [zW, zX, zD, builtinA, isLeaf, const1, ustrA, simprocAttr, ti3, cf, Tryz.results117]
  by_cases h8 : dep v ≤ 8
  · have e8 : decide ((dep v : Int) ≤ 8) = true := decide_eq_true (by omega)
    rw [decide_eq_true h8]
    simp only [zW, zX, zD, builtinA, isLeaf, const1, ustrA, simprocAttr, ti3, cf, Tryz.results117, e8]
    refine wpO_invoke _ _ _ _ _ _ _ _ _ _ _ _ _ _ _ _ ?_
    simp only [zW, zX, zD, builtinA, isLeaf, const1, ustrA, simprocAttr, ti3, cf, Tryz.results117]
    refine meth_invK (met3 (by kernel_rfl) (by kernel_rfl) (by kernel_rfl) (by kernel_rfl) (by kernel_rfl) (by kernel_rfl)) (cntM v (by omega) _) rfl (fun _ => rfl) ?_
    rintro v A' ⟨rfl, rfl⟩
    simp only [zW, zX, zD, builtinA, isLeaf, const1, ustrA, simprocAttr, ti3, cf, Tryz.results117]
    simp
    omega
  · have e8 : decide ((dep v : Int) ≤ 8) = false := decide_eq_false (by omega)
    rw [decide_eq_false h8]
    simp only [zW, zX, zD, builtinA, isLeaf, const1, ustrA, simprocAttr, ti3, cf, Tryz.results117, e8]
set_option maxRecDepth 100000 in
theorem impl_readType (τ : Ty) (A : List Box) : ACalls Tryz.prog 100 [.agg (enc τ)] A (fun r A' => ((∃ v, τ = toTy v ∧ VOk v ∧ r = .tuple [.iface (vT v) (vX v), .bool true]) ∨ (validB τ = false ∧ r = .tuple [.nili, .bool false])) ∧ A' = A) := by
  refine acalls_enter (cf := cf 19 [0, 1, 2, 3, 4, 5, 17]) foll Tryz.func100 Tryz.ntmps100 (by simp [cf]) ?_
  simp only [Tryz.f100, EnterK_some, zW, zX, zD, builtinA, isLeaf, const1, ustrA, simprocAttr, ti40, ca116, ca117, cf, Tryz.results100]
  simp only [enc_take]
  refine ⟨by rw [enc_length]; omega, ?_⟩
  refine callK_intro (by simp only [zW, zX, zD, builtinA, isLeaf, const1, ustrA, simprocAttr, frzL_enc, Option.map_some]; rfl) (impl_readNode τ _ _ (by omega) (by omega)) ?_ rfl; rintro v A' ⟨rfl, rfl⟩
  cases hr : (readO τ 1).2 with
  | false =>
    have hv : validB τ = false := by
      rcases valid_cases τ with ⟨v, rfl, hv⟩ | h
      · have := hv.dep
        rw [readO_toTy v 1 hv.ok (by omega)] at hr
        cases hr
      · exact h
    simp only [zW, zX, zD, builtinA, isLeaf, const1, ustrA, simprocAttr, ti40, ca116, ca117, cf, Tryz.results100]
    exact .inr hv
  | true =>
    obtain ⟨v, rfl, hv, hd⟩ := readO_of τ 1 hr
    have hro := readO_toTy v 1 hv hd
    have hcl := cnt_lt (v := v) (k := 9) (by omega)
    rw [hro]
    simp only [ifA]
    simp only [zW, zX, zD, builtinA, isLeaf, const1, ustrA, simprocAttr, ti40, ca116, ca117, cf, Tryz.results100]
    refine callK_intro (by simp only [zW, zX, zD, builtinA, isLeaf, const1, ustrA, simprocAttr]; rfl) (impl_withinLimits v (by omega) _) ?_ rfl; rintro v A' ⟨rfl, rfl⟩
    by_cases hc : cnt v ≤ 63
    · have h8 : dep v ≤ 8 := by omega
      rw [decide_eq_true hc, decide_eq_true h8]
      simp only [zW, zX, zD, builtinA, isLeaf, const1, ustrA, simprocAttr, ti40, ca116, ca117, cf, Tryz.results100]
      exact .inl ⟨v, rfl, ⟨hv, h8, hc⟩, rfl⟩
    · have hn : validB (toTy v) = false := by
        rw [validB, count_toTy, decide_eq_false hc, Bool.and_false]
      rw [decide_eq_false hc]
      simp only [zW, zX, zD, builtinA, isLeaf, const1, ustrA, simprocAttr, ti40, ca116, ca117, cf, Tryz.results100]
      exact .inr hn
end Go.Proofs.YtnocohhhinnifaaGreat
