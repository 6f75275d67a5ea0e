/- Pure expressions and values. -/
import Derived.Test.YtdgjkcnojgjkfaaGreatExWalk
import Derived.Test.YtdgjkcnojgjkfaaGreatNamesX
import Derived.Test.YtdgjkcnojgjkfaaGreatAbsW3
set_option linter.unusedVariables false
set_option linter.unusedSimpArgs false
namespace Go.Proofs.YtdgjkcnojgjkfaaGreat
open Go.Abs

def noNm : VE → Bool
  | .nm _ _ => false
  | .var _ => true
  | .num _ => true
  | .fn _ b => noNm b
  | .app a b => noNm a && noNm b
  | .add a b => noNm a && noNm b
  | .ite c a b => noNm c && (noNm a && noNm b)
theorem nmsX_same : ∀ {v : VE}, noNm v = true → ∀ ns, nmsX ns v = ns
  | .var _, _, ns => rfl
  | .num _, _, ns => rfl
  | .fn _ b, h, ns => by rw [nmsX]; exact nmsX_same (v := b) h ns
  | .app a b, h, ns => by simp only [noNm, Bool.and_eq_true] at h; rw [nmsX, nmsX_same h.1, nmsX_same h.2]
  | .add a b, h, ns => by simp only [noNm, Bool.and_eq_true] at h; rw [nmsX, nmsX_same h.1, nmsX_same h.2]
  | .ite c a b, h, ns => by simp only [noNm, Bool.and_eq_true] at h; rw [nmsX, nmsX_same h.1, nmsX_same h.2.1, nmsX_same h.2.2]
theorem nmsX_grow {v : VE} {ns : List Nx} (h : 0 < ns.length) : 0 < (nmsX ns v).length := by
  have := (nmsX_len v ns).1; omega
theorem nmsX_pos : ∀ {v : VE}, noNm v = false → ∀ ns, 0 < (nmsX ns v).length
  | .var _, h, ns => by cases h
  | .num _, h, ns => by cases h
  | .nm m n, _, ns => by
    rw [nmsX, addX]
    split
    · rename_i hm; exact List.length_pos_of_mem hm
    · simp
  | .fn _ b, h, ns => by rw [nmsX]; exact nmsX_pos (v := b) h ns
  | .app a b, h, ns => by
    rw [nmsX]
    cases ha : noNm a with
    | false => exact nmsX_grow (nmsX_pos ha ns)
    | true => simp only [noNm, ha, Bool.true_and] at h; exact nmsX_pos h _
  | .add a b, h, ns => by
    rw [nmsX]
    cases ha : noNm a with
    | false => exact nmsX_grow (nmsX_pos ha ns)
    | true => simp only [noNm, ha, Bool.true_and] at h; exact nmsX_pos h _
  | .ite c a b, h, ns => by
    rw [nmsX]
    cases hc : noNm c with
    | false => exact nmsX_grow (nmsX_grow (nmsX_pos hc ns))
    | true =>
      cases ha : noNm a with
      | false => exact nmsX_grow (nmsX_pos ha _)
      | true => simp only [noNm, hc, ha, Bool.true_and] at h; exact nmsX_pos h _
theorem nmsX_nil (v : VE) : decide ((((nmsX [] v).length : Nat) : Int) = 0) = noNm v := by
  cases h : noNm v with
  | true => rw [nmsX_same h]; rfl
  | false => have := nmsX_pos h []; exact decide_eq_false (by omega)

def noF (v : VE) (_ : Int) (b : Bool) : Bool := if kindE v = 3 then false else b
theorem walk_no : ∀ (v : VE) (d : Int) (b : Bool), walkF noF v d b = (b && noNm v)
  | .var _, d, b => by simp [walkF, noF, kindE, noNm]
  | .num _, d, b => by simp [walkF, noF, kindE, noNm]
  | .nm _ _, d, b => by simp [walkF, noF, kindE, noNm]
  | .fn t e, d, b => by rw [walkF, walk_no e]; simp [noF, kindE, noNm]
  | .app x y, d, b => by rw [walkF, walk_no y, walk_no x]; simp [noF, kindE, noNm, Bool.and_assoc]
  | .add x y, d, b => by rw [walkF, walk_no y, walk_no x]; simp [noF, kindE, noNm, Bool.and_assoc]
  | .ite c x y, d, b => by rw [walkF, walk_no y, walk_no x, walk_no c]; simp [noF, kindE, noNm, Bool.and_assoc]
theorem assert_nm (v : VE) : ∃ a b, ∀ A, assertA 87 [.str [], .str []] (.iface (vtE v) (vxE v)) A = some (True, .tuple [.agg [a, b], .bool (decide (kindE v = 3))], A) := by
  cases v <;> exact ⟨_, _, fun _ => rfl⟩
def BoI (i : Nat) (A0 : List Box) (b : Bool) (A : List Box) : Prop := i < A.length ∧ A.getD i .dead = .cells [.bool b] ∧ A.take i = A0
theorem BoI.app {i : Nat} {A0 : List Box} (b : Bool) (A L : List Box) (h : BoI i A0 b A) : BoI i A0 b (A ++ L) :=
  ⟨by have := h.1; simp; omega, by rw [Abs.getD_append_left h.1]; exact h.2.1, by rw [List.take_append_of_le_length (by have := h.1; omega)]; exact h.2.2⟩
theorem BoI.set {i : Nat} {A0 : List Box} {b : Bool} {A : List Box} (h : BoI i A0 b A) (b' : Bool) : BoI i A0 b' (A.set i (.cells [.bool b'])) :=
  ⟨by simpa using h.1, getD_set1 h.1, by rw [List.take_set_of_le (Nat.le_refl _)]; exact h.2.2⟩

set_option maxRecDepth 100000 in
theorem pure_vis (i : Nat) (A0 : List Box) : VisM (BoI i A0) noF 106 [.ptr i 0] := by
  intro v d b A ho h0 h1 hI
  obtain ⟨ca, cb, has⟩ := assert_nm v
  have hI2 := hI.app _ _ [.cells [ca, cb]]
  have hgA := hI2.2.1
  have hi := hI2.1
  rw [ifE]
  by_cases k3 : kindE v = 3
  · have hf : noF v d b = false := by rw [noF, if_pos k3]
    have hs := hI2.set false
    rw [hf]
    refine acalls_enterK (cf := cf 13 [0, 2, 6, 12]) foll Tryz.func106 Tryz.ntmps106 (by simp [cf]) ?_
    simp only [Tryz.f106, EnterK_some, zW, zX, zD, builtinA, isLeaf, const1, ustrA, simprocAttr, ti4, ti62, ti87, za87, cf, Tryz.results106]
    simp only [zW, zX, zD, builtinA, isLeaf, const1, ustrA, simprocAttr, ti4, ti62, ti87, za87, cf, Tryz.results106, wpO_typeAssert, has, decide_eq_true k3, hgA, hi]
    exact hs
  · have hf : noF v d b = b := by rw [noF, if_neg k3]
    rw [hf]
    refine acalls_enterK (cf := cf 13 [0, 2, 6, 12]) foll Tryz.func106 Tryz.ntmps106 (by simp [cf]) ?_
    simp only [Tryz.f106, EnterK_some, zW, zX, zD, builtinA, isLeaf, const1, ustrA, simprocAttr, ti4, ti62, ti87, za87, cf, Tryz.results106]
    simp only [zW, zX, zD, builtinA, isLeaf, const1, ustrA, simprocAttr, ti4, ti62, ti87, za87, cf, Tryz.results106, wpO_typeAssert, has, decide_eq_false k3, hgA]
    exact hI2
/-- closed, without names -/
def pureE (v : VE) : Bool := decide (mostE v 0 = 0) && noNm v
set_option maxRecDepth 100000 in
theorem impl_isPure (v : VE) (ho : okE v) (hd : depE v ≤ 900) (A : List Box) : ACalls Tryz.prog 78 [ifE v] A (fun r A' => r = .bool (pureE v) ∧ A' = A) := by
  have hI : ∀ b, BoI A.length A b (A ++ [.cells [.bool b]]) := fun b => ⟨by simp, by rw [Abs.getD_append_right (by omega)]; simp, by simp⟩
  have hwk := fun b => impl_walk (BoI A.length A) (fun s A L h => h.app _ _ _) noF 106 (by kernel_rfl) [.ptr A.length 0] (pure_vis A.length A) v 0 b _ ho (by omega) (by omega) (hI b)
  simp only [walk_no] at hwk
  have hm := impl_maxFree v ho hd
  rw [ifE] at hwk hm ⊢
  refine acalls_enter (cf := cf 11 [0, 2, 3]) foll Tryz.func78 Tryz.ntmps78 (by simp [cf]) ?_
  simp only [Tryz.f78, EnterK_some, zW, zX, zD, builtinA, isLeaf, const1, ustrA, simprocAttr, ti3, ti4, ca46, ca83, cf, Tryz.results78]
  refine callO_intro (hm _) ?_
  rintro r A1 ⟨rfl, hA⟩
  have hA := hA.symm
  subst hA
  simp only [zW, zX, zD, builtinA, isLeaf, const1, ustrA, simprocAttr, ti3, ti4, ca46, ca83, cf, Tryz.results78]
  refine callO_intro (hwk _) ?_
  rintro r A1 ⟨h1, h2, h3⟩
  have ho1 := outer_take h3 (by omega)
  simp only [zW, zX, zD, builtinA, isLeaf, const1, ustrA, simprocAttr, ti3, ti4, ca46, ca83, cf, Tryz.results78, h2]
  exact ⟨ho1, rfl, h3⟩

/-- what reading a pure expression answers -/
noncomputable def pureX (x : Ex) : Bool := by
  classical exact if h : ∃ v, x = toX v ∧ EOk v then pureE h.choose else false
theorem pureX_toX {v : VE} (h : EOk v) : pureX (toX v) = pureE v := by
  unfold pureX
  have h2 : ∃ w, toX v = toX w ∧ EOk w := ⟨v, rfl, h⟩
  rw [dif_pos h2, ← toX_inj h2.choose_spec.1]
theorem pureX_bad {x : Ex} (h : validX x = false) : pureX x = false := by
  unfold pureX
  rw [dif_neg]
  rintro ⟨v, rfl, hv⟩
  rw [validX_toX hv] at h; cases h
set_option maxRecDepth 100000 in
theorem impl_readPure (x : Ex) (hx : szX x ≤ 1048576) (A : List Box) : ACalls Tryz.prog 37 [.agg (encX x)] A (fun r A' => ∃ B, A' = A ++ B ∧ ((∃ v, x = toX v ∧ EOk v ∧ r = .tuple [ifE v, .bool (pureE v)]) ∨ (validX x = false ∧ ∃ w, r = .tuple [w, .bool false]))) := by
  refine acalls_enterK (cf := cf 17 [0, 1, 2, 3, 4, 5]) foll Tryz.func37 Tryz.ntmps37 (by simp [cf]) ?_
  simp only [Tryz.f37, EnterK_some, zW, zX, zD, builtinA, isLeaf, const1, ustrA, simprocAttr, ti35, ca45, ca78, cf, Tryz.results37]
  simp only [zW, zX, zD, builtinA, isLeaf, const1, ustrA, simprocAttr, ti35, ca45, ca78, cf, Tryz.results37, encX_length, encX_take]
  refine callK_intro (by simp only [zW, zX, zD, builtinA, isLeaf, const1, ustrA, simprocAttr, frzL_encX, Option.map_some] <;> rfl) (impl_readExpr x hx _) ?_ rfl
  rintro r A' ⟨⟨v, rfl, hv, rfl⟩ | ⟨hb, w, rfl⟩, rfl⟩
  · have hp := fun A => impl_isPure v hv.ok (by have := hv.dep; omega) A
    rw [ifE] at hp ⊢
    simp only [zW, zX, zD, builtinA, isLeaf, const1, ustrA, simprocAttr, ti35, ca45, ca78, cf, Tryz.results37]
    refine callK_intro (by simp only [zW, zX, zD, builtinA, isLeaf, const1, ustrA, simprocAttr, Option.map_some]; rfl) (hp _) ?_ rfl; rintro v A' ⟨rfl, rfl⟩
    simp only [zW, zX, zD, builtinA, isLeaf, const1, ustrA, simprocAttr, ti35, ca45, ca78, cf, Tryz.results37]
    exact ⟨_, rfl, .inl ⟨v, rfl, hv, rfl⟩⟩
  · simp only [zW, zX, zD, builtinA, isLeaf, const1, ustrA, simprocAttr, ti35, ca45, ca78, cf, Tryz.results37]
    exact ⟨_, rfl, .inr ⟨hb, _, rfl⟩⟩
def valE (v : VE) : Bool := decide (kindE v = 2) || decide (kindE v = 4)
theorem assert_num (v : VE) : ∃ a, ∀ A, assertA 124 [.int .i64 0] (.iface (vtE v) (vxE v)) A = some (True, .tuple [.agg [a], .bool (decide (kindE v = 2))], A) := by
  cases v <;> exact ⟨_, fun _ => rfl⟩
set_option maxRecDepth 100000 in
theorem impl_isValue (v : VE) (A : List Box) : ACalls Tryz.prog 41 [ifE v] A (fun r A' => r = .bool (valE v) ∧ A' = A) := by
  obtain ⟨ca, cb, h4⟩ := assert_fn v
  obtain ⟨cn, h2⟩ := assert_num v
  rw [ifE]
  by_cases k2 : kindE v = 2
  · have hv : valE v = true := by simp [valE, k2]
    rw [hv]
    refine acalls_enter (cf := cf 11 [0, 2, 3, 10]) foll Tryz.func41 Tryz.ntmps41 (by simp [cf]) ?_
    simp only [Tryz.f41, EnterK_some, zW, zX, zD, builtinA, isLeaf, const1, ustrA, simprocAttr, ti62, ti124, ti128, za124, za128, cf, Tryz.results41]
    simp only [zW, zX, zD, builtinA, isLeaf, const1, ustrA, simprocAttr, ti62, ti124, ti128, za124, za128, cf, Tryz.results41, wpO_typeAssert, h2, h4, decide_eq_true k2]
    done
  · by_cases k4 : kindE v = 4
    · have hv : valE v = true := by simp [valE, k4]
      rw [hv]
      refine acalls_enter (cf := cf 11 [0, 2, 3, 10]) foll Tryz.func41 Tryz.ntmps41 (by simp [cf]) ?_
      simp only [Tryz.f41, EnterK_some, zW, zX, zD, builtinA, isLeaf, const1, ustrA, simprocAttr, ti62, ti124, ti128, za124, za128, cf, Tryz.results41]
      simp only [zW, zX, zD, builtinA, isLeaf, const1, ustrA, simprocAttr, ti62, ti124, ti128, za124, za128, cf, Tryz.results41, wpO_typeAssert, h2, h4, decide_eq_false k2, decide_eq_true k4]
    · have hv : valE v = false := by simp [valE, k2, k4]
      rw [hv]
      refine acalls_enter (cf := cf 11 [0, 2, 3, 10]) foll Tryz.func41 Tryz.ntmps41 (by simp [cf]) ?_
      simp only [Tryz.f41, EnterK_some, zW, zX, zD, builtinA, isLeaf, const1, ustrA, simprocAttr, ti62, ti124, ti128, za124, za128, cf, Tryz.results41]
      simp only [zW, zX, zD, builtinA, isLeaf, const1, ustrA, simprocAttr, ti62, ti124, ti128, za124, za128, cf, Tryz.results41, wpO_typeAssert, h2, h4, decide_eq_false k2, decide_eq_false k4]
set_option maxRecDepth 100000 in
theorem impl_PureExpr (x : Ex) (hx : szX x ≤ 1048576) (A : List Box) : ACalls Tryz.prog 12 [.agg (encX x)] A (fun r A' => r = .bool (pureX x) ∧ A' = A) := by
  refine acalls_enter (cf := cf 11 [0, 1, 2, 4]) foll Tryz.func12 Tryz.ntmps12 (by simp [cf]) ?_
  simp only [Tryz.f12, EnterK_some, zW, zX, zD, builtinA, isLeaf, const1, ustrA, simprocAttr, ti35, ca37, cf, Tryz.results12]
  simp only [zW, zX, zD, builtinA, isLeaf, const1, ustrA, simprocAttr, ti35, ca37, cf, Tryz.results12, encX_length, encX_take]
  refine callK_intro (by simp only [zW, zX, zD, builtinA, isLeaf, const1, ustrA, simprocAttr, frzL_encX, Option.map_some] <;> rfl) (impl_readPure x hx _) ?_ rfl
  rintro r A' ⟨B, rfl, ⟨v, rfl, hv, rfl⟩ | ⟨hb, w, rfl⟩⟩
  · rw [pureX_toX hv]
    simp only [zW, zX, zD, builtinA, isLeaf, const1, ustrA, simprocAttr, ti35, ca37, cf, Tryz.results12]
  · rw [pureX_bad hb]
    simp only [zW, zX, zD, builtinA, isLeaf, const1, ustrA, simprocAttr, ti35, ca37, cf, Tryz.results12]
noncomputable def valX (x : Ex) : Bool := by
  classical exact if h : ∃ v, x = toX v ∧ EOk v then pureE h.choose && valE h.choose else false
theorem valX_toX {v : VE} (h : EOk v) : valX (toX v) = (pureE v && valE v) := by
  unfold valX
  have h2 : ∃ w, toX v = toX w ∧ EOk w := ⟨v, rfl, h⟩
  rw [dif_pos h2, ← toX_inj h2.choose_spec.1]
theorem valX_bad {x : Ex} (h : validX x = false) : valX x = false := by
  unfold valX
  rw [dif_neg]
  rintro ⟨v, rfl, hv⟩
  rw [validX_toX hv] at h; cases h
set_option maxRecDepth 100000 in
theorem impl_ValueExpr (x : Ex) (hx : szX x ≤ 1048576) (A : List Box) : ACalls Tryz.prog 15 [.agg (encX x)] A (fun r A' => r = .bool (valX x) ∧ A' = A) := by
  refine acalls_enter (cf := cf 15 [0, 1, 2, 3, 4]) foll Tryz.func15 Tryz.ntmps15 (by simp [cf]) ?_
  simp only [Tryz.f15, EnterK_some, zW, zX, zD, builtinA, isLeaf, const1, ustrA, simprocAttr, ti35, ca37, ca41, cf, Tryz.results15]
  simp only [zW, zX, zD, builtinA, isLeaf, const1, ustrA, simprocAttr, ti35, ca37, ca41, cf, Tryz.results15, encX_length, encX_take]
  refine callK_intro (by simp only [zW, zX, zD, builtinA, isLeaf, const1, ustrA, simprocAttr, frzL_encX, Option.map_some] <;> rfl) (impl_readPure x hx _) ?_ rfl
  rintro r A' ⟨B, rfl, ⟨v, rfl, hv, rfl⟩ | ⟨hb, w, rfl⟩⟩
  · rw [valX_toX hv]
    cases hp : pureE v with
    | false =>
      simp only [zW, zX, zD, builtinA, isLeaf, const1, ustrA, simprocAttr, ti35, ca37, ca41, cf, Tryz.results15]
    | true =>
      have hi := fun A => impl_isValue v A
      rw [ifE] at hi ⊢
      simp only [zW, zX, zD, builtinA, isLeaf, const1, ustrA, simprocAttr, ti35, ca37, ca41, cf, Tryz.results15]
      refine callK_intro (by simp only [zW, zX, zD, builtinA, isLeaf, const1, ustrA, simprocAttr, Option.map_some]; rfl) (hi _) ?_ rfl; rintro v A' ⟨rfl, rfl⟩
      simp only [zW, zX, zD, builtinA, isLeaf, const1, ustrA, simprocAttr, ti35, ca37, ca41, cf, Tryz.results15]
  · rw [valX_bad hb]
    simp only [zW, zX, zD, builtinA, isLeaf, const1, ustrA, simprocAttr, ti35, ca37, ca41, cf, Tryz.results15]

theorem frx_outer {A B A' : List Box} {r : AV} (h : FrX .nils r (A ++ B) A') : Outer A A' ∧ A'.take A.length = A := by
  have hg : ∀ k, k < A.length → A'.getD k .dead = A.getD k .dead := fun k hk => by
    rw [h.2.2 k (by simp; omega) (by intro e; cases e), Abs.getD_append_left hk]
  have hle : A.length ≤ A'.length := by have := h.1; simp at this; omega
  refine ⟨⟨hle, fun i hi => .inl (hg i hi)⟩, List.ext_getElem? fun k => ?_⟩
  by_cases hk : k < A.length
  · have := hg k hk
    simp only [List.getD] at this
    have e1 : k < A'.length := by omega
    simp only [List.getElem?_take, hk, if_true]
    simpa [hk, e1] using this
  · simp [List.getElem?_take, hk]
/-! ### the model -/
set_option maxRecDepth 100000 in
theorem spec_l6Pure (v : VE) (hv : EOk v) (A : List Box) : ACalls Tryz.prog 34 [.agg (encX (toX v))] A (fun r A' => r = .bool (pureE v) ∧ A' = A) := by
  have hms := fun A => spec_l4Most v 0 A hv.ok (by omega) (by have := hv.dep; omega)
  have hnm := fun A => namesX v A [] .nils hv.ok (by have := hv.cnt; simp; omega) (.inl ⟨rfl, rfl⟩)
  have hnl := nmsX_nil v
  generalize toX v = x at *
  refine acalls_enter (cf := cf 12 [0, 1, 2]) foll Tryz.func34 Tryz.ntmps34 (by simp [cf]) ?_
  simp only [Tryz.f34, EnterK_some, zW, zX, zD, builtinA, isLeaf, const1, ustrA, simprocAttr, ti3, ti33, ti35, ca42, ca76, cf, Tryz.results34]
  simp only [zW, zX, zD, builtinA, isLeaf, const1, ustrA, simprocAttr, ti3, ti33, ti35, ca42, ca76, cf, Tryz.results34, encX_length, encX_take]
  refine callK_intro (by simp only [zW, zX, zD, builtinA, isLeaf, const1, ustrA, simprocAttr, frzL_encX, Option.map_some]; rfl) (hms _) ?_ rfl; rintro v A' ⟨rfl, rfl⟩
  by_cases h0 : mostE v 0 = 0
  · simp only [zW, zX, zD, builtinA, isLeaf, const1, ustrA, simprocAttr, ti3, ti33, ti35, ca42, ca76, cf, Tryz.results34, decide_eq_true h0, encX_length, encX_take]
    refine callO_intro (hnm _) ?_
    rintro r A' ⟨hO, hF⟩
    obtain ⟨ho1, ho2⟩ := frx_outer hF
    rcases hO with ⟨rfl, hns⟩ | ⟨j, rfl, hj, hA⟩
    · rw [hns] at hnl
      simp only [zW, zX, zD, builtinA, isLeaf, const1, ustrA, simprocAttr, ti3, ti33, ti35, ca42, ca76, cf, Tryz.results34]
      refine ⟨ho1, ?_, ho2⟩
      rw [pureE, ← hnl]; simp [h0]
    · simp only [zW, zX, zD, builtinA, isLeaf, const1, ustrA, simprocAttr, ti3, ti33, ti35, ca42, ca76, cf, Tryz.results34, hA, nxRows_length, hnl]
      refine ⟨ho1, ?_, ho2⟩
      rw [pureE]; simp [h0]
  · simp only [zW, zX, zD, builtinA, isLeaf, const1, ustrA, simprocAttr, ti3, ti33, ti35, ca42, ca76, cf, Tryz.results34, decide_eq_false h0]
    simp [pureE, h0]

set_option maxRecDepth 100000 in
theorem spec_PureExpr (x : Ex) (hx : x.Ok) (hz : szX x ≤ 1048576) (A : List Box) : ACalls Tryz.prog 10 [.agg (encX x)] A (fun r A' => r = .bool (pureX x) ∧ A' = A) := by
  have hv := fun A => spec_ExprValid x hx hz A
  have hp := fun v (h : EOk v) (he : x = toX v) A => he ▸ spec_l6Pure v h A
  refine acalls_enter (cf := cf 9 [0, 1, 2]) foll Tryz.func10 Tryz.ntmps10 (by simp [cf]) ?_
  simp only [Tryz.f10, EnterK_some, zW, zX, zD, builtinA, isLeaf, const1, ustrA, simprocAttr, ti35, ca33, ca34, cf, Tryz.results10]
  simp only [zW, zX, zD, builtinA, isLeaf, const1, ustrA, simprocAttr, ti35, ca33, ca34, cf, Tryz.results10, encX_length, encX_take]
  refine callK_intro (by simp only [zW, zX, zD, builtinA, isLeaf, const1, ustrA, simprocAttr, frzL_encX, Option.map_some]; rfl) (hv _) ?_ rfl; rintro v A' ⟨rfl, rfl⟩
  rcases validX_cases x with ⟨v, hxv, hv⟩ | hb
  · have hva : validX x = true := by rw [hxv]; exact validX_toX hv
    have hpx : pureX x = pureE v := by rw [hxv]; exact pureX_toX hv
    have hp2 := hp v hv hxv
    rw [hpx]
    simp only [zW, zX, zD, builtinA, isLeaf, const1, ustrA, simprocAttr, ti35, ca33, ca34, cf, Tryz.results10, hva, encX_length, encX_take]
    refine callK_intro (by simp only [zW, zX, zD, builtinA, isLeaf, const1, ustrA, simprocAttr, frzL_encX, Option.map_some]; rfl) (hp2 _) ?_ rfl; rintro v A' ⟨rfl, rfl⟩
    simp only [zW, zX, zD, builtinA, isLeaf, const1, ustrA, simprocAttr, ti35, ca33, ca34, cf, Tryz.results10]
  · rw [pureX_bad hb]
    simp only [zW, zX, zD, builtinA, isLeaf, const1, ustrA, simprocAttr, ti35, ca33, ca34, cf, Tryz.results10, hb]
set_option maxRecDepth 100000 in
theorem spec_l6Value (v : VE) (A : List Box) : ACalls Tryz.prog 40 [.agg (encX (toX v))] A (fun r A' => r = .bool (valE v) ∧ A' = A) := by
  rw [encX_node]
  by_cases k2 : kindE v = 2
  · have hv : valE v = true := by simp [valE, k2]
    rw [hv]
    refine acalls_enter (cf := cf 11 [0, 1, 2]) foll Tryz.func40 Tryz.ntmps40 (by simp [cf]) ?_
    simp only [Tryz.f40, EnterK_some, zW, zX, zD, builtinA, isLeaf, const1, ustrA, simprocAttr, ti3, ti35, cf, Tryz.results40]
    simp only [zW, zX, zD, builtinA, isLeaf, const1, ustrA, simprocAttr, ti3, ti35, cf, Tryz.results40, decide_eq_true k2]
  · have hv : valE v = decide (kindE v = 4) := by simp [valE, k2]
    rw [hv]
    refine acalls_enter (cf := cf 11 [0, 1, 2]) foll Tryz.func40 Tryz.ntmps40 (by simp [cf]) ?_
    simp only [Tryz.f40, EnterK_some, zW, zX, zD, builtinA, isLeaf, const1, ustrA, simprocAttr, ti3, ti35, cf, Tryz.results40]
    simp only [zW, zX, zD, builtinA, isLeaf, const1, ustrA, simprocAttr, ti3, ti35, cf, Tryz.results40, decide_eq_false k2]
set_option maxRecDepth 100000 in
theorem spec_ValueExpr (x : Ex) (hx : x.Ok) (hz : szX x ≤ 1048576) (A : List Box) : ACalls Tryz.prog 14 [.agg (encX x)] A (fun r A' => r = .bool (valX x) ∧ A' = A) := by
  have hp := fun A => spec_PureExpr x hx hz A
  have hvl := fun v (he : x = toX v) A => he ▸ spec_l6Value v A
  refine acalls_enter (cf := cf 9 [0, 1, 2]) foll Tryz.func14 Tryz.ntmps14 (by simp [cf]) ?_
  simp only [Tryz.f14, EnterK_some, zW, zX, zD, builtinA, isLeaf, const1, ustrA, simprocAttr, ti35, ca10, ca40, cf, Tryz.results14]
  simp only [zW, zX, zD, builtinA, isLeaf, const1, ustrA, simprocAttr, ti35, ca10, ca40, cf, Tryz.results14, encX_length, encX_take]
  refine callK_intro (by simp only [zW, zX, zD, builtinA, isLeaf, const1, ustrA, simprocAttr, frzL_encX, Option.map_some]; rfl) (hp _) ?_ rfl; rintro v A' ⟨rfl, rfl⟩
  rcases validX_cases x with ⟨v, hxv, hv⟩ | hb
  · have hpx : pureX x = pureE v := by rw [hxv]; exact pureX_toX hv
    have hvx : valX x = (pureE v && valE v) := by rw [hxv]; exact valX_toX hv
    have hv2 := hvl v hxv
    rw [hpx, hvx]
    cases hpe : pureE v with
    | false => simp only [zW, zX, zD, builtinA, isLeaf, const1, ustrA, simprocAttr, ti35, ca10, ca40, cf, Tryz.results14]
    | true =>
      simp only [zW, zX, zD, builtinA, isLeaf, const1, ustrA, simprocAttr, ti35, ca10, ca40, cf, Tryz.results14, encX_length, encX_take]
      refine callK_intro (by simp only [zW, zX, zD, builtinA, isLeaf, const1, ustrA, simprocAttr, frzL_encX, Option.map_some]; rfl) (hv2 _) ?_ rfl; rintro v A' ⟨rfl, rfl⟩
      simp only [zW, zX, zD, builtinA, isLeaf, const1, ustrA, simprocAttr, ti35, ca10, ca40, cf, Tryz.results14]
  · rw [pureX_bad hb, valX_bad hb]
    simp only [zW, zX, zD, builtinA, isLeaf, const1, ustrA, simprocAttr, ti35, ca10, ca40, cf, Tryz.results14]
end Go.Proofs.YtdgjkcnojgjkfaaGreat
