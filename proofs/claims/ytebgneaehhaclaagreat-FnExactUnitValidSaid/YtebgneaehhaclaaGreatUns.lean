/- Units as data, what the laws' helpers do with them, and a law's argument that is a unit. -/
import Derived.Test.YtebgneaehhaclaaGreatImLaw
import Derived.Test.YtebgneaehhaclaaGreatItLaw
import Derived.Test.YtebgneaehhaclaaGreatAbsW3
set_option linter.unusedVariables false
set_option linter.unusedSimpArgs false
namespace Go.Proofs.YtebgneaehhaclaaGreat
open Go.Abs Go.RowKit Go.ChangeShapes Go.WideShapes Go.ChangeAt Go.ChangeMaps

structure UnI where
  name : List UInt8
  params : List ImI
  body : List ItI
  face : List SigI
def uE (x : UnI) : List AV := [.str x.name, .slice (pEs x.params), .slice (iEs x.body), .slice (sEs x.face)]
def uEA (x : UnI) : List AV := [.str x.name, .aslice (pEAs x.params), .aslice (iEAs x.body), .aslice (sEAs x.face)]
def szUp (x : UnI) : Nat := x.name.length + (x.params.length + szPs x.params)
def szUb (x : UnI) : Nat := szUp x + (x.body.length + szJs x.body)
def szU (x : UnI) : Nat := szUb x + (x.face.length + szIs x.face)
def UnI.Ok (x : UnI) : Prop := x.name.length < 2 ^ 63 ∧ ImsOk x.params ∧ ItsOk x.body ∧ SigsOk x.face
theorem uE_length (x : UnI) : (uE x).length = 4 := rfl
theorem uEA_length (x : UnI) : (uEA x).length = 4 := rfl
theorem uE_take (x : UnI) : List.take 4 (uE x) = uE x := rfl
theorem uEA_take (x : UnI) : List.take 4 (uEA x) = uEA x := rfl
theorem frzL_uE (x : UnI) (A : List Box) : frzL (uE x) A = some (uE x, A) := rfl
theorem frzL_uEA (x : UnI) (A : List Box) : frzL (uEA x) A = some (uEA x, A) := rfl

theorem left_add {l : Int} {a b : Nat} (h : ((a : Nat) : Int) ≤ l) : left (l - (a : Nat)) b = left l (a + b) := by
  unfold left
  by_cases h2 : ((b : Nat) : Int) ≤ l - (a : Nat)
  · rw [if_pos h2, if_pos (by omega)]; omega
  · rw [if_neg h2, if_neg (by omega)]
theorem left_over {l : Int} {a b : Nat} (h : ¬ ((a : Nat) : Int) ≤ l) : left l (a + b) = -1 := by
  unfold left
  rw [if_neg (by omega)]
theorem left_yes {l : Int} {a : Nat} (h : ((a : Nat) : Int) ≤ l) : left l a = l - (a : Nat) := by unfold left; rw [if_pos h]
theorem left_no {l : Int} {a : Nat} (h : ¬ ((a : Nat) : Int) ≤ l) : left l a = -1 := by unfold left; rw [if_neg h]

set_option maxRecDepth 100000 in
theorem laws_szUnit (x : UnI) (hx : x.Ok) (l : Int) (A : List Box) (h0 : 0 ≤ l) (h1 : l ≤ 1048576) :
    ACalls Tryz.prog 6 [.agg (uEA x), .int .i64 l] A (fun v A' => v = .int .i64 (left l (szU x)) ∧ A' = A) := by
  have hw : IntKind.i64.wrap (l - ↑x.name.length) = l - x.name.length := wrap64 (by have := hx.1; omega) (by have := hx.1; omega)
  obtain ⟨hx1, hx2, hx3, hx4⟩ := hx
  rw [uEA]
  refine acalls_enter (cf := cf 31 [0, 1, 2, 4, 11, 17, 23, 29]) foll Tryz.func6 Tryz.ntmps6 (by simp [cf]) ?_
  simp only [Tryz.f6, EnterK_some, zW, zX, zD, builtinA, isLeaf, const1, ustrA, simprocAttr, ti3, ti9, ti22, ti23, ti24, ti26, ti107, ti118, ti121, ca16, ca21, ca22, cf, Tryz.results6]
  rw [hw]
  refine condK_intro (fun h => ?_) (fun h => ?_)
  · simp only [decide_eq_true_eq] at h
    simp only [zW, zX, zD, builtinA, isLeaf, const1, ustrA, simprocAttr, ti3, ti9, ti22, ti23, ti24, ti26, ti107, ti118, ti121, ca16, ca21, ca22, cf, Tryz.results6]
    rw [left_no (by unfold szU szUb szUp; omega)]
  · simp only [decide_eq_false_iff_not] at h
    have hl1 := left_add (l := l) (a := x.name.length) (b := x.params.length + szPs x.params) (by omega)
    have e1 : x.name.length + (x.params.length + szPs x.params) = szUp x := rfl
    rw [e1] at hl1
    simp only [zW, zX, zD, builtinA, isLeaf, const1, ustrA, simprocAttr, ti3, ti9, ti22, ti23, ti24, ti26, ti107, ti118, ti121, ca16, ca21, ca22, cf, Tryz.results6]
    refine callK_intro (by simp only [zW, zX, zD, builtinA, isLeaf, const1, ustrA, simprocAttr, Option.map_some]; rfl) (laws_szImportS x.params hx2.1 hx2.2 _ _ (by omega) (by omega)) ?_ rfl; rintro v A' ⟨rfl, rfl⟩
    rw [hl1]
    by_cases hf : ((szUp x : Nat) : Int) ≤ l
    · have hl2 := left_add (l := l) (a := szUp x) (b := x.body.length + szJs x.body) hf
      have e2 : szUp x + (x.body.length + szJs x.body) = szUb x := rfl
      rw [e2] at hl2
      have hn : decide (l - szUp x < 0) = false := by simp only [decide_eq_false_iff_not]; omega
      rw [left_yes hf]
      simp only [zW, zX, zD, builtinA, isLeaf, const1, ustrA, simprocAttr, ti3, ti9, ti22, ti23, ti24, ti26, ti107, ti118, ti121, ca16, ca21, ca22, cf, Tryz.results6, hn]
      refine callK_intro (by simp only [zW, zX, zD, builtinA, isLeaf, const1, ustrA, simprocAttr, Option.map_some]; rfl) (laws_szItemS x.body hx3.1 hx3.2 _ _ (by omega) (by omega)) ?_ rfl; rintro v A' ⟨rfl, rfl⟩
      rw [hl2]
      by_cases hg : ((szUb x : Nat) : Int) ≤ l
      · have hl3 := left_add (l := l) (a := szUb x) (b := x.face.length + szIs x.face) hg
        have e3 : szUb x + (x.face.length + szIs x.face) = szU x := rfl
        rw [e3] at hl3
        have hn2 : decide (l - szUb x < 0) = false := by simp only [decide_eq_false_iff_not]; omega
        rw [left_yes hg]
        simp only [zW, zX, zD, builtinA, isLeaf, const1, ustrA, simprocAttr, ti3, ti9, ti22, ti23, ti24, ti26, ti107, ti118, ti121, ca16, ca21, ca22, cf, Tryz.results6, hn2]
        refine callK_intro (by simp only [zW, zX, zD, builtinA, isLeaf, const1, ustrA, simprocAttr, Option.map_some]; rfl) (laws_szSigItemS x.face hx4.1 hx4.2 _ _ (by omega) (by omega)) ?_ rfl; rintro v A' ⟨rfl, rfl⟩
        rw [hl3]
        by_cases hh : ((szU x : Nat) : Int) ≤ l
        · have hn3 : decide (l - szU x < 0) = false := by simp only [decide_eq_false_iff_not]; omega
          rw [left_yes hh]
          simp only [zW, zX, zD, builtinA, isLeaf, const1, ustrA, simprocAttr, ti3, ti9, ti22, ti23, ti24, ti26, ti107, ti118, ti121, ca16, ca21, ca22, cf, Tryz.results6, hn3]
        · rw [left_no hh]
          simp only [zW, zX, zD, builtinA, isLeaf, const1, ustrA, simprocAttr, ti3, ti9, ti22, ti23, ti24, ti26, ti107, ti118, ti121, ca16, ca21, ca22, cf, Tryz.results6]
      · rw [left_no hg, left_no (a := szU x) (by unfold szU; omega)]
        simp only [zW, zX, zD, builtinA, isLeaf, const1, ustrA, simprocAttr, ti3, ti9, ti22, ti23, ti24, ti26, ti107, ti118, ti121, ca16, ca21, ca22, cf, Tryz.results6]
    · rw [left_no hf, left_no (a := szU x) (by unfold szU szUb; omega)]
      simp only [zW, zX, zD, builtinA, isLeaf, const1, ustrA, simprocAttr, ti3, ti9, ti22, ti23, ti24, ti26, ti107, ti118, ti121, ca16, ca21, ca22, cf, Tryz.results6]

set_option maxRecDepth 100000 in
theorem laws_toUnit (x : UnI) (hx : szU x ≤ 1048576) (A : List Box) : ACalls Tryz.prog 8 [.agg (uEA x)] A (fun v A' => v = .agg (uE x) ∧ A' = A) := by
  have h1 : (x.params.length ≤ 1048576 ∧ szPs x.params ≤ 1048576) ∧ (x.body.length ≤ 1048576 ∧ szJs x.body ≤ 1048576) ∧ (x.face.length ≤ 1048576 ∧ szIs x.face ≤ 1048576) := by unfold szU szUb szUp at hx; omega
  rw [uEA, uE]
  refine acalls_enter (cf := cf 20 [0, 1, 2, 3]) foll Tryz.func8 Tryz.ntmps8 (by simp [cf]) ?_
  simp only [Tryz.f8, EnterK_some, zW, zX, zD, builtinA, isLeaf, const1, ustrA, simprocAttr, ti9, ti22, ti23, ti24, ti26, ti29, ti30, ti31, ti33, ti69, ti107, ti118, ti121, ti124, ti127, ca18, ca27, ca28, cf, Tryz.results8]
  refine callK_intro (by simp only [zW, zX, zD, builtinA, isLeaf, const1, ustrA, simprocAttr, Option.map_some]; rfl) (laws_toImportS x.params h1.1.1 h1.1.2 _) ?_ rfl; rintro v A' ⟨rfl, rfl⟩
  simp only [zW, zX, zD, builtinA, isLeaf, const1, ustrA, simprocAttr, ti9, ti22, ti23, ti24, ti26, ti29, ti30, ti31, ti33, ti69, ti107, ti118, ti121, ti124, ti127, ca18, ca27, ca28, cf, Tryz.results8]
  refine callK_intro (by simp only [zW, zX, zD, builtinA, isLeaf, const1, ustrA, simprocAttr, Option.map_some]; rfl) (laws_toItemS x.body h1.2.1.1 h1.2.1.2 _) ?_ rfl; rintro v A' ⟨rfl, rfl⟩
  simp only [zW, zX, zD, builtinA, isLeaf, const1, ustrA, simprocAttr, ti9, ti22, ti23, ti24, ti26, ti29, ti30, ti31, ti33, ti69, ti107, ti118, ti121, ti124, ti127, ca18, ca27, ca28, cf, Tryz.results8]
  refine callK_intro (by simp only [zW, zX, zD, builtinA, isLeaf, const1, ustrA, simprocAttr, Option.map_some]; rfl) (laws_toSigItemS x.face h1.2.2.1 h1.2.2.2 _) ?_ rfl; rintro v A' ⟨rfl, rfl⟩
  simp only [zW, zX, zD, builtinA, isLeaf, const1, ustrA, simprocAttr, ti9, ti22, ti23, ti24, ti26, ti29, ti30, ti31, ti33, ti69, ti107, ti118, ti121, ti124, ti127, ca18, ca27, ca28, cf, Tryz.results8]

set_option maxRecDepth 100000 in
theorem laws_eqUnit (x : UnI) (hx : x.Ok) (A : List Box) : ACalls Tryz.prog 10 [.agg (uE x), .agg (uE x)] A (fun v A' => v = .bool true ∧ A' = A) := by
  obtain ⟨hx1, hx2, hx3, hx4⟩ := hx
  rw [uE]
  refine acalls_enter (cf := cf 28 [0, 1, 2, 3, 4, 9, 15, 21, 27]) foll Tryz.func10 Tryz.ntmps10 (by simp [cf]) ?_
  simp only [Tryz.f10, EnterK_some, zW, zX, zD, builtinA, isLeaf, const1, ustrA, simprocAttr, ti9, ti29, ti30, ti31, ti33, ti69, ti124, ti127, ca20, ca30, ca31, cf, Tryz.results10]
  refine callK_intro (by simp only [zW, zX, zD, builtinA, isLeaf, const1, ustrA, simprocAttr, Option.map_some]; rfl) (laws_eqImportS x.params hx2.1 hx2.2 _) ?_ rfl; rintro v A' ⟨rfl, rfl⟩
  simp only [zW, zX, zD, builtinA, isLeaf, const1, ustrA, simprocAttr, ti9, ti29, ti30, ti31, ti33, ti69, ti124, ti127, ca20, ca30, ca31, cf, Tryz.results10]
  refine callK_intro (by simp only [zW, zX, zD, builtinA, isLeaf, const1, ustrA, simprocAttr, Option.map_some]; rfl) (laws_eqItemS x.body hx3.1 hx3.2 _) ?_ rfl; rintro v A' ⟨rfl, rfl⟩
  simp only [zW, zX, zD, builtinA, isLeaf, const1, ustrA, simprocAttr, ti9, ti29, ti30, ti31, ti33, ti69, ti124, ti127, ca20, ca30, ca31, cf, Tryz.results10]
  refine callK_intro (by simp only [zW, zX, zD, builtinA, isLeaf, const1, ustrA, simprocAttr, Option.map_some]; rfl) (laws_eqSigItemS x.face hx4.1 hx4.2 _) ?_ rfl; rintro v A' ⟨rfl, rfl⟩
  simp only [zW, zX, zD, builtinA, isLeaf, const1, ustrA, simprocAttr, ti9, ti29, ti30, ti31, ti33, ti69, ti124, ti127, ca20, ca30, ca31, cf, Tryz.results10]

theorem cU : Tryz.prog.cellsOf 26 = 4 := by kernel_rfl
theorem four_of {α : Type} {l : List α} (h : l.length = 4) : ∃ a b c d, l = [a, b, c, d] := by
  match l, h with
  | [a, b, c, d], _ => exact ⟨a, b, c, d, rfl⟩
theorem un_of {cz : List AV} (h : Cells Tryz.prog 26 cz) : ∃ x : UnI, cz = uEA x ∧ x.Ok := by
  generalize ht : 26 = t at h
  cases h with
  | int h1 h2 => subst ht; rw [Tryz.underlying26] at h1; injection h1 with h1; cases h1
  | bool h1 => subst ht; rw [Tryz.underlying26] at h1; injection h1 with h1; cases h1
  | str h1 => subst ht; rw [Tryz.underlying26] at h1; injection h1 with h1; cases h1
  | slice h1 h2 h3 => subst ht; rw [Tryz.underlying26] at h1; injection h1 with h1; cases h1
  | @struct t fs cs h1 h2 h3 =>
    subst ht
    rw [Tryz.underlying26] at h1
    injection h1 with h1
    injection h1 with h1
    subst h1
    rw [cU] at h2
    obtain ⟨a, b, c, d, rfl⟩ := four_of h2
    simp only [List.mem_cons, List.not_mem_nil, or_false, forall_eq_or_imp, forall_eq, c3, c9, cS, cT, cIS, cPS, cJS, List.drop_zero, List.drop_succ_cons, List.take_succ_cons, List.take_zero] at h3
    obtain ⟨m, e1, l1⟩ := cells_str Tryz.underlying9 h3.1
    obtain ⟨ps, e2, l2⟩ := pms_of h3.2.1
    obtain ⟨bs, e3, l3⟩ := its_of h3.2.2.1
    obtain ⟨fs, e4, l4⟩ := sis_of h3.2.2.2
    injection e1 with e1; injection e2 with e2; injection e3 with e3; injection e4 with e4
    subst e1; subst e2; subst e3; subst e4
    have hm : maxLen = 2 ^ 63 - 1 := rfl
    exact ⟨⟨m, ps, bs, fs⟩, rfl, ⟨by show m.length < 2 ^ 63; omega, l2, l3, l4⟩⟩
theorem plainU : plainB Tryz.prog [26, 22, 107, 23, 118, 43, 41, 24, 121, 40, 38, 3, 9] = true := by kernel_rfl

section
variable {H : Type} {enc' : TypeId × Value → H} {W : World}
set_option maxRecDepth 100000 in
/-- an argument that is a unit -/
theorem rv_unit {v : Value} {d : DataW H} {p : List MemPlace} {r : Reach} {b0 : Nat} (hval : Value.okWide Tryz.prog W r b0 26 v) (h : DataW.Trod enc' Tryz.prog W 0 (fun _ => true) true 26 v d p) :
    ∃ x : UnI, x.Ok ∧ RV (Abs.start W) W (.agg (uEA x)) v := by
  obtain ⟨xs, rfl, hs⟩ := okWide_struct Tryz.underlying26 hval
  obtain ⟨fuel, hf⟩ := h
  have hmem : 26 ∈ [26, 22, 107, 23, 118, 43, 41, 24, 121, 40, 38, 3, 9] := .head _
  have hp := plain_opened plainU fuel hmem hf
  obtain ⟨cz, ho⟩ := hp
  have hq := un_of ho.typed
  obtain ⟨x, he, hk⟩ := hq
  subst he
  exact ⟨x, hk, opened_agg ho⟩
end
end Go.Proofs.YtebgneaehhaclaaGreat
