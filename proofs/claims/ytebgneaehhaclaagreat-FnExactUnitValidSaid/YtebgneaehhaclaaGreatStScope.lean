/- What a structure's definitions know: the program's sets of names. -/
import Derived.Test.YtebgneaehhaclaaGreatExWalk
import Derived.Test.YtebgneaehhaclaaGreatEachG
import Derived.Test.YtebgneaehhaclaaGreatFrk
import Derived.Test.YtebgneaehhaclaaGreatStNm
import Derived.Test.YtebgneaehhaclaaGreatAbsW3
set_option linter.unusedVariables false
set_option linter.unusedSimpArgs false
namespace Go.Proofs.YtebgneaehhaclaaGreat
open Go.Abs

/-! ### sets of names -/
def esN (ks : List (List UInt8)) : List (AV × AV) := ks.map fun q => (.str q, .bool true)
theorem find_n (q : List UInt8) : ∀ (ks : List (List UInt8)) (n : Nat), ∃ r, findS q (esN ks) n = some r ∧ lkV r (.bool false) = .bool (decide (q ∈ ks)) ∧ (r = none ↔ q ∉ ks) ∧ (∀ p, r = some p → ∃ j, p.1 = n + j ∧ j < ks.length)
  | [], n => ⟨none, rfl, by simp [lkV], by simp, by simp⟩
  | p :: ks, n => by
    obtain ⟨r, h1, h2, h3, h4⟩ := find_n q ks (n + 1)
    simp only [esN, List.map_cons, findS]
    by_cases h : q = p
    · rw [if_pos h]
      exact ⟨_, rfl, by simp [lkV, h], by simp [h], fun p hp => by cases hp; exact ⟨0, by simp, by simp⟩⟩
    · rw [if_neg h]
      refine ⟨r, h1, ?_, ?_, fun p hp => ?_⟩
      · rw [h2]; simp [h]
      · rw [h3]; simp [h]
      · obtain ⟨j, hj, hl⟩ := h4 p hp
        exact ⟨j + 1, by omega, by simpa using hl⟩
theorem upd_n {q : List UInt8} {ks : List (List UInt8)} {r : Option (Nat × AV)} (h : findS q (esN ks) 0 = some r) : ∃ ks', updS r q (.bool true) (esN ks) = esN ks' ∧ (q ∉ ks → ks' = ks ++ [q]) := by
  obtain ⟨r', h1, h2, h3, h4⟩ := find_n q ks 0
  rw [h] at h1
  cases h1
  cases r with
  | none => exact ⟨ks ++ [q], by simp [updS, esN], fun _ => rfl⟩
  | some p =>
    refine ⟨ks.set p.1 q, by simp [updS, esN, List.map_set], fun hq => ?_⟩
    have := h3.2 hq
    cases this
theorem esN_closed (n : Nat) (ks : List (List UInt8)) : boxClosed n (.mapb (esN ks)) = true := by
  simp only [boxClosed, esN, List.all_map, List.all_eq_true]
  intro q hq
  rfl
theorem frk_out {A B A1 : List Box} {i : Nat} (h : FrK i (A ++ B) A1) (hi : A.length ≤ i) : Outer A A1 ∧ A1.take A.length = A := by
  have hg : ∀ k, k < A.length → A1.getD k .dead = A.getD k .dead := fun k hk => by
    rw [h.2 k (by simp; omega) (by omega), Abs.getD_append_left hk]
  have hl : A.length ≤ A1.length := by have := h.1; simp at this; omega
  exact ⟨⟨hl, fun k hk => .inl (hg k hk)⟩, take_of_getD hl rfl hg⟩

set_option maxRecDepth 100000 in
theorem impl_define (a : Nat) (ks : List (List UInt8)) (q : List UInt8) (A : List Box) (ha : a < A.length) (hA : A.getD a .dead = .mapb (esN ks)) :
    ACalls Tryz.prog 97 [.map a, .str q] A (fun r A' => r = .bool (!decide (q ∈ ks)) ∧ ∃ ks', A' = A.set a (.mapb (esN ks')) ∧ (q ∉ ks → ks' = ks ++ [q])) := by
  obtain ⟨r, f1, f2, f3, _⟩ := find_n q ks 0
  obtain ⟨ks', u1, u2⟩ := upd_n f1
  refine acalls_enter (cf := cf 13 [0, 1, 4, 5]) foll Tryz.func97 Tryz.ntmps97 (by simp [cf]) ?_
  simp only [Tryz.f97, EnterK_some, zW, zX, zD, builtinA, isLeaf, const1, ustrA, simprocAttr, ti183, mi183, cf, Tryz.results97]
  simp only [zW, zX, zD, builtinA, isLeaf, const1, ustrA, simprocAttr, ti183, mi183, cf, Tryz.results97, hA, f1, f2, u1]
  exact ⟨outer_set0 A a _ (esN_closed _ _), ks', rfl, u2⟩

/-! ### names of types -/
def okS (ks : List (List UInt8)) (p : Nm) : Bool := !decide (p.1 = []) || decide (p.2 ∈ ks)
def StT (i5 i2 a b : Nat) (ks : List (List UInt8)) (c : Bool) (A : List Box) : Prop :=
  A.getD i5 .dead = .cells [.bool c] ∧ A.getD i2 .dead = .cells [.map a, .map b] ∧ A.getD a .dead = .mapb (esN ks) ∧ i5 ≠ i2 ∧ i5 ≠ a ∧ i5 < A.length ∧ i2 < A.length ∧ a < A.length
theorem StT.app {i5 i2 a b : Nat} {ks : List (List UInt8)} {c : Bool} {A : List Box} (h : StT i5 i2 a b ks c A) (B : List Box) : StT i5 i2 a b ks c (A ++ B) := by
  obtain ⟨h1, h2, h3, h4, h5, h6, h7, h8⟩ := h
  exact ⟨by rw [Abs.getD_append_left h6]; exact h1, by rw [Abs.getD_append_left h7]; exact h2, by rw [Abs.getD_append_left h8]; exact h3, h4, h5, by simp; omega, by simp; omega, by simp; omega⟩
def visS (ks : List (List UInt8)) (p : Nm) (c : Bool) : Bool := c && okS ks p

set_option maxRecDepth 100000 in
theorem visS_ok (i5 i2 a b : Nat) (ks : List (List UInt8)) (c : Bool) (A : List Box) (p : Nm) (h : StT i5 i2 a b ks c A) :
    ACalls Tryz.prog 222 [.agg [.str p.1, .str p.2], .ptr i5 0, .ptr i2 0] A (fun r A' => StT i5 i2 a b ks (visS ks p c) A' ∧ FrK i5 A A') := by
  have h' := h.app [.cells [.str p.1, .str p.2]]
  obtain ⟨h1, h2, h3, h4, h5, h6, h7, h8⟩ := h'
  obtain ⟨r, f1, f2, f3, _⟩ := find_n p.2 ks 0
  have fin : ∀ d : Bool, StT i5 i2 a b ks d ((A ++ [Box.cells [.str p.1, .str p.2]]).set i5 (.cells [.bool d])) ∧ FrK i5 A ((A ++ [Box.cells [.str p.1, .str p.2]]).set i5 (.cells [.bool d])) := fun d => by
    refine ⟨⟨getD_set_self h6, by rw [getD_set_ne' h4]; exact h2, by rw [getD_set_ne' h5]; exact h3, h4, h5, by simpa using h6, by simpa using h7, by simpa using h8⟩, by simp, fun k hk hi => by rw [getD_set_ne' (Ne.symm hi), Abs.getD_append_left hk]⟩
  cases c with
  | false =>
    refine acalls_enterK (cf := cf 17 [0, 1, 2, 3]) foll Tryz.func222 Tryz.ntmps222 (by simp [cf]) ?_
    simp only [Tryz.f222, EnterK_some, zW, zX, zD, builtinA, isLeaf, const1, ustrA, simprocAttr, ti4, ti9, ti183, ti227, ti237, mi183, cf, Tryz.results222]
    simp only [zW, zX, zD, builtinA, isLeaf, const1, ustrA, simprocAttr, ti4, ti9, ti183, ti227, ti237, mi183, cf, Tryz.results222, h1, h2, h3]
    exact fin false
  | true =>
    by_cases hm : p.1 = []
    · have hok : visS ks p true = decide (p.2 ∈ ks) := by simp [visS, okS, hm]
      rw [hok]
      refine acalls_enterK (cf := cf 17 [0, 1, 2, 3]) foll Tryz.func222 Tryz.ntmps222 (by simp [cf]) ?_
      simp only [Tryz.f222, EnterK_some, zW, zX, zD, builtinA, isLeaf, const1, ustrA, simprocAttr, ti4, ti9, ti183, ti227, ti237, mi183, cf, Tryz.results222]
      simp only [zW, zX, zD, builtinA, isLeaf, const1, ustrA, simprocAttr, ti4, ti9, ti183, ti227, ti237, mi183, cf, Tryz.results222, h1, h2, h3, decide_eq_true hm, f1, f2]
      exact fin _
    · have hok : visS ks p true = true := by simp [visS, okS, hm]
      rw [hok]
      refine acalls_enterK (cf := cf 17 [0, 1, 2, 3]) foll Tryz.func222 Tryz.ntmps222 (by simp [cf]) ?_
      simp only [Tryz.f222, EnterK_some, zW, zX, zD, builtinA, isLeaf, const1, ustrA, simprocAttr, ti4, ti9, ti183, ti227, ti237, mi183, cf, Tryz.results222]
      simp only [zW, zX, zD, builtinA, isLeaf, const1, ustrA, simprocAttr, ti4, ti9, ti183, ti227, ti237, mi183, cf, Tryz.results222, h1, h2, h3, decide_eq_false hm]
      exact fin true

theorem foldS (ks : List (List UInt8)) : ∀ (v : VT) (c : Bool), foldV (visS ks) v c = (c && allV (okS ks) v)
  | .num, c => by simp [foldV, allV]
  | .nm m k, c => by simp [foldV, allV, visS]
  | .fn a b, c => by rw [foldV, foldS ks a, foldS ks b, allV, Bool.and_assoc]
theorem visT (i5 i2 a b : Nat) (ks : List (List UInt8)) : Vis (fun _ => 0) (StT i5 i2 a b ks) (FrK i5) (visS ks) 222 [.ptr i5 0, .ptr i2 0] where
  call := by kernel_rfl
  vis := fun p c A _ _ h => visS_ok i5 i2 a b ks c A p h
  app := fun c A B h => ⟨h.app B, FrK.app _ _ _⟩
  grow := fun p c => by omega
  trans := fun A B C h k => h.trans k
  box := fun c A A' d h f => by
    have := h.2.2.2.2.2.1
    rw [f.2 A.length (by simp) (by omega), Abs.getD_append_right (by omega)]; simp

set_option maxRecDepth 100000 in
theorem impl_knowsTypesOf (a b : Nat) (ks : List (List UInt8)) (v : VT) (hv : VOk v) (A : List Box) (ha : a < A.length) (hA : A.getD a .dead = .mapb (esN ks)) :
    ACalls Tryz.prog 221 [.agg [.map a, .map b], .iface (vT v) (vX v)] A (fun r A' => r = .bool (allV (okS ks) v) ∧ A' = A) := by
  have hst : StT (A.length + 1) A.length a b ks true (A ++ [.cells [.map a, .map b], .cells [.bool true]]) :=
    ⟨by rw [Abs.getD_append_right (by omega)]; simp, by rw [Abs.getD_append_right (by omega)]; simp, by rw [Abs.getD_append_left ha]; exact hA, by omega, by omega, by simp, by simp, by simp; omega⟩
  have hea := eachG (visT (A.length + 1) A.length a b ks) v true (A ++ [.cells [.map a, .map b], .cells [.bool true]]) hv.1 (by show 0 + cnt v ≤ 1000; have := hv.cnt; omega) hst
  rw [foldS, Bool.true_and] at hea
  refine acalls_enter (cf := cf 10 [0, 1, 2, 4, 5]) foll Tryz.func221 Tryz.ntmps221 (by simp [cf]) ?_
  simp only [Tryz.f221, EnterK_some, zW, zX, zD, builtinA, isLeaf, const1, ustrA, simprocAttr, ti4, ti227, cf, Tryz.results221]
  refine wpO_invoke _ _ _ _ _ _ _ _ _ _ _ _ _ _ _ _ ?_
  simp only [zW, zX, zD, builtinA, isLeaf, const1, ustrA, simprocAttr, ti4, ti227, cf, Tryz.results221]
  refine meth_invK (met3 (by kernel_rfl) (by kernel_rfl) (by kernel_rfl) (by kernel_rfl) (by kernel_rfl) (by kernel_rfl)) hea rfl (fun _ => rfl) ?_
  rintro r A1 ⟨h1, f1⟩
  have hb := h1.1
  simp only [zW, zX, zD, builtinA, isLeaf, const1, ustrA, simprocAttr, ti4, ti227, cf, Tryz.results221, hb]
  exact frk_out f1 (by omega)

/-! ### names of values -/
def StN (i5 i2 a b : Nat) (ks vs : List (List UInt8)) (c : Bool) (A : List Box) : Prop :=
  StT i5 i2 a b ks c A ∧ A.getD b .dead = .mapb (esN vs) ∧ i5 ≠ b ∧ b < A.length
theorem StN.app {i5 i2 a b : Nat} {ks vs : List (List UInt8)} {c : Bool} {A : List Box} (h : StN i5 i2 a b ks vs c A) (B : List Box) : StN i5 i2 a b ks vs c (A ++ B) := by
  obtain ⟨h1, h2, h3, h4⟩ := h
  exact ⟨h1.app B, by rw [Abs.getD_append_left h4]; exact h2, h3, by simp; omega⟩
theorem StN.set {i5 i2 a b : Nat} {ks vs : List (List UInt8)} {c : Bool} {A : List Box} (h : StN i5 i2 a b ks vs c A) (d : Bool) : StN i5 i2 a b ks vs d (A.set i5 (.cells [.bool d])) := by
  obtain ⟨⟨h1, h2, h3, h4, h5, h6, h7, h8⟩, h9, h10, h11⟩ := h
  exact ⟨⟨getD_set_self h6, by rw [getD_set_ne' h4]; exact h2, by rw [getD_set_ne' h5]; exact h3, h4, h5, by simpa using h6, by simpa using h7, by simpa using h8⟩, by rw [getD_set_ne' h10]; exact h9, h10, by simpa using h11⟩
def nodeB (ks vs : List (List UInt8)) : VE → Bool
  | .nm m n => okS vs (m, n)
  | .fn t _ => allV (okS ks) t
  | _ => true
def visN (ks vs : List (List UInt8)) (v : VE) (d : Int) (c : Bool) : Bool := c && nodeB ks vs v
theorem assert_nm (v : VE) (A : List Box) : assertA 292 [.str [], .str []] (.iface (vtE v) (vxE v)) A = some (True, .tuple [.agg [.str (if kindE v = 3 then modE v else []), .str (if kindE v = 3 then nameE v else [])], .bool (decide (kindE v = 3))], A) := by
  cases v <;> rfl
theorem nodeB_other {v : VE} (h3 : kindE v ≠ 3) (h4 : kindE v ≠ 4) (ks vs : List (List UInt8)) : nodeB ks vs v = true := by
  cases v <;> simp_all [nodeB, kindE]

set_option maxRecDepth 100000 in
theorem visN_fr (i5 i2 a b : Nat) (ks vs : List (List UInt8)) (A0 : List Box) : VisM (fun c A => StN i5 i2 a b ks vs c A ∧ FrK i5 A0 A) (visN ks vs) 232 [.ptr i5 0, .ptr i2 0] := by
  intro v d c A ho h0 h1 ⟨hI, hF⟩
  have fr : ∀ (L : List Box) (X : Box), FrK i5 A0 ((A ++ L).set i5 X) := fun L X => hF.trans ⟨by simp, fun k hk hi => by rw [getD_set_ne' (Ne.symm hi), Abs.getD_append_left hk]⟩
  have has := assert_nm v
  rw [ifE]
  by_cases k3 : kindE v = 3
  · obtain ⟨m, n, rfl⟩ := kind3 k3
    have hI2 := hI.app [.cells [.str m, .str n]]
    have hI2' := hI2
    obtain ⟨⟨g1, g2, g3, g4, g5, g6, g7, g8⟩, g9, g10, g11⟩ := hI2'
    obtain ⟨r, f1, f2, f3, _⟩ := find_n n vs 0
    simp only [if_pos k3] at has
    have hm' : modE (.nm m n) = m := rfl
    have hn' : nameE (.nm m n) = n := rfl
    rw [hm', hn'] at has
    cases c with
    | false =>
      refine acalls_enterK (cf := cf 35 [0, 2, 3, 6, 7, 8, 10, 11, 26, 27]) foll Tryz.func232 Tryz.ntmps232 (by simp [cf]) ?_
      simp only [Tryz.f232, EnterK_some, zW, zX, zD, builtinA, isLeaf, const1, ustrA, simprocAttr, ti4, ti9, ti98, ti183, ti219, ti227, ti292, ti295, ca221, mi183, za292, za295, cf, Tryz.results232]
      simp only [zW, zX, zD, builtinA, isLeaf, const1, ustrA, simprocAttr, ti4, ti9, ti98, ti183, ti219, ti227, ti292, ti295, ca221, mi183, za292, za295, cf, Tryz.results232, wpO_typeAssert, has, decide_eq_true k3, g1, g2, g3, g9]
      exact ⟨hI2.set false, fr _ _⟩
    | true =>
      by_cases hm : m = []
      · have hok : visN ks vs (.nm m n) d true = decide (n ∈ vs) := by simp [visN, nodeB, okS, hm]
        rw [hok]
        refine acalls_enterK (cf := cf 35 [0, 2, 3, 6, 7, 8, 10, 11, 26, 27]) foll Tryz.func232 Tryz.ntmps232 (by simp [cf]) ?_
        simp only [Tryz.f232, EnterK_some, zW, zX, zD, builtinA, isLeaf, const1, ustrA, simprocAttr, ti4, ti9, ti98, ti183, ti219, ti227, ti292, ti295, ca221, mi183, za292, za295, cf, Tryz.results232]
        simp only [zW, zX, zD, builtinA, isLeaf, const1, ustrA, simprocAttr, ti4, ti9, ti98, ti183, ti219, ti227, ti292, ti295, ca221, mi183, za292, za295, cf, Tryz.results232, wpO_typeAssert, has, decide_eq_true k3, g1, g2, g3, g9, decide_eq_true hm, f1, f2]
        exact ⟨hI2.set _, fr _ _⟩
      · have hok : visN ks vs (.nm m n) d true = true := by simp [visN, nodeB, okS, hm]
        rw [hok]
        refine acalls_enterK (cf := cf 35 [0, 2, 3, 6, 7, 8, 10, 11, 26, 27]) foll Tryz.func232 Tryz.ntmps232 (by simp [cf]) ?_
        simp only [Tryz.f232, EnterK_some, zW, zX, zD, builtinA, isLeaf, const1, ustrA, simprocAttr, ti4, ti9, ti98, ti183, ti219, ti227, ti292, ti295, ca221, mi183, za292, za295, cf, Tryz.results232]
        simp only [zW, zX, zD, builtinA, isLeaf, const1, ustrA, simprocAttr, ti4, ti9, ti98, ti183, ti219, ti227, ti292, ti295, ca221, mi183, za292, za295, cf, Tryz.results232, wpO_typeAssert, has, decide_eq_true k3, g1, g2, g3, g9, decide_eq_false hm]
        exact ⟨hI2.set true, fr _ _⟩
  · by_cases k4 : kindE v = 4
    · obtain ⟨t, bd, rfl⟩ := kind4 k4
      have hI2 := hI.app [.cells [.iface (vT t) (vX t), ifE bd]]
      have hI2' := hI2
      obtain ⟨⟨g1, g2, g3, g4, g5, g6, g7, g8⟩, g9, g10, g11⟩ := hI2'
      have hk := impl_knowsTypesOf a b ks t ho.1 _ g8 g3
      have hd1 := hI2.set false
      have hd2 := hI2.set (allV (okS ks) t)
      rw [ifE] at hI2 g1 g2 g3 g9 hk hd1 hd2
      rw [vxE]
      have hs1 : ∀ A, assertA 292 [.str [], .str []] (.iface (vtE (.fn t bd)) (.agg [.iface (vT t) (vX t), .iface (vtE bd) (vxE bd)])) A = some (True, .tuple [.agg [.str [], .str []], .bool false], A) := fun _ => rfl
      have hs2 : ∀ A, assertA 295 [.nili, .nili] (.iface (vtE (.fn t bd)) (.agg [.iface (vT t) (vX t), .iface (vtE bd) (vxE bd)])) A = some (True, .tuple [.agg [.iface (vT t) (vX t), .iface (vtE bd) (vxE bd)], .bool true], A) := fun _ => rfl
      cases c with
      | false =>
        refine acalls_enterK (cf := cf 35 [0, 2, 3, 6, 7, 8, 10, 11, 26, 27]) foll Tryz.func232 Tryz.ntmps232 (by simp [cf]) ?_
        simp only [Tryz.f232, EnterK_some, zW, zX, zD, builtinA, isLeaf, const1, ustrA, simprocAttr, ti4, ti9, ti98, ti183, ti219, ti227, ti292, ti295, ca221, mi183, za292, za295, cf, Tryz.results232]
        simp only [zW, zX, zD, builtinA, isLeaf, const1, ustrA, simprocAttr, ti4, ti9, ti98, ti183, ti219, ti227, ti292, ti295, ca221, mi183, za292, za295, cf, Tryz.results232, wpO_typeAssert, hs1, hs2, g1, g2, g3, g9]
        exact ⟨hd1, fr _ _⟩
      | true =>
        refine acalls_enterK (cf := cf 35 [0, 2, 3, 6, 7, 8, 10, 11, 26, 27]) foll Tryz.func232 Tryz.ntmps232 (by simp [cf]) ?_
        simp only [Tryz.f232, EnterK_some, zW, zX, zD, builtinA, isLeaf, const1, ustrA, simprocAttr, ti4, ti9, ti98, ti183, ti219, ti227, ti292, ti295, ca221, mi183, za292, za295, cf, Tryz.results232]
        simp only [zW, zX, zD, builtinA, isLeaf, const1, ustrA, simprocAttr, ti4, ti9, ti98, ti183, ti219, ti227, ti292, ti295, ca221, mi183, za292, za295, cf, Tryz.results232, wpO_typeAssert, hs1, hs2, g1, g2, g3, g9]
        refine callO_intro hk ?_
        rintro r A' ⟨rfl, rfl⟩
        simp only [zW, zX, zD, builtinA, isLeaf, const1, ustrA, simprocAttr, ti4, ti9, ti98, ti183, ti219, ti227, ti292, ti295, ca221, mi183, za292, za295, cf, Tryz.results232, g1]
        exact ⟨hd2, fr _ _⟩
    · have hok : visN ks vs v d c = c := by simp [visN, nodeB_other k3 k4]
      obtain ⟨fa, fb, hfn⟩ := assert_fn v
      rw [hok]
      refine acalls_enterK (cf := cf 35 [0, 2, 3, 6, 7, 8, 10, 11, 26, 27]) foll Tryz.func232 Tryz.ntmps232 (by simp [cf]) ?_
      simp only [Tryz.f232, EnterK_some, zW, zX, zD, builtinA, isLeaf, const1, ustrA, simprocAttr, ti4, ti9, ti98, ti183, ti219, ti227, ti292, ti295, ca221, mi183, za292, za295, cf, Tryz.results232]
      simp only [zW, zX, zD, builtinA, isLeaf, const1, ustrA, simprocAttr, ti4, ti9, ti98, ti183, ti219, ti227, ti292, ti295, ca221, mi183, za292, za295, cf, Tryz.results232, wpO_typeAssert, has, hfn, decide_eq_false k3, decide_eq_false k4]
      exact ⟨hI, hF⟩

theorem walkN (ks vs : List (List UInt8)) : ∀ (v : VE) (d : Int) (c : Bool), walkF (visN ks vs) v d c = (c && allE (okS vs) (okS ks) v)
  | .var _, d, c => by simp [walkF, visN, nodeB, allE]
  | .num _, d, c => by simp [walkF, visN, nodeB, allE]
  | .nm m n, d, c => by simp [walkF, visN, nodeB, allE]
  | .fn t b, d, c => by rw [walkF, walkN ks vs b]; simp [visN, nodeB, allE, Bool.and_assoc]
  | .app a b, d, c => by rw [walkF, walkN ks vs b, walkN ks vs a]; simp [visN, nodeB, allE, Bool.and_assoc]
  | .add a b, d, c => by rw [walkF, walkN ks vs b, walkN ks vs a]; simp [visN, nodeB, allE, Bool.and_assoc]
  | .ite x a b, d, c => by rw [walkF, walkN ks vs b, walkN ks vs a, walkN ks vs x]; simp [visN, nodeB, allE, Bool.and_assoc]

set_option maxRecDepth 100000 in
theorem impl_knowsNamesOf (a b : Nat) (ks vs : List (List UInt8)) (v : VE) (hv : EOk v) (A : List Box) (ha : a < A.length) (hA : A.getD a .dead = .mapb (esN ks)) (hb : b < A.length) (hB : A.getD b .dead = .mapb (esN vs)) :
    ACalls Tryz.prog 229 [.agg [.map a, .map b], ifE v] A (fun r A' => r = .bool (allE (okS vs) (okS ks) v) ∧ A' = A) := by
  have hst : StN (A.length + 1) A.length a b ks vs true (A ++ [.cells [.map a, .map b], .cells [.bool true]]) :=
    ⟨⟨by rw [Abs.getD_append_right (by omega)]; simp, by rw [Abs.getD_append_right (by omega)]; simp, by rw [Abs.getD_append_left ha]; exact hA, by omega, by omega, by simp, by simp, by simp; omega⟩, by rw [Abs.getD_append_left hb]; exact hB, by omega, by simp; omega⟩
  have hwk := impl_walk (fun c A1 => StN (A.length + 1) A.length a b ks vs c A1 ∧ FrK (A.length + 1) (A ++ [.cells [.map a, .map b], .cells [.bool true]]) A1) (fun s A1 L h => ⟨h.1.app L, h.2.trans (FrK.app _ _ _)⟩) (visN ks vs) 232 (by kernel_rfl) [.ptr (A.length + 1) 0, .ptr A.length 0] (visN_fr _ _ _ _ _ _ _) v 0 true _ hv.ok (by omega) (by have := hv.dep; omega) ⟨hst, FrK.refl _ _⟩
  rw [walkN, Bool.true_and] at hwk
  rw [ifE] at hwk ⊢
  refine acalls_enter (cf := cf 10 [0, 1, 2, 4, 5]) foll Tryz.func229 Tryz.ntmps229 (by simp [cf]) ?_
  simp only [Tryz.f229, EnterK_some, zW, zX, zD, builtinA, isLeaf, const1, ustrA, simprocAttr, ti4, ti227, ca230, cf, Tryz.results229]
  refine callO_intro hwk ?_
  rintro r A1 ⟨h1, f1⟩
  have hb := h1.1.1
  simp only [zW, zX, zD, builtinA, isLeaf, const1, ustrA, simprocAttr, ti4, ti227, ca230, cf, Tryz.results229, hb]
  exact frk_out f1 (by omega)

set_option maxRecDepth 100000 in
theorem impl_allows (a b : Nat) (ks vs : List (List UInt8)) (v : VE) (hv : EOk v) (A : List Box) (ha : a < A.length) (hA : A.getD a .dead = .mapb (esN ks)) (hb : b < A.length) (hB : A.getD b .dead = .mapb (esN vs)) :
    ACalls Tryz.prog 227 [.agg [.map a, .map b], ifE v] A (fun r A' => r = .bool (decide (mostE v 0 = 0) && allE (okS vs) (okS ks) v) ∧ A' = A) := by
  have hmf := fun A => impl_maxFree v hv.ok (by have := hv.dep; omega) A
  have hkn := impl_knowsNamesOf a b ks vs v hv (A ++ [.cells [.map a, .map b]]) (by simp; omega) (by rw [Abs.getD_append_left ha]; exact hA) (by simp; omega) (by rw [Abs.getD_append_left hb]; exact hB)
  rw [ifE] at hmf hkn ⊢
  refine acalls_enter (cf := cf 13 [0, 1, 2, 4]) foll Tryz.func227 Tryz.ntmps227 (by simp [cf]) ?_
  simp only [Tryz.f227, EnterK_some, zW, zX, zD, builtinA, isLeaf, const1, ustrA, simprocAttr, ti3, ti227, ca228, ca229, cf, Tryz.results227]
  refine callO_intro (hmf _) ?_
  rintro r A1 ⟨rfl, rfl⟩
  by_cases h0 : mostE v 0 = 0
  · simp only [zW, zX, zD, builtinA, isLeaf, const1, ustrA, simprocAttr, ti3, ti227, ca228, ca229, cf, Tryz.results227, decide_eq_true h0]
    refine callO_intro hkn ?_
    rintro r A1 ⟨rfl, rfl⟩
    simp only [zW, zX, zD, builtinA, isLeaf, const1, ustrA, simprocAttr, ti3, ti227, ca228, ca229, cf, Tryz.results227]
  · simp only [zW, zX, zD, builtinA, isLeaf, const1, ustrA, simprocAttr, ti3, ti227, ca228, ca229, cf, Tryz.results227, decide_eq_false h0]
end Go.Proofs.YtebgneaehhaclaaGreat
