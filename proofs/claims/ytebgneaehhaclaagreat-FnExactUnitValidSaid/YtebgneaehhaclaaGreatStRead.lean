/- The program's reading of structures. -/
import Derived.Test.YtebgneaehhaclaaGreatStScope
import Derived.Test.YtebgneaehhaclaaGreatZeroX
import Derived.Test.YtebgneaehhaclaaGreatItems
import Derived.Test.YtebgneaehhaclaaGreatAbsW3
set_option linter.unusedVariables false
set_option linter.unusedSimpArgs false
namespace Go.Proofs.YtebgneaehhaclaaGreat
open Go.Abs

inductive VD where
  | ty (n : List UInt8) (v : VT)
  | va (n : List UInt8) (e : VE)
def vdT : VD → TypeId
  | .ty _ _ => 223
  | .va _ _ => 225
def vdX : VD → AV
  | .ty n v => .agg [.str n, .iface (vT v) (vX v)]
  | .va n e => .agg [.str n, .iface (vtE e) (vxE e)]
def okD : VD → Prop
  | .ty _ v => VOk v
  | .va _ e => EOk e
def nameD : VD → List UInt8
  | .ty n _ => n
  | .va n _ => n
def isTy : VD → Bool
  | .ty _ _ => true
  | .va _ _ => false
def tyN (ys : List VD) : List (List UInt8) := (ys.filter isTy).map nameD
def vaN (ys : List VD) : List (List UInt8) := (ys.filter fun y => !isTy y).map nameD
def stepD (ks vs : List (List UInt8)) : VD → Bool
  | .ty n v => allV (okS ks) v && !decide (n ∈ ks)
  | .va n e => (decide (mostE e 0 = 0) && allE (okS vs) (okS ks) e) && !decide (n ∈ vs)
def vd0 : VD := .ty [] .num
def ordD (ys : List VD) : Bool := (List.range ys.length).all fun i => stepD (tyN (ys.take i)) (vaN (ys.take i)) (ys.getD i vd0)
theorem frzC_vdX (x : VD) (A : List Box) : frzC (vdX x) A = some (vdX x, A) := by
  cases x with
  | ty n v => cases v <;> rfl
  | va n v => cases v <;> rfl
def pickD (x y : FuncId) : VD → FuncId
  | .ty _ _ => x
  | .va _ _ => y
structure MetD (name : String) (gs : VD → FuncId) : Prop where
  find : ∀ v, methA Tryz.prog (vdT v) name = some (gs v)
  call : ∀ v, callable Tryz.prog (gs v) = true
theorem metD2 {name : String} {x y : FuncId} (h1 : methA Tryz.prog 223 name = some x) (h2 : methA Tryz.prog 225 name = some y)
    (c1 : callable Tryz.prog x = true) (c2 : callable Tryz.prog y = true) : MetD name (pickD x y) :=
  ⟨fun v => match v with
    | .ty _ _ => h1
    | .va _ _ => h2,
   fun v => match v with
    | .ty _ _ => c1
    | .va _ _ => c2⟩
theorem methD_invO {own ow : FuncId → Bool} {name : String} {gs : VD → FuncId} {v : VD} {args : List AV} {A : List Box} {R : AV → List Box → Prop} {N : Nat} {ops : Array Oper} {Q : Env → List Box → Prop} {rest : List Oper} {d : Option Tmp} {e : Env}
    (hm : MetD name gs) (h : ACalls Tryz.prog (gs v) (vdX v :: args) A R)
    (hk : ∀ r A', R r A' → wpO Tryz.prog ow N ops Q rest (putA N d r e) A') : InvK Tryz.prog own name (.iface (vdT v) (vdX v)) args A (ContO Tryz.prog ow N ops Q rest d e) := by
  have h1 := hm.find v
  have h2 := hm.call v
  generalize gs v = g at h h1 h2
  exact ⟨g, h1, h2, callO_intro h hk⟩
theorem out_set {A L : List Box} {a : Nat} (X : Box) (ha : a < A.length) (h : boxClosed A.length X = true) : Outer A ((A ++ L).set a X) ∧ ((A ++ L).set a X).take A.length = A.set a X := by
  rw [List.set_append_left _ _ ha]
  exact ⟨outer_set A L a X h, by rw [List.take_append_of_le_length (by simp)]; rw [List.take_of_length_le (by simp)]⟩
theorem setSame2 {A : List Box} {a : Nat} {X : Box} (ha : a < A.length) (h : A.getD a .dead = X) : A.set a X = A := by
  refine List.ext_getElem (by simp) fun k h1 h2 => ?_
  rw [List.getElem_set]
  split
  · rename_i e
    subst e
    rw [← h]; simp [List.getD, ha]
  · rfl

set_option maxRecDepth 100000 in
theorem ty_add (a b : Nat) (ks : List (List UInt8)) (n : List UInt8) (v : VT) (hv : VOk v) (A : List Box) (ha : a < A.length) (hA : A.getD a .dead = .mapb (esN ks)) :
    ACalls Tryz.prog 217 [vdX (.ty n v), .agg [.map a, .map b]] A (fun r A' => ∃ ks', r = .bool (allV (okS ks) v && !decide (n ∈ ks)) ∧ A' = A.set a (.mapb (esN ks')) ∧ ((allV (okS ks) v && !decide (n ∈ ks)) = true → ks' = ks ++ [n])) := by
  have hkt := impl_knowsTypesOf a b ks v hv (A ++ [.cells [.str n, .iface (vT v) (vX v)], .cells [.map a, .map b]]) (by simp; omega) (by rw [Abs.getD_append_left ha]; exact hA)
  have hdf := impl_define a ks n (A ++ [.cells [.str n, .iface (vT v) (vX v)], .cells [.map a, .map b]]) (by simp; omega) (by rw [Abs.getD_append_left ha]; exact hA)
  rw [vdX]
  cases hq : allV (okS ks) v with
  | false =>
    rw [hq] at hkt
    refine acalls_enter (cf := cf 16 [0, 1, 2, 3, 4]) foll Tryz.func217 Tryz.ntmps217 (by simp [cf]) ?_
    simp only [Tryz.f217, EnterK_some, zW, zX, zD, builtinA, isLeaf, const1, ustrA, simprocAttr, ti9, ti183, ti219, ti223, ti227, ca97, ca221, cf, Tryz.results217]
    refine callO_intro hkt ?_
    rintro r A1 ⟨rfl, rfl⟩
    simp only [zW, zX, zD, builtinA, isLeaf, const1, ustrA, simprocAttr, ti9, ti183, ti219, ti223, ti227, ca97, ca221, cf, Tryz.results217]
    exact ⟨ks, (setSame2 ha hA).symm⟩
  | true =>
    rw [hq] at hkt
    refine acalls_enter (cf := cf 16 [0, 1, 2, 3, 4]) foll Tryz.func217 Tryz.ntmps217 (by simp [cf]) ?_
    simp only [Tryz.f217, EnterK_some, zW, zX, zD, builtinA, isLeaf, const1, ustrA, simprocAttr, ti9, ti183, ti219, ti223, ti227, ca97, ca221, cf, Tryz.results217]
    refine callO_intro hkt ?_
    rintro r A1 ⟨rfl, rfl⟩
    simp only [zW, zX, zD, builtinA, isLeaf, const1, ustrA, simprocAttr, ti9, ti183, ti219, ti223, ti227, ca97, ca221, cf, Tryz.results217]
    refine callO_intro hdf ?_
    rintro r A1 ⟨rfl, ks', rfl, hks⟩
    have ho := out_set (L := [.cells [.str n, .iface (vT v) (vX v)], .cells [.map a, .map b]]) (.mapb (esN ks')) ha (esN_closed _ _)
    simp only [zW, zX, zD, builtinA, isLeaf, const1, ustrA, simprocAttr, ti9, ti183, ti219, ti223, ti227, ca97, ca221, cf, Tryz.results217]
    exact ⟨ho.1, ks', ho.2, fun h => hks (by simpa using h)⟩
set_option maxRecDepth 100000 in
theorem va_add (a b : Nat) (ks vs : List (List UInt8)) (n : List UInt8) (e : VE) (hv : EOk e) (A : List Box) (ha : a < A.length) (hA : A.getD a .dead = .mapb (esN ks)) (hb : b < A.length) (hB : A.getD b .dead = .mapb (esN vs)) :
    ACalls Tryz.prog 223 [vdX (.va n e), .agg [.map a, .map b]] A (fun r A' => ∃ vs', r = .bool ((decide (mostE e 0 = 0) && allE (okS vs) (okS ks) e) && !decide (n ∈ vs)) ∧ A' = A.set b (.mapb (esN vs')) ∧ (((decide (mostE e 0 = 0) && allE (okS vs) (okS ks) e) && !decide (n ∈ vs)) = true → vs' = vs ++ [n])) := by
  have hkt := impl_allows a b ks vs e hv (A ++ [.cells [.str n, ifE e], .cells [.map a, .map b]]) (by simp; omega) (by rw [Abs.getD_append_left ha]; exact hA) (by simp; omega) (by rw [Abs.getD_append_left hb]; exact hB)
  have hdf := impl_define b vs n (A ++ [.cells [.str n, ifE e], .cells [.map a, .map b]]) (by simp; omega) (by rw [Abs.getD_append_left hb]; exact hB)
  rw [ifE] at hkt hdf
  rw [vdX]
  cases hq : decide (mostE e 0 = 0) && allE (okS vs) (okS ks) e with
  | false =>
    rw [hq] at hkt
    refine acalls_enter (cf := cf 16 [0, 1, 2, 3, 4]) foll Tryz.func223 Tryz.ntmps223 (by simp [cf]) ?_
    simp only [Tryz.f223, EnterK_some, zW, zX, zD, builtinA, isLeaf, const1, ustrA, simprocAttr, ti9, ti98, ti183, ti225, ti227, ca97, ca227, cf, Tryz.results223]
    refine callO_intro hkt ?_
    rintro r A1 ⟨rfl, rfl⟩
    simp only [zW, zX, zD, builtinA, isLeaf, const1, ustrA, simprocAttr, ti9, ti98, ti183, ti225, ti227, ca97, ca227, cf, Tryz.results223]
    exact ⟨vs, (setSame2 hb hB).symm⟩
  | true =>
    rw [hq] at hkt
    refine acalls_enter (cf := cf 16 [0, 1, 2, 3, 4]) foll Tryz.func223 Tryz.ntmps223 (by simp [cf]) ?_
    simp only [Tryz.f223, EnterK_some, zW, zX, zD, builtinA, isLeaf, const1, ustrA, simprocAttr, ti9, ti98, ti183, ti225, ti227, ca97, ca227, cf, Tryz.results223]
    refine callO_intro hkt ?_
    rintro r A1 ⟨rfl, rfl⟩
    simp only [zW, zX, zD, builtinA, isLeaf, const1, ustrA, simprocAttr, ti9, ti98, ti183, ti225, ti227, ca97, ca227, cf, Tryz.results223]
    refine callO_intro hdf ?_
    rintro r A1 ⟨rfl, vs', rfl, hks⟩
    have ho := out_set (L := [.cells [.str n, .iface (vtE e) (vxE e)], .cells [.map a, .map b]]) (.mapb (esN vs')) hb (esN_closed _ _)
    simp only [zW, zX, zD, builtinA, isLeaf, const1, ustrA, simprocAttr, ti9, ti98, ti183, ti225, ti227, ca97, ca227, cf, Tryz.results223]
    exact ⟨ho.1, vs', ho.2, fun h => hks (by simpa using h)⟩

/-- the sets of a scope -/
def ScD (a b : Nat) (ys : List VD) (A : List Box) : Prop := A.getD a .dead = .mapb (esN (tyN ys)) ∧ A.getD b .dead = .mapb (esN (vaN ys)) ∧ a ≠ b ∧ a < A.length ∧ b < A.length
theorem tyN_ty (ys : List VD) (n : List UInt8) (v : VT) : tyN (ys ++ [.ty n v]) = tyN ys ++ [n] ∧ vaN (ys ++ [.ty n v]) = vaN ys := by
  simp only [tyN, vaN, List.filter_append, List.map_append]
  exact ⟨rfl, List.append_nil _⟩
theorem tyN_va (ys : List VD) (n : List UInt8) (v : VE) : tyN (ys ++ [.va n v]) = tyN ys ∧ vaN (ys ++ [.va n v]) = vaN ys ++ [n] := by
  simp only [tyN, vaN, List.filter_append, List.map_append]
  exact ⟨List.append_nil _, rfl⟩
theorem addD (a b : Nat) (ys : List VD) (y : VD) (hy : okD y) (A : List Box) (h : ScD a b ys A) :
    ACalls Tryz.prog (pickD 217 223 y) [vdX y, .agg [.map a, .map b]] A (fun r A' => r = .bool (stepD (tyN ys) (vaN ys) y) ∧ (∃ c X, A' = A.set c (.mapb X) ∧ (c = a ∨ c = b) ∧ ∃ l, X = esN l) ∧ (stepD (tyN ys) (vaN ys) y = true → ScD a b (ys ++ [y]) A')) := by
  obtain ⟨h1, h2, h3, h4, h5⟩ := h
  cases y with
  | ty n v =>
    refine (ty_add a b (tyN ys) n v hy A h4 h1).mono ?_
    rintro r A' ⟨ks', rfl, rfl, hk⟩
    refine ⟨rfl, ⟨a, _, rfl, .inl rfl, _, rfl⟩, fun h => ?_⟩
    rw [hk h]
    exact ⟨by rw [(tyN_ty ys n v).1]; exact getD_set_self h4, by rw [(tyN_ty ys n v).2, getD_set_ne' h3]; exact h2, h3, by simpa using h4, by simpa using h5⟩
  | va n e =>
    refine (va_add a b (tyN ys) (vaN ys) n e hy A h4 h1 h5 h2).mono ?_
    rintro r A' ⟨ks', rfl, rfl, hk⟩
    refine ⟨rfl, ⟨b, _, rfl, .inr rfl, _, rfl⟩, fun h => ?_⟩
    rw [hk h]
    exact ⟨by rw [(tyN_va ys n e).1, getD_set_ne' (Ne.symm h3)]; exact h1, by rw [(tyN_va ys n e).2]; exact getD_set_self h5, h3, by simpa using h4, by simpa using h5⟩

def dRow (y : VD) : List AV := [.iface (vdT y) (vdX y)]
def dRows (ys : List VD) : List (List AV) := ys.map dRow
theorem dRows_length (ys : List VD) : (dRows ys).length = ys.length := by simp [dRows]
theorem dRows_getD {ys : List VD} {i : Nat} (h : i < ys.length) : (dRows ys).getD i [] = dRow (ys.getD i vd0) := by simp [dRows, List.getD, h]
theorem vd_take {ys : List VD} {i : Nat} (h : i < ys.length) : ys.take (i + 1) = ys.take i ++ [ys.getD i vd0] := by
  rw [List.take_add_one]; simp [List.getD, h]
theorem vd_mem {ys : List VD} {i : Nat} (h : i < ys.length) : ys.getD i vd0 ∈ ys := by simp [List.getD, h]
theorem ordD_no {ys : List VD} {i : Nat} (hi : i < ys.length) (h : stepD (tyN (ys.take i)) (vaN (ys.take i)) (ys.getD i vd0) = false) : ordD ys = false := by
  unfold ordD
  rw [List.all_eq_false]
  exact ⟨i, List.mem_range.mpr hi, by rw [h]; decide⟩
theorem ordD_yes {ys : List VD} (h : ∀ k, k < ys.length → stepD (tyN (ys.take k)) (vaN (ys.take k)) (ys.getD k vd0) = true) : ordD ys = true := by
  unfold ordD
  rw [List.all_eq_true]
  intro k hk
  exact h k (List.mem_range.mp hk)
theorem fr_two {A A1 : List Box} {c : Nat} {X : Box} (B : List Box) (hc : c = A.length ∨ c = A.length + 1) : Outer A ((A ++ B).set c X) ∧ ((A ++ B).set c X).take A.length = A := by
  have hg : ∀ k, k < A.length → ((A ++ B).set c X).getD k .dead = A.getD k .dead := fun k hk => by
    rw [getD_set_ne' (by omega), Abs.getD_append_left hk]
  have hl : A.length ≤ ((A ++ B).set c X).length := by simp
  exact ⟨⟨hl, fun k hk => .inl (hg k hk)⟩, take_of_getD hl rfl hg⟩

set_option maxRecDepth 100000 in
theorem impl_inOrderD (ys : List VD) (hy : ys.length ≤ 1000) (ho : ∀ y ∈ ys, okD y) (A : List Box) : ACalls Tryz.prog 93 [.slice (dRows ys)] A (fun r A' => r = .bool (ordD ys) ∧ A' = A) := by
  have hcl : ∀ (A' : List Box), A'.take A.length = A → A.length + 2 < A'.length → Outer A A' := fun A' h1 h2 => outer_take h1 (by omega)
  refine acalls_enter (cf := cf 20 [0, 2, 3, 5, 9, 10, 11, 12, 18]) foll Tryz.func93 Tryz.ntmps93 (by simp [cf]) ?_
  simp only [Tryz.f93, EnterK_some, zW, zX, zD, builtinA, isLeaf, const1, ustrA, simprocAttr, ti3, ti77, ti176, ti183, ti227, cf, Tryz.results93]
  refine aloop_intro [3, 9, 10, 11] (fun e A' => ∃ i, i ≤ ys.length ∧ (∀ k, k < i → stepD (tyN (ys.take k)) (vaN (ys.take k)) (ys.getD k vd0) = true) ∧ e = [(3, .ptr (A.length + 2) 0), (9, .slice (dRows ys)), (10, .int .i64 ys.length), (11, .int .i64 i)] ∧ (A'.take A.length = A ∧ A.length + 2 < A'.length ∧ A'.getD (A.length + 2) .dead = .cells [.map A.length, .map (A.length + 1)]) ∧ ScD A.length (A.length + 1) (ys.take i) A') (fun e _ => ys.length - (intOf (Abs.look 11 e)).toNat) ?_ ?_
  · simp only [zW, zX, zD, builtinA, isLeaf, const1, ustrA, simprocAttr, ti3, ti77, ti176, ti183, ti227, cf, Tryz.results93, dRows_length]
    refine ⟨0, by omega, fun k hk => by omega, rfl, ?_⟩
    have hsc : ScD A.length (A.length + 1) (ys.take 0) (A ++ [.mapb [], .mapb [], .cells [.map A.length, .map (A.length + 1)]]) :=
      ⟨by rw [Abs.getD_append_right (by omega)]; simp [tyN, esN], by rw [Abs.getD_append_right (by omega)]; simp [vaN, esN], by omega, by simp, by simp⟩
    first
      | exact hsc
      | exact ⟨by omega, hsc⟩
      | exact ⟨by omega, by simp, hsc⟩
      | exact ⟨⟨by omega, by simp⟩, hsc⟩
      | exact ⟨by simp, by simp, by rw [Abs.getD_append_right (by omega)]; simp, hsc⟩
      | exact ⟨⟨by simp, by simp, by rw [Abs.getD_append_right (by omega)]; simp⟩, hsc⟩
  · rintro e A' ⟨i, hi, hq, rfl, ⟨ht, hl, hc⟩, hsc⟩
    by_cases hlt : i < ys.length
    · have d1 : decide ((i : Int) < (ys.length : Int)) = true := by simp; omega
      have hlt' : 0 ≤ (i : Int) ∧ (i : Int) < (ys.length : Int) := by omega
      have hg := dRows_getD hlt
      have hvt := vd_take hlt
      have hoy := ho _ (vd_mem hlt)
      have hi1 : IntKind.i64.wrap ((i : Int) + 1) = ((i + 1 : Nat) : Int) := by rw [wrap64 (by omega) (by omega)]; rfl
      have hno := @ordD_no ys i hlt
      have hadd := addD A.length (A.length + 1) (ys.take i) (ys.getD i vd0) hoy A' hsc
      have hnext : stepD (tyN (ys.take i)) (vaN (ys.take i)) (ys.getD i vd0) = true → ∀ k, k < i + 1 → stepD (tyN (ys.take k)) (vaN (ys.take k)) (ys.getD k vd0) = true := fun h k hk => by
        rcases Nat.lt_succ_iff_lt_or_eq.mp hk with h' | rfl
        · exact hq k h'
        · exact h
      rw [← hvt] at hadd
      generalize stepD (tyN (ys.take i)) (vaN (ys.take i)) (ys.getD i vd0) = sd at *
      generalize ys.getD i vd0 = y at *
      rw [dRow] at hg
      simp only [zW, zX, zD, builtinA, isLeaf, const1, ustrA, simprocAttr, ti3, ti77, ti176, ti183, ti227, cf, Tryz.results93, dRows_length, d1, hg, hc]
      refine ⟨hlt', ?_⟩
      refine wpO_invoke _ _ _ _ _ _ _ _ _ _ _ _ _ _ _ _ ?_
      simp only [zW, zX, zD, builtinA, isLeaf, const1, ustrA, simprocAttr, ti3, ti77, ti176, ti183, ti227, cf, Tryz.results93, hc]
      refine methD_invO (metD2 (by kernel_rfl) (by kernel_rfl) (by kernel_rfl) (by kernel_rfl)) hadd ?_
      rintro r A2 ⟨rfl, ⟨c, X, rfl, hcc, l, rfl⟩, hsc2⟩
      have k1 : (A'.set c (.mapb (esN l))).take A.length = A := by
        rw [List.take_set_of_le (by omega)]; exact ht
      have k2 : A.length + 2 < (A'.set c (.mapb (esN l))).length := by simpa using hl
      have k3 : (A'.set c (.mapb (esN l))).getD (A.length + 2) .dead = .cells [.map A.length, .map (A.length + 1)] := by rw [getD_set_ne' (by omega)]; exact hc
      cases sd with
      | true =>
        simp only [zW, zX, zD, builtinA, isLeaf, const1, ustrA, simprocAttr, ti3, ti77, ti176, ti183, ti227, cf, Tryz.results93, hi1, LoopK_eq]
        refine ⟨⟨i + 1, by omega, hnext rfl, rfl, ⟨k1, by first | exact hl | exact k2, k3⟩, hsc2 rfl⟩, ?_⟩
        simp only [intOf]; omega
      | false =>
        simp only [zW, zX, zD, builtinA, isLeaf, const1, ustrA, simprocAttr, ti3, ti77, ti176, ti183, ti227, cf, Tryz.results93]
        exact ⟨hcl _ k1 k2, by rw [hno rfl], k1⟩
    · have d1 : decide ((i : Int) < (ys.length : Int)) = false := by simp; omega
      have e : i = ys.length := by omega
      subst e
      simp only [zW, zX, zD, builtinA, isLeaf, const1, ustrA, simprocAttr, ti3, ti77, ti176, ti183, ti227, cf, Tryz.results93, dRows_length, d1]
      exact ⟨hcl _ ht hl, by rw [ordD_yes hq], ht⟩

/-! ### reading a definition -/
noncomputable def defOk (x : ItI) : Bool := localB x.name && (if x.kind = 1 then validB x.typ && isX0 x.ex else if x.kind = 2 then validX x.ex && decide (x.typ = ty0) else false)
theorem isX0_eq {t : Ex} (h : isX0 t = true) : t = ex0 := by simpa [isX0] using h
def DefOf (x : ItI) : VD → Prop
  | .ty n v => x.name = n ∧ x.kind = 1 ∧ x.typ = toTy v ∧ x.ex = ex0
  | .va n e => x.name = n ∧ x.kind = 2 ∧ x.ex = toX e ∧ x.typ = ty0
theorem rX9 (x : ItI) : encX x.ex = [.int .i64 x.xk, .int .i64 x.xi, .str x.xm, .str x.xn, .int .i64 x.xt.kind, .str x.xt.mod, .str x.xt.name, .slice (encs x.xt.kids), .slice (encXs x.xs)] := by rw [ItI.ex, encX]

set_option maxRecDepth 100000 in
set_option maxHeartbeats 1000000 in
theorem impl_readDef (x : ItI) (hz : szJ x ≤ 1048576) (A : List Box) : ACalls Tryz.prog 92 [.agg (iE x)] A (fun r A' => ((∃ y, localB x.name = true ∧ DefOf x y ∧ okD y ∧ r = .tuple [.iface (vdT y) (vdX y), .bool true]) ∨ (defOk x = false ∧ ∃ c, r = .tuple [c, .bool false])) ∧ A' = A) := by
  have hzx : szX x.ex ≤ 1048576 := by unfold szJ at hz; omega
  have hrt := fun A => impl_readType x.typ A
  have hrx := fun A => impl_readExpr2 x.ex hzx A
  have hts := fun A => impl_TypeSame0 x.typ A
  have hxs := fun A => impl_ExprSame0 x.ex A
  have h0 : encX ex0 = [.int .i64 0, .int .i64 0, .str [], .str [], .int .i64 0, .str [], .str [], .slice [], .slice []] := rfl
  have hy : enc ty0 = [.int .i64 0, .str [], .str [], .slice []] := by rw [ty0, enc]; rfl
  rw [encQ4] at hrt hts
  rw [rX9] at hrx hxs
  rw [h0] at hxs
  rw [hy] at hts
  rw [iE]
  refine acalls_enter (cf := cf 54 [0, 1, 2, 3, 4, 5, 6, 7, 11, 13, 14, 34]) foll Tryz.func92 Tryz.ntmps92 (by simp [cf]) ?_
  simp only [Tryz.f92, EnterK_some, zW, zX, zD, builtinA, isLeaf, const1, ustrA, simprocAttr, ti3, ti9, ti51, ti54, ti127, ti223, ti225, ca73, ca121, ca122, ca123, ca124, cf, Tryz.results92]
  refine callK_intro (by simp only [zW, zX, zD, builtinA, isLeaf, const1, ustrA, simprocAttr, Option.map_some]; rfl) (impl_LocalName x.name _) ?_ rfl; rintro v A' ⟨rfl, rfl⟩
  cases hl : localB x.name with
  | false =>
    simp only [zW, zX, zD, builtinA, isLeaf, const1, ustrA, simprocAttr, ti3, ti9, ti51, ti54, ti127, ti223, ti225, ca73, ca121, ca122, ca123, ca124, cf, Tryz.results92]
    exact .inr ⟨by simp [defOk, hl], _, rfl⟩
  | true =>
    by_cases k1 : x.kind = 1
    · simp only [zW, zX, zD, builtinA, isLeaf, const1, ustrA, simprocAttr, ti3, ti9, ti51, ti54, ti127, ti223, ti225, ca73, ca121, ca122, ca123, ca124, cf, Tryz.results92, decide_eq_true k1]
      refine callK_intro (by simp only [zW, zX, zD, builtinA, isLeaf, const1, ustrA, simprocAttr, Option.map_some] <;> rfl) (hrt _) ?_ rfl
      rintro r A' ⟨⟨v, hv, hvo, rfl⟩ | ⟨hv, rfl⟩, rfl⟩
      · have hva : validB x.typ = true := by rw [hv]; exact validB_toTy hvo
        simp only [zW, zX, zD, builtinA, isLeaf, const1, ustrA, simprocAttr, ti3, ti9, ti51, ti54, ti127, ti223, ti225, ca73, ca121, ca122, ca123, ca124, cf, Tryz.results92]
        refine .inl ⟨by kernel_rfl, by kernel_rfl, ?_⟩
        refine callD_intro (by simp only [zW, zX, zD, builtinA, isLeaf, const1, ustrA, simprocAttr, Option.map_some] <;> rfl) (hxs _) ?_ rfl
        simp only [zW, zX, zD, builtinA, isLeaf, const1, ustrA, simprocAttr, ti3, ti9, ti51, ti54, ti127, ti223, ti225, ca73, ca121, ca122, ca123, ca124, cf, Tryz.results92]
        cases hx0 : isX0 x.ex with
        | true => exact .inl ⟨.ty x.name v, ⟨rfl, k1, hv, isX0_eq hx0⟩, hvo, rfl⟩
        | false => exact .inr ⟨by simp [defOk, k1, hx0], _, rfl⟩
      · simp only [zW, zX, zD, builtinA, isLeaf, const1, ustrA, simprocAttr, ti3, ti9, ti51, ti54, ti127, ti223, ti225, ca73, ca121, ca122, ca123, ca124, cf, Tryz.results92]
        refine .inl ⟨by kernel_rfl, by kernel_rfl, ?_⟩
        exact .inr ⟨by simp [defOk, k1, hv], _, rfl⟩
    · by_cases k2 : x.kind = 2
      · simp only [zW, zX, zD, builtinA, isLeaf, const1, ustrA, simprocAttr, ti3, ti9, ti51, ti54, ti127, ti223, ti225, ca73, ca121, ca122, ca123, ca124, cf, Tryz.results92, decide_eq_false k1, decide_eq_true k2]
        refine callK_intro (by simp only [zW, zX, zD, builtinA, isLeaf, const1, ustrA, simprocAttr, Option.map_some] <;> rfl) (hrx _) ?_ rfl
        rintro r A' ⟨⟨v, hv, hvo, rfl⟩ | ⟨hv, w, hw, rfl⟩, rfl⟩
        · have hva : validX x.ex = true := by rw [hv]; exact validX_toX hvo
          simp only [zW, zX, zD, builtinA, isLeaf, const1, ustrA, simprocAttr, ti3, ti9, ti51, ti54, ti127, ti223, ti225, ca73, ca121, ca122, ca123, ca124, cf, Tryz.results92, ifE]
          refine .inl ⟨by kernel_rfl, by kernel_rfl, ?_⟩
          refine callD_intro (by simp only [zW, zX, zD, builtinA, isLeaf, const1, ustrA, simprocAttr, Option.map_some] <;> rfl) (hts _) ?_ rfl
          simp only [zW, zX, zD, builtinA, isLeaf, const1, ustrA, simprocAttr, ti3, ti9, ti51, ti54, ti127, ti223, ti225, ca73, ca121, ca122, ca123, ca124, cf, Tryz.results92]
          by_cases ht : x.typ = ty0
          · rw [decide_eq_true ht]
            exact .inl ⟨.va x.name v, ⟨rfl, k2, hv, ht⟩, hvo, rfl⟩
          · rw [decide_eq_false ht]
            exact .inr ⟨by simp [defOk, k2, ht], _, rfl⟩
        · rcases hw with rfl | ⟨T, y, rfl⟩
          · simp only [zW, zX, zD, builtinA, isLeaf, const1, ustrA, simprocAttr, ti3, ti9, ti51, ti54, ti127, ti223, ti225, ca73, ca121, ca122, ca123, ca124, cf, Tryz.results92]
            refine .inl ⟨by kernel_rfl, by kernel_rfl, ?_⟩
            exact .inr ⟨by simp [defOk, k2, hv], _, rfl⟩
          · simp only [zW, zX, zD, builtinA, isLeaf, const1, ustrA, simprocAttr, ti3, ti9, ti51, ti54, ti127, ti223, ti225, ca73, ca121, ca122, ca123, ca124, cf, Tryz.results92]
            refine .inl ⟨by kernel_rfl, by kernel_rfl, ?_⟩
            exact .inr ⟨by simp [defOk, k2, hv], _, rfl⟩
      · simp only [zW, zX, zD, builtinA, isLeaf, const1, ustrA, simprocAttr, ti3, ti9, ti51, ti54, ti127, ti223, ti225, ca73, ca121, ca122, ca123, ca124, cf, Tryz.results92, decide_eq_false k1, decide_eq_false k2]
        exact .inr ⟨by simp [defOk, k1, k2], _, rfl⟩
end Go.Proofs.YtebgneaehhaclaaGreat
