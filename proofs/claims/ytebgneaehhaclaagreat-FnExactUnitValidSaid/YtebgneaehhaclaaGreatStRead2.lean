/- The program's StructValid. -/
import Derived.Test.YtebgneaehhaclaaGreatStRead
import Derived.Test.YtebgneaehhaclaaGreatStItem
import Derived.Test.YtebgneaehhaclaaGreatAbsW3
set_option linter.unusedVariables false
set_option linter.unusedSimpArgs false
namespace Go.Proofs.YtebgneaehhaclaaGreat
open Go.Abs

def ReadsD (s : List ItI) (ys : List VD) : Prop := ys.length = s.length ∧ ∀ i, i < s.length → localB (s.getD i itm0).name = true ∧ DefOf (s.getD i itm0) (ys.getD i vd0) ∧ okD (ys.getD i vd0)
theorem vdX_leaf (y : VD) : isLeaf (AV.iface (vdT y) (vdX y)) = true := by
  cases y with
  | ty n v => cases v <;> rfl
  | va n v => cases v <;> rfl
theorem dRows_leaf (ys : List VD) : ∀ r ∈ dRows ys, r.length = 1 ∧ ∀ v ∈ r, isLeaf v = true := by
  intro r hr
  obtain ⟨y, _, rfl⟩ := List.mem_map.mp hr
  refine ⟨rfl, fun v hv => ?_⟩
  simp only [dRow, List.mem_singleton] at hv
  subst hv
  exact vdX_leaf y
theorem dRows_view (ys : List VD) (A : List Box) : ∀ k j, k < (dRows ys).length → j < 1 → View A (Abs.rowAt (dRows ys) k j) (Abs.rowAt (dRows ys) k j) := by
  intro k j hk hj
  have : j = 0 := by omega
  subst this
  refine .leaf _ ?_
  rw [dRows_length] at hk
  simp only [Abs.rowAt, dRows_getD hk, dRow]
  exact vdX_leaf _
theorem dRow_step {ys : List VD} {n : Nat} (y : VD) (h : ys.length < n) : (dRows ys ++ List.replicate (n - ys.length) [AV.nili]).set ys.length (AV.iface (vdT y) (vdX y) :: List.drop 1 ((dRows ys ++ List.replicate (n - ys.length) [AV.nili]).getD ys.length [])) = dRows (ys ++ [y]) ++ List.replicate (n - (ys.length + 1)) [AV.nili] := by
  obtain ⟨m, rfl⟩ : ∃ m, n = ys.length + (m + 1) := ⟨n - ys.length - 1, by omega⟩
  have e1 : ys.length + (m + 1) - ys.length = m + 1 := by omega
  have e2 : ys.length + (m + 1) - (ys.length + 1) = m := by omega
  rw [e1, e2, List.replicate_succ]
  have hl := dRows_length ys
  rw [Abs.getD_append_right (by omega), List.set_append_right _ _ (by omega), hl]
  simp [dRows, dRow]

set_option maxRecDepth 100000 in
theorem impl_readEachD (s : List ItI) (hs : s.length ≤ 1048576) (ho : ∀ x ∈ s, szJ x ≤ 1048576) (A : List Box) : ACalls Tryz.prog 91 [.slice (iEs s), .int .i64 10, .func (.func 92) [] []] A (fun r A' => ∃ B, A' = A ++ B ∧
    ((∃ ys j, s.length ≤ 10 ∧ ReadsD s ys ∧ r = .tuple [.own (A.length + j), .bool true] ∧ j < B.length ∧ B.getD j .dead = .row 1 (dRows ys) 0) ∨ ((10 < s.length ∨ ∃ x ∈ s, defOk x = false) ∧ r = .tuple [.nils, .bool false]))) := by
  by_cases h8 : s.length ≤ 10
  · have d1 : decide ((s.length : Int) > 10) = false := by simp; omega
    have d1' : decide ((10 : Int) < (s.length : Int)) = false := by simp; omega
    refine acalls_enterK (cf := cf 41 [0, 1, 2, 6, 7, 8, 9, 10, 11, 12, 16, 20, 21, 22, 23, 34]) foll Tryz.func91 Tryz.ntmps91 (by simp [cf]) ?_
    simp only [Tryz.f91, EnterK_some, zW, zX, zD, builtinA, isLeaf, const1, ustrA, simprocAttr, ti3, ti30, ti76, ti127, ti176, cf, Tryz.results91]
    simp only [zW, zX, zD, builtinA, isLeaf, const1, ustrA, simprocAttr, ti3, ti30, ti76, ti127, ti176, cf, Tryz.results91, iEs_length, d1, d1']
    refine ⟨⟨by omega, by omega, by omega⟩, ?_⟩
    refine aloop_intro [2, 8, 20, 21, 22] (fun e A' => ∃ i ys B, i ≤ s.length ∧ ys.length = i ∧ (∀ k, k < i → localB (s.getD k itm0).name = true ∧ DefOf (s.getD k itm0) (ys.getD k vd0) ∧ okD (ys.getD k vd0)) ∧ e = [(2, .func (.func 92) [] []), (8, .own A.length), (20, .slice (iEs s)), (21, .int .i64 s.length), (22, .int .i64 i)] ∧ A' = A ++ (.row 1 (dRows ys ++ List.replicate (s.length - i) [.nili]) 0 :: B)) (fun e _ => s.length - (intOf (Abs.look 22 e)).toNat) ?_ ?_
    · simp only [zW, zX, zD, builtinA, isLeaf, const1, ustrA, simprocAttr, ti3, ti30, ti76, ti127, ti176, cf, Tryz.results91]
      exact ⟨0, [], [], by omega, rfl, fun k hk => by omega, rfl, by simp [dRows]⟩
    · rintro e A' ⟨i, ys, B, hi, hyl, hq, rfl, rfl⟩
      by_cases hlt : i < s.length
      · have d2 : decide ((i : Int) < (s.length : Int)) = true := by simp; omega
        have hlt' : 0 ≤ (i : Int) ∧ (i : Int) < (s.length : Int) := by omega
        have hg := iEs_getD hlt
        have hmem := it_mem hlt
        have hi1 : IntKind.i64.wrap ((i : Int) + 1) = ((i + 1 : Nat) : Int) := by rw [wrap64 (by omega) (by omega)]; rfl
        have hri := fun A => impl_readDef (s.getD i itm0) (ho _ hmem) A
        generalize hx : s.getD i itm0 = x at *
        simp only [zW, zX, zD, builtinA, isLeaf, const1, ustrA, simprocAttr, ti3, ti30, ti76, ti127, ti176, cf, Tryz.results91, iEs_length, d2, hg, iE_length, iE_take]
        refine ⟨hlt', ?_⟩
        refine wpO_callv _ _ _ _ _ _ _ _ _ _ _ _ _ _ _ ?_
        simp only [zW, zX, zD, builtinA, isLeaf, const1, ustrA, simprocAttr, ti3, ti30, ti76, ti127, ti176, cf, Tryz.results91]
        refine ⟨by kernel_rfl, ?_⟩
        refine callK_intro (by simp only [zW, zX, zD, builtinA, isLeaf, const1, ustrA, simprocAttr, frzL_iE, Option.map_some, List.nil_append, List.append_nil]; rfl) (hri _) ?_ rfl
        rintro r A' ⟨h, rfl⟩
        rcases h with ⟨y, hln, hit, hok, rfl⟩ | ⟨hbad, c, rfl⟩
        · have hst := dRow_step (ys := ys) (n := s.length) y (by omega)
          have hlen : (dRows ys).length + (List.replicate (s.length - i) [AV.nili]).length = s.length := by simp [dRows_length]; omega
          subst hyl
          simp only [zW, zX, zD, builtinA, isLeaf, const1, ustrA, simprocAttr, ti3, ti30, ti76, ti127, ti176, cf, Tryz.results91, hlen, dRows_length, hst, hi1, LoopK_eq]
          refine ⟨⟨by omega, by simp; omega⟩, ⟨by omega, by simp; omega, fun v hv => ?_⟩, ⟨ys.length + 1, ys ++ [y], _, by omega, by simp, fun k hk => ?_, rfl, rfl⟩, ?_⟩
          · simp only [List.mem_singleton] at hv
            subst hv
            rfl
          · rcases Nat.lt_succ_iff_lt_or_eq.mp hk with h | rfl
            · have : (ys ++ [y]).getD k vd0 = ys.getD k vd0 := by simp [List.getD, List.getElem?_append_left h]
              rw [this]
              exact hq k h
            · rw [hx]
              have : (ys ++ [y]).getD ys.length vd0 = y := by simp [List.getD]
              rw [this]
              exact ⟨hln, hit, hok⟩
          · simp only [intOf]; omega
        · simp only [zW, zX, zD, builtinA, isLeaf, const1, ustrA, simprocAttr, ti3, ti30, ti76, ti127, ti176, cf, Tryz.results91]
          exact ⟨_, rfl, .inr (.inr ⟨x, hmem, hbad⟩)⟩
      · have d2 : decide ((i : Int) < (s.length : Int)) = false := by simp; omega
        have e : ys.length = s.length := by omega
        subst hyl
        have hz : List.replicate (s.length - ys.length) [AV.nili] = [] := by rw [e]; simp
        rw [hz, List.append_nil]
        simp only [zW, zX, zD, builtinA, isLeaf, const1, ustrA, simprocAttr, ti3, ti30, ti76, ti127, ti176, cf, Tryz.results91, iEs_length, d2]
        exact ⟨_, rfl, .inl ⟨ys, 0, h8, ⟨e, fun k hk => hq k (by omega)⟩, rfl, by simp, rfl⟩⟩
  · have d1 : decide ((s.length : Int) > 10) = true := by simp; omega
    have d1' : decide ((10 : Int) < (s.length : Int)) = true := by simp; omega
    refine acalls_enterK (cf := cf 41 [0, 1, 2, 6, 7, 8, 9, 10, 11, 12, 16, 20, 21, 22, 23, 34]) foll Tryz.func91 Tryz.ntmps91 (by simp [cf]) ?_
    simp only [Tryz.f91, EnterK_some, zW, zX, zD, builtinA, isLeaf, const1, ustrA, simprocAttr, ti3, ti30, ti76, ti127, ti176, cf, Tryz.results91]
    simp only [zW, zX, zD, builtinA, isLeaf, const1, ustrA, simprocAttr, ti3, ti30, ti76, ti127, ti176, cf, Tryz.results91, iEs_length, d1, d1']
    exact ⟨[], by simp, .inr (.inl (by omega))⟩

set_option maxRecDepth 100000 in
theorem impl_readStruct (s : List ItI) (hs : s.length ≤ 1048576) (ho : ∀ x ∈ s, szJ x ≤ 1048576) (A : List Box) : ACalls Tryz.prog 55 [.slice (iEs s)] A (fun r A' =>
    ((∃ ys, s.length ≤ 10 ∧ ReadsD s ys ∧ (∀ y ∈ ys, okD y) ∧ r = .tuple [.slice (dRows ys), .bool (ordD ys)]) ∨ ((10 < s.length ∨ ∃ x ∈ s, defOk x = false) ∧ r = .tuple [.slice [], .bool false])) ∧ A' = A) := by
  have hre := impl_readEachD s hs ho A
  refine acalls_enter (cf := cf 17 [0, 2, 3, 4, 5]) foll Tryz.func55 Tryz.ntmps55 (by simp [cf]) ?_
  simp only [Tryz.f55, EnterK_some, zW, zX, zD, builtinA, isLeaf, const1, ustrA, simprocAttr, ca91, ca93, cf, Tryz.results55]
  refine callO_intro hre ?_
  rintro r A' ⟨B, rfl, ⟨ys, j, h8, hrt, rfl, hj, hg⟩ | ⟨hbad, rfl⟩⟩
  · have hg2 : (A ++ B).getD (A.length + j) .dead = .row 1 (dRows ys) 0 := by rw [Abs.getD_append_right (by omega), Nat.add_sub_cancel_left]; exact hg
    have hok : ∀ y ∈ ys, okD y := fun y hy => by
      obtain ⟨k, hk, rfl⟩ := List.getElem_of_mem hy
      have := (hrt.2 k (by have := hrt.1; omega)).2.2
      simpa [List.getD, hk] using this
    simp only [zW, zX, zD, builtinA, isLeaf, const1, ustrA, simprocAttr, ca91, ca93, cf, Tryz.results55]
    refine callO_intro (borrowI (.cons (.row (A.length + j) 1 0 (dRows ys) (dRows ys) hg2 rfl (dRows_leaf ys) (dRows_view ys _)) .nil) rfl (fun A => impl_inOrderD ys (by have := hrt.1; omega) hok A)) ?_
    rintro r A' ⟨rfl, rfl⟩
    simp only [zW, zX, zD, builtinA, isLeaf, const1, ustrA, simprocAttr, ca91, ca93, cf, Tryz.results55, hg2]
    exact .inl ⟨ys, h8, hrt, hok, rfl⟩
  · simp only [zW, zX, zD, builtinA, isLeaf, const1, ustrA, simprocAttr, ca91, ca93, cf, Tryz.results55]
    exact .inr hbad

/-! ### what both sides say -/
theorem defOf_ty {x : ItI} {y : VD} (h : DefOf x y) (n : List UInt8) : isD 1 n x = decide (n ∈ tyN [y]) := by
  rw [Bool.eq_iff_iff]
  cases y with
  | ty m v => obtain ⟨h1, h2, _⟩ := h; simp [isD, h1, h2, tyN, isTy, nameD, List.filter, eq_comm]
  | va m v => obtain ⟨h1, h2, _⟩ := h; simp [isD, h1, h2, tyN, isTy, nameD, List.filter]
theorem defOf_va {x : ItI} {y : VD} (h : DefOf x y) (n : List UInt8) : isD 2 n x = decide (n ∈ vaN [y]) := by
  rw [Bool.eq_iff_iff]
  cases y with
  | ty m v => obtain ⟨h1, h2, _⟩ := h; simp [isD, h1, h2, vaN, isTy, nameD, List.filter]
  | va m v => obtain ⟨h1, h2, _⟩ := h; simp [isD, h1, h2, vaN, isTy, nameD, List.filter, eq_comm]
theorem tyN_app (a b : List VD) : tyN (a ++ b) = tyN a ++ tyN b := by simp [tyN]
theorem vaN_app (a b : List VD) : vaN (a ++ b) = vaN a ++ vaN b := by simp [vaN]
theorem has_ty {s : List ItI} {ys : List VD} (h : ReadsD s ys) (n : List UInt8) : ∀ i, i ≤ s.length → hasD (s.take i) 1 n = decide (n ∈ tyN (ys.take i))
  | 0, _ => by simp [hasD, tyN]
  | i + 1, hi => by
    have hy : i < ys.length := by have := h.1; omega
    rw [hasD_take (by omega), vd_take hy, has_ty h n i (by omega), defOf_ty (h.2 i (by omega)).2.1 n, tyN_app]
    rw [Bool.eq_iff_iff]; simp
theorem has_va {s : List ItI} {ys : List VD} (h : ReadsD s ys) (n : List UInt8) : ∀ i, i ≤ s.length → hasD (s.take i) 2 n = decide (n ∈ vaN (ys.take i))
  | 0, _ => by simp [hasD, vaN]
  | i + 1, hi => by
    have hy : i < ys.length := by have := h.1; omega
    rw [hasD_take (by omega), vd_take hy, has_va h n i (by omega), defOf_va (h.2 i (by omega)).2.1 n, vaN_app]
    rw [Bool.eq_iff_iff]; simp
theorem stepD_eq {s : List ItI} {ys : List VD} (h : ReadsD s ys) {i : Nat} (hi : i < s.length) : defB (s.take i) (s.getD i itm0) = stepD (tyN (ys.take i)) (vaN (ys.take i)) (ys.getD i vd0) := by
  obtain ⟨hl, hit, hok⟩ := h.2 i hi
  have hk : kT (s.take i) = okS (tyN (ys.take i)) := by
    funext p
    rw [kT, okS, has_ty h p.2 i (by omega)]
  have hv : kV (s.take i) = okS (vaN (ys.take i)) := by
    funext p
    rw [kV, okS, has_va h p.2 i (by omega)]
  have ht := has_ty h (s.getD i itm0).name i (by omega)
  have hva := has_va h (s.getD i itm0).name i (by omega)
  generalize s.getD i itm0 = x at *
  generalize ys.getD i vd0 = y at *
  symm
  cases y with
  | ty n v =>
    obtain ⟨h1, h2, h3, h4⟩ := hit
    rw [← h1, stepD, ← ht, ← hk]
    refine defB_iff ⟨fun q => ?_, fun q => ?_⟩
    · simp only [Bool.and_eq_true, Bool.not_eq_true'] at q
      exact ⟨hl, by rw [h2]; exact q.2, .inl ⟨h2, h4, v, h3, hok, q.1⟩⟩
    · obtain ⟨_, q2, q3⟩ := q
      rw [h2] at q2
      rcases q3 with ⟨_, _, v', e, _, q4⟩ | ⟨q4, _⟩
      · rw [toTy_one (h3.symm.trans e), q4, q2]; rfl
      · omega
  | va n e =>
    obtain ⟨h1, h2, h3, h4⟩ := hit
    rw [← h1, stepD, ← hva, ← hk, ← hv]
    refine defB_iff ⟨fun q => ?_, fun q => ?_⟩
    · simp only [Bool.and_eq_true, Bool.not_eq_true', decide_eq_true_eq] at q
      exact ⟨hl, by rw [h2]; exact q.2, .inr ⟨h2, h4, e, h3, hok, q.1.1, q.1.2⟩⟩
    · obtain ⟨_, q2, q3⟩ := q
      rw [h2] at q2
      rcases q3 with ⟨q4, _⟩ | ⟨_, _, e', q, _, q4, q5⟩
      · omega
      · rw [toX_inj (h3.symm.trans q), decide_eq_true q4, q5, q2]; rfl
theorem stsV_reads {s : List ItI} {ys : List VD} (h8 : s.length ≤ 10) (h : ReadsD s ys) : stsV s = ordD ys := by
  rw [stsV, ordD, h.1, decide_eq_true h8, Bool.true_and, Bool.eq_iff_iff, List.all_eq_true, List.all_eq_true]
  constructor
  · intro k i hi
    rw [← stepD_eq h (List.mem_range.mp hi)]; exact k i hi
  · intro k i hi
    rw [stepD_eq h (List.mem_range.mp hi)]; exact k i hi
theorem stsV_bad {s : List ItI} (h : 10 < s.length ∨ ∃ x ∈ s, defOk x = false) : stsV s = false := by
  rcases h with h | ⟨x, hx, hb⟩
  · rw [stsV, decide_eq_false (by omega), Bool.false_and]
  · obtain ⟨i, hi, rfl⟩ := List.getElem_of_mem hx
    refine stsV_no hi ?_
    have e : s.getD i itm0 = s[i] := by simp [List.getD, hi]
    rw [e]
    generalize s[i] = x at hb
    refine defB_no fun ⟨q1, _, q3⟩ => ?_
    rw [defOk, q1, Bool.true_and] at hb
    rcases q3 with ⟨k, e0, v, ev, hv, _⟩ | ⟨k, e0, v, ev, hv, _⟩
    · rw [if_pos k, ev, validB_toTy hv, isX0_yes e0] at hb; cases hb
    · rw [if_neg (by omega), if_pos k, ev, validX_toX hv, decide_eq_true e0] at hb; cases hb

end Go.Proofs.YtebgneaehhaclaaGreat
