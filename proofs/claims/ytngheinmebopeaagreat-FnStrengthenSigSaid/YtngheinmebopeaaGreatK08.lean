/- SigNorm, SigRdN, SubT. -/
import Derived.Test.YtngheinmebopeaaGreatK07
import Derived.Test.YtngheinmebopeaaGreatAbsW3
/- The program's normal signatures. -/
set_option linter.unusedVariables false
set_option linter.unusedSimpArgs false
namespace Go.Proofs.YtngheinmebopeaaGreat
open Go.Abs

/-- what an item's type stands for -/
def meanI : VI → VT
  | .ab n => .nm [] n
  | .al _ v => v
  | .va _ v => v
def subI (m : List (BNm × VT)) : VI → VI
  | .ab n => .ab n
  | .al n v => .al n (subV m v)
  | .va n v => .va n (subV m v)
def clN (c : Nat) : AV := .func (.func 70) [] [.ptr c 0]

set_option maxRecDepth 100000 in
theorem norm_cl (m : List (BNm × VT)) (v : VT) (c i : Nat) (A : List Box) (hc : c < A.length) (hi : i < A.length) (hAc : A.getD c .dead = .cells [.map i]) (hA : A.getD i .dead = .mapb (esB m)) :
    ACalls Tryz.prog 70 [.iface (vT v) (vX v), .ptr c 0] A (fun r A' => r = .iface (vT (subV m v)) (vX (subV m v)) ∧ A' = A) := by
  refine acalls_enter (cf := cf 7 [0, 1, 3]) foll Tryz.func70 Tryz.ntmps70 (by simp [cf]) ?_
  simp only [Tryz.f70, EnterK_some, zW, zX, zD, builtinA, isLeaf, const1, ustrA, simprocAttr, ti72, cf, Tryz.results70]
  simp only [zW, zX, zD, builtinA, isLeaf, const1, ustrA, simprocAttr, ti72, cf, Tryz.results70, hAc]
  refine wpO_invoke _ _ _ _ _ _ _ _ _ _ _ _ _ _ _ _ ?_
  simp only [zW, zX, zD, builtinA, isLeaf, const1, ustrA, simprocAttr, ti72, cf, Tryz.results70]
  refine meth_invK (met3 (by kernel_rfl) (by kernel_rfl) (by kernel_rfl) (by kernel_rfl) (by kernel_rfl) (by kernel_rfl)) (subM m v A i hi hA) rfl (fun _ => rfl) ?_
  rintro r A' ⟨rfl, rfl⟩
  simp only [zW, zX, zD, builtinA, isLeaf, const1, ustrA, simprocAttr, ti72, cf, Tryz.results70]

def RetI (m : List (BNm × VT)) (y : VI) : Prop := ∀ (c i : Nat) (A : List Box), c < A.length → i < A.length → A.getD c .dead = .cells [.map i] → A.getD i .dead = .mapb (esB m) →
  ACalls Tryz.prog ((pickI 97 110 116) y) [viX y, clN c] A (fun r A' => r = .iface (viT (subI m y)) (viX (subI m y)) ∧ A' = A)
set_option maxRecDepth 100000 in
theorem ab_ret (m : List (BNm × VT)) (n : List UInt8) : RetI m (.ab n) := fun c i A hc hi hAc hA => by
  show ACalls Tryz.prog 97 _ _ _
  rw [viX, clN]
  refine acalls_enter (cf := cf 7 [0, 2, 4]) foll Tryz.func97 Tryz.ntmps97 (by simp [cf]) ?_
  simp only [Tryz.f97, EnterK_some, zW, zX, zD, builtinA, isLeaf, const1, ustrA, simprocAttr, ti96, cf, Tryz.results97]
  rfl
set_option maxRecDepth 100000 in
theorem al_ret (m : List (BNm × VT)) (n : List UInt8) (v : VT) : RetI m (.al n v) := fun c i A hc hi hAc hA => by
  show ACalls Tryz.prog 110 _ _ _
  have h := norm_cl m v c i (A ++ [.cells [.str n, .iface (vT v) (vX v)]]) (by simp; omega) (by simp; omega) (by rw [Abs.getD_append_left hc]; exact hAc) (by rw [Abs.getD_append_left hi]; exact hA)
  rw [viX, clN]
  refine acalls_enter (cf := cf 13 [0, 1, 2, 4]) foll Tryz.func110 Tryz.ntmps110 (by simp [cf]) ?_
  simp only [Tryz.f110, EnterK_some, zW, zX, zD, builtinA, isLeaf, const1, ustrA, simprocAttr, ti9, ti69, ti101, cf, Tryz.results110]
  refine .inl ⟨by kernel_rfl, by kernel_rfl, ?_⟩
  refine wpD_callv _ _ _ _ _ _ _ _ _ _ _ _ _ _ _ ?_
  simp only [zW, zX, zD, builtinA, isLeaf, const1, ustrA, simprocAttr, ti9, ti69, ti101, cf, Tryz.results110]
  refine ⟨by kernel_rfl, ?_⟩
  refine callD_intro (by simp only [zW, zX, zD, builtinA, isLeaf, const1, ustrA, simprocAttr, Option.map_some, List.nil_append, List.append_nil, List.cons_append] <;> rfl) (h) ?_ rfl
  simp only [zW, zX, zD, builtinA, isLeaf, const1, ustrA, simprocAttr, ti9, ti69, ti101, cf, Tryz.results110]
  rfl
set_option maxRecDepth 100000 in
theorem va_ret (m : List (BNm × VT)) (n : List UInt8) (v : VT) : RetI m (.va n v) := fun c i A hc hi hAc hA => by
  show ACalls Tryz.prog 116 _ _ _
  have h := norm_cl m v c i (A ++ [.cells [.str n, .iface (vT v) (vX v)]]) (by simp; omega) (by simp; omega) (by rw [Abs.getD_append_left hc]; exact hAc) (by rw [Abs.getD_append_left hi]; exact hA)
  rw [viX, clN]
  refine acalls_enter (cf := cf 13 [0, 1, 2, 4]) foll Tryz.func116 Tryz.ntmps116 (by simp [cf]) ?_
  simp only [Tryz.f116, EnterK_some, zW, zX, zD, builtinA, isLeaf, const1, ustrA, simprocAttr, ti9, ti69, ti119, cf, Tryz.results116]
  refine .inl ⟨by kernel_rfl, by kernel_rfl, ?_⟩
  refine wpD_callv _ _ _ _ _ _ _ _ _ _ _ _ _ _ _ ?_
  simp only [zW, zX, zD, builtinA, isLeaf, const1, ustrA, simprocAttr, ti9, ti69, ti119, cf, Tryz.results116]
  refine ⟨by kernel_rfl, ?_⟩
  refine callD_intro (by simp only [zW, zX, zD, builtinA, isLeaf, const1, ustrA, simprocAttr, Option.map_some, List.nil_append, List.append_nil, List.cons_append] <;> rfl) (h) ?_ rfl
  simp only [zW, zX, zD, builtinA, isLeaf, const1, ustrA, simprocAttr, ti9, ti69, ti119, cf, Tryz.results116]
  rfl
theorem retI (m : List (BNm × VT)) : ∀ y, RetI m y
  | .ab n => ab_ret m n
  | .al n v => al_ret m n v
  | .va n v => va_ret m n v
set_option maxRecDepth 100000 in
theorem ab_mean (n : List UInt8) (A : List Box) : ACalls Tryz.prog 95 [viX (.ab n)] A (fun r A' => r = .iface (vT (meanI (.ab n))) (vX (meanI (.ab n))) ∧ A' = A) := by
  rw [viX]
  refine acalls_enter (cf := cf 7 [0, 1, 2]) foll Tryz.func95 Tryz.ntmps95 (by simp [cf]) ?_
  simp only [Tryz.f95, EnterK_some, zW, zX, zD, builtinA, isLeaf, const1, ustrA, simprocAttr, ti9, ti96, ti99, cf, Tryz.results95]
  rfl
set_option maxRecDepth 100000 in
theorem al_mean (n : List UInt8) (v : VT) (A : List Box) : ACalls Tryz.prog 108 [viX (.al n v)] A (fun r A' => r = .iface (vT (meanI (.al n v))) (vX (meanI (.al n v))) ∧ A' = A) := by
  rw [viX]
  refine acalls_enter (cf := cf 5 [0, 1, 2]) foll Tryz.func108 Tryz.ntmps108 (by simp [cf]) ?_
  simp only [Tryz.f108, EnterK_some, zW, zX, zD, builtinA, isLeaf, const1, ustrA, simprocAttr, ti69, ti101, cf, Tryz.results108]
  rfl
set_option maxRecDepth 100000 in
theorem va_mean (n : List UInt8) (v : VT) (A : List Box) : ACalls Tryz.prog 114 [viX (.va n v)] A (fun r A' => r = .iface (vT (meanI (.va n v))) (vX (meanI (.va n v))) ∧ A' = A) := by
  rw [viX]
  refine acalls_enter (cf := cf 5 [0, 1, 2]) foll Tryz.func114 Tryz.ntmps114 (by simp [cf]) ?_
  simp only [Tryz.f114, EnterK_some, zW, zX, zD, builtinA, isLeaf, const1, ustrA, simprocAttr, ti69, ti119, cf, Tryz.results114]
  rfl
theorem meanIf (y : VI) (A : List Box) : ACalls Tryz.prog ((pickI 95 108 114) y) [viX y] A (fun r A' => r = .iface (vT (meanI y)) (vX (meanI y)) ∧ A' = A) := by
  cases y with
  | ab n => exact ab_mean n A
  | al n v => exact al_mean n v A
  | va n v => exact va_mean n v A

/-- what is known behind an item -/
def nxtM (m : List (BNm × VT)) : VI → List (BNm × VT)
  | .ab n => m ++ [(([], n), .nm [] n)]
  | .al n v => m ++ [(([], n), subV m v)]
  | .va _ _ => m
def fitI (y : VI) : Bool := decide (dep (meanI y) ≤ 8) && decide (cnt (meanI y) ≤ 63)
def normL : List (BNm × VT) → List VI → Option (List VI)
  | _, [] => some []
  | m, y :: ys => if fitI (subI m y) = true then (normL (nxtM m y) ys).map (subI m y :: ·) else none
theorem vi_drop {l : List VI} {i : Nat} (h : i < l.length) : l.drop i = l.getD i vi0 :: l.drop (i + 1) := by
  have : l.getD i vi0 = l[i] := by simp [List.getD, h]
  rw [this, List.getElem_cons_drop h]
/-- names that are known are names of earlier types -/
def KnM (m : List (BNm × VT)) (zs : List VI) : Prop := (∀ x ∈ m, VOk x.2) ∧ ∀ x ∈ m, x.1.1 = [] ∧ (false, x.1.2) ∈ zs.map viK
theorem look_mem {q : BNm} : ∀ {m : List (BNm × VT)}, lookB q m ≠ none → ∃ x ∈ m, x.1 = q
  | [], h => absurd rfl h
  | (p, v) :: m, h => by
    rw [lookB] at h
    by_cases e : q = p
    · exact ⟨(p, v), by simp, e.symm⟩
    · rw [if_neg e] at h
      obtain ⟨x, hx, h2⟩ := look_mem h
      exact ⟨x, List.mem_cons_of_mem _ hx, h2⟩

theorem mean_sub {m : List (BNm × VT)} (hm : ∀ x ∈ m, VOk x.2) {y : VI} (hy : VOk (meanI y)) : okV (meanI (subI m y)) = true ∧ dep (meanI (subI m y)) ≤ 16 ∧ cnt (meanI (subI m y)) ≤ 3969 := by
  have h1 := hy.dep
  have h2 := hy.cnt
  cases y with
  | ab n => exact ⟨hy.ok, by simp only [subI, meanI] at *; omega, by simp only [subI, meanI] at *; omega⟩
  | al n v =>
    have := sub_ok m hm v hy.ok
    exact ⟨this.1, by simp only [subI, meanI] at *; omega, by simp only [subI, meanI] at *; omega⟩
  | va n v =>
    have := sub_ok m hm v hy.ok
    exact ⟨this.1, by simp only [subI, meanI] at *; omega, by simp only [subI, meanI] at *; omega⟩
theorem upd_noneB (m : List (BNm × VT)) (q : BNm) (v : VT) : updA none (bkE q) (.iface (vT v) (vX v)) (esB m) = esB (m ++ [(q, v)]) := by
  simp [updA, esB]
theorem viK_sub (m : List (BNm × VT)) (y : VI) : viK (subI m y) = viK y := by cases y <;> rfl

set_option maxRecDepth 100000 in
set_option maxHeartbeats 4000000 in
theorem impl_normal (ys : List VI) (hl : ys.length ≤ 1000) (ho : ∀ k, k < ys.length → VOk (meanI (ys.getD k vi0))) (hord : ordB ys = true) (A : List Box) :
    ACalls Tryz.prog 63 [.slice (vRows ys)] A (fun r A' => ∃ B, A' = A ++ B ∧ ((∃ zs j, normL [] ys = some zs ∧ r = .tuple [.own (A.length + j), .bool true] ∧ j < B.length ∧ B.getD j .dead = .row 1 (vRows zs) 0) ∨ (normL [] ys = none ∧ r = .tuple [.nils, .bool false]))) := by
  refine acalls_enterK (cf := cf 44 [0, 2, 3, 4, 5, 6, 7, 8, 13, 14, 15, 16, 26, 31]) foll Tryz.func63 Tryz.ntmps63 (by simp [cf]) ?_
  simp only [Tryz.f63, EnterK_some, zW, zX, zD, builtinA, isLeaf, const1, ustrA, simprocAttr, ti3, ti4, ti9, ti51, ti67, ti72, ti91, ti99, ca30, mi72, cf, Tryz.results63]
  simp only [zW, zX, zD, builtinA, isLeaf, const1, ustrA, simprocAttr, ti3, ti4, ti9, ti51, ti67, ti72, ti91, ti99, ca30, mi72, cf, Tryz.results63, vRows_length]
  refine ⟨⟨by omega, by omega, by omega⟩, ?_⟩
  refine aloop_intro [4, 5, 13, 14, 15] (fun e A' => ∃ i m zs B, i ≤ ys.length ∧ zs.length = i ∧ KnM m (ys.take i) ∧ normL [] ys = (normL m (ys.drop i)).map (zs ++ ·) ∧ e = [(4, .ptr (A.length + 1) 0), (5, .own (A.length + 2)), (13, .slice (vRows ys)), (14, .int .i64 ys.length), (15, .int .i64 i)] ∧ A' = A ++ (.mapb (esB m) :: .cells [.map A.length] :: .row 1 (vRows zs ++ List.replicate (ys.length - i) [.nili]) 0 :: B)) (fun e _ => ys.length - (intOf (Abs.look 15 e)).toNat) ?_ ?_
  · simp only [zW, zX, zD, builtinA, isLeaf, const1, ustrA, simprocAttr, ti3, ti4, ti9, ti51, ti67, ti72, ti91, ti99, ca30, mi72, cf, Tryz.results63]
    exact ⟨0, [], [], [], by omega, rfl, ⟨by simp, by simp⟩, by simp, rfl, by simp [vRows, esB]⟩
  · rintro e A' ⟨i, m, zs, B, hi, hzl, ⟨hm1, hm2⟩, hq, rfl, rfl⟩
    by_cases hlt : i < ys.length
    · have d2 : decide ((i : Int) < (ys.length : Int)) = true := by simp; omega
      have hlt' : 0 ≤ (i : Int) ∧ (i : Int) < (ys.length : Int) := by omega
      have hg := vRows_getD hlt
      have hi1 : IntKind.i64.wrap ((i : Int) + 1) = ((i + 1 : Nat) : Int) := by rw [wrap64 (by omega) (by omega)]; rfl
      have hoy := ho i hlt
      rw [vi_drop hlt] at hq
      generalize hyv : ys.getD i vi0 = y at *
      rw [vRow] at hg
      have hret := retI m y (A.length + 1) A.length
      simp only [zW, zX, zD, builtinA, isLeaf, const1, ustrA, simprocAttr, ti3, ti4, ti9, ti51, ti67, ti72, ti91, ti99, ca30, mi72, cf, Tryz.results63, vRows_length, d2, hg]
      refine ⟨hlt', ?_⟩
      refine wpO_invoke _ _ _ _ _ _ _ _ _ _ _ _ _ _ _ _ ?_
      simp only [zW, zX, zD, builtinA, isLeaf, const1, ustrA, simprocAttr, ti3, ti4, ti9, ti51, ti67, ti72, ti91, ti99, ca30, mi72, cf, Tryz.results63]
      refine methI_invK (metI3 (by kernel_rfl) (by kernel_rfl) (by kernel_rfl) (by kernel_rfl) (by kernel_rfl) (by kernel_rfl)) (hret _ (by simp) (by simp) (by simp [List.getD]) (by simp [List.getD])) rfl (fun _ => rfl) ?_
      rintro r A' ⟨rfl, rfl⟩
      simp only [zW, zX, zD, builtinA, isLeaf, const1, ustrA, simprocAttr, ti3, ti4, ti9, ti51, ti67, ti72, ti91, ti99, ca30, mi72, cf, Tryz.results63]
      refine wpO_invoke _ _ _ _ _ _ _ _ _ _ _ _ _ _ _ _ ?_
      simp only [zW, zX, zD, builtinA, isLeaf, const1, ustrA, simprocAttr, ti3, ti4, ti9, ti51, ti67, ti72, ti91, ti99, ca30, mi72, cf, Tryz.results63]
      refine methI_invK (metI3 (by kernel_rfl) (by kernel_rfl) (by kernel_rfl) (by kernel_rfl) (by kernel_rfl) (by kernel_rfl)) (meanIf (subI m y) _) rfl (fun _ => rfl) ?_
      rintro r A' ⟨rfl, rfl⟩
      simp only [zW, zX, zD, builtinA, isLeaf, const1, ustrA, simprocAttr, ti3, ti4, ti9, ti51, ti67, ti72, ti91, ti99, ca30, mi72, cf, Tryz.results63]
      obtain ⟨z1, z2, z3⟩ := mean_sub hm1 hoy
      refine callK_intro (by rfl) (impl_withinLimits2 _ (by omega) (by omega) _) ?_ rfl
      rintro r A' ⟨rfl, rfl⟩
      rw [show (decide (dep (meanI (subI m y)) ≤ 8) && decide (cnt (meanI (subI m y)) ≤ 63)) = fitI (subI m y) from rfl]
      cases hfit : fitI (subI m y) with
      | false =>
        simp only [zW, zX, zD, builtinA, isLeaf, const1, ustrA, simprocAttr, ti3, ti4, ti9, ti51, ti67, ti72, ti91, ti99, ca30, mi72, cf, Tryz.results63]
        exact ⟨_, rfl, .inr (by rw [hq, normL, if_neg (by rw [hfit]; simp)]; rfl)⟩
      | true =>
        rw [normL, if_pos hfit] at hq
        simp only [zW, zX, zD, builtinA, isLeaf, const1, ustrA, simprocAttr, ti3, ti4, ti9, ti51, ti67, ti72, ti91, ti99, ca30, mi72, cf, Tryz.results63]
        refine wpO_invoke _ _ _ _ _ _ _ _ _ _ _ _ _ _ _ _ ?_
        simp only [zW, zX, zD, builtinA, isLeaf, const1, ustrA, simprocAttr, ti3, ti4, ti9, ti51, ti67, ti72, ti91, ti99, ca30, mi72, cf, Tryz.results63]
        refine methI_invK (metI3 (by kernel_rfl) (by kernel_rfl) (by kernel_rfl) (by kernel_rfl) (by kernel_rfl) (by kernel_rfl)) (keyI (subI m y) _) rfl (fun _ => rfl) ?_
        rintro r A' ⟨rfl, rfl⟩
        rw [viK_sub]
        have hst := vRow_step (ys := zs) (n := ys.length) (subI m y) (by omega)
        have hlen : (vRows zs).length + (List.replicate (ys.length - i) [AV.nili]).length = ys.length := by simp [vRows_length]; omega
        have hstep : stepB (ys.take i) y = true := by
          have := List.all_eq_true.1 hord i (List.mem_range.2 hlt)
          rwa [hyv] at this
        have hnot : viK y ∉ (ys.take i).map viK := by
          simp only [stepB, Bool.and_eq_true, Bool.not_eq_true', decide_eq_false_iff_not] at hstep
          exact hstep.2
        have htk : (ys.take (i + 1)).map viK = (ys.take i).map viK ++ [viK y] := by
          rw [List.take_add_one]
          have e : ys[i]? = some y := by rw [← hyv]; simp [List.getD, hlt]
          rw [e]; simp
        have hqn : ∀ m', m' = nxtM m y → normL [] ys = (normL m' (ys.drop (i + 1))).map ((zs ++ [subI m y]) ++ ·) := fun m' h => by
          rw [hq, h, Option.map_map]
          congr 1
          funext x
          simp
        have hVO : VOk (meanI (subI m y)) := by
          simp only [fitI, Bool.and_eq_true, decide_eq_true_eq] at hfit
          exact ⟨z1, hfit.1, hfit.2⟩
        subst hzl
        cases y with
        | va n v =>
          simp only [viK, kE]
          simp only [zW, zX, zD, builtinA, isLeaf, const1, ustrA, simprocAttr, ti3, ti4, ti9, ti51, ti67, ti72, ti91, ti99, ca30, mi72, cf, Tryz.results63, hlen, vRows_length, hst, hi1, LoopK_eq]
          refine ⟨⟨by omega, by simp; omega⟩, ⟨by omega, by simp; omega, fun v' hv' => ?_⟩, ⟨zs.length + 1, m, zs ++ [subI m (.va n v)], _, by omega, by simp, ⟨hm1, fun x hx => ⟨(hm2 x hx).1, by rw [htk]; exact List.mem_append_left _ (hm2 x hx).2⟩⟩, hqn m rfl, rfl, rfl⟩, ?_⟩
          · simp only [List.mem_singleton] at hv'
            subst hv'; rfl
          · simp only [intOf]; omega
        | al n v =>
          have hkn : lookB ([], n) m = none := by
            rcases Classical.em (lookB ([], n) m = none) with h | h
            · exact h
            · obtain ⟨x, hx, hxe⟩ := look_mem h
              have := (hm2 x hx).2
              rw [hxe] at this
              exact absurd this hnot
          have hfnd : findA KB (bkE ([], n)) (esB m) 0 = some none := by
            rcases find_b ([], n) m 0 with ⟨f1, _⟩ | ⟨j, w, _, f2⟩
            · exact f1
            · rw [hkn] at f2; cases f2
          have hup := upd_noneB m ([], n) (subV m v)
          simp only [bkE] at hfnd hup
          simp only [viK, kE]
          simp only [zW, zX, zD, builtinA, isLeaf, const1, ustrA, simprocAttr, ti3, ti4, ti9, ti51, ti67, ti72, ti91, ti99, ca30, mi72, cf, Tryz.results63, hlen, vRows_length]
          refine .inr (drawE_intro [(false, 0, 1), (false, 0, 1), (false, 0, 1), (false, 0, 1), (false, 0, 0), (true, 0, 0), (true, 1, 1)] [A ++ (.mapb (esB m) :: .cells [.map A.length] :: .row 1 (vRows zs ++ List.replicate (ys.length - zs.length) [.nili]) 0 :: (B ++ [.cells [.bool false, .str n]])), A ++ (.mapb (esB m) :: .cells [.map A.length] :: .row 1 (vRows zs ++ List.replicate (ys.length - zs.length) [.nili]) 0 :: (B ++ [.cells [.bool false, .str n]])), A ++ (.mapb (esB (m ++ [(([], n), subV m v)])) :: .cells [.map A.length] :: .row 1 (vRows zs ++ List.replicate (ys.length - zs.length) [.nili]) 0 :: (B ++ [.cells [.bool false, .str n]]))] 2 rfl (by kernel_rfl) (by kernel_rfl) (by kernel_rfl) (by kernel_rfl) (by kernel_rfl) (by kernel_rfl) ?_)
          simp only [zW, zX, zD, builtinA, isLeaf, const1, ustrA, simprocAttr, ti3, ti4, ti9, ti51, ti67, ti72, ti91, ti99, ca30, mi72, cf, Tryz.results63]
          refine wpG_invoke _ _ _ _ _ _ _ _ _ _ _ _ _ _ _ _ _ _ ?_
          simp only [zW, zX, zD, builtinA, isLeaf, const1, ustrA, simprocAttr, ti3, ti4, ti9, ti51, ti67, ti72, ti91, ti99, ca30, mi72, cf, Tryz.results63]
          refine methI_invE (metI3 (by kernel_rfl) (by kernel_rfl) (by kernel_rfl) (by kernel_rfl) (by kernel_rfl) (by kernel_rfl)) (meanIf (subI m (.al n v)) _) rfl ?_
          simp only [zW, zX, zD, builtinA, isLeaf, const1, ustrA, simprocAttr, ti3, ti4, ti9, ti51, ti67, ti72, ti91, ti99, ca30, mi72, cf, Tryz.results63, wpG_upd, hfnd, hup]
          refine ⟨by simp [esB, bkE, subI, meanI], ⟨by omega, by rw [hlen]; omega⟩, ⟨by omega, by rw [hlen]; omega, fun v' hv' => ?_⟩, ?_⟩
          · simp only [List.mem_singleton] at hv'
            subst hv'; rfl
          simp only [zW, zX, zD, builtinA, isLeaf, const1, ustrA, simprocAttr, ti3, ti4, ti9, ti51, ti67, ti72, ti91, ti99, ca30, mi72, cf, Tryz.results63, hst, hi1, LoopK_eq]
          refine ⟨⟨zs.length + 1, m ++ [(([], n), subV m v)], zs ++ [subI m (.al n v)], _, by omega, by simp, ⟨fun x hx => ?_, fun x hx => ?_⟩, hqn _ rfl, rfl, rfl⟩, ?_⟩
          · rcases List.mem_append.1 hx with hx | hx
            · exact hm1 x hx
            · rw [List.mem_singleton.1 hx]; exact hVO
          · rw [htk]
            rcases List.mem_append.1 hx with hx | hx
            · exact ⟨(hm2 x hx).1, List.mem_append_left _ (hm2 x hx).2⟩
            · rw [List.mem_singleton.1 hx]; exact ⟨rfl, List.mem_append_right _ (by simp [viK])⟩
          · simp only [intOf]; omega
        | ab n =>
          have hkn : lookB ([], n) m = none := by
            rcases Classical.em (lookB ([], n) m = none) with h | h
            · exact h
            · obtain ⟨x, hx, hxe⟩ := look_mem h
              have := (hm2 x hx).2
              rw [hxe] at this
              exact absurd this hnot
          have hfnd : findA KB (bkE ([], n)) (esB m) 0 = some none := by
            rcases find_b ([], n) m 0 with ⟨f1, _⟩ | ⟨j, w, _, f2⟩
            · exact f1
            · rw [hkn] at f2; cases f2
          have hup := upd_noneB m ([], n) (.nm [] n)
          simp only [bkE] at hfnd hup
          simp only [viK, kE]
          simp only [zW, zX, zD, builtinA, isLeaf, const1, ustrA, simprocAttr, ti3, ti4, ti9, ti51, ti67, ti72, ti91, ti99, ca30, mi72, cf, Tryz.results63, hlen, vRows_length]
          refine .inr (drawE_intro [(false, 0, 1), (false, 0, 1), (false, 0, 1), (false, 0, 1), (false, 0, 0), (true, 0, 0), (true, 1, 1)] [A ++ (.mapb (esB m) :: .cells [.map A.length] :: .row 1 (vRows zs ++ List.replicate (ys.length - zs.length) [.nili]) 0 :: (B ++ [.cells [.bool false, .str n]])), A ++ (.mapb (esB m) :: .cells [.map A.length] :: .row 1 (vRows zs ++ List.replicate (ys.length - zs.length) [.nili]) 0 :: (B ++ [.cells [.bool false, .str n]])), A ++ (.mapb (esB (m ++ [(([], n), .nm [] n)])) :: .cells [.map A.length] :: .row 1 (vRows zs ++ List.replicate (ys.length - zs.length) [.nili]) 0 :: (B ++ [.cells [.bool false, .str n]]))] 2 rfl (by kernel_rfl) (by kernel_rfl) (by kernel_rfl) (by kernel_rfl) (by kernel_rfl) (by kernel_rfl) ?_)
          simp only [zW, zX, zD, builtinA, isLeaf, const1, ustrA, simprocAttr, ti3, ti4, ti9, ti51, ti67, ti72, ti91, ti99, ca30, mi72, cf, Tryz.results63]
          refine wpG_invoke _ _ _ _ _ _ _ _ _ _ _ _ _ _ _ _ _ _ ?_
          simp only [zW, zX, zD, builtinA, isLeaf, const1, ustrA, simprocAttr, ti3, ti4, ti9, ti51, ti67, ti72, ti91, ti99, ca30, mi72, cf, Tryz.results63]
          refine methI_invE (metI3 (by kernel_rfl) (by kernel_rfl) (by kernel_rfl) (by kernel_rfl) (by kernel_rfl) (by kernel_rfl)) (meanIf (subI m (.ab n)) _) rfl ?_
          simp only [zW, zX, zD, builtinA, isLeaf, const1, ustrA, simprocAttr, ti3, ti4, ti9, ti51, ti67, ti72, ti91, ti99, ca30, mi72, cf, Tryz.results63, wpG_upd, hfnd, hup]
          refine ⟨by simp [esB, bkE, subI, meanI], ⟨by omega, by rw [hlen]; omega⟩, ⟨by omega, by rw [hlen]; omega, fun v' hv' => ?_⟩, ?_⟩
          · simp only [List.mem_singleton] at hv'
            subst hv'; rfl
          simp only [zW, zX, zD, builtinA, isLeaf, const1, ustrA, simprocAttr, ti3, ti4, ti9, ti51, ti67, ti72, ti91, ti99, ca30, mi72, cf, Tryz.results63, hst, hi1, LoopK_eq]
          refine ⟨⟨zs.length + 1, m ++ [(([], n), .nm [] n)], zs ++ [subI m (.ab n)], _, by omega, by simp, ⟨fun x hx => ?_, fun x hx => ?_⟩, hqn _ rfl, rfl, rfl⟩, ?_⟩
          · rcases List.mem_append.1 hx with hx | hx
            · exact hm1 x hx
            · rw [List.mem_singleton.1 hx]; exact hVO
          · rw [htk]
            rcases List.mem_append.1 hx with hx | hx
            · exact ⟨(hm2 x hx).1, List.mem_append_left _ (hm2 x hx).2⟩
            · rw [List.mem_singleton.1 hx]; exact ⟨rfl, List.mem_append_right _ (by simp [viK])⟩
          · simp only [intOf]; omega
    · have d2 : decide ((i : Int) < (ys.length : Int)) = false := by simp; omega
      have e : zs.length = ys.length := by omega
      subst hzl
      have hz : List.replicate (ys.length - zs.length) [AV.nili] = [] := by rw [e]; simp
      rw [hz, List.append_nil]
      simp only [zW, zX, zD, builtinA, isLeaf, const1, ustrA, simprocAttr, ti3, ti4, ti9, ti51, ti67, ti72, ti91, ti99, ca30, mi72, cf, Tryz.results63, vRows_length, d2]
      rw [List.drop_of_length_le (by omega), normL] at hq
      exact ⟨_, rfl, .inl ⟨zs, 2, by rw [hq]; simp, rfl, by simp, rfl⟩⟩
end Go.Proofs.YtngheinmebopeaaGreat

/- Reading a signature with normal types, and what a name in it stands for. -/
set_option linter.unusedVariables false
set_option linter.unusedSimpArgs false
namespace Go.Proofs.YtngheinmebopeaaGreat
open Go.Abs

set_option maxRecDepth 100000 in
theorem pos_cl (y : VI) (q : Ky) (c : Nat) (A : List Box) (hc : c < A.length) (hA : A.getD c .dead = .cells (kE q)) : ACalls Tryz.prog 72 [.iface (viT y) (viX y), .ptr c 0] A (fun r A' => r = .bool (decide (viK y = q)) ∧ A' = A) := by
  have he := kE_eq (viK y) q
  simp only [kE] at hA he
  refine acalls_enter (cf := cf 8 [0, 1, 3]) foll Tryz.func72 Tryz.ntmps72 (by simp [cf]) ?_
  simp only [Tryz.f72, EnterK_some, zW, zX, zD, builtinA, isLeaf, const1, ustrA, simprocAttr, ti67, ks67, cf, Tryz.results72]
  refine .inl ⟨by kernel_rfl, by kernel_rfl, ?_⟩
  refine wpD_invoke _ _ _ _ _ _ _ _ _ _ _ _ _ _ _ _ ?_
  simp only [zW, zX, zD, builtinA, isLeaf, const1, ustrA, simprocAttr, ti67, ks67, cf, Tryz.results72]
  refine methI_invD (metI3 (by kernel_rfl) (by kernel_rfl) (by kernel_rfl) (by kernel_rfl) (by kernel_rfl) (by kernel_rfl)) (keyI y _) rfl (fun _ => rfl) ?_
  simp only [kE]
  simp only [zW, zX, zD, builtinA, isLeaf, const1, ustrA, simprocAttr, ti67, ks67, cf, Tryz.results72, hA, he]

set_option maxRecDepth 100000 in
theorem idx_items (ys : List VI) (hl : ys.length ≤ 1000) (q : Ky) (c : Nat) (A : List Box) (hc : c < A.length) (hA : A.getD c .dead = .cells (kE q)) :
    ACalls Tryz.prog 71 [.slice (vRows ys), .func (.func 72) [] [.ptr c 0]] A (fun r A' => ((∃ i, i < ys.length ∧ viK (ys.getD i vi0) = q ∧ r = .int .i64 (i : Nat)) ∨ ((∀ i, i < ys.length → viK (ys.getD i vi0) ≠ q) ∧ r = .int .i64 (-1))) ∧ A' = A) := by
  refine acalls_enter (cf := cf 19 [0, 1, 4, 5, 7, 8, 9, 16]) foll Tryz.func71 Tryz.ntmps71 (by simp [cf]) ?_
  simp only [Tryz.f71, EnterK_some, zW, zX, zD, builtinA, isLeaf, const1, ustrA, simprocAttr, ti3, ti51, ti91, cf, Tryz.results71]
  simp only [zW, zX, zD, builtinA, isLeaf, const1, ustrA, simprocAttr, ti3, ti51, ti91, cf, Tryz.results71, vRows_length]
  refine aloop_intro [0, 1, 7, 8] (fun e A' => ∃ i, i ≤ ys.length ∧ (∀ k, k < i → viK (ys.getD k vi0) ≠ q) ∧ e = [(0, .slice (vRows ys)), (1, .func (.func 72) [] [.ptr c 0]), (7, .int .i64 ys.length), (8, .int .i64 i)] ∧ A' = A) (fun e _ => ys.length - (intOf (Abs.look 8 e)).toNat) ?_ ?_
  · simp only [zW, zX, zD, builtinA, isLeaf, const1, ustrA, simprocAttr, ti3, ti51, ti91, cf, Tryz.results71]
    exact ⟨0, by omega, fun k hk => by omega, rfl⟩
  · rintro e A' ⟨i, hi, hq, rfl, rfl⟩
    by_cases hlt : i < ys.length
    · have d2 : decide ((i : Int) < (ys.length : Int)) = true := by simp; omega
      have hlt' : 0 ≤ (i : Int) ∧ (i : Int) < (ys.length : Int) := by omega
      have hg := vRows_getD hlt
      have hi1 : IntKind.i64.wrap ((i : Int) + 1) = ((i + 1 : Nat) : Int) := by rw [wrap64 (by omega) (by omega)]; rfl
      generalize hyv : ys.getD i vi0 = y at *
      rw [vRow] at hg
      simp only [zW, zX, zD, builtinA, isLeaf, const1, ustrA, simprocAttr, ti3, ti51, ti91, cf, Tryz.results71, vRows_length, d2, hg]
      refine ⟨hlt', ?_⟩
      refine wpO_callv _ _ _ _ _ _ _ _ _ _ _ _ _ _ _ ?_
      simp only [zW, zX, zD, builtinA, isLeaf, const1, ustrA, simprocAttr, ti3, ti51, ti91, cf, Tryz.results71]
      refine ⟨by kernel_rfl, ?_⟩
      refine callO_intro (pos_cl y q c _ hc hA) ?_
      rintro r A' ⟨rfl, rfl⟩
      by_cases hk : viK y = q
      · simp only [zW, zX, zD, builtinA, isLeaf, const1, ustrA, simprocAttr, ti3, ti51, ti91, cf, Tryz.results71, decide_eq_true hk]
        exact .inl ⟨i, hlt, by rw [hyv]; exact hk, rfl⟩
      · simp only [zW, zX, zD, builtinA, isLeaf, const1, ustrA, simprocAttr, ti3, ti51, ti91, cf, Tryz.results71, decide_eq_false hk, hi1, LoopK_eq]
        refine ⟨⟨i + 1, by omega, fun k hk2 => ?_, rfl⟩, ?_⟩
        · rcases Nat.lt_succ_iff_lt_or_eq.mp hk2 with h | rfl
          · exact hq k h
          · rw [hyv]; exact hk
        · simp only [intOf]; omega
    · have d2 : decide ((i : Int) < (ys.length : Int)) = false := by simp; omega
      have e : i = ys.length := by omega
      subst e
      simp only [zW, zX, zD, builtinA, isLeaf, const1, ustrA, simprocAttr, ti3, ti51, ti91, cf, Tryz.results71, vRows_length, d2]
      exact .inr hq

set_option maxRecDepth 100000 in
theorem impl_position (ys : List VI) (hl : ys.length ≤ 1000) (q : Ky) (A : List Box) : ACalls Tryz.prog 64 [.slice (vRows ys), .agg (kE q)] A (fun r A' => ((∃ i, i < ys.length ∧ viK (ys.getD i vi0) = q ∧ r = .int .i64 (i : Nat)) ∨ ((∀ i, i < ys.length → viK (ys.getD i vi0) ≠ q) ∧ r = .int .i64 (-1))) ∧ A' = A) := by
  have h := idx_items ys hl q A.length (A ++ [.cells (kE q)]) (by simp) (by rw [Abs.getD_append_right (Nat.le_refl _)]; simp)
  simp only [kE] at h
  rw [kE]
  refine acalls_enter (cf := cf 8 [0, 1, 3, 4]) foll Tryz.func64 Tryz.ntmps64 (by simp [cf]) ?_
  simp only [Tryz.f64, EnterK_some, zW, zX, zD, builtinA, isLeaf, const1, ustrA, simprocAttr, ti67, ca71, cf, Tryz.results64]
  refine callO_intro h ?_
  rintro r A' ⟨h2, rfl⟩
  rcases h2 with ⟨i, hi, hv, rfl⟩ | ⟨hn, rfl⟩
  · simp only [zW, zX, zD, builtinA, isLeaf, const1, ustrA, simprocAttr, ti67, ca71, cf, Tryz.results64]
    exact .inl ⟨i, hi, hv, rfl⟩
  · simp only [zW, zX, zD, builtinA, isLeaf, const1, ustrA, simprocAttr, ti67, ca71, cf, Tryz.results64]
    exact .inr hn

/-- the item with a key -/
def FindO (ys : List VI) (q : Ky) (o : Option VT) : Prop := match o with
  | some v => ∃ i, i < ys.length ∧ viK (ys.getD i vi0) = q ∧ meanI (ys.getD i vi0) = v
  | none => ∀ i, i < ys.length → viK (ys.getD i vi0) ≠ q
def findR : Option VT → AV
  | some v => .tuple [.iface (vT v) (vX v), .bool true]
  | none => .tuple [.nili, .bool false]
set_option maxRecDepth 100000 in
theorem impl_findSig (ys : List VI) (hl : ys.length ≤ 1000) (q : Ky) (A : List Box) : ACalls Tryz.prog 50 [.slice (vRows ys), .agg (kE q)] A (fun r A' => ∃ o, FindO ys q o ∧ r = findR o ∧ A' = A) := by
  have h := fun A => impl_position ys hl q A
  simp only [kE] at h
  rw [kE]
  refine acalls_enter (cf := cf 17 [0, 1, 3, 4, 5, 6, 11]) foll Tryz.func50 Tryz.ntmps50 (by simp [cf]) ?_
  simp only [Tryz.f50, EnterK_some, zW, zX, zD, builtinA, isLeaf, const1, ustrA, simprocAttr, ti3, ti51, ti67, ti91, ca64, cf, Tryz.results50]
  refine callO_intro (h _) ?_
  rintro r A' ⟨h2, rfl⟩
  rcases h2 with ⟨i, hi, hv, rfl⟩ | ⟨hn, rfl⟩
  · have d2 : decide ((i : Int) < 0) = false := decide_eq_false (by omega)
    have hg := vRows_getD hi
    generalize hyv : ys.getD i vi0 = y at *
    rw [vRow] at hg
    simp only [zW, zX, zD, builtinA, isLeaf, const1, ustrA, simprocAttr, ti3, ti51, ti67, ti91, ca64, cf, Tryz.results50, d2, vRows_length, hg]
    refine ⟨⟨by omega, by omega⟩, ?_⟩
    refine wpO_invoke _ _ _ _ _ _ _ _ _ _ _ _ _ _ _ _ ?_
    simp only [zW, zX, zD, builtinA, isLeaf, const1, ustrA, simprocAttr, ti3, ti51, ti67, ti91, ca64, cf, Tryz.results50]
    refine methI_invK (metI3 (by kernel_rfl) (by kernel_rfl) (by kernel_rfl) (by kernel_rfl) (by kernel_rfl) (by kernel_rfl)) (meanIf y _) rfl (fun _ => rfl) ?_
    rintro r A' ⟨rfl, rfl⟩
    simp only [zW, zX, zD, builtinA, isLeaf, const1, ustrA, simprocAttr, ti3, ti51, ti67, ti91, ca64, cf, Tryz.results50]
    exact ⟨some (meanI y), ⟨i, hi, by rw [hyv]; exact hv, by rw [hyv]⟩, rfl⟩
  · have d2 : decide ((-1 : Int) < 0) = true := rfl
    simp only [zW, zX, zD, builtinA, isLeaf, const1, ustrA, simprocAttr, ti3, ti51, ti67, ti91, ca64, cf, Tryz.results50, d2]
    exact ⟨none, hn, rfl⟩
end Go.Proofs.YtngheinmebopeaaGreat

namespace Go.Proofs.YtngheinmebopeaaGreat
open Go.Abs

theorem mean_ok {x : SigI} {y : VI} (hl : localB x.name = true) (h : ItemOf x y) : VOk (meanI y) := by
  cases y with
  | ab n => exact ⟨by simp only [meanI, okV, nmB]; rw [← h.1, hl]; simp, by simp [meanI, dep], by simp [meanI, cnt]⟩
  | al n v => exact h.2.2.2
  | va n v => exact h.2.2.2
/-- what reading with normal types answers -/
def RdN (s : List SigI) : Option (List VI) → Prop
  | some zs => ∃ ys, s.length ≤ 8 ∧ ReadsTo s ys ∧ ordB ys = true ∧ normL [] ys = some zs
  | none => (8 < s.length ∨ ∃ x ∈ s, itemOk x = false) ∨ ∃ ys, s.length ≤ 8 ∧ ReadsTo s ys ∧ (ordB ys = false ∨ normL [] ys = none)

set_option maxRecDepth 100000 in
theorem impl_readNormal (s : List SigI) (hs : s.length ≤ 1048576) (ho : ∀ x ∈ s, x.Ok ∧ sz x.typ ≤ 1048576) (A : List Box) : ACalls Tryz.prog 49 [.slice (sEs s)] A (fun r A' => ∃ B, A' = A ++ B ∧
    ((∃ zs j, RdN s (some zs) ∧ r = .tuple [.own (A.length + j), .bool true] ∧ j < B.length ∧ B.getD j .dead = .row 1 (vRows zs) 0) ∨ (RdN s none ∧ r = .tuple [.nils, .bool false]))) := by
  refine acalls_enterK (cf := cf 17 [0, 2, 3, 4, 5, 12]) foll Tryz.func49 Tryz.ntmps49 (by simp [cf]) ?_
  simp only [Tryz.f49, EnterK_some, zW, zX, zD, builtinA, isLeaf, const1, ustrA, simprocAttr, ca18, ca63, cf, Tryz.results49]
  refine callK_intro (by simp only [zW, zX, zD, builtinA, isLeaf, const1, ustrA, simprocAttr, Option.map_some]; rfl) (impl_readSig s hs ho _) ?_ rfl
  rintro r A' ⟨h, rfl⟩
  rcases h with ⟨ys, h8, hrt, rfl⟩ | ⟨hbad, rfl⟩
  · cases hord : ordB ys with
    | false =>
      simp only [zW, zX, zD, builtinA, isLeaf, const1, ustrA, simprocAttr, ca18, ca63, cf, Tryz.results49]
      exact ⟨[], by simp, .inr (.inr ⟨ys, h8, hrt, .inl hord⟩)⟩
    | true =>
      have hn := impl_normal ys (by have := hrt.1; omega) (fun k hk => by
        have := hrt.2 k (by rw [← hrt.1]; exact hk)
        exact mean_ok this.1 this.2) hord
      simp only [zW, zX, zD, builtinA, isLeaf, const1, ustrA, simprocAttr, ca18, ca63, cf, Tryz.results49]
      refine callO_intro (hn _) ?_
      rintro r A2 ⟨B, rfl, ⟨zs, j, e, rfl, hj, hg⟩ | ⟨e, rfl⟩⟩
      · simp only [zW, zX, zD, builtinA, isLeaf, const1, ustrA, simprocAttr, ca18, ca63, cf, Tryz.results49]
        exact ⟨_, rfl, .inl ⟨zs, j, ⟨ys, h8, hrt, hord, e⟩, rfl, hj, hg⟩⟩
      · simp only [zW, zX, zD, builtinA, isLeaf, const1, ustrA, simprocAttr, ca18, ca63, cf, Tryz.results49]
        exact ⟨_, rfl, .inr (.inr ⟨ys, h8, hrt, .inr e⟩)⟩
  · simp only [zW, zX, zD, builtinA, isLeaf, const1, ustrA, simprocAttr, ca18, ca63, cf, Tryz.results49]
    exact ⟨[], by simp, .inr (.inl hbad)⟩

theorem vX_free : ∀ v, ifree (vX v) = true
  | .num => rfl
  | .nm m n => rfl
  | .fn a b => by
    have h1 := vX_free a
    have h2 := vX_free b
    simp [vX, ifree, ifrees, h1, h2]
theorem findR_free (o : Option VT) : ifree (findR o) = true := by
  cases o with
  | none => rfl
  | some v => simp [findR, ifree, ifrees, vX_free v]
theorem findR_view (ys : List VI) (hl : ys.length ≤ 1000) (q : Ky) {A : List Box} {i : Nat} (hb : A.getD i .dead = .row 1 (vRows ys) 0) : ACalls Tryz.prog 50 [.own i, .agg (kE q)] A (fun r A' => ∃ o, FindO ys q o ∧ r = findR o ∧ A' = A) := by
  refine ACalls.borrow (.cons (.row i 1 0 (vRows ys) (vRows ys) hb rfl (vRows_leaf ys) (vRows_view ys _)) (.cons (.agg _ _ rfl fun k hk => .leaf _ (by have h2 : k < 2 := hk; match k, h2 with | 0, _ => rfl | 1, _ => rfl)) .nil)) ((impl_findSig ys hl q _).mono ?_)
  rintro r A' ⟨o, h1, rfl, rfl⟩
  exact ⟨[], by simp, findR_free o, by simp, o, h1, rfl, by simp⟩
/-- what a key of a signature stands for -/
def MeanIs (s : List SigI) (q : Ky) (o : Option VT) : Prop := (∃ zs, RdN s (some zs) ∧ FindO zs q o) ∨ (RdN s none ∧ o = none)
theorem normL_len : ∀ {ys zs : List VI} {m : List (BNm × VT)}, normL m ys = some zs → zs.length = ys.length
  | [], zs, m, h => by cases h; rfl
  | y :: ys, zs, m, h => by
    rw [normL] at h
    split at h
    · obtain ⟨x, hx, rfl⟩ := Option.map_eq_some_iff.1 h
      simp [normL_len hx]
    · cases h

set_option maxRecDepth 100000 in
theorem impl_findMeaning (s : List SigI) (hs : s.length ≤ 1048576) (ho : ∀ x ∈ s, x.Ok ∧ sz x.typ ≤ 1048576) (q : Ky) (A : List Box) : ACalls Tryz.prog 27 [.slice (sEs s), .agg (kE q)] A (fun r A' => ∃ o, MeanIs s q o ∧ SubOut A o r A') := by
  rw [kE]
  refine acalls_enterK (cf := cf 28 [0, 1, 3, 4, 5, 6, 7, 8, 15, 24]) foll Tryz.func27 Tryz.ntmps27 (by simp [cf]) ?_
  simp only [Tryz.f27, EnterK_some, zW, zX, zD, builtinA, isLeaf, const1, ustrA, simprocAttr, ti32, ti67, ca49, ca50, cf, Tryz.results27]
  refine callO_intro (impl_readNormal s hs ho _) ?_
  rintro r A1 ⟨B, rfl, ⟨zs, j, hrd, rfl, hj, hg⟩ | ⟨hrd, rfl⟩⟩
  · have hzl : zs.length ≤ 1000 := by
      obtain ⟨ys, h8, hrt, _, hn⟩ := hrd
      have := normL_len hn
      have := hrt.1
      omega
    have hg2 : (A ++ (.cells [.bool q.1, .str q.2] :: .cells [.int .i64 0, .str [], .str [], .nils] :: B)).getD (A.length + 2 + j) .dead = .row 1 (vRows zs) 0 := by
      rw [Abs.getD_append_right (by omega), show A.length + 2 + j - A.length = j + 1 + 1 by omega]; exact hg
    have hfv := findR_view zs hzl q hg2
    simp only [kE] at hfv
    simp only [zW, zX, zD, builtinA, isLeaf, const1, ustrA, simprocAttr, ti32, ti67, ca49, ca50, cf, Tryz.results27]
    refine callO_intro hfv ?_
    rintro r A' ⟨o, hfo, rfl, rfl⟩
    cases o with
    | none =>
      simp only [findR]
      simp only [zW, zX, zD, builtinA, isLeaf, const1, ustrA, simprocAttr, ti32, ti67, ca49, ca50, cf, Tryz.results27]
      exact ⟨none, .inl ⟨zs, hrd, hfo⟩, rfl, by simp, fun i hi => Abs.getD_append_left hi⟩
    | some w =>
      simp only [findR]
      simp only [zW, zX, zD, builtinA, isLeaf, const1, ustrA, simprocAttr, ti32, ti67, ca49, ca50, cf, Tryz.results27]
      refine wpO_invoke _ _ _ _ _ _ _ _ _ _ _ _ _ _ _ _ ?_
      simp only [zW, zX, zD, builtinA, isLeaf, const1, ustrA, simprocAttr, ti32, ti67, ca49, ca50, cf, Tryz.results27]
      refine meth_invK (met3 (by kernel_rfl) (by kernel_rfl) (by kernel_rfl) (by kernel_rfl) (by kernel_rfl) (by kernel_rfl)) (plainM w _) rfl (fun _ => rfl) ?_
      rintro r A' ⟨rfl, rfl⟩
      have hpl : ∀ n, (prow w n true).length = 4 := fun n => prow_length _ _ _
      simp only [zW, zX, zD, builtinA, isLeaf, const1, ustrA, simprocAttr, ti32, ti67, ca49, ca50, cf, Tryz.results27, hpl]
      refine ⟨some w, .inl ⟨zs, hrd, hfo⟩, prow w (A.length + (B.length + 1 + 1)) true, pidx w (A.length + (B.length + 1 + 1)), by rw [List.take_of_length_le (by rw [hpl]; exact Nat.le_refl _)], own_plain w _ true _ (fun k hk => ?_), pidx_nodup _ _, fun i hi => by have := pidx_in _ _ i hi; omega, by simp, fun i hi => Abs.getD_append_left hi⟩
      rw [Abs.getD_append_right (by omega), show A.length + (B.length + 1 + 1) + k - A.length = (B.length + k) + 1 + 1 by omega, List.getD_cons_succ, List.getD_cons_succ, Abs.getD_append_right (by omega), show B.length + k - B.length = k by omega]
  · simp only [zW, zX, zD, builtinA, isLeaf, const1, ustrA, simprocAttr, ti32, ti67, ca49, ca50, cf, Tryz.results27]
    exact ⟨none, .inr ⟨hrd, rfl⟩, rfl, by simp, fun i hi => Abs.getD_append_left hi⟩
end Go.Proofs.YtngheinmebopeaaGreat

/- The model's SubstType answers as the program's. -/
set_option linter.unusedVariables false
set_option linter.unusedSimpArgs false
namespace Go.Proofs.YtngheinmebopeaaGreat
open Go.Abs

theorem sub_closed (t : Ty) (n : Nat) : (enc t).all (closed1 n) = true := by cases t; rw [enc]; rfl
theorem sub_drop (t : Ty) : List.drop 4 (enc t) = [] := by cases t; rw [enc]; rfl
set_option maxRecDepth 100000 in
theorem spec_l1Copy0 (τ : Ty) (hτ : sz τ ≤ 1048576) : ∀ (A : List Box), ACalls Tryz.prog 54 [.agg (enc τ)] A (fun r A' => r = .agg (enc τ) ∧ A' = A) := by
  induction τ using Ty.ind with
  | h k m n ks ih =>
    intro A
    have hks : ks.length ≤ 1048576 := by rw [sz] at hτ; omega
    have hok : ∀ t ∈ ks, sz t ≤ 1048576 := fun t ht => by rw [sz] at hτ; have := szs_mem ht; omega
    rw [enc]
    refine acalls_enter (cf := cf 31 [0, 1, 2, 3, 4, 16]) foll Tryz.func54 Tryz.ntmps54 (by simp [cf]) ?_
    simp only [Tryz.f54, EnterK_some, zW, zX, zD, builtinA, isLeaf, const1, Nat.reduceAdd, Nat.reduceMul, Nat.reduceSub, Nat.reduceLT, Nat.reduceLeDiff, Nat.reduceEqDiff, Nat.reduceBEq, Nat.reduceBNe, reduceIte, reduceCtorEq, Int.reduceToNat, Int.reduceLT, Int.reduceLE, Int.reduceEq, Int.reduceNe, Int.reduceNeg, ustrA, ti3, ti9, ti30, ti32, ca54, cf, Tryz.results54]
    refine aloop_intro [1, 2, 3, 4] (fun e A' => ∃ i B x, i ≤ ks.length ∧ e = [(1, .ptr A.length 0), (2, .ptr (A.length + 1) 0), (3, .ptr (A.length + 2) 0), (4, .int .i64 i)] ∧ A' = A ++ (.cells [.int .i64 k, .str m, .str n, .slice (encs ks)] :: .cells [.int .i64 0, .str [], .str [], .nils] :: .cells [.int .i64 k, .str m, .str n, x] :: B) ∧
      ((i = 0 ∧ x = .nils ∧ B = []) ∨ (∃ j, x = .own (A.length + (j + 3)) ∧ j < B.length ∧ B.getD j .dead = .row 4 (encs (ks.take i)) 0))) (fun e _ => ks.length - (intOf (Abs.look 4 e)).toNat) ?_ ?_
    · simp only [zW, zX, zD, builtinA, isLeaf, const1, Nat.reduceAdd, Nat.reduceMul, Nat.reduceSub, Nat.reduceLT, Nat.reduceLeDiff, Nat.reduceEqDiff, Nat.reduceBEq, Nat.reduceBNe, reduceIte, reduceCtorEq, Int.reduceToNat, Int.reduceLT, Int.reduceLE, Int.reduceEq, Int.reduceNe, Int.reduceNeg, ustrA, ti3, ti9, ti30, ti32, ca54, cf, Tryz.results54]
      exact ⟨0, [], .nils, by omega, rfl, rfl, .inl ⟨rfl, rfl, rfl⟩⟩
    · rintro e A' ⟨i, B, x, hi, rfl, rfl, hx⟩
      simp only [zW, zX, zD, builtinA, isLeaf, const1, Nat.reduceAdd, Nat.reduceMul, Nat.reduceSub, Nat.reduceLT, Nat.reduceLeDiff, Nat.reduceEqDiff, Nat.reduceBEq, Nat.reduceBNe, reduceIte, reduceCtorEq, Int.reduceToNat, Int.reduceLT, Int.reduceLE, Int.reduceEq, Int.reduceNe, Int.reduceNeg, ustrA, ti3, ti9, ti30, ti32, ca54, cf, Tryz.results54, encs_length]
      refine condK_intro (fun h2 => ?_) (fun h2 => ?_)
      · have hi2 : i < ks.length := by simpa using h2
        have he := encs_getD hi2
        have hmm := getD_mem hi2
        have hi1 : IntKind.i64.wrap ((i : Int) + 1) = ((i + 1 : Nat) : Int) := by rw [wrap64 (by omega) (by omega)]; rfl
        rcases hx with ⟨rfl, rfl, rfl⟩ | ⟨j, rfl, hj, hg⟩
        · simp only [wpc_skip, AThen_normal, wpc_block, wpc_seq, wpc_drawn]
          refine .inr (drawE_intro [(false, 0, 2), (false, 0, 2), (false, 0, 0), (false, 0, 0), (false, 0, 0), (false, 0, 0), (false, 0, 0), (true, 0, 0), (true, 1, 1), (true, 2, 2), (false, 3, 3), (true, 3, 3)] [A ++ [.cells [.int .i64 k, .str m, .str n, .slice (encs ks)], .cells [.int .i64 0, .str [], .str [], .nils], .cells [.int .i64 k, .str m, .str n, .nils]], A ++ [.cells [.int .i64 k, .str m, .str n, .slice (encs ks)], .cells [.int .i64 0, .str [], .str [], .nils], .cells [.int .i64 k, .str m, .str n, .nils]], A ++ [.cells [.int .i64 k, .str m, .str n, .slice (encs ks)], .cells [.int .i64 0, .str [], .str [], .nils], .cells [.int .i64 k, .str m, .str n, .nils], .row 4 [enc (ks.getD 0 ty0)] 0], A ++ [.cells [.int .i64 k, .str m, .str n, .slice (encs ks)], .cells [.int .i64 0, .str [], .str [], .nils], .cells [.int .i64 k, .str m, .str n, .nils], .row 4 [enc (ks.getD 0 ty0)] 0, .row 4 [enc (ks.getD 0 ty0)] 0], A ++ [.cells [.int .i64 k, .str m, .str n, .slice (encs ks)], .cells [.int .i64 0, .str [], .str [], .nils], .cells [.int .i64 k, .str m, .str n, .own (A.length + 4)], .row 4 [enc (ks.getD 0 ty0)] 0, .row 4 [enc (ks.getD 0 ty0)] 0]] 4 rfl (by kernel_rfl) (by kernel_rfl) (by kernel_rfl) (by kernel_rfl) (by kernel_rfl) (by kernel_rfl) ?_)
          simp only [zW, zX, zD, builtinA, isLeaf, const1, Nat.reduceAdd, Nat.reduceMul, Nat.reduceSub, Nat.reduceLT, Nat.reduceLeDiff, Nat.reduceEqDiff, Nat.reduceBEq, Nat.reduceBNe, reduceIte, reduceCtorEq, Int.reduceToNat, Int.reduceLT, Int.reduceLE, Int.reduceEq, Int.reduceNe, Int.reduceNeg, ustrA, ti3, ti9, ti30, ti32, ca54, cf, Tryz.results54, he, enc_length, enc_take, sub_drop, frzL_enc, sub_closed, Option.map_some, encs_length]
          refine ⟨⟨by omega, by omega⟩, ?_⟩
          refine callE_intro (by simp only [zW, zX, zD, builtinA, isLeaf, const1, Nat.reduceAdd, Nat.reduceMul, Nat.reduceSub, Nat.reduceLT, Nat.reduceLeDiff, Nat.reduceEqDiff, Nat.reduceBEq, Nat.reduceBNe, reduceIte, reduceCtorEq, Int.reduceToNat, Int.reduceLT, Int.reduceLE, Int.reduceEq, Int.reduceNe, Int.reduceNeg, ustrA, enc_length, enc_take, sub_drop, frzL_enc, sub_closed, Option.map_some] <;> rfl) (ih _ hmm (hok _ hmm) _) ?_ rfl rfl
          simp only [zW, zX, zD, builtinA, isLeaf, const1, Nat.reduceAdd, Nat.reduceMul, Nat.reduceSub, Nat.reduceLT, Nat.reduceLeDiff, Nat.reduceEqDiff, Nat.reduceBEq, Nat.reduceBNe, reduceIte, reduceCtorEq, Int.reduceToNat, Int.reduceLT, Int.reduceLE, Int.reduceEq, Int.reduceNe, Int.reduceNeg, ustrA, ti3, ti9, ti30, ti32, ca54, cf, Tryz.results54, he, enc_length, enc_take, sub_drop, frzL_enc, sub_closed, Option.map_some, encs_length]
          have hsn : [enc (ks.getD 0 ty0)] = encs (ks.take 1) := by
            match ks, hi2 with
            | t :: l, _ => simp [encs]
          simp only [zW, zX, zD, builtinA, isLeaf, const1, Nat.reduceAdd, Nat.reduceMul, Nat.reduceSub, Nat.reduceLT, Nat.reduceLeDiff, Nat.reduceEqDiff, Nat.reduceBEq, Nat.reduceBNe, reduceIte, reduceCtorEq, Int.reduceToNat, Int.reduceLT, Int.reduceLE, Int.reduceEq, Int.reduceNe, Int.reduceNeg, ustrA, ti3, ti9, ti30, ti32, ca54, cf, Tryz.results54, hi1, LoopK_eq]
          refine ⟨fun v hv => enc_leaf _ v hv, fun r hr => by rw [List.mem_singleton.1 hr, enc_length], ⟨0 + 1, [.row 4 [enc (ks.getD 0 ty0)] 0, .row 4 [enc (ks.getD 0 ty0)] 0], _, by omega, rfl, rfl, .inr ⟨1, rfl, by simp, by rw [hsn]; rfl⟩⟩, ?_⟩
          simp only [intOf]
          omega
        · have hsn : encs (ks.take i) ++ [enc (ks.getD i ty0)] = encs (ks.take (i + 1)) := by
            rw [encs_map, encs_map, List.take_add_one, List.map_append]
            simp [List.getD, hi2]
          simp only [wpc_skip, AThen_normal, wpc_block, wpc_seq, wpc_drawn]
          refine .inr (drawE_intro [(false, 0, 2), (false, 0, 2), (false, 0, 0), (false, 0, 0), (false, 0, 0), (false, 0, 0), (false, 0, 0), (true, 0, 0), (true, 1, 1), (true, 2, 2), (false, 3, 3), (true, 3, 3)] [A ++ (.cells [.int .i64 k, .str m, .str n, .slice (encs ks)] :: .cells [.int .i64 0, .str [], .str [], .nils] :: .cells [.int .i64 k, .str m, .str n, .own (A.length + (j + 3))] :: B), A ++ (.cells [.int .i64 k, .str m, .str n, .slice (encs ks)] :: .cells [.int .i64 0, .str [], .str [], .nils] :: .cells [.int .i64 k, .str m, .str n, .own (A.length + (j + 3))] :: B), A ++ (.cells [.int .i64 k, .str m, .str n, .slice (encs ks)] :: .cells [.int .i64 0, .str [], .str [], .nils] :: .cells [.int .i64 k, .str m, .str n, .own (A.length + (j + 3))] :: (B ++ [.row 4 [enc (ks.getD i ty0)] 0])), A ++ (.cells [.int .i64 k, .str m, .str n, .slice (encs ks)] :: .cells [.int .i64 0, .str [], .str [], .nils] :: .cells [.int .i64 k, .str m, .str n, .own (A.length + (j + 3))] :: (B.set j .dead ++ [.row 4 [enc (ks.getD i ty0)] 0, .row 4 (encs (ks.take i) ++ [enc (ks.getD i ty0)]) 0])), A ++ (.cells [.int .i64 k, .str m, .str n, .slice (encs ks)] :: .cells [.int .i64 0, .str [], .str [], .nils] :: .cells [.int .i64 k, .str m, .str n, .own (A.length + (B.length + 1 + 3))] :: (B.set j .dead ++ [.row 4 [enc (ks.getD i ty0)] 0, .row 4 (encs (ks.take i) ++ [enc (ks.getD i ty0)]) 0]))] 4 rfl (by kernel_rfl) (by kernel_rfl) (by kernel_rfl) (by kernel_rfl) (by kernel_rfl) (by kernel_rfl) ?_)
          simp only [zW, zX, zD, builtinA, isLeaf, const1, Nat.reduceAdd, Nat.reduceMul, Nat.reduceSub, Nat.reduceLT, Nat.reduceLeDiff, Nat.reduceEqDiff, Nat.reduceBEq, Nat.reduceBNe, reduceIte, reduceCtorEq, Int.reduceToNat, Int.reduceLT, Int.reduceLE, Int.reduceEq, Int.reduceNe, Int.reduceNeg, ustrA, ti3, ti9, ti30, ti32, ca54, cf, Tryz.results54, he, hj, hg, enc_length, enc_take, sub_drop, frzL_enc, sub_closed, Option.map_some, encs_length]
          refine ⟨⟨by omega, by omega⟩, ?_⟩
          refine callE_intro (by simp only [zW, zX, zD, builtinA, isLeaf, const1, Nat.reduceAdd, Nat.reduceMul, Nat.reduceSub, Nat.reduceLT, Nat.reduceLeDiff, Nat.reduceEqDiff, Nat.reduceBEq, Nat.reduceBNe, reduceIte, reduceCtorEq, Int.reduceToNat, Int.reduceLT, Int.reduceLE, Int.reduceEq, Int.reduceNe, Int.reduceNeg, ustrA, enc_length, enc_take, sub_drop, frzL_enc, sub_closed, Option.map_some] <;> rfl) (ih _ hmm (hok _ hmm) _) ?_ rfl rfl
          simp only [zW, zX, zD, builtinA, isLeaf, const1, Nat.reduceAdd, Nat.reduceMul, Nat.reduceSub, Nat.reduceLT, Nat.reduceLeDiff, Nat.reduceEqDiff, Nat.reduceBEq, Nat.reduceBNe, reduceIte, reduceCtorEq, Int.reduceToNat, Int.reduceLT, Int.reduceLE, Int.reduceEq, Int.reduceNe, Int.reduceNeg, ustrA, ti3, ti9, ti30, ti32, ca54, cf, Tryz.results54, he, hj, hg, enc_length, enc_take, sub_drop, frzL_enc, sub_closed, Option.map_some, encs_length]
          simp only [zW, zX, zD, builtinA, isLeaf, const1, Nat.reduceAdd, Nat.reduceMul, Nat.reduceSub, Nat.reduceLT, Nat.reduceLeDiff, Nat.reduceEqDiff, Nat.reduceBEq, Nat.reduceBNe, reduceIte, reduceCtorEq, Int.reduceToNat, Int.reduceLT, Int.reduceLE, Int.reduceEq, Int.reduceNe, Int.reduceNeg, ustrA, ti3, ti9, ti30, ti32, ca54, cf, Tryz.results54, hi1, LoopK_eq]
          refine ⟨fun v hv => enc_leaf _ v hv, ⟨fun r hr => by rw [List.mem_singleton.1 hr, enc_length], by rw [List.length_take]; omega⟩, ⟨i + 1, B.set j .dead ++ [.row 4 [enc (ks.getD i ty0)] 0, .row 4 (encs (ks.take i) ++ [enc (ks.getD i ty0)]) 0], _, by omega, rfl, rfl, .inr ⟨B.length + 1, rfl, by simp, ?_⟩⟩, ?_⟩
          · rw [getD_sapp, hsn]; rfl
          · simp only [intOf]
            omega
      · have : i = ks.length := by simp at h2; omega
        subst this
        rw [List.take_length] at hx
        rcases hx with ⟨h0, rfl, rfl⟩ | ⟨j, rfl, hj, hg⟩
        · have : ks = [] := by cases ks with
            | nil => rfl
            | cons => simp at h0
          subst this
          simp only [zW, zX, zD, builtinA, isLeaf, const1, Nat.reduceAdd, Nat.reduceMul, Nat.reduceSub, Nat.reduceLT, Nat.reduceLeDiff, Nat.reduceEqDiff, Nat.reduceBEq, Nat.reduceBNe, reduceIte, reduceCtorEq, Int.reduceToNat, Int.reduceLT, Int.reduceLE, Int.reduceEq, Int.reduceNe, Int.reduceNeg, ustrA, ti3, ti9, ti30, ti32, ca54, cf, Tryz.results54, encs]
        · simp only [zW, zX, zD, builtinA, isLeaf, const1, Nat.reduceAdd, Nat.reduceMul, Nat.reduceSub, Nat.reduceLT, Nat.reduceLeDiff, Nat.reduceEqDiff, Nat.reduceBEq, Nat.reduceBNe, reduceIte, reduceCtorEq, Int.reduceToNat, Int.reduceLT, Int.reduceLE, Int.reduceEq, Int.reduceNe, Int.reduceNeg, ustrA, ti3, ti9, ti30, ti32, ca54, cf, Tryz.results54, hg, hj]


end Go.Proofs.YtngheinmebopeaaGreat

namespace Go.Proofs.YtngheinmebopeaaGreat
open Go.Abs

theorem toTy_injS : ∀ {v v' : VT}, toTy v = toTy v' → v = v'
  | .num, .num, _ => rfl
  | .num, .nm _ _, h => by simp [toTy] at h
  | .num, .fn _ _, h => by simp [toTy] at h
  | .nm _ _, .num, h => by simp [toTy] at h
  | .nm _ _, .fn _ _, h => by simp [toTy] at h
  | .fn _ _, .num, h => by simp [toTy] at h
  | .fn _ _, .nm _ _, h => by simp [toTy] at h
  | .nm m n, .nm m' n', h => by simp [toTy] at h; rw [h.1, h.2]
  | .fn a b, .fn a' b', h => by
    simp [toTy] at h
    rw [toTy_injS h.1, toTy_injS h.2]
theorem lookB_add (p q : BNm) (v : VT) (m : List (BNm × VT)) : lookB p (addB m q v) = (lookB p m).or (if p = q then some v else none) := by
  have happ : ∀ m : List (BNm × VT), lookB p (m ++ [(q, v)]) = (lookB p m).or (if p = q then some v else none) := by
    intro m
    induction m with
    | nil => simp [lookB]
    | cons x m ih =>
      obtain ⟨r, w⟩ := x
      simp only [List.cons_append, lookB]
      by_cases e : p = r
      · simp [e]
      · simp [e, ih]
  unfold addB
  rcases hl : lookB q m with _ | w
  · exact happ m
  · by_cases e : p = q
    · subst e; simp [hl]
    · simp [e]
theorem lookB_fold (p : BNm) : ∀ (l m : List (BNm × VT)), lookB p (l.foldl (fun m q => addB m q.1 q.2) m) = (lookB p m).or (lookB p l)
  | [], m => by simp [lookB]
  | (q, v) :: l, m => by
    rw [List.foldl_cons, lookB_fold p l, lookB_add]
    simp only [lookB]
    by_cases e : p = q
    · subst e; simp
    · simp [e]
theorem lookB_foldB (p : BNm) (bd : List (BNm × VT)) : lookB p (foldB bd) = lookB p bd := by
  rw [foldB, lookB_fold]; simp [lookB]
theorem sz_toTyS : ∀ v, okV v = true → sz (toTy v) ≤ 2 * cnt v
  | .num, _ => by simp [toTy, sz, szs, cnt]
  | .nm m n, h => by
    simp only [okV, nmB, Bool.and_eq_true, Bool.or_eq_true, decide_eq_true_eq] at h
    have h1 : n.length = 1 := by have := h.2; simp only [localB, Bool.and_eq_true, beq_iff_eq] at this; exact this.1
    have h2 : m.length ≤ 1 := by
      rcases h.1 with rfl | h
      · simp
      · simp only [moduleB, Bool.and_eq_true, beq_iff_eq] at h; omega
    simp only [toTy, sz, szs, cnt, List.length_nil]; omega
  | .fn a b, h => by
    simp only [okV, Bool.and_eq_true] at h
    have ha := sz_toTyS a h.1
    have hb := sz_toTyS b h.2
    simp only [toTy, sz, szs, cnt, List.length_nil, List.length_cons]; omega
def okB (b : BdI) : Bool := validB b.typ && nmB b.mod b.name
theorem okB_all : ∀ {bs : List BdI}, bs.all okB = true → ∃ bd : List (BNm × VT), bs = bd.map ofB ∧ ∀ q ∈ bd, okQ q
  | [], _ => ⟨[], rfl, by simp⟩
  | b :: bs, h => by
    simp only [List.all_cons, Bool.and_eq_true] at h
    obtain ⟨bd, rfl, hb⟩ := okB_all h.2
    have h1 := h.1
    simp only [okB, Bool.and_eq_true] at h1
    obtain ⟨v, hv, ho⟩ := validB_of h1.1
    obtain ⟨m, n, t⟩ := b
    have hv' : t = toTy v := hv
    subst hv'
    refine ⟨((m, n), v) :: bd, rfl, fun q hq => ?_⟩
    rcases List.mem_cons.1 hq with rfl | hq
    · exact ⟨ho, h1.2⟩
    · exact hb q hq
theorem okB_bad : ∀ {bs : List BdI}, bs.all okB = false → ∃ b ∈ bs, badB b
  | [], h => by simp at h
  | b :: bs, h => by
    simp only [List.all_cons, Bool.and_eq_false_iff] at h
    rcases h with h | h
    · simp only [okB, Bool.and_eq_false_iff] at h
      exact ⟨b, by simp, h⟩
    · obtain ⟨x, hx, hb⟩ := okB_bad h
      exact ⟨x, by simp [hx], hb⟩

set_option maxRecDepth 100000 in
theorem spec_l1Name0 (m n : List UInt8) (A : List Box) : ACalls Tryz.prog 36 [.str m, .str n] A (fun r A' => r = .agg (enc (.mk 3 m n [])) ∧ A' = A) := by
  rw [enc, encs]
  refine acalls_enter (cf := cf 8 [0, 1, 4]) foll Tryz.func36 Tryz.ntmps36 (by simp [cf]) ?_
  simp only [Tryz.f36, EnterK_some, zW, zX, zD, builtinA, isLeaf, const1, Nat.reduceAdd, Nat.reduceMul, Nat.reduceSub, Nat.reduceLT, Nat.reduceLeDiff, Nat.reduceEqDiff, Nat.reduceBEq, Nat.reduceBNe, reduceIte, reduceCtorEq, Int.reduceToNat, Int.reduceLT, Int.reduceLE, Int.reduceEq, Int.reduceNe, Int.reduceNeg, ustrA, ti32, cf, Tryz.results36]


theorem ok_toTyS : ∀ v, okV v = true → (toTy v).Ok
  | .num, _ => .mk (by simp) (by simp) (by simp) (by simp)
  | .nm m n, h => by
    simp only [okV, nmB, Bool.and_eq_true, Bool.or_eq_true, decide_eq_true_eq] at h
    have h1 : n.length = 1 := by have := h.2; simp only [localB, Bool.and_eq_true, beq_iff_eq] at this; exact this.1
    have h2 : m.length ≤ 1 := by
      rcases h.1 with rfl | h
      · simp
      · simp only [moduleB, Bool.and_eq_true, beq_iff_eq] at h; omega
    exact .mk (by omega) (by omega) (by simp) (by simp)
  | .fn a b, h => by
    simp [okV] at h
    refine .mk (by simp) (by simp) (by simp) fun t ht => ?_
    simp at ht
    rcases ht with rfl | rfl
    · exact ok_toTyS a h.1
    · exact ok_toTyS b h.2

def oTyS : Option VT → Ty
  | none => ty0
  | some v => toTy v


theorem ofB_inj {a b : List (BNm × VT)} (h : a.map ofB = b.map ofB) : a = b := by
  induction a generalizing b with
  | nil => cases b with
    | nil => rfl
    | cons => simp at h
  | cons x a ih => cases b with
    | nil => simp at h
    | cons y b =>
      simp only [List.map_cons, List.cons.injEq] at h
      obtain ⟨⟨x1, x2⟩, x3⟩ := x
      obtain ⟨⟨y1, y2⟩, y3⟩ := y
      have h1 := h.1
      simp only [ofB, BdI.mk.injEq] at h1
      obtain ⟨rfl, rfl, h3⟩ := h1
      rw [toTy_injS h3, ih h.2]
theorem bad_of {bd : List (BNm × VT)} (hok : ∀ q ∈ bd, okQ q) (h : ∃ b ∈ bd.map ofB, badB b) : False := by
  obtain ⟨b, hb, hbad⟩ := h
  obtain ⟨q, hq, rfl⟩ := List.mem_map.1 hb
  have := hok q hq
  rcases hbad with h | h
  · rw [ofB, validB_toTy this.1] at h; cases h
  · rw [ofB, this.2] at h; cases h
/-- one answer only -/
theorem subIs_one {τ : Ty} {bs : List BdI} {o o' : Option VT} (h : SubIs τ bs o) (h' : SubIs τ bs o') : o = o' := by
  rcases h with ⟨v, bd, rfl, hv, rfl, hok, rfl⟩ | ⟨h, rfl⟩
  · rcases h' with ⟨v', bd', e, hv', e', hok', rfl⟩ | ⟨h' | h', rfl⟩
    · rw [toTy_injS e, ofB_inj e']
    · rw [validB_toTy hv] at h'; cases h'
    · exact absurd h' (bad_of hok)
  · rcases h' with ⟨v', bd', rfl, hv', rfl, hok', rfl⟩ | ⟨h', rfl⟩
    · rcases h with h | h
      · rw [validB_toTy hv'] at h; cases h
      · exact absurd h (bad_of hok')
    · rfl
end Go.Proofs.YtngheinmebopeaaGreat
