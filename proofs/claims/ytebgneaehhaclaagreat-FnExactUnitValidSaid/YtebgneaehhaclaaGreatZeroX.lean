/- The program's comparison of an expression with the zero expression. -/
import Derived.Test.YtebgneaehhaclaaGreatZero0
import Derived.Test.YtebgneaehhaclaaGreatExprs
import Derived.Test.YtebgneaehhaclaaGreatAbsW3
set_option linter.unusedVariables false
set_option linter.unusedSimpArgs false
namespace Go.Proofs.YtebgneaehhaclaaGreat
open Go.Abs

def xks : Ex → List Ex
  | .mk _ _ _ _ _ ks => ks
noncomputable def hd0 : Ex → Bool
  | .mk k i m n t _ => (((decide (k = 0) && decide (i = 0)) && decide (m = [])) && decide (n = [])) && decide (t = ty0)
theorem hd0_zero {t : Ex} (h : hd0 t = true) (hk : xks t = []) : t = ex0 := by
  obtain ⟨k, i, m, n, t, ks⟩ := t
  simp only [hd0, Bool.and_eq_true, decide_eq_true_eq] at h
  obtain ⟨⟨⟨⟨rfl, rfl⟩, rfl⟩, rfl⟩, rfl⟩ := h
  have : ks = [] := hk
  rw [this]; rfl
open Classical in
noncomputable def isX0 (t : Ex) : Bool := decide (t = ex0)
theorem isX0_yes {t : Ex} (h : t = ex0) : isX0 t = true := by simp [isX0, h]
theorem isX0_no {t : Ex} (h : ¬ t = ex0) : isX0 t = false := by simp [isX0, h]
def xcF1 : AV := .func (.func 164) [] []
def xcF2 (p : Nat) : AV := .func (.func 165) [] [.ptr p 0]

set_option maxRecDepth 100000 in
theorem xc_kids (t : Ex) (A : List Box) : ACalls Tryz.prog 164 [.agg (encX t)] A (fun r A' => r = .slice (encXs (xks t)) ∧ A' = A) := by
  obtain ⟨k, i, m, n, t, ks⟩ := t
  rw [encX]
  refine acalls_enter (cf := cf 5 [0, 1, 2]) foll Tryz.func164 Tryz.ntmps164 (by simp [cf]) ?_
  simp only [Tryz.f164, EnterK_some, zW, zX, zD, builtinA, isLeaf, const1, Nat.reduceAdd, Nat.reduceMul, Nat.reduceSub, Nat.reduceLT, Nat.reduceLeDiff, Nat.reduceEqDiff, Nat.reduceBEq, Nat.reduceBNe, reduceIte, reduceCtorEq, Int.reduceToNat, Int.reduceLT, Int.reduceLE, Int.reduceEq, Int.reduceNe, Int.reduceNeg, ustrA, ti52, ti54, cf, Tryz.results164]
  rfl

set_option maxRecDepth 100000 in
theorem xc_same (x : Ex) (p q : Nat) (A : List Box) (hp : p < A.length) (hA : A.getD p .dead = .cells [tcF1, tcF2, .map q]) : ACalls Tryz.prog 165 [.agg (encX x), .agg (encX ex0), .ptr p 0] A (fun r A' => r = .bool (hd0 x) ∧ A' = A) := by
  obtain ⟨k, i, m, n, t, ks⟩ := x
  have hz := fun A => same_zero t q A
  have h0 : encX ex0 = [.int .i64 0, .int .i64 0, .str [], .str [], .int .i64 0, .str [], .str [], .slice [], .slice []] := rfl
  have hy : enc ty0 = [.int .i64 0, .str [], .str [], .slice []] := by rw [ty0, enc]; rfl
  rw [encQ4 t, hy] at hz
  have hb : ∀ B, (A ++ B).getD p .dead = .cells [tcF1, tcF2, .map q] := fun B => by rw [Abs.getD_append_left hp]; exact hA
  simp only [tcF1, tcF2] at hz hb
  rw [encX, h0]
  by_cases h1 : k = 0
  · by_cases h2 : i = 0
    · by_cases h3 : m = []
      · by_cases h4 : n = []
        · have e : hd0 (.mk k i m n t ks) = decide (t = ty0) := by simp [hd0, h1, h2, h3, h4]
          rw [e]
          refine acalls_enter (cf := cf 40 [0, 1, 2, 3, 4, 5]) foll Tryz.func165 Tryz.ntmps165 (by simp [cf]) ?_
          simp only [Tryz.f165, EnterK_some, zW, zX, zD, builtinA, isLeaf, const1, Nat.reduceAdd, Nat.reduceMul, Nat.reduceSub, Nat.reduceLT, Nat.reduceLeDiff, Nat.reduceEqDiff, Nat.reduceBEq, Nat.reduceBNe, reduceIte, reduceCtorEq, Int.reduceToNat, Int.reduceLT, Int.reduceLE, Int.reduceEq, Int.reduceNe, Int.reduceNeg, ustrA, ti3, ti9, ti51, ti54, ti247, ca150, cf, Tryz.results165]
          simp only [zW, zX, zD, builtinA, isLeaf, const1, Nat.reduceAdd, Nat.reduceMul, Nat.reduceSub, Nat.reduceLT, Nat.reduceLeDiff, Nat.reduceEqDiff, Nat.reduceBEq, Nat.reduceBNe, reduceIte, reduceCtorEq, Int.reduceToNat, Int.reduceLT, Int.reduceLE, Int.reduceEq, Int.reduceNe, Int.reduceNeg, ustrA, ti3, ti9, ti51, ti54, ti247, ca150, cf, Tryz.results165, decide_eq_true h1, decide_eq_true h2, decide_eq_true h3, decide_eq_true h4, hb]
          refine callO_intro (hz _) ?_
          rintro r A' ⟨rfl, rfl⟩
          simp only [zW, zX, zD, builtinA, isLeaf, const1, Nat.reduceAdd, Nat.reduceMul, Nat.reduceSub, Nat.reduceLT, Nat.reduceLeDiff, Nat.reduceEqDiff, Nat.reduceBEq, Nat.reduceBNe, reduceIte, reduceCtorEq, Int.reduceToNat, Int.reduceLT, Int.reduceLE, Int.reduceEq, Int.reduceNe, Int.reduceNeg, ustrA, ti3, ti9, ti51, ti54, ti247, ca150, cf, Tryz.results165]
        · have e : hd0 (.mk k i m n t ks) = false := by simp [hd0, h4]
          rw [e]
          refine acalls_enter (cf := cf 40 [0, 1, 2, 3, 4, 5]) foll Tryz.func165 Tryz.ntmps165 (by simp [cf]) ?_
          simp only [Tryz.f165, EnterK_some, zW, zX, zD, builtinA, isLeaf, const1, Nat.reduceAdd, Nat.reduceMul, Nat.reduceSub, Nat.reduceLT, Nat.reduceLeDiff, Nat.reduceEqDiff, Nat.reduceBEq, Nat.reduceBNe, reduceIte, reduceCtorEq, Int.reduceToNat, Int.reduceLT, Int.reduceLE, Int.reduceEq, Int.reduceNe, Int.reduceNeg, ustrA, ti3, ti9, ti51, ti54, ti247, ca150, cf, Tryz.results165]
          simp only [zW, zX, zD, builtinA, isLeaf, const1, Nat.reduceAdd, Nat.reduceMul, Nat.reduceSub, Nat.reduceLT, Nat.reduceLeDiff, Nat.reduceEqDiff, Nat.reduceBEq, Nat.reduceBNe, reduceIte, reduceCtorEq, Int.reduceToNat, Int.reduceLT, Int.reduceLE, Int.reduceEq, Int.reduceNe, Int.reduceNeg, ustrA, ti3, ti9, ti51, ti54, ti247, ca150, cf, Tryz.results165, decide_eq_true h1, decide_eq_true h2, decide_eq_true h3, decide_eq_false h4]
      · have e : hd0 (.mk k i m n t ks) = false := by simp [hd0, h3]
        rw [e]
        refine acalls_enter (cf := cf 40 [0, 1, 2, 3, 4, 5]) foll Tryz.func165 Tryz.ntmps165 (by simp [cf]) ?_
        simp only [Tryz.f165, EnterK_some, zW, zX, zD, builtinA, isLeaf, const1, Nat.reduceAdd, Nat.reduceMul, Nat.reduceSub, Nat.reduceLT, Nat.reduceLeDiff, Nat.reduceEqDiff, Nat.reduceBEq, Nat.reduceBNe, reduceIte, reduceCtorEq, Int.reduceToNat, Int.reduceLT, Int.reduceLE, Int.reduceEq, Int.reduceNe, Int.reduceNeg, ustrA, ti3, ti9, ti51, ti54, ti247, ca150, cf, Tryz.results165]
        simp only [zW, zX, zD, builtinA, isLeaf, const1, Nat.reduceAdd, Nat.reduceMul, Nat.reduceSub, Nat.reduceLT, Nat.reduceLeDiff, Nat.reduceEqDiff, Nat.reduceBEq, Nat.reduceBNe, reduceIte, reduceCtorEq, Int.reduceToNat, Int.reduceLT, Int.reduceLE, Int.reduceEq, Int.reduceNe, Int.reduceNeg, ustrA, ti3, ti9, ti51, ti54, ti247, ca150, cf, Tryz.results165, decide_eq_true h1, decide_eq_true h2, decide_eq_false h3]
    · have e : hd0 (.mk k i m n t ks) = false := by simp [hd0, h2]
      rw [e]
      refine acalls_enter (cf := cf 40 [0, 1, 2, 3, 4, 5]) foll Tryz.func165 Tryz.ntmps165 (by simp [cf]) ?_
      simp only [Tryz.f165, EnterK_some, zW, zX, zD, builtinA, isLeaf, const1, Nat.reduceAdd, Nat.reduceMul, Nat.reduceSub, Nat.reduceLT, Nat.reduceLeDiff, Nat.reduceEqDiff, Nat.reduceBEq, Nat.reduceBNe, reduceIte, reduceCtorEq, Int.reduceToNat, Int.reduceLT, Int.reduceLE, Int.reduceEq, Int.reduceNe, Int.reduceNeg, ustrA, ti3, ti9, ti51, ti54, ti247, ca150, cf, Tryz.results165]
      simp only [zW, zX, zD, builtinA, isLeaf, const1, Nat.reduceAdd, Nat.reduceMul, Nat.reduceSub, Nat.reduceLT, Nat.reduceLeDiff, Nat.reduceEqDiff, Nat.reduceBEq, Nat.reduceBNe, reduceIte, reduceCtorEq, Int.reduceToNat, Int.reduceLT, Int.reduceLE, Int.reduceEq, Int.reduceNe, Int.reduceNeg, ustrA, ti3, ti9, ti51, ti54, ti247, ca150, cf, Tryz.results165, decide_eq_true h1, decide_eq_false h2]
  · have e : hd0 (.mk k i m n t ks) = false := by simp [hd0, h1]
    rw [e]
    refine acalls_enter (cf := cf 40 [0, 1, 2, 3, 4, 5]) foll Tryz.func165 Tryz.ntmps165 (by simp [cf]) ?_
    simp only [Tryz.f165, EnterK_some, zW, zX, zD, builtinA, isLeaf, const1, Nat.reduceAdd, Nat.reduceMul, Nat.reduceSub, Nat.reduceLT, Nat.reduceLeDiff, Nat.reduceEqDiff, Nat.reduceBEq, Nat.reduceBNe, reduceIte, reduceCtorEq, Int.reduceToNat, Int.reduceLT, Int.reduceLE, Int.reduceEq, Int.reduceNe, Int.reduceNeg, ustrA, ti3, ti9, ti51, ti54, ti247, ca150, cf, Tryz.results165]
    simp only [zW, zX, zD, builtinA, isLeaf, const1, Nat.reduceAdd, Nat.reduceMul, Nat.reduceSub, Nat.reduceLT, Nat.reduceLeDiff, Nat.reduceEqDiff, Nat.reduceBEq, Nat.reduceBNe, reduceIte, reduceCtorEq, Int.reduceToNat, Int.reduceLT, Int.reduceLE, Int.reduceEq, Int.reduceNe, Int.reduceNeg, ustrA, ti3, ti9, ti51, ti54, ti247, ca150, cf, Tryz.results165, decide_eq_false h1]

set_option maxRecDepth 100000 in
theorem joinX_none (m : AV) (A : List Box) : ACalls Tryz.prog 168 [m, .slice [], .slice []] A (fun r A' => r = .bool false ∧ A' = A) := by
  have h0 : decide (((0 : Nat) : Int) = 0) = true := rfl
  refine acalls_enter (cf := cf 32 [0, 1, 2, 6, 7, 8, 11, 28]) foll Tryz.func168 Tryz.ntmps168 (by simp [cf]) ?_
  simp only [Tryz.f168, EnterK_some, zW, zX, zD, builtinA, isLeaf, const1, Nat.reduceAdd, Nat.reduceMul, Nat.reduceSub, Nat.reduceLT, Nat.reduceLeDiff, Nat.reduceEqDiff, Nat.reduceBEq, Nat.reduceBNe, reduceIte, reduceCtorEq, Int.reduceToNat, Int.reduceLT, Int.reduceLE, Int.reduceEq, Int.reduceNe, Int.reduceNeg, ustrA, ti3, ti52, ti54, ti254, ti330, ca177, mi254, ks330, cf, Tryz.results168]
  simp only [zW, zX, zD, builtinA, isLeaf, const1, Nat.reduceAdd, Nat.reduceMul, Nat.reduceSub, Nat.reduceLT, Nat.reduceLeDiff, Nat.reduceEqDiff, Nat.reduceBEq, Nat.reduceBNe, reduceIte, reduceCtorEq, Int.reduceToNat, Int.reduceLT, Int.reduceLE, Int.reduceEq, Int.reduceNe, Int.reduceNeg, ustrA, ti3, ti52, ti54, ti254, ti330, ca177, mi254, ks330, cf, Tryz.results168, h0]

set_option maxRecDepth 100000 in
set_option maxHeartbeats 2000000 in
theorem sameX_zero (t : Ex) (i p q : Nat) (A : List Box) (hp : p < A.length) (hA : A.getD p .dead = .cells [tcF1, tcF2, .map q]) : ACalls Tryz.prog 149 [.agg [xcF1, xcF2 p, .map i], .agg (encX t), .agg (encX ex0)] A (fun r A' => r = .bool (isX0 t) ∧ A' = A) := by
  have hz : encX ex0 = [.int .i64 0, .int .i64 0, .str [], .str [], .int .i64 0, .str [], .str [], .slice [], .slice []] := rfl
  simp only [xcF1, xcF2]
  refine acalls_enter (cf := cf 82 [0, 1, 2, 3, 4, 5, 6, 7, 8, 9, 10, 11, 12, 21, 34, 35, 36, 37, 69, 76]) foll Tryz.func149 Tryz.ntmps149 (by simp [cf]) ?_
  simp only [Tryz.f149, EnterK_some, zW, zX, zD, builtinA, isLeaf, const1, Nat.reduceAdd, Nat.reduceMul, Nat.reduceSub, Nat.reduceLT, Nat.reduceLeDiff, Nat.reduceEqDiff, Nat.reduceBEq, Nat.reduceBNe, reduceIte, reduceCtorEq, Int.reduceToNat, Int.reduceLT, Int.reduceLE, Int.reduceEq, Int.reduceNe, Int.reduceNeg, ustrA, ti3, ti52, ti54, ti104, ti252, ti254, ti256, ti318, ti319, ca168, cf, Tryz.results149]
  simp only [zW, zX, zD, builtinA, isLeaf, const1, Nat.reduceAdd, Nat.reduceMul, Nat.reduceSub, Nat.reduceLT, Nat.reduceLeDiff, Nat.reduceEqDiff, Nat.reduceBEq, Nat.reduceBNe, reduceIte, reduceCtorEq, Int.reduceToNat, Int.reduceLT, Int.reduceLE, Int.reduceEq, Int.reduceNe, Int.reduceNeg, ustrA, ti3, ti52, ti54, ti104, ti252, ti254, ti256, ti318, ti319, ca168, cf, Tryz.results149, encX_length, encX_take, frzL_encX]
  refine ⟨encX_leaf t, encX_leaf ex0, ?_, ?_⟩
  · intro v hv
    rcases List.mem_cons.1 hv with rfl | hv
    · rfl
    · rcases List.mem_cons.1 hv with rfl | hv
      · rfl
      · cases hv
  refine aloop_intro [3, 7] (fun e A' => ∃ B j, e = [(3, .ptr A.length 0), (7, .own (A.length + (j + 3)))] ∧ A' = A ++ (.cells [xcF1, xcF2 p, .map i] :: .cells (encX t) :: .cells (encX ex0) :: B) ∧ j < B.length ∧ (B.getD j .dead = .row 2 [[.slice [encX t], .slice [encX ex0]]] 0 ∨ (B.getD j .dead = .row 2 [] 0 ∧ t = ex0))) (fun e A' => rowLen0 A' (Abs.look 7 e)) ?_ ?_
  · simp only [zW, zX, zD, builtinA, isLeaf, const1, Nat.reduceAdd, Nat.reduceMul, Nat.reduceSub, Nat.reduceLT, Nat.reduceLeDiff, Nat.reduceEqDiff, Nat.reduceBEq, Nat.reduceBNe, reduceIte, reduceCtorEq, Int.reduceToNat, Int.reduceLT, Int.reduceLE, Int.reduceEq, Int.reduceNe, Int.reduceNeg, ustrA, ti3, ti52, ti54, ti104, ti252, ti254, ti256, ti318, ti319, ca168, cf, Tryz.results149]
    exact ⟨_, 2, rfl, rfl, by simp, .inl rfl⟩
  · rintro e A' ⟨B, j, rfl, rfl, hj, hB⟩
    have hgj : ∀ X Y Z : Box, ∀ d : Box, (X :: Y :: Z :: B).getD (j + 3) d = B.getD j d := fun _ _ _ _ => rfl
    have hmu : ∀ rows, B.getD j .dead = .row 2 rows 0 → rowLen0 (A ++ (.cells [xcF1, xcF2 p, .map i] :: .cells (encX t) :: .cells (encX ex0) :: B)) (.own (A.length + (j + 3))) = rows.length := fun rows hr => by
      have e2 : (A ++ (.cells [xcF1, xcF2 p, .map i] :: .cells (encX t) :: .cells (encX ex0) :: B)).getD (A.length + (j + 3)) .dead = .row 2 rows 0 := (getD_app _ _ _ _).trans hr
      simp only [rowLen0, e2]
    rcases hB with hB | ⟨hB, ht⟩
    · have hz1 : decide ((0 : Int) < ((1 : Nat) : Int)) = true := rfl
      have hm1 : ((1 : Nat) : Int) - 1 = ((0 : Nat) : Int) := rfl
      have hw0 : IntKind.i64.wrap ((0 : Nat) : Int) = ((0 : Nat) : Int) := rfl
      have hB2 : ∀ L : List Box, (B ++ L).getD j .dead = .row 2 [[.slice [encX t], .slice [encX ex0]]] 0 := fun L => by rw [getD_app1 _ _ _ _ hj, hB]
      have hmu' := hmu _ hB
      simp only [List.length_cons, List.length_nil] at hmu'
      rw [show Abs.look 7 [(3, AV.ptr A.length 0), (7, AV.own (A.length + (j + 3)))] = .own (A.length + (j + 3)) from rfl, hmu']
      have hq : ∀ (X Y : Box) (L : List Box) (d : Box), ((B ++ [X]).set j Y ++ L).getD B.length d = X := fun X Y L d => by
        have h1 : B.length < ((B ++ [X]).set j Y).length := by simp
        have h2 : j ≠ B.length := by omega
        rw [getD_app1 _ _ _ _ h1, Go.Abs.getD_set_ne' h2, getD_app0]
        rfl
      have hq2 : ∀ (X Y Z d : Box), ((B ++ [X]).set j Y ++ [Z]).getD (B.length + 1) d = Z := fun X Y Z d => by
        have e : ((B ++ [X]).set j Y).length = B.length + 1 := by simp
        rw [← e, getD_app0]
        rfl
      simp only [xcF1, xcF2]
      simp only [zW, zX, zD, builtinA, isLeaf, const1, Nat.reduceAdd, Nat.reduceMul, Nat.reduceSub, Nat.reduceLT, Nat.reduceLeDiff, Nat.reduceEqDiff, Nat.reduceBEq, Nat.reduceBNe, reduceIte, reduceCtorEq, Int.reduceToNat, Int.reduceLT, Int.reduceLE, Int.reduceEq, Int.reduceNe, Int.reduceNeg, ustrA, ti3, ti52, ti54, ti104, ti252, ti254, ti256, ti318, ti319, ca168, cf, Tryz.results149, hgj, hB, hB2, hz1, hm1, hw0, hq]
      refine ⟨⟨by omega, by omega⟩, ⟨by omega, by omega⟩, ?_⟩
      refine aloop_intro [3, 7, 8, 34, 35, 36] (fun e A' => ∃ (B' : List Box) (j' k : Nat), e = [(3, .ptr A.length 0), (7, .own (A.length + (j' + 3))), (8, .ptr (A.length + (B.length + 3)) 0), (34, .slice [encX t]), (35, .int .i64 (1 : Nat)), (36, .int .i64 (k : Nat))]
        ∧ A' = A ++ (.cells [xcF1, xcF2 p, .map i] :: .cells (encX t) :: .cells (encX ex0) :: B') ∧ j' < B'.length ∧ B'.getD j' .dead = .row 2 [] 0 ∧ B.length < B'.length ∧ B'.getD B.length .dead = .cells [.slice [encX t], .slice [encX ex0]]
        ∧ k ≤ 1 ∧ (k = 1 → t = ex0)) (fun e _ => 1 - (intOf (Abs.look 36 e)).toNat) ?_ ?_
      · refine ⟨_, B.length + 1, 0, rfl, rfl, by simp, hq2 _ _ _ _, by simp only [List.length_append, List.length_set, List.length_singleton]; omega, hq _ _ _ _, by omega, by omega⟩
      · rintro e A' ⟨B', j', k, rfl, rfl, hj', hB', hlt, hb, hk, hkt⟩
        have hgj' : ∀ X Y Z : Box, ∀ d : Box, (X :: Y :: Z :: B').getD (j' + 3) d = B'.getD j' d := fun _ _ _ _ => rfl
        have hgb' : ∀ X Y Z : Box, ∀ d : Box, (X :: Y :: Z :: B').getD (B.length + 3) d = B'.getD B.length d := fun _ _ _ _ => rfl
        have hgB : ∀ L : List Box, (B' ++ L).getD B.length .dead = .cells [.slice [encX t], .slice [encX ex0]] := fun L => by rw [getD_app1 _ _ _ _ hlt, hb]
        rcases Nat.lt_or_ge k 1 with hk1 | hk1
        · have hk0 : k = 0 := by omega
          subst hk0
          have d01 : decide (((0 : Nat) : Int) < ((1 : Nat) : Int)) = true := rfl
          simp only [xcF1, xcF2]
          simp only [zW, zX, zD, builtinA, isLeaf, const1, Nat.reduceAdd, Nat.reduceMul, Nat.reduceSub, Nat.reduceLT, Nat.reduceLeDiff, Nat.reduceEqDiff, Nat.reduceBEq, Nat.reduceBNe, reduceIte, reduceCtorEq, Int.reduceToNat, Int.reduceLT, Int.reduceLE, Int.reduceEq, Int.reduceNe, Int.reduceNeg, ustrA, ti3, ti52, ti54, ti104, ti252, ti254, ti256, ti318, ti319, ca168, cf, Tryz.results149, hgj', hgb', hb, hgB, d01, encX_length, encX_take, frzL_encX]
          refine ⟨⟨by omega, by omega⟩, ⟨by omega, by omega⟩, ?_⟩
          refine .inr (drawE_intro [(false, 0, 1), (false, 0, 1), (false, 0, 1), (false, 0, 1), (false, 0, 1), (false, 0, 1), (false, 0, 1), (false, 0, 1), (false, 0, 1), (true, 0, 0), (true, 1, 1)] [A ++ (.cells [xcF1, xcF2 p, .map i] :: .cells (encX t) :: .cells (encX ex0) :: (B' ++ [.cells (encX t), .cells (encX ex0)])), A ++ (.cells [xcF1, xcF2 p, .map i] :: .cells (encX t) :: .cells (encX ex0) :: (B' ++ [.cells (encX t), .cells (encX ex0), .cells [.nils, .nils]])), A ++ (.cells [xcF1, xcF2 p, .map i] :: .cells (encX t) :: .cells (encX ex0) :: (B' ++ [.cells (encX t), .cells (encX ex0), .cells [.slice (encXs (xks t)), .slice []]]))] 2 rfl (by kernel_rfl) (by kernel_rfl) (by kernel_rfl) (by kernel_rfl) (by kernel_rfl) (by kernel_rfl) ?_)
          simp only [xcF1, xcF2]
          simp only [zW, zX, zD, builtinA, isLeaf, const1, Nat.reduceAdd, Nat.reduceMul, Nat.reduceSub, Nat.reduceLT, Nat.reduceLeDiff, Nat.reduceEqDiff, Nat.reduceBEq, Nat.reduceBNe, reduceIte, reduceCtorEq, Int.reduceToNat, Int.reduceLT, Int.reduceLE, Int.reduceEq, Int.reduceNe, Int.reduceNeg, ustrA, ti3, ti52, ti54, ti104, ti252, ti254, ti256, ti318, ti319, ca168, cf, Tryz.results149, encX_take]
          refine ⟨by rw [encX_length]; omega, by rw [encX_length]; omega, ?_⟩
          refine wpG_callv _ _ _ _ _ _ _ _ _ _ _ _ _ _ _ _ _ ?_
          simp only [zW, zX, zD, builtinA, isLeaf, const1, Nat.reduceAdd, Nat.reduceMul, Nat.reduceSub, Nat.reduceLT, Nat.reduceLeDiff, Nat.reduceEqDiff, Nat.reduceBEq, Nat.reduceBNe, reduceIte, reduceCtorEq, Int.reduceToNat, Int.reduceLT, Int.reduceLE, Int.reduceEq, Int.reduceNe, Int.reduceNeg, ustrA, ti3, ti52, ti54, ti104, ti252, ti254, ti256, ti318, ti319, ca168, cf, Tryz.results149, CallVE_eq, List.nil_append, List.append_nil]
          refine ⟨by kernel_rfl, callEN_intro (fun A => by simp only [zW, zX, zD, builtinA, isLeaf, const1, Nat.reduceAdd, Nat.reduceMul, Nat.reduceSub, Nat.reduceLT, Nat.reduceLeDiff, Nat.reduceEqDiff, Nat.reduceBEq, Nat.reduceBNe, reduceIte, reduceCtorEq, Int.reduceToNat, Int.reduceLT, Int.reduceLE, Int.reduceEq, Int.reduceNe, Int.reduceNeg, ustrA, frzL_encX, Option.map_some]) (fun A => xc_kids t A) ?_ rfl rfl⟩
          simp only [zW, zX, zD, builtinA, isLeaf, const1, Nat.reduceAdd, Nat.reduceMul, Nat.reduceSub, Nat.reduceLT, Nat.reduceLeDiff, Nat.reduceEqDiff, Nat.reduceBEq, Nat.reduceBNe, reduceIte, reduceCtorEq, Int.reduceToNat, Int.reduceLT, Int.reduceLE, Int.reduceEq, Int.reduceNe, Int.reduceNeg, ustrA, ti3, ti52, ti54, ti104, ti252, ti254, ti256, ti318, ti319, ca168, cf, Tryz.results149, encX_take]
          refine ⟨by rw [encX_length]; omega, by rw [encX_length]; omega, ?_⟩
          refine wpG_callv _ _ _ _ _ _ _ _ _ _ _ _ _ _ _ _ _ ?_
          simp only [zW, zX, zD, builtinA, isLeaf, const1, Nat.reduceAdd, Nat.reduceMul, Nat.reduceSub, Nat.reduceLT, Nat.reduceLeDiff, Nat.reduceEqDiff, Nat.reduceBEq, Nat.reduceBNe, reduceIte, reduceCtorEq, Int.reduceToNat, Int.reduceLT, Int.reduceLE, Int.reduceEq, Int.reduceNe, Int.reduceNeg, ustrA, ti3, ti52, ti54, ti104, ti252, ti254, ti256, ti318, ti319, ca168, cf, Tryz.results149, CallVE_eq, List.nil_append, List.append_nil]
          refine ⟨by kernel_rfl, callEN_intro (fun A => by simp only [zW, zX, zD, builtinA, isLeaf, const1, Nat.reduceAdd, Nat.reduceMul, Nat.reduceSub, Nat.reduceLT, Nat.reduceLeDiff, Nat.reduceEqDiff, Nat.reduceBEq, Nat.reduceBNe, reduceIte, reduceCtorEq, Int.reduceToNat, Int.reduceLT, Int.reduceLE, Int.reduceEq, Int.reduceNe, Int.reduceNeg, ustrA, frzL_encX, Option.map_some]) (fun A => xc_kids ex0 A) ?_ rfl rfl⟩
          have hk0' : encXs (xks ex0) = [] := rfl
          simp only [zW, zX, zD, builtinA, isLeaf, const1, Nat.reduceAdd, Nat.reduceMul, Nat.reduceSub, Nat.reduceLT, Nat.reduceLeDiff, Nat.reduceEqDiff, Nat.reduceBEq, Nat.reduceBNe, reduceIte, reduceCtorEq, Int.reduceToNat, Int.reduceLT, Int.reduceLE, Int.reduceEq, Int.reduceNe, Int.reduceNeg, ustrA, ti3, ti52, ti54, ti104, ti252, ti254, ti256, ti318, ti319, ca168, cf, Tryz.results149, encX_take, hk0']
          by_cases hkn : (xks t) = []
          · have hen : encXs (xks t) = [] := by rw [hkn]; rfl
            have d00 : decide (¬ ((0 : Nat) : Int) = ((0 : Nat) : Int)) = false := rfl
            have hts := fun B => xc_same t p q (A ++ B) (by simp; omega) (by rw [Abs.getD_append_left hp]; exact hA)
            generalize hsn : hd0 t = sn at hts
            cases sn with
            | true =>
              have htz : t = ex0 := hd0_zero hsn hkn
              simp only [zW, zX, zD, builtinA, isLeaf, const1, Nat.reduceAdd, Nat.reduceMul, Nat.reduceSub, Nat.reduceLT, Nat.reduceLeDiff, Nat.reduceEqDiff, Nat.reduceBEq, Nat.reduceBNe, reduceIte, reduceCtorEq, Int.reduceToNat, Int.reduceLT, Int.reduceLE, Int.reduceEq, Int.reduceNe, Int.reduceNeg, ustrA, ti3, ti52, ti54, ti104, ti252, ti254, ti256, ti318, ti319, ca168, cf, Tryz.results149, encX_take, hen, d00]
              refine ⟨by rw [encX_length]; omega, by rw [encX_length]; omega, ?_⟩
              refine wpO_callv _ _ _ _ _ _ _ _ _ _ _ _ _ _ _ ?_
              simp only [zW, zX, zD, builtinA, isLeaf, const1, Nat.reduceAdd, Nat.reduceMul, Nat.reduceSub, Nat.reduceLT, Nat.reduceLeDiff, Nat.reduceEqDiff, Nat.reduceBEq, Nat.reduceBNe, reduceIte, reduceCtorEq, Int.reduceToNat, Int.reduceLT, Int.reduceLE, Int.reduceEq, Int.reduceNe, Int.reduceNeg, ustrA, ti3, ti52, ti54, ti104, ti252, ti254, ti256, ti318, ti319, ca168, cf, Tryz.results149, List.nil_append, List.append_nil]
              refine ⟨by kernel_rfl, ?_⟩
              refine callK_intro (by simp only [zW, zX, zD, builtinA, isLeaf, const1, Nat.reduceAdd, Nat.reduceMul, Nat.reduceSub, Nat.reduceLT, Nat.reduceLeDiff, Nat.reduceEqDiff, Nat.reduceBEq, Nat.reduceBNe, reduceIte, reduceCtorEq, Int.reduceToNat, Int.reduceLT, Int.reduceLE, Int.reduceEq, Int.reduceNe, Int.reduceNeg, ustrA, frzL_encX, Option.map_some, List.cons_append, List.nil_append] <;> rfl) (hts _) ?_ rfl
              rintro r A2 ⟨rfl, rfl⟩
              simp only [zW, zX, zD, builtinA, isLeaf, const1, Nat.reduceAdd, Nat.reduceMul, Nat.reduceSub, Nat.reduceLT, Nat.reduceLeDiff, Nat.reduceEqDiff, Nat.reduceBEq, Nat.reduceBNe, reduceIte, reduceCtorEq, Int.reduceToNat, Int.reduceLT, Int.reduceLE, Int.reduceEq, Int.reduceNe, Int.reduceNeg, ustrA, ti3, ti52, ti54, ti104, ti252, ti254, ti256, ti318, ti319, ca168, cf, Tryz.results149]
              refine callK_intro (by simp only [zW, zX, zD, builtinA, isLeaf, const1, Nat.reduceAdd, Nat.reduceMul, Nat.reduceSub, Nat.reduceLT, Nat.reduceLeDiff, Nat.reduceEqDiff, Nat.reduceBEq, Nat.reduceBNe, reduceIte, reduceCtorEq, Int.reduceToNat, Int.reduceLT, Int.reduceLE, Int.reduceEq, Int.reduceNe, Int.reduceNeg, ustrA, Option.map_some] <;> rfl) (joinX_none _ _) ?_ rfl
              rintro r A2 ⟨rfl, rfl⟩
              simp only [zW, zX, zD, builtinA, isLeaf, const1, Nat.reduceAdd, Nat.reduceMul, Nat.reduceSub, Nat.reduceLT, Nat.reduceLeDiff, Nat.reduceEqDiff, Nat.reduceBEq, Nat.reduceBNe, reduceIte, reduceCtorEq, Int.reduceToNat, Int.reduceLT, Int.reduceLE, Int.reduceEq, Int.reduceNe, Int.reduceNeg, ustrA, ti3, ti52, ti54, ti104, ti252, ti254, ti256, ti318, ti319, ca168, cf, Tryz.results149, LoopK_eq]
              refine ⟨⟨_, j', 1, rfl, rfl, by simp; omega, by rw [getD_app1 _ _ _ _ hj', hB'], by simp; omega, hgB _, by omega, fun _ => htz⟩, by simp only [intOf]; decide⟩
            | false =>
              have htz : ¬ t = ex0 := fun e => by subst e; simp [hd0, ex0] at hsn
              simp only [zW, zX, zD, builtinA, isLeaf, const1, Nat.reduceAdd, Nat.reduceMul, Nat.reduceSub, Nat.reduceLT, Nat.reduceLeDiff, Nat.reduceEqDiff, Nat.reduceBEq, Nat.reduceBNe, reduceIte, reduceCtorEq, Int.reduceToNat, Int.reduceLT, Int.reduceLE, Int.reduceEq, Int.reduceNe, Int.reduceNeg, ustrA, ti3, ti52, ti54, ti104, ti252, ti254, ti256, ti318, ti319, ca168, cf, Tryz.results149, encX_take, hen, d00]
              refine ⟨by rw [encX_length]; omega, by rw [encX_length]; omega, ?_⟩
              refine wpO_callv _ _ _ _ _ _ _ _ _ _ _ _ _ _ _ ?_
              simp only [zW, zX, zD, builtinA, isLeaf, const1, Nat.reduceAdd, Nat.reduceMul, Nat.reduceSub, Nat.reduceLT, Nat.reduceLeDiff, Nat.reduceEqDiff, Nat.reduceBEq, Nat.reduceBNe, reduceIte, reduceCtorEq, Int.reduceToNat, Int.reduceLT, Int.reduceLE, Int.reduceEq, Int.reduceNe, Int.reduceNeg, ustrA, ti3, ti52, ti54, ti104, ti252, ti254, ti256, ti318, ti319, ca168, cf, Tryz.results149, List.nil_append, List.append_nil]
              refine ⟨by kernel_rfl, ?_⟩
              refine callK_intro (by simp only [zW, zX, zD, builtinA, isLeaf, const1, Nat.reduceAdd, Nat.reduceMul, Nat.reduceSub, Nat.reduceLT, Nat.reduceLeDiff, Nat.reduceEqDiff, Nat.reduceBEq, Nat.reduceBNe, reduceIte, reduceCtorEq, Int.reduceToNat, Int.reduceLT, Int.reduceLE, Int.reduceEq, Int.reduceNe, Int.reduceNeg, ustrA, frzL_encX, Option.map_some, List.cons_append, List.nil_append] <;> rfl) (hts _) ?_ rfl
              rintro r A2 ⟨rfl, rfl⟩
              simp only [zW, zX, zD, builtinA, isLeaf, const1, Nat.reduceAdd, Nat.reduceMul, Nat.reduceSub, Nat.reduceLT, Nat.reduceLeDiff, Nat.reduceEqDiff, Nat.reduceBEq, Nat.reduceBNe, reduceIte, reduceCtorEq, Int.reduceToNat, Int.reduceLT, Int.reduceLE, Int.reduceEq, Int.reduceNe, Int.reduceNeg, ustrA, ti3, ti52, ti54, ti104, ti252, ti254, ti256, ti318, ti319, ca168, cf, Tryz.results149, isX0_no htz]
          · have htz : ¬ t = ex0 := fun e => by subst e; exact hkn rfl
            have hnk : 0 < (xks t).length := List.length_pos_iff.2 hkn
            have d00 : decide ((((xks t).length : Nat) : Int) = ((0 : Nat) : Int)) = false := decide_eq_false (by omega)
            simp only [zW, zX, zD, builtinA, isLeaf, const1, Nat.reduceAdd, Nat.reduceMul, Nat.reduceSub, Nat.reduceLT, Nat.reduceLeDiff, Nat.reduceEqDiff, Nat.reduceBEq, Nat.reduceBNe, reduceIte, reduceCtorEq, Int.reduceToNat, Int.reduceLT, Int.reduceLE, Int.reduceEq, Int.reduceNe, Int.reduceNeg, ustrA, ti3, ti52, ti54, ti104, ti252, ti254, ti256, ti318, ti319, ca168, cf, Tryz.results149, encX_take, d00, encXs_length, isX0_no htz]
        · have hk0 : k = 1 := by omega
          subst hk0
          have d11 : decide (((1 : Nat) : Int) < ((1 : Nat) : Int)) = false := rfl
          simp only [xcF1, xcF2]
          simp only [zW, zX, zD, builtinA, isLeaf, const1, Nat.reduceAdd, Nat.reduceMul, Nat.reduceSub, Nat.reduceLT, Nat.reduceLeDiff, Nat.reduceEqDiff, Nat.reduceBEq, Nat.reduceBNe, reduceIte, reduceCtorEq, Int.reduceToNat, Int.reduceLT, Int.reduceLE, Int.reduceEq, Int.reduceNe, Int.reduceNeg, ustrA, ti3, ti52, ti54, ti104, ti252, ti254, ti256, ti318, ti319, ca168, cf, Tryz.results149, hgj', hgb', hb, hgB, d11, LoopK_eq, encX_length, encX_take, frzL_encX]
          refine ⟨⟨B', j', rfl, rfl, hj', .inr ⟨hB', hkt rfl⟩⟩, ?_⟩
          have e2 : (A ++ (.cells [xcF1, xcF2 p, .map i] :: .cells (encX t) :: .cells (encX ex0) :: B')).getD (A.length + (j' + 3)) .dead = .row 2 [] 0 := (getD_app _ _ _ _).trans hB'
          simp only [xcF1, xcF2] at e2
          simp only [rowLen0, e2]
          decide
    · have hz0 : decide ((0 : Int) < ((0 : Nat) : Int)) = false := rfl
      simp only [xcF1, xcF2]
      simp only [zW, zX, zD, builtinA, isLeaf, const1, Nat.reduceAdd, Nat.reduceMul, Nat.reduceSub, Nat.reduceLT, Nat.reduceLeDiff, Nat.reduceEqDiff, Nat.reduceBEq, Nat.reduceBNe, reduceIte, reduceCtorEq, Int.reduceToNat, Int.reduceLT, Int.reduceLE, Int.reduceEq, Int.reduceNe, Int.reduceNeg, ustrA, ti3, ti52, ti54, ti104, ti252, ti254, ti256, ti318, ti319, ca168, cf, Tryz.results149, hgj, hB, hz0, isX0_yes ht]


set_option maxRecDepth 100000 in
theorem impl_exprComparison (m : Nat) (A : List Box) : ACalls Tryz.prog 147 [.agg [tcF1, tcF2, .map m]] A (fun r A' => r = .agg [xcF1, xcF2 A.length, .map (A.length + 2)] ∧ A' = A ++ [.cells [tcF1, tcF2, .map m], .cells [xcF1, xcF2 A.length, .map (A.length + 2)], .mapb []]) := by
  simp only [tcF1, tcF2, xcF1, xcF2]
  refine acalls_enterK (cf := cf 10 [0, 1, 2, 3, 4]) foll Tryz.func147 Tryz.ntmps147 (by simp [cf]) ?_
  simp only [Tryz.f147, EnterK_some, zW, zX, zD, builtinA, isLeaf, const1, Nat.reduceAdd, Nat.reduceMul, Nat.reduceSub, Nat.reduceLT, Nat.reduceLeDiff, Nat.reduceEqDiff, Nat.reduceBEq, Nat.reduceBNe, reduceIte, reduceCtorEq, Int.reduceToNat, Int.reduceLT, Int.reduceLE, Int.reduceEq, Int.reduceNe, Int.reduceNeg, ustrA, ti247, ti254, ti256, cf, Tryz.results147]
  exact ⟨rfl, rfl⟩

set_option maxRecDepth 100000 in
theorem impl_ExprSame0 (t : Ex) (A : List Box) : ACalls Tryz.prog 123 [.agg (encX t), .agg (encX ex0)] A (fun r A' => r = .bool (isX0 t) ∧ A' = A) := by
  have hl4 : (A ++ [Box.cells (encX t), .cells (encX ex0), .cells [tcF1, tcF2, .map (A.length + 2 + 1)], .mapb []]).length = A.length + 4 := by simp
  have hcmp := impl_exprComparison (A.length + 2 + 1) (A ++ [Box.cells (encX t), .cells (encX ex0), .cells [tcF1, tcF2, .map (A.length + 2 + 1)], .mapb []])
  rw [hl4] at hcmp
  have hsz := sameX_zero t (A.length + 4 + 2) (A.length + 4) (A.length + 2 + 1) (A ++ [Box.cells (encX t), .cells (encX ex0), .cells [tcF1, tcF2, .map (A.length + 2 + 1)], .mapb [], .cells [tcF1, tcF2, .map (A.length + 2 + 1)], .cells [xcF1, xcF2 (A.length + 4), .map (A.length + 4 + 2)], .mapb []]) (by simp) (by rw [Abs.getD_append_right (by omega), show A.length + 4 - A.length = 4 by omega]; rfl)
  refine acalls_enter (cf := cf 10 [0, 1, 2, 3, 4]) foll Tryz.func123 Tryz.ntmps123 (by simp [cf]) ?_
  simp only [Tryz.f123, EnterK_some, zW, zX, zD, builtinA, isLeaf, const1, Nat.reduceAdd, Nat.reduceMul, Nat.reduceSub, Nat.reduceLT, Nat.reduceLeDiff, Nat.reduceEqDiff, Nat.reduceBEq, Nat.reduceBNe, reduceIte, reduceCtorEq, Int.reduceToNat, Int.reduceLT, Int.reduceLE, Int.reduceEq, Int.reduceNe, Int.reduceNeg, ustrA, ti54, ca147, ca148, ca149, cf, Tryz.results123]
  refine .inr (drawE_intro [(true, 0, 0), (true, 1, 1), (false, 0, 2), (false, 0, 2), (true, 2, 2), (false, 3, 3)] [A ++ [.cells (encX t), .cells (encX ex0)], A ++ [.cells (encX t), .cells (encX ex0), .cells [tcF1, tcF2, .map (A.length + 2 + 1)], .mapb []], A ++ [.cells (encX t), .cells (encX ex0), .cells [tcF1, tcF2, .map (A.length + 2 + 1)], .mapb [], .cells [tcF1, tcF2, .map (A.length + 2 + 1)], .cells [xcF1, xcF2 (A.length + 4), .map (A.length + 4 + 2)], .mapb []], A ++ [.cells (encX t), .cells (encX ex0), .cells [tcF1, tcF2, .map (A.length + 2 + 1)], .mapb [], .cells [tcF1, tcF2, .map (A.length + 2 + 1)], .cells [xcF1, xcF2 (A.length + 4), .map (A.length + 4 + 2)], .mapb []]] 3 rfl (by kernel_rfl) (by kernel_rfl) (by kernel_rfl) (by kernel_rfl) (by kernel_rfl) (by kernel_rfl) ?_)
  simp only [zW, zX, zD, builtinA, isLeaf, const1, Nat.reduceAdd, Nat.reduceMul, Nat.reduceSub, Nat.reduceLT, Nat.reduceLeDiff, Nat.reduceEqDiff, Nat.reduceBEq, Nat.reduceBNe, reduceIte, reduceCtorEq, Int.reduceToNat, Int.reduceLT, Int.reduceLE, Int.reduceEq, Int.reduceNe, Int.reduceNeg, ustrA, ti54, ca147, ca148, ca149, cf, Tryz.results123]
  refine callE_intro (v := .agg [tcF1, tcF2, .map (A.length + 2 + 1)]) (by simp only [zW, zX, zD, builtinA, isLeaf, const1, Nat.reduceAdd, Nat.reduceMul, Nat.reduceSub, Nat.reduceLT, Nat.reduceLeDiff, Nat.reduceEqDiff, Nat.reduceBEq, Nat.reduceBNe, reduceIte, reduceCtorEq, Int.reduceToNat, Int.reduceLT, Int.reduceLE, Int.reduceEq, Int.reduceNe, Int.reduceNeg, ustrA] <;> rfl) ((impl_typeComparison _).mono fun r A' h => ?_) ?_ rfl rfl
  · obtain ⟨h1, h2⟩ := h
    refine ⟨by rw [h1]; simp, ?_⟩
    show A' = A ++ [.cells (encX t), .cells (encX ex0), .cells [tcF1, tcF2, .map (A.length + 2 + 1)], .mapb []]
    rw [h2]; simp
  simp only [zW, zX, zD, builtinA, isLeaf, const1, Nat.reduceAdd, Nat.reduceMul, Nat.reduceSub, Nat.reduceLT, Nat.reduceLeDiff, Nat.reduceEqDiff, Nat.reduceBEq, Nat.reduceBNe, reduceIte, reduceCtorEq, Int.reduceToNat, Int.reduceLT, Int.reduceLE, Int.reduceEq, Int.reduceNe, Int.reduceNeg, ustrA, ti54, ca147, ca148, ca149, cf, Tryz.results123]
  refine callE_intro (v := .agg [xcF1, xcF2 (A.length + 4), .map (A.length + 4 + 2)]) (by simp only [zW, zX, zD, builtinA, isLeaf, const1, Nat.reduceAdd, Nat.reduceMul, Nat.reduceSub, Nat.reduceLT, Nat.reduceLeDiff, Nat.reduceEqDiff, Nat.reduceBEq, Nat.reduceBNe, reduceIte, reduceCtorEq, Int.reduceToNat, Int.reduceLT, Int.reduceLE, Int.reduceEq, Int.reduceNe, Int.reduceNeg, ustrA] <;> rfl) (hcmp.mono fun r A' h => ?_) ?_ rfl rfl
  · obtain ⟨h1, h2⟩ := h
    refine ⟨h1, ?_⟩
    show A' = A ++ [.cells (encX t), .cells (encX ex0), .cells [tcF1, tcF2, .map (A.length + 2 + 1)], .mapb [], .cells [tcF1, tcF2, .map (A.length + 2 + 1)], .cells [xcF1, xcF2 (A.length + 4), .map (A.length + 4 + 2)], .mapb []]
    rw [h2]; simp
  simp only [zW, zX, zD, builtinA, isLeaf, const1, Nat.reduceAdd, Nat.reduceMul, Nat.reduceSub, Nat.reduceLT, Nat.reduceLeDiff, Nat.reduceEqDiff, Nat.reduceBEq, Nat.reduceBNe, reduceIte, reduceCtorEq, Int.reduceToNat, Int.reduceLT, Int.reduceLE, Int.reduceEq, Int.reduceNe, Int.reduceNeg, ustrA, ti54, ca147, ca148, ca149, cf, Tryz.results123, encX_take]
  refine ⟨by rw [encX_length]; omega, by rw [encX_length]; omega, by rw [encX_length]; omega, by rw [encX_length]; omega, ?_⟩
  refine callEO_intro hsz ?_ rfl
  simp only [zW, zX, zD, builtinA, isLeaf, const1, Nat.reduceAdd, Nat.reduceMul, Nat.reduceSub, Nat.reduceLT, Nat.reduceLeDiff, Nat.reduceEqDiff, Nat.reduceBEq, Nat.reduceBNe, reduceIte, reduceCtorEq, Int.reduceToNat, Int.reduceLT, Int.reduceLE, Int.reduceEq, Int.reduceNe, Int.reduceNeg, ustrA, ti54, ca147, ca148, ca149, cf, Tryz.results123]
end Go.Proofs.YtebgneaehhaclaaGreat
