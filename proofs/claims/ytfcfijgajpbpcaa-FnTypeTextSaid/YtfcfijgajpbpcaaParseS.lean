/- The model's reading of types. -/
import Derived.Test.YtfcfijgajpbpcaaParseP
set_option linter.unusedVariables false
set_option linter.unusedSimpArgs false
namespace Go.Proofs.Ytfcfijgajpbpcaa
open Go.Abs

theorem take_snoc' {s : List UInt8} {i : Nat} (h : i < s.length) : s.take (i + 1) = s.take i ++ [s.getD i 0] := by
  rw [List.take_add_one]; simp [List.getD, h]
def signB (s : List UInt8) (at' : Int) (c : UInt8) : Bool := decide (0 ≤ at') && decide (s[at'.toNat]? = some c)
theorem u8_eq (a b : UInt8) : decide ((a.toNat : Int) = (b.toNat : Int)) = decide (a = b) := by
  rw [Bool.eq_iff_iff]
  simp only [decide_eq_true_eq]
  constructor
  · intro h; exact UInt8.toNat.inj (by omega)
  · intro h; rw [h]

set_option maxRecDepth 100000 in
theorem spec_l1Sign (s : List UInt8) (at' : Int) (c : UInt8) (A : List Box) : ACalls Try.prog 45 [.str s, .int .i64 at', .int .u8 (c.toNat : Nat)] A (fun r A' => r = .bool (signB s at' c) ∧ A' = A) := by
  refine acalls_enter (cf := cf 22 [0, 1, 2, 6]) foll Try.func45 Try.ntmps45 (by simp [cf]) ?_
  simp only [Try.f45, EnterK_some, zW, zX, zD, builtinA, isLeaf, const1, Nat.reduceAdd, Nat.reduceMul, Nat.reduceSub, Nat.reduceLT, Nat.reduceLeDiff, Nat.reduceEqDiff, Nat.reduceBEq, Nat.reduceBNe, reduceIte, reduceCtorEq, Int.reduceToNat, Int.reduceLT, Int.reduceLE, Int.reduceEq, Int.reduceNe, Int.reduceNeg, ustrA, ti3, ti5, ti9, cf, Try.results45]
  by_cases h0 : 0 ≤ at'
  · simp only [zW, zX, zD, builtinA, isLeaf, const1, Nat.reduceAdd, Nat.reduceMul, Nat.reduceSub, Nat.reduceLT, Nat.reduceLeDiff, Nat.reduceEqDiff, Nat.reduceBEq, Nat.reduceBNe, reduceIte, reduceCtorEq, Int.reduceToNat, Int.reduceLT, Int.reduceLE, Int.reduceEq, Int.reduceNe, Int.reduceNeg, ustrA, ti3, ti5, ti9, cf, Try.results45, decide_eq_true h0]
    by_cases h1 : at' < (s.length : Int)
    · simp only [zW, zX, zD, builtinA, isLeaf, const1, Nat.reduceAdd, Nat.reduceMul, Nat.reduceSub, Nat.reduceLT, Nat.reduceLeDiff, Nat.reduceEqDiff, Nat.reduceBEq, Nat.reduceBNe, reduceIte, reduceCtorEq, Int.reduceToNat, Int.reduceLT, Int.reduceLE, Int.reduceEq, Int.reduceNe, Int.reduceNeg, ustrA, ti3, ti5, ti9, cf, Try.results45, decide_eq_true h1]
      refine ⟨⟨h0, h1⟩, ?_⟩
      have hi : at'.toNat < s.length := by omega
      have hg : s[at'.toNat]? = some (s.getD at'.toNat 0) := by simp [List.getD, hi]
      rw [u8_eq, signB, decide_eq_true h0, Bool.true_and, hg]
      simp
    · simp only [zW, zX, zD, builtinA, isLeaf, const1, Nat.reduceAdd, Nat.reduceMul, Nat.reduceSub, Nat.reduceLT, Nat.reduceLeDiff, Nat.reduceEqDiff, Nat.reduceBEq, Nat.reduceBNe, reduceIte, reduceCtorEq, Int.reduceToNat, Int.reduceLT, Int.reduceLE, Int.reduceEq, Int.reduceNe, Int.reduceNeg, ustrA, ti3, ti5, ti9, cf, Try.results45, decide_eq_false h1]
      have : s[at'.toNat]? = none := by simp; omega
      simp [signB, this]
  · simp only [zW, zX, zD, builtinA, isLeaf, const1, Nat.reduceAdd, Nat.reduceMul, Nat.reduceSub, Nat.reduceLT, Nat.reduceLeDiff, Nat.reduceEqDiff, Nat.reduceBEq, Nat.reduceBNe, reduceIte, reduceCtorEq, Int.reduceToNat, Int.reduceLT, Int.reduceLE, Int.reduceEq, Int.reduceNe, Int.reduceNeg, ustrA, ti3, ti5, ti9, cf, Try.results45, decide_eq_false h0]
    simp [signB, h0]
set_option maxRecDepth 100000 in
theorem pspec_l1Num (A : List Box) : ACalls Try.prog 42 [] A (fun r A' => r = .agg (enc (toTy .num)) ∧ A' = A) := by
  refine acalls_enter (cf := cf 2 [0]) foll Try.func42 Try.ntmps42 (by simp [cf]) ?_
  simp only [Try.f42, EnterK_some, zW, zX, zD, builtinA, isLeaf, const1, Nat.reduceAdd, Nat.reduceMul, Nat.reduceSub, Nat.reduceLT, Nat.reduceLeDiff, Nat.reduceEqDiff, Nat.reduceBEq, Nat.reduceBNe, reduceIte, reduceCtorEq, Int.reduceToNat, Int.reduceLT, Int.reduceLE, Int.reduceEq, Int.reduceNe, Int.reduceNeg, ustrA, ti25, cf, Try.results42]
  simp [toTy, enc, encs]
set_option maxRecDepth 100000 in
theorem pspec_l1Name (m n : List UInt8) (A : List Box) : ACalls Try.prog 44 [.str m, .str n] A (fun r A' => r = .agg (enc (.mk 3 m n [])) ∧ A' = A) := by
  refine acalls_enter (cf := cf 8 [0, 1, 4]) foll Try.func44 Try.ntmps44 (by simp [cf]) ?_
  simp only [Try.f44, EnterK_some, zW, zX, zD, builtinA, isLeaf, const1, Nat.reduceAdd, Nat.reduceMul, Nat.reduceSub, Nat.reduceLT, Nat.reduceLeDiff, Nat.reduceEqDiff, Nat.reduceBEq, Nat.reduceBNe, reduceIte, reduceCtorEq, Int.reduceToNat, Int.reduceLT, Int.reduceLE, Int.reduceEq, Int.reduceNe, Int.reduceNeg, ustrA, ti25, cf, Try.results44]
  simp [enc, encs]
set_option maxRecDepth 100000 in
theorem pspec_l1Fun (a b : Ty) (A : List Box) : ACalls Try.prog 46 [.agg (enc a), .agg (enc b)] A (fun r A' => r = .agg (enc (.mk 2 [] [] [a, b])) ∧ A' = A) := by
  refine acalls_enter (cf := cf 9 [0, 1, 2, 3, 4]) foll Try.func46 Try.ntmps46 (by simp [cf]) ?_
  simp only [Try.f46, EnterK_some, zW, zX, zD, builtinA, isLeaf, const1, Nat.reduceAdd, Nat.reduceMul, Nat.reduceSub, Nat.reduceLT, Nat.reduceLeDiff, Nat.reduceEqDiff, Nat.reduceBEq, Nat.reduceBNe, reduceIte, reduceCtorEq, Int.reduceToNat, Int.reduceLT, Int.reduceLE, Int.reduceEq, Int.reduceNe, Int.reduceNeg, ustrA, ti23, ti25, cf, Try.results46]
  simp only [zW, zX, zD, builtinA, isLeaf, const1, Nat.reduceAdd, Nat.reduceMul, Nat.reduceSub, Nat.reduceLT, Nat.reduceLeDiff, Nat.reduceEqDiff, Nat.reduceBEq, Nat.reduceBNe, reduceIte, reduceCtorEq, Int.reduceToNat, Int.reduceLT, Int.reduceLE, Int.reduceEq, Int.reduceNe, Int.reduceNeg, ustrA, ti23, ti25, cf, Try.results46, enc_length, enc_take, frzL_enc, Option.map_some]
  refine ⟨⟨fun v hv => enc_leaf _ v hv, fun v hv => enc_leaf _ v hv⟩, ?_⟩
  simp [enc, encs]

def dres (at' : Nat) : Option (VT × Nat) → AV → Prop
  | some (.nm m n, k), r => r = .tuple [.str m, .str n, .int .i64 ((at' + k : Nat) : Int)]
  | some _, _ => False
  | none, r => r = .tuple [.str [], .str [], .int .i64 (-1)]

theorem slice1 {s : List UInt8} {i : Nat} (h : i < s.length) : (s.take (i + 1)).drop i = [s.getD i 0] := by
  rw [take_snoc' h, List.drop_append_of_le_length (by simp; omega), List.drop_of_length_le (by simp; omega)]
  rfl
theorem loc_mod {c : List UInt8} (h : localB c = true) : moduleB c = false := by
  simp only [localB, Bool.and_eq_true, decide_eq_true_eq, beq_iff_eq] at h
  simp only [moduleB]
  have : decide ((c.getD 0 0).toNat ≤ 90) = false := decide_eq_false (by omega)
  rw [this]; simp
theorem pName_at {s : List UInt8} {i : Nat} (h : i < s.length) : pName (s.drop i) = if localB [s.getD i 0] = true then some (.nm [] [s.getD i 0], 1)
    else if moduleB [s.getD i 0] = true ∧ s[i + 1]? = some 46 ∧ i + 2 < s.length ∧ localB [s.getD (i + 2) 0] = true then some (.nm [s.getD i 0] [s.getD (i + 2) 0], 3) else none := by
  have hd : s.drop i = s.getD i 0 :: s.drop (i + 1) := by
    have : s.getD i 0 = s[i] := by simp [List.getD, h]
    rw [this, List.getElem_cons_drop h]
  rw [hd]
  clear hd
  generalize s.getD i 0 = c
  by_cases hl : localB [c] = true
  · rw [if_pos hl]
    have := loc_mod hl
    simp [pName, hl, this]
  · have hl' : localB [c] = false := by simpa using hl
    rw [if_neg hl]
    by_cases hm : moduleB [c] = true
    · by_cases h1 : i + 1 < s.length
      · have hd1 : s.drop (i + 1) = s.getD (i + 1) 0 :: s.drop (i + 2) := by
          have : s.getD (i + 1) 0 = s[i + 1] := by simp [List.getD, h1]
          rw [this, List.getElem_cons_drop h1]
        have hg1 : s[i + 1]? = some (s.getD (i + 1) 0) := by simp [List.getD, h1]
        by_cases h2 : i + 2 < s.length
        · have hd2 : s.drop (i + 2) = s.getD (i + 2) 0 :: s.drop (i + 3) := by
            have : s.getD (i + 2) 0 = s[i + 2] := by simp [List.getD, h2]
            rw [this, List.getElem_cons_drop h2]
          rw [hd1, hd2, hg1]
          simp only [pName, hm, if_true, h2, true_and, Option.some.injEq]
        · have hd2 : s.drop (i + 2) = [] := by simp; omega
          rw [hd1, hd2]
          simp [pName, hm, h2]
      · have hd1 : s.drop (i + 1) = [] := by simp; omega
        have : ¬ i + 2 < s.length := by omega
        rw [hd1]
        simp [pName, hm, this]
    · have hm' : moduleB [c] = false := by simpa using hm
      simp [pName, hl', hm']

set_option maxRecDepth 100000 in
theorem spec_l1Dotted (s : List UInt8) (hs : s.length ≤ 1100000) (at' : Nat) (h : at' < s.length) (A : List Box) : ACalls Try.prog 43 [.str s, .int .i64 (at' : Int)] A (fun r A' => dres at' (pName (s.drop at')) r ∧ A' = A) := by
  have e0 : decide ((at' : Int) < 0) = false := decide_eq_false (by omega)
  have e1 : decide ((s.length : Int) ≤ (at' : Int)) = false := decide_eq_false (by omega)
  have w1 : IntKind.i64.wrap ((at' : Int) + 1) = ((at' + 1 : Nat) : Int) := by rw [wrap64 (by omega) (by omega)]; omega
  have w2 : IntKind.i64.wrap ((at' : Int) + 2) = ((at' + 2 : Nat) : Int) := by rw [wrap64 (by omega) (by omega)]; omega
  have w3 : IntKind.i64.wrap ((at' : Int) + 3) = ((at' + 3 : Nat) : Int) := by rw [wrap64 (by omega) (by omega)]; omega
  refine acalls_enter (cf := cf 69 [0, 1, 4, 5, 6, 14, 20, 55]) foll Try.func43 Try.ntmps43 (by simp [cf]) ?_
  simp only [Try.f43, EnterK_some, zW, zX, zD, builtinA, isLeaf, const1, Nat.reduceAdd, Nat.reduceMul, Nat.reduceSub, Nat.reduceLT, Nat.reduceLeDiff, Nat.reduceEqDiff, Nat.reduceBEq, Nat.reduceBNe, reduceIte, reduceCtorEq, Int.reduceToNat, Int.reduceLT, Int.reduceLE, Int.reduceEq, Int.reduceNe, Int.reduceNeg, ustrA, ti3, ti9, ca45, ca53, ca54, cf, Try.results43]
  simp only [zW, zX, zD, builtinA, isLeaf, const1, Nat.reduceAdd, Nat.reduceMul, Nat.reduceSub, Nat.reduceLT, Nat.reduceLeDiff, Nat.reduceEqDiff, Nat.reduceBEq, Nat.reduceBNe, reduceIte, reduceCtorEq, Int.reduceToNat, Int.reduceLT, Int.reduceLE, Int.reduceEq, Int.reduceNe, Int.reduceNeg, ustrA, ti3, ti9, ca45, ca53, ca54, cf, Try.results43, e0, e1, w1, w2, w3]
  refine ⟨⟨by omega, by omega, by omega⟩, ?_⟩
  rw [slice1 h, pName_at h]
  refine callK_intro (by simp only [zW, zX, zD, builtinA, isLeaf, const1, Nat.reduceAdd, Nat.reduceMul, Nat.reduceSub, Nat.reduceLT, Nat.reduceLeDiff, Nat.reduceEqDiff, Nat.reduceBEq, Nat.reduceBNe, reduceIte, reduceCtorEq, Int.reduceToNat, Int.reduceLT, Int.reduceLE, Int.reduceEq, Int.reduceNe, Int.reduceNeg, ustrA, Option.map_some]; rfl) (spec_LocalName _ _) ?_ rfl; rintro v A' ⟨rfl, rfl⟩
  by_cases hl : localB [s.getD at' 0] = true
  · rw [if_pos hl, hl]
    simp only [zW, zX, zD, builtinA, isLeaf, const1, Nat.reduceAdd, Nat.reduceMul, Nat.reduceSub, Nat.reduceLT, Nat.reduceLeDiff, Nat.reduceEqDiff, Nat.reduceBEq, Nat.reduceBNe, reduceIte, reduceCtorEq, Int.reduceToNat, Int.reduceLT, Int.reduceLE, Int.reduceEq, Int.reduceNe, Int.reduceNeg, ustrA, ti3, ti9, ca45, ca53, ca54, cf, Try.results43, w1]
    refine .inl ⟨by kernel_rfl, by kernel_rfl, ⟨by omega, by omega, by omega⟩, ?_⟩
    rw [slice1 h]
    simp [dres]
  · have hl' : localB [s.getD at' 0] = false := by simpa using hl
    rw [if_neg hl, hl']
    simp only [zW, zX, zD, builtinA, isLeaf, const1, Nat.reduceAdd, Nat.reduceMul, Nat.reduceSub, Nat.reduceLT, Nat.reduceLeDiff, Nat.reduceEqDiff, Nat.reduceBEq, Nat.reduceBNe, reduceIte, reduceCtorEq, Int.reduceToNat, Int.reduceLT, Int.reduceLE, Int.reduceEq, Int.reduceNe, Int.reduceNeg, ustrA, ti3, ti9, ca45, ca53, ca54, cf, Try.results43, w1]
    refine ⟨⟨by omega, by omega, by omega⟩, ?_⟩
    rw [slice1 h]
    refine callK_intro (by simp only [zW, zX, zD, builtinA, isLeaf, const1, Nat.reduceAdd, Nat.reduceMul, Nat.reduceSub, Nat.reduceLT, Nat.reduceLeDiff, Nat.reduceEqDiff, Nat.reduceBEq, Nat.reduceBNe, reduceIte, reduceCtorEq, Int.reduceToNat, Int.reduceLT, Int.reduceLE, Int.reduceEq, Int.reduceNe, Int.reduceNeg, ustrA, Option.map_some]; rfl) (spec_ModuleName _ _) ?_ rfl; rintro v A' ⟨rfl, rfl⟩
    by_cases hm : moduleB [s.getD at' 0] = true
    · rw [hm]
      simp only [zW, zX, zD, builtinA, isLeaf, const1, Nat.reduceAdd, Nat.reduceMul, Nat.reduceSub, Nat.reduceLT, Nat.reduceLeDiff, Nat.reduceEqDiff, Nat.reduceBEq, Nat.reduceBNe, reduceIte, reduceCtorEq, Int.reduceToNat, Int.reduceLT, Int.reduceLE, Int.reduceEq, Int.reduceNe, Int.reduceNeg, ustrA, ti3, ti9, ca45, ca53, ca54, cf, Try.results43, w1]
      refine callK_intro (by simp only [zW, zX, zD, builtinA, isLeaf, const1, Nat.reduceAdd, Nat.reduceMul, Nat.reduceSub, Nat.reduceLT, Nat.reduceLeDiff, Nat.reduceEqDiff, Nat.reduceBEq, Nat.reduceBNe, reduceIte, reduceCtorEq, Int.reduceToNat, Int.reduceLT, Int.reduceLE, Int.reduceEq, Int.reduceNe, Int.reduceNeg, ustrA, Option.map_some]; rfl) (spec_l1Sign s ((at' + 1 : Nat) : Int) 46 _) ?_ rfl; rintro v A' ⟨rfl, rfl⟩
      have hsg : signB s ((at' + 1 : Nat) : Int) 46 = decide (s[at' + 1]? = some 46) := by
        have : decide ((0 : Int) ≤ ((at' + 1 : Nat) : Int)) = true := decide_eq_true (by omega)
        rw [signB, this, Bool.true_and]; rfl
      rw [hsg]
      by_cases h1 : s[at' + 1]? = some 46
      · by_cases h2 : at' + 2 < s.length
        · have d2 : decide (((at' + 2 : Nat) : Int) < (s.length : Int)) = true := decide_eq_true (by omega)
          simp only [zW, zX, zD, builtinA, isLeaf, const1, Nat.reduceAdd, Nat.reduceMul, Nat.reduceSub, Nat.reduceLT, Nat.reduceLeDiff, Nat.reduceEqDiff, Nat.reduceBEq, Nat.reduceBNe, reduceIte, reduceCtorEq, Int.reduceToNat, Int.reduceLT, Int.reduceLE, Int.reduceEq, Int.reduceNe, Int.reduceNeg, ustrA, ti3, ti9, ca45, ca53, ca54, cf, Try.results43, decide_eq_true h1, w2, w3, d2]
          refine ⟨⟨by omega, by omega, by omega⟩, ?_⟩
          rw [slice1 h2]
          refine callK_intro (by simp only [zW, zX, zD, builtinA, isLeaf, const1, Nat.reduceAdd, Nat.reduceMul, Nat.reduceSub, Nat.reduceLT, Nat.reduceLeDiff, Nat.reduceEqDiff, Nat.reduceBEq, Nat.reduceBNe, reduceIte, reduceCtorEq, Int.reduceToNat, Int.reduceLT, Int.reduceLE, Int.reduceEq, Int.reduceNe, Int.reduceNeg, ustrA, Option.map_some]; rfl) (spec_LocalName _ _) ?_ rfl; rintro v A' ⟨rfl, rfl⟩
          by_cases hn : localB [s.getD (at' + 2) 0] = true
          · rw [hn, if_pos ⟨h1, h2, rfl⟩]
            simp only [zW, zX, zD, builtinA, isLeaf, const1, Nat.reduceAdd, Nat.reduceMul, Nat.reduceSub, Nat.reduceLT, Nat.reduceLeDiff, Nat.reduceEqDiff, Nat.reduceBEq, Nat.reduceBNe, reduceIte, reduceCtorEq, Int.reduceToNat, Int.reduceLT, Int.reduceLE, Int.reduceEq, Int.reduceNe, Int.reduceNeg, ustrA, ti3, ti9, ca45, ca53, ca54, cf, Try.results43, w1, w2, w3]
            refine .inl ⟨by kernel_rfl, by kernel_rfl, ⟨by omega, by omega, by omega⟩, ⟨by omega, by omega, by omega⟩, ?_⟩
            rw [slice1 h, slice1 h2]
            simp [dres]
          · have hn' : localB [s.getD (at' + 2) 0] = false := by simpa using hn
            rw [hn', if_neg (fun h => by simp at h)]
            simp only [zW, zX, zD, builtinA, isLeaf, const1, Nat.reduceAdd, Nat.reduceMul, Nat.reduceSub, Nat.reduceLT, Nat.reduceLeDiff, Nat.reduceEqDiff, Nat.reduceBEq, Nat.reduceBNe, reduceIte, reduceCtorEq, Int.reduceToNat, Int.reduceLT, Int.reduceLE, Int.reduceEq, Int.reduceNe, Int.reduceNeg, ustrA, ti3, ti9, ca45, ca53, ca54, cf, Try.results43]
            simp [dres]
        · have d2 : decide (((at' + 2 : Nat) : Int) < (s.length : Int)) = false := decide_eq_false (by omega)
          rw [if_neg (fun h => h2 h.2.1)]
          simp only [zW, zX, zD, builtinA, isLeaf, const1, Nat.reduceAdd, Nat.reduceMul, Nat.reduceSub, Nat.reduceLT, Nat.reduceLeDiff, Nat.reduceEqDiff, Nat.reduceBEq, Nat.reduceBNe, reduceIte, reduceCtorEq, Int.reduceToNat, Int.reduceLT, Int.reduceLE, Int.reduceEq, Int.reduceNe, Int.reduceNeg, ustrA, ti3, ti9, ca45, ca53, ca54, cf, Try.results43, decide_eq_true h1, w2, w3, d2]
          simp [dres]
      · rw [if_neg (fun h => h1 h.1)]
        simp only [zW, zX, zD, builtinA, isLeaf, const1, Nat.reduceAdd, Nat.reduceMul, Nat.reduceSub, Nat.reduceLT, Nat.reduceLeDiff, Nat.reduceEqDiff, Nat.reduceBEq, Nat.reduceBNe, reduceIte, reduceCtorEq, Int.reduceToNat, Int.reduceLT, Int.reduceLE, Int.reduceEq, Int.reduceNe, Int.reduceNeg, ustrA, ti3, ti9, ca45, ca53, ca54, cf, Try.results43, decide_eq_false h1]
        simp [dres]
    · have hm' : moduleB [s.getD at' 0] = false := by simpa using hm
      rw [hm', if_neg (fun h => by simp at h)]
      simp only [zW, zX, zD, builtinA, isLeaf, const1, Nat.reduceAdd, Nat.reduceMul, Nat.reduceSub, Nat.reduceLT, Nat.reduceLeDiff, Nat.reduceEqDiff, Nat.reduceBEq, Nat.reduceBNe, reduceIte, reduceCtorEq, Int.reduceToNat, Int.reduceLT, Int.reduceLE, Int.reduceEq, Int.reduceNe, Int.reduceNeg, ustrA, ti3, ti9, ca45, ca53, ca54, cf, Try.results43]
      simp [dres]

theorem encC (n : Nat) (t : Ty) : (enc t).all (closed1 n) = true := List.all_eq_true.2 fun x hx => leaf_closed1 (enc_leaf t x hx)
/-- what is handed back: a type and the place behind it -/
def pres' (s : List UInt8) (at' : Nat) : Option (VT × Nat) → AV → Prop
  | some (v, k), r => r = .tuple [.agg (enc (toTy v)), .int .i64 ((at' + k : Nat) : Int)]
  | none, r => ∃ τ, (τ = ty0 ∨ τ = .mk 3 [] [] []) ∧ r = .tuple [.agg (enc τ), .int .i64 (-1)]

def ParseS (d : Nat) : Prop := ∀ (s : List UInt8) (at' : Nat) (A : List Box), s.length ≤ 1100000 → at' ≤ s.length → ACalls Try.prog 26 [.str s, .int .i64 (at' : Int), .int .i64 (d : Int)] A (fun r A' => pres' s at' (pTy d (s.drop at')) r ∧ A' = A)

set_option maxHeartbeats 4000000 in
set_option maxRecDepth 100000 in
theorem spec_l1Parse : ∀ d, d ≤ 8 → ParseS d
  | 0, hd => fun s at' A hs ha => by
    have e0 : decide (((0 : Nat) : Int) < 1) = true := rfl
    refine acalls_enter (cf := cf 83 [0, 1, 2, 6, 7, 8, 9, 10, 11, 12, 13, 14, 26, 31, 38, 62, 76]) foll Try.func26 Try.ntmps26 (by simp [cf]) ?_
    simp only [Try.f26, EnterK_some, zW, zX, zD, builtinA, isLeaf, const1, Nat.reduceAdd, Nat.reduceMul, Nat.reduceSub, Nat.reduceLT, Nat.reduceLeDiff, Nat.reduceEqDiff, Nat.reduceBEq, Nat.reduceBNe, reduceIte, reduceCtorEq, Int.reduceToNat, Int.reduceLT, Int.reduceLE, Int.reduceEq, Int.reduceNe, Int.reduceNeg, ustrA, ti3, ti5, ti9, ti25, ca26, ca42, ca43, ca44, ca45, ca46, cf, Try.results26]
    simp only [zW, zX, zD, builtinA, isLeaf, const1, Nat.reduceAdd, Nat.reduceMul, Nat.reduceSub, Nat.reduceLT, Nat.reduceLeDiff, Nat.reduceEqDiff, Nat.reduceBEq, Nat.reduceBNe, reduceIte, reduceCtorEq, Int.reduceToNat, Int.reduceLT, Int.reduceLE, Int.reduceEq, Int.reduceNe, Int.reduceNeg, ustrA, ti3, ti5, ti9, ti25, ca26, ca42, ca43, ca44, ca45, ca46, cf, Try.results26, e0]
    exact ⟨ty0, .inl rfl, by simp [ty0, enc, encs]⟩
  | d + 1, hd => fun s at' A hs ha => by
    have ih := spec_l1Parse d (by omega)
    have e0 : decide (((d + 1 : Nat) : Int) < 1) = false := decide_eq_false (by omega)
    have e1 : decide ((at' : Int) < 0) = false := decide_eq_false (by omega)
    have w1 : IntKind.i64.wrap ((at' : Int) + 1) = ((at' + 1 : Nat) : Int) := by rw [wrap64 (by omega) (by omega)]; omega
    have wd : IntKind.i64.wrap (((d + 1 : Nat) : Int) - 1) = (d : Int) := by rw [wrap64 (by omega) (by omega)]; omega
    have hz : ∀ x : Option (VT × Nat), x = none → pres' s at' x (AV.tuple [AV.agg [AV.int IntKind.i64 0, AV.str [], AV.str [], AV.slice []], AV.int IntKind.i64 (-1)]) := fun x hx => by
      subst hx
      exact ⟨ty0, .inl rfl, by simp [ty0, enc, encs]⟩
    refine acalls_enter (cf := cf 83 [0, 1, 2, 6, 7, 8, 9, 10, 11, 12, 13, 14, 26, 31, 38, 62, 76]) foll Try.func26 Try.ntmps26 (by simp [cf]) ?_
    simp only [Try.f26, EnterK_some, zW, zX, zD, builtinA, isLeaf, const1, Nat.reduceAdd, Nat.reduceMul, Nat.reduceSub, Nat.reduceLT, Nat.reduceLeDiff, Nat.reduceEqDiff, Nat.reduceBEq, Nat.reduceBNe, reduceIte, reduceCtorEq, Int.reduceToNat, Int.reduceLT, Int.reduceLE, Int.reduceEq, Int.reduceNe, Int.reduceNeg, ustrA, ti3, ti5, ti9, ti25, ca26, ca42, ca43, ca44, ca45, ca46, cf, Try.results26]
    by_cases h : at' < s.length
    · have e2 : decide ((s.length : Int) ≤ (at' : Int)) = false := decide_eq_false (by omega)
      have hdr : s.drop at' = s.getD at' 0 :: s.drop (at' + 1) := by
        have : s.getD at' 0 = s[at'] := by simp [List.getD, h]
        rw [this, List.getElem_cons_drop h]
      simp only [zW, zX, zD, builtinA, isLeaf, const1, Nat.reduceAdd, Nat.reduceMul, Nat.reduceSub, Nat.reduceLT, Nat.reduceLeDiff, Nat.reduceEqDiff, Nat.reduceBEq, Nat.reduceBNe, reduceIte, reduceCtorEq, Int.reduceToNat, Int.reduceLT, Int.reduceLE, Int.reduceEq, Int.reduceNe, Int.reduceNeg, ustrA, ti3, ti5, ti9, ti25, ca26, ca42, ca43, ca44, ca45, ca46, cf, Try.results26, e0, e1, e2]
      refine ⟨⟨by omega, by omega⟩, ?_⟩
      have h73 : decide (((s.getD at' 0).toNat : Int) = 73) = decide (s.getD at' 0 = 73) := u8_eq _ 73
      have h40 : decide (((s.getD at' 0).toNat : Int) = 40) = decide (s.getD at' 0 = 40) := u8_eq _ 40
      rw [h73]
      by_cases c73 : s.getD at' 0 = 73
      · simp only [zW, zX, zD, builtinA, isLeaf, const1, Nat.reduceAdd, Nat.reduceMul, Nat.reduceSub, Nat.reduceLT, Nat.reduceLeDiff, Nat.reduceEqDiff, Nat.reduceBEq, Nat.reduceBNe, reduceIte, reduceCtorEq, Int.reduceToNat, Int.reduceLT, Int.reduceLE, Int.reduceEq, Int.reduceNe, Int.reduceNeg, ustrA, ti3, ti5, ti9, ti25, ca26, ca42, ca43, ca44, ca45, ca46, cf, Try.results26, decide_eq_true c73]
        refine callK_intro (by simp only [zW, zX, zD, builtinA, isLeaf, const1, Nat.reduceAdd, Nat.reduceMul, Nat.reduceSub, Nat.reduceLT, Nat.reduceLeDiff, Nat.reduceEqDiff, Nat.reduceBEq, Nat.reduceBNe, reduceIte, reduceCtorEq, Int.reduceToNat, Int.reduceLT, Int.reduceLE, Int.reduceEq, Int.reduceNe, Int.reduceNeg, ustrA, Option.map_some]; rfl) (pspec_l1Num _) ?_ rfl; rintro v A' ⟨rfl, rfl⟩
        simp only [zW, zX, zD, builtinA, isLeaf, const1, Nat.reduceAdd, Nat.reduceMul, Nat.reduceSub, Nat.reduceLT, Nat.reduceLeDiff, Nat.reduceEqDiff, Nat.reduceBEq, Nat.reduceBNe, reduceIte, reduceCtorEq, Int.reduceToNat, Int.reduceLT, Int.reduceLE, Int.reduceEq, Int.reduceNe, Int.reduceNeg, ustrA, ti3, ti5, ti9, ti25, ca26, ca42, ca43, ca44, ca45, ca46, cf, Try.results26, enc_length, enc_take, frzL_enc, Option.map_some, w1]
        rw [hdr, pTy, if_pos c73]
        exact ⟨encC _ _, rfl⟩
      · simp only [zW, zX, zD, builtinA, isLeaf, const1, Nat.reduceAdd, Nat.reduceMul, Nat.reduceSub, Nat.reduceLT, Nat.reduceLeDiff, Nat.reduceEqDiff, Nat.reduceBEq, Nat.reduceBNe, reduceIte, reduceCtorEq, Int.reduceToNat, Int.reduceLT, Int.reduceLE, Int.reduceEq, Int.reduceNe, Int.reduceNeg, ustrA, ti3, ti5, ti9, ti25, ca26, ca42, ca43, ca44, ca45, ca46, cf, Try.results26, decide_eq_false c73]
        refine ⟨⟨by omega, by omega⟩, ?_⟩
        rw [h40]
        by_cases c40 : s.getD at' 0 = 40
        · simp only [zW, zX, zD, builtinA, isLeaf, const1, Nat.reduceAdd, Nat.reduceMul, Nat.reduceSub, Nat.reduceLT, Nat.reduceLeDiff, Nat.reduceEqDiff, Nat.reduceBEq, Nat.reduceBNe, reduceIte, reduceCtorEq, Int.reduceToNat, Int.reduceLT, Int.reduceLE, Int.reduceEq, Int.reduceNe, Int.reduceNeg, ustrA, ti3, ti5, ti9, ti25, ca26, ca42, ca43, ca44, ca45, ca46, cf, Try.results26, decide_eq_true c40, w1, wd]
          have hp : pTy (d + 1) (s.drop at') = (pFun (pTy d) (s.drop (at' + 1))).map fun x => (x.1, x.2 + 1) := by rw [hdr, pTy, if_neg c73, if_pos c40]
          rw [hp]
          refine callK_intro (by simp only [zW, zX, zD, builtinA, isLeaf, const1, Nat.reduceAdd, Nat.reduceMul, Nat.reduceSub, Nat.reduceLT, Nat.reduceLeDiff, Nat.reduceEqDiff, Nat.reduceBEq, Nat.reduceBNe, reduceIte, reduceCtorEq, Int.reduceToNat, Int.reduceLT, Int.reduceLE, Int.reduceEq, Int.reduceNe, Int.reduceNeg, ustrA, Option.map_some] <;> rfl) (ih s (at' + 1) _ hs (by omega)) ?_ rfl
          rintro r A' ⟨hr, rfl⟩
          cases ha1 : pTy d (s.drop (at' + 1)) with
          | none =>
            rw [ha1] at hr
            obtain ⟨τ, hτ, rfl⟩ := hr
            simp only [zW, zX, zD, builtinA, isLeaf, const1, Nat.reduceAdd, Nat.reduceMul, Nat.reduceSub, Nat.reduceLT, Nat.reduceLeDiff, Nat.reduceEqDiff, Nat.reduceBEq, Nat.reduceBNe, reduceIte, reduceCtorEq, Int.reduceToNat, Int.reduceLT, Int.reduceLE, Int.reduceEq, Int.reduceNe, Int.reduceNeg, ustrA, ti3, ti5, ti9, ti25, ca26, ca42, ca43, ca44, ca45, ca46, cf, Try.results26, enc_length, enc_take, frzL_enc, Option.map_some]
            refine callK_intro (by simp only [zW, zX, zD, builtinA, isLeaf, const1, Nat.reduceAdd, Nat.reduceMul, Nat.reduceSub, Nat.reduceLT, Nat.reduceLeDiff, Nat.reduceEqDiff, Nat.reduceBEq, Nat.reduceBNe, reduceIte, reduceCtorEq, Int.reduceToNat, Int.reduceLT, Int.reduceLE, Int.reduceEq, Int.reduceNe, Int.reduceNeg, ustrA, Option.map_some]; rfl) (spec_l1Sign s (-1) 62 _) ?_ rfl; rintro v A' ⟨rfl, rfl⟩
            have hf : signB s (-1) 62 = false := rfl
            simp only [zW, zX, zD, builtinA, isLeaf, const1, Nat.reduceAdd, Nat.reduceMul, Nat.reduceSub, Nat.reduceLT, Nat.reduceLeDiff, Nat.reduceEqDiff, Nat.reduceBEq, Nat.reduceBNe, reduceIte, reduceCtorEq, Int.reduceToNat, Int.reduceLT, Int.reduceLE, Int.reduceEq, Int.reduceNe, Int.reduceNeg, ustrA, ti3, ti5, ti9, ti25, ca26, ca42, ca43, ca44, ca45, ca46, cf, Try.results26, hf]
            exact hz _ (by simp [pFun, ha1])
          | some x =>
            obtain ⟨a, k⟩ := x
            rw [ha1] at hr
            simp only [pres'] at hr
            subst hr
            obtain ⟨a1, a2, a3, a4, a5⟩ := pTy_sound d ha1
            simp only [List.length_drop] at a2
            simp only [zW, zX, zD, builtinA, isLeaf, const1, Nat.reduceAdd, Nat.reduceMul, Nat.reduceSub, Nat.reduceLT, Nat.reduceLeDiff, Nat.reduceEqDiff, Nat.reduceBEq, Nat.reduceBNe, reduceIte, reduceCtorEq, Int.reduceToNat, Int.reduceLT, Int.reduceLE, Int.reduceEq, Int.reduceNe, Int.reduceNeg, ustrA, ti3, ti5, ti9, ti25, ca26, ca42, ca43, ca44, ca45, ca46, cf, Try.results26, enc_length, enc_take, frzL_enc, Option.map_some]
            refine callK_intro (by simp only [zW, zX, zD, builtinA, isLeaf, const1, Nat.reduceAdd, Nat.reduceMul, Nat.reduceSub, Nat.reduceLT, Nat.reduceLeDiff, Nat.reduceEqDiff, Nat.reduceBEq, Nat.reduceBNe, reduceIte, reduceCtorEq, Int.reduceToNat, Int.reduceLT, Int.reduceLE, Int.reduceEq, Int.reduceNe, Int.reduceNeg, ustrA, Option.map_some]; rfl) (spec_l1Sign s ((at' + 1 + k : Nat) : Int) 62 _) ?_ rfl; rintro v A' ⟨rfl, rfl⟩
            have hsg : signB s ((at' + 1 + k : Nat) : Int) 62 = decide (s[at' + 1 + k]? = some 62) := by
              have : decide ((0 : Int) ≤ ((at' + 1 + k : Nat) : Int)) = true := decide_eq_true (by omega)
              rw [signB, this, Bool.true_and]; rfl
            have hk1 : (s.drop (at' + 1))[k]? = s[at' + 1 + k]? := by simp
            rw [hsg]
            by_cases h1 : s[at' + 1 + k]? = some 62
            · obtain ⟨e1', _⟩ := getE h1
              have w4 : IntKind.i64.wrap (((at' + 1 + k : Nat) : Int) + 1) = ((at' + 1 + k + 1 : Nat) : Int) := by rw [wrap64 (by omega) (by omega)]; omega
              have hdd : (s.drop (at' + 1)).drop (k + 1) = s.drop (at' + 1 + k + 1) := by rw [List.drop_drop]; congr 1
              simp only [zW, zX, zD, builtinA, isLeaf, const1, Nat.reduceAdd, Nat.reduceMul, Nat.reduceSub, Nat.reduceLT, Nat.reduceLeDiff, Nat.reduceEqDiff, Nat.reduceBEq, Nat.reduceBNe, reduceIte, reduceCtorEq, Int.reduceToNat, Int.reduceLT, Int.reduceLE, Int.reduceEq, Int.reduceNe, Int.reduceNeg, ustrA, ti3, ti5, ti9, ti25, ca26, ca42, ca43, ca44, ca45, ca46, cf, Try.results26, decide_eq_true h1, w4, wd]
              refine callK_intro (by simp only [zW, zX, zD, builtinA, isLeaf, const1, Nat.reduceAdd, Nat.reduceMul, Nat.reduceSub, Nat.reduceLT, Nat.reduceLeDiff, Nat.reduceEqDiff, Nat.reduceBEq, Nat.reduceBNe, reduceIte, reduceCtorEq, Int.reduceToNat, Int.reduceLT, Int.reduceLE, Int.reduceEq, Int.reduceNe, Int.reduceNeg, ustrA, Option.map_some] <;> rfl) (ih s (at' + 1 + k + 1) _ hs (by omega)) ?_ rfl
              rintro r A' ⟨hr, rfl⟩
              cases hb1 : pTy d (s.drop (at' + 1 + k + 1)) with
              | none =>
                rw [hb1] at hr
                obtain ⟨τ, hτ, rfl⟩ := hr
                simp only [zW, zX, zD, builtinA, isLeaf, const1, Nat.reduceAdd, Nat.reduceMul, Nat.reduceSub, Nat.reduceLT, Nat.reduceLeDiff, Nat.reduceEqDiff, Nat.reduceBEq, Nat.reduceBNe, reduceIte, reduceCtorEq, Int.reduceToNat, Int.reduceLT, Int.reduceLE, Int.reduceEq, Int.reduceNe, Int.reduceNeg, ustrA, ti3, ti5, ti9, ti25, ca26, ca42, ca43, ca44, ca45, ca46, cf, Try.results26, enc_length, enc_take, frzL_enc, Option.map_some]
                refine callK_intro (by simp only [zW, zX, zD, builtinA, isLeaf, const1, Nat.reduceAdd, Nat.reduceMul, Nat.reduceSub, Nat.reduceLT, Nat.reduceLeDiff, Nat.reduceEqDiff, Nat.reduceBEq, Nat.reduceBNe, reduceIte, reduceCtorEq, Int.reduceToNat, Int.reduceLT, Int.reduceLE, Int.reduceEq, Int.reduceNe, Int.reduceNeg, ustrA, Option.map_some]; rfl) (spec_l1Sign s (-1) 41 _) ?_ rfl; rintro v A' ⟨rfl, rfl⟩
                have hf : signB s (-1) 41 = false := rfl
                simp only [zW, zX, zD, builtinA, isLeaf, const1, Nat.reduceAdd, Nat.reduceMul, Nat.reduceSub, Nat.reduceLT, Nat.reduceLeDiff, Nat.reduceEqDiff, Nat.reduceBEq, Nat.reduceBNe, reduceIte, reduceCtorEq, Int.reduceToNat, Int.reduceLT, Int.reduceLE, Int.reduceEq, Int.reduceNe, Int.reduceNeg, ustrA, ti3, ti5, ti9, ti25, ca26, ca42, ca43, ca44, ca45, ca46, cf, Try.results26, hf]
                exact hz _ (by simp [pFun, ha1, hk1, h1, hdd, hb1])
              | some y =>
                obtain ⟨b, l⟩ := y
                rw [hb1] at hr
                simp only [pres'] at hr
                subst hr
                obtain ⟨b1, b2, b3, b4, b5⟩ := pTy_sound d hb1
                simp only [List.length_drop] at b2
                simp only [zW, zX, zD, builtinA, isLeaf, const1, Nat.reduceAdd, Nat.reduceMul, Nat.reduceSub, Nat.reduceLT, Nat.reduceLeDiff, Nat.reduceEqDiff, Nat.reduceBEq, Nat.reduceBNe, reduceIte, reduceCtorEq, Int.reduceToNat, Int.reduceLT, Int.reduceLE, Int.reduceEq, Int.reduceNe, Int.reduceNeg, ustrA, ti3, ti5, ti9, ti25, ca26, ca42, ca43, ca44, ca45, ca46, cf, Try.results26, enc_length, enc_take, frzL_enc, Option.map_some]
                refine callK_intro (by simp only [zW, zX, zD, builtinA, isLeaf, const1, Nat.reduceAdd, Nat.reduceMul, Nat.reduceSub, Nat.reduceLT, Nat.reduceLeDiff, Nat.reduceEqDiff, Nat.reduceBEq, Nat.reduceBNe, reduceIte, reduceCtorEq, Int.reduceToNat, Int.reduceLT, Int.reduceLE, Int.reduceEq, Int.reduceNe, Int.reduceNeg, ustrA, Option.map_some]; rfl) (spec_l1Sign s ((at' + 1 + k + 1 + l : Nat) : Int) 41 _) ?_ rfl; rintro v A' ⟨rfl, rfl⟩
                have hsg2 : signB s ((at' + 1 + k + 1 + l : Nat) : Int) 41 = decide (s[at' + 1 + k + 1 + l]? = some 41) := by
                  have : decide ((0 : Int) ≤ ((at' + 1 + k + 1 + l : Nat) : Int)) = true := decide_eq_true (by omega)
                  rw [signB, this, Bool.true_and]; rfl
                have hk2 : (s.drop (at' + 1))[k + 1 + l]? = s[at' + 1 + k + 1 + l]? := by rw [List.getElem?_drop, show at' + 1 + (k + 1 + l) = at' + 1 + k + 1 + l by omega]
                rw [hsg2]
                by_cases h2 : s[at' + 1 + k + 1 + l]? = some 41
                · obtain ⟨f1', _⟩ := getE h2
                  have w5 : IntKind.i64.wrap (((at' + 1 + k + 1 + l : Nat) : Int) + 1) = ((at' + 1 + k + 1 + l + 1 : Nat) : Int) := by rw [wrap64 (by omega) (by omega)]; omega
                  have hpf : pFun (pTy d) (s.drop (at' + 1)) = some (.fn a b, k + 1 + l + 1) := by simp [pFun, ha1, hk1, h1, hdd, hb1, hk2, h2]
                  rw [hpf]
                  simp only [zW, zX, zD, builtinA, isLeaf, const1, Nat.reduceAdd, Nat.reduceMul, Nat.reduceSub, Nat.reduceLT, Nat.reduceLeDiff, Nat.reduceEqDiff, Nat.reduceBEq, Nat.reduceBNe, reduceIte, reduceCtorEq, Int.reduceToNat, Int.reduceLT, Int.reduceLE, Int.reduceEq, Int.reduceNe, Int.reduceNeg, ustrA, ti3, ti5, ti9, ti25, ca26, ca42, ca43, ca44, ca45, ca46, cf, Try.results26, decide_eq_true h2, w5, enc_length, enc_take, frzL_enc, Option.map_some]
                  refine callK_intro (by simp only [zW, zX, zD, builtinA, isLeaf, const1, Nat.reduceAdd, Nat.reduceMul, Nat.reduceSub, Nat.reduceLT, Nat.reduceLeDiff, Nat.reduceEqDiff, Nat.reduceBEq, Nat.reduceBNe, reduceIte, reduceCtorEq, Int.reduceToNat, Int.reduceLT, Int.reduceLE, Int.reduceEq, Int.reduceNe, Int.reduceNeg, ustrA, enc_length, enc_take, frzL_enc, Option.map_some]; rfl) (pspec_l1Fun (toTy a) (toTy b) _) ?_ rfl; rintro v A' ⟨rfl, rfl⟩
                  simp only [zW, zX, zD, builtinA, isLeaf, const1, Nat.reduceAdd, Nat.reduceMul, Nat.reduceSub, Nat.reduceLT, Nat.reduceLeDiff, Nat.reduceEqDiff, Nat.reduceBEq, Nat.reduceBNe, reduceIte, reduceCtorEq, Int.reduceToNat, Int.reduceLT, Int.reduceLE, Int.reduceEq, Int.reduceNe, Int.reduceNeg, ustrA, ti3, ti5, ti9, ti25, ca26, ca42, ca43, ca44, ca45, ca46, cf, Try.results26, w5, enc_length, enc_take, frzL_enc, Option.map_some]
                  refine ⟨encC _ _, ?_⟩
                  simp only [Option.map_some, pres', toTy]
                  rw [show at' + (k + 1 + l + 1 + 1) = at' + 1 + k + 1 + l + 1 by omega]
                · simp only [zW, zX, zD, builtinA, isLeaf, const1, Nat.reduceAdd, Nat.reduceMul, Nat.reduceSub, Nat.reduceLT, Nat.reduceLeDiff, Nat.reduceEqDiff, Nat.reduceBEq, Nat.reduceBNe, reduceIte, reduceCtorEq, Int.reduceToNat, Int.reduceLT, Int.reduceLE, Int.reduceEq, Int.reduceNe, Int.reduceNeg, ustrA, ti3, ti5, ti9, ti25, ca26, ca42, ca43, ca44, ca45, ca46, cf, Try.results26, decide_eq_false h2]
                  exact hz _ (by simp [pFun, ha1, hk1, h1, hdd, hb1, hk2, h2])
            · simp only [zW, zX, zD, builtinA, isLeaf, const1, Nat.reduceAdd, Nat.reduceMul, Nat.reduceSub, Nat.reduceLT, Nat.reduceLeDiff, Nat.reduceEqDiff, Nat.reduceBEq, Nat.reduceBNe, reduceIte, reduceCtorEq, Int.reduceToNat, Int.reduceLT, Int.reduceLE, Int.reduceEq, Int.reduceNe, Int.reduceNeg, ustrA, ti3, ti5, ti9, ti25, ca26, ca42, ca43, ca44, ca45, ca46, cf, Try.results26, decide_eq_false h1]
              exact hz _ (by simp [pFun, ha1, hk1, h1])
        · simp only [zW, zX, zD, builtinA, isLeaf, const1, Nat.reduceAdd, Nat.reduceMul, Nat.reduceSub, Nat.reduceLT, Nat.reduceLeDiff, Nat.reduceEqDiff, Nat.reduceBEq, Nat.reduceBNe, reduceIte, reduceCtorEq, Int.reduceToNat, Int.reduceLT, Int.reduceLE, Int.reduceEq, Int.reduceNe, Int.reduceNeg, ustrA, ti3, ti5, ti9, ti25, ca26, ca42, ca43, ca44, ca45, ca46, cf, Try.results26, decide_eq_false c40]
          have hp : pTy (d + 1) (s.drop at') = pName (s.drop at') := by rw [hdr, pTy, if_neg c73, if_neg c40]
          rw [hp]
          refine callK_intro (by simp only [zW, zX, zD, builtinA, isLeaf, const1, Nat.reduceAdd, Nat.reduceMul, Nat.reduceSub, Nat.reduceLT, Nat.reduceLeDiff, Nat.reduceEqDiff, Nat.reduceBEq, Nat.reduceBNe, reduceIte, reduceCtorEq, Int.reduceToNat, Int.reduceLT, Int.reduceLE, Int.reduceEq, Int.reduceNe, Int.reduceNeg, ustrA, Option.map_some] <;> rfl) (spec_l1Dotted s hs at' h _) ?_ rfl
          rintro r A' ⟨hr, rfl⟩
          cases hn : pName (s.drop at') with
          | none =>
            rw [hn] at hr
            simp only [dres] at hr
            subst hr
            simp only [zW, zX, zD, builtinA, isLeaf, const1, Nat.reduceAdd, Nat.reduceMul, Nat.reduceSub, Nat.reduceLT, Nat.reduceLeDiff, Nat.reduceEqDiff, Nat.reduceBEq, Nat.reduceBNe, reduceIte, reduceCtorEq, Int.reduceToNat, Int.reduceLT, Int.reduceLE, Int.reduceEq, Int.reduceNe, Int.reduceNeg, ustrA, ti3, ti5, ti9, ti25, ca26, ca42, ca43, ca44, ca45, ca46, cf, Try.results26]
            refine callK_intro (by simp only [zW, zX, zD, builtinA, isLeaf, const1, Nat.reduceAdd, Nat.reduceMul, Nat.reduceSub, Nat.reduceLT, Nat.reduceLeDiff, Nat.reduceEqDiff, Nat.reduceBEq, Nat.reduceBNe, reduceIte, reduceCtorEq, Int.reduceToNat, Int.reduceLT, Int.reduceLE, Int.reduceEq, Int.reduceNe, Int.reduceNeg, ustrA, Option.map_some]; rfl) (pspec_l1Name [] [] _) ?_ rfl; rintro v A' ⟨rfl, rfl⟩
            simp only [zW, zX, zD, builtinA, isLeaf, const1, Nat.reduceAdd, Nat.reduceMul, Nat.reduceSub, Nat.reduceLT, Nat.reduceLeDiff, Nat.reduceEqDiff, Nat.reduceBEq, Nat.reduceBNe, reduceIte, reduceCtorEq, Int.reduceToNat, Int.reduceLT, Int.reduceLE, Int.reduceEq, Int.reduceNe, Int.reduceNeg, ustrA, ti3, ti5, ti9, ti25, ca26, ca42, ca43, ca44, ca45, ca46, cf, Try.results26, enc_length, enc_take, frzL_enc, Option.map_some]
            exact ⟨encC _ _, _, .inr rfl, rfl⟩
          | some x =>
            obtain ⟨v, k⟩ := x
            rw [hn] at hr
            cases v with
            | num => exact hr.elim
            | fn => exact hr.elim
            | nm m n =>
              simp only [dres] at hr
              subst hr
              simp only [zW, zX, zD, builtinA, isLeaf, const1, Nat.reduceAdd, Nat.reduceMul, Nat.reduceSub, Nat.reduceLT, Nat.reduceLeDiff, Nat.reduceEqDiff, Nat.reduceBEq, Nat.reduceBNe, reduceIte, reduceCtorEq, Int.reduceToNat, Int.reduceLT, Int.reduceLE, Int.reduceEq, Int.reduceNe, Int.reduceNeg, ustrA, ti3, ti5, ti9, ti25, ca26, ca42, ca43, ca44, ca45, ca46, cf, Try.results26]
              refine callK_intro (by simp only [zW, zX, zD, builtinA, isLeaf, const1, Nat.reduceAdd, Nat.reduceMul, Nat.reduceSub, Nat.reduceLT, Nat.reduceLeDiff, Nat.reduceEqDiff, Nat.reduceBEq, Nat.reduceBNe, reduceIte, reduceCtorEq, Int.reduceToNat, Int.reduceLT, Int.reduceLE, Int.reduceEq, Int.reduceNe, Int.reduceNeg, ustrA, Option.map_some]; rfl) (pspec_l1Name m n _) ?_ rfl; rintro v A' ⟨rfl, rfl⟩
              simp only [zW, zX, zD, builtinA, isLeaf, const1, Nat.reduceAdd, Nat.reduceMul, Nat.reduceSub, Nat.reduceLT, Nat.reduceLeDiff, Nat.reduceEqDiff, Nat.reduceBEq, Nat.reduceBNe, reduceIte, reduceCtorEq, Int.reduceToNat, Int.reduceLT, Int.reduceLE, Int.reduceEq, Int.reduceNe, Int.reduceNeg, ustrA, ti3, ti5, ti9, ti25, ca26, ca42, ca43, ca44, ca45, ca46, cf, Try.results26, enc_length, enc_take, frzL_enc, Option.map_some]
              exact ⟨encC _ _, rfl⟩
    · have e2 : decide ((s.length : Int) ≤ (at' : Int)) = true := decide_eq_true (by omega)
      have hdr : s.drop at' = [] := by simp; omega
      simp only [zW, zX, zD, builtinA, isLeaf, const1, Nat.reduceAdd, Nat.reduceMul, Nat.reduceSub, Nat.reduceLT, Nat.reduceLeDiff, Nat.reduceEqDiff, Nat.reduceBEq, Nat.reduceBNe, reduceIte, reduceCtorEq, Int.reduceToNat, Int.reduceLT, Int.reduceLE, Int.reduceEq, Int.reduceNe, Int.reduceNeg, ustrA, ti3, ti5, ti9, ti25, ca26, ca42, ca43, ca44, ca45, ca46, cf, Try.results26, e0, e1, e2]
      exact hz _ (by rw [hdr, pTy])

end Go.Proofs.Ytfcfijgajpbpcaa
