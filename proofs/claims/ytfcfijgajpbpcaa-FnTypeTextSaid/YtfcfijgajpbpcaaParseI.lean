/- The program's own reading of types. -/
import Derived.Test.YtfcfijgajpbpcaaParseP
import Derived.Test.YtfcfijgajpbpcaaOwnPlain
set_option linter.unusedVariables false
set_option linter.unusedSimpArgs false
namespace Go.Proofs.Ytfcfijgajpbpcaa
open Go.Abs

set_option maxRecDepth 100000 in
theorem lite_HasPrefix (s : List UInt8) (x : UInt8) (A : List Box) : ACalls Try.prog 56 [.str s, .str [x]] A (fun r A' => r = .bool (decide (s[0]? = some x)) ∧ A' = A) := by
  refine acalls_enter (cf := cf 18 [0, 1, 4]) foll Try.func56 Try.ntmps56 (by simp [cf]) ?_
  simp only [Try.f56, EnterK_some, zW, zX, zD, builtinA, isLeaf, const1, Nat.reduceAdd, Nat.reduceMul, Nat.reduceSub, Nat.reduceLT, Nat.reduceLeDiff, Nat.reduceEqDiff, Nat.reduceBEq, Nat.reduceBNe, reduceIte, reduceCtorEq, Int.reduceToNat, Int.reduceLT, Int.reduceLE, Int.reduceEq, Int.reduceNe, Int.reduceNeg, ustrA, ti3, ti9, cf, Try.results56]
  cases s with
  | nil =>
    have h : decide (((1 : Nat) : Int) ≤ ((0 : Nat) : Int)) = false := rfl
    simp only [zW, zX, zD, builtinA, isLeaf, const1, Nat.reduceAdd, Nat.reduceMul, Nat.reduceSub, Nat.reduceLT, Nat.reduceLeDiff, Nat.reduceEqDiff, Nat.reduceBEq, Nat.reduceBNe, reduceIte, reduceCtorEq, Int.reduceToNat, Int.reduceLT, Int.reduceLE, Int.reduceEq, Int.reduceNe, Int.reduceNeg, ustrA, ti3, ti9, cf, Try.results56, h]
    try simp
  | cons c s =>
    have h : decide (((1 : Nat) : Int) ≤ ((s.length + 1 : Nat) : Int)) = true := decide_eq_true (by omega)
    simp only [zW, zX, zD, builtinA, isLeaf, const1, Nat.reduceAdd, Nat.reduceMul, Nat.reduceSub, Nat.reduceLT, Nat.reduceLeDiff, Nat.reduceEqDiff, Nat.reduceBEq, Nat.reduceBNe, reduceIte, reduceCtorEq, Int.reduceToNat, Int.reduceLT, Int.reduceLE, Int.reduceEq, Int.reduceNe, Int.reduceNeg, ustrA, ti3, ti9, cf, Try.results56, h]
    simp
    omega
set_option maxRecDepth 100000 in
theorem str_HasPrefix (s : List UInt8) (x : UInt8) (A : List Box) : ACalls Try.prog 50 [.str s, .str [x]] A (fun r A' => r = .bool (decide (s[0]? = some x)) ∧ A' = A) := by
  refine acalls_enter (cf := cf 8 [0, 1, 4]) foll Try.func50 Try.ntmps50 (by simp [cf]) ?_
  simp only [Try.f50, EnterK_some, zW, zX, zD, builtinA, isLeaf, const1, Nat.reduceAdd, Nat.reduceMul, Nat.reduceSub, Nat.reduceLT, Nat.reduceLeDiff, Nat.reduceEqDiff, Nat.reduceBEq, Nat.reduceBNe, reduceIte, reduceCtorEq, Int.reduceToNat, Int.reduceLT, Int.reduceLE, Int.reduceEq, Int.reduceNe, Int.reduceNeg, ustrA, ca56, cf, Try.results50]
  refine callK_intro (by simp only [zW, zX, zD, builtinA, isLeaf, const1, Nat.reduceAdd, Nat.reduceMul, Nat.reduceSub, Nat.reduceLT, Nat.reduceLeDiff, Nat.reduceEqDiff, Nat.reduceBEq, Nat.reduceBNe, reduceIte, reduceCtorEq, Int.reduceToNat, Int.reduceLT, Int.reduceLE, Int.reduceEq, Int.reduceNe, Int.reduceNeg, ustrA]; rfl) (lite_HasPrefix s x _) ?_ rfl; rintro v A' ⟨rfl, rfl⟩
  simp only [zW, zX, zD, builtinA, isLeaf, const1, Nat.reduceAdd, Nat.reduceMul, Nat.reduceSub, Nat.reduceLT, Nat.reduceLeDiff, Nat.reduceEqDiff, Nat.reduceBEq, Nat.reduceBNe, reduceIte, reduceCtorEq, Int.reduceToNat, Int.reduceLT, Int.reduceLE, Int.reduceEq, Int.reduceNe, Int.reduceNeg, ustrA, ca56, cf, Try.results50]

def pres (s : List UInt8) : Option (VT × Nat) → AV
  | some (v, k) => .tuple [.iface (vT v) (vX v), .str (s.drop k), .bool true]
  | none => .tuple [.nili, .str [], .bool false]

def I0 (A : List Box) : Prop := True ∧ True
/-- what reading a name answers -/
def presN (s : List UInt8) : Option (VT × Nat) → AV
  | some (v, k) => .tuple [vX v, .str (s.drop k), .bool true]
  | none => .tuple [.agg [.str [], .str []], .str [], .bool false]

set_option maxRecDepth 100000 in
theorem impl_parseName (c : UInt8) (s : List UInt8) (hl : s.length ≤ 1100000) (A : List Box) : ACalls Try.prog 31 [.str (c :: s)] A (fun r A' => r = presN (c :: s) (pName (c :: s)) ∧ A' = A) := by
  have h1 : (1 : Int) ≤ ((s.length + 1 : Nat) : Int) := by omega
  refine acalls_enter (cf := cf 37 [0, 2, 3, 4, 5, 12, 16, 29]) foll Try.func31 Try.ntmps31 (by simp [cf]) ?_
  simp only [Try.f31, EnterK_some, zW, zX, zD, builtinA, isLeaf, const1, Nat.reduceAdd, Nat.reduceMul, Nat.reduceSub, Nat.reduceLT, Nat.reduceLeDiff, Nat.reduceEqDiff, Nat.reduceBEq, Nat.reduceBNe, reduceIte, reduceCtorEq, Int.reduceToNat, Int.reduceLT, Int.reduceLE, Int.reduceEq, Int.reduceNe, Int.reduceNeg, ustrA, ti9, ti70, ca50, ca51, ca52, cf, Try.results31]
  refine ⟨h1, ?_⟩
  refine callK_intro (by simp only [zW, zX, zD, builtinA, isLeaf, const1, Nat.reduceAdd, Nat.reduceMul, Nat.reduceSub, Nat.reduceLT, Nat.reduceLeDiff, Nat.reduceEqDiff, Nat.reduceBEq, Nat.reduceBNe, reduceIte, reduceCtorEq, Int.reduceToNat, Int.reduceLT, Int.reduceLE, Int.reduceEq, Int.reduceNe, Int.reduceNeg, ustrA, Option.map_some]; rfl) (impl_ModuleName [c] _) ?_ rfl; rintro v A' ⟨rfl, rfl⟩
  cases hm : moduleB [c] with
  | true =>
    simp only [zW, zX, zD, builtinA, isLeaf, const1, Nat.reduceAdd, Nat.reduceMul, Nat.reduceSub, Nat.reduceLT, Nat.reduceLeDiff, Nat.reduceEqDiff, Nat.reduceBEq, Nat.reduceBNe, reduceIte, reduceCtorEq, Int.reduceToNat, Int.reduceLT, Int.reduceLE, Int.reduceEq, Int.reduceNe, Int.reduceNeg, ustrA, ti9, ti70, ca50, ca51, ca52, cf, Try.results31]
    refine ⟨⟨h1, by omega⟩, ?_⟩
    refine callK_intro (by simp only [zW, zX, zD, builtinA, isLeaf, const1, Nat.reduceAdd, Nat.reduceMul, Nat.reduceSub, Nat.reduceLT, Nat.reduceLeDiff, Nat.reduceEqDiff, Nat.reduceBEq, Nat.reduceBNe, reduceIte, reduceCtorEq, Int.reduceToNat, Int.reduceLT, Int.reduceLE, Int.reduceEq, Int.reduceNe, Int.reduceNeg, ustrA, Option.map_some]; rfl) (str_HasPrefix s 46 _) ?_ rfl; rintro v A' ⟨rfl, rfl⟩
    match s, hl with
    | [], _ =>
      simp only [zW, zX, zD, builtinA, isLeaf, const1, Nat.reduceAdd, Nat.reduceMul, Nat.reduceSub, Nat.reduceLT, Nat.reduceLeDiff, Nat.reduceEqDiff, Nat.reduceBEq, Nat.reduceBNe, reduceIte, reduceCtorEq, Int.reduceToNat, Int.reduceLT, Int.reduceLE, Int.reduceEq, Int.reduceNe, Int.reduceNeg, ustrA, ti9, ti70, ca50, ca51, ca52, cf, Try.results31]
      simp [pName, hm, presN]
    | [e], _ =>
      by_cases he : e = 46
      · subst he
        have hd : decide (([46] : List UInt8)[0]? = some 46) = true := rfl
        simp only [zW, zX, zD, builtinA, isLeaf, const1, Nat.reduceAdd, Nat.reduceMul, Nat.reduceSub, Nat.reduceLT, Nat.reduceLeDiff, Nat.reduceEqDiff, Nat.reduceBEq, Nat.reduceBNe, reduceIte, reduceCtorEq, Int.reduceToNat, Int.reduceLT, Int.reduceLE, Int.reduceEq, Int.reduceNe, Int.reduceNeg, ustrA, ti9, ti70, ca50, ca51, ca52, cf, Try.results31, hd]
        refine .inl ⟨by kernel_rfl, by kernel_rfl, by decide, by decide, ?_⟩
        simp [pName, hm, presN]
      · have hd : decide (([e] : List UInt8)[0]? = some 46) = false := by simp [he]
        rw [hd]
        simp only [zW, zX, zD, builtinA, isLeaf, const1, Nat.reduceAdd, Nat.reduceMul, Nat.reduceSub, Nat.reduceLT, Nat.reduceLeDiff, Nat.reduceEqDiff, Nat.reduceBEq, Nat.reduceBNe, reduceIte, reduceCtorEq, Int.reduceToNat, Int.reduceLT, Int.reduceLE, Int.reduceEq, Int.reduceNe, Int.reduceNeg, ustrA, ti9, ti70, ca50, ca51, ca52, cf, Try.results31]
        simp [pName, hm, presN]
    | e :: d :: s, hl =>
      by_cases he : e = 46
      · subst he
        have hd : decide ((46 :: d :: s)[0]? = some (46 : UInt8)) = true := rfl
        simp only [zW, zX, zD, builtinA, isLeaf, const1, Nat.reduceAdd, Nat.reduceMul, Nat.reduceSub, Nat.reduceLT, Nat.reduceLeDiff, Nat.reduceEqDiff, Nat.reduceBEq, Nat.reduceBNe, reduceIte, reduceCtorEq, Int.reduceToNat, Int.reduceLT, Int.reduceLE, Int.reduceEq, Int.reduceNe, Int.reduceNeg, ustrA, ti9, ti70, ca50, ca51, ca52, cf, Try.results31, hd]
        refine .inl ⟨by kernel_rfl, by kernel_rfl, by omega, by omega, by omega, ?_⟩
        refine callK_intro (by simp only [zW, zX, zD, builtinA, isLeaf, const1, Nat.reduceAdd, Nat.reduceMul, Nat.reduceSub, Nat.reduceLT, Nat.reduceLeDiff, Nat.reduceEqDiff, Nat.reduceBEq, Nat.reduceBNe, reduceIte, reduceCtorEq, Int.reduceToNat, Int.reduceLT, Int.reduceLE, Int.reduceEq, Int.reduceNe, Int.reduceNeg, ustrA, Option.map_some]; rfl) (impl_LocalName [d] _) ?_ rfl; rintro v A' ⟨rfl, rfl⟩
        cases hn : localB [d] with
        | true =>
          simp only [zW, zX, zD, builtinA, isLeaf, const1, Nat.reduceAdd, Nat.reduceMul, Nat.reduceSub, Nat.reduceLT, Nat.reduceLeDiff, Nat.reduceEqDiff, Nat.reduceBEq, Nat.reduceBNe, reduceIte, reduceCtorEq, Int.reduceToNat, Int.reduceLT, Int.reduceLE, Int.reduceEq, Int.reduceNe, Int.reduceNeg, ustrA, ti9, ti70, ca50, ca51, ca52, cf, Try.results31]
          refine .inr (drawI_intro (.pur 0 (.pur 1 (.pur 2 (.pur 3 (.pur 4 (.pur 5 (.or 6 (.pur 7 (.pur 8 .done)) .stop))))))) (I0) (by kernel_rfl) ?_ ?_)
          · exact ⟨trivial, trivial⟩
          iterate 6 (refine wpI_pur_intro (v := ?_) _ rfl rfl (by decide) rfl (fun A' hI => ?_) ?_; rotate_left 1; (simp only [zW, zX, zD, builtinA, isLeaf, const1, Nat.reduceAdd, Nat.reduceMul, Nat.reduceSub, Nat.reduceLT, Nat.reduceLeDiff, Nat.reduceEqDiff, Nat.reduceBEq, Nat.reduceBNe, reduceIte, reduceCtorEq, Int.reduceToNat, Int.reduceLT, Int.reduceLE, Int.reduceEq, Int.reduceNe, Int.reduceNeg, ustrA, ti9, ti70, ca50, ca51, ca52, cf, Try.results31, hI.1, hI.2]; first | exact rfl | exact ⟨rfl, rfl⟩ | (refine ⟨by omega, ?_⟩; exact rfl) | (refine ⟨⟨by omega, by omega⟩, ?_⟩; exact rfl)))
          simp only [zW, zX, zD, builtinA, isLeaf, const1, Nat.reduceAdd, Nat.reduceMul, Nat.reduceSub, Nat.reduceLT, Nat.reduceLeDiff, Nat.reduceEqDiff, Nat.reduceBEq, Nat.reduceBNe, reduceIte, reduceCtorEq, Int.reduceToNat, Int.reduceLT, Int.reduceLE, Int.reduceEq, Int.reduceNe, Int.reduceNeg, ustrA, ti9, ti70, ca50, ca51, ca52, cf, Try.results31, wpI_or_eq, wpI_stop_eq, wpI_done_eq]
          refine ⟨⟨trivial, trivial⟩, ?_⟩
          iterate 2 (refine wpI_pur_intro (v := ?_) _ rfl rfl (by decide) rfl (fun A' hI => ?_) ?_; rotate_left 1; (simp only [zW, zX, zD, builtinA, isLeaf, const1, Nat.reduceAdd, Nat.reduceMul, Nat.reduceSub, Nat.reduceLT, Nat.reduceLeDiff, Nat.reduceEqDiff, Nat.reduceBEq, Nat.reduceBNe, reduceIte, reduceCtorEq, Int.reduceToNat, Int.reduceLT, Int.reduceLE, Int.reduceEq, Int.reduceNe, Int.reduceNeg, ustrA, ti9, ti70, ca50, ca51, ca52, cf, Try.results31, hI.1, hI.2]; first | exact rfl | exact ⟨rfl, rfl⟩ | (refine ⟨by omega, ?_⟩; exact rfl) | (refine ⟨⟨by omega, by omega⟩, ?_⟩; exact rfl)))
          simp only [zW, zX, zD, builtinA, isLeaf, const1, Nat.reduceAdd, Nat.reduceMul, Nat.reduceSub, Nat.reduceLT, Nat.reduceLeDiff, Nat.reduceEqDiff, Nat.reduceBEq, Nat.reduceBNe, reduceIte, reduceCtorEq, Int.reduceToNat, Int.reduceLT, Int.reduceLE, Int.reduceEq, Int.reduceNe, Int.reduceNeg, ustrA, ti9, ti70, ca50, ca51, ca52, cf, Try.results31, wpI_done_eq]
          simp [pName, hm, hn, presN, vT, vX]
          try omega
        | false =>
          simp only [zW, zX, zD, builtinA, isLeaf, const1, Nat.reduceAdd, Nat.reduceMul, Nat.reduceSub, Nat.reduceLT, Nat.reduceLeDiff, Nat.reduceEqDiff, Nat.reduceBEq, Nat.reduceBNe, reduceIte, reduceCtorEq, Int.reduceToNat, Int.reduceLT, Int.reduceLE, Int.reduceEq, Int.reduceNe, Int.reduceNeg, ustrA, ti9, ti70, ca50, ca51, ca52, cf, Try.results31]
          simp [pName, hm, hn, presN]
      · have hd : decide ((e :: d :: s)[0]? = some (46 : UInt8)) = false := by simp [he]
        rw [hd]
        simp only [zW, zX, zD, builtinA, isLeaf, const1, Nat.reduceAdd, Nat.reduceMul, Nat.reduceSub, Nat.reduceLT, Nat.reduceLeDiff, Nat.reduceEqDiff, Nat.reduceBEq, Nat.reduceBNe, reduceIte, reduceCtorEq, Int.reduceToNat, Int.reduceLT, Int.reduceLE, Int.reduceEq, Int.reduceNe, Int.reduceNeg, ustrA, ti9, ti70, ca50, ca51, ca52, cf, Try.results31]
        simp [pName, hm, presN, he]
  | false =>
    simp only [zW, zX, zD, builtinA, isLeaf, const1, Nat.reduceAdd, Nat.reduceMul, Nat.reduceSub, Nat.reduceLT, Nat.reduceLeDiff, Nat.reduceEqDiff, Nat.reduceBEq, Nat.reduceBNe, reduceIte, reduceCtorEq, Int.reduceToNat, Int.reduceLT, Int.reduceLE, Int.reduceEq, Int.reduceNe, Int.reduceNeg, ustrA, ti9, ti70, ca50, ca51, ca52, cf, Try.results31]
    refine ⟨h1, ?_⟩
    refine callK_intro (by simp only [zW, zX, zD, builtinA, isLeaf, const1, Nat.reduceAdd, Nat.reduceMul, Nat.reduceSub, Nat.reduceLT, Nat.reduceLeDiff, Nat.reduceEqDiff, Nat.reduceBEq, Nat.reduceBNe, reduceIte, reduceCtorEq, Int.reduceToNat, Int.reduceLT, Int.reduceLE, Int.reduceEq, Int.reduceNe, Int.reduceNeg, ustrA, Option.map_some]; rfl) (impl_LocalName [c] _) ?_ rfl; rintro v A' ⟨rfl, rfl⟩
    cases hn : localB [c] with
    | true =>
      simp only [zW, zX, zD, builtinA, isLeaf, const1, Nat.reduceAdd, Nat.reduceMul, Nat.reduceSub, Nat.reduceLT, Nat.reduceLeDiff, Nat.reduceEqDiff, Nat.reduceBEq, Nat.reduceBNe, reduceIte, reduceCtorEq, Int.reduceToNat, Int.reduceLT, Int.reduceLE, Int.reduceEq, Int.reduceNe, Int.reduceNeg, ustrA, ti9, ti70, ca50, ca51, ca52, cf, Try.results31]
      refine .inr (drawI_intro (.pur 0 (.pur 1 (.pur 2 (.pur 3 (.pur 4 (.pur 5 (.or 6 (.pur 7 (.pur 8 .done)) .stop))))))) (I0) (by kernel_rfl) ?_ ?_)
      · exact ⟨trivial, trivial⟩
      iterate 6 (refine wpI_pur_intro (v := ?_) _ rfl rfl (by decide) rfl (fun A' hI => ?_) ?_; rotate_left 1; (simp only [zW, zX, zD, builtinA, isLeaf, const1, Nat.reduceAdd, Nat.reduceMul, Nat.reduceSub, Nat.reduceLT, Nat.reduceLeDiff, Nat.reduceEqDiff, Nat.reduceBEq, Nat.reduceBNe, reduceIte, reduceCtorEq, Int.reduceToNat, Int.reduceLT, Int.reduceLE, Int.reduceEq, Int.reduceNe, Int.reduceNeg, ustrA, ti9, ti70, ca50, ca51, ca52, cf, Try.results31, hI.1, hI.2]; first | exact rfl | exact ⟨rfl, rfl⟩ | (refine ⟨by omega, ?_⟩; exact rfl) | (refine ⟨⟨by omega, by omega⟩, ?_⟩; exact rfl)))
      simp only [zW, zX, zD, builtinA, isLeaf, const1, Nat.reduceAdd, Nat.reduceMul, Nat.reduceSub, Nat.reduceLT, Nat.reduceLeDiff, Nat.reduceEqDiff, Nat.reduceBEq, Nat.reduceBNe, reduceIte, reduceCtorEq, Int.reduceToNat, Int.reduceLT, Int.reduceLE, Int.reduceEq, Int.reduceNe, Int.reduceNeg, ustrA, ti9, ti70, ca50, ca51, ca52, cf, Try.results31, wpI_or_eq, wpI_stop_eq, wpI_done_eq]
      refine ⟨⟨trivial, trivial⟩, ?_⟩
      iterate 2 (refine wpI_pur_intro (v := ?_) _ rfl rfl (by decide) rfl (fun A' hI => ?_) ?_; rotate_left 1; (simp only [zW, zX, zD, builtinA, isLeaf, const1, Nat.reduceAdd, Nat.reduceMul, Nat.reduceSub, Nat.reduceLT, Nat.reduceLeDiff, Nat.reduceEqDiff, Nat.reduceBEq, Nat.reduceBNe, reduceIte, reduceCtorEq, Int.reduceToNat, Int.reduceLT, Int.reduceLE, Int.reduceEq, Int.reduceNe, Int.reduceNeg, ustrA, ti9, ti70, ca50, ca51, ca52, cf, Try.results31, hI.1, hI.2]; first | exact rfl | exact ⟨rfl, rfl⟩ | (refine ⟨by omega, ?_⟩; exact rfl) | (refine ⟨⟨by omega, by omega⟩, ?_⟩; exact rfl)))
      simp only [zW, zX, zD, builtinA, isLeaf, const1, Nat.reduceAdd, Nat.reduceMul, Nat.reduceSub, Nat.reduceLT, Nat.reduceLeDiff, Nat.reduceEqDiff, Nat.reduceBEq, Nat.reduceBNe, reduceIte, reduceCtorEq, Int.reduceToNat, Int.reduceLT, Int.reduceLE, Int.reduceEq, Int.reduceNe, Int.reduceNeg, ustrA, ti9, ti70, ca50, ca51, ca52, cf, Try.results31, wpI_done_eq]
      simp [pName, hm, hn, presN, vT, vX]
      try omega
    | false =>
      simp only [zW, zX, zD, builtinA, isLeaf, const1, Nat.reduceAdd, Nat.reduceMul, Nat.reduceSub, Nat.reduceLT, Nat.reduceLeDiff, Nat.reduceEqDiff, Nat.reduceBEq, Nat.reduceBNe, reduceIte, reduceCtorEq, Int.reduceToNat, Int.reduceLT, Int.reduceLE, Int.reduceEq, Int.reduceNe, Int.reduceNeg, ustrA, ti9, ti70, ca50, ca51, ca52, cf, Try.results31]
      simp [pName, hm, hn, presN]

/-- what reading a type answers -/
def PresR (s : List UInt8) (o : Option (VT × Nat)) (r : AV) : Prop := match o with
  | some x => r = pres s (some x)
  | none => r = .tuple [.nili, .str [], .bool false] ∨ r = .tuple [.iface (vT (.nm [] [])) (.agg [.str [], .str []]), .str [], .bool false]
theorem pName_nm {s : List UInt8} {v : VT} {k : Nat} (h : pName s = some (v, k)) : ∃ m n, v = .nm m n := by
  unfold pName at h
  repeat' split at h
  all_goals first | (cases h; exact ⟨_, _, rfl⟩) | cases h
def ParseT (d : Nat) : Prop := ∀ (s : List UInt8) (A : List Box), s.length ≤ 1100000 → ACalls Try.prog 16 [.str s, .int .i64 ((9 : Int) - d)] A (fun r A' => PresR s (pTy d s) r ∧ A' = A)

set_option maxRecDepth 100000 in
theorem impl_parseFun (d : Nat) (hd : d < 8) (ih : ParseT d) (s : List UInt8) (hl : s.length ≤ 1100000) (A : List Box) : ACalls Try.prog 30 [.str s, .int .i64 ((9 : Int) - (d + 1 : Nat))] A (fun r A' => PresR s (pFun (pTy d) s) r ∧ A' = A) := by
  have hw : IntKind.i64.wrap ((9 : Int) - (d + 1 : Nat) + 1) = 9 - d := by rw [wrap64 (by omega) (by omega)]; omega
  refine acalls_enter (cf := cf 48 [0, 1, 4, 5, 6, 7, 8, 9, 10, 25, 41]) foll Try.func30 Try.ntmps30 (by simp [cf]) ?_
  simp only [Try.f30, EnterK_some, zW, zX, zD, builtinA, isLeaf, const1, Nat.reduceAdd, Nat.reduceMul, Nat.reduceSub, Nat.reduceLT, Nat.reduceLeDiff, Nat.reduceEqDiff, Nat.reduceBEq, Nat.reduceBNe, reduceIte, reduceCtorEq, Int.reduceToNat, Int.reduceLT, Int.reduceLE, Int.reduceEq, Int.reduceNe, Int.reduceNeg, ustrA, ti3, ti9, ti95, ca16, ca50, cf, Try.results30]
  rw [hw]
  refine callO_intro (ih s _ hl) ?_
  rintro r A' ⟨hr, rfl⟩
  cases ha : pTy d s with
  | none =>
    rw [ha] at hr
    rcases hr with rfl | rfl
    · simp only [zW, zX, zD, builtinA, isLeaf, const1, Nat.reduceAdd, Nat.reduceMul, Nat.reduceSub, Nat.reduceLT, Nat.reduceLeDiff, Nat.reduceEqDiff, Nat.reduceBEq, Nat.reduceBNe, reduceIte, reduceCtorEq, Int.reduceToNat, Int.reduceLT, Int.reduceLE, Int.reduceEq, Int.reduceNe, Int.reduceNeg, ustrA, ti3, ti9, ti95, ca16, ca50, cf, Try.results30]
      simp [pFun, ha, PresR]
    · simp only [zW, zX, zD, builtinA, isLeaf, const1, Nat.reduceAdd, Nat.reduceMul, Nat.reduceSub, Nat.reduceLT, Nat.reduceLeDiff, Nat.reduceEqDiff, Nat.reduceBEq, Nat.reduceBNe, reduceIte, reduceCtorEq, Int.reduceToNat, Int.reduceLT, Int.reduceLE, Int.reduceEq, Int.reduceNe, Int.reduceNeg, ustrA, ti3, ti9, ti95, ca16, ca50, cf, Try.results30]
      simp [pFun, ha, PresR]
  | some x =>
    obtain ⟨a, k⟩ := x
    obtain ⟨a1, a2, a3, a4, a5⟩ := pTy_sound d ha
    rw [ha] at hr
    simp only [PresR, pres] at hr
    subst hr
    simp only [zW, zX, zD, builtinA, isLeaf, const1, Nat.reduceAdd, Nat.reduceMul, Nat.reduceSub, Nat.reduceLT, Nat.reduceLeDiff, Nat.reduceEqDiff, Nat.reduceBEq, Nat.reduceBNe, reduceIte, reduceCtorEq, Int.reduceToNat, Int.reduceLT, Int.reduceLE, Int.reduceEq, Int.reduceNe, Int.reduceNeg, ustrA, ti3, ti9, ti95, ca16, ca50, cf, Try.results30]
    refine callK_intro (by simp only [zW, zX, zD, builtinA, isLeaf, const1, Nat.reduceAdd, Nat.reduceMul, Nat.reduceSub, Nat.reduceLT, Nat.reduceLeDiff, Nat.reduceEqDiff, Nat.reduceBEq, Nat.reduceBNe, reduceIte, reduceCtorEq, Int.reduceToNat, Int.reduceLT, Int.reduceLE, Int.reduceEq, Int.reduceNe, Int.reduceNeg, ustrA, Option.map_some]; rfl) (str_HasPrefix (s.drop k) 62 _) ?_ rfl; rintro v A' ⟨rfl, rfl⟩
    have hk : (s.drop k)[0]? = s[k]? := by simp
    rw [hk]
    by_cases h1 : s[k]? = some 62
    · obtain ⟨e1, e2⟩ := getE h1
      have hlt : (1 : Int) ≤ ((s.drop k).length : Int) := by simp; omega
      have hdd : (s.drop k).drop 1 = s.drop (k + 1) := by rw [List.drop_drop]
      simp only [zW, zX, zD, builtinA, isLeaf, const1, Nat.reduceAdd, Nat.reduceMul, Nat.reduceSub, Nat.reduceLT, Nat.reduceLeDiff, Nat.reduceEqDiff, Nat.reduceBEq, Nat.reduceBNe, reduceIte, reduceCtorEq, Int.reduceToNat, Int.reduceLT, Int.reduceLE, Int.reduceEq, Int.reduceNe, Int.reduceNeg, ustrA, ti3, ti9, ti95, ca16, ca50, cf, Try.results30, decide_eq_true h1, hw]
      refine ⟨⟨hlt, by omega⟩, ?_⟩
      rw [hdd]
      refine callO_intro (ih (s.drop (k + 1)) _ (by simp; omega)) ?_
      rintro r A' ⟨hr, rfl⟩
      cases hb : pTy d (s.drop (k + 1)) with
      | none =>
        rw [hb] at hr
        rcases hr with rfl | rfl
        · simp only [zW, zX, zD, builtinA, isLeaf, const1, Nat.reduceAdd, Nat.reduceMul, Nat.reduceSub, Nat.reduceLT, Nat.reduceLeDiff, Nat.reduceEqDiff, Nat.reduceBEq, Nat.reduceBNe, reduceIte, reduceCtorEq, Int.reduceToNat, Int.reduceLT, Int.reduceLE, Int.reduceEq, Int.reduceNe, Int.reduceNeg, ustrA, ti3, ti9, ti95, ca16, ca50, cf, Try.results30]
          simp [pFun, ha, h1, hb, PresR]
        · simp only [zW, zX, zD, builtinA, isLeaf, const1, Nat.reduceAdd, Nat.reduceMul, Nat.reduceSub, Nat.reduceLT, Nat.reduceLeDiff, Nat.reduceEqDiff, Nat.reduceBEq, Nat.reduceBNe, reduceIte, reduceCtorEq, Int.reduceToNat, Int.reduceLT, Int.reduceLE, Int.reduceEq, Int.reduceNe, Int.reduceNeg, ustrA, ti3, ti9, ti95, ca16, ca50, cf, Try.results30]
          simp [pFun, ha, h1, hb, PresR]
      | some y =>
        obtain ⟨b, l⟩ := y
        obtain ⟨b1, b2, b3, b4, b5⟩ := pTy_sound d hb
        rw [hb] at hr
        simp only [PresR, pres] at hr
        subst hr
        simp only [zW, zX, zD, builtinA, isLeaf, const1, Nat.reduceAdd, Nat.reduceMul, Nat.reduceSub, Nat.reduceLT, Nat.reduceLeDiff, Nat.reduceEqDiff, Nat.reduceBEq, Nat.reduceBNe, reduceIte, reduceCtorEq, Int.reduceToNat, Int.reduceLT, Int.reduceLE, Int.reduceEq, Int.reduceNe, Int.reduceNeg, ustrA, ti3, ti9, ti95, ca16, ca50, cf, Try.results30]
        refine callK_intro (by simp only [zW, zX, zD, builtinA, isLeaf, const1, Nat.reduceAdd, Nat.reduceMul, Nat.reduceSub, Nat.reduceLT, Nat.reduceLeDiff, Nat.reduceEqDiff, Nat.reduceBEq, Nat.reduceBNe, reduceIte, reduceCtorEq, Int.reduceToNat, Int.reduceLT, Int.reduceLE, Int.reduceEq, Int.reduceNe, Int.reduceNeg, ustrA, Option.map_some]; rfl) (str_HasPrefix ((s.drop (k + 1)).drop l) 41 _) ?_ rfl; rintro v A' ⟨rfl, rfl⟩
        have hk2 : ((s.drop (k + 1)).drop l)[0]? = s[k + 1 + l]? := by simp
        rw [hk2]
        by_cases h2 : s[k + 1 + l]? = some 41
        · obtain ⟨f1, f2⟩ := getE h2
          have hlt2 : (1 : Int) ≤ (((s.drop (k + 1)).drop l).length : Int) := by simp; omega
          simp only [zW, zX, zD, builtinA, isLeaf, const1, Nat.reduceAdd, Nat.reduceMul, Nat.reduceSub, Nat.reduceLT, Nat.reduceLeDiff, Nat.reduceEqDiff, Nat.reduceBEq, Nat.reduceBNe, reduceIte, reduceCtorEq, Int.reduceToNat, Int.reduceLT, Int.reduceLE, Int.reduceEq, Int.reduceNe, Int.reduceNeg, ustrA, ti3, ti9, ti95, ca16, ca50, cf, Try.results30, decide_eq_true h2]
          refine .inl ⟨by kernel_rfl, by kernel_rfl, ⟨hlt2, by omega⟩, ?_⟩
          simp [pFun, ha, h1, hb, h2, PresR, pres, vT, vX]
          try omega
        · simp only [zW, zX, zD, builtinA, isLeaf, const1, Nat.reduceAdd, Nat.reduceMul, Nat.reduceSub, Nat.reduceLT, Nat.reduceLeDiff, Nat.reduceEqDiff, Nat.reduceBEq, Nat.reduceBNe, reduceIte, reduceCtorEq, Int.reduceToNat, Int.reduceLT, Int.reduceLE, Int.reduceEq, Int.reduceNe, Int.reduceNeg, ustrA, ti3, ti9, ti95, ca16, ca50, cf, Try.results30, decide_eq_false h2]
          simp [pFun, ha, h1, hb, h2, PresR, pres]
    · simp only [zW, zX, zD, builtinA, isLeaf, const1, Nat.reduceAdd, Nat.reduceMul, Nat.reduceSub, Nat.reduceLT, Nat.reduceLeDiff, Nat.reduceEqDiff, Nat.reduceBEq, Nat.reduceBNe, reduceIte, reduceCtorEq, Int.reduceToNat, Int.reduceLT, Int.reduceLE, Int.reduceEq, Int.reduceNe, Int.reduceNeg, ustrA, ti3, ti9, ti95, ca16, ca50, cf, Try.results30, decide_eq_false h1]
      simp [pFun, ha, h1, PresR, pres]

set_option maxRecDepth 100000 in
theorem impl_parseType : ∀ d, d ≤ 8 → ParseT d
  | 0, hd => fun s A hl => by
    have h9 : decide ((8 : Int) < 9 - ((0 : Nat) : Int)) = true := rfl
    refine acalls_enter (cf := cf 43 [0, 1, 4, 5, 6, 7, 8, 9, 15, 17, 18, 24]) foll Try.func16 Try.ntmps16 (by simp [cf]) ?_
    simp only [Try.f16, EnterK_some, zW, zX, zD, builtinA, isLeaf, const1, Nat.reduceAdd, Nat.reduceMul, Nat.reduceSub, Nat.reduceLT, Nat.reduceLeDiff, Nat.reduceEqDiff, Nat.reduceBEq, Nat.reduceBNe, reduceIte, reduceCtorEq, Int.reduceToNat, Int.reduceLT, Int.reduceLE, Int.reduceEq, Int.reduceNe, Int.reduceNeg, ustrA, ti3, ti5, ti9, ti68, ti70, ca30, ca31, cf, Try.results16]
    cases s with
    | nil =>
      simp only [zW, zX, zD, builtinA, isLeaf, const1, Nat.reduceAdd, Nat.reduceMul, Nat.reduceSub, Nat.reduceLT, Nat.reduceLeDiff, Nat.reduceEqDiff, Nat.reduceBEq, Nat.reduceBNe, reduceIte, reduceCtorEq, Int.reduceToNat, Int.reduceLT, Int.reduceLE, Int.reduceEq, Int.reduceNe, Int.reduceNeg, ustrA, ti3, ti5, ti9, ti68, ti70, ca30, ca31, cf, Try.results16]
      simp [pTy, PresR, pres]
    | cons c s =>
      simp only [zW, zX, zD, builtinA, isLeaf, const1, Nat.reduceAdd, Nat.reduceMul, Nat.reduceSub, Nat.reduceLT, Nat.reduceLeDiff, Nat.reduceEqDiff, Nat.reduceBEq, Nat.reduceBNe, reduceIte, reduceCtorEq, Int.reduceToNat, Int.reduceLT, Int.reduceLE, Int.reduceEq, Int.reduceNe, Int.reduceNeg, ustrA, ti3, ti5, ti9, ti68, ti70, ca30, ca31, cf, Try.results16, h9]
      simp [pTy, PresR, pres]
  | d + 1, hd => fun s A hl => by
    have hf := impl_parseFun d (by omega) (impl_parseType d (by omega))
    cases s with
    | nil =>
      refine acalls_enter (cf := cf 43 [0, 1, 4, 5, 6, 7, 8, 9, 15, 17, 18, 24]) foll Try.func16 Try.ntmps16 (by simp [cf]) ?_
      simp only [Try.f16, EnterK_some, zW, zX, zD, builtinA, isLeaf, const1, Nat.reduceAdd, Nat.reduceMul, Nat.reduceSub, Nat.reduceLT, Nat.reduceLeDiff, Nat.reduceEqDiff, Nat.reduceBEq, Nat.reduceBNe, reduceIte, reduceCtorEq, Int.reduceToNat, Int.reduceLT, Int.reduceLE, Int.reduceEq, Int.reduceNe, Int.reduceNeg, ustrA, ti3, ti5, ti9, ti68, ti70, ca30, ca31, cf, Try.results16]
      simp [pTy, PresR, pres]
    | cons c s =>
      have h9 : decide ((8 : Int) < 9 - ((d + 1 : Nat) : Int)) = false := decide_eq_false (by omega)
      refine acalls_enter (cf := cf 43 [0, 1, 4, 5, 6, 7, 8, 9, 15, 17, 18, 24]) foll Try.func16 Try.ntmps16 (by simp [cf]) ?_
      simp only [Try.f16, EnterK_some, zW, zX, zD, builtinA, isLeaf, const1, Nat.reduceAdd, Nat.reduceMul, Nat.reduceSub, Nat.reduceLT, Nat.reduceLeDiff, Nat.reduceEqDiff, Nat.reduceBEq, Nat.reduceBNe, reduceIte, reduceCtorEq, Int.reduceToNat, Int.reduceLT, Int.reduceLE, Int.reduceEq, Int.reduceNe, Int.reduceNeg, ustrA, ti3, ti5, ti9, ti68, ti70, ca30, ca31, cf, Try.results16]
      simp only [zW, zX, zD, builtinA, isLeaf, const1, Nat.reduceAdd, Nat.reduceMul, Nat.reduceSub, Nat.reduceLT, Nat.reduceLeDiff, Nat.reduceEqDiff, Nat.reduceBEq, Nat.reduceBNe, reduceIte, reduceCtorEq, Int.reduceToNat, Int.reduceLT, Int.reduceLE, Int.reduceEq, Int.reduceNe, Int.reduceNeg, ustrA, ti3, ti5, ti9, ti68, ti70, ca30, ca31, cf, Try.results16, h9]
      refine ⟨by omega, ?_⟩
      by_cases h73 : c = 73
      · subst h73
        have hd : decide (((73 : UInt8).toNat : Int) = 73) = true := rfl
        simp only [zW, zX, zD, builtinA, isLeaf, const1, Nat.reduceAdd, Nat.reduceMul, Nat.reduceSub, Nat.reduceLT, Nat.reduceLeDiff, Nat.reduceEqDiff, Nat.reduceBEq, Nat.reduceBNe, reduceIte, reduceCtorEq, Int.reduceToNat, Int.reduceLT, Int.reduceLE, Int.reduceEq, Int.reduceNe, Int.reduceNeg, ustrA, ti3, ti5, ti9, ti68, ti70, ca30, ca31, cf, Try.results16, hd]
        refine .inl ⟨by kernel_rfl, by kernel_rfl, ⟨by omega, by omega⟩, ?_⟩
        simp [pTy, PresR, pres, vT, vX]
      · have e73 : ¬ ((c.toNat : Int) = 73) := fun e => h73 (by
          apply UInt8.toNat.inj
          have : (73 : UInt8).toNat = 73 := rfl
          omega)
        simp only [zW, zX, zD, builtinA, isLeaf, const1, Nat.reduceAdd, Nat.reduceMul, Nat.reduceSub, Nat.reduceLT, Nat.reduceLeDiff, Nat.reduceEqDiff, Nat.reduceBEq, Nat.reduceBNe, reduceIte, reduceCtorEq, Int.reduceToNat, Int.reduceLT, Int.reduceLE, Int.reduceEq, Int.reduceNe, Int.reduceNeg, ustrA, ti3, ti5, ti9, ti68, ti70, ca30, ca31, cf, Try.results16, decide_eq_false e73]
        by_cases h40 : c = 40
        · subst h40
          have hd : decide (((40 : UInt8).toNat : Int) = 40) = true := rfl
          simp only [zW, zX, zD, builtinA, isLeaf, const1, Nat.reduceAdd, Nat.reduceMul, Nat.reduceSub, Nat.reduceLT, Nat.reduceLeDiff, Nat.reduceEqDiff, Nat.reduceBEq, Nat.reduceBNe, reduceIte, reduceCtorEq, Int.reduceToNat, Int.reduceLT, Int.reduceLE, Int.reduceEq, Int.reduceNe, Int.reduceNeg, ustrA, ti3, ti5, ti9, ti68, ti70, ca30, ca31, cf, Try.results16, hd]
          refine ⟨⟨by omega, by omega⟩, ?_⟩
          refine callO_intro (hf s (by simp at hl; omega) _) ?_
          rintro r A' ⟨hr, rfl⟩
          simp only [pTy, if_neg h73, if_pos]
          cases hp : pFun (pTy d) s with
          | none =>
            rw [hp] at hr
            rcases hr with rfl | rfl
            · simp only [zW, zX, zD, builtinA, isLeaf, const1, Nat.reduceAdd, Nat.reduceMul, Nat.reduceSub, Nat.reduceLT, Nat.reduceLeDiff, Nat.reduceEqDiff, Nat.reduceBEq, Nat.reduceBNe, reduceIte, reduceCtorEq, Int.reduceToNat, Int.reduceLT, Int.reduceLE, Int.reduceEq, Int.reduceNe, Int.reduceNeg, ustrA, ti3, ti5, ti9, ti68, ti70, ca30, ca31, cf, Try.results16]
              simp [PresR]
            · simp only [zW, zX, zD, builtinA, isLeaf, const1, Nat.reduceAdd, Nat.reduceMul, Nat.reduceSub, Nat.reduceLT, Nat.reduceLeDiff, Nat.reduceEqDiff, Nat.reduceBEq, Nat.reduceBNe, reduceIte, reduceCtorEq, Int.reduceToNat, Int.reduceLT, Int.reduceLE, Int.reduceEq, Int.reduceNe, Int.reduceNeg, ustrA, ti3, ti5, ti9, ti68, ti70, ca30, ca31, cf, Try.results16]
              simp [PresR]
          | some x =>
            obtain ⟨v, k⟩ := x
            rw [hp] at hr
            simp only [PresR, pres] at hr
            subst hr
            simp only [zW, zX, zD, builtinA, isLeaf, const1, Nat.reduceAdd, Nat.reduceMul, Nat.reduceSub, Nat.reduceLT, Nat.reduceLeDiff, Nat.reduceEqDiff, Nat.reduceBEq, Nat.reduceBNe, reduceIte, reduceCtorEq, Int.reduceToNat, Int.reduceLT, Int.reduceLE, Int.reduceEq, Int.reduceNe, Int.reduceNeg, ustrA, ti3, ti5, ti9, ti68, ti70, ca30, ca31, cf, Try.results16]
            simp [PresR, pres]
        · have e40 : ¬ ((c.toNat : Int) = 40) := fun e => h40 (by
            apply UInt8.toNat.inj
            have : (40 : UInt8).toNat = 40 := rfl
            omega)
          simp only [zW, zX, zD, builtinA, isLeaf, const1, Nat.reduceAdd, Nat.reduceMul, Nat.reduceSub, Nat.reduceLT, Nat.reduceLeDiff, Nat.reduceEqDiff, Nat.reduceBEq, Nat.reduceBNe, reduceIte, reduceCtorEq, Int.reduceToNat, Int.reduceLT, Int.reduceLE, Int.reduceEq, Int.reduceNe, Int.reduceNeg, ustrA, ti3, ti5, ti9, ti68, ti70, ca30, ca31, cf, Try.results16, decide_eq_false e40]
          refine callK_intro (by simp only [zW, zX, zD, builtinA, isLeaf, const1, Nat.reduceAdd, Nat.reduceMul, Nat.reduceSub, Nat.reduceLT, Nat.reduceLeDiff, Nat.reduceEqDiff, Nat.reduceBEq, Nat.reduceBNe, reduceIte, reduceCtorEq, Int.reduceToNat, Int.reduceLT, Int.reduceLE, Int.reduceEq, Int.reduceNe, Int.reduceNeg, ustrA, Option.map_some]; rfl) (impl_parseName c s (by simp at hl; omega) _) ?_ rfl; rintro v A' ⟨rfl, rfl⟩
          simp only [pTy, if_neg h73, if_neg h40]
          cases hp : pName (c :: s) with
          | none =>
            simp only [presN]
            simp only [zW, zX, zD, builtinA, isLeaf, const1, Nat.reduceAdd, Nat.reduceMul, Nat.reduceSub, Nat.reduceLT, Nat.reduceLeDiff, Nat.reduceEqDiff, Nat.reduceBEq, Nat.reduceBNe, reduceIte, reduceCtorEq, Int.reduceToNat, Int.reduceLT, Int.reduceLE, Int.reduceEq, Int.reduceNe, Int.reduceNeg, ustrA, ti3, ti5, ti9, ti68, ti70, ca30, ca31, cf, Try.results16]
            simp [PresR, vT]
          | some x =>
            obtain ⟨v, k⟩ := x
            obtain ⟨mm, nn, rfl⟩ := pName_nm hp
            simp only [presN, vX]
            simp only [zW, zX, zD, builtinA, isLeaf, const1, Nat.reduceAdd, Nat.reduceMul, Nat.reduceSub, Nat.reduceLT, Nat.reduceLeDiff, Nat.reduceEqDiff, Nat.reduceBEq, Nat.reduceBNe, reduceIte, reduceCtorEq, Int.reduceToNat, Int.reduceLT, Int.reduceLE, Int.reduceEq, Int.reduceNe, Int.reduceNeg, ustrA, ti3, ti5, ti9, ti68, ti70, ca30, ca31, cf, Try.results16]
            simp [PresR, pres, vT, vX]

/-- the type that is handed back, owned -/
def TyOut (A : List Box) (o : Option VT) (r : AV) (A' : List Box) : Prop :=
  match o with
  | some v => ∃ cs S, r = .tuple [.agg cs, .bool true] ∧ OwnT A' (toTy v) cs S ∧ S.Nodup ∧ (∀ i ∈ S, A.length ≤ i) ∧ A.length ≤ A'.length ∧ ∀ i, i < A.length → A'.getD i .dead = A.getD i .dead
  | none => r = .tuple [.agg [.int .i64 0, .str [], .str [], .nils], .bool false] ∧ A.length ≤ A'.length ∧ ∀ i, i < A.length → A'.getD i .dead = A.getD i .dead

set_option maxRecDepth 100000 in
theorem impl_ParseType (s : List UInt8) (hl : s.length ≤ 1100000) (A : List Box) : ACalls Try.prog 6 [.str s] A (TyOut A (pAll s)) := by
  refine acalls_enterK (cf := cf 27 [0, 2, 3, 4, 5, 6, 23]) foll Try.func6 Try.ntmps6 (by simp [cf]) ?_
  simp only [Try.f6, EnterK_some, zW, zX, zD, builtinA, isLeaf, const1, Nat.reduceAdd, Nat.reduceMul, Nat.reduceSub, Nat.reduceLT, Nat.reduceLeDiff, Nat.reduceEqDiff, Nat.reduceBEq, Nat.reduceBNe, reduceIte, reduceCtorEq, Int.reduceToNat, Int.reduceLT, Int.reduceLE, Int.reduceEq, Int.reduceNe, Int.reduceNeg, ustrA, ti9, ti25, ca16, ca17, cf, Try.results6]
  refine callO_intro (impl_parseType 8 (by omega) s _ hl) ?_
  rintro r A' ⟨hr, rfl⟩
  have hz : ∀ B : List Box, TyOut A none (AV.tuple [AV.agg [AV.int IntKind.i64 0, AV.str [], AV.str [], AV.nils], AV.bool false]) (A ++ B) := fun B => ⟨rfl, by simp, fun i hi => Abs.getD_append_left hi⟩
  cases hp : pTy 8 s with
  | none =>
    rw [hp] at hr
    simp only [pAll, hp]
    rcases hr with rfl | rfl
    · simp only [zW, zX, zD, builtinA, isLeaf, const1, Nat.reduceAdd, Nat.reduceMul, Nat.reduceSub, Nat.reduceLT, Nat.reduceLeDiff, Nat.reduceEqDiff, Nat.reduceBEq, Nat.reduceBNe, reduceIte, reduceCtorEq, Int.reduceToNat, Int.reduceLT, Int.reduceLE, Int.reduceEq, Int.reduceNe, Int.reduceNeg, ustrA, ti9, ti25, ca16, ca17, cf, Try.results6]
      exact hz _
    · simp only [zW, zX, zD, builtinA, isLeaf, const1, Nat.reduceAdd, Nat.reduceMul, Nat.reduceSub, Nat.reduceLT, Nat.reduceLeDiff, Nat.reduceEqDiff, Nat.reduceBEq, Nat.reduceBNe, reduceIte, reduceCtorEq, Int.reduceToNat, Int.reduceLT, Int.reduceLE, Int.reduceEq, Int.reduceNe, Int.reduceNeg, ustrA, ti9, ti25, ca16, ca17, cf, Try.results6]
      exact hz _
  | some x =>
    obtain ⟨v, k⟩ := x
    obtain ⟨a1, a2, a3, a4, a5⟩ := pTy_sound 8 hp
    rw [hp] at hr
    simp only [PresR, pres] at hr
    subst hr
    simp only [pAll, hp]
    by_cases hk : s.drop k = []
    · have hks : k = s.length := by simp at hk; omega
      simp only [zW, zX, zD, builtinA, isLeaf, const1, Nat.reduceAdd, Nat.reduceMul, Nat.reduceSub, Nat.reduceLT, Nat.reduceLeDiff, Nat.reduceEqDiff, Nat.reduceBEq, Nat.reduceBNe, reduceIte, reduceCtorEq, Int.reduceToNat, Int.reduceLT, Int.reduceLE, Int.reduceEq, Int.reduceNe, Int.reduceNeg, ustrA, ti9, ti25, ca16, ca17, cf, Try.results6, decide_eq_true hk]
      refine callK_intro (by simp only [zW, zX, zD, builtinA, isLeaf, const1, Nat.reduceAdd, Nat.reduceMul, Nat.reduceSub, Nat.reduceLT, Nat.reduceLeDiff, Nat.reduceEqDiff, Nat.reduceBEq, Nat.reduceBNe, reduceIte, reduceCtorEq, Int.reduceToNat, Int.reduceLT, Int.reduceLE, Int.reduceEq, Int.reduceNe, Int.reduceNeg, ustrA, Option.map_some]; rfl) (impl_withinLimits v (by omega) _) ?_ rfl; rintro v A' ⟨rfl, rfl⟩
      by_cases hc : cnt v ≤ 63
      · rw [if_pos ⟨hks, hc⟩]
        have hd : (decide (dep v ≤ 8) && decide (cnt v ≤ 63)) = true := by simp [hc, a5]
        rw [hd]
        simp only [zW, zX, zD, builtinA, isLeaf, const1, Nat.reduceAdd, Nat.reduceMul, Nat.reduceSub, Nat.reduceLT, Nat.reduceLeDiff, Nat.reduceEqDiff, Nat.reduceBEq, Nat.reduceBNe, reduceIte, reduceCtorEq, Int.reduceToNat, Int.reduceLT, Int.reduceLE, Int.reduceEq, Int.reduceNe, Int.reduceNeg, ustrA, ti9, ti25, ca16, ca17, cf, Try.results6]
        refine wpO_invoke _ _ _ _ _ _ _ _ _ _ _ _ _ _ _ _ ?_
        simp only [zW, zX, zD, builtinA, isLeaf, const1, Nat.reduceAdd, Nat.reduceMul, Nat.reduceSub, Nat.reduceLT, Nat.reduceLeDiff, Nat.reduceEqDiff, Nat.reduceBEq, Nat.reduceBNe, reduceIte, reduceCtorEq, Int.reduceToNat, Int.reduceLT, Int.reduceLE, Int.reduceEq, Int.reduceNe, Int.reduceNeg, ustrA, ti9, ti25, ca16, ca17, cf, Try.results6]
        refine meth_invK (met3 (by kernel_rfl) (by kernel_rfl) (by kernel_rfl) (by kernel_rfl) (by kernel_rfl) (by kernel_rfl)) (plainM v _) rfl (fun _ => rfl) ?_
        rintro r A' ⟨rfl, rfl⟩
        have hpl : ∀ n, (prow v n true).length = 4 := fun n => prow_length _ _ _
        simp only [zW, zX, zD, builtinA, isLeaf, const1, Nat.reduceAdd, Nat.reduceMul, Nat.reduceSub, Nat.reduceLT, Nat.reduceLeDiff, Nat.reduceEqDiff, Nat.reduceBEq, Nat.reduceBNe, reduceIte, reduceCtorEq, Int.reduceToNat, Int.reduceLT, Int.reduceLE, Int.reduceEq, Int.reduceNe, Int.reduceNeg, ustrA, ti9, ti25, ca16, ca17, cf, Try.results6, hpl]
        refine ⟨prow v (A.length + 1) true, pidx v (A.length + 1), by rw [List.take_of_length_le (by rw [hpl]; exact Nat.le_refl _)], own_plain v (A.length + 1) true _ (fun k hk => ?_), pidx_nodup _ _, fun i hi => by have := pidx_in _ _ i hi; omega, by simp, fun i hi => Abs.getD_append_left hi⟩
        rw [Abs.getD_append_right (by omega), show A.length + 1 + k - A.length = k + 1 by omega, List.getD_cons_succ]
      · rw [if_neg (fun h => hc h.2)]
        have hd : (decide (dep v ≤ 8) && decide (cnt v ≤ 63)) = false := by simp [hc]
        rw [hd]
        simp only [zW, zX, zD, builtinA, isLeaf, const1, Nat.reduceAdd, Nat.reduceMul, Nat.reduceSub, Nat.reduceLT, Nat.reduceLeDiff, Nat.reduceEqDiff, Nat.reduceBEq, Nat.reduceBNe, reduceIte, reduceCtorEq, Int.reduceToNat, Int.reduceLT, Int.reduceLE, Int.reduceEq, Int.reduceNe, Int.reduceNeg, ustrA, ti9, ti25, ca16, ca17, cf, Try.results6]
        exact hz _
    · have hks : ¬ k = s.length := fun e => hk (by rw [e]; simp)
      rw [if_neg (fun h => hks h.1)]
      simp only [zW, zX, zD, builtinA, isLeaf, const1, Nat.reduceAdd, Nat.reduceMul, Nat.reduceSub, Nat.reduceLT, Nat.reduceLeDiff, Nat.reduceEqDiff, Nat.reduceBEq, Nat.reduceBNe, reduceIte, reduceCtorEq, Int.reduceToNat, Int.reduceLT, Int.reduceLE, Int.reduceEq, Int.reduceNe, Int.reduceNeg, ustrA, ti9, ti25, ca16, ca17, cf, Try.results6, decide_eq_false hk]
      exact hz _
end Go.Proofs.Ytfcfijgajpbpcaa
