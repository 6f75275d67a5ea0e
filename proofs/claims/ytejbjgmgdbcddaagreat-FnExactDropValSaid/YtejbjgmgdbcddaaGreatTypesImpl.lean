/- Types as trees: what the program's own functions read of them. -/
import Derived.Test.YtejbjgmgdbcddaaGreatAbsW3
import Derived.Test.YtejbjgmgdbcddaaGreatTypes
set_option linter.unusedVariables false
set_option linter.unusedSimpArgs false
namespace Go.Proofs.YtejbjgmgdbcddaaGreat
open Go.Abs

def ifA : Option (TypeId × AV) → AV
  | none => .nili
  | some (t, x) => .iface t x
def pairUp : List (Option (TypeId × AV) × Bool) → Option (TypeId × AV) × Bool
  | [(x, true), (y, ok)] => (some (124, .agg [ifA x, ifA y]), ok)
  | _ => (none, false)
mutual
def readO : Ty → Int → Option (TypeId × AV) × Bool
  | .mk k m n ks, d =>
    if 8 < d then (none, false)
    else if k = 1 then (some (116, .agg []), (decide (m = []) && decide (n = [])) && decide ((ks.length : Int) = 0))
    else if k = 2 then (if m = [] then if n = [] then pairUp (readOs ks (d + 1)) else (none, false) else (none, false))
    else if k = 3 then (some (101, .agg [.str m, .str n]), ((decide (m = []) || moduleB m) && localB n) && decide ((ks.length : Int) = 0))
    else (none, false)
def readOs : List Ty → Int → List (Option (TypeId × AV) × Bool)
  | [], _ => []
  | t :: l, d => readO t d :: readOs l d
end
theorem readOs_length (l : List Ty) (d : Int) : (readOs l d).length = l.length := by
  induction l with
  | nil => rfl
  | cons t l ih => rw [readOs, List.length_cons, ih, List.length_cons]
theorem pairUp_no {l : List (Option (TypeId × AV) × Bool)} (h : ¬ (l.length : Int) = 2) : pairUp l = (none, false) := by
  match l, h with
  | [], _ => rfl
  | [_], _ => simp [pairUp]
  | [_, _], h => exact absurd rfl h
  | _ :: _ :: _ :: _, _ => simp [pairUp]

def ReadT (t : Ty) : Prop := ∀ (d : Int) (A : List Box), 0 ≤ d → d ≤ 9 → ACalls Tryz.prog 59 [.agg (enc t), .int .i64 d] A (fun v A' => v = .tuple [ifA (readO t d).1, .bool (readO t d).2] ∧ A' = A)

set_option maxRecDepth 100000 in
theorem impl_readFun (m n : List UInt8) (ks : List Ty) (d : Int) (h0 : 0 ≤ d) (h1 : d ≤ 8) (hk : ∀ t ∈ ks, ReadT t) (A : List Box) :
    ACalls Tryz.prog 65 [.agg (enc (.mk 2 m n ks)), .int .i64 d] A (fun v A' => v = .tuple [ifA (readO (.mk 2 m n ks) d).1, .bool (readO (.mk 2 m n ks) d).2] ∧ A' = A) := by
  have hw : IntKind.i64.wrap (d + 1) = d + 1 := wrap64 (by omega) (by omega)
  have hl : ((encs ks).length : Int) = ks.length := by rw [encs_length]
  rw [enc, readO, if_neg (by omega), if_neg (by omega), if_pos rfl]
  refine acalls_enter (cf := cf 50 [0, 1, 2, 4, 5, 6, 7, 8, 22, 34]) foll Tryz.func65 Tryz.ntmps65 (by simp [cf]) ?_
  simp only [Tryz.f65, EnterK_some, zW, zX, zD, builtinA, isLeaf, const1, Nat.reduceAdd, Nat.reduceMul, Nat.reduceSub, Nat.reduceLT, Nat.reduceLeDiff, Nat.reduceEqDiff, Nat.reduceBEq, Nat.reduceBNe, reduceIte, reduceCtorEq, Int.reduceToNat, Int.reduceLT, Int.reduceLE, Int.reduceEq, Int.reduceNe, Int.reduceNeg, ustrA, ti3, ti9, ti40, ti42, ti124, ca59, cf, Tryz.results65]
  by_cases hm : m = []
  · rw [if_pos hm]
    by_cases hn : n = []
    · rw [if_pos hn]
      by_cases h2 : (ks.length : Int) = 2
      · match ks, h2, hk with
        | [a, b], _, hk =>
          have ha := hk a (by simp)
          have hb := hk b (by simp)
          clear hl
          simp only [encs]
          have h22 : decide (((2 : Nat) : Int) = 2) = true := rfl
          simp only [zW, zX, zD, builtinA, isLeaf, const1, Nat.reduceAdd, Nat.reduceMul, Nat.reduceSub, Nat.reduceLT, Nat.reduceLeDiff, Nat.reduceEqDiff, Nat.reduceBEq, Nat.reduceBNe, reduceIte, reduceCtorEq, Int.reduceToNat, Int.reduceLT, Int.reduceLE, Int.reduceEq, Int.reduceNe, Int.reduceNeg, ustrA, ti3, ti9, ti40, ti42, ti124, ca59, cf, Tryz.results65, decide_eq_true hm, decide_eq_true hn, h22, Bool.not_true, enc_length, enc_take, hw]
          refine ⟨by decide, ?_⟩
          refine callK_intro (by simp only [zW, zX, zD, builtinA, isLeaf, const1, Nat.reduceAdd, Nat.reduceMul, Nat.reduceSub, Nat.reduceLT, Nat.reduceLeDiff, Nat.reduceEqDiff, Nat.reduceBEq, Nat.reduceBNe, reduceIte, reduceCtorEq, Int.reduceToNat, Int.reduceLT, Int.reduceLE, Int.reduceEq, Int.reduceNe, Int.reduceNeg, ustrA, frzL_enc, Option.map_some, hw]; rfl) (ha _ _ (by omega) (by omega)) ?_ rfl; rintro v A' ⟨rfl, rfl⟩
          rw [readOs, readOs, readOs]
          rcases readO a (d + 1) with ⟨x, _ | _⟩
          · simp only [zW, zX, zD, builtinA, isLeaf, const1, Nat.reduceAdd, Nat.reduceMul, Nat.reduceSub, Nat.reduceLT, Nat.reduceLeDiff, Nat.reduceEqDiff, Nat.reduceBEq, Nat.reduceBNe, reduceIte, reduceCtorEq, Int.reduceToNat, Int.reduceLT, Int.reduceLE, Int.reduceEq, Int.reduceNe, Int.reduceNeg, ustrA, ti3, ti9, ti40, ti42, ti124, ca59, cf, Tryz.results65, pairUp, ifA]
          · simp only [zW, zX, zD, builtinA, isLeaf, const1, Nat.reduceAdd, Nat.reduceMul, Nat.reduceSub, Nat.reduceLT, Nat.reduceLeDiff, Nat.reduceEqDiff, Nat.reduceBEq, Nat.reduceBNe, reduceIte, reduceCtorEq, Int.reduceToNat, Int.reduceLT, Int.reduceLE, Int.reduceEq, Int.reduceNe, Int.reduceNeg, ustrA, ti3, ti9, ti40, ti42, ti124, ca59, cf, Tryz.results65, enc_length, enc_take, hw]
            refine ⟨by decide, ?_⟩
            refine callK_intro (by simp only [zW, zX, zD, builtinA, isLeaf, const1, Nat.reduceAdd, Nat.reduceMul, Nat.reduceSub, Nat.reduceLT, Nat.reduceLeDiff, Nat.reduceEqDiff, Nat.reduceBEq, Nat.reduceBNe, reduceIte, reduceCtorEq, Int.reduceToNat, Int.reduceLT, Int.reduceLE, Int.reduceEq, Int.reduceNe, Int.reduceNeg, ustrA, frzL_enc, Option.map_some, hw]; rfl) (hb _ _ (by omega) (by omega)) ?_ rfl; rintro v A' ⟨rfl, rfl⟩
            rcases x with _ | ⟨t1, x1⟩ <;> rcases readO b (d + 1) with ⟨_ | ⟨t2, x2⟩, ok⟩ <;> simp only [ifA, pairUp] <;> simp only [zW, zX, zD, builtinA, isLeaf, const1, Nat.reduceAdd, Nat.reduceMul, Nat.reduceSub, Nat.reduceLT, Nat.reduceLeDiff, Nat.reduceEqDiff, Nat.reduceBEq, Nat.reduceBNe, reduceIte, reduceCtorEq, Int.reduceToNat, Int.reduceLT, Int.reduceLE, Int.reduceEq, Int.reduceNe, Int.reduceNeg, ustrA, ti3, ti9, ti40, ti42, ti124, ca59, cf, Tryz.results65]
      · rw [pairUp_no (by rw [readOs_length]; exact h2)]
        simp only [zW, zX, zD, builtinA, isLeaf, const1, Nat.reduceAdd, Nat.reduceMul, Nat.reduceSub, Nat.reduceLT, Nat.reduceLeDiff, Nat.reduceEqDiff, Nat.reduceBEq, Nat.reduceBNe, reduceIte, reduceCtorEq, Int.reduceToNat, Int.reduceLT, Int.reduceLE, Int.reduceEq, Int.reduceNe, Int.reduceNeg, ustrA, ti3, ti9, ti40, ti42, ti124, ca59, cf, Tryz.results65, hl, decide_eq_true hm, decide_eq_true hn, decide_eq_false h2, Bool.not_true, Bool.not_false, ifA]
    · rw [if_neg hn]
      simp only [zW, zX, zD, builtinA, isLeaf, const1, Nat.reduceAdd, Nat.reduceMul, Nat.reduceSub, Nat.reduceLT, Nat.reduceLeDiff, Nat.reduceEqDiff, Nat.reduceBEq, Nat.reduceBNe, reduceIte, reduceCtorEq, Int.reduceToNat, Int.reduceLT, Int.reduceLE, Int.reduceEq, Int.reduceNe, Int.reduceNeg, ustrA, ti3, ti9, ti40, ti42, ti124, ca59, cf, Tryz.results65, decide_eq_true hm, decide_eq_false hn, Bool.not_true, Bool.not_false, ifA]
  · rw [if_neg hm]
    simp only [zW, zX, zD, builtinA, isLeaf, const1, Nat.reduceAdd, Nat.reduceMul, Nat.reduceSub, Nat.reduceLT, Nat.reduceLeDiff, Nat.reduceEqDiff, Nat.reduceBEq, Nat.reduceBNe, reduceIte, reduceCtorEq, Int.reduceToNat, Int.reduceLT, Int.reduceLE, Int.reduceEq, Int.reduceNe, Int.reduceNeg, ustrA, ti3, ti9, ti40, ti42, ti124, ca59, cf, Tryz.results65, decide_eq_false hm, Bool.not_false, ifA]

set_option maxRecDepth 100000 in
theorem impl_readNode (τ : Ty) : ReadT τ := by
  induction τ using Ty.ind with
  | h k m n ks ih =>
    intro d A h0 h1
    have hl : ((encs ks).length : Int) = ks.length := by rw [encs_length]
    rw [enc]
    refine acalls_enter (cf := cf 54 [0, 1, 2, 4, 5, 7, 9, 10, 28, 35]) foll Tryz.func59 Tryz.ntmps59 (by simp [cf]) ?_
    simp only [Tryz.f59, EnterK_some, zW, zX, zD, builtinA, isLeaf, const1, Nat.reduceAdd, Nat.reduceMul, Nat.reduceSub, Nat.reduceLT, Nat.reduceLeDiff, Nat.reduceEqDiff, Nat.reduceBEq, Nat.reduceBNe, reduceIte, reduceCtorEq, Int.reduceToNat, Int.reduceLT, Int.reduceLE, Int.reduceEq, Int.reduceNe, Int.reduceNeg, ustrA, ti3, ti9, ti40, ti42, ti101, ti116, ca65, ca66, cf, Tryz.results59]
    by_cases h8 : 8 < d
    · rw [readO, if_pos h8]
      simp only [zW, zX, zD, builtinA, isLeaf, const1, Nat.reduceAdd, Nat.reduceMul, Nat.reduceSub, Nat.reduceLT, Nat.reduceLeDiff, Nat.reduceEqDiff, Nat.reduceBEq, Nat.reduceBNe, reduceIte, reduceCtorEq, Int.reduceToNat, Int.reduceLT, Int.reduceLE, Int.reduceEq, Int.reduceNe, Int.reduceNeg, ustrA, ti3, ti9, ti40, ti42, ti101, ti116, ca65, ca66, cf, Tryz.results59, decide_eq_true h8, ifA]
    · by_cases k1 : k = 1
      · rw [readO, if_neg h8, if_pos k1]
        simp only [zW, zX, zD, builtinA, isLeaf, const1, Nat.reduceAdd, Nat.reduceMul, Nat.reduceSub, Nat.reduceLT, Nat.reduceLeDiff, Nat.reduceEqDiff, Nat.reduceBEq, Nat.reduceBNe, reduceIte, reduceCtorEq, Int.reduceToNat, Int.reduceLT, Int.reduceLE, Int.reduceEq, Int.reduceNe, Int.reduceNeg, ustrA, ti3, ti9, ti40, ti42, ti101, ti116, ca65, ca66, cf, Tryz.results59, decide_eq_false h8, decide_eq_true k1, hl]
        refine .inl ⟨by kernel_rfl, by kernel_rfl, ?_⟩
        repeat' first
          | (refine guardT_intro (fun h => ?_) (fun h => ?_) <;> (try simp only [decide_eq_true_eq, decide_eq_false_iff_not, Bool.not_eq_eq_eq_not, Bool.not_true, Bool.not_false] at h) <;> simp only [zW, zX, zD, builtinA, isLeaf, const1, Nat.reduceAdd, Nat.reduceMul, Nat.reduceSub, Nat.reduceLT, Nat.reduceLeDiff, Nat.reduceEqDiff, Nat.reduceBEq, Nat.reduceBNe, reduceIte, reduceCtorEq, Int.reduceToNat, Int.reduceLT, Int.reduceLE, Int.reduceEq, Int.reduceNe, Int.reduceNeg, ustrA, ti3, ti9, ti40, ti42, ti101, ti116, ca65, ca66, cf, Tryz.results59, hl, h])
          | (refine guardF_intro (fun h => ?_) (fun h => ?_) <;> (try simp only [decide_eq_true_eq, decide_eq_false_iff_not, Bool.not_eq_eq_eq_not, Bool.not_true, Bool.not_false] at h) <;> simp only [zW, zX, zD, builtinA, isLeaf, const1, Nat.reduceAdd, Nat.reduceMul, Nat.reduceSub, Nat.reduceLT, Nat.reduceLeDiff, Nat.reduceEqDiff, Nat.reduceBEq, Nat.reduceBNe, reduceIte, reduceCtorEq, Int.reduceToNat, Int.reduceLT, Int.reduceLE, Int.reduceEq, Int.reduceNe, Int.reduceNeg, ustrA, ti3, ti9, ti40, ti42, ti101, ti116, ca65, ca66, cf, Tryz.results59, hl, h])
          | (refine condK_intro (fun h => ?_) (fun h => ?_) <;> (try simp only [decide_eq_true_eq, decide_eq_false_iff_not, Bool.not_eq_eq_eq_not, Bool.not_true, Bool.not_false] at h) <;> simp only [zW, zX, zD, builtinA, isLeaf, const1, Nat.reduceAdd, Nat.reduceMul, Nat.reduceSub, Nat.reduceLT, Nat.reduceLeDiff, Nat.reduceEqDiff, Nat.reduceBEq, Nat.reduceBNe, reduceIte, reduceCtorEq, Int.reduceToNat, Int.reduceLT, Int.reduceLE, Int.reduceEq, Int.reduceNe, Int.reduceNeg, ustrA, ti3, ti9, ti40, ti42, ti101, ti116, ca65, ca66, cf, Tryz.results59, hl, h])
          | (refine guardDT_intro (fun h => ?_) (fun h => ?_) <;> (try simp only [decide_eq_true_eq, decide_eq_false_iff_not, Bool.not_eq_eq_eq_not, Bool.not_true, Bool.not_false] at h) <;> simp only [zW, zX, zD, builtinA, isLeaf, const1, Nat.reduceAdd, Nat.reduceMul, Nat.reduceSub, Nat.reduceLT, Nat.reduceLeDiff, Nat.reduceEqDiff, Nat.reduceBEq, Nat.reduceBNe, reduceIte, reduceCtorEq, Int.reduceToNat, Int.reduceLT, Int.reduceLE, Int.reduceEq, Int.reduceNe, Int.reduceNeg, ustrA, ti3, ti9, ti40, ti42, ti101, ti116, ca65, ca66, cf, Tryz.results59, hl, h])
          | (refine guardDF_intro (fun h => ?_) (fun h => ?_) <;> (try simp only [decide_eq_true_eq, decide_eq_false_iff_not, Bool.not_eq_eq_eq_not, Bool.not_true, Bool.not_false] at h) <;> simp only [zW, zX, zD, builtinA, isLeaf, const1, Nat.reduceAdd, Nat.reduceMul, Nat.reduceSub, Nat.reduceLT, Nat.reduceLeDiff, Nat.reduceEqDiff, Nat.reduceBEq, Nat.reduceBNe, reduceIte, reduceCtorEq, Int.reduceToNat, Int.reduceLT, Int.reduceLE, Int.reduceEq, Int.reduceNe, Int.reduceNeg, ustrA, ti3, ti9, ti40, ti42, ti101, ti116, ca65, ca66, cf, Tryz.results59, hl, h])
          | refine And.intro ?_ ?_
        all_goals simp [ifA, *]
      · by_cases k2 : k = 2
        · subst k2
          simp only [zW, zX, zD, builtinA, isLeaf, const1, Nat.reduceAdd, Nat.reduceMul, Nat.reduceSub, Nat.reduceLT, Nat.reduceLeDiff, Nat.reduceEqDiff, Nat.reduceBEq, Nat.reduceBNe, reduceIte, reduceCtorEq, Int.reduceToNat, Int.reduceLT, Int.reduceLE, Int.reduceEq, Int.reduceNe, Int.reduceNeg, ustrA, ti3, ti9, ti40, ti42, ti101, ti116, ca65, ca66, cf, Tryz.results59, decide_eq_false h8, decide_eq_false k1]
          refine callK_intro (by simp only [zW, zX, zD, builtinA, isLeaf, const1, Nat.reduceAdd, Nat.reduceMul, Nat.reduceSub, Nat.reduceLT, Nat.reduceLeDiff, Nat.reduceEqDiff, Nat.reduceBEq, Nat.reduceBNe, reduceIte, reduceCtorEq, Int.reduceToNat, Int.reduceLT, Int.reduceLE, Int.reduceEq, Int.reduceNe, Int.reduceNeg, ustrA, Option.map_some]; rfl) (impl_readFun m n ks d h0 (by omega) ih _) ?_ rfl; rintro v A' ⟨rfl, rfl⟩
          rcases readO (.mk 2 m n ks) d with ⟨_ | ⟨t, x⟩, ok⟩ <;> simp only [ifA] <;> (simp only [zW, zX, zD, builtinA, isLeaf, const1, Nat.reduceAdd, Nat.reduceMul, Nat.reduceSub, Nat.reduceLT, Nat.reduceLeDiff, Nat.reduceEqDiff, Nat.reduceBEq, Nat.reduceBNe, reduceIte, reduceCtorEq, Int.reduceToNat, Int.reduceLT, Int.reduceLE, Int.reduceEq, Int.reduceNe, Int.reduceNeg, ustrA, ti3, ti9, ti40, ti42, ti101, ti116, ca65, ca66, cf, Tryz.results59])
        · rw [readO, if_neg h8, if_neg k1, if_neg k2]
          by_cases k3 : k = 3
          · rw [if_pos k3]
            simp only [zW, zX, zD, builtinA, isLeaf, const1, Nat.reduceAdd, Nat.reduceMul, Nat.reduceSub, Nat.reduceLT, Nat.reduceLeDiff, Nat.reduceEqDiff, Nat.reduceBEq, Nat.reduceBNe, reduceIte, reduceCtorEq, Int.reduceToNat, Int.reduceLT, Int.reduceLE, Int.reduceEq, Int.reduceNe, Int.reduceNeg, ustrA, ti3, ti9, ti40, ti42, ti101, ti116, ca65, ca66, cf, Tryz.results59, decide_eq_false h8, decide_eq_false k1, decide_eq_false k2, decide_eq_true k3]
            refine .inl ⟨by kernel_rfl, by kernel_rfl, ?_⟩
            refine callD_intro (by simp only [zW, zX, zD, builtinA, isLeaf, const1, Nat.reduceAdd, Nat.reduceMul, Nat.reduceSub, Nat.reduceLT, Nat.reduceLeDiff, Nat.reduceEqDiff, Nat.reduceBEq, Nat.reduceBNe, reduceIte, reduceCtorEq, Int.reduceToNat, Int.reduceLT, Int.reduceLE, Int.reduceEq, Int.reduceNe, Int.reduceNeg, ustrA, Option.map_some] <;> rfl) (impl_validName m n _) ?_ rfl
            cases hn : ((decide (m = []) || moduleB m) && localB n) with
            | true =>
              simp only [zW, zX, zD, builtinA, isLeaf, const1, Nat.reduceAdd, Nat.reduceMul, Nat.reduceSub, Nat.reduceLT, Nat.reduceLeDiff, Nat.reduceEqDiff, Nat.reduceBEq, Nat.reduceBNe, reduceIte, reduceCtorEq, Int.reduceToNat, Int.reduceLT, Int.reduceLE, Int.reduceEq, Int.reduceNe, Int.reduceNeg, ustrA, ti3, ti9, ti40, ti42, ti101, ti116, ca65, ca66, cf, Tryz.results59, hl, ifA]
            | false =>
              simp only [zW, zX, zD, builtinA, isLeaf, const1, Nat.reduceAdd, Nat.reduceMul, Nat.reduceSub, Nat.reduceLT, Nat.reduceLeDiff, Nat.reduceEqDiff, Nat.reduceBEq, Nat.reduceBNe, reduceIte, reduceCtorEq, Int.reduceToNat, Int.reduceLT, Int.reduceLE, Int.reduceEq, Int.reduceNe, Int.reduceNeg, ustrA, ti3, ti9, ti40, ti42, ti101, ti116, ca65, ca66, cf, Tryz.results59, hl, ifA]
          · rw [if_neg k3]
            simp only [zW, zX, zD, builtinA, isLeaf, const1, Nat.reduceAdd, Nat.reduceMul, Nat.reduceSub, Nat.reduceLT, Nat.reduceLeDiff, Nat.reduceEqDiff, Nat.reduceBEq, Nat.reduceBNe, reduceIte, reduceCtorEq, Int.reduceToNat, Int.reduceLT, Int.reduceLE, Int.reduceEq, Int.reduceNe, Int.reduceNeg, ustrA, ti3, ti9, ti40, ti42, ti101, ti116, ca65, ca66, cf, Tryz.results59, decide_eq_false h8, decide_eq_false k1, decide_eq_false k2, decide_eq_false k3, ifA]
end Go.Proofs.YtejbjgmgdbcddaaGreat
