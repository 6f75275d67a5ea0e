/- Reading bindings into a map. -/
import Derived.Test.YtlffbkmjigiplaaSubM
import Derived.Test.YtlffbkmjigiplaaBinds
import Derived.Test.YtlffbkmjigiplaaAbsW3
set_option linter.unusedVariables false
set_option linter.unusedSimpArgs false
namespace Go.Proofs.Ytlffbkmjigiplaa
open Go.Abs

def addB (m : List (BNm × VT)) (p : BNm) (v : VT) : List (BNm × VT) :=
  match lookB p m with
  | some _ => m
  | none => m ++ [(p, v)]
def foldB (bd : List (BNm × VT)) : List (BNm × VT) := bd.foldl (fun m q => addB m q.1 q.2) []
def ofB (q : BNm × VT) : BdI := ⟨q.1.1, q.1.2, toTy q.2⟩
def okQ (q : BNm × VT) : Prop := VOk q.2 ∧ nmB q.1.1 q.1.2 = true
def badB (b : BdI) : Prop := validB b.typ = false ∨ nmB b.mod b.name = false
theorem foldB_snoc (bd : List (BNm × VT)) (q : BNm × VT) : foldB (bd ++ [q]) = addB (foldB bd) q.1 q.2 := by simp [foldB]

theorem takeB {bs : List BdI} {i : Nat} {bd : List (BNm × VT)} {b : BdI} {v : VT} (h : i < bs.length) (hb : bs.getD i bd0 = b) (ht : b.typ = toTy v) (hbd : bs.take i = bd.map ofB) : bs.take (i + 1) = (bd ++ [((b.mod, b.name), v)]).map ofB := by
  rw [bd_take h, hbd, hb, List.map_append]
  obtain ⟨m, n, t⟩ := b
  have ht' : t = toTy v := ht
  subst ht'
  rfl

set_option maxRecDepth 100000 in
theorem impl_readBinds (bs : List BdI) (hl : bs.length ≤ 1048576) (hk : ∀ b ∈ bs, b.Ok) (A : List Box) : ACalls Try.prog 16 [.slice (bEs bs)] A (fun r A' =>
    (∃ bd B, bs = bd.map ofB ∧ (∀ q ∈ bd, okQ q) ∧ r = .tuple [.map A.length, .bool true] ∧ A' = A ++ .mapb (esB (foldB bd)) :: B) ∨ ((∃ b ∈ bs, badB b) ∧ ∃ x B, r = .tuple [x, .bool false] ∧ A' = A ++ B)) := by
  refine acalls_enterK (cf := cf 53 [0, 2, 3, 4, 6, 7, 8, 9, 11, 13, 14, 15, 16, 39, 47]) foll Try.func16 Try.ntmps16 (by simp [cf]) ?_
  simp only [Try.f16, EnterK_some, zW, zX, zD, builtinA, isLeaf, const1, Nat.reduceAdd, Nat.reduceMul, Nat.reduceSub, Nat.reduceLT, Nat.reduceLeDiff, Nat.reduceEqDiff, Nat.reduceBEq, Nat.reduceBNe, reduceIte, reduceCtorEq, Int.reduceToNat, Int.reduceLT, Int.reduceLE, Int.reduceEq, Int.reduceNe, Int.reduceNeg, ustrA, ti3, ti9, ti25, ti26, ti34, ti46, ti64, ca15, ca34, mi46, cf, Try.results16]
  simp only [zW, zX, zD, builtinA, isLeaf, const1, Nat.reduceAdd, Nat.reduceMul, Nat.reduceSub, Nat.reduceLT, Nat.reduceLeDiff, Nat.reduceEqDiff, Nat.reduceBEq, Nat.reduceBNe, reduceIte, reduceCtorEq, Int.reduceToNat, Int.reduceLT, Int.reduceLE, Int.reduceEq, Int.reduceNe, Int.reduceNeg, ustrA, ti3, ti9, ti25, ti26, ti34, ti46, ti64, ca15, ca34, mi46, cf, Try.results16, bEs_length]
  refine aloop_intro [4, 13, 14, 15] (fun e A' => ∃ i bd B, i ≤ bs.length ∧ bs.take i = bd.map ofB ∧ (∀ q ∈ bd, okQ q) ∧ e = [(4, .map A.length), (13, .slice (bEs bs)), (14, .int .i64 bs.length), (15, .int .i64 i)] ∧ A' = A ++ .mapb (esB (foldB bd)) :: B) (fun e _ => bs.length - (intOf (Abs.look 15 e)).toNat) ?_ ?_
  · simp only [zW, zX, zD, builtinA, isLeaf, const1, Nat.reduceAdd, Nat.reduceMul, Nat.reduceSub, Nat.reduceLT, Nat.reduceLeDiff, Nat.reduceEqDiff, Nat.reduceBEq, Nat.reduceBNe, reduceIte, reduceCtorEq, Int.reduceToNat, Int.reduceLT, Int.reduceLE, Int.reduceEq, Int.reduceNe, Int.reduceNeg, ustrA, ti3, ti9, ti25, ti26, ti34, ti46, ti64, ca15, ca34, mi46, cf, Try.results16, bEs_length]
    exact ⟨0, [], [], by omega, rfl, by simp, rfl, rfl⟩
  · rintro e A' ⟨i, bd, B, hi, hbd, hok, rfl, rfl⟩
    simp only [zW, zX, zD, builtinA, isLeaf, const1, Nat.reduceAdd, Nat.reduceMul, Nat.reduceSub, Nat.reduceLT, Nat.reduceLeDiff, Nat.reduceEqDiff, Nat.reduceBEq, Nat.reduceBNe, reduceIte, reduceCtorEq, Int.reduceToNat, Int.reduceLT, Int.reduceLE, Int.reduceEq, Int.reduceNe, Int.reduceNeg, ustrA, ti3, ti9, ti25, ti26, ti34, ti46, ti64, ca15, ca34, mi46, cf, Try.results16, bEs_length]
    refine condK_intro (fun h2 => ?_) (fun h2 => ?_)
    · have hi2 : i < bs.length := by simpa using h2
      have he := bEs_getD hi2
      have hm := bd_mem hi2
      have hkb := hk _ hm
      have hT := fun A => impl_readType (bs.getD i bd0).typ A
      rw [bT4] at hT
      generalize hbi : bs.getD i bd0 = b at *
      have hvn : ∀ A, ACalls Try.prog 34 [.str b.mod, .str b.name] A (fun r A' => r = .bool (nmB b.mod b.name) ∧ A' = A) := fun A => impl_validName b.mod b.name A
      have hi1 : IntKind.i64.wrap ((i : Int) + 1) = ((i + 1 : Nat) : Int) := by rw [wrap64 (by omega) (by omega)]; rfl
      simp only [zW, zX, zD, builtinA, isLeaf, const1, Nat.reduceAdd, Nat.reduceMul, Nat.reduceSub, Nat.reduceLT, Nat.reduceLeDiff, Nat.reduceEqDiff, Nat.reduceBEq, Nat.reduceBNe, reduceIte, reduceCtorEq, Int.reduceToNat, Int.reduceLT, Int.reduceLE, Int.reduceEq, Int.reduceNe, Int.reduceNeg, ustrA, ti3, ti9, ti25, ti26, ti34, ti46, ti64, ca15, ca34, mi46, cf, Try.results16, he, bE_length, bE_take, bEs_length, bE]
      refine ⟨⟨by omega, by omega⟩, ?_⟩
      refine callK_intro (by simp only [zW, zX, zD, builtinA, isLeaf, const1, Nat.reduceAdd, Nat.reduceMul, Nat.reduceSub, Nat.reduceLT, Nat.reduceLeDiff, Nat.reduceEqDiff, Nat.reduceBEq, Nat.reduceBNe, reduceIte, reduceCtorEq, Int.reduceToNat, Int.reduceLT, Int.reduceLE, Int.reduceEq, Int.reduceNe, Int.reduceNeg, ustrA]; rfl) (hT _) ?_ rfl
      rintro r A' ⟨⟨v, ht, hv, rfl⟩ | ⟨hv, rfl⟩, rfl⟩
      · simp only [zW, zX, zD, builtinA, isLeaf, const1, Nat.reduceAdd, Nat.reduceMul, Nat.reduceSub, Nat.reduceLT, Nat.reduceLeDiff, Nat.reduceEqDiff, Nat.reduceBEq, Nat.reduceBNe, reduceIte, reduceCtorEq, Int.reduceToNat, Int.reduceLT, Int.reduceLE, Int.reduceEq, Int.reduceNe, Int.reduceNeg, ustrA, ti3, ti9, ti25, ti26, ti34, ti46, ti64, ca15, ca34, mi46, cf, Try.results16]
        refine callK_intro (by simp only [zW, zX, zD, builtinA, isLeaf, const1, Nat.reduceAdd, Nat.reduceMul, Nat.reduceSub, Nat.reduceLT, Nat.reduceLeDiff, Nat.reduceEqDiff, Nat.reduceBEq, Nat.reduceBNe, reduceIte, reduceCtorEq, Int.reduceToNat, Int.reduceLT, Int.reduceLE, Int.reduceEq, Int.reduceNe, Int.reduceNeg, ustrA, ]; rfl) (hvn _) ?_ rfl; rintro v A' ⟨rfl, rfl⟩
        rcases hn : nmB b.mod b.name with _ | _
        · simp only [zW, zX, zD, builtinA, isLeaf, const1, Nat.reduceAdd, Nat.reduceMul, Nat.reduceSub, Nat.reduceLT, Nat.reduceLeDiff, Nat.reduceEqDiff, Nat.reduceBEq, Nat.reduceBNe, reduceIte, reduceCtorEq, Int.reduceToNat, Int.reduceLT, Int.reduceLE, Int.reduceEq, Int.reduceNe, Int.reduceNeg, ustrA, ti3, ti9, ti25, ti26, ti34, ti46, ti64, ca15, ca34, mi46, cf, Try.results16, hn]
          exact .inr ⟨⟨b, hm, .inr hn⟩, _, _, rfl, rfl⟩
        · rcases find_b (b.mod, b.name) (foldB bd) 0 with ⟨f1, f2⟩ | ⟨j, w, f1, f2⟩
          · simp only [bkE] at f1
            have hadd : addB (foldB bd) (b.mod, b.name) v = foldB bd ++ [((b.mod, b.name), v)] := by rw [addB, f2]
            have hes := esB_app (foldB bd) (b.mod, b.name) v
            simp only [zW, zX, zD, builtinA, isLeaf, const1, Nat.reduceAdd, Nat.reduceMul, Nat.reduceSub, Nat.reduceLT, Nat.reduceLeDiff, Nat.reduceEqDiff, Nat.reduceBEq, Nat.reduceBNe, reduceIte, reduceCtorEq, Int.reduceToNat, Int.reduceLT, Int.reduceLE, Int.reduceEq, Int.reduceNe, Int.reduceNeg, ustrA, ti3, ti9, ti25, ti26, ti34, ti46, ti64, ca15, ca34, mi46, cf, Try.results16, hn, f1, hes, hi1, LoopK_eq]
            refine ⟨⟨i + 1, bd ++ [((b.mod, b.name), v)], B ++ [Box.cells (bE b), .cells [.str b.mod, .str b.name]], by omega, takeB hi2 hbi ht hbd, ?_, rfl, ?_⟩, ?_⟩
            · intro q hq
              rcases List.mem_append.1 hq with hq | hq
              · exact hok q hq
              · rw [List.mem_singleton.1 hq]; exact ⟨hv, hn⟩
            · rw [foldB_snoc, hadd]; rfl
            · simp only [intOf]; omega
          · simp only [bkE] at f1
            have hadd : addB (foldB bd) (b.mod, b.name) v = foldB bd := by rw [addB, f2]
            simp only [zW, zX, zD, builtinA, isLeaf, const1, Nat.reduceAdd, Nat.reduceMul, Nat.reduceSub, Nat.reduceLT, Nat.reduceLeDiff, Nat.reduceEqDiff, Nat.reduceBEq, Nat.reduceBNe, reduceIte, reduceCtorEq, Int.reduceToNat, Int.reduceLT, Int.reduceLE, Int.reduceEq, Int.reduceNe, Int.reduceNeg, ustrA, ti3, ti9, ti25, ti26, ti34, ti46, ti64, ca15, ca34, mi46, cf, Try.results16, hn, f1, hi1, LoopK_eq]
            refine ⟨⟨i + 1, bd ++ [((b.mod, b.name), v)], B ++ [Box.cells (bE b), .cells [.str b.mod, .str b.name]], by omega, takeB hi2 hbi ht hbd, ?_, rfl, ?_⟩, ?_⟩
            · intro q hq
              rcases List.mem_append.1 hq with hq | hq
              · exact hok q hq
              · rw [List.mem_singleton.1 hq]; exact ⟨hv, hn⟩
            · rw [foldB_snoc, hadd]; rfl
            · simp only [intOf]; omega
      · simp only [zW, zX, zD, builtinA, isLeaf, const1, Nat.reduceAdd, Nat.reduceMul, Nat.reduceSub, Nat.reduceLT, Nat.reduceLeDiff, Nat.reduceEqDiff, Nat.reduceBEq, Nat.reduceBNe, reduceIte, reduceCtorEq, Int.reduceToNat, Int.reduceLT, Int.reduceLE, Int.reduceEq, Int.reduceNe, Int.reduceNeg, ustrA, ti3, ti9, ti25, ti26, ti34, ti46, ti64, ca15, ca34, mi46, cf, Try.results16]
        exact .inr ⟨⟨b, hm, .inl hv⟩, _, _, rfl, rfl⟩
    · simp only [zW, zX, zD, builtinA, isLeaf, const1, Nat.reduceAdd, Nat.reduceMul, Nat.reduceSub, Nat.reduceLT, Nat.reduceLeDiff, Nat.reduceEqDiff, Nat.reduceBEq, Nat.reduceBNe, reduceIte, reduceCtorEq, Int.reduceToNat, Int.reduceLT, Int.reduceLE, Int.reduceEq, Int.reduceNe, Int.reduceNeg, ustrA, ti3, ti9, ti25, ti26, ti34, ti46, ti64, ca15, ca34, mi46, cf, Try.results16]
      have : i = bs.length := by simp at h2; omega
      subst this
      rw [List.take_length] at hbd
      exact .inl ⟨bd, B, hbd, hok, rfl⟩
end Go.Proofs.Ytlffbkmjigiplaa
