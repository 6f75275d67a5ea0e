/- Whatever the type and the two lists of bindings that are drawn: SubstType answers as the model says, and two substitutions are one by their composition. No condition beside the row's own. -/
import Derived.Test.YtlffbkmjigiplaaSubFacts
import Derived.Test.YtlffbkmjigiplaaAbsW3
set_option linter.unusedVariables false
set_option linter.unusedSimpArgs false
namespace Go.Proofs.Ytlffbkmjigiplaa
open Go.Abs Go.RowKit Go.ChangeShapes Go.WideShapes Go.ChangeAt Go.ChangeMaps

/-- substituted bindings -/
def compB (m : List (BNm × VT)) (bd : List (BNm × VT)) : List (BNm × VT) := bd.map fun q => (q.1, subV m q.2)
theorem look_comp (m : List (BNm × VT)) (p : BNm) : ∀ bd, lookB p (compB m bd) = (lookB p bd).map (subV m)
  | [] => rfl
  | q :: bd => by
    rw [compB, List.map_cons, lookB, lookB]
    by_cases e : p = q.1
    · rw [if_pos e, if_pos e]; rfl
    · rw [if_neg e, if_neg e]; exact look_comp m p bd
theorem look_app (p : BNm) : ∀ a b : List (BNm × VT), lookB p (a ++ b) = (lookB p a).or (lookB p b)
  | [], b => by simp [lookB]
  | q :: a, b => by
    rw [List.cons_append, lookB, lookB]
    by_cases e : p = q.1
    · rw [if_pos e, if_pos e]; rfl
    · rw [if_neg e, if_neg e]; exact look_app p a b
theorem sub_comp (bdA bdB : List (BNm × VT)) : ∀ v, subV (foldB (compB (foldB bdB) bdA ++ bdB)) v = subV (foldB bdB) (subV (foldB bdA) v)
  | .num => rfl
  | .fn a b => by rw [subV, subV, subV, sub_comp bdA bdB a, sub_comp bdA bdB b]
  | .nm m n => by
    simp only [subV, lookB_foldB, look_app, look_comp]
    rcases lookB (m, n) bdA with _ | w
    · simp only [Option.map_none, Option.none_or, Option.getD_none, subV, lookB_foldB]
    · simp only [Option.map_some, Option.some_or, Option.getD_some]
theorem subIs_bd {τ : Ty} {bs : List BdI} {w : VT} (h : SubIs τ bs (some w)) : ∃ v bd, τ = toTy v ∧ VOk v ∧ bs = bd.map ofB ∧ (∀ q ∈ bd, okQ q) ∧ w = subV (foldB bd) v := by
  rcases h with ⟨v, bd, e, hv, e2, hok, h⟩ | ⟨_, h⟩
  · refine ⟨v, bd, e, hv, e2, hok, ?_⟩
    split at h
    · exact Option.some.inj h
    · cases h
  · cases h
/-- the composition does it -/
theorem subIs_comp {v : VT} {bdA bdB : List (BNm × VT)} {u : VT} (hv : VOk v) (hA : ∀ q ∈ bdA, okQ q ∧ VOk (subV (foldB bdB) q.2)) (hB : ∀ q ∈ bdB, okQ q) (hu : VOk u) (e : u = subV (foldB bdB) (subV (foldB bdA) v)) :
    SubIs (toTy v) ((compB (foldB bdB) bdA ++ bdB).map ofB) (some u) := by
  refine .inl ⟨v, _, rfl, hv, rfl, fun q hq => ?_, ?_⟩
  · rcases List.mem_append.1 hq with hq | hq
    · obtain ⟨x, hx, rfl⟩ := List.mem_map.1 hq
      exact ⟨(hA x hx).2, (hA x hx).1.2⟩
    · exact hB q hq
  · simp only [sub_comp, ← e]
    rw [if_pos (okV_fit hu)]
def BothAt (H : List Box) (s : Nat) (bs : List BdI) (S : List Nat) : Prop := ∃ rows, (H.getD s .dead = .gr none 6 rows ∨ H.getD s .dead = .row 6 rows 0) ∧ OwnB H bs rows S
theorem rows_viewB {H : List Box} {bs bs2 : List BdI} {rows : List (List AV)} {S : List Nat} (h : OwnB H bs rows S) : (bEs (bs ++ bs2)).length = (rows ++ bEs bs2).length ∧ (∀ r ∈ bEs (bs ++ bs2), r.length = 6 ∧ ∀ v ∈ r, isLeaf v = true) ∧ ∀ k j, k < (rows ++ bEs bs2).length → j < 6 → View H (Abs.rowAt (rows ++ bEs bs2) k j) (Abs.rowAt (bEs (bs ++ bs2)) k j) := by
  have hl := h.length
  refine ⟨by simp [bEs_length, hl], fun r hr => ?_, fun k j hk hj => ?_⟩
  · obtain ⟨t, _, rfl⟩ := List.mem_map.1 hr
    exact ⟨bE_length t, bE_leaf t⟩
  · have hk2 : k < (bs ++ bs2).length := by simp [bEs_length, hl] at hk ⊢; exact hk
    unfold Abs.rowAt
    rw [bEs_getD hk2]
    rcases Nat.lt_or_ge k rows.length with h1 | h1
    · have e1 : (rows ++ bEs bs2).getD k [] = rows.getD k [] := Abs.getD_append_left h1
      have e2 : (bs ++ bs2).getD k bd0 = bs.getD k bd0 := Abs.getD_append_left (by omega)
      rw [e1, e2]
      exact h.view k h1 j hj
    · have e1 : (rows ++ bEs bs2).getD k [] = (bEs bs2).getD (k - rows.length) [] := Abs.getD_append_right h1
      have e2 : (bs ++ bs2).getD k bd0 = bs2.getD (k - rows.length) bd0 := by rw [Abs.getD_append_right (by omega), hl]
      rw [e1, e2, bEs_getD (by simp [bEs_length] at hk; omega)]
      exact .leaf _ (bE_leaf _ _ (Abs.getD_mem (by rw [bE_length]; exact hj)))
theorem bE_ofB (q : BNm × VT) : ∃ k m n ks, toTy q.2 = .mk k m n ks ∧ bE (ofB q) = [.str q.1.1, .str q.1.2, .int .i64 k, .str m, .str n, .slice (encs ks)] := by
  obtain ⟨k, m, n, ks, h⟩ : ∃ k m n ks, toTy q.2 = .mk k m n ks := by cases toTy q.2; exact ⟨_, _, _, _, rfl⟩
  exact ⟨k, m, n, ks, h, by simp only [bE, ofB, h, Ty.kind, Ty.mod, Ty.name, Ty.kids]⟩
theorem okQ_bd {bd : List (BNm × VT)} (h : ∀ q ∈ bd, okQ q) : ∀ b ∈ bd.map ofB, b.Ok := fun b hb => by
  obtain ⟨q, hq, rfl⟩ := List.mem_map.1 hb
  have := nm_short (h q hq).2
  exact ⟨by simp only [ofB]; omega, by simp only [ofB]; omega, ok_toTyS _ (h q hq).1.ok⟩

set_option maxRecDepth 100000 in
set_option maxHeartbeats 4000000 in
theorem substTwice_true (bs cs : List UInt8) : ACalls Try.prog 5 [.aslice (byteRows bs), .aslice (byteRows cs)] [] (fun v _ => v = .bool true) := by
  refine acalls_enter (cf := cf 130 [0, 1, 4, 5, 6, 8, 9, 10, 11, 12, 13, 14, 15, 16, 17, 18, 19, 20, 28, 73, 86, 100]) foll Try.func5 Try.ntmps5 (by simp [cf]) ?_
  simp only [Try.f5, EnterK_some, zW, zX, zD, builtinA, isLeaf, const1, Nat.reduceAdd, Nat.reduceMul, Nat.reduceSub, Nat.reduceLT, Nat.reduceLeDiff, Nat.reduceEqDiff, Nat.reduceBEq, Nat.reduceBNe, reduceIte, reduceCtorEq, Int.reduceToNat, Int.reduceLT, Int.reduceLE, Int.reduceEq, Int.reduceNe, Int.reduceNeg, ustrA, ti3, ti4, ti5, ti9, ti22, ti25, ti26, ti34, ca6, ca7, ca8, ca9, cf, Try.results5]
  by_cases hb : 1048576 < bs.length
  · have e1 : decide ((1048576 : Int) < bs.length) = true := decide_eq_true (by omega)
    simp only [zW, zX, zD, builtinA, isLeaf, const1, Nat.reduceAdd, Nat.reduceMul, Nat.reduceSub, Nat.reduceLT, Nat.reduceLeDiff, Nat.reduceEqDiff, Nat.reduceBEq, Nat.reduceBNe, reduceIte, reduceCtorEq, Int.reduceToNat, Int.reduceLT, Int.reduceLE, Int.reduceEq, Int.reduceNe, Int.reduceNeg, ustrA, ti3, ti4, ti5, ti9, ti22, ti25, ti26, ti34, ca6, ca7, ca8, ca9, cf, Try.results5, byteRows_length, e1]
  · have e1 : decide ((1048576 : Int) < bs.length) = false := decide_eq_false (by omega)
    by_cases hc : 1048576 < cs.length
    · have e2 : decide ((1048576 : Int) < cs.length) = true := decide_eq_true (by omega)
      simp only [zW, zX, zD, builtinA, isLeaf, const1, Nat.reduceAdd, Nat.reduceMul, Nat.reduceSub, Nat.reduceLT, Nat.reduceLeDiff, Nat.reduceEqDiff, Nat.reduceBEq, Nat.reduceBNe, reduceIte, reduceCtorEq, Int.reduceToNat, Int.reduceLT, Int.reduceLE, Int.reduceEq, Int.reduceNe, Int.reduceNeg, ustrA, ti3, ti4, ti5, ti9, ti22, ti25, ti26, ti34, ca6, ca7, ca8, ca9, cf, Try.results5, byteRows_length, e1, e2]
    · have e2 : decide ((1048576 : Int) < cs.length) = false := decide_eq_false (by omega)
      simp only [zW, zX, zD, builtinA, isLeaf, const1, Nat.reduceAdd, Nat.reduceMul, Nat.reduceSub, Nat.reduceLT, Nat.reduceLeDiff, Nat.reduceEqDiff, Nat.reduceBEq, Nat.reduceBNe, reduceIte, reduceCtorEq, Int.reduceToNat, Int.reduceLT, Int.reduceLE, Int.reduceEq, Int.reduceNe, Int.reduceNeg, ustrA, ti3, ti4, ti5, ti9, ti22, ti25, ti26, ti34, ca6, ca7, ca8, ca9, cf, Try.results5, byteRows_length, e1, e2]
      refine callK_intro (by simp only [zW, zX, zD, builtinA, isLeaf, const1, Nat.reduceAdd, Nat.reduceMul, Nat.reduceSub, Nat.reduceLT, Nat.reduceLeDiff, Nat.reduceEqDiff, Nat.reduceBEq, Nat.reduceBNe, reduceIte, reduceCtorEq, Int.reduceToNat, Int.reduceLT, Int.reduceLE, Int.reduceEq, Int.reduceNe, Int.reduceNeg, ustrA]; rfl) (spec_DrawSubstType bs _) ?_ rfl
      rintro v A' ⟨τ, l, rfl, hs, hl, hbd, rfl⟩
      simp only [zW, zX, zD, builtinA, isLeaf, const1, Nat.reduceAdd, Nat.reduceMul, Nat.reduceSub, Nat.reduceLT, Nat.reduceLeDiff, Nat.reduceEqDiff, Nat.reduceBEq, Nat.reduceBNe, reduceIte, reduceCtorEq, Int.reduceToNat, Int.reduceLT, Int.reduceLE, Int.reduceEq, Int.reduceNe, Int.reduceNeg, ustrA, ti3, ti4, ti5, ti9, ti22, ti25, ti26, ti34, ca6, ca7, ca8, ca9, cf, Try.results5, enc_length, enc_take, enc_drop, frzL_enc, enc_closed, Option.map_some]
      refine callK_intro (by simp only [zW, zX, zD, builtinA, isLeaf, const1, Nat.reduceAdd, Nat.reduceMul, Nat.reduceSub, Nat.reduceLT, Nat.reduceLeDiff, Nat.reduceEqDiff, Nat.reduceBEq, Nat.reduceBNe, reduceIte, reduceCtorEq, Int.reduceToNat, Int.reduceLT, Int.reduceLE, Int.reduceEq, Int.reduceNe, Int.reduceNeg, ustrA, enc_length, enc_take, enc_drop, frzL_enc, enc_closed, Option.map_some]; rfl) (spec_DrawSubstType cs _) ?_ rfl
      rintro v A' ⟨τ2, l2, rfl, hs2, hl2, hbd2, rfl⟩
      have hτ := okSz τ (by omega)
      have hbo := bds_ok hbd
      have hbo2 := bds_ok hbd2
      obtain ⟨o, ho⟩ := subIs_ex τ l
      obtain ⟨k', m', n', ks', hρ⟩ : ∃ k m n ks, oTyS o = .mk k m n ks := by cases oTyS o; exact ⟨_, _, _, _, rfl⟩
      have hszρ := sz_oTyS ho
      have hspec : ∀ A, ACalls Try.prog 8 [.agg (enc τ), .slice (bEs l)] A (fun r A' => r = .tuple [.agg (enc (.mk k' m' n' ks')), .bool o.isSome] ∧ A' = A) := fun A => (spec_SubstType τ hτ (by omega) l (by omega) hbo A).mono fun r A' h => by
        obtain ⟨⟨o', h1, h2⟩, h3⟩ := h
        exact ⟨by rw [h2, ← subIs_one ho h1, hρ], h3⟩
      have himpl : ∀ A, ACalls Try.prog 7 [.agg (enc τ), .slice (bEs l)] A (OutS A k' m' n' ks' o.isSome) := fun A => (impl_subst_new ho (by omega) (fun b hb => (hbo b hb).1) A).mono fun r A' h => outS_of hρ h
      obtain ⟨o2, ho2⟩ := subIs_ex (.mk k' m' n' ks') l2
      obtain ⟨k2, m2, n2, ks2, hρ2⟩ : ∃ k m n ks, oTyS o2 = .mk k m n ks := by cases oTyS o2; exact ⟨_, _, _, _, rfl⟩
      have himpb : ∀ (A : List Box) (args : List AV), Views A args [.agg (enc (.mk k' m' n' ks')), .slice (bEs l2)] → ACalls Try.prog 7 args A (OutS A k2 m2 n2 ks2 o2.isSome) := fun A args h => (impl_subst_b ho2 (by omega) (fun b hb => (hbo2 b hb).1) h).mono fun r A' h => outS_of hρ2 h
      have htr := fun A => impl_TypeSame (.mk k' m' n' ks') (.mk k' m' n' ks') (by rw [← hρ]; omega) (by rw [← hρ]; omega) A
      rw [decide_eq_true rfl] at htr
      simp only [zW, zX, zD, builtinA, isLeaf, const1, Nat.reduceAdd, Nat.reduceMul, Nat.reduceSub, Nat.reduceLT, Nat.reduceLeDiff, Nat.reduceEqDiff, Nat.reduceBEq, Nat.reduceBNe, reduceIte, reduceCtorEq, Int.reduceToNat, Int.reduceLT, Int.reduceLE, Int.reduceEq, Int.reduceNe, Int.reduceNeg, ustrA, ti3, ti4, ti5, ti9, ti22, ti25, ti26, ti34, ca6, ca7, ca8, ca9, cf, Try.results5, enc_length, enc_take, enc_drop, frzL_enc, enc_closed, Option.map_some]
      refine callO_intro (himpl _) ?_
      rintro r A1 ⟨B1, v1, S1, rfl, rfl, hK1, hN1, hR1⟩
      simp only [zW, zX, zD, builtinA, isLeaf, const1, Nat.reduceAdd, Nat.reduceMul, Nat.reduceSub, Nat.reduceLT, Nat.reduceLeDiff, Nat.reduceEqDiff, Nat.reduceBEq, Nat.reduceBNe, reduceIte, reduceCtorEq, Int.reduceToNat, Int.reduceLT, Int.reduceLE, Int.reduceEq, Int.reduceNe, Int.reduceNeg, ustrA, ti3, ti4, ti5, ti9, ti22, ti25, ti26, ti34, ca6, ca7, ca8, ca9, cf, Try.results5, enc_length, enc_take, enc_drop, frzL_enc, enc_closed, Option.map_some]
      refine callO_intro (hspec _) ?_
      rintro r A2 ⟨rfl, rfl⟩
      have b0 : (Box.cells (enc τ) :: Box.cells (enc τ2) :: (B1 ++ [Box.cells [.int .i64 k', .str m', .str n', v1], .cells (enc (.mk k' m' n' ks'))])).getD 0 .dead = .cells (enc τ) := rfl
      have b1 : (Box.cells (enc τ) :: Box.cells (enc τ2) :: (B1 ++ [Box.cells [.int .i64 k', .str m', .str n', v1], .cells (enc (.mk k' m' n' ks'))])).getD (B1.length + 1 + 1) .dead = .cells [.int .i64 k', .str m', .str n', v1] := by simp [List.getD]
      have b2 : (Box.cells (enc τ) :: Box.cells (enc τ2) :: (B1 ++ [Box.cells [.int .i64 k', .str m', .str n', v1], .cells (enc (.mk k' m' n' ks'))])).getD (B1.length + 1 + 1 + 1) .dead = .cells (enc (.mk k' m' n' ks')) := by simp [List.getD]
      have hK2 : OwnK (Box.cells (enc τ) :: Box.cells (enc τ2) :: (B1 ++ [Box.cells [.int .i64 k', .str m', .str n', v1], .cells (enc (.mk k' m' n' ks'))])) ks' v1 S1 := hK1.frame fun i hi => by
        have := (hR1 i hi).2
        rw [show (Box.cells (enc τ) :: Box.cells (enc τ2) :: (B1 ++ [Box.cells [.int .i64 k', .str m', .str n', v1], .cells (enc (.mk k' m' n' ks'))])) = ([Box.cells (enc τ), .cells (enc τ2)] ++ B1) ++ [Box.cells [.int .i64 k', .str m', .str n', v1], .cells (enc (.mk k' m' n' ks'))] by simp, Abs.getD_append_left this]
      have hl0 : B1.length + 1 + 1 + 1 < (Box.cells (enc τ) :: Box.cells (enc τ2) :: (B1 ++ [Box.cells [.int .i64 k', .str m', .str n', v1], .cells (enc (.mk k' m' n' ks'))])).length := by simp
      simp only [zW, zX, zD, builtinA, isLeaf, const1, Nat.reduceAdd, Nat.reduceMul, Nat.reduceSub, Nat.reduceLT, Nat.reduceLeDiff, Nat.reduceEqDiff, Nat.reduceBEq, Nat.reduceBNe, reduceIte, reduceCtorEq, Int.reduceToNat, Int.reduceLT, Int.reduceLE, Int.reduceEq, Int.reduceNe, Int.reduceNeg, ustrA, ti3, ti4, ti5, ti9, ti22, ti25, ti26, ti34, ca6, ca7, ca8, ca9, cf, Try.results5, enc_length, enc_take, enc_drop, frzL_enc, enc_closed, Option.map_some]
      have hv2 := hK2.viewT k' m' n'
      clear hK1 hR1
      generalize (Box.cells (enc τ) :: Box.cells (enc τ2) :: (B1 ++ [Box.cells [.int .i64 k', .str m', .str n', v1], .cells (enc (.mk k' m' n' ks'))])) = A2 at *
      refine callO_intro (himpb _ _ (.cons hv2 (.cons (.leaf _ rfl) .nil))) ?_
      rintro r A3 ⟨B3, v3, S3, hA3, rfl, hK3, hN3, hR3⟩
      simp only [zW, zX, zD, builtinA, isLeaf, const1, Nat.reduceAdd, Nat.reduceMul, Nat.reduceSub, Nat.reduceLT, Nat.reduceLeDiff, Nat.reduceEqDiff, Nat.reduceBEq, Nat.reduceBNe, reduceIte, reduceCtorEq, Int.reduceToNat, Int.reduceLT, Int.reduceLE, Int.reduceEq, Int.reduceNe, Int.reduceNeg, ustrA, ti3, ti4, ti5, ti9, ti22, ti25, ti26, ti34, ca6, ca7, ca8, ca9, cf, Try.results5, enc_length, enc_take, enc_drop, frzL_enc, enc_closed, Option.map_some]
      have fr : ∀ i, i < A2.length → (A3 ++ [Box.cells [.int .i64 k2, .str m2, .str n2, v3]]).getD i .dead = A2.getD i .dead := fun i hi => by
        rw [hA3, List.append_assoc, Abs.getD_append_left hi]
      have c0 := (fr 0 (by omega)).trans b0
      have c1 := (fr (B1.length + 1 + 1) (by omega)).trans b1
      have c2 := (fr (B1.length + 1 + 1 + 1) (by omega)).trans b2
      have c3 : (A3 ++ [Box.cells [.int .i64 k2, .str m2, .str n2, v3]]).getD A3.length .dead = .cells [.int .i64 k2, .str m2, .str n2, v3] := by rw [Abs.getD_append_right (Nat.le_refl _)]; simp
      have hK4 : OwnK (A3 ++ [Box.cells [.int .i64 k2, .str m2, .str n2, v3]]) ks2 v3 S3 := hK3.frame fun i hi => by rw [Abs.getD_append_left (hR3 i hi).2]
      have hK5 : OwnK (A3 ++ [Box.cells [.int .i64 k2, .str m2, .str n2, v3]]) ks' v1 S1 := hK2.frame fun i hi => fr i (hK2.low i hi)
      have l4 : A3.length < (A3 ++ [Box.cells [.int .i64 k2, .str m2, .str n2, v3]]).length := by simp
      have l5 : A2.length ≤ A3.length := by rw [hA3]; simp
      clear hK3 hR3 hA3 fr hK2 hv2
      generalize (A3 ++ [Box.cells [.int .i64 k2, .str m2, .str n2, v3]]) = A4 at *
      simp only [zW, zX, zD, builtinA, isLeaf, const1, Nat.reduceAdd, Nat.reduceMul, Nat.reduceSub, Nat.reduceLT, Nat.reduceLeDiff, Nat.reduceEqDiff, Nat.reduceBEq, Nat.reduceBNe, reduceIte, reduceCtorEq, Int.reduceToNat, Int.reduceLT, Int.reduceLE, Int.reduceEq, Int.reduceNe, Int.reduceNeg, ustrA, ti3, ti4, ti5, ti9, ti22, ti25, ti26, ti34, ca6, ca7, ca8, ca9, cf, Try.results5, c0, c1, c2, c3, enc_length, enc_take, enc_drop, frzL_enc, enc_closed, Option.map_some]
      refine callO_intro (borrowI (.cons (hK5.viewT k' m' n') (.cons (viewNS _ _) .nil)) rfl htr) ?_
      rintro r A' ⟨rfl, rfl⟩
      rcases o with _ | w
      · simp only [zW, zX, zD, builtinA, isLeaf, const1, Nat.reduceAdd, Nat.reduceMul, Nat.reduceSub, Nat.reduceLT, Nat.reduceLeDiff, Nat.reduceEqDiff, Nat.reduceBEq, Nat.reduceBNe, reduceIte, reduceCtorEq, Int.reduceToNat, Int.reduceLT, Int.reduceLE, Int.reduceEq, Int.reduceNe, Int.reduceNeg, ustrA, ti3, ti4, ti5, ti9, ti22, ti25, ti26, ti34, ca6, ca7, ca8, ca9, cf, Try.results5, c0, c1, c2, c3, enc_length, enc_take, enc_drop, frzL_enc, enc_closed, Option.map_some, Option.isSome_none]
        refine callO_intro (borrowI (.cons (hK5.viewT k' m' n') (.cons (viewNS _ _) .nil)) rfl htr) ?_
        rintro r A' ⟨rfl, rfl⟩
        simp only [zW, zX, zD, builtinA, isLeaf, const1, Nat.reduceAdd, Nat.reduceMul, Nat.reduceSub, Nat.reduceLT, Nat.reduceLeDiff, Nat.reduceEqDiff, Nat.reduceBEq, Nat.reduceBNe, reduceIte, reduceCtorEq, Int.reduceToNat, Int.reduceLT, Int.reduceLE, Int.reduceEq, Int.reduceNe, Int.reduceNeg, ustrA, ti3, ti4, ti5, ti9, ti22, ti25, ti26, ti34, ca6, ca7, ca8, ca9, cf, Try.results5]
      rcases o2 with _ | u
      · simp only [zW, zX, zD, builtinA, isLeaf, const1, Nat.reduceAdd, Nat.reduceMul, Nat.reduceSub, Nat.reduceLT, Nat.reduceLeDiff, Nat.reduceEqDiff, Nat.reduceBEq, Nat.reduceBNe, reduceIte, reduceCtorEq, Int.reduceToNat, Int.reduceLT, Int.reduceLE, Int.reduceEq, Int.reduceNe, Int.reduceNeg, ustrA, ti3, ti4, ti5, ti9, ti22, ti25, ti26, ti34, ca6, ca7, ca8, ca9, cf, Try.results5, c0, c1, c2, c3, enc_length, enc_take, enc_drop, frzL_enc, enc_closed, Option.map_some, Option.isSome_none, Option.isSome_some]
        refine callO_intro (borrowI (.cons (hK5.viewT k' m' n') (.cons (viewNS _ _) .nil)) rfl htr) ?_
        rintro r A' ⟨rfl, rfl⟩
        simp only [zW, zX, zD, builtinA, isLeaf, const1, Nat.reduceAdd, Nat.reduceMul, Nat.reduceSub, Nat.reduceLT, Nat.reduceLeDiff, Nat.reduceEqDiff, Nat.reduceBEq, Nat.reduceBNe, reduceIte, reduceCtorEq, Int.reduceToNat, Int.reduceLT, Int.reduceLE, Int.reduceEq, Int.reduceNe, Int.reduceNeg, ustrA, ti3, ti4, ti5, ti9, ti22, ti25, ti26, ti34, ca6, ca7, ca8, ca9, cf, Try.results5]
      obtain ⟨v, bdA, rfl, hv, rfl, hokA, hw⟩ := subIs_bd ho
      rw [← hρ, oTyS] at ho2
      obtain ⟨w', bdB, hww, hvw, rfl, hokB, hu⟩ := subIs_bd ho2
      obtain rfl := toTy_injS hww
      have hVu := subIs_some ho2
      simp only [zW, zX, zD, builtinA, isLeaf, const1, Nat.reduceAdd, Nat.reduceMul, Nat.reduceSub, Nat.reduceLT, Nat.reduceLeDiff, Nat.reduceEqDiff, Nat.reduceBEq, Nat.reduceBNe, reduceIte, reduceCtorEq, Int.reduceToNat, Int.reduceLT, Int.reduceLE, Int.reduceEq, Int.reduceNe, Int.reduceNeg, ustrA, ti3, ti4, ti5, ti9, ti22, ti25, ti26, ti34, ca6, ca7, ca8, ca9, cf, Try.results5, c0, c1, c2, c3, enc_length, enc_take, enc_drop, frzL_enc, enc_closed, Option.map_some, Option.isSome_some]
      have hm : ∀ q ∈ bdA, okQ q := hokA
      have gf : ∀ i, i < A'.length → (A' ++ [Box.row 6 [] 0]).getD i .dead = A'.getD i .dead := fun i hi => Abs.getD_append_left hi
      have gs : (A' ++ [Box.row 6 [] 0]).getD A'.length .dead = .row 6 [] 0 := by rw [Abs.getD_append_right (Nat.le_refl _)]; simp
      have gl : A'.length < (A' ++ [Box.row 6 [] 0]).length := by simp
      generalize (A' ++ [Box.row 6 [] 0]) = A9 at *
      have hlA : bdA.length ≤ 3 := by simpa using hl
      refine aloop_intro [5, 6, 8, 13, 15, 16] (fun e H => ∃ (i s : Nat) (S : List Nat), i ≤ bdA.length ∧ e = [(5, .ptr 0 0), (6, .slice (bEs (bdA.map ofB))), (8, .slice (bEs (bdB.map ofB))), (13, .ptr A3.length 0), (15, .own s), (16, .int .i64 i)] ∧ (∀ q, q < A'.length → H.getD q .dead = A'.getD q .dead) ∧ BothAt H s ((compB (foldB bdB) (bdA.take i)).map ofB) S ∧ A'.length ≤ s ∧ s < H.length ∧ s ∉ S ∧ ∀ q ∈ bdA.take i, VOk (subV (foldB bdB) q.2)) (fun e _ => bdA.length - (intOf (Abs.look 16 e)).toNat) ?_ ?_
      · simp only [zW, zX, zD, builtinA, isLeaf, const1, Nat.reduceAdd, Nat.reduceMul, Nat.reduceSub, Nat.reduceLT, Nat.reduceLeDiff, Nat.reduceEqDiff, Nat.reduceBEq, Nat.reduceBNe, reduceIte, reduceCtorEq, Int.reduceToNat, Int.reduceLT, Int.reduceLE, Int.reduceEq, Int.reduceNe, Int.reduceNeg, ustrA, ti3, ti4, ti5, ti9, ti22, ti25, ti26, ti34, ca6, ca7, ca8, ca9, cf, Try.results5]
        exact ⟨0, A'.length, [], by omega, rfl, gf, ⟨[], .inr gs, by rw [compB]; exact ⟨rfl, rfl⟩⟩, Nat.le_refl _, gl, by simp, fun q hq => by simp at hq⟩
      · clear gf gs gl
        rintro e H ⟨i, s, S, hi, rfl, gf, ⟨rows, hrow, hO⟩, hs1, gl, hsS, hVi⟩
        simp only [zW, zX, zD, builtinA, isLeaf, const1, Nat.reduceAdd, Nat.reduceMul, Nat.reduceSub, Nat.reduceLT, Nat.reduceLeDiff, Nat.reduceEqDiff, Nat.reduceBEq, Nat.reduceBNe, reduceIte, reduceCtorEq, Int.reduceToNat, Int.reduceLT, Int.reduceLE, Int.reduceEq, Int.reduceNe, Int.reduceNeg, ustrA, ti3, ti4, ti5, ti9, ti22, ti25, ti26, ti34, ca6, ca7, ca8, ca9, cf, Try.results5, bEs_length, List.length_map]
        refine condK_intro (fun h2 => ?_) (fun h2 => ?_)
        · have hi2 : i < bdA.length := by simpa using h2
          have hi1 : IntKind.i64.wrap ((i : Int) + 1) = ((i + 1 : Nat) : Int) := by rw [wrap64 (by omega) (by omega)]; rfl
          have pi : (0 : Int) ≤ (i : Int) ∧ (i : Int) < (bdA.length : Int) := ⟨by omega, by omega⟩
          obtain ⟨q, hq⟩ : ∃ q, q = bdA[i] := ⟨_, rfl⟩
          have hqm : q ∈ bdA := by rw [hq]; exact List.getElem_mem hi2
          have htk : bdA.take (i + 1) = bdA.take i ++ [q] := by rw [List.take_add_one, hq]; simp [hi2]
          obtain ⟨kq, mq, nq, ksq, hkq, hbq⟩ := bE_ofB q
          have hgi : (bEs (bdA.map ofB)).getD i [] = [.str q.1.1, .str q.1.2, .int .i64 kq, .str mq, .str nq, .slice (encs ksq)] := by
            rw [bEs_getD (by simpa using hi2), ← hbq]; congr 1; simp [List.getD, hi2, hq]
          obtain ⟨oi, hoi⟩ := subIs_ex (toTy q.2) (bdB.map ofB)
          obtain ⟨k3, m3, n3, ks3, hρ3⟩ : ∃ k m n ks, oTyS oi = .mk k m n ks := by cases oTyS oi; exact ⟨_, _, _, _, rfl⟩
          have himi : ∀ A, ACalls Try.prog 7 [.agg (enc (.mk kq mq nq ksq)), .slice (bEs (bdB.map ofB))] A (OutS A k3 m3 n3 ks3 oi.isSome) := fun A => by
            rw [← hkq]
            exact (impl_subst_new hoi (by omega) (fun b hb => (hbo2 b hb).1) A).mono fun r A' h => outS_of hρ3 h
          rw [enc_mk] at himi
          simp only [zW, zX, zD, builtinA, isLeaf, const1, Nat.reduceAdd, Nat.reduceMul, Nat.reduceSub, Nat.reduceLT, Nat.reduceLeDiff, Nat.reduceEqDiff, Nat.reduceBEq, Nat.reduceBNe, reduceIte, reduceCtorEq, Int.reduceToNat, Int.reduceLT, Int.reduceLE, Int.reduceEq, Int.reduceNe, Int.reduceNeg, ustrA, ti3, ti4, ti5, ti9, ti22, ti25, ti26, ti34, ca6, ca7, ca8, ca9, cf, Try.results5, hgi, pi.1, pi.2, bEs_length, List.length_map]
          refine callO_intro (himi _) ?_
          rintro r A5 ⟨B5, v5, S5, hA5, rfl, hK5', hN5, hR5⟩
          simp only [zW, zX, zD, builtinA, isLeaf, const1, Nat.reduceAdd, Nat.reduceMul, Nat.reduceSub, Nat.reduceLT, Nat.reduceLeDiff, Nat.reduceEqDiff, Nat.reduceBEq, Nat.reduceBNe, reduceIte, reduceCtorEq, Int.reduceToNat, Int.reduceLT, Int.reduceLE, Int.reduceEq, Int.reduceNe, Int.reduceNeg, ustrA, ti3, ti4, ti5, ti9, ti22, ti25, ti26, ti34, ca6, ca7, ca8, ca9, cf, Try.results5]
          rcases oi with _ | ui
          · simp only [zW, zX, zD, builtinA, isLeaf, const1, Nat.reduceAdd, Nat.reduceMul, Nat.reduceSub, Nat.reduceLT, Nat.reduceLeDiff, Nat.reduceEqDiff, Nat.reduceBEq, Nat.reduceBNe, reduceIte, reduceCtorEq, Int.reduceToNat, Int.reduceLT, Int.reduceLE, Int.reduceEq, Int.reduceNe, Int.reduceNeg, ustrA, ti3, ti4, ti5, ti9, ti22, ti25, ti26, ti34, ca6, ca7, ca8, ca9, cf, Try.results5, Option.isSome_none]
          · have hui : ui = subV (foldB bdB) q.2 := by
              obtain ⟨va, bdx, e3, _, e4, _, e5⟩ := subIs_bd hoi
              rw [e5, toTy_injS e3, ofB_inj e4]
            have hVui := subIs_some hoi
            have gf5 : ∀ i, i < H.length → (A5 ++ [Box.cells [.int .i64 k3, .str m3, .str n3, v5]]).getD i .dead = H.getD i .dead := fun i hi => by
              rw [hA5, List.append_assoc, Abs.getD_append_left hi]
            have g5 : (A5 ++ [Box.cells [.int .i64 k3, .str m3, .str n3, v5]]).getD A5.length .dead = .cells [.int .i64 k3, .str m3, .str n3, v5] := by rw [Abs.getD_append_right (Nat.le_refl _)]; simp
            have hK6 : OwnK (A5 ++ [Box.cells [.int .i64 k3, .str m3, .str n3, v5]]) ks3 v5 S5 := hK5'.frame fun i hi => by rw [Abs.getD_append_left (hR5 i hi).2]
            have l6 : (A5 ++ [Box.cells [.int .i64 k3, .str m3, .str n3, v5]]).length = A5.length + 1 := by simp
            have l7 : H.length ≤ A5.length := by rw [hA5]; simp
            simp only [zW, zX, zD, builtinA, isLeaf, const1, Nat.reduceAdd, Nat.reduceMul, Nat.reduceSub, Nat.reduceLT, Nat.reduceLeDiff, Nat.reduceEqDiff, Nat.reduceBEq, Nat.reduceBNe, reduceIte, reduceCtorEq, Int.reduceToNat, Int.reduceLT, Int.reduceLE, Int.reduceEq, Int.reduceNe, Int.reduceNeg, ustrA, ti3, ti4, ti5, ti9, ti22, ti25, ti26, ti34, ca6, ca7, ca8, ca9, cf, Try.results5, Option.isSome_some]
            generalize (A5 ++ [Box.cells [.int .i64 k3, .str m3, .str n3, v5]]) = A6 at *
            clear hA5 hK5'
            refine .inr (drawI_intro (.pur 0 (.pur 1 (.pur 2 (.pur 3 (.pur 4 (.pur 5 (.pur 6 (.pur 7 (.pur 8 (.pur 9 (.pur 10 (.pur 11 (.pur 12 (.or 13 (.or 14 (.pur 15 .done) .stop) .stop)))))))))))))) (IBox A5.length (.cells [.int .i64 k3, .str m3, .str n3, v5])) (by kernel_rfl) ?_ ?_)
            · exact ⟨g5, by omega⟩
            iterate 13 (refine wpI_pur_intro (v := ?_) _ rfl rfl (by decide) rfl (fun A' hI => ?_) ?_; rotate_left 1; (simp only [zW, zX, zD, builtinA, isLeaf, const1, Nat.reduceAdd, Nat.reduceMul, Nat.reduceSub, Nat.reduceLT, Nat.reduceLeDiff, Nat.reduceEqDiff, Nat.reduceBEq, Nat.reduceBNe, reduceIte, reduceCtorEq, Int.reduceToNat, Int.reduceLT, Int.reduceLE, Int.reduceEq, Int.reduceNe, Int.reduceNeg, ustrA, ti3, ti4, ti5, ti9, ti22, ti25, ti26, ti34, ca6, ca7, ca8, ca9, cf, Try.results5, hI.1, hI.2, hgi, pi.1, pi.2, bEs_length, List.length_map]; first | exact ⟨rfl, rfl⟩ | exact rfl))
            have hrl : rows.length ≤ 3 := by rw [hO.length]; simp [compB]; omega
            have hSl := hO.low
            have hS5 := hR5
            have hfrK : ∀ X Y x, x ≠ s → x < A6.length → ((A6 ++ [X]).set s .dead ++ [Y]).getD x .dead = A6.getD x .dead := fun X Y x h1 h2 => by
              rw [Abs.getD_append_left (by simp; omega), Abs.getD_set_ne' (Ne.symm h1), Abs.getD_append_left h2]
            have hsK : ∀ X Y, ((A6 ++ [X]).set s .dead ++ [Y]).getD (A6.length + 1) .dead = Y := fun X Y => by rw [Abs.getD_append_right (by simp)]; simp
            have hgfK : ∀ X Y x, x < A'.length → ((A6 ++ [X]).set s .dead ++ [Y]).getD x .dead = A'.getD x .dead := fun X Y x h => by
              rw [hfrK X Y x (by omega) (by omega), gf5 x (by omega)]; exact gf x h
            have hOK : ∀ X Y, OwnB ((A6 ++ [X]).set s .dead ++ [Y]) ((compB (foldB bdB) (bdA.take i)).map ofB) rows S := fun X Y => hO.frame fun x hx => by
              have h1 := hSl x hx
              rw [hfrK X Y x (fun e => hsS (e ▸ hx)) (by omega), gf5 x h1]
            have hKK : ∀ X Y, OwnK ((A6 ++ [X]).set s .dead ++ [Y]) ks3 v5 S5 := fun X Y => hK6.frame fun x hx => by
              have h1 := hS5 x hx
              exact hfrK X Y x (by omega) (by omega)
            have hone : ∀ A v, OwnK A ks3 v S5 → OwnB A ((compB (foldB bdB) [q]).map ofB) [[.str q.1.1, .str q.1.2, .int .i64 k3, .str m3, .str n3, v]] S5 := fun A v h => by
              have hty : toTy (subV (foldB bdB) q.2) = .mk k3 m3 n3 ks3 := by rw [← hui]; exact hρ3
              simp only [compB, List.map_cons, List.map_nil, OwnB, ofB, bRow, hty, Ty.kind, Ty.mod, Ty.name, Ty.kids]
              exact ⟨v, [], S5, [], rfl, by simp, h, rfl, rfl⟩
            have hsplit : (compB (foldB bdB) (bdA.take (i + 1))).map ofB = (compB (foldB bdB) (bdA.take i)).map ofB ++ (compB (foldB bdB) [q]).map ofB := by rw [htk]; simp [compB]
            have hVn : ∀ x ∈ bdA.take (i + 1), VOk (subV (foldB bdB) x.2) := fun x hx => by
              rw [htk] at hx
              rcases List.mem_append.1 hx with hx | hx
              · exact hVi x hx
              · rw [List.mem_singleton.1 hx, ← hui]; exact hVui
            have hsn : A6.length + 1 ∉ S ++ S5 := fun h => by
              rcases List.mem_append.1 h with h | h
              · have := hSl _ h; omega
              · have := (hS5 _ h).2; omega
            have hrow6 := hrow
            rw [← gf5 s gl] at hrow6
            rcases hrow6 with hrow6 | hrow6 <;> rcases hK6 with ⟨rfl, rfl, rfl⟩ | ⟨rfl, rfl, rfl⟩ | ⟨jv, rws, S', rfl, rfl, hgv, hOv⟩
            all_goals first | (simp only [zW, zX, zD, builtinA, isLeaf, const1, Nat.reduceAdd, Nat.reduceMul, Nat.reduceSub, Nat.reduceLT, Nat.reduceLeDiff, Nat.reduceEqDiff, Nat.reduceBEq, Nat.reduceBNe, reduceIte, reduceCtorEq, Int.reduceToNat, Int.reduceLT, Int.reduceLE, Int.reduceEq, Int.reduceNe, Int.reduceNeg, ustrA, ti3, ti4, ti5, ti9, ti22, ti25, ti26, ti34, ca6, ca7, ca8, ca9, cf, Try.results5, hgv, wpI_or_eq, wpI_stop_eq, wpI_done_eq]) | (simp only [zW, zX, zD, builtinA, isLeaf, const1, Nat.reduceAdd, Nat.reduceMul, Nat.reduceSub, Nat.reduceLT, Nat.reduceLeDiff, Nat.reduceEqDiff, Nat.reduceBEq, Nat.reduceBNe, reduceIte, reduceCtorEq, Int.reduceToNat, Int.reduceLT, Int.reduceLE, Int.reduceEq, Int.reduceNe, Int.reduceNeg, ustrA, ti3, ti4, ti5, ti9, ti22, ti25, ti26, ti34, ca6, ca7, ca8, ca9, cf, Try.results5, wpI_or_eq, wpI_stop_eq, wpI_done_eq])
            all_goals refine ⟨by simp [isElem, isLeaf], IBox.app ⟨g5, by omega⟩ _, ?_⟩
            all_goals rw [Abs.getD_append_left (by omega), hrow6]
            all_goals simp only [zW, zX, zD, builtinA, isLeaf, const1, Nat.reduceAdd, Nat.reduceMul, Nat.reduceSub, Nat.reduceLT, Nat.reduceLeDiff, Nat.reduceEqDiff, Nat.reduceBEq, Nat.reduceBNe, reduceIte, reduceCtorEq, Int.reduceToNat, Int.reduceLT, Int.reduceLE, Int.reduceEq, Int.reduceNe, Int.reduceNeg, ustrA, ti3, ti4, ti5, ti9, ti22, ti25, ti26, ti34, ca6, ca7, ca8, ca9, cf, Try.results5, wpI_or_eq, wpI_stop_eq, wpI_done_eq]
            all_goals refine ⟨by first | omega | (simp; omega), IBox.app (IBox.set (IBox.app ⟨g5, by omega⟩ _) (by omega) _) _, ?_⟩
            all_goals (refine wpI_pur_intro (v := ?_) _ rfl rfl (by decide) rfl (fun A' hI => ?_) ?_; rotate_left 1; (simp only [zW, zX, zD, builtinA, isLeaf, const1, Nat.reduceAdd, Nat.reduceMul, Nat.reduceSub, Nat.reduceLT, Nat.reduceLeDiff, Nat.reduceEqDiff, Nat.reduceBEq, Nat.reduceBNe, reduceIte, reduceCtorEq, Int.reduceToNat, Int.reduceLT, Int.reduceLE, Int.reduceEq, Int.reduceNe, Int.reduceNeg, ustrA, ti3, ti4, ti5, ti9, ti22, ti25, ti26, ti34, ca6, ca7, ca8, ca9, cf, Try.results5, hI.1, hI.2]; first | exact ⟨rfl, rfl⟩ | exact rfl))
            all_goals simp only [zW, zX, zD, builtinA, isLeaf, const1, Nat.reduceAdd, Nat.reduceMul, Nat.reduceSub, Nat.reduceLT, Nat.reduceLeDiff, Nat.reduceEqDiff, Nat.reduceBEq, Nat.reduceBNe, reduceIte, reduceCtorEq, Int.reduceToNat, Int.reduceLT, Int.reduceLE, Int.reduceEq, Int.reduceNe, Int.reduceNeg, ustrA, ti3, ti4, ti5, ti9, ti22, ti25, ti26, ti34, ca6, ca7, ca8, ca9, cf, Try.results5, wpI_done_eq, hi1, LoopK_eq]
            all_goals refine ⟨⟨i + 1, A6.length + 1, _, by omega, rfl, hgfK _ _, ⟨_, (by first | exact .inl (hsK _ _) | exact .inr (hsK _ _)), by rw [hsplit]; exact OwnB.append (hOK _ _) (hone _ _ (by first | exact hKK _ _ | exact .inr (.inl ⟨rfl, rfl, rfl⟩)))⟩, by omega, by simp, hsn, hVn⟩, ?_⟩
            all_goals simp only [intOf]; omega
        · have : i = bdA.length := by simp at h2; omega
          subst this
          rw [List.take_length] at hO hVi
          have g0 := (gf 0 (by omega)).trans c0
          have hcomp := subIs_comp (u := u) hv (fun q hq => ⟨hokA q hq, hVi q hq⟩) hokB hVu (by rw [hu, hw])
          rw [List.map_append] at hcomp
          have himp3 : ∀ A args, Views A args [.agg (enc (toTy v)), .slice (bEs ((compB (foldB bdB) bdA).map ofB ++ bdB.map ofB))] → ACalls Try.prog 7 args A (OutS A k2 m2 n2 ks2 true) := fun A args h => (impl_subst_b hcomp (by simp [compB]; simp at hl2; omega) (fun b hb => by
            rcases List.mem_append.1 hb with hb | hb
            · obtain ⟨q, hq, rfl⟩ := List.mem_map.1 hb
              obtain ⟨x, hx, rfl⟩ := List.mem_map.1 hq
              have := nm_short (hokA x hx).2
              exact ⟨by simp only [ofB]; omega, by simp only [ofB]; omega, ok_toTyS _ (hVi x hx).ok⟩
            · exact (hbo2 b hb).1) h).mono fun r A' h => outS_of hρ2 h
          have hyy := fun A => impl_TypeSame (.mk k2 m2 n2 ks2) (.mk k2 m2 n2 ks2) (by rw [← hρ2]; have := sz_oTyS ho2; omega) (by rw [← hρ2]; have := sz_oTyS ho2; omega) A
          rw [decide_eq_true rfl] at hyy
          have hrl : rows.length ≤ 3 := by rw [hO.length]; simp [compB]; omega
          simp only [zW, zX, zD, builtinA, isLeaf, const1, Nat.reduceAdd, Nat.reduceMul, Nat.reduceSub, Nat.reduceLT, Nat.reduceLeDiff, Nat.reduceEqDiff, Nat.reduceBEq, Nat.reduceBNe, reduceIte, reduceCtorEq, Int.reduceToNat, Int.reduceLT, Int.reduceLE, Int.reduceEq, Int.reduceNe, Int.reduceNeg, ustrA, ti3, ti4, ti5, ti9, ti22, ti25, ti26, ti34, ca6, ca7, ca8, ca9, cf, Try.results5]
          refine .inr (drawI_intro (.pur 0 (.pur 1 (.pur 2 (.or 3 (.or 4 (.pur 5 (.pur 6 (.pur 7 (.or 8 (.or 9 (.pur 10 .done) .stop) .stop)))) (.or 8 (.or 4 (.pur 5 (.pur 6 (.pur 7 (.or 9 (.pur 10 .done) .stop)))) .stop) .stop)) (.or 8 (.or 3 (.or 4 (.pur 5 (.pur 6 (.pur 7 (.or 9 (.pur 10 .done) .stop)))) .stop) .stop) .stop))))) (IBox 0 (.cells (enc (toTy v)))) (by kernel_rfl) ?_ ?_)
          · exact ⟨g0, by omega⟩
          iterate 3 (refine wpI_pur_intro (v := ?_) _ rfl rfl (by decide) rfl (fun A' hI => ?_) ?_; rotate_left 1; (simp only [zW, zX, zD, builtinA, isLeaf, const1, Nat.reduceAdd, Nat.reduceMul, Nat.reduceSub, Nat.reduceLT, Nat.reduceLeDiff, Nat.reduceEqDiff, Nat.reduceBEq, Nat.reduceBNe, reduceIte, reduceCtorEq, Int.reduceToNat, Int.reduceLT, Int.reduceLE, Int.reduceEq, Int.reduceNe, Int.reduceNeg, ustrA, ti3, ti4, ti5, ti9, ti22, ti25, ti26, ti34, ca6, ca7, ca8, ca9, cf, Try.results5, hI.1, hI.2, enc_length, enc_take, enc_drop, frzL_enc, enc_closed, Option.map_some]; first | exact ⟨rfl, rfl⟩ | exact rfl))
          have hI2 : IBox 0 (Box.cells (enc (toTy v))) H := ⟨g0, by omega⟩
          have hIB : ∀ L, IBox 0 (.cells (enc (toTy v))) (H.set s .dead ++ L) := fun L => IBox.app (IBox.set hI2 (by omega) _) L
          have hIB3 : ∀ X L, IBox 0 (.cells (enc (toTy v))) ((H ++ X).set s .dead ++ L) := fun X L => IBox.app (IBox.set (IBox.app hI2 X) (by omega) _) L
          have hc1 : ∀ r ∈ bEs (bdB.map ofB), r.length = 6 := fun r hr => by obtain ⟨t, _, rfl⟩ := List.mem_map.1 hr; exact bE_length t
          have hc2 : rows.length + (bEs (bdB.map ofB)).length ≤ 1073741824 := by rw [bEs_length]; omega
          have hvw : ∀ HH idx, (∀ x, x ≠ s → x < H.length → HH.getD x .dead = H.getD x .dead) → (HH.getD idx .dead = .gr none 6 (rows ++ bEs (bdB.map ofB)) ∨ HH.getD idx .dead = .row 6 (rows ++ bEs (bdB.map ofB)) 0) → View HH (.own idx) (.slice (bEs ((compB (foldB bdB) bdA).map ofB ++ bdB.map ofB))) := fun HH idx hf hbx => by
            have hO2 := hO.frame (A' := HH) fun x hx => hf x (fun e => hsS (e ▸ hx)) (hO.low x hx)
            obtain ⟨q1, q2, q3⟩ := rows_viewB (bs2 := bdB.map ofB) hO2
            rcases hbx with hbx | hbx
            · exact .gr idx 6 none _ _ hbx q1 q2 q3
            · exact .row idx 6 0 _ _ hbx q1 q2 q3
          have hf1 : ∀ L x, x ≠ s → x < H.length → (H.set s .dead ++ L).getD x .dead = H.getD x .dead := fun L x h1 h2 => by
            rw [Abs.getD_append_left (by simpa using h2), Abs.getD_set_ne' (Ne.symm h1)]
          have hf3 : ∀ X L x, x ≠ s → x < H.length → ((H ++ X).set s .dead ++ L).getD x .dead = H.getD x .dead := fun X L x h1 h2 => by
            rw [Abs.getD_append_left (by simp; omega), Abs.getD_set_ne' (Ne.symm h1), Abs.getD_append_left h2]
          have hx1 : ∀ Y L, (H.set s .dead ++ (Y :: L)).getD H.length .dead = Y := fun Y L => by rw [Abs.getD_append_right (by simp)]; simp
          have hx3 : ∀ X Y L, ((H ++ [X]).set s .dead ++ (Y :: L)).getD (H.length + 1) .dead = Y := fun X Y L => by rw [Abs.getD_append_right (by simp)]; simp
          rcases hrow with hrow | hrow
          all_goals simp only [zW, zX, zD, builtinA, isLeaf, const1, Nat.reduceAdd, Nat.reduceMul, Nat.reduceSub, Nat.reduceLT, Nat.reduceLeDiff, Nat.reduceEqDiff, Nat.reduceBEq, Nat.reduceBNe, reduceIte, reduceCtorEq, Int.reduceToNat, Int.reduceLT, Int.reduceLE, Int.reduceEq, Int.reduceNe, Int.reduceNeg, ustrA, ti3, ti4, ti5, ti9, ti22, ti25, ti26, ti34, ca6, ca7, ca8, ca9, cf, Try.results5, hrow, wpI_or_eq, wpI_stop_eq, wpI_done_eq]
          all_goals repeat' with_reducible refine And.intro ?_ ?_
          all_goals first | exact hc1 | exact hc2 | exact hIB _ | exact IBox.app hI2 _ | (intro _; trivial) | skip
          all_goals try (rw [Abs.getD_append_left gl, hrow]; simp only [zW, zX, zD, builtinA, isLeaf, const1, Nat.reduceAdd, Nat.reduceMul, Nat.reduceSub, Nat.reduceLT, Nat.reduceLeDiff, Nat.reduceEqDiff, Nat.reduceBEq, Nat.reduceBNe, reduceIte, reduceCtorEq, Int.reduceToNat, Int.reduceLT, Int.reduceLE, Int.reduceEq, Int.reduceNe, Int.reduceNeg, ustrA, ti3, ti4, ti5, ti9, ti22, ti25, ti26, ti34, ca6, ca7, ca8, ca9, cf, Try.results5, wpI_or_eq, wpI_stop_eq, wpI_done_eq]; repeat' with_reducible refine And.intro ?_ ?_)
          all_goals first | exact hc1 | exact hc2 | exact hIB3 _ _ | (intro _; trivial) | skip
          all_goals refine callO_intro (himp3 _ _ (.cons (viewNS _ _) (.cons (hvw _ _ (by first | exact hf1 _ | exact hf3 _ _) (by first | exact .inl (hx1 _ _) | exact .inr (hx1 _ _) | exact .inl (hx3 _ _ _) | exact .inr (hx3 _ _ _))) .nil))) ?_
          all_goals rintro r A5 ⟨B5, v5, S5, hA5, rfl, hK5', hN5, hR5⟩
          all_goals have hI5 : IBox 0 (.cells (enc (toTy v))) A5 := by rw [hA5]; first | exact IBox.app (hIB _) _ | exact IBox.app (hIB3 _ _) _
          all_goals have hx5 : ∀ x, x < A'.length → A5.getD x .dead = A'.getD x .dead := fun x hx => (by rw [hA5, List.append_assoc]; first | exact (hf1 _ x (by omega) (by omega)).trans (gf x hx) | exact (hf3 _ _ x (by omega) (by omega)).trans (gf x hx))
          all_goals simp only [zW, zX, zD, builtinA, isLeaf, const1, Nat.reduceAdd, Nat.reduceMul, Nat.reduceSub, Nat.reduceLT, Nat.reduceLeDiff, Nat.reduceEqDiff, Nat.reduceBEq, Nat.reduceBNe, reduceIte, reduceCtorEq, Int.reduceToNat, Int.reduceLT, Int.reduceLE, Int.reduceEq, Int.reduceNe, Int.reduceNeg, ustrA, ti3, ti4, ti5, ti9, ti22, ti25, ti26, ti34, ca6, ca7, ca8, ca9, cf, Try.results5]
          all_goals refine ⟨hI5, ?_⟩
          all_goals iterate 3 (refine wpI_pur_intro (v := ?_) _ rfl rfl (by decide) rfl (fun A' hI => ?_) ?_; rotate_left 1; (simp only [zW, zX, zD, builtinA, isLeaf, const1, Nat.reduceAdd, Nat.reduceMul, Nat.reduceSub, Nat.reduceLT, Nat.reduceLeDiff, Nat.reduceEqDiff, Nat.reduceBEq, Nat.reduceBNe, reduceIte, reduceCtorEq, Int.reduceToNat, Int.reduceLT, Int.reduceLE, Int.reduceEq, Int.reduceNe, Int.reduceNeg, ustrA, ti3, ti4, ti5, ti9, ti22, ti25, ti26, ti34, ca6, ca7, ca8, ca9, cf, Try.results5, hI.1, hI.2]; first | exact ⟨rfl, rfl⟩ | exact rfl))
          all_goals simp only [zW, zX, zD, builtinA, isLeaf, const1, Nat.reduceAdd, Nat.reduceMul, Nat.reduceSub, Nat.reduceLT, Nat.reduceLeDiff, Nat.reduceEqDiff, Nat.reduceBEq, Nat.reduceBNe, reduceIte, reduceCtorEq, Int.reduceToNat, Int.reduceLT, Int.reduceLE, Int.reduceEq, Int.reduceNe, Int.reduceNeg, ustrA, ti3, ti4, ti5, ti9, ti22, ti25, ti26, ti34, ca6, ca7, ca8, ca9, cf, Try.results5, wpI_or_eq, wpI_stop_eq, wpI_done_eq]
          all_goals try (have hz : A5.getD (H.length + 1) .dead = .cells [.int .i64 0, .str [], .str [], .nils] := (by rw [hA5, Abs.getD_append_left (by simp), Abs.getD_append_right (by simp)]; simp); rw [hz]; simp only [zW, zX, zD, builtinA, isLeaf, const1, Nat.reduceAdd, Nat.reduceMul, Nat.reduceSub, Nat.reduceLT, Nat.reduceLeDiff, Nat.reduceEqDiff, Nat.reduceBEq, Nat.reduceBNe, reduceIte, reduceCtorEq, Int.reduceToNat, Int.reduceLT, Int.reduceLE, Int.reduceEq, Int.reduceNe, Int.reduceNeg, ustrA, ti3, ti4, ti5, ti9, ti22, ti25, ti26, ti34, ca6, ca7, ca8, ca9, cf, Try.results5, wpI_or_eq, wpI_stop_eq, wpI_done_eq])
          all_goals try (have hz : A5.getD H.length .dead = .cells [.int .i64 0, .str [], .str [], .nils] := (by rw [hA5, Abs.getD_append_left (by simp; omega), Abs.getD_append_left (by simp), Abs.getD_set_ne' (by omega), Abs.getD_append_right (Nat.le_refl _)]; simp); rw [hz]; simp only [zW, zX, zD, builtinA, isLeaf, const1, Nat.reduceAdd, Nat.reduceMul, Nat.reduceSub, Nat.reduceLT, Nat.reduceLeDiff, Nat.reduceEqDiff, Nat.reduceBEq, Nat.reduceBNe, reduceIte, reduceCtorEq, Int.reduceToNat, Int.reduceLT, Int.reduceLE, Int.reduceEq, Int.reduceNe, Int.reduceNeg, ustrA, ti3, ti4, ti5, ti9, ti22, ti25, ti26, ti34, ca6, ca7, ca8, ca9, cf, Try.results5, wpI_or_eq, wpI_stop_eq, wpI_done_eq])
          all_goals repeat' with_reducible refine And.intro ?_ ?_
          all_goals first | exact IBox.app hI5 _ | exact IBox.set hI5 (by omega) _ | skip
          all_goals (refine wpI_pur_intro (v := ?_) _ rfl rfl (by decide) rfl (fun A' hI => ?_) ?_; rotate_left 1; (simp only [zW, zX, zD, builtinA, isLeaf, const1, Nat.reduceAdd, Nat.reduceMul, Nat.reduceSub, Nat.reduceLT, Nat.reduceLeDiff, Nat.reduceEqDiff, Nat.reduceBEq, Nat.reduceBNe, reduceIte, reduceCtorEq, Int.reduceToNat, Int.reduceLT, Int.reduceLE, Int.reduceEq, Int.reduceNe, Int.reduceNeg, ustrA, ti3, ti4, ti5, ti9, ti22, ti25, ti26, ti34, ca6, ca7, ca8, ca9, cf, Try.results5, hI.1, hI.2]; first | exact ⟨rfl, rfl⟩ | exact rfl))
          all_goals simp only [zW, zX, zD, builtinA, isLeaf, const1, Nat.reduceAdd, Nat.reduceMul, Nat.reduceSub, Nat.reduceLT, Nat.reduceLeDiff, Nat.reduceEqDiff, Nat.reduceBEq, Nat.reduceBNe, reduceIte, reduceCtorEq, Int.reduceToNat, Int.reduceLT, Int.reduceLE, Int.reduceEq, Int.reduceNe, Int.reduceNeg, ustrA, ti3, ti4, ti5, ti9, ti22, ti25, ti26, ti34, ca6, ca7, ca8, ca9, cf, Try.results5, wpI_done_eq]
          all_goals first | (have e3 : ∀ Y, (A5 ++ [Y]).getD A3.length .dead = .cells [.int .i64 k2, .str m2, .str n2, v3] := (fun Y => (Abs.getD_append_left (by rw [hA5]; simp <;> omega)).trans ((hx5 _ l4).trans c3)); have hKa : ∀ Y, OwnK (A5 ++ [Y]) ks2 v5 S5 := (fun Y => hK5'.frame fun x hx => Abs.getD_append_left (hR5 x hx).2); have hKb : ∀ Y, OwnK (A5 ++ [Y]) ks2 v3 S3 := (fun Y => hK4.frame fun x hx => (Abs.getD_append_left (by have := hK4.low x hx; rw [hA5]; simp <;> omega)).trans (hx5 x (hK4.low x hx))); simp only [zW, zX, zD, builtinA, isLeaf, const1, Nat.reduceAdd, Nat.reduceMul, Nat.reduceSub, Nat.reduceLT, Nat.reduceLeDiff, Nat.reduceEqDiff, Nat.reduceBEq, Nat.reduceBNe, reduceIte, reduceCtorEq, Int.reduceToNat, Int.reduceLT, Int.reduceLE, Int.reduceEq, Int.reduceNe, Int.reduceNeg, ustrA, ti3, ti4, ti5, ti9, ti22, ti25, ti26, ti34, ca6, ca7, ca8, ca9, cf, Try.results5, e3]; refine callO_intro (borrowI (.cons ((hKa _).viewT k2 m2 n2) (.cons ((hKb _).viewT k2 m2 n2) .nil)) rfl hyy) ?_; rintro r A8 ⟨rfl, rfl⟩; simp only [zW, zX, zD, builtinA, isLeaf, const1, Nat.reduceAdd, Nat.reduceMul, Nat.reduceSub, Nat.reduceLT, Nat.reduceLeDiff, Nat.reduceEqDiff, Nat.reduceBEq, Nat.reduceBNe, reduceIte, reduceCtorEq, Int.reduceToNat, Int.reduceLT, Int.reduceLE, Int.reduceEq, Int.reduceNe, Int.reduceNeg, ustrA, ti3, ti4, ti5, ti9, ti22, ti25, ti26, ti34, ca6, ca7, ca8, ca9, cf, Try.results5]) | (have e2 : ∀ Y, (A5.set (H.length + 1) Y).getD (H.length + 1) .dead = Y := (fun Y => Abs.getD_set_self (by rw [hA5]; simp <;> omega)); have e3 : ∀ Y, (A5.set (H.length + 1) Y).getD A3.length .dead = .cells [.int .i64 k2, .str m2, .str n2, v3] := (fun Y => (Abs.getD_set_ne' (by omega)).trans ((hx5 _ l4).trans c3)); have hKa : ∀ Y, OwnK (A5.set (H.length + 1) Y) ks2 v5 S5 := (fun Y => hK5'.frame fun x hx => Abs.getD_set_ne' (by have := (hR5 x hx).1; simp at this; omega)); have hKb : ∀ Y, OwnK (A5.set (H.length + 1) Y) ks2 v3 S3 := (fun Y => hK4.frame fun x hx => (Abs.getD_set_ne' (by have := hK4.low x hx; omega)).trans (hx5 x (hK4.low x hx))); simp only [zW, zX, zD, builtinA, isLeaf, const1, Nat.reduceAdd, Nat.reduceMul, Nat.reduceSub, Nat.reduceLT, Nat.reduceLeDiff, Nat.reduceEqDiff, Nat.reduceBEq, Nat.reduceBNe, reduceIte, reduceCtorEq, Int.reduceToNat, Int.reduceLT, Int.reduceLE, Int.reduceEq, Int.reduceNe, Int.reduceNeg, ustrA, ti3, ti4, ti5, ti9, ti22, ti25, ti26, ti34, ca6, ca7, ca8, ca9, cf, Try.results5, e2, e3]; refine callO_intro (borrowI (.cons ((hKa _).viewT k2 m2 n2) (.cons ((hKb _).viewT k2 m2 n2) .nil)) rfl hyy) ?_; rintro r A8 ⟨rfl, rfl⟩; simp only [zW, zX, zD, builtinA, isLeaf, const1, Nat.reduceAdd, Nat.reduceMul, Nat.reduceSub, Nat.reduceLT, Nat.reduceLeDiff, Nat.reduceEqDiff, Nat.reduceBEq, Nat.reduceBNe, reduceIte, reduceCtorEq, Int.reduceToNat, Int.reduceLT, Int.reduceLE, Int.reduceEq, Int.reduceNe, Int.reduceNeg, ustrA, ti3, ti4, ti5, ti9, ti22, ti25, ti26, ti34, ca6, ca7, ca8, ca9, cf, Try.results5]) | (have e2 : ∀ Y, (A5.set (H.length) Y).getD (H.length) .dead = Y := (fun Y => Abs.getD_set_self (by rw [hA5]; simp <;> omega)); have e3 : ∀ Y, (A5.set (H.length) Y).getD A3.length .dead = .cells [.int .i64 k2, .str m2, .str n2, v3] := (fun Y => (Abs.getD_set_ne' (by omega)).trans ((hx5 _ l4).trans c3)); have hKa : ∀ Y, OwnK (A5.set (H.length) Y) ks2 v5 S5 := (fun Y => hK5'.frame fun x hx => Abs.getD_set_ne' (by have := (hR5 x hx).1; simp at this; omega)); have hKb : ∀ Y, OwnK (A5.set (H.length) Y) ks2 v3 S3 := (fun Y => hK4.frame fun x hx => (Abs.getD_set_ne' (by have := hK4.low x hx; omega)).trans (hx5 x (hK4.low x hx))); simp only [zW, zX, zD, builtinA, isLeaf, const1, Nat.reduceAdd, Nat.reduceMul, Nat.reduceSub, Nat.reduceLT, Nat.reduceLeDiff, Nat.reduceEqDiff, Nat.reduceBEq, Nat.reduceBNe, reduceIte, reduceCtorEq, Int.reduceToNat, Int.reduceLT, Int.reduceLE, Int.reduceEq, Int.reduceNe, Int.reduceNeg, ustrA, ti3, ti4, ti5, ti9, ti22, ti25, ti26, ti34, ca6, ca7, ca8, ca9, cf, Try.results5, e2, e3]; refine callO_intro (borrowI (.cons ((hKa _).viewT k2 m2 n2) (.cons ((hKb _).viewT k2 m2 n2) .nil)) rfl hyy) ?_; rintro r A8 ⟨rfl, rfl⟩; simp only [zW, zX, zD, builtinA, isLeaf, const1, Nat.reduceAdd, Nat.reduceMul, Nat.reduceSub, Nat.reduceLT, Nat.reduceLeDiff, Nat.reduceEqDiff, Nat.reduceBEq, Nat.reduceBNe, reduceIte, reduceCtorEq, Int.reduceToNat, Int.reduceLT, Int.reduceLE, Int.reduceEq, Int.reduceNe, Int.reduceNeg, ustrA, ti3, ti4, ti5, ti9, ti22, ti25, ti26, ti34, ca6, ca7, ca8, ca9, cf, Try.results5])

theorem substTwice_rec : ∀ t ∈ Try.f5.params.toList, Try.prog.readableRec t = true ∧ t < Try.prog.types.size := by
  rw [Try.params5]
  intro t ht
  simp at ht
  subst ht
  exact ⟨by kernel_rfl, of_decide_eq_true (by kernel_rfl)⟩
set_option maxRecDepth 100000 in
theorem substTwice_lifted (os : Os) (started : os.Started) (H : Type) (enc' : TypeId × Value → H) :
    ReturnsInHanded {} Try.checked os 5 .any (Rows.fnSubstTwiceSpec.pre6 enc' Try.prog Try.f5 Rows.fnSubstTwiceRow.domain false) (Rows.fnSubstTwiceSpec.post enc' Try.prog Try.f5 false true false false) := by
  refine returnsInHanded_of_change (C := Try.checked) ownk started (by kernel_rfl) Try.func5
    (ChangeSpec.witness6 (enc := enc') (C := Try.checked) false ⟨#[], #[.slice none 0 0, .slice none 0 0], []⟩ 8 (by kernel_rfl) (by kernel_rfl) (by kernel_rfl) (by kernel_rfl)) ?_
  intro W base args ds gs before hval0 hW hcnd _
  have hval : ∀ (j : Nat) t v, Try.f5.params[j]? = some t → args[j]? = some v → Value.okWide Try.prog W .any base t v := hval0
  have hW' := hW
  obtain ⟨p, q, hA0, hV, rfl, hfz, hnd⟩ := hW
  have hA : DataW.TrodAll enc' Try.prog W 0 (fun _ => true) true Try.f5.params.toList args.toList ds p := hA0
  rw [Try.params5] at hA hval
  have hlt := hA.lt
  obtain ⟨v0, v1, d0, d1, p0, p1, rfl, rfl, rfl, h0, h1⟩ := trodAll_two hA
  obtain ⟨rfl, rfl⟩ := trodVars_none hV
  obtain ⟨x0, r0⟩ := rv_bytes Try.underlying22 Try.underlying5 (by kernel_rfl) (hval 0 22 v0 rfl rfl) h0 (fun x hx => hlt x (by simp [hx]))
  obtain ⟨x1, r1⟩ := rv_bytes Try.underlying22 Try.underlying5 (by kernel_rfl) (hval 1 22 v1 rfl rfl) h1 (fun x hx => hlt x (by simp [hx]))
  refine (law_calls (substTwice_true x0 x1) (.cons r0 (.cons r1 .nil))).mono fun e W' ⟨he, hb⟩ => ?_
  subst he
  exact ⟨_, rfl, law_post laid substTwice_rec rfl Try.underlying4 (by kernel_rfl) ⟨rfl, rfl⟩ rfl hW' hb⟩
theorem substTwice_holds : Rows.FnSubstTwiceSaid :=
  OpenClaim.holds_of_wide 5 Try.f5 rfl rfl rfl rfl rfl rfl rfl ⟨rfl, rfl, rfl, rfl, rfl⟩ rfl rfl rfl rfl rfl (by kernel_rfl) Try.func5 (by kernel_rfl)
    (of_decide_eq_true (by kernel_rfl)) (by unfold Func.isWrapper; first | (rw [if_pos (by decide +kernel)]; kernel_rfl) | (rw [if_neg (by decide +kernel)]; exact ⟨rfl, rfl⟩))
    (fun os started H enc' _ => substTwice_lifted os started H enc')
end Go.Proofs.Ytlffbkmjigiplaa
