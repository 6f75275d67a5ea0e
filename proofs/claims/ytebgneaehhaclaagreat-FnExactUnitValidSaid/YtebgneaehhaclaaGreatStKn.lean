/- The model's StructValid: definitions. -/
import Derived.Test.YtebgneaehhaclaaGreatStNm
import Derived.Test.YtebgneaehhaclaaGreatAbsW3
set_option linter.unusedVariables false
set_option linter.unusedSimpArgs false
namespace Go.Proofs.YtebgneaehhaclaaGreat
open Go.Abs

theorem FrN.trans2 {r1 r2 : AV} {A B C : List Box} (h : FrN .nils r1 A B) (k : FrN .nils r2 B C) : FrN .nils r2 A C := by
  refine ⟨Nat.le_trans h.1 k.1, ?_, fun x hx hr => ?_⟩
  · rcases k.2.1 with h2 | ⟨j, h2, hj⟩
    · exact .inl h2
    · exact .inr ⟨j, h2, Nat.le_trans h.1 hj⟩
  · rw [k.2.2 x (Nat.lt_of_lt_of_le hx h.1) hr, h.2.2 x hx hr]
set_option maxRecDepth 100000 in
set_option maxHeartbeats 1000000 in
theorem spec_l4Known (s : List ItI) (hs : s.length ≤ 1048576) (v : VE) (hv : EOk v) (A : List Box) : ACalls Tryz.prog 90 [.slice (iEs s), .agg (encX (toX v))] A (fun r A' => r = .bool (allE (kV s) (kT s) v) ∧ A' = A) := by
  have hall := nmsE_all (kV s) v []
  have hall2 := tysE_all (kT s) v []
  simp only [List.all_nil, Bool.true_and] at hall hall2
  have hlen := nmsE_len v []
  have hlen2 := tysE_len v []
  simp only [List.length_nil, Nat.zero_add] at hlen hlen2
  have htok := tysE_ok v [] hv.ok (fun t ht => by simp at ht)
  have hcnt := hv.cnt
  rw [allE_split, ← hall, ← hall2]
  refine acalls_enter (cf := cf 48 [0, 1, 3, 4, 5, 6, 7, 8, 14, 32, 38, 47]) foll Tryz.func90 Tryz.ntmps90 (by simp [cf]) ?_
  simp only [Tryz.f90, EnterK_some, zW, zX, zD, builtinA, isLeaf, const1, ustrA, simprocAttr, ti3, ti9, ti49, ti51, ti52, ti54, ca86, ca88, ca119, ca120, cf, Tryz.results90]
  simp only [zW, zX, zD, builtinA, isLeaf, const1, ustrA, simprocAttr, ti3, ti9, ti49, ti51, ti52, ti54, ca86, ca88, ca119, ca120, cf, Tryz.results90, encX_length, encX_take]
  refine callO_intro (namE v _ [] .nils hv.ok (by simp; omega) (.inl ⟨rfl, rfl⟩)) ?_
  rintro r A1 ⟨hO, hF⟩
  obtain ⟨hl1, hb1, _⟩ := hF.keep (i := A.length) (b := .cells (encX (toX v))) (by simp) (by simp) (fun e => nomatch e)
  rcases hO with ⟨rfl, hns⟩ | ⟨j, rfl, hj, hA⟩
  · rw [hns, show ([] : List Nm).all (kV s) = true from rfl, Bool.true_and]
    simp only [zW, zX, zD, builtinA, isLeaf, const1, ustrA, simprocAttr, ti3, ti9, ti49, ti51, ti52, ti54, ca86, ca88, ca119, ca120, cf, Tryz.results90]
    refine aloop_intro [0, 3, 5, 6] (fun e B => e = [(0, .slice (iEs s)), (3, .ptr A.length 0), (5, .nils), (6, .int .i64 0)] ∧ B = A1) (fun e _ => 0) ?_ ?_
    · simp only [zW, zX, zD, builtinA, isLeaf, const1, ustrA, simprocAttr, ti3, ti9, ti49, ti51, ti52, ti54, ca86, ca88, ca119, ca120, cf, Tryz.results90]
    · rintro e B ⟨rfl, rfl⟩
      simp only [zW, zX, zD, builtinA, isLeaf, const1, ustrA, simprocAttr, ti3, ti9, ti49, ti51, ti52, ti54, ca86, ca88, ca119, ca120, cf, Tryz.results90, hb1, encX_length, encX_take]
      refine callO_intro (tysE' v _ [] .nils (by simp; omega) (.inl ⟨rfl, rfl⟩)) ?_
      rintro r2 A2 ⟨hO2, hF2⟩
      have hgo := fr_out (hF.trans2 hF2) (fun k h => nomatch h)
      rcases hO2 with ⟨rfl, hts⟩ | ⟨j2, rfl, hj2, hA2⟩
      · rw [hts]
        simp only [zW, zX, zD, builtinA, isLeaf, const1, ustrA, simprocAttr, ti3, ti9, ti49, ti51, ti52, ti54, ca86, ca88, ca119, ca120, cf, Tryz.results90]
        refine aloop_intro [0, 7, 8] (fun e C => e = [(0, .slice (iEs s)), (7, .nils), (8, .int .i64 0)] ∧ C = A2) (fun e _ => 0) ?_ ?_
        · simp only [zW, zX, zD, builtinA, isLeaf, const1, ustrA, simprocAttr, ti3, ti9, ti49, ti51, ti52, ti54, ca86, ca88, ca119, ca120, cf, Tryz.results90]
        · rintro e C ⟨rfl, rfl⟩
          simp only [zW, zX, zD, builtinA, isLeaf, const1, ustrA, simprocAttr, ti3, ti9, ti49, ti51, ti52, ti54, ca86, ca88, ca119, ca120, cf, Tryz.results90]
          exact hgo
      · generalize hts : tysE [] v = ts at *
        skip
        simp only [zW, zX, zD, builtinA, isLeaf, const1, ustrA, simprocAttr, ti3, ti9, ti49, ti51, ti52, ti54, ca86, ca88, ca119, ca120, cf, Tryz.results90]
        refine aloop_intro [0, 7, 8] (fun e C => ∃ i, i ≤ ts.length ∧ (ts.take i).all (allV (kT s)) = true ∧ e = [(0, .slice (iEs s)), (7, .own j2), (8, .int .i64 (i : Nat))] ∧ C = A2) (fun e _ => ts.length - (intOf (Abs.look 8 e)).toNat) ?_ ?_
        · simp only [zW, zX, zD, builtinA, isLeaf, const1, ustrA, simprocAttr, ti3, ti9, ti49, ti51, ti52, ti54, ca86, ca88, ca119, ca120, cf, Tryz.results90]
          exact ⟨0, by omega, by simp, rfl⟩
        · rintro e C ⟨i, hi, hq, rfl, rfl⟩
          simp only [zW, zX, zD, builtinA, isLeaf, const1, ustrA, simprocAttr, ti3, ti9, ti49, ti51, ti52, ti54, ca86, ca88, ca119, ca120, cf, Tryz.results90, hA2, trows_length]
          refine condK_intro (fun h2 => ?_) (fun h2 => ?_)
          · have hi2 : i < ts.length := by simp at h2; omega
            have hg := trows_getD hi2
            have htk : ts.take (i + 1) = ts.take i ++ [ts.getD i .num] := by rw [List.take_add_one]; simp [List.getD, hi2]
            have hi1 : IntKind.i64.wrap ((i : Int) + 1) = ((i + 1 : Nat) : Int) := by rw [wrap64 (by omega) (by omega)]; rfl
            have hmem : ts.getD i .num ∈ ts := by simp [List.getD, hi2]
            generalize ts.getD i .num = t at *
            have hto := htok _ hmem
            have pi : (0 : Int) ≤ (i : Int) ∧ (i : Int) < (ts.length : Int) := ⟨by omega, by omega⟩
            have hno : allV (kT s) t = false → ts.all (allV (kT s)) = false := fun hk => by
              rw [List.all_eq_false]
              exact ⟨t, hmem, by rw [hk]; decide⟩
            simp only [zW, zX, zD, builtinA, isLeaf, const1, ustrA, simprocAttr, ti3, ti9, ti49, ti51, ti52, ti54, ca86, ca88, ca119, ca120, cf, Tryz.results90, hA2, hg, trows_length, enc_length, enc_take]
            refine ⟨pi, ?_⟩
            refine callK_intro (by simp only [zW, zX, zD, builtinA, isLeaf, const1, ustrA, simprocAttr, frzL_enc, Option.map_some]; rfl) (spec_l4KnownType s hs t hto.1 (by have := hto.cnt; omega) _) ?_ rfl; rintro v A' ⟨rfl, rfl⟩
            cases hk : allV (kT s) t with
            | true =>
              simp only [zW, zX, zD, builtinA, isLeaf, const1, ustrA, simprocAttr, ti3, ti9, ti49, ti51, ti52, ti54, ca86, ca88, ca119, ca120, cf, Tryz.results90, hi1, LoopK_eq]
              refine ⟨⟨i + 1, by omega, by rw [htk]; simp [hq, hk], rfl⟩, ?_⟩
              simp only [intOf]; omega
            | false =>
              simp only [zW, zX, zD, builtinA, isLeaf, const1, ustrA, simprocAttr, ti3, ti9, ti49, ti51, ti52, ti54, ca86, ca88, ca119, ca120, cf, Tryz.results90]
              exact ⟨hgo.1, by rw [hno hk], hgo.2⟩
          · have hi2 : i = ts.length := by simp at h2; omega
            subst hi2
            rw [List.take_length] at hq
            simp only [zW, zX, zD, builtinA, isLeaf, const1, ustrA, simprocAttr, ti3, ti9, ti49, ti51, ti52, ti54, ca86, ca88, ca119, ca120, cf, Tryz.results90]
            exact ⟨hgo.1, by rw [hq], hgo.2⟩
  · generalize hns : nmsE [] v = ns at *
    simp only [zW, zX, zD, builtinA, isLeaf, const1, ustrA, simprocAttr, ti3, ti9, ti49, ti51, ti52, ti54, ca86, ca88, ca119, ca120, cf, Tryz.results90]
    refine aloop_intro [0, 3, 5, 6] (fun e B => ∃ i, i ≤ ns.length ∧ (ns.take i).all (kV s) = true ∧ e = [(0, .slice (iEs s)), (3, .ptr A.length 0), (5, .own j), (6, .int .i64 (i : Nat))] ∧ B = A1) (fun e _ => ns.length - (intOf (Abs.look 6 e)).toNat) ?_ ?_
    · simp only [zW, zX, zD, builtinA, isLeaf, const1, ustrA, simprocAttr, ti3, ti9, ti49, ti51, ti52, ti54, ca86, ca88, ca119, ca120, cf, Tryz.results90]
      exact ⟨0, by omega, by simp, rfl⟩
    · rintro e B ⟨i, hi, hq, rfl, rfl⟩
      simp only [zW, zX, zD, builtinA, isLeaf, const1, ustrA, simprocAttr, ti3, ti9, ti49, ti51, ti52, ti54, ca86, ca88, ca119, ca120, cf, Tryz.results90, hA, xrows_length]
      refine condK_intro (fun h2 => ?_) (fun h2 => ?_)
      · have hi2 : i < ns.length := by simp at h2; omega
        have hg := xrows_getD hi2
        have htk : ns.take (i + 1) = ns.take i ++ [ns.getD i ([], [])] := by rw [List.take_add_one]; simp [List.getD, hi2]
        have hi1 : IntKind.i64.wrap ((i : Int) + 1) = ((i + 1 : Nat) : Int) := by rw [wrap64 (by omega) (by omega)]; rfl
        have hno : kV s (ns.getD i ([], [])) = false → ns.all (kV s) = false := fun hk => by
          rw [List.all_eq_false]
          exact ⟨ns.getD i ([], []), by simp [List.getD, hi2], by rw [hk]; decide⟩
        have hkp : kV s (ns.getD i ([], [])) = (!decide ((ns.getD i ([], [])).1 = []) || hasD s 2 (ns.getD i ([], [])).2) := rfl
        generalize hp : ns.getD i ([], []) = p at *
        have pi : (0 : Int) ≤ (i : Int) ∧ (i : Int) < (ns.length : Int) := ⟨by omega, by omega⟩
        have next : kV s p = true → (∃ i', i' ≤ ns.length ∧ (ns.take i').all (kV s) = true ∧ [(0, AV.slice (iEs s)), (3, AV.ptr A.length 0), (5, AV.own j), (6, AV.int .i64 ((i + 1 : Nat) : Int))] = [(0, .slice (iEs s)), (3, .ptr A.length 0), (5, .own j), (6, .int .i64 (i' : Nat))]) := fun hk => ⟨i + 1, by omega, by rw [htk]; simp [hq, hk], rfl⟩
        have hgo := fr_out hF (fun k h => nomatch h)
        by_cases hm : p.1 = []
        · rw [decide_eq_true hm, Bool.not_true, Bool.false_or] at hkp
          simp only [zW, zX, zD, builtinA, isLeaf, const1, ustrA, simprocAttr, ti3, ti9, ti49, ti51, ti52, ti54, ca86, ca88, ca119, ca120, cf, Tryz.results90, decide_eq_true hm, hA, hg, xrows_length]
          refine ⟨pi, pi, ?_⟩
          refine callK_intro (by simp only [zW, zX, zD, builtinA, isLeaf, const1, ustrA, simprocAttr, Option.map_some]; rfl) (spec_l4Before s hs 2 p.2 _) ?_ rfl; rintro v A' ⟨rfl, rfl⟩
          rw [← hkp]
          cases hk : kV s p with
          | true =>
            simp only [zW, zX, zD, builtinA, isLeaf, const1, ustrA, simprocAttr, ti3, ti9, ti49, ti51, ti52, ti54, ca86, ca88, ca119, ca120, cf, Tryz.results90, hi1, LoopK_eq]
            refine ⟨next hk, ?_⟩
            simp only [intOf]; omega
          | false =>
            simp only [zW, zX, zD, builtinA, isLeaf, const1, ustrA, simprocAttr, ti3, ti9, ti49, ti51, ti52, ti54, ca86, ca88, ca119, ca120, cf, Tryz.results90]
            rw [hno hk]
            exact ⟨hgo.1, rfl, hgo.2⟩
        · rw [decide_eq_false hm, Bool.not_false, Bool.true_or] at hkp
          simp only [zW, zX, zD, builtinA, isLeaf, const1, ustrA, simprocAttr, ti3, ti9, ti49, ti51, ti52, ti54, ca86, ca88, ca119, ca120, cf, Tryz.results90, decide_eq_false hm, hA, hg, xrows_length, hi1, LoopK_eq]
          refine ⟨pi, next hkp, ?_⟩
          simp only [intOf]; omega
      · have hi2 : i = ns.length := by simp at h2; omega
        subst hi2
        rw [List.take_length] at hq
        simp only [zW, zX, zD, builtinA, isLeaf, const1, ustrA, simprocAttr, ti3, ti9, ti49, ti51, ti52, ti54, ca86, ca88, ca119, ca120, cf, Tryz.results90, hb1, encX_length, encX_take]
        refine callO_intro (tysE' v _ [] .nils (by simp; omega) (.inl ⟨rfl, rfl⟩)) ?_
        rintro r2 A2 ⟨hO2, hF2⟩
        have hgo := fr_out (hF.trans2 hF2) (fun k h => nomatch h)
        rcases hO2 with ⟨rfl, hts⟩ | ⟨j2, rfl, hj2, hA2⟩
        · rw [hq, Bool.true_and, hts]
          simp only [zW, zX, zD, builtinA, isLeaf, const1, ustrA, simprocAttr, ti3, ti9, ti49, ti51, ti52, ti54, ca86, ca88, ca119, ca120, cf, Tryz.results90]
          refine aloop_intro [0, 7, 8] (fun e C => e = [(0, .slice (iEs s)), (7, .nils), (8, .int .i64 0)] ∧ C = A2) (fun e _ => 0) ?_ ?_
          · simp only [zW, zX, zD, builtinA, isLeaf, const1, ustrA, simprocAttr, ti3, ti9, ti49, ti51, ti52, ti54, ca86, ca88, ca119, ca120, cf, Tryz.results90]
          · rintro e C ⟨rfl, rfl⟩
            simp only [zW, zX, zD, builtinA, isLeaf, const1, ustrA, simprocAttr, ti3, ti9, ti49, ti51, ti52, ti54, ca86, ca88, ca119, ca120, cf, Tryz.results90]
            exact hgo
        · generalize hts : tysE [] v = ts at *
          rw [hq, Bool.true_and]
          simp only [zW, zX, zD, builtinA, isLeaf, const1, ustrA, simprocAttr, ti3, ti9, ti49, ti51, ti52, ti54, ca86, ca88, ca119, ca120, cf, Tryz.results90]
          refine aloop_intro [0, 7, 8] (fun e C => ∃ i, i ≤ ts.length ∧ (ts.take i).all (allV (kT s)) = true ∧ e = [(0, .slice (iEs s)), (7, .own j2), (8, .int .i64 (i : Nat))] ∧ C = A2) (fun e _ => ts.length - (intOf (Abs.look 8 e)).toNat) ?_ ?_
          · simp only [zW, zX, zD, builtinA, isLeaf, const1, ustrA, simprocAttr, ti3, ti9, ti49, ti51, ti52, ti54, ca86, ca88, ca119, ca120, cf, Tryz.results90]
            exact ⟨0, by omega, by simp, rfl⟩
          · rintro e C ⟨i, hi, hq, rfl, rfl⟩
            simp only [zW, zX, zD, builtinA, isLeaf, const1, ustrA, simprocAttr, ti3, ti9, ti49, ti51, ti52, ti54, ca86, ca88, ca119, ca120, cf, Tryz.results90, hA2, trows_length]
            refine condK_intro (fun h2 => ?_) (fun h2 => ?_)
            · have hi2 : i < ts.length := by simp at h2; omega
              have hg := trows_getD hi2
              have htk : ts.take (i + 1) = ts.take i ++ [ts.getD i .num] := by rw [List.take_add_one]; simp [List.getD, hi2]
              have hi1 : IntKind.i64.wrap ((i : Int) + 1) = ((i + 1 : Nat) : Int) := by rw [wrap64 (by omega) (by omega)]; rfl
              have hmem : ts.getD i .num ∈ ts := by simp [List.getD, hi2]
              generalize ts.getD i .num = t at *
              have hto := htok _ hmem
              have pi : (0 : Int) ≤ (i : Int) ∧ (i : Int) < (ts.length : Int) := ⟨by omega, by omega⟩
              have hno : allV (kT s) t = false → ts.all (allV (kT s)) = false := fun hk => by
                rw [List.all_eq_false]
                exact ⟨t, hmem, by rw [hk]; decide⟩
              simp only [zW, zX, zD, builtinA, isLeaf, const1, ustrA, simprocAttr, ti3, ti9, ti49, ti51, ti52, ti54, ca86, ca88, ca119, ca120, cf, Tryz.results90, hA2, hg, trows_length, enc_length, enc_take]
              refine ⟨pi, ?_⟩
              refine callK_intro (by simp only [zW, zX, zD, builtinA, isLeaf, const1, ustrA, simprocAttr, frzL_enc, Option.map_some]; rfl) (spec_l4KnownType s hs t hto.1 (by have := hto.cnt; omega) _) ?_ rfl; rintro v A' ⟨rfl, rfl⟩
              cases hk : allV (kT s) t with
              | true =>
                simp only [zW, zX, zD, builtinA, isLeaf, const1, ustrA, simprocAttr, ti3, ti9, ti49, ti51, ti52, ti54, ca86, ca88, ca119, ca120, cf, Tryz.results90, hi1, LoopK_eq]
                refine ⟨⟨i + 1, by omega, by rw [htk]; simp [hq, hk], rfl⟩, ?_⟩
                simp only [intOf]; omega
              | false =>
                simp only [zW, zX, zD, builtinA, isLeaf, const1, ustrA, simprocAttr, ti3, ti9, ti49, ti51, ti52, ti54, ca86, ca88, ca119, ca120, cf, Tryz.results90]
                exact ⟨hgo.1, by rw [hno hk], hgo.2⟩
            · have hi2 : i = ts.length := by simp at h2; omega
              subst hi2
              rw [List.take_length] at hq
              simp only [zW, zX, zD, builtinA, isLeaf, const1, ustrA, simprocAttr, ti3, ti9, ti49, ti51, ti52, ti54, ca86, ca88, ca119, ca120, cf, Tryz.results90]
              exact ⟨hgo.1, by rw [hq], hgo.2⟩
end Go.Proofs.YtebgneaehhaclaaGreat
