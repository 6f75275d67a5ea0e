/- The model's FindType and FindVal. -/
import Derived.Test.YtkajklfohjcofaaGreatDoorSpSigN
import Derived.Test.YtkajklfohjcofaaGreatDoorSubNew
import Derived.Test.YtkajklfohjcofaaGreatDoorAbsW3
set_option linter.unusedVariables false
set_option linter.unusedSimpArgs false
namespace Go.Proofs.YtkajklfohjcofaaGreatDoor
open Go.Abs

theorem rdN_ex (s : List SigI) : ∃ o, RdN s o := by
  cases hb : sigB s with
  | false => exact ⟨none, rdN_bad hb⟩
  | true =>
    obtain ⟨ys, h8, hr, hord⟩ := sigB_yes hb
    cases hn : normL [] ys with
    | none => exact ⟨none, .inr ⟨ys, h8, hr, .inr hn⟩⟩
    | some zs => exact ⟨some zs, ys, h8, hr, hord, hn⟩
theorem findO_ex (zs : List VI) (q : Ky) : ∃ o, FindO zs q o := by
  by_cases h : ∃ i, i < zs.length ∧ viK (zs.getD i vi0) = q
  · obtain ⟨i, h1, h2⟩ := h
    exact ⟨some (meanI (zs.getD i vi0)), i, h1, h2, rfl⟩
  · exact ⟨none, fun i hi hq => h ⟨i, hi, hq⟩⟩
theorem meanIs_ex (s : List SigI) (q : Ky) : ∃ o, MeanIs s q o := by
  obtain ⟨o, ho⟩ := rdN_ex s
  cases o with
  | none => exact ⟨none, .inr ⟨ho, rfl⟩⟩
  | some zs =>
    obtain ⟨o, h⟩ := findO_ex zs q
    exact ⟨o, .inl ⟨zs, ho, h⟩⟩
theorem rdN_vok {s : List SigI} {zs : List VI} (h : RdN s (some zs)) : zs.length ≤ 8 ∧ ∀ i, i < zs.length → VOk (meanI (zs.getD i vi0)) := by
  obtain ⟨ys, h8, hr, hord, hn⟩ := h
  obtain ⟨hf, rfl⟩ := normL_fit hn
  have hy : ∀ i, i < ys.length → VOk (meanI (ys.getD i vi0)) := fun k hk => by
    have := hr.2 k (by rw [← hr.1]; exact hk)
    exact mean_ok this.1 this.2
  refine ⟨by rw [zsN_length, hr.1]; exact h8, fun i hi => ?_⟩
  rw [zsN_length] at hi
  rw [zsN_getD ys hi]
  exact zsN_ok hy hf hi
theorem meanIs_vok {s : List SigI} {q : Ky} {v : VT} (h : MeanIs s q (some v)) : VOk v := by
  rcases h with ⟨zs, hr, i, hi, _, rfl⟩ | ⟨_, h⟩
  · exact (rdN_vok hr).2 i hi
  · cases h
theorem meanIs_ok {s : List SigI} {q : Ky} {o : Option VT} (h : MeanIs s q o) : (oTyS o).Ok ∧ count (oTyS o) ≤ 64 := by
  cases o with
  | none => exact ⟨by rw [oTyS, ty0]; exact .mk (by simp) (by simp) (by simp) (by simp), by simp [oTyS, ty0, count, counts]⟩
  | some w =>
    have hw := meanIs_vok h
    have := hw.cnt
    exact ⟨ok_toTyS w hw.ok, by rw [oTyS, count_toTy]; omega⟩
theorem siOf_getD {zs : List VI} {i : Nat} (h : i < zs.length) : (sEs (zs.map siOf)).getD i [] = sE (siOf (zs.getD i vi0)) := by
  simp [sEs, List.getD, h]

set_option maxRecDepth 100000 in
set_option maxHeartbeats 4000000 in
theorem spec_FindType (s : List SigI) (hs : s.length ≤ 1048576) (ho : ∀ x ∈ s, x.Ok ∧ sz x.typ ≤ 1048576) (nm : List UInt8) (A : List Box) : ACalls Tryz.prog 103 [.slice (sEs s), .str nm] A (fun r A' => ∃ o, MeanIs s (false, nm) o ∧ r = .tuple [.agg (enc (oTyS o)), .bool o.isSome] ∧ A' = A) := by
  refine acalls_enter (cf := cf 52 [0, 1, 4, 5, 6, 7, 8, 20, 37, 43]) foll Tryz.func103 Tryz.ntmps103 (by simp [cf]) ?_
  simp only [Tryz.f103, EnterK_some, zW, zX, zD, builtinA, isLeaf, const1, ustrA, simprocAttr, ti3, ti9, ti25, ti45, ti49, ca86, ca90, ca138, cf, Tryz.results103]
  refine callO_intro (spec_NormalSig s hs ho _) ?_
  rintro r A' ⟨o, hrd, rfl, rfl⟩
  cases o with
  | none =>
    simp only [nrR, sgN]
    simp only [zW, zX, zD, builtinA, isLeaf, const1, ustrA, simprocAttr, ti3, ti9, ti25, ti45, ti49, ca86, ca90, ca138, cf, Tryz.results103]
    refine aloop_intro [1, 4, 6, 7, 8] (fun e A' => e = [(1, .str nm), (4, .ptr A.length 0), (6, .slice []), (7, .bool false), (8, .int .i64 0)] ∧ A' = A ++ [.cells [.int .i64 0, .str [], .str [], .nils]]) (fun e _ => 0) ?_ ?_
    · simp only [zW, zX, zD, builtinA, isLeaf, const1, ustrA, simprocAttr, ti3, ti9, ti25, ti45, ti49, ca86, ca90, ca138, cf, Tryz.results103]
    · rintro e A' ⟨rfl, rfl⟩
      have d0 : decide ((0 : Int) < ((0 : Nat) : Int)) = false := rfl
      simp only [zW, zX, zD, builtinA, isLeaf, const1, ustrA, simprocAttr, ti3, ti9, ti25, ti45, ti49, ca86, ca90, ca138, cf, Tryz.results103, d0]
      exact ⟨none, .inr ⟨hrd, rfl⟩, by simp [oTyS, ty0, enc, encs]⟩
  | some zs =>
    have hvok := rdN_vok hrd
    simp only [nrR, sgR]
    simp only [zW, zX, zD, builtinA, isLeaf, const1, ustrA, simprocAttr, ti3, ti9, ti25, ti45, ti49, ca86, ca90, ca138, cf, Tryz.results103]
    refine aloop_intro [1, 4, 6, 7, 8] (fun e A' => ∃ i, i ≤ zs.length ∧ (∀ k, k < i → viK (zs.getD k vi0) ≠ (false, nm)) ∧ e = [(1, .str nm), (4, .ptr A.length 0), (6, .slice (sEs (zs.map siOf))), (7, .bool true), (8, .int .i64 i)] ∧ A' = A ++ [.cells [.int .i64 0, .str [], .str [], .nils]]) (fun e _ => zs.length - (intOf (Abs.look 8 e)).toNat) ?_ ?_
    · simp only [zW, zX, zD, builtinA, isLeaf, const1, ustrA, simprocAttr, ti3, ti9, ti25, ti45, ti49, ca86, ca90, ca138, cf, Tryz.results103]
      exact ⟨0, by omega, fun k hk => by omega, rfl⟩
    · rintro e A' ⟨i, hi, hq, rfl, rfl⟩
      have hlen : (sEs (zs.map siOf)).length = zs.length := by simp [sEs_length]
      by_cases hi2 : i < zs.length
      · have d1 : decide ((i : Int) < (zs.length : Int)) = true := by simp; omega
        have pi : (0 : Int) ≤ (i : Int) ∧ (i : Int) < (zs.length : Int) := ⟨by omega, by omega⟩
        have hg := siOf_getD hi2
        have hi1 : IntKind.i64.wrap ((i : Int) + 1) = ((i + 1 : Nat) : Int) := by rw [wrap64 (by omega) (by omega)]; rfl
        have hv := hvok.2 i hi2
        generalize hyv : zs.getD i vi0 = y at *
        have hnext : viK y ≠ (false, nm) → ∀ k, k < i + 1 → viK (zs.getD k vi0) ≠ (false, nm) := fun h k hk => by
          rcases Nat.lt_succ_iff_lt_or_eq.mp hk with h1 | rfl
          · exact hq k h1
          · rw [hyv]; exact h
        have hty := fun A => spec_l2IsType (siOf y) A
        cases y with
        | ab n =>
          have hT : isTB (siOf (.ab n)) = true := rfl
          rw [hT] at hty
          have hN := fun A => spec_l1Name0 [] n A
          simp only [siOf, sE] at hg hty
          simp only [zW, zX, zD, builtinA, isLeaf, const1, ustrA, simprocAttr, ti3, ti9, ti25, ti45, ti49, ca86, ca90, ca138, cf, Tryz.results103, hlen, d1]
          by_cases hn : n = nm
          · subst hn
            simp only [zW, zX, zD, builtinA, isLeaf, const1, ustrA, simprocAttr, ti3, ti9, ti25, ti45, ti49, ca86, ca90, ca138, cf, Tryz.results103, hg, hlen, enc_length]
            refine ⟨pi, pi, ?_⟩
            refine callK_intro (by simp only [zW, zX, zD, builtinA, isLeaf, const1, ustrA, simprocAttr, enc_length, enc_take, sub_drop, frzL_enc, sub_closed, Option.map_some]; rfl) (hty _) ?_ rfl; rintro v A' ⟨rfl, rfl⟩
            simp only [zW, zX, zD, builtinA, isLeaf, const1, ustrA, simprocAttr, ti3, ti9, ti25, ti45, ti49, ca86, ca90, ca138, cf, Tryz.results103, hg, hlen, enc_length, enc_take, sub_drop, frzL_enc, sub_closed, Option.map_some]
            refine ⟨pi, ?_⟩
            refine callK_intro (by simp only [zW, zX, zD, builtinA, isLeaf, const1, ustrA, simprocAttr, enc_length, enc_take, sub_drop, frzL_enc, sub_closed, Option.map_some]; rfl) (hN _) ?_ rfl; rintro v A' ⟨rfl, rfl⟩
            simp only [zW, zX, zD, builtinA, isLeaf, const1, ustrA, simprocAttr, ti3, ti9, ti25, ti45, ti49, ca86, ca90, ca138, cf, Tryz.results103, hg, hlen, enc_length, enc_take, sub_drop, frzL_enc, sub_closed, Option.map_some]
            exact ⟨some (.nm [] n), .inl ⟨zs, hrd, i, hi2, by rw [hyv]; rfl, by rw [hyv]; rfl⟩, rfl⟩
          · simp only [zW, zX, zD, builtinA, isLeaf, const1, ustrA, simprocAttr, ti3, ti9, ti25, ti45, ti49, ca86, ca90, ca138, cf, Tryz.results103, hg, hlen, enc_length, decide_eq_false hn, hi1, LoopK_eq]
            refine ⟨pi, ⟨i + 1, by omega, hnext (by simp [viK, hn]), rfl⟩, ?_⟩
            simp only [intOf]; omega
        | al n v =>
          have hT : isTB (siOf (.al n v)) = true := rfl
          rw [hT] at hty
          simp only [siOf, sE] at hg hty
          simp only [zW, zX, zD, builtinA, isLeaf, const1, ustrA, simprocAttr, ti3, ti9, ti25, ti45, ti49, ca86, ca90, ca138, cf, Tryz.results103, hlen, d1]
          by_cases hn : n = nm
          · subst hn
            simp only [zW, zX, zD, builtinA, isLeaf, const1, ustrA, simprocAttr, ti3, ti9, ti25, ti45, ti49, ca86, ca90, ca138, cf, Tryz.results103, hg, hlen, enc_length]
            refine ⟨pi, pi, ?_⟩
            refine callK_intro (by simp only [zW, zX, zD, builtinA, isLeaf, const1, ustrA, simprocAttr, enc_length, enc_take, sub_drop, frzL_enc, sub_closed, Option.map_some]; rfl) (hty _) ?_ rfl; rintro v A' ⟨rfl, rfl⟩
            simp only [zW, zX, zD, builtinA, isLeaf, const1, ustrA, simprocAttr, ti3, ti9, ti25, ti45, ti49, ca86, ca90, ca138, cf, Tryz.results103, hg, hlen, enc_length, enc_take, sub_drop, frzL_enc, sub_closed, Option.map_some]
            refine ⟨pi, pi, ?_⟩
            exact ⟨some v, .inl ⟨zs, hrd, i, hi2, by rw [hyv]; rfl, by rw [hyv]; rfl⟩, rfl⟩
          · simp only [zW, zX, zD, builtinA, isLeaf, const1, ustrA, simprocAttr, ti3, ti9, ti25, ti45, ti49, ca86, ca90, ca138, cf, Tryz.results103, hg, hlen, enc_length, decide_eq_false hn, hi1, LoopK_eq]
            refine ⟨pi, ⟨i + 1, by omega, hnext (by simp [viK, hn]), rfl⟩, ?_⟩
            simp only [intOf]; omega
        | va n v =>
          have hT : isTB (siOf (.va n v)) = false := rfl
          rw [hT] at hty
          simp only [siOf, sE] at hg hty
          simp only [zW, zX, zD, builtinA, isLeaf, const1, ustrA, simprocAttr, ti3, ti9, ti25, ti45, ti49, ca86, ca90, ca138, cf, Tryz.results103, hlen, d1]
          by_cases hn : n = nm
          · subst hn
            simp only [zW, zX, zD, builtinA, isLeaf, const1, ustrA, simprocAttr, ti3, ti9, ti25, ti45, ti49, ca86, ca90, ca138, cf, Tryz.results103, hg, hlen, enc_length]
            refine ⟨pi, pi, ?_⟩
            refine callK_intro (by simp only [zW, zX, zD, builtinA, isLeaf, const1, ustrA, simprocAttr, enc_length, enc_take, sub_drop, frzL_enc, sub_closed, Option.map_some]; rfl) (hty _) ?_ rfl; rintro v A' ⟨rfl, rfl⟩
            simp only [zW, zX, zD, builtinA, isLeaf, const1, ustrA, simprocAttr, ti3, ti9, ti25, ti45, ti49, ca86, ca90, ca138, cf, Tryz.results103, hi1, LoopK_eq]
            refine ⟨⟨i + 1, by omega, hnext (by simp [viK]), rfl⟩, ?_⟩
            simp only [intOf]; omega
          · simp only [zW, zX, zD, builtinA, isLeaf, const1, ustrA, simprocAttr, ti3, ti9, ti25, ti45, ti49, ca86, ca90, ca138, cf, Tryz.results103, hg, hlen, enc_length, decide_eq_false hn, hi1, LoopK_eq]
            refine ⟨pi, ⟨i + 1, by omega, hnext (by simp [viK, hn]), rfl⟩, ?_⟩
            simp only [intOf]; omega
      · have d1 : decide ((i : Int) < (zs.length : Int)) = false := by simp; omega
        have e : i = zs.length := by omega
        subst e
        simp only [zW, zX, zD, builtinA, isLeaf, const1, ustrA, simprocAttr, ti3, ti9, ti25, ti45, ti49, ca86, ca90, ca138, cf, Tryz.results103, hlen, d1]
        exact ⟨none, .inl ⟨zs, hrd, hq⟩, by simp [oTyS, ty0, enc, encs]⟩

set_option maxRecDepth 100000 in
set_option maxHeartbeats 4000000 in
theorem spec_FindVal (s : List SigI) (hs : s.length ≤ 1048576) (ho : ∀ x ∈ s, x.Ok ∧ sz x.typ ≤ 1048576) (nm : List UInt8) (A : List Box) : ACalls Tryz.prog 121 [.slice (sEs s), .str nm] A (fun r A' => ∃ o, MeanIs s (true, nm) o ∧ r = .tuple [.agg (enc (oTyS o)), .bool o.isSome] ∧ A' = A) := by
  refine acalls_enter (cf := cf 44 [0, 1, 4, 5, 6, 7, 8, 20, 37]) foll Tryz.func121 Tryz.ntmps121 (by simp [cf]) ?_
  simp only [Tryz.f121, EnterK_some, zW, zX, zD, builtinA, isLeaf, const1, ustrA, simprocAttr, ti3, ti9, ti25, ti45, ti49, ca86, cf, Tryz.results121]
  refine callO_intro (spec_NormalSig s hs ho _) ?_
  rintro r A' ⟨o, hrd, rfl, rfl⟩
  cases o with
  | none =>
    simp only [nrR, sgN]
    simp only [zW, zX, zD, builtinA, isLeaf, const1, ustrA, simprocAttr, ti3, ti9, ti25, ti45, ti49, ca86, cf, Tryz.results121]
    refine aloop_intro [1, 4, 6, 7, 8] (fun e A' => e = [(1, .str nm), (4, .ptr A.length 0), (6, .slice []), (7, .bool false), (8, .int .i64 0)] ∧ A' = A ++ [.cells [.int .i64 0, .str [], .str [], .nils]]) (fun e _ => 0) ?_ ?_
    · simp only [zW, zX, zD, builtinA, isLeaf, const1, ustrA, simprocAttr, ti3, ti9, ti25, ti45, ti49, ca86, cf, Tryz.results121]
    · rintro e A' ⟨rfl, rfl⟩
      have d0 : decide ((0 : Int) < ((0 : Nat) : Int)) = false := rfl
      simp only [zW, zX, zD, builtinA, isLeaf, const1, ustrA, simprocAttr, ti3, ti9, ti25, ti45, ti49, ca86, cf, Tryz.results121, d0]
      exact ⟨none, .inr ⟨hrd, rfl⟩, by simp [oTyS, ty0, enc, encs]⟩
  | some zs =>
    have hvok := rdN_vok hrd
    simp only [nrR, sgR]
    simp only [zW, zX, zD, builtinA, isLeaf, const1, ustrA, simprocAttr, ti3, ti9, ti25, ti45, ti49, ca86, cf, Tryz.results121]
    refine aloop_intro [1, 4, 6, 7, 8] (fun e A' => ∃ i, i ≤ zs.length ∧ (∀ k, k < i → viK (zs.getD k vi0) ≠ (true, nm)) ∧ e = [(1, .str nm), (4, .ptr A.length 0), (6, .slice (sEs (zs.map siOf))), (7, .bool true), (8, .int .i64 i)] ∧ A' = A ++ [.cells [.int .i64 0, .str [], .str [], .nils]]) (fun e _ => zs.length - (intOf (Abs.look 8 e)).toNat) ?_ ?_
    · simp only [zW, zX, zD, builtinA, isLeaf, const1, ustrA, simprocAttr, ti3, ti9, ti25, ti45, ti49, ca86, cf, Tryz.results121]
      exact ⟨0, by omega, fun k hk => by omega, rfl⟩
    · rintro e A' ⟨i, hi, hq, rfl, rfl⟩
      have hlen : (sEs (zs.map siOf)).length = zs.length := by simp [sEs_length]
      by_cases hi2 : i < zs.length
      · have d1 : decide ((i : Int) < (zs.length : Int)) = true := by simp; omega
        have pi : (0 : Int) ≤ (i : Int) ∧ (i : Int) < (zs.length : Int) := ⟨by omega, by omega⟩
        have hg := siOf_getD hi2
        have hi1 : IntKind.i64.wrap ((i : Int) + 1) = ((i + 1 : Nat) : Int) := by rw [wrap64 (by omega) (by omega)]; rfl
        have hv := hvok.2 i hi2
        generalize hyv : zs.getD i vi0 = y at *
        have hnext : viK y ≠ (true, nm) → ∀ k, k < i + 1 → viK (zs.getD k vi0) ≠ (true, nm) := fun h k hk => by
          rcases Nat.lt_succ_iff_lt_or_eq.mp hk with h1 | rfl
          · exact hq k h1
          · rw [hyv]; exact h
        cases y with
        | ab n =>
          simp only [siOf, sE] at hg
          simp only [zW, zX, zD, builtinA, isLeaf, const1, ustrA, simprocAttr, ti3, ti9, ti25, ti45, ti49, ca86, cf, Tryz.results121, hlen, d1]
          by_cases hn : n = nm
          · subst hn
            simp only [zW, zX, zD, builtinA, isLeaf, const1, ustrA, simprocAttr, ti3, ti9, ti25, ti45, ti49, ca86, cf, Tryz.results121, hg, hlen, enc_length, hi1, LoopK_eq]
            refine ⟨pi, pi, ⟨i + 1, by omega, hnext (by simp [viK]), rfl⟩, ?_⟩
            simp only [intOf]; omega
          · simp only [zW, zX, zD, builtinA, isLeaf, const1, ustrA, simprocAttr, ti3, ti9, ti25, ti45, ti49, ca86, cf, Tryz.results121, hg, hlen, enc_length, decide_eq_false hn, hi1, LoopK_eq]
            refine ⟨pi, ⟨i + 1, by omega, hnext (by simp [viK, hn]), rfl⟩, ?_⟩
            simp only [intOf]; omega
        | al n v =>
          simp only [siOf, sE] at hg
          simp only [zW, zX, zD, builtinA, isLeaf, const1, ustrA, simprocAttr, ti3, ti9, ti25, ti45, ti49, ca86, cf, Tryz.results121, hlen, d1]
          by_cases hn : n = nm
          · subst hn
            simp only [zW, zX, zD, builtinA, isLeaf, const1, ustrA, simprocAttr, ti3, ti9, ti25, ti45, ti49, ca86, cf, Tryz.results121, hg, hlen, enc_length, hi1, LoopK_eq]
            refine ⟨pi, pi, ⟨i + 1, by omega, hnext (by simp [viK]), rfl⟩, ?_⟩
            simp only [intOf]; omega
          · simp only [zW, zX, zD, builtinA, isLeaf, const1, ustrA, simprocAttr, ti3, ti9, ti25, ti45, ti49, ca86, cf, Tryz.results121, hg, hlen, enc_length, decide_eq_false hn, hi1, LoopK_eq]
            refine ⟨pi, ⟨i + 1, by omega, hnext (by simp [viK, hn]), rfl⟩, ?_⟩
            simp only [intOf]; omega
        | va n v =>
          simp only [siOf, sE] at hg
          simp only [zW, zX, zD, builtinA, isLeaf, const1, ustrA, simprocAttr, ti3, ti9, ti25, ti45, ti49, ca86, cf, Tryz.results121, hlen, d1]
          by_cases hn : n = nm
          · subst hn
            simp only [zW, zX, zD, builtinA, isLeaf, const1, ustrA, simprocAttr, ti3, ti9, ti25, ti45, ti49, ca86, cf, Tryz.results121, hg, hlen, enc_length, enc_take, sub_drop, frzL_enc, sub_closed, Option.map_some]
            refine ⟨pi, pi, pi, ?_⟩
            exact ⟨some v, .inl ⟨zs, hrd, i, hi2, by rw [hyv]; rfl, by rw [hyv]; rfl⟩, rfl⟩
          · simp only [zW, zX, zD, builtinA, isLeaf, const1, ustrA, simprocAttr, ti3, ti9, ti25, ti45, ti49, ca86, cf, Tryz.results121, hg, hlen, enc_length, decide_eq_false hn, hi1, LoopK_eq]
            refine ⟨pi, ⟨i + 1, by omega, hnext (by simp [viK, hn]), rfl⟩, ?_⟩
            simp only [intOf]; omega
      · have d1 : decide ((i : Int) < (zs.length : Int)) = false := by simp; omega
        have e : i = zs.length := by omega
        subst e
        simp only [zW, zX, zD, builtinA, isLeaf, const1, ustrA, simprocAttr, ti3, ti9, ti25, ti45, ti49, ca86, cf, Tryz.results121, hlen, d1]
        exact ⟨none, .inl ⟨zs, hrd, hq⟩, by simp [oTyS, ty0, enc, encs]⟩
end Go.Proofs.YtkajklfohjcofaaGreatDoor
