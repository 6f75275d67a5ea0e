/- SpFind, MatchP, ValSame, SpMt, AsM. -/
import Derived.Test.YtkajklfohjcofaaGreatDoorJ09
import Derived.Test.YtkajklfohjcofaaGreatDoorAbsW3
import Derived.Test.YtkajklfohjcofaaGreatDoorRows
import Derived.WalkKit
import Derived.LaidEql
import Derived.RowKitTokens
/- The model's FindType and FindVal. -/
set_option linter.unusedVariables false
set_option linter.unusedSimpArgs false
namespace Go.Proofs.YtkajklfohjcofaaGreatDoor
open Go.Abs

theorem rdN_ex (s : List SigI) : ∃ o, RdN s o := by
  cases hb : sigB s with
  | false => exact ⟨none, rdN_bad hb⟩
  | true =>
    obtain ⟨ys, h8, hr, hord⟩ := sigB_yes hb
    cases hn : normL [] ys with
    | none => exact ⟨none, .inr ⟨ys, h8, hr, .inr hn⟩⟩
    | some zs => exact ⟨some zs, ys, h8, hr, hord, hn⟩
theorem rdN_vok {s : List SigI} {zs : List VI} (h : RdN s (some zs)) : zs.length ≤ 8 ∧ ∀ i, i < zs.length → VOk (meanI (zs.getD i vi0)) := by
  obtain ⟨ys, h8, hr, hord, hn⟩ := h
  obtain ⟨hf, rfl⟩ := normL_fit hn
  have hy : ∀ i, i < ys.length → VOk (meanI (ys.getD i vi0)) := fun k hk => by
    have := hr.2 k (by rw [← hr.1]; exact hk)
    exact mean_ok this.1 this.2
  refine ⟨by rw [zsN_length, hr.1]; exact h8, fun i hi => ?_⟩
  rw [zsN_length] at hi
  rw [zsN_getD ys hi]
  exact zsN_ok hy hf hi
theorem siOf_getD {zs : List VI} {i : Nat} (h : i < zs.length) : (sEs (zs.map siOf)).getD i [] = sE (siOf (zs.getD i vi0)) := by
  simp [sEs, List.getD, h]

set_option maxRecDepth 100000 in
set_option maxHeartbeats 4000000 in
theorem spec_FindType (s : List SigI) (hs : s.length ≤ 1048576) (ho : ∀ x ∈ s, x.Ok ∧ sz x.typ ≤ 1048576) (nm : List UInt8) (A : List Box) : ACalls Tryz.prog 103 [.slice (sEs s), .str nm] A (fun r A' => ∃ o, MeanIs s (false, nm) o ∧ r = .tuple [.agg (enc (oTyS o)), .bool o.isSome] ∧ A' = A) := by
  refine acalls_enter (cf := cf 52 [0, 1, 4, 5, 6, 7, 8, 20, 37, 43]) foll Tryz.func103 Tryz.ntmps103 (by simp [cf]) ?_
  simp only [Tryz.f103, EnterK_some, zW, zX, zD, builtinA, isLeaf, const1, ustrA, simprocAttr, ti3, ti9, ti25, ti45, ti49, ca86, ca90, ca138, cf, Tryz.results103]
  refine callO_intro (spec_NormalSig s hs ho _) ?_
  rintro r A' ⟨o, hrd, rfl, rfl⟩
  cases o with
  | none =>
    simp only [nrR, sgN]
    simp only [zW, zX, zD, builtinA, isLeaf, const1, ustrA, simprocAttr, ti3, ti9, ti25, ti45, ti49, ca86, ca90, ca138, cf, Tryz.results103]
    refine aloop_intro [1, 4, 6, 7, 8] (fun e A' => e = [(1, .str nm), (4, .ptr A.length 0), (6, .slice []), (7, .bool false), (8, .int .i64 0)] ∧ A' = A ++ [.cells [.int .i64 0, .str [], .str [], .nils]]) (fun e _ => 0) ?_ ?_
    · simp only [zW, zX, zD, builtinA, isLeaf, const1, ustrA, simprocAttr, ti3, ti9, ti25, ti45, ti49, ca86, ca90, ca138, cf, Tryz.results103]
    · rintro e A' ⟨rfl, rfl⟩
      have d0 : decide ((0 : Int) < ((0 : Nat) : Int)) = false := rfl
      simp only [zW, zX, zD, builtinA, isLeaf, const1, ustrA, simprocAttr, ti3, ti9, ti25, ti45, ti49, ca86, ca90, ca138, cf, Tryz.results103, d0]
      exact ⟨none, .inr ⟨hrd, rfl⟩, by simp [oTyS, ty0, enc, encs]⟩
  | some zs =>
    have hvok := rdN_vok hrd
    simp only [nrR, sgR]
    simp only [zW, zX, zD, builtinA, isLeaf, const1, ustrA, simprocAttr, ti3, ti9, ti25, ti45, ti49, ca86, ca90, ca138, cf, Tryz.results103]
    refine aloop_intro [1, 4, 6, 7, 8] (fun e A' => ∃ i, i ≤ zs.length ∧ (∀ k, k < i → viK (zs.getD k vi0) ≠ (false, nm)) ∧ e = [(1, .str nm), (4, .ptr A.length 0), (6, .slice (sEs (zs.map siOf))), (7, .bool true), (8, .int .i64 i)] ∧ A' = A ++ [.cells [.int .i64 0, .str [], .str [], .nils]]) (fun e _ => zs.length - (intOf (Abs.look 8 e)).toNat) ?_ ?_
    · simp only [zW, zX, zD, builtinA, isLeaf, const1, ustrA, simprocAttr, ti3, ti9, ti25, ti45, ti49, ca86, ca90, ca138, cf, Tryz.results103]
      exact ⟨0, by omega, fun k hk => by omega, rfl⟩
    · rintro e A' ⟨i, hi, hq, rfl, rfl⟩
      have hlen : (sEs (zs.map siOf)).length = zs.length := by simp [sEs_length]
      by_cases hi2 : i < zs.length
      · have d1 : decide ((i : Int) < (zs.length : Int)) = true := by simp; omega
        have pi : (0 : Int) ≤ (i : Int) ∧ (i : Int) < (zs.length : Int) := ⟨by omega, by omega⟩
        have hg := siOf_getD hi2
        have hi1 : IntKind.i64.wrap ((i : Int) + 1) = ((i + 1 : Nat) : Int) := by rw [wrap64 (by omega) (by omega)]; rfl
        have hv := hvok.2 i hi2
        generalize hyv : zs.getD i vi0 = y at *
        have hnext : viK y ≠ (false, nm) → ∀ k, k < i + 1 → viK (zs.getD k vi0) ≠ (false, nm) := fun h k hk => by
          rcases Nat.lt_succ_iff_lt_or_eq.mp hk with h1 | rfl
          · exact hq k h1
          · rw [hyv]; exact h
        have hty := fun A => spec_l2IsType (siOf y) A
        cases y with
        | ab n =>
          have hT : isTB (siOf (.ab n)) = true := rfl
          rw [hT] at hty
          have hN := fun A => spec_l1Name0 [] n A
          simp only [siOf, sE] at hg hty
          simp only [zW, zX, zD, builtinA, isLeaf, const1, ustrA, simprocAttr, ti3, ti9, ti25, ti45, ti49, ca86, ca90, ca138, cf, Tryz.results103, hlen, d1]
          by_cases hn : n = nm
          · subst hn
            simp only [zW, zX, zD, builtinA, isLeaf, const1, ustrA, simprocAttr, ti3, ti9, ti25, ti45, ti49, ca86, ca90, ca138, cf, Tryz.results103, hg, hlen, enc_length]
            refine ⟨pi, pi, ?_⟩
            refine callK_intro (by simp only [zW, zX, zD, builtinA, isLeaf, const1, ustrA, simprocAttr, enc_length, enc_take, sub_drop, frzL_enc, sub_closed, Option.map_some]; rfl) (hty _) ?_ rfl; rintro v A' ⟨rfl, rfl⟩
            simp only [zW, zX, zD, builtinA, isLeaf, const1, ustrA, simprocAttr, ti3, ti9, ti25, ti45, ti49, ca86, ca90, ca138, cf, Tryz.results103, hg, hlen, enc_length, enc_take, sub_drop, frzL_enc, sub_closed, Option.map_some]
            refine ⟨pi, ?_⟩
            refine callK_intro (by simp only [zW, zX, zD, builtinA, isLeaf, const1, ustrA, simprocAttr, enc_length, enc_take, sub_drop, frzL_enc, sub_closed, Option.map_some]; rfl) (hN _) ?_ rfl; rintro v A' ⟨rfl, rfl⟩
            simp only [zW, zX, zD, builtinA, isLeaf, const1, ustrA, simprocAttr, ti3, ti9, ti25, ti45, ti49, ca86, ca90, ca138, cf, Tryz.results103, hg, hlen, enc_length, enc_take, sub_drop, frzL_enc, sub_closed, Option.map_some]
            exact ⟨some (.nm [] n), .inl ⟨zs, hrd, i, hi2, by rw [hyv]; rfl, by rw [hyv]; rfl⟩, rfl⟩
          · simp only [zW, zX, zD, builtinA, isLeaf, const1, ustrA, simprocAttr, ti3, ti9, ti25, ti45, ti49, ca86, ca90, ca138, cf, Tryz.results103, hg, hlen, enc_length, decide_eq_false hn, hi1, LoopK_eq]
            refine ⟨pi, ⟨i + 1, by omega, hnext (by simp [viK, hn]), rfl⟩, ?_⟩
            simp only [intOf]; omega
        | al n v =>
          have hT : isTB (siOf (.al n v)) = true := rfl
          rw [hT] at hty
          simp only [siOf, sE] at hg hty
          simp only [zW, zX, zD, builtinA, isLeaf, const1, ustrA, simprocAttr, ti3, ti9, ti25, ti45, ti49, ca86, ca90, ca138, cf, Tryz.results103, hlen, d1]
          by_cases hn : n = nm
          · subst hn
            simp only [zW, zX, zD, builtinA, isLeaf, const1, ustrA, simprocAttr, ti3, ti9, ti25, ti45, ti49, ca86, ca90, ca138, cf, Tryz.results103, hg, hlen, enc_length]
            refine ⟨pi, pi, ?_⟩
            refine callK_intro (by simp only [zW, zX, zD, builtinA, isLeaf, const1, ustrA, simprocAttr, enc_length, enc_take, sub_drop, frzL_enc, sub_closed, Option.map_some]; rfl) (hty _) ?_ rfl; rintro v A' ⟨rfl, rfl⟩
            simp only [zW, zX, zD, builtinA, isLeaf, const1, ustrA, simprocAttr, ti3, ti9, ti25, ti45, ti49, ca86, ca90, ca138, cf, Tryz.results103, hg, hlen, enc_length, enc_take, sub_drop, frzL_enc, sub_closed, Option.map_some]
            refine ⟨pi, pi, ?_⟩
            exact ⟨some v, .inl ⟨zs, hrd, i, hi2, by rw [hyv]; rfl, by rw [hyv]; rfl⟩, rfl⟩
          · simp only [zW, zX, zD, builtinA, isLeaf, const1, ustrA, simprocAttr, ti3, ti9, ti25, ti45, ti49, ca86, ca90, ca138, cf, Tryz.results103, hg, hlen, enc_length, decide_eq_false hn, hi1, LoopK_eq]
            refine ⟨pi, ⟨i + 1, by omega, hnext (by simp [viK, hn]), rfl⟩, ?_⟩
            simp only [intOf]; omega
        | va n v =>
          have hT : isTB (siOf (.va n v)) = false := rfl
          rw [hT] at hty
          simp only [siOf, sE] at hg hty
          simp only [zW, zX, zD, builtinA, isLeaf, const1, ustrA, simprocAttr, ti3, ti9, ti25, ti45, ti49, ca86, ca90, ca138, cf, Tryz.results103, hlen, d1]
          by_cases hn : n = nm
          · subst hn
            simp only [zW, zX, zD, builtinA, isLeaf, const1, ustrA, simprocAttr, ti3, ti9, ti25, ti45, ti49, ca86, ca90, ca138, cf, Tryz.results103, hg, hlen, enc_length]
            refine ⟨pi, pi, ?_⟩
            refine callK_intro (by simp only [zW, zX, zD, builtinA, isLeaf, const1, ustrA, simprocAttr, enc_length, enc_take, sub_drop, frzL_enc, sub_closed, Option.map_some]; rfl) (hty _) ?_ rfl; rintro v A' ⟨rfl, rfl⟩
            simp only [zW, zX, zD, builtinA, isLeaf, const1, ustrA, simprocAttr, ti3, ti9, ti25, ti45, ti49, ca86, ca90, ca138, cf, Tryz.results103, hi1, LoopK_eq]
            refine ⟨⟨i + 1, by omega, hnext (by simp [viK]), rfl⟩, ?_⟩
            simp only [intOf]; omega
          · simp only [zW, zX, zD, builtinA, isLeaf, const1, ustrA, simprocAttr, ti3, ti9, ti25, ti45, ti49, ca86, ca90, ca138, cf, Tryz.results103, hg, hlen, enc_length, decide_eq_false hn, hi1, LoopK_eq]
            refine ⟨pi, ⟨i + 1, by omega, hnext (by simp [viK, hn]), rfl⟩, ?_⟩
            simp only [intOf]; omega
      · have d1 : decide ((i : Int) < (zs.length : Int)) = false := by simp; omega
        have e : i = zs.length := by omega
        subst e
        simp only [zW, zX, zD, builtinA, isLeaf, const1, ustrA, simprocAttr, ti3, ti9, ti25, ti45, ti49, ca86, ca90, ca138, cf, Tryz.results103, hlen, d1]
        exact ⟨none, .inl ⟨zs, hrd, hq⟩, by simp [oTyS, ty0, enc, encs]⟩

set_option maxRecDepth 100000 in
set_option maxHeartbeats 4000000 in
theorem spec_FindVal (s : List SigI) (hs : s.length ≤ 1048576) (ho : ∀ x ∈ s, x.Ok ∧ sz x.typ ≤ 1048576) (nm : List UInt8) (A : List Box) : ACalls Tryz.prog 121 [.slice (sEs s), .str nm] A (fun r A' => ∃ o, MeanIs s (true, nm) o ∧ r = .tuple [.agg (enc (oTyS o)), .bool o.isSome] ∧ A' = A) := by
  refine acalls_enter (cf := cf 44 [0, 1, 4, 5, 6, 7, 8, 20, 37]) foll Tryz.func121 Tryz.ntmps121 (by simp [cf]) ?_
  simp only [Tryz.f121, EnterK_some, zW, zX, zD, builtinA, isLeaf, const1, ustrA, simprocAttr, ti3, ti9, ti25, ti45, ti49, ca86, cf, Tryz.results121]
  refine callO_intro (spec_NormalSig s hs ho _) ?_
  rintro r A' ⟨o, hrd, rfl, rfl⟩
  cases o with
  | none =>
    simp only [nrR, sgN]
    simp only [zW, zX, zD, builtinA, isLeaf, const1, ustrA, simprocAttr, ti3, ti9, ti25, ti45, ti49, ca86, cf, Tryz.results121]
    refine aloop_intro [1, 4, 6, 7, 8] (fun e A' => e = [(1, .str nm), (4, .ptr A.length 0), (6, .slice []), (7, .bool false), (8, .int .i64 0)] ∧ A' = A ++ [.cells [.int .i64 0, .str [], .str [], .nils]]) (fun e _ => 0) ?_ ?_
    · simp only [zW, zX, zD, builtinA, isLeaf, const1, ustrA, simprocAttr, ti3, ti9, ti25, ti45, ti49, ca86, cf, Tryz.results121]
    · rintro e A' ⟨rfl, rfl⟩
      have d0 : decide ((0 : Int) < ((0 : Nat) : Int)) = false := rfl
      simp only [zW, zX, zD, builtinA, isLeaf, const1, ustrA, simprocAttr, ti3, ti9, ti25, ti45, ti49, ca86, cf, Tryz.results121, d0]
      exact ⟨none, .inr ⟨hrd, rfl⟩, by simp [oTyS, ty0, enc, encs]⟩
  | some zs =>
    have hvok := rdN_vok hrd
    simp only [nrR, sgR]
    simp only [zW, zX, zD, builtinA, isLeaf, const1, ustrA, simprocAttr, ti3, ti9, ti25, ti45, ti49, ca86, cf, Tryz.results121]
    refine aloop_intro [1, 4, 6, 7, 8] (fun e A' => ∃ i, i ≤ zs.length ∧ (∀ k, k < i → viK (zs.getD k vi0) ≠ (true, nm)) ∧ e = [(1, .str nm), (4, .ptr A.length 0), (6, .slice (sEs (zs.map siOf))), (7, .bool true), (8, .int .i64 i)] ∧ A' = A ++ [.cells [.int .i64 0, .str [], .str [], .nils]]) (fun e _ => zs.length - (intOf (Abs.look 8 e)).toNat) ?_ ?_
    · simp only [zW, zX, zD, builtinA, isLeaf, const1, ustrA, simprocAttr, ti3, ti9, ti25, ti45, ti49, ca86, cf, Tryz.results121]
      exact ⟨0, by omega, fun k hk => by omega, rfl⟩
    · rintro e A' ⟨i, hi, hq, rfl, rfl⟩
      have hlen : (sEs (zs.map siOf)).length = zs.length := by simp [sEs_length]
      by_cases hi2 : i < zs.length
      · have d1 : decide ((i : Int) < (zs.length : Int)) = true := by simp; omega
        have pi : (0 : Int) ≤ (i : Int) ∧ (i : Int) < (zs.length : Int) := ⟨by omega, by omega⟩
        have hg := siOf_getD hi2
        have hi1 : IntKind.i64.wrap ((i : Int) + 1) = ((i + 1 : Nat) : Int) := by rw [wrap64 (by omega) (by omega)]; rfl
        have hv := hvok.2 i hi2
        generalize hyv : zs.getD i vi0 = y at *
        have hnext : viK y ≠ (true, nm) → ∀ k, k < i + 1 → viK (zs.getD k vi0) ≠ (true, nm) := fun h k hk => by
          rcases Nat.lt_succ_iff_lt_or_eq.mp hk with h1 | rfl
          · exact hq k h1
          · rw [hyv]; exact h
        cases y with
        | ab n =>
          simp only [siOf, sE] at hg
          simp only [zW, zX, zD, builtinA, isLeaf, const1, ustrA, simprocAttr, ti3, ti9, ti25, ti45, ti49, ca86, cf, Tryz.results121, hlen, d1]
          by_cases hn : n = nm
          · subst hn
            simp only [zW, zX, zD, builtinA, isLeaf, const1, ustrA, simprocAttr, ti3, ti9, ti25, ti45, ti49, ca86, cf, Tryz.results121, hg, hlen, enc_length, hi1, LoopK_eq]
            refine ⟨pi, pi, ⟨i + 1, by omega, hnext (by simp [viK]), rfl⟩, ?_⟩
            simp only [intOf]; omega
          · simp only [zW, zX, zD, builtinA, isLeaf, const1, ustrA, simprocAttr, ti3, ti9, ti25, ti45, ti49, ca86, cf, Tryz.results121, hg, hlen, enc_length, decide_eq_false hn, hi1, LoopK_eq]
            refine ⟨pi, ⟨i + 1, by omega, hnext (by simp [viK, hn]), rfl⟩, ?_⟩
            simp only [intOf]; omega
        | al n v =>
          simp only [siOf, sE] at hg
          simp only [zW, zX, zD, builtinA, isLeaf, const1, ustrA, simprocAttr, ti3, ti9, ti25, ti45, ti49, ca86, cf, Tryz.results121, hlen, d1]
          by_cases hn : n = nm
          · subst hn
            simp only [zW, zX, zD, builtinA, isLeaf, const1, ustrA, simprocAttr, ti3, ti9, ti25, ti45, ti49, ca86, cf, Tryz.results121, hg, hlen, enc_length, hi1, LoopK_eq]
            refine ⟨pi, pi, ⟨i + 1, by omega, hnext (by simp [viK]), rfl⟩, ?_⟩
            simp only [intOf]; omega
          · simp only [zW, zX, zD, builtinA, isLeaf, const1, ustrA, simprocAttr, ti3, ti9, ti25, ti45, ti49, ca86, cf, Tryz.results121, hg, hlen, enc_length, decide_eq_false hn, hi1, LoopK_eq]
            refine ⟨pi, ⟨i + 1, by omega, hnext (by simp [viK, hn]), rfl⟩, ?_⟩
            simp only [intOf]; omega
        | va n v =>
          simp only [siOf, sE] at hg
          simp only [zW, zX, zD, builtinA, isLeaf, const1, ustrA, simprocAttr, ti3, ti9, ti25, ti45, ti49, ca86, cf, Tryz.results121, hlen, d1]
          by_cases hn : n = nm
          · subst hn
            simp only [zW, zX, zD, builtinA, isLeaf, const1, ustrA, simprocAttr, ti3, ti9, ti25, ti45, ti49, ca86, cf, Tryz.results121, hg, hlen, enc_length, enc_take, sub_drop, frzL_enc, sub_closed, Option.map_some]
            refine ⟨pi, pi, pi, ?_⟩
            exact ⟨some v, .inl ⟨zs, hrd, i, hi2, by rw [hyv]; rfl, by rw [hyv]; rfl⟩, rfl⟩
          · simp only [zW, zX, zD, builtinA, isLeaf, const1, ustrA, simprocAttr, ti3, ti9, ti25, ti45, ti49, ca86, cf, Tryz.results121, hg, hlen, enc_length, decide_eq_false hn, hi1, LoopK_eq]
            refine ⟨pi, ⟨i + 1, by omega, hnext (by simp [viK, hn]), rfl⟩, ?_⟩
            simp only [intOf]; omega
      · have d1 : decide ((i : Int) < (zs.length : Int)) = false := by simp; omega
        have e : i = zs.length := by omega
        subst e
        simp only [zW, zX, zD, builtinA, isLeaf, const1, ustrA, simprocAttr, ti3, ti9, ti25, ti45, ti49, ca86, cf, Tryz.results121, hlen, d1]
        exact ⟨none, .inl ⟨zs, hrd, hq⟩, by simp [oTyS, ty0, enc, encs]⟩
end Go.Proofs.YtkajklfohjcofaaGreatDoor

/- What abstract types stand for in another signature, as data; both signatures read by the program. -/
set_option linter.unusedVariables false
set_option linter.unusedSimpArgs false
namespace Go.Proofs.YtkajklfohjcofaaGreatDoor
open Go.Abs

/-- what an item with a key stands for -/
def findF : List VI → Ky → Option VT
  | [], _ => none
  | y :: ys, q => if viK y = q then some (meanI y) else findF ys q
theorem findF_some {ys : List VI} {q : Ky} {v : VT} (h : findF ys q = some v) : ∃ i, i < ys.length ∧ viK (ys.getD i vi0) = q ∧ meanI (ys.getD i vi0) = v := by
  induction ys with
  | nil => cases h
  | cons y ys ih =>
    rw [findF] at h
    split at h
    · rename_i hk
      cases h
      exact ⟨0, by simp, hk, rfl⟩
    · obtain ⟨i, h1, h2, h3⟩ := ih h
      exact ⟨i + 1, by simpa using h1, by simpa using h2, by simpa using h3⟩
theorem findF_none {ys : List VI} {q : Ky} (h : findF ys q = none) : ∀ i, i < ys.length → viK (ys.getD i vi0) ≠ q := by
  induction ys with
  | nil => intro i hi; simp at hi
  | cons y ys ih =>
    rw [findF] at h
    split at h
    · cases h
    · rename_i hk
      intro i hi
      cases i with
      | zero => exact hk
      | succ i => simpa using ih h i (by simpa using hi)
theorem findF_is (ys : List VI) (q : Ky) : FindO ys q (findF ys q) := by
  cases h : findF ys q with
  | none => exact findF_none h
  | some v => exact findF_some h
/-- the normal form of a signature, as it is read -/
theorem meanIs_find {s : List SigI} {zs : List VI} (h : RdN s (some zs)) {q : Ky} {o : Option VT} (hm : MeanIs s q o) : o = findF zs q :=
  meanIs_one hm (.inl ⟨zs, h, findF_is zs q⟩)

open Classical in
/-- a visit of an item that is asked for -/
noncomputable def visC (hs : List VI) (m : List (BNm × VT)) (y : VI) : Int :=
  match findF hs (viK y) with
  | none => 1
  | some f => match y with
    | .ab _ => 0
    | .al _ v => if subV m v = f then 0 else if fitI (.al [] (subV m v)) = true then 2 else 4
    | .va _ v => if subV m v = f then 0 else if fitI (.al [] (subV m v)) = true then 3 else 4
def visS (hs : List VI) (m : List (BNm × VT)) (y : VI) : List (BNm × VT) :=
  match findF hs (viK y), y with
  | some f, .ab n => m ++ [(([], n), f)]
  | _, _ => m
/-- the first item that is not offered, and its code -/
noncomputable def offC (hs : List VI) : List (BNm × VT) → List VI → Nat → Option (Nat × Ky × Int)
  | _, [], _ => none
  | m, y :: ys, i => if visC hs m y = 0 then offC hs (visS hs m y) ys (i + 1) else some (i, viK y, visC hs m y)
theorem visC_range (hs : List VI) (m : List (BNm × VT)) (y : VI) : 0 ≤ visC hs m y ∧ visC hs m y ≤ 4 := by
  unfold visC
  cases findF hs (viK y) with
  | none => simp
  | some f =>
    cases y with
    | ab n => simp
    | al n v => simp only; split <;> (try split) <;> simp
    | va n v => simp only; split <;> (try split) <;> simp

/-! ### the model's way: all that abstract types stand for, at once -/
def knownB (hs : List VI) : List VI → List (BNm × VT)
  | [] => []
  | .ab n :: ys => match findF hs (false, n) with
    | some f => (([], n), f) :: knownB hs ys
    | none => knownB hs ys
  | .al _ _ :: ys => knownB hs ys
  | .va _ _ :: ys => knownB hs ys
theorem knownB_app (hs : List VI) : ∀ a b : List VI, knownB hs (a ++ b) = knownB hs a ++ knownB hs b
  | [], b => rfl
  | .ab n :: a, b => by
    simp only [List.cons_append, knownB]
    cases findF hs (false, n) <;> simp [knownB_app hs a b]
  | .al _ _ :: a, b => by simp only [List.cons_append, knownB]; exact knownB_app hs a b
  | .va _ _ :: a, b => by simp only [List.cons_append, knownB]; exact knownB_app hs a b
theorem knownB_visS (hs : List VI) (a : List VI) (y : VI) : knownB hs (a ++ [y]) = visS hs (knownB hs a) y := by
  rw [knownB_app]
  unfold visS
  cases y with
  | ab n =>
    simp only [knownB, viK]
    cases findF hs (false, n) <;> simp
  | al n v => simp [knownB]
  | va n v => simp [knownB]
theorem knownB_names (hs : List VI) : ∀ (a : List VI), ∀ x ∈ knownB hs a, x.1.1 = [] ∧ (false, x.1.2) ∈ a.map viK
  | [], x, h => by simp [knownB] at h
  | .ab n :: a, x, h => by
    simp only [knownB] at h
    cases hf : findF hs (false, n) with
    | none =>
      rw [hf] at h
      have := knownB_names hs a x h
      exact ⟨this.1, by simp [this.2]⟩
    | some f =>
      rw [hf] at h
      rcases List.mem_cons.1 h with rfl | h
      · exact ⟨rfl, by simp [viK]⟩
      · have := knownB_names hs a x h
        exact ⟨this.1, by simp [this.2]⟩
  | .al _ _ :: a, x, h => by
    have := knownB_names hs a x (by simpa [knownB] using h)
    exact ⟨this.1, by simp [this.2]⟩
  | .va _ _ :: a, x, h => by
    have := knownB_names hs a x (by simpa [knownB] using h)
    exact ⟨this.1, by simp [this.2]⟩
theorem knownB_ok {hs : List VI} (hh : ∀ i, i < hs.length → VOk (meanI (hs.getD i vi0))) : ∀ (a : List VI), ∀ x ∈ knownB hs a, VOk x.2
  | [], x, h => by simp [knownB] at h
  | .ab n :: a, x, h => by
    simp only [knownB] at h
    cases hf : findF hs (false, n) with
    | none => rw [hf] at h; exact knownB_ok hh a x h
    | some f =>
      rw [hf] at h
      rcases List.mem_cons.1 h with rfl | h
      · obtain ⟨i, hi, _, h2⟩ := findF_some hf
        rw [← h2]; exact hh i hi
      · exact knownB_ok hh a x h
  | .al _ _ :: a, x, h => knownB_ok hh a x (by simpa [knownB] using h)
  | .va _ _ :: a, x, h => knownB_ok hh a x (by simpa [knownB] using h)
theorem lookB_app (q : BNm) : ∀ a b : List (BNm × VT), lookB q (a ++ b) = (lookB q a).orElse fun _ => lookB q b
  | [], b => by simp [lookB]
  | (p, v) :: a, b => by
    simp only [List.cons_append, lookB]
    split
    · rfl
    · exact lookB_app q a b
theorem lookB_none {q : BNm} {a : List (BNm × VT)} (h : ∀ x ∈ a, x.1 ≠ q) : lookB q a = none := by
  rcases Classical.em (lookB q a = none) with h' | h'
  · exact h'
  · obtain ⟨x, hx, hq⟩ := look_mem h'
    exact absurd hq (h x hx)
/-- what comes later does not matter -/
theorem subV_more {a b : List (BNm × VT)} {ks : List Ky} (hb : ∀ x ∈ b, x.1.1 = [] ∧ (false, x.1.2) ∉ ks) : ∀ {v : VT}, allV (okN ks) v = true → subV (a ++ b) v = subV a v
  | .num, _ => rfl
  | .nm m n, h => by
    rw [subV, subV, lookB_app]
    cases lookB (m, n) a with
    | some v => rfl
    | none =>
      have : lookB (m, n) b = none := lookB_none fun x hx e => by
        have h1 := hb x hx
        rw [e] at h1
        obtain ⟨h2, h3⟩ := h1
        have h2 : m = [] := h2
        subst h2
        simp only [allV, okN, decide_true, Bool.not_true, Bool.false_or, decide_eq_true_eq] at h
        exact h3 h
      rw [this]; rfl
  | .fn x y, h => by
    simp only [allV, Bool.and_eq_true] at h
    simp only [subV, subV_more hb h.1, subV_more hb h.2]
/-- the model's code for an item -/
theorem visC_all {hs ws : List VI} (ho : ordB ws = true) {i : Nat} (hi : i < ws.length) : visC hs (knownB hs ws) (ws.getD i vi0) = visC hs (knownB hs (ws.take i)) (ws.getD i vi0) := by
  have hs' : stepB (ws.take i) (ws.getD i vi0) = true := by
    have ho' := ho
    unfold ordB at ho'
    rw [List.all_eq_true] at ho'
    exact ho' i (List.mem_range.mpr hi)
  simp only [stepB, Bool.and_eq_true] at hs'
  have hsplit : knownB hs ws = knownB hs (ws.take i) ++ knownB hs (ws.drop i) := by rw [← knownB_app, List.take_append_drop]
  have hnew : ∀ x ∈ knownB hs (ws.drop i), x.1.1 = [] ∧ (false, x.1.2) ∉ (ws.take i).map viK := fun x hx => by
    obtain ⟨h1, h2⟩ := knownB_names hs _ x hx
    refine ⟨h1, fun h3 => ?_⟩
    obtain ⟨y, hy, hyk⟩ := List.mem_map.1 h2
    obtain ⟨z, hz, hzk⟩ := List.mem_map.1 h3
    obtain ⟨a, ha, rfl⟩ := List.mem_iff_getElem.1 hy
    obtain ⟨b, hb, rfl⟩ := List.mem_iff_getElem.1 hz
    simp only [List.length_drop, List.length_take] at ha hb
    have hne := ordB_ne ho (i := b) (j := i + a) (by omega) (by omega)
    apply hne
    have e1 : ws.getD b vi0 = (ws.take i)[b] := by simp [List.getD, show b < ws.length by omega]
    have e2 : ws.getD (i + a) vi0 = (ws.drop i)[a] := by simp [List.getD, show i + a < ws.length by omega]
    rw [e1, e2, hyk, hzk]
  rw [hsplit]
  unfold visC
  cases findF hs (viK (ws.getD i vi0)) with
  | none => rfl
  | some f =>
    cases hy : ws.getD i vi0 with
    | ab n => rfl
    | al n v => rw [hy] at hs'; simp only [allI] at hs'; have e := subV_more (a := knownB hs (ws.take i)) hnew hs'.1; dsimp only; rw [e]
    | va n v => rw [hy] at hs'; simp only [allI] at hs'; have e := subV_more (a := knownB hs (ws.take i)) hnew hs'.1; dsimp only; rw [e]
theorem offC_from (hs ws : List VI) : ∀ n i, n = ws.length - i → i ≤ ws.length → (∀ k, k < i → visC hs (knownB hs (ws.take k)) (ws.getD k vi0) = 0) → offC hs [] ws 0 = offC hs (knownB hs (ws.take i)) (ws.drop i) i
  | _, 0, _, _, _ => by simp [knownB]
  | n, i + 1, hn, hi, hk => by
    rw [offC_from hs ws (n + 1) i (by omega) (by omega) fun k h => hk k (by omega), vi_drop (show i < ws.length by omega), offC, if_pos (hk i (by omega))]
    have : visS hs (knownB hs (ws.take i)) (ws.getD i vi0) = knownB hs (ws.take (i + 1)) := by
      rw [← knownB_visS, List.take_add_one]
      congr 1
      simp [List.getD, show i < ws.length by omega]
    rw [this]
end Go.Proofs.YtkajklfohjcofaaGreatDoor

namespace Go.Proofs.YtkajklfohjcofaaGreatDoor
open Go.Abs

def absO : VI → Option (List UInt8)
  | .ab n => some n
  | _ => none
theorem absO_sub (m : List (BNm × VT)) (y : VI) : absO (subI m y) = absO y := by cases y <;> rfl
theorem absO_zs (ys : List VI) : ∀ i, i ≤ ys.length → (zsN ys i).map absO = (ys.take i).map absO
  | 0, _ => by simp [zsN]
  | i + 1, h => by
    have e : ys.take (i + 1) = ys.take i ++ [ys.getD i vi0] := by rw [List.take_add_one]; simp [List.getD, show i < ys.length by omega]
    rw [zsN_succ, List.map_append, absO_zs ys i (by omega), e]; simp [absO_sub]
/-! ### the program -/
theorem rdN_no {s : List SigI} {ys : List VI} (h8 : s.length ≤ 8) (hr : ReadsTo s ys) (h : ordB ys = false ∨ normL [] ys = none) : RdN s none := .inr ⟨ys, h8, hr, h⟩
set_option maxRecDepth 100000 in
theorem impl_readMatch (a b : List SigI) (ha : a.length ≤ 1048576) (hoa : ∀ x ∈ a, x.Ok ∧ sz x.typ ≤ 1048576) (hb : b.length ≤ 1048576) (hob : ∀ x ∈ b, x.Ok ∧ sz x.typ ≤ 1048576) (A : List Box) :
    ACalls Tryz.prog 46 [.slice (sEs a), .slice (sEs b)] A (fun r A' => ∃ B, A' = A ++ B ∧
      ((∃ hs ws j k, RdN a (some hs) ∧ RdN b (some ws) ∧ r = .tuple [.own (A.length + j), .own (A.length + k), .int .i64 0] ∧ j < B.length ∧ k < B.length ∧ B.getD j .dead = .row 1 (vRows hs) 0 ∧ B.getD k .dead = .row 1 (vRows ws) 0) ∨
       (∃ c, ((c = 5 ∧ (sigB a = false ∨ sigB b = false)) ∨ (c = 4 ∧ sigB a = true ∧ sigB b = true)) ∧ (RdN a none ∨ RdN b none) ∧ r = .tuple [.nils, .nils, .int .i64 c]))) := by
  refine acalls_enterK (cf := cf 45 [0, 1, 4, 5, 6, 7, 8, 9, 10, 26, 42]) foll Tryz.func46 Tryz.ntmps46 (by simp [cf]) ?_
  simp only [Tryz.f46, EnterK_some, zW, zX, zD, builtinA, isLeaf, const1, ustrA, simprocAttr, ca55, ca79, cf, Tryz.results46]
  refine callO_intro (impl_readSig a ha hoa _) ?_
  rintro r A1 ⟨h1, hA⟩
  have hA := hA.symm
  subst hA
  rcases h1 with ⟨ys, h8, hr, rfl⟩ | ⟨hbad, rfl⟩
  · simp only [zW, zX, zD, builtinA, isLeaf, const1, ustrA, simprocAttr, ca55, ca79, cf, Tryz.results46]
    refine callO_intro (impl_readSig b hb hob _) ?_
    rintro r A1 ⟨h1, hA⟩
    have hA := hA.symm
    subst hA
    rcases h1 with ⟨zs, h8', hr', rfl⟩ | ⟨hbad, rfl⟩
    · cases hord : ordB ys with
      | false =>
        have hs : sigB a = false := by rw [sigB_reads h8 hr]; exact hord
        simp only [zW, zX, zD, builtinA, isLeaf, const1, ustrA, simprocAttr, ca55, ca79, cf, Tryz.results46]
        exact ⟨[], by simp, .inr ⟨5, .inl ⟨rfl, .inl hs⟩, .inl (rdN_bad hs), rfl⟩⟩
      | true =>
        cases hord' : ordB zs with
        | false =>
          have hs : sigB b = false := by rw [sigB_reads h8' hr']; exact hord'
          simp only [zW, zX, zD, builtinA, isLeaf, const1, ustrA, simprocAttr, ca55, ca79, cf, Tryz.results46]
          exact ⟨[], by simp, .inr ⟨5, .inl ⟨rfl, .inr hs⟩, .inr (rdN_bad hs), rfl⟩⟩
        | true =>
          have hsa : sigB a = true := by rw [sigB_reads h8 hr]; exact hord
          have hsb : sigB b = true := by rw [sigB_reads h8' hr']; exact hord'
          have hna := impl_normal ys (by have := hr.1; omega) (fun k hk => by
            have := hr.2 k (by rw [← hr.1]; exact hk)
            exact mean_ok this.1 this.2) hord
          have hnb := impl_normal zs (by have := hr'.1; omega) (fun k hk => by
            have := hr'.2 k (by rw [← hr'.1]; exact hk)
            exact mean_ok this.1 this.2) hord'
          simp only [zW, zX, zD, builtinA, isLeaf, const1, ustrA, simprocAttr, ca55, ca79, cf, Tryz.results46]
          refine callO_intro (hna _) ?_
          rintro r A2 ⟨B, rfl, ⟨hs, j, e, rfl, hj, hg⟩ | ⟨e, rfl⟩⟩
          · simp only [zW, zX, zD, builtinA, isLeaf, const1, ustrA, simprocAttr, ca55, ca79, cf, Tryz.results46]
            refine callO_intro (hnb _) ?_
            rintro r A3 ⟨C, rfl, ⟨ws, k, e', rfl, hk, hgk⟩ | ⟨e', rfl⟩⟩
            · simp only [zW, zX, zD, builtinA, isLeaf, const1, ustrA, simprocAttr, ca55, ca79, cf, Tryz.results46]
              refine ⟨B ++ C, by simp, .inl ⟨hs, ws, j, B.length + k, ⟨ys, h8, hr, hord, e⟩, ⟨zs, h8', hr', hord', e'⟩, ?_, by simp; omega, by simp; omega, by rw [Abs.getD_append_left hj]; exact hg, by rw [Abs.getD_append_right (by omega), Nat.add_sub_cancel_left]; exact hgk⟩⟩
              simp [Nat.add_assoc]
            · simp only [zW, zX, zD, builtinA, isLeaf, const1, ustrA, simprocAttr, ca55, ca79, cf, Tryz.results46]
              exact ⟨B ++ C, by simp, .inr ⟨4, .inr ⟨rfl, hsa, hsb⟩, .inr (rdN_no h8' hr' (.inr e')), rfl⟩⟩
          · simp only [zW, zX, zD, builtinA, isLeaf, const1, ustrA, simprocAttr, ca55, ca79, cf, Tryz.results46]
            refine callO_intro (hnb _) ?_
            rintro r A3 ⟨C, rfl, ⟨ws, k, e', rfl, hk, hgk⟩ | ⟨e', rfl⟩⟩
            · simp only [zW, zX, zD, builtinA, isLeaf, const1, ustrA, simprocAttr, ca55, ca79, cf, Tryz.results46]
              exact ⟨B ++ C, by simp, .inr ⟨4, .inr ⟨rfl, hsa, hsb⟩, .inl (rdN_no h8 hr (.inr e)), rfl⟩⟩
            · simp only [zW, zX, zD, builtinA, isLeaf, const1, ustrA, simprocAttr, ca55, ca79, cf, Tryz.results46]
              exact ⟨B ++ C, by simp, .inr ⟨4, .inr ⟨rfl, hsa, hsb⟩, .inl (rdN_no h8 hr (.inr e)), rfl⟩⟩
    · have hs := sigB_bad hbad
      cases hord : ordB ys with
      | false =>
        simp only [zW, zX, zD, builtinA, isLeaf, const1, ustrA, simprocAttr, ca55, ca79, cf, Tryz.results46]
        exact ⟨[], by simp, .inr ⟨5, .inl ⟨rfl, .inr hs⟩, .inr (rdN_bad hs), rfl⟩⟩
      | true =>
        simp only [zW, zX, zD, builtinA, isLeaf, const1, ustrA, simprocAttr, ca55, ca79, cf, Tryz.results46]
        exact ⟨[], by simp, .inr ⟨5, .inl ⟨rfl, .inr hs⟩, .inr (rdN_bad hs), rfl⟩⟩
  · have hs := sigB_bad hbad
    simp only [zW, zX, zD, builtinA, isLeaf, const1, ustrA, simprocAttr, ca55, ca79, cf, Tryz.results46]
    refine callO_intro (impl_readSig b hb hob _) ?_
    rintro r A1 ⟨h1, hA⟩
    have hA := hA.symm
    subst hA
    rcases h1 with ⟨zs, h8', hr', rfl⟩ | ⟨hbad, rfl⟩
    · simp only [zW, zX, zD, builtinA, isLeaf, const1, ustrA, simprocAttr, ca55, ca79, cf, Tryz.results46]
      exact ⟨[], by simp, .inr ⟨5, .inl ⟨rfl, .inl hs⟩, .inl (rdN_bad hs), rfl⟩⟩
    · simp only [zW, zX, zD, builtinA, isLeaf, const1, ustrA, simprocAttr, ca55, ca79, cf, Tryz.results46]
      exact ⟨[], by simp, .inr ⟨5, .inl ⟨rfl, .inl hs⟩, .inl (rdN_bad hs), rfl⟩⟩
theorem rdN_oo {s : List SigI} {o o' : Option (List VI)} (h : RdN s o) (h' : RdN s o') : o = o' := by
  cases o with
  | none =>
    cases o' with
    | none => rfl
    | some zs => exact absurd h (rdN_not h')
  | some zs =>
    cases o' with
    | none => exact absurd h' (rdN_not h)
    | some zs' => rw [rdN_one h h']
end Go.Proofs.YtkajklfohjcofaaGreatDoor

/- Whether two types are equal, by the program's method. -/
set_option linter.unusedVariables false
set_option linter.unusedSimpArgs false
namespace Go.Proofs.YtkajklfohjcofaaGreatDoor
open Go.Abs

open Classical in
def SmM (v w : VT) : Prop := ∀ A, ACalls Tryz.prog ((pickF 211 218 181) v) [vX v, .iface (vT w) (vX w)] A (fun r A' => r = .bool (decide (v = w)) ∧ A' = A)

set_option maxRecDepth 100000 in
theorem num_same (w : VT) : SmM .num w := fun A => by
  cases w with
  | num =>
    show ACalls Tryz.prog 211 [.agg [], .iface 207 (.agg [])] A _
    refine acalls_enter (cf := cf 13 [0, 1, 4, 6]) foll Tryz.func211 Tryz.ntmps211 (by simp [cf]) ?_
    simp only [Tryz.f211, EnterK_some, zW, zX, zD, builtinA, isLeaf, const1, ustrA, simprocAttr, ti92, ti207, za207, cf, Tryz.results211]
    simp only [zW, zX, zD, builtinA, isLeaf, const1, ustrA, simprocAttr, ti92, ti207, za207, cf, Tryz.results211, wpO_typeAssert, assert_yes]
  | nm a b =>
    show ACalls Tryz.prog 211 [.agg [], .iface 154 (.agg [.str a, .str b])] A _
    have has := fun A => assert_no [] 154 207 (.agg [.str a, .str b]) rfl (A := A)
    refine acalls_enter (cf := cf 13 [0, 1, 4, 6]) foll Tryz.func211 Tryz.ntmps211 (by simp [cf]) ?_
    simp only [Tryz.f211, EnterK_some, zW, zX, zD, builtinA, isLeaf, const1, ustrA, simprocAttr, ti92, ti207, za207, cf, Tryz.results211]
    simp only [zW, zX, zD, builtinA, isLeaf, const1, ustrA, simprocAttr, ti92, ti207, za207, cf, Tryz.results211, wpO_typeAssert, has]
  | fn a b =>
    show ACalls Tryz.prog 211 [.agg [], .iface 218 (.agg [.iface (vT a) (vX a), .iface (vT b) (vX b)])] A _
    have has := fun A => assert_no [] 218 207 (.agg [.iface (vT a) (vX a), .iface (vT b) (vX b)]) rfl (A := A)
    refine acalls_enter (cf := cf 13 [0, 1, 4, 6]) foll Tryz.func211 Tryz.ntmps211 (by simp [cf]) ?_
    simp only [Tryz.f211, EnterK_some, zW, zX, zD, builtinA, isLeaf, const1, ustrA, simprocAttr, ti92, ti207, za207, cf, Tryz.results211]
    simp only [zW, zX, zD, builtinA, isLeaf, const1, ustrA, simprocAttr, ti92, ti207, za207, cf, Tryz.results211, wpO_typeAssert, has]

set_option maxRecDepth 100000 in
theorem name_same (a b : List UInt8) (w : VT) : SmM (.nm a b) w := fun A => by
  cases w with
  | num =>
    show ACalls Tryz.prog 181 [.agg [.str a, .str b], .iface 207 (.agg [])] A _
    have has := fun A => assert_no [.str [], .str []] 207 154 (.agg []) rfl (A := A)
    refine acalls_enter (cf := cf 18 [0, 1, 2, 4, 5, 6]) foll Tryz.func181 Tryz.ntmps181 (by simp [cf]) ?_
    simp only [Tryz.f181, EnterK_some, zW, zX, zD, builtinA, isLeaf, const1, ustrA, simprocAttr, ti92, ti154, ks154, za154, cf, Tryz.results181]
    simp only [zW, zX, zD, builtinA, isLeaf, const1, ustrA, simprocAttr, ti92, ti154, ks154, za154, cf, Tryz.results181, wpO_typeAssert, has]
  | nm c d =>
    show ACalls Tryz.prog 181 [.agg [.str a, .str b], .iface 154 (.agg [.str c, .str d])] A _
    refine acalls_enter (cf := cf 18 [0, 1, 2, 4, 5, 6]) foll Tryz.func181 Tryz.ntmps181 (by simp [cf]) ?_
    simp only [Tryz.f181, EnterK_some, zW, zX, zD, builtinA, isLeaf, const1, ustrA, simprocAttr, ti92, ti154, ks154, za154, cf, Tryz.results181]
    simp only [zW, zX, zD, builtinA, isLeaf, const1, ustrA, simprocAttr, ti92, ti154, ks154, za154, cf, Tryz.results181, wpO_typeAssert, assert_yes]
    simp
  | fn c d =>
    show ACalls Tryz.prog 181 [.agg [.str a, .str b], .iface 218 (.agg [.iface (vT c) (vX c), .iface (vT d) (vX d)])] A _
    have has := fun A => assert_no [.str [], .str []] 218 154 (.agg [.iface (vT c) (vX c), .iface (vT d) (vX d)]) rfl (A := A)
    refine acalls_enter (cf := cf 18 [0, 1, 2, 4, 5, 6]) foll Tryz.func181 Tryz.ntmps181 (by simp [cf]) ?_
    simp only [Tryz.f181, EnterK_some, zW, zX, zD, builtinA, isLeaf, const1, ustrA, simprocAttr, ti92, ti154, ks154, za154, cf, Tryz.results181]
    simp only [zW, zX, zD, builtinA, isLeaf, const1, ustrA, simprocAttr, ti92, ti154, ks154, za154, cf, Tryz.results181, wpO_typeAssert, has]

open Classical in
set_option maxRecDepth 100000 in
theorem fun_same (a b : VT) (ha : ∀ w, SmM a w) (hb : ∀ w, SmM b w) (w : VT) : SmM (.fn a b) w := fun A => by
  cases w with
  | num =>
    show ACalls Tryz.prog 218 [.agg [.iface (vT a) (vX a), .iface (vT b) (vX b)], .iface 207 (.agg [])] A _
    have has := fun A => assert_no [.nili, .nili] 207 218 (.agg []) rfl (A := A)
    refine acalls_enter (cf := cf 27 [0, 1, 2, 4, 5, 6]) foll Tryz.func218 Tryz.ntmps218 (by simp [cf]) ?_
    simp only [Tryz.f218, EnterK_some, zW, zX, zD, builtinA, isLeaf, const1, ustrA, simprocAttr, ti92, ti218, za218, cf, Tryz.results218]
    simp only [zW, zX, zD, builtinA, isLeaf, const1, ustrA, simprocAttr, ti92, ti218, za218, cf, Tryz.results218, wpO_typeAssert, has]
  | nm c d =>
    show ACalls Tryz.prog 218 [.agg [.iface (vT a) (vX a), .iface (vT b) (vX b)], .iface 154 (.agg [.str c, .str d])] A _
    have has := fun A => assert_no [.nili, .nili] 154 218 (.agg [.str c, .str d]) rfl (A := A)
    refine acalls_enter (cf := cf 27 [0, 1, 2, 4, 5, 6]) foll Tryz.func218 Tryz.ntmps218 (by simp [cf]) ?_
    simp only [Tryz.f218, EnterK_some, zW, zX, zD, builtinA, isLeaf, const1, ustrA, simprocAttr, ti92, ti218, za218, cf, Tryz.results218]
    simp only [zW, zX, zD, builtinA, isLeaf, const1, ustrA, simprocAttr, ti92, ti218, za218, cf, Tryz.results218, wpO_typeAssert, has]
  | fn c d =>
    show ACalls Tryz.prog 218 [.agg [.iface (vT a) (vX a), .iface (vT b) (vX b)], .iface 218 (.agg [.iface (vT c) (vX c), .iface (vT d) (vX d)])] A _
    refine acalls_enter (cf := cf 27 [0, 1, 2, 4, 5, 6]) foll Tryz.func218 Tryz.ntmps218 (by simp [cf]) ?_
    simp only [Tryz.f218, EnterK_some, zW, zX, zD, builtinA, isLeaf, const1, ustrA, simprocAttr, ti92, ti218, za218, cf, Tryz.results218]
    simp only [zW, zX, zD, builtinA, isLeaf, const1, ustrA, simprocAttr, ti92, ti218, za218, cf, Tryz.results218, wpO_typeAssert, assert_yes]
    refine wpO_invoke _ _ _ _ _ _ _ _ _ _ _ _ _ _ _ _ ?_
    simp only [zW, zX, zD, builtinA, isLeaf, const1, ustrA, simprocAttr, ti92, ti218, za218, cf, Tryz.results218]
    refine meth_invK (met3 (by kernel_rfl) (by kernel_rfl) (by kernel_rfl) (by kernel_rfl) (by kernel_rfl) (by kernel_rfl)) (ha c _) rfl (fun _ => rfl) ?_
    rintro r A' ⟨rfl, rfl⟩
    by_cases h1 : a = c
    · rw [decide_eq_true h1]
      simp only [zW, zX, zD, builtinA, isLeaf, const1, ustrA, simprocAttr, ti92, ti218, za218, cf, Tryz.results218]
      refine wpO_invoke _ _ _ _ _ _ _ _ _ _ _ _ _ _ _ _ ?_
      simp only [zW, zX, zD, builtinA, isLeaf, const1, ustrA, simprocAttr, ti92, ti218, za218, cf, Tryz.results218]
      refine meth_invK (met3 (by kernel_rfl) (by kernel_rfl) (by kernel_rfl) (by kernel_rfl) (by kernel_rfl) (by kernel_rfl)) (hb d _) rfl (fun _ => rfl) ?_
      rintro r A' ⟨rfl, rfl⟩
      simp only [zW, zX, zD, builtinA, isLeaf, const1, ustrA, simprocAttr, ti92, ti218, za218, cf, Tryz.results218]
      simp [h1]
    · rw [decide_eq_false h1]
      simp only [zW, zX, zD, builtinA, isLeaf, const1, ustrA, simprocAttr, ti92, ti218, za218, cf, Tryz.results218]
      simp [h1]
theorem smM : ∀ v w : VT, SmM v w
  | .num, w => num_same w
  | .nm a b, w => name_same a b w
  | .fn a b, w => fun_same a b (smM a) (smM b) w
end Go.Proofs.YtkajklfohjcofaaGreatDoor

/- What matching answers. -/
set_option linter.unusedVariables false
set_option linter.unusedSimpArgs false
namespace Go.Proofs.YtkajklfohjcofaaGreatDoor
open Go.Abs

/-- the code and the place of what is found -/
def mcO : Option (Nat × Ky × Int) → Int
  | none => 0
  | some x => x.2.2
def mpO : Option (Nat × Ky × Int) → Nat × Bool
  | none => (0, false)
  | some x => (x.1, true)
theorem offC_code (hs : List VI) : ∀ (ys : List VI) (m : List (BNm × VT)) (i : Nat) (x : Nat × Ky × Int), offC hs m ys i = some x → 0 < x.2.2 ∧ x.2.2 ≤ 4 ∧ i ≤ x.1 ∧ x.1 < i + ys.length
  | [], m, i, x, h => by cases h
  | y :: ys, m, i, x, h => by
    rw [offC] at h
    split at h
    · have h1 := offC_code hs ys _ _ x h
      simp only [List.length_cons]
      exact ⟨h1.1, h1.2.1, by omega, by omega⟩
    · rename_i hne
      cases h
      have := visC_range hs m y
      simp only [List.length_cons]
      exact ⟨by omega, this.2, by omega, by omega⟩
/-- what matching answers: its code and the place of the first item that is not offered -/
def MtIs (a b : List SigI) (c : Int) (p : Nat × Bool) : Prop :=
  (∃ hs ws, RdN a (some hs) ∧ RdN b (some ws) ∧ c = mcO (offC hs [] ws 0) ∧ p = mpO (offC hs [] ws 0)) ∨
  (RdN a none ∨ RdN b none) ∧ p = (0, false) ∧ c = (if sigB a = true ∧ sigB b = true then 4 else 5)
theorem mtIs_ex (a b : List SigI) : ∃ c p, MtIs a b c p := by
  obtain ⟨oa, ha⟩ := rdN_ex a
  obtain ⟨ob, hb⟩ := rdN_ex b
  cases oa with
  | none => exact ⟨_, _, .inr ⟨.inl ha, rfl, rfl⟩⟩
  | some hs =>
    cases ob with
    | none => exact ⟨_, _, .inr ⟨.inr hb, rfl, rfl⟩⟩
    | some ws => exact ⟨_, _, .inl ⟨hs, ws, ha, hb, rfl, rfl⟩⟩
theorem mtIs_one {a b : List SigI} {c c' : Int} {p p' : Nat × Bool} (h : MtIs a b c p) (h' : MtIs a b c' p') : c = c' ∧ p = p' := by
  rcases h with ⟨hs, ws, h1, h2, rfl, rfl⟩ | ⟨h1, rfl, rfl⟩
  · rcases h' with ⟨hs', ws', h3, h4, rfl, rfl⟩ | ⟨h3, rfl, rfl⟩
    · rw [rdN_one h1 h3, rdN_one h2 h4]; exact ⟨rfl, rfl⟩
    · rcases h3 with h3 | h3
      · exact absurd h3 (rdN_not h1)
      · exact absurd h3 (rdN_not h2)
  · rcases h' with ⟨hs', ws', h3, h4, rfl, rfl⟩ | ⟨h3, rfl, rfl⟩
    · rcases h1 with h1 | h1
      · exact absurd h1 (rdN_not h3)
      · exact absurd h1 (rdN_not h4)
    · exact ⟨rfl, rfl⟩
theorem rdN_sigB {s : List SigI} {zs : List VI} (h : RdN s (some zs)) : sigB s = true := by
  obtain ⟨ys, h8, hr, hord, hn⟩ := h
  rw [sigB_reads h8 hr]; exact hord
/-- abstract types are all that counts -/
theorem knownB_abs (hs : List VI) : ∀ {a b : List VI}, a.map absO = b.map absO → knownB hs a = knownB hs b
  | [], [], _ => rfl
  | [], _ :: _, h => by simp at h
  | _ :: _, [], h => by simp at h
  | x :: a, y :: b, h => by
    simp only [List.map_cons, List.cons.injEq] at h
    have ih := knownB_abs hs h.2
    cases x <;> cases y <;> simp only [absO, reduceCtorEq, Option.some.injEq] at h
    · obtain ⟨rfl, _⟩ := h; simp only [knownB, ih]
    all_goals first | (simp only [knownB]; exact ih) | exact h.1.elim
theorem findF_vok {a : List SigI} {hs : List VI} (h : RdN a (some hs)) {q : Ky} {f : VT} (hf : findF hs q = some f) : VOk f := by
  obtain ⟨i, hi, _, h2⟩ := findF_some hf
  rw [← h2]; exact (rdN_vok h).2 i hi
theorem knownB_len (hs : List VI) : ∀ a : List VI, (knownB hs a).length ≤ a.length
  | [] => by simp [knownB]
  | .ab n :: a => by
    have := knownB_len hs a
    simp only [knownB]
    cases findF hs (false, n) <;> simp <;> omega
  | .al _ _ :: a => by have := knownB_len hs a; simp only [knownB, List.length_cons]; omega
  | .va _ _ :: a => by have := knownB_len hs a; simp only [knownB, List.length_cons]; omega
theorem vok_fit {f : VT} (h : VOk f) (n : List UInt8) : fitI (.al n f) = true := by
  have h1 := h.dep
  have h2 := h.cnt
  have h1 : dep f ≤ 8 := h1
  have h2 : cnt f ≤ 63 := h2
  simp [fitI, meanI, h1, h2]

end Go.Proofs.YtkajklfohjcofaaGreatDoor

/- errors.As where the target is the program's own error type and the error is of that type, or nil: Go's own text is walked, on the memory itself. -/
set_option linter.unusedVariables false
set_option linter.unusedSimpArgs false
namespace Go.Proofs.YtkajklfohjcofaaGreatDoor
open Go.Abs Go.RowKit Go.Extern

def hT (t : Nat) : Value := .pointer (some ⟨1, t, none⟩)
def tT (t : Nat) : Value := .iface 170 (.agg #[hT t])
def vT' (t : Nat) (a : Addr) (fl : Int) : Value := .agg #[hT t, .pointer (some a), .int .u64 fl]

theorem as_valueOfP (t : Addr) (w : World) : (ReflectliteValue.unpack (.iface 75 (.pointer (some t)))).run Tryz.prog w = .ok (vT' 75 ⟨w.heap.size, 0, none⟩ 150) (w.alloc (.cells #[.pointer (some t)] 75)) := by kernel_rfl
theorem as_type (a : Addr) (w : World) : (ReflectliteValue.methodAny (ReflectliteValue.valueError "reflectlite.Value.Type" 0) (fun t _ _ _ => ReflectliteType.toType t) #[vT' 75 a 150]).run Tryz.prog w = .ok (tT 75) w := by kernel_rfl
theorem as_mKind (h : Value) (w : World) : (Go.method 358 170 (.agg #[h]) "Kind").run Tryz.prog w = .ok (163, h) w := by kernel_rfl
theorem as_kindP (w : World) : ((ReflectliteType.abiMethod fun t => (fun a : Nat => Value.int IntKind.u8 (a : Int)) <$> Rtype.kind t) #[hT 75]).run Tryz.prog w = .ok (.int .u8 22) w := by kernel_rfl
theorem as_kindT (w : World) : ((ReflectliteType.abiMethod fun t => (fun a : Nat => Value.int IntKind.u8 (a : Int)) <$> Rtype.kind t) #[hT 70]).run Tryz.prog w = .ok (.int .u8 25) w := by kernel_rfl
theorem as_rlm (z : Sem Value) (f : TypeId → Addr → Nat → Nat → Sem Value) (v : Value) :
    ReflectliteValue.method z f #[v] = (do match ← ReflectliteValue.parts v with | none => z | some (t, a, fl) => f t a fl (fl % 32)) := rfl
theorem as_partsP (a : Addr) (w : World) : (ReflectliteValue.parts (vT' 75 a 150)).run Tryz.prog w = .ok (some (75, a, 150)) w := by kernel_rfl
theorem as_isNil (a p : Addr) (W : World) (ha : W.cell? a = some (.pointer (some p))) :
    (ReflectliteValue.method (ReflectliteValue.valueError "reflectlite.Value.IsNil" 0) ReflectliteValue.isNil #[vT' 75 a 150]).run Tryz.prog W = .ok (.bool false) W := by
  rw [as_rlm]
  simp only [Sem.run_bind, as_partsP, Result.andThen]
  simp [ReflectliteValue.isNil, loadVar, isAgg, underlying, Tryz.underlying75, ha, Result.andThen]
theorem as_mElem (h : Value) (w : World) : (Go.method 358 170 (.agg #[h]) "Elem").run Tryz.prog w = .ok (193, .agg #[h]) w := by kernel_rfl
theorem as_mImpl (h : Value) (w : World) : (Go.method 358 170 (.agg #[h]) "Implements").run Tryz.prog w = .ok (194, .agg #[h]) w := by kernel_rfl
theorem as_mAsg (h : Value) (w : World) : (Go.method 358 170 (.agg #[h]) "AssignableTo").run Tryz.prog w = .ok (191, .agg #[h]) w := by kernel_rfl
theorem as_elem (w : World) : (ReflectliteType.method ReflectliteType.elem #[.agg #[hT 75]]).run Tryz.prog w = .ok (tT 70) w := by kernel_rfl
theorem as_impl (w : World) : (ReflectliteType.relation "Implements" ReflectliteType.implements_ #[.agg #[hT 70], tT 73]).run Tryz.prog w = .ok (.bool true) w := by kernel_rfl
theorem as_typeOf (v : Value) (w : World) : (ReflectliteType.typeOf #[.iface 70 v]).run Tryz.prog w = .ok (tT 70) w := by kernel_rfl
theorem as_asg (w : World) : (ReflectliteType.relation "AssignableTo" ReflectliteType.assignableTo #[.agg #[hT 70], tT 70]).run Tryz.prog w = .ok (.bool true) w := by kernel_rfl
theorem as_valueOfT (x0 x1 x2 x3 : Value) (w : World) : (ReflectliteValue.unpack (.iface 70 (.agg #[x0, x1, x2, x3]))).run Tryz.prog w = .ok (vT' 70 ⟨w.heap.size, 0, none⟩ 153) (w.alloc (.cells #[x0, x1, x2, x3] 70)) := by kernel_rfl
theorem as_elemOf (w : World) : (Rtype.elem? 75).run Tryz.prog w = .ok (some 70) w := by kernel_rfl
theorem as_mk (p : Addr) (w : World) : (ReflectliteValue.mk 70 p ReflectliteValue.flagAddr).run Tryz.prog w = .ok (vT' 70 p 409) w := by kernel_rfl
theorem as_elemV (a p : Addr) (W : World) (ha : W.cell? a = some (.pointer (some p))) :
    (ReflectliteValue.method (ReflectliteValue.valueError "reflectlite.Value.Elem" 0) ReflectliteValue.elem #[vT' 75 a 150]).run Tryz.prog W = .ok (vT' 70 p 409) W := by
  rw [as_rlm]
  simp only [Sem.run_bind, as_partsP, Result.andThen]
  simp [ReflectliteValue.elem, loadVar, isAgg, underlying, Tryz.underlying75, ha, Result.andThen, as_elemOf, as_mk]
theorem as_rls (v x : Value) : ReflectliteValue.set #[v, x] = (do
    let (some (dst, a, fl), some (src, b, _)) := (← ReflectliteValue.parts v, ← ReflectliteValue.parts x)
      | unsupported (.noEntry "extern/(internal/reflectlite.Value).Set.zeroValue")
    if fl / ReflectliteValue.flagAddr % 2 == 0 then unsupported (.noEntry "extern/(internal/reflectlite.Value).Set.unaddressable")
    let val ← loadVar src b
    if ← Rtype.directlyAssignable dst src then storeVar dst a val
    else if ← Rtype.implements dst src then
      if (← Rtype.kind src) == 20 then
        match val with
        | .nilIface => unsupported (.noEntry "extern/reflectlite: a nil value of one interface type handed on as a value of another")
        | _ => storeVar dst a val
      else storeVar dst a (.iface src val)
    else panicString ("reflectlite.Set: value of type " ++ (← Rtype.spelt src) ++ " is not assignable to type " ++ (← Rtype.spelt dst))
    pure (.tuple #[])) := rfl
theorem as_partsA (a : Addr) (w : World) : (ReflectliteValue.parts (vT' 70 a 409)).run Tryz.prog w = .ok (some (70, a, 409)) w := by kernel_rfl
theorem as_partsT (a : Addr) (w : World) : (ReflectliteValue.parts (vT' 70 a 153)).run Tryz.prog w = .ok (some (70, a, 153)) w := by kernel_rfl
theorem as_direct (w : World) : (Rtype.directlyAssignable 70 70).run Tryz.prog w = .ok true w := by kernel_rfl
theorem as_size (w : World) : (sizeOf 70).run Tryz.prog w = .ok 4 w := by kernel_rfl
theorem as_set (ta : Addr) (b : Nat) (x0 x1 x2 x3 : Value) (W W' : World) (hb : W.heap[b]? = some (.cells #[x0, x1, x2, x3] 70 (0, 0))) (hs : (storeVar 70 ta (.agg #[x0, x1, x2, x3])).run Tryz.prog W = .ok () W') :
    (ReflectliteValue.set #[vT' 70 ta 409, vT' 70 ⟨b, 0, none⟩ 153]).run Tryz.prog W = .ok (.tuple #[]) W' := by
  have hl : (loadVar 70 ⟨b, 0, none⟩).run Tryz.prog W = .ok (.agg #[x0, x1, x2, x3]) W := by
    simp [loadVar, isAgg, underlying, Tryz.underlying70, Result.andThen, as_size, loadCells, loadCellsFrom, World.cell?, hb, Addr.add]
  rw [as_rls]
  simp only [Sem.run_bind, as_partsA, as_partsT, Result.andThen]
  simp [ReflectliteValue.flagAddr, hl, Result.andThen, as_direct, hs]
theorem as_alive {w : World} {a : Addr} {v : Value} (h : w.cell? a = some v) : a.block < w.heap.size := by
  rcases Nat.lt_or_ge a.block w.heap.size with h1 | h1
  · exact h1
  · simp [World.cell?, Array.getElem?_eq_none h1] at h

set_option maxRecDepth 100000 in
set_option maxHeartbeats 4000000 in
theorem as_go (t a : Addr) (x0 x1 x2 x3 : Value) (w W' : World) (ha : w.cell? a = some (.pointer (some t)))
    (hs : (storeVar 70 t (.agg #[x0, x1, x2, x3])).run Tryz.prog ((w.alloc (.cells #[hT 75, .pointer (some a), .int .u64 150] 124)).alloc (.cells #[x0, x1, x2, x3] 70)) = .ok () W') :
    Calls Tryz.prog 83 #[.iface 70 (.agg #[x0, x1, x2, x3]), .iface 75 (.pointer (some t)), vT' 75 a 150, tT 70] w fun e w' => e = .returned (.bool true) ∧ w' = W' := by
  have h6 := @run_callFunc_extern Tryz.prog 80 _ (fun args => ReflectliteValue.unpack (args.getD 0 (.tuple #[]))) Tryz.func80 (by kernel_rfl) (by kernel_rfl) (by kernel_rfl) (by kernel_rfl)
  have h10 := @run_callFunc_extern Tryz.prog 113 _ ReflectliteType.typeOf Tryz.func113 (by kernel_rfl) (by kernel_rfl) (by kernel_rfl) (by kernel_rfl)
  have h35 := @run_callFunc_extern Tryz.prog 191 _ (ReflectliteType.relation "AssignableTo" ReflectliteType.assignableTo) Tryz.func191 (by kernel_rfl) (by kernel_rfl) (by kernel_rfl) (by kernel_rfl)
  have h11 := @run_callFunc_extern Tryz.prog 114 _ (ReflectliteValue.method (ReflectliteValue.valueError "reflectlite.Value.Elem" 0) ReflectliteValue.elem) Tryz.func114 (by kernel_rfl) (by kernel_rfl) (by kernel_rfl) (by kernel_rfl)
  have h12 := @run_callFunc_extern Tryz.prog 115 _ ReflectliteValue.set Tryz.func115 (by kernel_rfl) (by kernel_rfl) (by kernel_rfl) (by kernel_rfl)
  have tO := as_typeOf
  have mA := as_mAsg
  have aT := as_asg
  have vO := as_valueOfT
  have hal := as_alive ha
  have el := as_elemV a t (w.alloc (.cells #[hT 75, .pointer (some a), .int .u64 150] 124)) (by rw [World.cell?_alloc_lt _ _ a hal]; exact ha)
  have st := as_set t (w.heap.size + 1) x0 x1 x2 x3 _ W' (by rw [show ∀ o o' : Obj, ((w.alloc o).alloc o').heap = (w.heap.push o).push o' from fun _ _ => rfl, show w.heap.size + 1 = (w.heap.push _).size from (Array.size_push _).symm]; exact Array.getElem?_push_size) hs
  simp only [vT', tT, hT] at *
  go_enter Tryz.func83, Tryz.ntmps83
  go_wp2
  refine wp_loop_rounds 1 ?_
  rw [rounds_succ]
  go_wp2
  go_ret
  exact ⟨rfl, rfl⟩
set_option maxRecDepth 100000 in
set_option maxHeartbeats 4000000 in
theorem as_hit (t : Addr) (x0 x1 x2 x3 : Value) (w W' : World) (hg : w.cell? ⟨0, 0, none⟩ = some (tT 73))
    (hs : (storeVar 70 t (.agg #[x0, x1, x2, x3])).run Tryz.prog ((((w.alloc (.cells #[.pointer (some t)] 75)).alloc (.cells #[hT 75, .pointer (some ⟨w.heap.size, 0, none⟩), .int .u64 150] 124)).alloc (.cells #[hT 75, .pointer (some ⟨w.heap.size, 0, none⟩), .int .u64 150] 124)).alloc (.cells #[x0, x1, x2, x3] 70)) = .ok () W') :
    Calls Tryz.prog 47 #[.iface 70 (.agg #[x0, x1, x2, x3]), .iface 75 (.pointer (some t))] w fun e w' => e = .returned (.bool true) ∧ w' = W' := by
  have h6 := @run_callFunc_extern Tryz.prog 80 _ (fun args => ReflectliteValue.unpack (args.getD 0 (.tuple #[]))) Tryz.func80 (by kernel_rfl) (by kernel_rfl) (by kernel_rfl) (by kernel_rfl)
  have h7 := @run_callFunc_extern Tryz.prog 81 _ (ReflectliteValue.methodAny (ReflectliteValue.valueError "reflectlite.Value.Type" 0) (fun t _ _ _ => ReflectliteType.toType t)) Tryz.func81 (by kernel_rfl) (by kernel_rfl) (by kernel_rfl) (by kernel_rfl)
  have h8 := @run_callFunc_extern Tryz.prog 82 _ (ReflectliteValue.method (ReflectliteValue.valueError "reflectlite.Value.IsNil" 0) ReflectliteValue.isNil) Tryz.func82 (by kernel_rfl) (by kernel_rfl) (by kernel_rfl) (by kernel_rfl)
  have h27 := @run_callFunc_extern Tryz.prog 163 _ (ReflectliteType.abiMethod fun t => do pure (.int .u8 (← Rtype.kind t))) Tryz.func163 (by kernel_rfl) (by kernel_rfl) (by kernel_rfl) (by kernel_rfl)
  have h37 := @run_callFunc_extern Tryz.prog 193 _ (ReflectliteType.method ReflectliteType.elem) Tryz.func193 (by kernel_rfl) (by kernel_rfl) (by kernel_rfl) (by kernel_rfl)
  have h38 := @run_callFunc_extern Tryz.prog 194 _ (ReflectliteType.relation "Implements" ReflectliteType.implements_) Tryz.func194 (by kernel_rfl) (by kernel_rfl) (by kernel_rfl) (by kernel_rfl)
  have f6 := as_valueOfP
  have f7 := as_type
  have mK := as_mKind
  have mE := as_mElem
  have mI := as_mImpl
  have k27 := as_kindP
  have k25 := as_kindT
  have e27 := as_elem
  have i25 := as_impl
  have hlt : 0 < w.heap.size := as_alive hg
  have hp : ∀ o, ((w.alloc (.cells #[.pointer (some t)] 75)).alloc o).cell? ⟨w.heap.size, 0, none⟩ = some (.pointer (some t)) := fun o => by
    rw [World.cell?_alloc_lt _ _ ⟨w.heap.size, 0, none⟩ (by simp)]; simp
  have n8 := as_isNil ⟨w.heap.size, 0, none⟩ t ((w.alloc (.cells #[.pointer (some t)] 75)).alloc (.cells #[hT 75, .pointer (some ⟨w.heap.size, 0, none⟩), .int .u64 150] 124)) (hp _)
  have hg2 : ((w.alloc (.cells #[.pointer (some t)] 75)).alloc (.cells #[hT 75, .pointer (some ⟨w.heap.size, 0, none⟩), .int .u64 150] 124)).cell? ⟨0, 0, none⟩ = some (tT 73) := by
    rw [World.cell?_alloc_lt _ _ ⟨0, 0, none⟩ (by simp), World.cell?_alloc_lt _ _ ⟨0, 0, none⟩ hlt]; exact hg
  have go := as_go t ⟨w.heap.size, 0, none⟩ x0 x1 x2 x3 _ W' (hp _) hs
  clear hs
  simp only [vT', tT, hT] at *
  go_enter Tryz.func47, Tryz.ntmps47
  go_wp2_with (go_at_call 83; refine go.mono ?_; rintro e w' ⟨rfl, rfl⟩)
  go_ret
  exact ⟨rfl, rfl⟩

theorem hrel_skip {G : Ghost} {A : List Box} {w w' : World} {base : Nat} (h : HRel G A w base) (hk : Kept (fun _ => False) w w') : HRel G A w' base ∧ Ext G w G w' := by
  have e : Ext G w G w' := ⟨Nat.le_refl _, fun _ _ x => x, fun x o hx => cell?_congr (hk.block x (h.imm x o hx) (fun f => f)) o, fun _ _ => ⟨rfl, rfl, rfl, rfl, rfl⟩, fun x o hx f => hk.fz (h.imm x o hx) (fun f => f) f⟩
  exact ⟨⟨h.n, fun i hi => (h.box i hi).mono e (by rw [h.n]; exact hi) (fun hl => hk.block _ (h.bnd i hi hl).2 (fun f => f)) (fun _ _ x => x), h.sep, fun i hi hl => ⟨(h.bnd i hi hl).1, Nat.lt_of_lt_of_le (h.bnd i hi hl).2 hk.size⟩, fun b o x => Nat.lt_of_lt_of_le (h.imm b o x) hk.size, Nat.le_trans h.low hk.size, h.gv.block fun b hb => hk.block b (by have := h.low; omega) (fun f => f)⟩, e⟩
theorem hrel_skip1 {G : Ghost} {A : List Box} {w : World} {base : Nat} (h : HRel G A w base) (o : Obj) : HRel G A (w.alloc o) base ∧ Ext G w G (w.alloc o) ∧ Below base w (w.alloc o) :=
  have k := hrel_skip h (kept_alloc (w := w) (o := o))
  ⟨k.1, k.2, kept_alloc.below (fun _ f => f.elim) h.low⟩

set_option maxRecDepth 100000 in
theorem As_hit (A : List Box) (i : Nat) (y0 y1 y2 y3 : AV) (us : List AV) (hi : i < A.length) (hb : A.getD i .dead = .cells us) (hu : us.length = 4) :
    ACalls Tryz.prog 47 [.iface 70 (.agg [y0, y1, y2, y3]), .ifp 75 i 0] A (fun r A' => r = .bool true ∧ A' = A.set i (.cells [y0, y1, y2, y3])) := by
  intro G w base xs h hx
  obtain ⟨x, y, hxy, h1, h2⟩ := RL.two hx
  obtain ⟨xs⟩ := xs
  simp only at hxy
  subst hxy
  cases h1 with
  | iface _ _ x hv h1 =>
  cases h2 with
  | ifp _ _ _ hin =>
  have h1' := h1
  cases h1 with
  | agg _ x hs hc h1 =>
  obtain ⟨x⟩ := x
  match x, hs with
  | [x0, x1, x2, x3], _ =>
  have hg := (h.gv _ rfl).2
  obtain ⟨k1, e1, b1⟩ := hrel_skip1 h (.cells #[.pointer (some ⟨G.blk i, 0, none⟩)] 75)
  obtain ⟨k2, e2, b2⟩ := hrel_skip1 k1 (.cells #[hT 75, .pointer (some ⟨w.heap.size, 0, none⟩), .int .u64 150] 124)
  obtain ⟨k3, e3, b3⟩ := hrel_skip1 k2 (.cells #[hT 75, .pointer (some ⟨w.heap.size, 0, none⟩), .int .u64 150] 124)
  obtain ⟨k4, e4, b4⟩ := hrel_skip1 k3 (.cells #[x0, x1, x2, x3] 70)
  have e := (((e1.trans e2).trans e3).trans e4)
  obtain ⟨w', G', q1, q2, q3, q4⟩ := store_ok (A := A) (A' := A.set i (.cells [y0, y1, y2, y3])) (p := .ptr i 0) (c := 0 + 4 ≤ us.length) ti70 (vs := [y0, y1, y2, y3]) (v := .agg [y0, y1, y2, y3]) (y := .agg #[x0, x1, x2, x3]) rfl rfl (by simp only [storeA, hb]; simp [hu, List.drop_eq_nil_of_le (Nat.le_of_eq hu)]) (by omega) k4 (.ptr i 0 hin) (h1'.mono e)
  refine (as_hit ⟨G.blk i, 0, none⟩ x0 x1 x2 x3 w w' hg q1).mono ?_
  rintro ev w'' ⟨rfl, rfl⟩
  exact ⟨_, _, _, G', rfl, ⟨rfl, rfl⟩, .bool true, q2, e.trans q3, (((b1.trans b2).trans b3).trans b4).trans q4⟩
theorem As_nil (A : List Box) (v : AV) : ACalls Tryz.prog 47 [.nili, v] A (fun r A' => r = .bool false ∧ A' = A) := by
  intro G w base xs h hx
  obtain ⟨x, y, hxy, h1, h2⟩ := RL.two hx
  obtain ⟨xs⟩ := xs
  simp only at hxy
  subst hxy
  cases h1
  have : Calls Tryz.prog 47 #[.nilIface, y] w fun e w' => e = .returned (.bool false) ∧ w' = w := by
    go_enter Tryz.func47, Tryz.ntmps47
    go_wp2
    go_ret
    exact ⟨rfl, rfl⟩
  refine this.mono ?_
  rintro ev w'' ⟨rfl, rfl⟩
  exact ⟨_, _, A, G, rfl, ⟨rfl, rfl⟩, .bool false, h, Ext.refl _ _, Below.refl _ _⟩
end Go.Proofs.YtkajklfohjcofaaGreatDoor
