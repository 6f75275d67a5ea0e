/- The model's SigValid. -/
import Derived.Test.YtapkacochknndaaGreatSigSpec2
import Derived.Test.YtapkacochknndaaGreatAbsW3
set_option linter.unusedVariables false
set_option linter.unusedSimpArgs false
namespace Go.Proofs.YtapkacochknndaaGreat
open Go.Abs

open Classical in
noncomputable def knT (s : List SigI) (τ : Ty) : Bool := if h : ∃ v, τ = toTy v then allV (knN s) h.choose else false
theorem toTy_one : ∀ {v v' : VT}, toTy v = toTy v' → v = v'
  | .num, .num, _ => rfl
  | .num, .nm _ _, h => by simp [toTy] at h
  | .num, .fn _ _, h => by simp [toTy] at h
  | .nm _ _, .num, h => by simp [toTy] at h
  | .nm _ _, .fn _ _, h => by simp [toTy] at h
  | .fn _ _, .num, h => by simp [toTy] at h
  | .fn _ _, .nm _ _, h => by simp [toTy] at h
  | .nm m n, .nm m' n', h => by simp [toTy] at h; rw [h.1, h.2]
  | .fn a b, .fn a' b', h => by
    simp [toTy] at h
    rw [toTy_one h.1, toTy_one h.2]

theorem knT_toTy (s : List SigI) (v : VT) : knT s (toTy v) = allV (knN s) v := by
  unfold knT
  have h : ∃ w, toTy v = toTy w := ⟨v, rfl⟩
  rw [dif_pos h, ← toTy_one h.choose_spec]
def sameK (x y : SigI) : Bool := decide (y.name = x.name) && decide (isTB y = isTB x)
def dupB (s : List SigI) (x : SigI) : Bool := s.any (sameK x)
noncomputable def typB (s : List SigI) (x : SigI) : Bool :=
  if x.kind = 1 then decide (x.typ = ty0) else if x.kind = 2 ∨ x.kind = 3 then validB x.typ && knT s x.typ else false
noncomputable def itemB (s : List SigI) (x : SigI) : Bool := localB x.name && (!dupB s x && typB s x)

noncomputable def sigB (s : List SigI) : Bool := decide (s.length ≤ 8) && (List.range s.length).all fun i => itemB (s.take i) (s.getD i si0)

set_option maxRecDepth 100000 in
theorem spec_l2Item (s : List SigI) (hs : s.length ≤ 1048576) (x : SigI) (hx : x.Ok) (hz : sz x.typ ≤ 1048576) (A : List Box) : ACalls Tryz.prog 67 [.slice (sEs s), .agg (sE x)] A (fun r A' => r = .bool (itemB s x) ∧ A' = A) := by
  have hsx : sE x = .int .i64 x.kind :: .str x.name :: enc x.typ := rfl
  rw [hsx]
  refine acalls_enter (cf := cf 53 [0, 1, 3, 4, 5, 9, 13, 33, 35, 36, 41]) foll Tryz.func67 Tryz.ntmps67 (by simp [cf]) ?_
  simp only [Tryz.f67, EnterK_some, zW, zX, zD, builtinA, isLeaf, const1, ustrA, simprocAttr, ti3, ti4, ti9, ti24, ti57, ti59, ca63, ca92, ca93, ca94, ca95, cf, Tryz.results67]
  refine ⟨by omega, ?_⟩
  refine callK_intro (by simp only [zW, zX, zD, builtinA, isLeaf, const1, ustrA, simprocAttr, Option.map_some]; rfl) (spec_LocalName x.name _) ?_ rfl; rintro v A' ⟨rfl, rfl⟩
  cases hl : localB x.name with
  | false =>
    simp only [zW, zX, zD, builtinA, isLeaf, const1, ustrA, simprocAttr, ti3, ti4, ti9, ti24, ti57, ti59, ca63, ca92, ca93, ca94, ca95, cf, Tryz.results67]
    simp [itemB, hl]
  | true =>
    simp only [zW, zX, zD, builtinA, isLeaf, const1, ustrA, simprocAttr, ti3, ti4, ti9, ti24, ti57, ti59, ca63, ca92, ca93, ca94, ca95, cf, Tryz.results67]
    refine aloop_intro [0, 3, 5] (fun e A' => ∃ i, i ≤ s.length ∧ dupB (s.take i) x = false ∧ e = [(0, .slice (sEs s)), (3, .ptr A.length 0), (5, .int .i64 (i : Nat))] ∧ A' = A ++ [.cells (.int .i64 x.kind :: .str x.name :: enc x.typ)]) (fun e _ => s.length - (intOf (Abs.look 5 e)).toNat) ?_ ?_
    · simp only [zW, zX, zD, builtinA, isLeaf, const1, ustrA, simprocAttr, ti3, ti4, ti9, ti24, ti57, ti59, ca63, ca92, ca93, ca94, ca95, cf, Tryz.results67]
      exact ⟨0, by omega, by simp [dupB], rfl⟩
    · rintro e A' ⟨i, hi, hq, rfl, rfl⟩
      simp only [zW, zX, zD, builtinA, isLeaf, const1, ustrA, simprocAttr, ti3, ti4, ti9, ti24, ti57, ti59, ca63, ca92, ca93, ca94, ca95, cf, Tryz.results67, sEs_length]
      refine condK_intro (fun h2 => ?_) (fun h2 => ?_)
      · have hi2 : i < s.length := by simp at h2; omega
        have hg := sEs_getD hi2
        have hmem := si_mem hi2
        have htk : dupB (s.take (i + 1)) x = (dupB (s.take i) x || sameK x (s.getD i si0)) := by rw [si_take hi2]; simp [dupB]
        have hi1 : IntKind.i64.wrap ((i : Int) + 1) = ((i + 1 : Nat) : Int) := by rw [wrap64 (by omega) (by omega)]; rfl
        generalize s.getD i si0 = y at *
        have hgy : (sEs s).getD i [] = .int .i64 y.kind :: .str y.name :: enc y.typ := hg
        have pi : (0 : Int) ≤ (i : Int) ∧ (i : Int) < (s.length : Int) := ⟨by omega, by omega⟩
        simp only [zW, zX, zD, builtinA, isLeaf, const1, ustrA, simprocAttr, ti3, ti4, ti9, ti24, ti57, ti59, ca63, ca92, ca93, ca94, ca95, cf, Tryz.results67, hgy, sEs_length, enc_length]
        refine .inl ⟨by kernel_rfl, by kernel_rfl, pi, ?_⟩
        have hty : ∀ A, ACalls Tryz.prog 63 [.agg (.int .i64 y.kind :: .str y.name :: enc y.typ)] A (fun r A' => r = .bool (isTB y) ∧ A' = A) := spec_l2IsType y
        have htx : ∀ A, ACalls Tryz.prog 63 [.agg (.int .i64 x.kind :: .str x.name :: enc x.typ)] A (fun r A' => r = .bool (isTB x) ∧ A' = A) := spec_l2IsType x
        by_cases he : y.name = x.name
        · simp only [zW, zX, zD, builtinA, isLeaf, const1, ustrA, simprocAttr, ti3, ti4, ti9, ti24, ti57, ti59, ca63, ca92, ca93, ca94, ca95, cf, Tryz.results67, decide_eq_true he, hgy, sEs_length, enc_length, enc_take]
          refine ⟨pi, ?_⟩
          refine callD_intro (by simp only [zW, zX, zD, builtinA, isLeaf, const1, ustrA, simprocAttr, frzL_enc, Option.map_some] <;> rfl) (hty _) ?_ rfl
          simp only [zW, zX, zD, builtinA, isLeaf, const1, ustrA, simprocAttr, ti3, ti4, ti9, ti24, ti57, ti59, ca63, ca92, ca93, ca94, ca95, cf, Tryz.results67, enc_length, enc_take]
          refine callD_intro (by simp only [zW, zX, zD, builtinA, isLeaf, const1, ustrA, simprocAttr, frzL_enc, Option.map_some] <;> rfl) (htx _) ?_ rfl
          simp only [zW, zX, zD, builtinA, isLeaf, const1, ustrA, simprocAttr, ti3, ti4, ti9, ti24, ti57, ti59, ca63, ca92, ca93, ca94, ca95, cf, Tryz.results67]
          have hbb : (isTB y == isTB x) = decide (isTB y = isTB x) := by cases isTB y <;> cases isTB x <;> rfl
          rw [hbb]
          cases hb : decide (isTB y = isTB x) with
          | true =>
            have hd : dupB s x = true := List.any_eq_true.mpr ⟨y, hmem, by simp [sameK, he, hb]⟩
            simp only [zW, zX, zD, builtinA, isLeaf, const1, ustrA, simprocAttr, ti3, ti4, ti9, ti24, ti57, ti59, ca63, ca92, ca93, ca94, ca95, cf, Tryz.results67]
            simp [itemB, hd]
          | false =>
            have hk : sameK x y = false := by simp [sameK, hb]
            rw [hk, Bool.or_false, hq] at htk
            simp only [zW, zX, zD, builtinA, isLeaf, const1, ustrA, simprocAttr, ti3, ti4, ti9, ti24, ti57, ti59, ca63, ca92, ca93, ca94, ca95, cf, Tryz.results67, hi1, LoopK_eq]
            refine ⟨⟨i + 1, by omega, htk, rfl⟩, ?_⟩
            simp only [intOf]; omega
        · have hk : sameK x y = false := by simp [sameK, he]
          rw [hk, Bool.or_false, hq] at htk
          simp only [zW, zX, zD, builtinA, isLeaf, const1, ustrA, simprocAttr, ti3, ti4, ti9, ti24, ti57, ti59, ca63, ca92, ca93, ca94, ca95, cf, Tryz.results67, decide_eq_false he, hi1, LoopK_eq]
          refine ⟨⟨i + 1, by omega, htk, rfl⟩, ?_⟩
          simp only [intOf]; omega
      · have hi2 : i = s.length := by simp at h2; omega
        subst hi2
        rw [List.take_length] at hq
        simp only [zW, zX, zD, builtinA, isLeaf, const1, ustrA, simprocAttr, ti3, ti4, ti9, ti24, ti57, ti59, ca63, ca92, ca93, ca94, ca95, cf, Tryz.results67, enc_length, enc_take]
        have hib : itemB s x = typB s x := by simp [itemB, hl, hq]
        rw [hib, typB]
        by_cases k1 : x.kind = 1
        · rw [if_pos k1]
          simp only [zW, zX, zD, builtinA, isLeaf, const1, ustrA, simprocAttr, ti3, ti4, ti9, ti24, ti57, ti59, ca63, ca92, ca93, ca94, ca95, cf, Tryz.results67, decide_eq_true k1, enc_length, enc_take]
          refine callK_intro (by simp only [zW, zX, zD, builtinA, isLeaf, const1, ustrA, simprocAttr, frzL_enc, Option.map_some]; rfl) (spec_l2Zero x.typ _) ?_ rfl; rintro v A' ⟨rfl, rfl⟩
          simp only [zW, zX, zD, builtinA, isLeaf, const1, ustrA, simprocAttr, ti3, ti4, ti9, ti24, ti57, ti59, ca63, ca92, ca93, ca94, ca95, cf, Tryz.results67]
        · rw [if_neg k1]
          simp only [zW, zX, zD, builtinA, isLeaf, const1, ustrA, simprocAttr, ti3, ti4, ti9, ti24, ti57, ti59, ca63, ca92, ca93, ca94, ca95, cf, Tryz.results67, decide_eq_false k1]
          have hvl := fun A => spec_TypeValid x.typ hx.2 hz A
          have hkn := fun v (hv : VOk v) (hx' : x.typ = toTy v) A => spec_l2Known s hs v hv.1 (by have := hv.cnt; omega) A
          by_cases k2 : x.kind = 2
          · rw [if_pos (.inl k2)]
            simp only [zW, zX, zD, builtinA, isLeaf, const1, ustrA, simprocAttr, ti3, ti4, ti9, ti24, ti57, ti59, ca63, ca92, ca93, ca94, ca95, cf, Tryz.results67, decide_eq_true k2, enc_length, enc_take]
            refine callK_intro (by simp only [zW, zX, zD, builtinA, isLeaf, const1, ustrA, simprocAttr, frzL_enc, Option.map_some]; rfl) (hvl _) ?_ rfl; rintro v A' ⟨rfl, rfl⟩
            simp only [zW, zX, zD, builtinA, isLeaf, const1, ustrA, simprocAttr, ti3, ti4, ti9, ti24, ti57, ti59, ca63, ca92, ca93, ca94, ca95, cf, Tryz.results67]
            rcases valid_cases x.typ with ⟨v, hxv, hv⟩ | hv
            · have hva : validB x.typ = true := by rw [hxv]; exact validB_toTy hv
              have hkt : knT s x.typ = allV (knN s) v := by rw [hxv]; exact knT_toTy s v
              simp only [zW, zX, zD, builtinA, isLeaf, const1, ustrA, simprocAttr, ti3, ti4, ti9, ti24, ti57, ti59, ca63, ca92, ca93, ca94, ca95, cf, Tryz.results67, hva, enc_length, enc_take]
              rw [hxv]
              refine callK_intro (by simp only [zW, zX, zD, builtinA, isLeaf, const1, ustrA, simprocAttr, frzL_enc, Option.map_some]; rfl) (hkn v hv hxv _) ?_ rfl; rintro v A' ⟨rfl, rfl⟩
              simp only [zW, zX, zD, builtinA, isLeaf, const1, ustrA, simprocAttr, ti3, ti4, ti9, ti24, ti57, ti59, ca63, ca92, ca93, ca94, ca95, cf, Tryz.results67]
              rw [← hxv, hkt]
            · simp only [zW, zX, zD, builtinA, isLeaf, const1, ustrA, simprocAttr, ti3, ti4, ti9, ti24, ti57, ti59, ca63, ca92, ca93, ca94, ca95, cf, Tryz.results67, hv]
          · simp only [zW, zX, zD, builtinA, isLeaf, const1, ustrA, simprocAttr, ti3, ti4, ti9, ti24, ti57, ti59, ca63, ca92, ca93, ca94, ca95, cf, Tryz.results67, decide_eq_false k2]
            by_cases k3 : x.kind = 3
            · rw [if_pos (.inr k3)]
              simp only [zW, zX, zD, builtinA, isLeaf, const1, ustrA, simprocAttr, ti3, ti4, ti9, ti24, ti57, ti59, ca63, ca92, ca93, ca94, ca95, cf, Tryz.results67, decide_eq_true k3, enc_length, enc_take]
              refine callK_intro (by simp only [zW, zX, zD, builtinA, isLeaf, const1, ustrA, simprocAttr, frzL_enc, Option.map_some]; rfl) (hvl _) ?_ rfl; rintro v A' ⟨rfl, rfl⟩
              simp only [zW, zX, zD, builtinA, isLeaf, const1, ustrA, simprocAttr, ti3, ti4, ti9, ti24, ti57, ti59, ca63, ca92, ca93, ca94, ca95, cf, Tryz.results67]
              rcases valid_cases x.typ with ⟨v, hxv, hv⟩ | hv
              · have hva : validB x.typ = true := by rw [hxv]; exact validB_toTy hv
                have hkt : knT s x.typ = allV (knN s) v := by rw [hxv]; exact knT_toTy s v
                simp only [zW, zX, zD, builtinA, isLeaf, const1, ustrA, simprocAttr, ti3, ti4, ti9, ti24, ti57, ti59, ca63, ca92, ca93, ca94, ca95, cf, Tryz.results67, hva, enc_length, enc_take]
                rw [hxv]
                refine callK_intro (by simp only [zW, zX, zD, builtinA, isLeaf, const1, ustrA, simprocAttr, frzL_enc, Option.map_some]; rfl) (hkn v hv hxv _) ?_ rfl; rintro v A' ⟨rfl, rfl⟩
                simp only [zW, zX, zD, builtinA, isLeaf, const1, ustrA, simprocAttr, ti3, ti4, ti9, ti24, ti57, ti59, ca63, ca92, ca93, ca94, ca95, cf, Tryz.results67]
                rw [← hxv, hkt]
              · simp only [zW, zX, zD, builtinA, isLeaf, const1, ustrA, simprocAttr, ti3, ti4, ti9, ti24, ti57, ti59, ca63, ca92, ca93, ca94, ca95, cf, Tryz.results67, hv]
            · rw [if_neg (by simp [k2, k3])]
              simp only [zW, zX, zD, builtinA, isLeaf, const1, ustrA, simprocAttr, ti3, ti4, ti9, ti24, ti57, ti59, ca63, ca92, ca93, ca94, ca95, cf, Tryz.results67, decide_eq_false k3]

theorem sigB_no {s : List SigI} {i : Nat} (hi : i < s.length) (h : itemB (s.take i) (s.getD i si0) = false) : sigB s = false := by
  unfold sigB
  have : ((List.range s.length).all fun i => itemB (s.take i) (s.getD i si0)) = false := by
    rw [List.all_eq_false]
    exact ⟨i, List.mem_range.mpr hi, by rw [h]; simp⟩
  rw [this, Bool.and_false]
theorem sE_len (x : SigI) : (sE x).length = 6 := by simp [sE, enc_length]
theorem rows_sEs (s : List SigI) : ∀ r ∈ sEs s, r.length = 6 := by
  intro r hr
  obtain ⟨x, _, rfl⟩ := List.mem_map.mp hr
  exact sE_len x
theorem take_sEs (s : List SigI) (i : Nat) : (sEs s).take i = sEs (s.take i) := by simp [sEs, List.map_take]
set_option maxRecDepth 100000 in
theorem spec_SigValid (s : List SigI) (hs : s.length ≤ 1048576) (ho : ∀ x ∈ s, x.Ok ∧ sz x.typ ≤ 1048576) (A : List Box) : ACalls Tryz.prog 33 [.slice (sEs s)] A (fun r A' => r = .bool (sigB s) ∧ A' = A) := by
  refine acalls_enter (cf := cf 26 [0, 2, 3, 11, 22]) foll Tryz.func33 Tryz.ntmps33 (by simp [cf]) ?_
  simp only [Tryz.f33, EnterK_some, zW, zX, zD, builtinA, isLeaf, const1, ustrA, simprocAttr, ti3, ti24, ti59, ca67, cf, Tryz.results33]
  refine aloop_intro [0, 3] (fun e A' => ∃ i, i ≤ s.length ∧ i ≤ 9 ∧ (∀ k, k < i → itemB (s.take k) (s.getD k si0) = true) ∧ e = [(0, .slice (sEs s)), (3, .int .i64 (i : Nat))] ∧ A' = A) (fun e _ => s.length - (intOf (Abs.look 3 e)).toNat) ?_ ?_
  · simp only [zW, zX, zD, builtinA, isLeaf, const1, ustrA, simprocAttr, ti3, ti24, ti59, ca67, cf, Tryz.results33]
    exact ⟨0, by omega, by omega, fun k hk => by omega, rfl⟩
  · rintro e A' ⟨i, hi, hi9, hq, rfl, rfl⟩
    by_cases hlt : i < s.length
    · have d1 : decide ((i : Int) < (s.length : Int)) = true := by simp; omega
      have hlt' : 0 ≤ (i : Int) ∧ (i : Int) < (s.length : Int) := by omega
      by_cases h8 : i ≤ 8
      · have d2 : decide ((i : Int) ≤ 8) = true := by simp; omega
        have hmem := si_mem hlt
        have hg := sEs_getD hlt
        have hit := spec_l2Item (s.take i) (by simp; omega) (s.getD i si0) (ho _ hmem).1 (ho _ hmem).2
        rw [← hg] at hit
        have hi1 : IntKind.i64.wrap ((i : Int) + 1) = ((i + 1 : Nat) : Int) := by rw [wrap64 (by omega) (by omega)]; rfl
        have p1 : (0 : Int) ≤ (i : Int) ∧ (i : Int) ≤ (s.length : Int) := by omega
        simp only [zW, zX, zD, builtinA, isLeaf, const1, ustrA, simprocAttr, ti3, ti24, ti59, ca67, cf, Tryz.results33, sEs_length, d1, d2]
        refine .inl ⟨by kernel_rfl, by kernel_rfl, ?_⟩
        simp only [zW, zX, zD, builtinA, isLeaf, const1, ustrA, simprocAttr, ti3, ti24, ti59, ca67, cf, Tryz.results33, sEs_length, take_sEs]
        have l6 : ((sEs s).getD i []).length = 6 := by rw [hg, sE_len]
        rw [List.take_of_length_le (by omega : ((sEs s).getD i []).length ≤ 6)]
        refine ⟨⟨rows_sEs s, p1⟩, ⟨hlt'.1, hlt'.2, l6⟩, by omega, ?_⟩
        rw [hg]
        rw [hg] at hit
        refine callD_intro (by simp only [zW, zX, zD, builtinA, isLeaf, const1, ustrA, simprocAttr, Option.map_some, frzL_sE] <;> rfl) (hit _) ?_ rfl
        simp only [zW, zX, zD, builtinA, isLeaf, const1, ustrA, simprocAttr, ti3, ti24, ti59, ca67, cf, Tryz.results33]
        cases hb : itemB (s.take i) (s.getD i si0) with
        | false =>
          simp only [zW, zX, zD, builtinA, isLeaf, const1, ustrA, simprocAttr, ti3, ti24, ti59, ca67, cf, Tryz.results33, Bool.not_false]
          rw [sigB_no hlt hb]
        | true =>
          simp only [zW, zX, zD, builtinA, isLeaf, const1, ustrA, simprocAttr, ti3, ti24, ti59, ca67, cf, Tryz.results33, Bool.not_true, hi1, LoopK_eq]
          refine ⟨⟨i + 1, by omega, by omega, fun k hk => ?_, rfl⟩, ?_⟩
          · rcases Nat.lt_succ_iff_lt_or_eq.mp hk with h | rfl
            · exact hq k h
            · exact hb
          · simp only [intOf]; omega
      · have d2 : decide ((i : Int) ≤ 8) = false := by simp; omega
        simp only [zW, zX, zD, builtinA, isLeaf, const1, ustrA, simprocAttr, ti3, ti24, ti59, ca67, cf, Tryz.results33, sEs_length, d1, d2]
        have : sigB s = false := by simp [sigB, show ¬ s.length ≤ 8 by omega]
        rw [this]
        simp; omega
    · have d1 : decide ((i : Int) < (s.length : Int)) = false := by simp; omega
      simp only [zW, zX, zD, builtinA, isLeaf, const1, ustrA, simprocAttr, ti3, ti24, ti59, ca67, cf, Tryz.results33, sEs_length, d1]
      have e : i = s.length := by omega
      subst e
      have : sigB s = decide (s.length ≤ 8) := by
        unfold sigB
        rw [show ((List.range s.length).all fun i => itemB (s.take i) (s.getD i si0)) = true from by
          rw [List.all_eq_true]
          intro k hk
          exact hq k (List.mem_range.mp hk), Bool.and_true]
      rw [this]
      congr 1
      rw [Bool.eq_iff_iff]; simp; omega
end Go.Proofs.YtapkacochknndaaGreat
