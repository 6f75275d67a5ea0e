/- Items of signatures as data, and what the laws' helpers do with lists of them. -/
import Derived.Test.YtebgneaehhaclaaLawTy
import Derived.Test.YtebgneaehhaclaaSigD
set_option linter.unusedVariables false
set_option linter.unusedSimpArgs false
namespace Go.Proofs.Ytebgneaehhaclaa
open Go.Abs

set_option maxRecDepth 100000 in
theorem laws_szSigItem (x : SigI) (hx : x.Ok) (l : Int) (A : List Box) (h0 : 0 ≤ l) (h1 : l ≤ 1048576) :
    ACalls Try.prog 41 [.agg (sEA x), .int .i64 l] A (fun v A' => v = .int .i64 (left l (szI x)) ∧ A' = A) := by
  have hw : IntKind.i64.wrap (l - ↑x.name.length) = l - x.name.length := wrap64 (by have := hx.1; omega) (by have := hx.1; omega)
  rw [sEA]
  refine acalls_enter (cf := cf 19 [0, 1, 2, 4, 11, 17]) foll Try.func41 Try.ntmps41 (by simp [cf]) ?_
  simp only [Try.f41, EnterK_some, zW, zX, zD, builtinA, isLeaf, const1, ustrA, simprocAttr, ti3, ti9, ti39, ti113, ca59, cf, Try.results41]
  rw [hw]
  refine ⟨by omega, condK_intro (fun h => ?_) (fun h => ?_)⟩
  · simp only [zW, zX, zD, builtinA, isLeaf, const1, ustrA, simprocAttr, ti3, ti9, ti39, ti113, ca59, cf, Try.results41]
    rw [left, if_neg (by rw [szI]; simp at h; omega)]
  · simp only [decide_eq_false_iff_not] at h
    simp only [zW, zX, zD, builtinA, isLeaf, const1, ustrA, simprocAttr, ti3, ti9, ti39, ti113, ca59, cf, Try.results41, encA_length, encA_take]
    refine callK_intro (by simp only [zW, zX, zD, builtinA, isLeaf, const1, ustrA, simprocAttr, frzL_encA, Option.map_some]; rfl) (laws_szType x.typ hx.2 _ _ (by omega) (by omega)) ?_ rfl; rintro v A' ⟨rfl, rfl⟩
    by_cases hf : ((szI x : Nat) : Int) ≤ l
    · have hv : left (l - ↑x.name.length) (sz x.typ) = l - szI x := by
        rw [szI] at hf ⊢
        rw [left, if_pos (by omega)]; omega
      have hn : decide (l - szI x < 0) = false := by simp only [decide_eq_false_iff_not]; omega
      rw [hv, left, if_pos hf]
      simp only [zW, zX, zD, builtinA, isLeaf, const1, ustrA, simprocAttr, ti3, ti9, ti39, ti113, ca59, cf, Try.results41, hn]
    · have hv : left (l - ↑x.name.length) (sz x.typ) = -1 := by
        rw [szI] at hf
        rw [left, if_neg (by omega)]
      rw [hv, left, if_neg hf]
      simp only [zW, zX, zD, builtinA, isLeaf, const1, ustrA, simprocAttr, ti3, ti9, ti39, ti113, ca59, cf, Try.results41]

set_option maxRecDepth 100000 in
theorem laws_szSigItemS (ks : List SigI) (hl : ks.length < 2 ^ 63) (hk : ∀ t ∈ ks, t.Ok) (l : Int) (A : List Box) (h0 : 0 ≤ l) (h1 : l ≤ 1048576) :
    ACalls Try.prog 17 [.aslice (sEAs ks), .int .i64 l] A (fun v A' => v = .int .i64 (left l (ks.length + szIs ks)) ∧ A' = A) := by
  have hw : IntKind.i64.wrap (l - ↑(sEAs ks).length) = l - ks.length := by rw [sEAs_length]; exact wrap64 (by omega) (by omega)
  refine acalls_enter (cf := cf 27 [0, 1, 4, 5, 11, 15, 25]) foll Try.func17 Try.ntmps17 (by simp [cf]) ?_
  simp only [Try.f17, EnterK_some, zW, zX, zD, builtinA, isLeaf, const1, ustrA, simprocAttr, ti3, ti24, ti113, ca41, cf, Try.results17]
  rw [hw]
  refine condK_intro (fun h => ?_) (fun h => ?_)
  · simp only [zW, zX, zD, builtinA, isLeaf, const1, ustrA, simprocAttr, ti3, ti24, ti113, ca41, cf, Try.results17]
    have : ¬ ((ks.length + szIs ks : Nat) : Int) ≤ l := by simp at h; omega
    rw [left, if_neg this]
  · simp only [zW, zX, zD, builtinA, isLeaf, const1, ustrA, simprocAttr, ti3, ti24, ti113, ca41, cf, Try.results17]
    refine aloop_intro [0, 1, 5] (fun e A' => ∃ i, i ≤ ks.length ∧ ((ks.length + szIs (ks.take i) : Nat) : Int) ≤ l ∧ e = [(0, .aslice (sEAs ks)), (1, .int .i64 (l - (ks.length + szIs (ks.take i) : Nat))), (5, .int .i64 i)] ∧ A' = A) (fun e _ => ks.length - (intOf (Abs.look 5 e)).toNat) ?_ ?_
    · refine ⟨0, by omega, ?_, ?_, rfl⟩
      · simp at h; simp [szIs]; omega
      · simp only [zW, zX, zD, builtinA, isLeaf, const1, ustrA, simprocAttr, ti3, ti24, ti113, ca41, cf, Try.results17]
        simp [szIs]
    · rintro e A' ⟨i, hi, hle, rfl, rfl⟩
      simp only [zW, zX, zD, builtinA, isLeaf, const1, ustrA, simprocAttr, ti3, ti24, ti113, ca41, cf, Try.results17]
      refine condK_intro (fun h2 => ?_) (fun h2 => ?_)
      · have hi2 : i < ks.length := by simp [sEAs_length] at h2; exact h2
        have he := sEAs_getD hi2
        have hm := si_mem hi2
        have hs := szIs_take hi2
        simp only [zW, zX, zD, builtinA, isLeaf, const1, ustrA, simprocAttr, ti3, ti24, ti113, ca41, cf, Try.results17, he, sEA_length, sEA_take, sEAs_length]
        refine ⟨⟨by omega, by omega⟩, ?_⟩
        refine callK_intro (by simp only [zW, zX, zD, builtinA, isLeaf, const1, ustrA, simprocAttr, frzL_sEA, Option.map_some]; rfl) (laws_szSigItem _ (hk _ hm) _ _ (by omega) (by omega)) ?_ rfl; rintro v A' ⟨rfl, rfl⟩
        by_cases hf : ((ks.length + szIs (ks.take (i + 1)) : Nat) : Int) ≤ l
        · have hv : left (l - ((ks.length + szIs (ks.take i) : Nat) : Int)) (szI (ks.getD i si0)) = l - ((ks.length + szIs (ks.take (i + 1)) : Nat) : Int) := by
            rw [left, if_pos (by omega)]; omega
          have hn : decide (l - ((ks.length + szIs (ks.take (i + 1)) : Nat) : Int) < 0) = false := by simp only [decide_eq_false_iff_not]; omega
          have hi1 : IntKind.i64.wrap ((i : Int) + 1) = ((i + 1 : Nat) : Int) := by rw [wrap64 (by omega) (by omega)]; rfl
          rw [hv]
          simp only [zW, zX, zD, builtinA, isLeaf, const1, ustrA, simprocAttr, ti3, ti24, ti113, ca41, cf, Try.results17, hn, hi1, LoopK_eq, sEAs_length]
          refine ⟨⟨i + 1, by omega, hf, rfl⟩, ?_⟩
          simp only [intOf]
          omega
        · have hv : left (l - ((ks.length + szIs (ks.take i) : Nat) : Int)) (szI (ks.getD i si0)) = -1 := by
            rw [left, if_neg (by omega)]
          have hz := szIs_le ks (i + 1)
          rw [hv, left, if_neg (by omega)]
          simp only [zW, zX, zD, builtinA, isLeaf, const1, ustrA, simprocAttr, ti3, ti24, ti113, ca41, cf, Try.results17]
      · simp only [zW, zX, zD, builtinA, isLeaf, const1, ustrA, simprocAttr, ti3, ti24, ti113, ca41, cf, Try.results17]
        have : i = ks.length := by simp [sEAs_length] at h2; omega
        subst this
        rw [List.take_length] at hle ⊢
        rw [left, if_pos hle]

set_option maxRecDepth 100000 in
theorem laws_toSigItem (x : SigI) (hx : szI x ≤ 1048576) (A : List Box) : ACalls Try.prog 43 [.agg (sEA x)] A (fun v A' => v = .agg (sE x) ∧ A' = A) := by
  have h1 : sz x.typ ≤ 1048576 := by rw [szI] at hx; omega
  rw [sEA, sE]
  refine acalls_enter (cf := cf 15 [0, 1, 2, 3]) foll Try.func43 Try.ntmps43 (by simp [cf]) ?_
  simp only [Try.f43, EnterK_some, zW, zX, zD, builtinA, isLeaf, const1, ustrA, simprocAttr, ti3, ti9, ti39, ti50, ti113, ti115, ca62, cf, Try.results43]
  simp only [zW, zX, zD, builtinA, isLeaf, const1, ustrA, simprocAttr, ti3, ti9, ti39, ti50, ti113, ti115, ca62, cf, Try.results43, encA_length, encA_take]
  refine callK_intro (by simp only [zW, zX, zD, builtinA, isLeaf, const1, ustrA, simprocAttr, frzL_encA, Option.map_some]; rfl) (laws_toType x.typ h1 _) ?_ rfl; rintro v A' ⟨rfl, rfl⟩
  simp only [zW, zX, zD, builtinA, isLeaf, const1, ustrA, simprocAttr, ti3, ti9, ti39, ti50, ti113, ti115, ca62, cf, Try.results43, enc_length, enc_take, encD, frzL_enc, Option.map_some, encCl, List.all_cons, Bool.and_true, Bool.and_self]

theorem srow_step {l : List SigI} {i : Nat} (h : i < l.length) : (sEs (l.take i) ++ List.replicate (l.length - i) zsi).set i (sE (l.getD i si0) ++ List.drop 6 ((sEs (l.take i) ++ List.replicate (l.length - i) zsi).getD i [])) = sEs (l.take (i + 1)) ++ List.replicate (l.length - (i + 1)) zsi := by
  have e1 : (sEs (l.take i)).length = i := by rw [sEs_length]; simp; omega
  have e2 : List.drop 6 ((sEs (l.take i) ++ List.replicate (l.length - i) zsi).getD i []) = [] := by
    have e3 : l.length - i = (l.length - (i + 1)) + 1 := by omega
    rw [List.getD, List.getElem?_append_right (by omega), e1, Nat.sub_self, e3, List.replicate_succ]
    rfl
  have e4 : l.length - i = (l.length - (i + 1)) + 1 := by omega
  rw [e2, List.append_nil, List.set_append_right _ _ (by omega), e1, Nat.sub_self, e4, List.replicate_succ, List.set_cons_zero]
  simp only [sEs]
  rw [List.take_add_one, List.map_append, List.append_assoc]
  simp [List.getD, h]

set_option maxRecDepth 100000 in
theorem laws_toSigItemS (ks : List SigI) (hl : ks.length ≤ 1048576) (hk : szIs ks ≤ 1048576) (A : List Box) :
    ACalls Try.prog 19 [.aslice (sEAs ks)] A (fun v A' => v = .slice (sEs ks) ∧ A' = A) := by
  have hl2 : ((sEAs ks).length : Int) ≤ 1048576 := by rw [sEAs_length]; omega
  refine acalls_enter (cf := cf 23 [0, 2, 3, 4, 11]) foll Try.func19 Try.ntmps19 (by simp [cf]) ?_
  simp only [Try.f19, EnterK_some, zW, zX, zD, builtinA, isLeaf, const1, ustrA, simprocAttr, ti3, ti24, ti31, ti113, ti115, ca43, cf, Try.results19]
  refine ⟨⟨by omega, by omega, by omega⟩, ?_⟩
  refine aloop_intro [0, 3, 4] (fun e A' => ∃ i, i ≤ ks.length ∧ e = [(0, .aslice (sEAs ks)), (3, .own A.length), (4, .int .i64 i)] ∧ A' = A ++ [.row 6 (sEs (ks.take i) ++ List.replicate (ks.length - i) zsi) 0]) (fun e _ => ks.length - (intOf (Abs.look 4 e)).toNat) ?_ ?_
  · simp only [zW, zX, zD, builtinA, isLeaf, const1, ustrA, simprocAttr, ti3, ti24, ti31, ti113, ti115, ca43, cf, Try.results19]
    exact ⟨0, by omega, rfl, by rw [sEAs_length]; simp [sEs, zsi]⟩
  · rintro e A' ⟨i, hi, rfl, rfl⟩
    simp only [zW, zX, zD, builtinA, isLeaf, const1, ustrA, simprocAttr, ti3, ti24, ti31, ti113, ti115, ca43, cf, Try.results19, sEAs_length]
    refine condK_intro (fun h2 => ?_) (fun h2 => ?_)
    · have hi2 : i < ks.length := by simpa using h2
      have he := sEAs_getD hi2
      have hm := si_mem hi2
      have hzm := szIs_mem hm
      simp only [zW, zX, zD, builtinA, isLeaf, const1, ustrA, simprocAttr, ti3, ti24, ti31, ti113, ti115, ca43, cf, Try.results19, he, sEA_length, sEA_take, sEAs_length]
      refine ⟨⟨by omega, by omega⟩, ?_⟩
      refine callK_intro (by simp only [zW, zX, zD, builtinA, isLeaf, const1, ustrA, simprocAttr, frzL_sEA, Option.map_some]; rfl) (laws_toSigItem _ (by omega) _) ?_ rfl; rintro v A' ⟨rfl, rfl⟩
      have hi1 : IntKind.i64.wrap ((i : Int) + 1) = ((i + 1 : Nat) : Int) := by rw [wrap64 (by omega) (by omega)]; rfl
      simp only [zW, zX, zD, builtinA, isLeaf, const1, ustrA, simprocAttr, ti3, ti24, ti31, ti113, ti115, ca43, cf, Try.results19, sE_length, frzL_sE, srow_step hi2, hi1, LoopK_eq]
      have hlen : (sEs (List.take i ks)).length + (List.replicate (ks.length - i) zsi).length = ks.length := by
        simp [sEs_length]; omega
      rw [hlen]
      refine ⟨⟨by omega, by omega⟩, ⟨by omega, by omega, fun v hv => sE_leaf _ v hv⟩, ⟨i + 1, by omega, rfl, rfl⟩, ?_⟩
      simp only [intOf]
      omega
    · simp only [zW, zX, zD, builtinA, isLeaf, const1, ustrA, simprocAttr, ti3, ti24, ti31, ti113, ti115, ca43, cf, Try.results19]
      have : i = ks.length := by simp at h2; omega
      subst this
      simp [List.take_length]

set_option maxRecDepth 100000 in
theorem laws_eqSigItem (x : SigI) (hx : x.Ok) (A : List Box) : ACalls Try.prog 47 [.agg (sE x), .agg (sE x)] A (fun v A' => v = .bool true ∧ A' = A) := by
  rw [sE]
  refine acalls_enter (cf := cf 21 [0, 1, 2, 3, 4, 9, 14, 20]) foll Try.func47 Try.ntmps47 (by simp [cf]) ?_
  simp only [Try.f47, EnterK_some, zW, zX, zD, builtinA, isLeaf, const1, ustrA, simprocAttr, ti3, ti9, ti50, ti115, ca68, cf, Try.results47]
  simp only [zW, zX, zD, builtinA, isLeaf, const1, ustrA, simprocAttr, ti3, ti9, ti50, ti115, ca68, cf, Try.results47, enc_length, enc_take]
  refine callK_intro (by simp only [zW, zX, zD, builtinA, isLeaf, const1, ustrA, simprocAttr, frzL_enc, Option.map_some]; rfl) (laws_eqType x.typ hx.2 _) ?_ rfl; rintro v A' ⟨rfl, rfl⟩
  simp only [zW, zX, zD, builtinA, isLeaf, const1, ustrA, simprocAttr, ti3, ti9, ti50, ti115, ca68, cf, Try.results47]

set_option maxRecDepth 100000 in
theorem laws_eqSigItemS (ks : List SigI) (hl : ks.length < 2 ^ 63) (hk : ∀ t ∈ ks, t.Ok) (A : List Box) :
    ACalls Try.prog 21 [.slice (sEs ks), .slice (sEs ks)] A (fun v A' => v = .bool true ∧ A' = A) := by
  refine acalls_enter (cf := cf 27 [0, 1, 4, 5, 10, 14, 26]) foll Try.func21 Try.ntmps21 (by simp [cf]) ?_
  simp only [Try.f21, EnterK_some, zW, zX, zD, builtinA, isLeaf, const1, ustrA, simprocAttr, ti3, ti31, ti115, ca47, cf, Try.results21]
  refine aloop_intro [0, 1, 5] (fun e A' => ∃ i, i ≤ ks.length ∧ e = [(0, .slice (sEs ks)), (1, .slice (sEs ks)), (5, .int .i64 i)] ∧ A' = A) (fun e _ => ks.length - (intOf (Abs.look 5 e)).toNat) ?_ ?_
  · simp only [zW, zX, zD, builtinA, isLeaf, const1, ustrA, simprocAttr, ti3, ti31, ti115, ca47, cf, Try.results21]
    exact ⟨0, by omega, rfl⟩
  · rintro e A' ⟨i, hi, rfl, rfl⟩
    simp only [zW, zX, zD, builtinA, isLeaf, const1, ustrA, simprocAttr, ti3, ti31, ti115, ca47, cf, Try.results21, sEs_length]
    refine condK_intro (fun h2 => ?_) (fun h2 => ?_)
    · have hi2 : i < ks.length := by simpa using h2
      have he := sEs_getD hi2
      have hm := si_mem hi2
      have hi1 : IntKind.i64.wrap ((i : Int) + 1) = ((i + 1 : Nat) : Int) := by rw [wrap64 (by omega) (by omega)]; rfl
      simp only [zW, zX, zD, builtinA, isLeaf, const1, ustrA, simprocAttr, ti3, ti31, ti115, ca47, cf, Try.results21, he, sE_length, sE_take, sEs_length]
      refine .inl ⟨by kernel_rfl, by kernel_rfl, ⟨by omega, by omega⟩, ⟨by omega, by omega⟩, ?_⟩
      refine callD_intro (by simp only [zW, zX, zD, builtinA, isLeaf, const1, ustrA, simprocAttr, frzL_sE, Option.map_some] <;> rfl) (laws_eqSigItem _ (hk _ hm) _) ?_ rfl
      simp only [zW, zX, zD, builtinA, isLeaf, const1, ustrA, simprocAttr, ti3, ti31, ti115, ca47, cf, Try.results21, hi1, LoopK_eq]
      refine ⟨⟨i + 1, by omega, rfl⟩, ?_⟩
      simp only [intOf]
      omega
    · simp only [zW, zX, zD, builtinA, isLeaf, const1, ustrA, simprocAttr, ti3, ti31, ti115, ca47, cf, Try.results21]
end Go.Proofs.Ytebgneaehhaclaa
