/- Modules with their signatures as data, and what the laws' helpers do with lists of them. -/
import Derived.Test.YtebgneaehhaclaaGreatSigs
import Derived.Test.YtebgneaehhaclaaGreatSigLaw
import Derived.Test.YtebgneaehhaclaaGreatAbsW3
set_option linter.unusedVariables false
set_option linter.unusedSimpArgs false
namespace Go.Proofs.YtebgneaehhaclaaGreat
open Go.Abs

structure ImI where
  name : List UInt8
  sig : List SigI
def pm0 : ImI := ⟨[], []⟩
def pE (x : ImI) : List AV := [.str x.name, .slice (sEs x.sig)]
def pEA (x : ImI) : List AV := [.str x.name, .aslice (sEAs x.sig)]
def pEs (l : List ImI) : List (List AV) := l.map pE
def pEAs (l : List ImI) : List (List AV) := l.map pEA
def szP (x : ImI) : Nat := x.name.length + (x.sig.length + szIs x.sig)
def szPs (l : List ImI) : Nat := (l.map szP).sum
def ImI.Ok (x : ImI) : Prop := x.name.length < 2 ^ 63 ∧ SigsOk x.sig
def zpm : List AV := [.str [], .slice []]
theorem pE_length (x : ImI) : (pE x).length = 2 := rfl
theorem pEA_length (x : ImI) : (pEA x).length = 2 := rfl
theorem pE_take (x : ImI) : List.take 2 (pE x) = pE x := rfl
theorem pEA_take (x : ImI) : List.take 2 (pEA x) = pEA x := rfl
theorem pE_leaf (x : ImI) : ∀ v ∈ pE x, isLeaf v = true := by simp [pE, isLeaf]
theorem frzL_pE (x : ImI) (A : List Box) : frzL (pE x) A = some (pE x, A) := rfl
theorem frzL_pEA (x : ImI) (A : List Box) : frzL (pEA x) A = some (pEA x, A) := rfl
theorem pEs_length (l : List ImI) : (pEs l).length = l.length := by simp [pEs]
theorem pEAs_length (l : List ImI) : (pEAs l).length = l.length := by simp [pEAs]
theorem pEs_getD {l : List ImI} {i : Nat} (h : i < l.length) : (pEs l).getD i [] = pE (l.getD i pm0) := by simp [pEs, List.getD, h]
theorem pEAs_getD {l : List ImI} {i : Nat} (h : i < l.length) : (pEAs l).getD i [] = pEA (l.getD i pm0) := by simp [pEAs, List.getD, h]
theorem pm_mem {l : List ImI} {i : Nat} (h : i < l.length) : l.getD i pm0 ∈ l := by simp [List.getD, h]
theorem pm_take {l : List ImI} {i : Nat} (h : i < l.length) : l.take (i + 1) = l.take i ++ [l.getD i pm0] := by
  rw [List.take_add_one]; simp [List.getD, h]
theorem szPs_take {l : List ImI} {i : Nat} (h : i < l.length) : szPs (l.take (i + 1)) = szPs (l.take i) + szP (l.getD i pm0) := by
  rw [pm_take h]; simp [szPs]
theorem szPs_le (l : List ImI) (i : Nat) : szPs (l.take i) ≤ szPs l := by
  have h : szPs l = szPs (l.take i) + szPs (l.drop i) := by
    conv => lhs; rw [← List.take_append_drop i l]
    simp only [szPs, List.map_append, List.sum_append]
  omega
theorem szPs_mem {x : ImI} {l : List ImI} (h : x ∈ l) : szP x ≤ szPs l := by
  induction l with
  | nil => simp at h
  | cons y l ih =>
    simp only [szPs, List.map_cons, List.sum_cons] at ih ⊢
    rcases List.mem_cons.1 h with rfl | h
    · omega
    · have := ih h; omega

set_option maxRecDepth 100000 in
theorem laws_szImport (x : ImI) (hx : x.Ok) (l : Int) (A : List Box) (h0 : 0 ≤ l) (h1 : l ≤ 1048576) :
    ACalls Tryz.prog 42 [.agg (pEA x), .int .i64 l] A (fun v A' => v = .int .i64 (left l (szP x)) ∧ A' = A) := by
  have hw : IntKind.i64.wrap (l - ↑x.name.length) = l - x.name.length := wrap64 (by have := hx.1; omega) (by have := hx.1; omega)
  rw [pEA]
  refine acalls_enter (cf := cf 19 [0, 1, 2, 4, 11, 17]) foll Tryz.func42 Tryz.ntmps42 (by simp [cf]) ?_
  simp only [Tryz.f42, EnterK_some, zW, zX, zD, builtinA, isLeaf, const1, ustrA, simprocAttr, ti3, ti9, ti24, ti107, ti121, ca22, cf, Tryz.results42]
  rw [hw]
  refine condK_intro (fun h => ?_) (fun h => ?_)
  · simp only [zW, zX, zD, builtinA, isLeaf, const1, ustrA, simprocAttr, ti3, ti9, ti24, ti107, ti121, ca22, cf, Tryz.results42]
    rw [left, if_neg (by rw [szP]; simp at h; omega)]
  · simp only [decide_eq_false_iff_not] at h
    simp only [zW, zX, zD, builtinA, isLeaf, const1, ustrA, simprocAttr, ti3, ti9, ti24, ti107, ti121, ca22, cf, Tryz.results42]
    refine callK_intro (by simp only [zW, zX, zD, builtinA, isLeaf, const1, ustrA, simprocAttr, Option.map_some]; rfl) (laws_szSigItemS x.sig hx.2.1 hx.2.2 _ _ (by omega) (by omega)) ?_ rfl; rintro v A' ⟨rfl, rfl⟩
    by_cases hf : ((szP x : Nat) : Int) ≤ l
    · have hv : left (l - ↑x.name.length) (x.sig.length + szIs x.sig) = l - szP x := by
        rw [szP] at hf ⊢
        rw [left, if_pos (by omega)]; omega
      have hn : decide (l - szP x < 0) = false := by simp only [decide_eq_false_iff_not]; omega
      rw [hv, left, if_pos hf]
      simp only [zW, zX, zD, builtinA, isLeaf, const1, ustrA, simprocAttr, ti3, ti9, ti24, ti107, ti121, ca22, cf, Tryz.results42, hn]
    · have hv : left (l - ↑x.name.length) (x.sig.length + szIs x.sig) = -1 := by
        rw [szP] at hf
        rw [left, if_neg (by omega)]
      rw [hv, left, if_neg hf]
      simp only [zW, zX, zD, builtinA, isLeaf, const1, ustrA, simprocAttr, ti3, ti9, ti24, ti107, ti121, ca22, cf, Tryz.results42]

set_option maxRecDepth 100000 in
theorem laws_szImportS (ks : List ImI) (hl : ks.length < 2 ^ 63) (hk : ∀ t ∈ ks, t.Ok) (l : Int) (A : List Box) (h0 : 0 ≤ l) (h1 : l ≤ 1048576) :
    ACalls Tryz.prog 16 [.aslice (pEAs ks), .int .i64 l] A (fun v A' => v = .int .i64 (left l (ks.length + szPs ks)) ∧ A' = A) := by
  have hw : IntKind.i64.wrap (l - ↑(pEAs ks).length) = l - ks.length := by rw [pEAs_length]; exact wrap64 (by omega) (by omega)
  refine acalls_enter (cf := cf 27 [0, 1, 4, 5, 11, 15, 25]) foll Tryz.func16 Tryz.ntmps16 (by simp [cf]) ?_
  simp only [Tryz.f16, EnterK_some, zW, zX, zD, builtinA, isLeaf, const1, ustrA, simprocAttr, ti3, ti22, ti107, ca42, cf, Tryz.results16]
  rw [hw]
  refine condK_intro (fun h => ?_) (fun h => ?_)
  · simp only [zW, zX, zD, builtinA, isLeaf, const1, ustrA, simprocAttr, ti3, ti22, ti107, ca42, cf, Tryz.results16]
    have : ¬ ((ks.length + szPs ks : Nat) : Int) ≤ l := by simp at h; omega
    rw [left, if_neg this]
  · simp only [zW, zX, zD, builtinA, isLeaf, const1, ustrA, simprocAttr, ti3, ti22, ti107, ca42, cf, Tryz.results16]
    refine aloop_intro [0, 1, 5] (fun e A' => ∃ i, i ≤ ks.length ∧ ((ks.length + szPs (ks.take i) : Nat) : Int) ≤ l ∧ e = [(0, .aslice (pEAs ks)), (1, .int .i64 (l - (ks.length + szPs (ks.take i) : Nat))), (5, .int .i64 i)] ∧ A' = A) (fun e _ => ks.length - (intOf (Abs.look 5 e)).toNat) ?_ ?_
    · refine ⟨0, by omega, ?_, ?_, rfl⟩
      · simp at h; simp [szPs]; omega
      · simp only [zW, zX, zD, builtinA, isLeaf, const1, ustrA, simprocAttr, ti3, ti22, ti107, ca42, cf, Tryz.results16]
        simp [szPs]
    · rintro e A' ⟨i, hi, hle, rfl, rfl⟩
      simp only [zW, zX, zD, builtinA, isLeaf, const1, ustrA, simprocAttr, ti3, ti22, ti107, ca42, cf, Tryz.results16]
      refine condK_intro (fun h2 => ?_) (fun h2 => ?_)
      · have hi2 : i < ks.length := by simp [pEAs_length] at h2; exact h2
        have he := pEAs_getD hi2
        have hm := pm_mem hi2
        have hs := szPs_take hi2
        simp only [zW, zX, zD, builtinA, isLeaf, const1, ustrA, simprocAttr, ti3, ti22, ti107, ca42, cf, Tryz.results16, he, pEA_length, pEA_take, pEAs_length]
        refine ⟨⟨by omega, by omega⟩, ?_⟩
        refine callK_intro (by simp only [zW, zX, zD, builtinA, isLeaf, const1, ustrA, simprocAttr, frzL_pEA, Option.map_some]; rfl) (laws_szImport _ (hk _ hm) _ _ (by omega) (by omega)) ?_ rfl; rintro v A' ⟨rfl, rfl⟩
        by_cases hf : ((ks.length + szPs (ks.take (i + 1)) : Nat) : Int) ≤ l
        · have hv : left (l - ((ks.length + szPs (ks.take i) : Nat) : Int)) (szP (ks.getD i pm0)) = l - ((ks.length + szPs (ks.take (i + 1)) : Nat) : Int) := by
            rw [left, if_pos (by omega)]; omega
          have hn : decide (l - ((ks.length + szPs (ks.take (i + 1)) : Nat) : Int) < 0) = false := by simp only [decide_eq_false_iff_not]; omega
          have hi1 : IntKind.i64.wrap ((i : Int) + 1) = ((i + 1 : Nat) : Int) := by rw [wrap64 (by omega) (by omega)]; rfl
          rw [hv]
          simp only [zW, zX, zD, builtinA, isLeaf, const1, ustrA, simprocAttr, ti3, ti22, ti107, ca42, cf, Tryz.results16, hn, hi1, LoopK_eq, pEAs_length]
          refine ⟨⟨i + 1, by omega, hf, rfl⟩, ?_⟩
          simp only [intOf]
          omega
        · have hv : left (l - ((ks.length + szPs (ks.take i) : Nat) : Int)) (szP (ks.getD i pm0)) = -1 := by
            rw [left, if_neg (by omega)]
          have hz := szPs_le ks (i + 1)
          rw [hv, left, if_neg (by omega)]
          simp only [zW, zX, zD, builtinA, isLeaf, const1, ustrA, simprocAttr, ti3, ti22, ti107, ca42, cf, Tryz.results16]
      · simp only [zW, zX, zD, builtinA, isLeaf, const1, ustrA, simprocAttr, ti3, ti22, ti107, ca42, cf, Tryz.results16]
        have : i = ks.length := by simp [pEAs_length] at h2; omega
        subst this
        rw [List.take_length] at hle ⊢
        rw [left, if_pos hle]

set_option maxRecDepth 100000 in
theorem laws_toImport (x : ImI) (hx : szP x ≤ 1048576) (A : List Box) : ACalls Tryz.prog 44 [.agg (pEA x)] A (fun v A' => v = .agg (pE x) ∧ A' = A) := by
  have h1 : x.sig.length ≤ 1048576 ∧ szIs x.sig ≤ 1048576 := by rw [szP] at hx; omega
  rw [pEA, pE]
  refine acalls_enter (cf := cf 12 [0, 1, 2, 3]) foll Tryz.func44 Tryz.ntmps44 (by simp [cf]) ?_
  simp only [Tryz.f44, EnterK_some, zW, zX, zD, builtinA, isLeaf, const1, ustrA, simprocAttr, ti9, ti24, ti31, ti69, ti107, ti121, ti124, ca28, cf, Tryz.results44]
  refine callK_intro (by simp only [zW, zX, zD, builtinA, isLeaf, const1, ustrA, simprocAttr, Option.map_some]; rfl) (laws_toSigItemS x.sig h1.1 h1.2 _) ?_ rfl; rintro v A' ⟨rfl, rfl⟩
  simp only [zW, zX, zD, builtinA, isLeaf, const1, ustrA, simprocAttr, ti9, ti24, ti31, ti69, ti107, ti121, ti124, ca28, cf, Tryz.results44]

theorem prow_step {l : List ImI} {i : Nat} (h : i < l.length) : (pEs (l.take i) ++ List.replicate (l.length - i) zpm).set i (pE (l.getD i pm0) ++ List.drop 2 ((pEs (l.take i) ++ List.replicate (l.length - i) zpm).getD i [])) = pEs (l.take (i + 1)) ++ List.replicate (l.length - (i + 1)) zpm := by
  have e1 : (pEs (l.take i)).length = i := by rw [pEs_length]; simp; omega
  have e2 : List.drop 2 ((pEs (l.take i) ++ List.replicate (l.length - i) zpm).getD i []) = [] := by
    have e3 : l.length - i = (l.length - (i + 1)) + 1 := by omega
    rw [List.getD, List.getElem?_append_right (by omega), e1, Nat.sub_self, e3, List.replicate_succ]
    rfl
  have e4 : l.length - i = (l.length - (i + 1)) + 1 := by omega
  rw [e2, List.append_nil, List.set_append_right _ _ (by omega), e1, Nat.sub_self, e4, List.replicate_succ, List.set_cons_zero]
  simp only [pEs]
  rw [List.take_add_one, List.map_append, List.append_assoc]
  simp [List.getD, h]

set_option maxRecDepth 100000 in
theorem laws_toImportS (ks : List ImI) (hl : ks.length ≤ 1048576) (hk : szPs ks ≤ 1048576) (A : List Box) :
    ACalls Tryz.prog 18 [.aslice (pEAs ks)] A (fun v A' => v = .slice (pEs ks) ∧ A' = A) := by
  have hl2 : ((pEAs ks).length : Int) ≤ 1048576 := by rw [pEAs_length]; omega
  refine acalls_enter (cf := cf 23 [0, 2, 3, 4, 11]) foll Tryz.func18 Tryz.ntmps18 (by simp [cf]) ?_
  simp only [Tryz.f18, EnterK_some, zW, zX, zD, builtinA, isLeaf, const1, ustrA, simprocAttr, ti3, ti22, ti29, ti69, ti107, ca44, cf, Tryz.results18]
  refine ⟨⟨by omega, by omega, by omega⟩, ?_⟩
  refine aloop_intro [0, 3, 4] (fun e A' => ∃ i, i ≤ ks.length ∧ e = [(0, .aslice (pEAs ks)), (3, .own A.length), (4, .int .i64 i)] ∧ A' = A ++ [.row 2 (pEs (ks.take i) ++ List.replicate (ks.length - i) zpm) 0]) (fun e _ => ks.length - (intOf (Abs.look 4 e)).toNat) ?_ ?_
  · simp only [zW, zX, zD, builtinA, isLeaf, const1, ustrA, simprocAttr, ti3, ti22, ti29, ti69, ti107, ca44, cf, Tryz.results18]
    exact ⟨0, by omega, rfl, by rw [pEAs_length]; simp [pEs, zpm]⟩
  · rintro e A' ⟨i, hi, rfl, rfl⟩
    simp only [zW, zX, zD, builtinA, isLeaf, const1, ustrA, simprocAttr, ti3, ti22, ti29, ti69, ti107, ca44, cf, Tryz.results18, pEAs_length]
    refine condK_intro (fun h2 => ?_) (fun h2 => ?_)
    · have hi2 : i < ks.length := by simpa using h2
      have he := pEAs_getD hi2
      have hm := pm_mem hi2
      have hzm := szPs_mem hm
      simp only [zW, zX, zD, builtinA, isLeaf, const1, ustrA, simprocAttr, ti3, ti22, ti29, ti69, ti107, ca44, cf, Tryz.results18, he, pEA_length, pEA_take, pEAs_length]
      refine ⟨⟨by omega, by omega⟩, ?_⟩
      refine callK_intro (by simp only [zW, zX, zD, builtinA, isLeaf, const1, ustrA, simprocAttr, frzL_pEA, Option.map_some]; rfl) (laws_toImport _ (by omega) _) ?_ rfl; rintro v A' ⟨rfl, rfl⟩
      have hi1 : IntKind.i64.wrap ((i : Int) + 1) = ((i + 1 : Nat) : Int) := by rw [wrap64 (by omega) (by omega)]; rfl
      simp only [zW, zX, zD, builtinA, isLeaf, const1, ustrA, simprocAttr, ti3, ti22, ti29, ti69, ti107, ca44, cf, Tryz.results18, pE_length, frzL_pE, prow_step hi2, hi1, LoopK_eq]
      have hlen : (pEs (List.take i ks)).length + (List.replicate (ks.length - i) zpm).length = ks.length := by
        simp [pEs_length]; omega
      rw [hlen]
      refine ⟨⟨by omega, by omega⟩, ⟨by omega, by omega, fun v hv => pE_leaf _ v hv⟩, ⟨i + 1, by omega, rfl, rfl⟩, ?_⟩
      simp only [intOf]
      omega
    · simp only [zW, zX, zD, builtinA, isLeaf, const1, ustrA, simprocAttr, ti3, ti22, ti29, ti69, ti107, ca44, cf, Tryz.results18]
      have : i = ks.length := by simp at h2; omega
      subst this
      simp [List.take_length]

set_option maxRecDepth 100000 in
theorem laws_eqImport (x : ImI) (hx : x.Ok) (A : List Box) : ACalls Tryz.prog 46 [.agg (pE x), .agg (pE x)] A (fun v A' => v = .bool true ∧ A' = A) := by
  rw [pE]
  refine acalls_enter (cf := cf 16 [0, 1, 2, 3, 4, 9, 15]) foll Tryz.func46 Tryz.ntmps46 (by simp [cf]) ?_
  simp only [Tryz.f46, EnterK_some, zW, zX, zD, builtinA, isLeaf, const1, ustrA, simprocAttr, ti9, ti31, ti69, ti124, ca31, cf, Tryz.results46]
  refine callK_intro (by simp only [zW, zX, zD, builtinA, isLeaf, const1, ustrA, simprocAttr, Option.map_some]; rfl) (laws_eqSigItemS x.sig hx.2.1 hx.2.2 _) ?_ rfl; rintro v A' ⟨rfl, rfl⟩
  simp only [zW, zX, zD, builtinA, isLeaf, const1, ustrA, simprocAttr, ti9, ti31, ti69, ti124, ca31, cf, Tryz.results46]

set_option maxRecDepth 100000 in
theorem laws_eqImportS (ks : List ImI) (hl : ks.length < 2 ^ 63) (hk : ∀ t ∈ ks, t.Ok) (A : List Box) :
    ACalls Tryz.prog 20 [.slice (pEs ks), .slice (pEs ks)] A (fun v A' => v = .bool true ∧ A' = A) := by
  refine acalls_enter (cf := cf 27 [0, 1, 4, 5, 10, 14, 26]) foll Tryz.func20 Tryz.ntmps20 (by simp [cf]) ?_
  simp only [Tryz.f20, EnterK_some, zW, zX, zD, builtinA, isLeaf, const1, ustrA, simprocAttr, ti3, ti29, ti69, ca46, cf, Tryz.results20]
  refine aloop_intro [0, 1, 5] (fun e A' => ∃ i, i ≤ ks.length ∧ e = [(0, .slice (pEs ks)), (1, .slice (pEs ks)), (5, .int .i64 i)] ∧ A' = A) (fun e _ => ks.length - (intOf (Abs.look 5 e)).toNat) ?_ ?_
  · simp only [zW, zX, zD, builtinA, isLeaf, const1, ustrA, simprocAttr, ti3, ti29, ti69, ca46, cf, Tryz.results20]
    exact ⟨0, by omega, rfl⟩
  · rintro e A' ⟨i, hi, rfl, rfl⟩
    simp only [zW, zX, zD, builtinA, isLeaf, const1, ustrA, simprocAttr, ti3, ti29, ti69, ca46, cf, Tryz.results20, pEs_length]
    refine condK_intro (fun h2 => ?_) (fun h2 => ?_)
    · have hi2 : i < ks.length := by simpa using h2
      have he := pEs_getD hi2
      have hm := pm_mem hi2
      have hi1 : IntKind.i64.wrap ((i : Int) + 1) = ((i + 1 : Nat) : Int) := by rw [wrap64 (by omega) (by omega)]; rfl
      simp only [zW, zX, zD, builtinA, isLeaf, const1, ustrA, simprocAttr, ti3, ti29, ti69, ca46, cf, Tryz.results20, he, pE_length, pE_take, pEs_length]
      refine .inl ⟨by kernel_rfl, by kernel_rfl, ⟨by omega, by omega⟩, ⟨by omega, by omega⟩, ?_⟩
      refine callD_intro (by simp only [zW, zX, zD, builtinA, isLeaf, const1, ustrA, simprocAttr, frzL_pE, Option.map_some] <;> rfl) (laws_eqImport _ (hk _ hm) _) ?_ rfl
      simp only [zW, zX, zD, builtinA, isLeaf, const1, ustrA, simprocAttr, ti3, ti29, ti69, ca46, cf, Tryz.results20, hi1, LoopK_eq]
      refine ⟨⟨i + 1, by omega, rfl⟩, ?_⟩
      simp only [intOf]
      omega
    · simp only [zW, zX, zD, builtinA, isLeaf, const1, ustrA, simprocAttr, ti3, ti29, ti69, ca46, cf, Tryz.results20]
end Go.Proofs.YtebgneaehhaclaaGreat
