/- Items of structures as data, and what the laws' helpers do with lists of them. -/
import Derived.Test.YtebgneaehhaclaaExLaw
import Derived.Test.YtebgneaehhaclaaAbsW3
set_option linter.unusedVariables false
set_option linter.unusedSimpArgs false
namespace Go.Proofs.Ytebgneaehhaclaa
open Go.Abs

structure ItI where
  kind : Int
  name : List UInt8
  typ : Ty
  xk : Int
  xi : Int
  xm : List UInt8
  xn : List UInt8
  xt : Ty
  xs : List Ex
def ItI.ex (x : ItI) : Ex := .mk x.xk x.xi x.xm x.xn x.xt x.xs
def itm0 : ItI := ⟨0, [], ty0, 0, 0, [], [], ty0, []⟩
def iE (x : ItI) : List AV := [.int .i64 x.kind, .str x.name, .int .i64 x.typ.kind, .str x.typ.mod, .str x.typ.name, .slice (encs x.typ.kids), .int .i64 x.xk, .int .i64 x.xi, .str x.xm, .str x.xn, .int .i64 x.xt.kind, .str x.xt.mod, .str x.xt.name, .slice (encs x.xt.kids), .slice (encXs x.xs)]
def iEA (x : ItI) : List AV := [.int .i64 x.kind, .str x.name, .int .i64 x.typ.kind, .str x.typ.mod, .str x.typ.name, .aslice (encAs x.typ.kids), .int .i64 x.xk, .int .i64 x.xi, .str x.xm, .str x.xn, .int .i64 x.xt.kind, .str x.xt.mod, .str x.xt.name, .aslice (encAs x.xt.kids), .aslice (encXAs x.xs)]
def iEs (l : List ItI) : List (List AV) := l.map iE
def iEAs (l : List ItI) : List (List AV) := l.map iEA
def szJ (x : ItI) : Nat := x.name.length + sz x.typ + szX x.ex
def szJs (l : List ItI) : Nat := (l.map szJ).sum
def ItI.Ok (x : ItI) : Prop := x.name.length < 2 ^ 63 ∧ x.typ.Ok ∧ x.ex.Ok
def zit : List AV := [.int .i64 0, .str [], .int .i64 0, .str [], .str [], .slice [], .int .i64 0, .int .i64 0, .str [], .str [], .int .i64 0, .str [], .str [], .slice [], .slice []]
theorem iE_length (x : ItI) : (iE x).length = 15 := rfl
theorem iEA_length (x : ItI) : (iEA x).length = 15 := rfl
theorem iE_take (x : ItI) : List.take 15 (iE x) = iE x := rfl
theorem iEA_take (x : ItI) : List.take 15 (iEA x) = iEA x := rfl
theorem iE_leaf (x : ItI) : ∀ v ∈ iE x, isLeaf v = true := by simp [iE, isLeaf]
theorem frzL_iE (x : ItI) (A : List Box) : frzL (iE x) A = some (iE x, A) := rfl
theorem frzL_iEA (x : ItI) (A : List Box) : frzL (iEA x) A = some (iEA x, A) := rfl
theorem iEs_length (l : List ItI) : (iEs l).length = l.length := by simp [iEs]
theorem iEAs_length (l : List ItI) : (iEAs l).length = l.length := by simp [iEAs]
theorem iEs_getD {l : List ItI} {i : Nat} (h : i < l.length) : (iEs l).getD i [] = iE (l.getD i itm0) := by simp [iEs, List.getD, h]
theorem iEAs_getD {l : List ItI} {i : Nat} (h : i < l.length) : (iEAs l).getD i [] = iEA (l.getD i itm0) := by simp [iEAs, List.getD, h]
theorem it_mem {l : List ItI} {i : Nat} (h : i < l.length) : l.getD i itm0 ∈ l := by simp [List.getD, h]
theorem it_take {l : List ItI} {i : Nat} (h : i < l.length) : l.take (i + 1) = l.take i ++ [l.getD i itm0] := by
  rw [List.take_add_one]; simp [List.getD, h]
theorem szJs_take {l : List ItI} {i : Nat} (h : i < l.length) : szJs (l.take (i + 1)) = szJs (l.take i) + szJ (l.getD i itm0) := by
  rw [it_take h]; simp [szJs]
theorem szJs_le (l : List ItI) (i : Nat) : szJs (l.take i) ≤ szJs l := by
  have h : szJs l = szJs (l.take i) + szJs (l.drop i) := by
    conv => lhs; rw [← List.take_append_drop i l]
    simp only [szJs, List.map_append, List.sum_append]
  omega
theorem szJs_mem {x : ItI} {l : List ItI} (h : x ∈ l) : szJ x ≤ szJs l := by
  induction l with
  | nil => simp at h
  | cons y l ih =>
    simp only [szJs, List.map_cons, List.sum_cons] at ih ⊢
    rcases List.mem_cons.1 h with rfl | h
    · omega
    · have := ih h; omega

set_option maxRecDepth 100000 in
theorem laws_szItem (x : ItI) (hx : x.Ok) (l : Int) (A : List Box) (h0 : 0 ≤ l) (h1 : l ≤ 1048576) :
    ACalls Try.prog 48 [.agg (iEA x), .int .i64 l] A (fun v A' => v = .int .i64 (left l (szJ x)) ∧ A' = A) := by
  have hw : IntKind.i64.wrap (l - ↑x.name.length) = l - x.name.length := wrap64 (by have := hx.1; omega) (by have := hx.1; omega)
  have hszT := fun (l : Int) A (h0 : 0 ≤ l) (h1 : l ≤ 1048576) => laws_szType x.typ hx.2.1 l A h0 h1
  have hszX := fun (l : Int) A (h0 : 0 ≤ l) (h1 : l ≤ 1048576) => laws_szExpr x.ex hx.2.2 l A h0 h1
  rw [encTA4] at hszT
  simp only [ItI.ex, encXA] at hszX
  have hs3 : szJ x = x.name.length + sz x.typ + szX (Ex.mk x.xk x.xi x.xm x.xn x.xt x.xs) := rfl
  generalize szX (Ex.mk x.xk x.xi x.xm x.xn x.xt x.xs) = zx at *
  generalize sz x.typ = zt at *
  rw [hs3, iEA]
  refine acalls_enter (cf := cf 25 [0, 1, 2, 4, 11, 17, 23]) foll Try.func48 Try.ntmps48 (by simp [cf]) ?_
  simp only [Try.f48, EnterK_some, zW, zX, zD, builtinA, isLeaf, const1, ustrA, simprocAttr, ti3, ti9, ti39, ti42, ti122, ca33, ca59, cf, Try.results48]
  rw [hw]
  refine condK_intro (fun h => ?_) (fun h => ?_)
  · simp only [zW, zX, zD, builtinA, isLeaf, const1, ustrA, simprocAttr, ti3, ti9, ti39, ti42, ti122, ca33, ca59, cf, Try.results48]
    rw [left, if_neg (by simp at h; omega)]
  · simp only [decide_eq_false_iff_not] at h
    simp only [zW, zX, zD, builtinA, isLeaf, const1, ustrA, simprocAttr, ti3, ti9, ti39, ti42, ti122, ca33, ca59, cf, Try.results48]
    refine callK_intro (by simp only [zW, zX, zD, builtinA, isLeaf, const1, ustrA, simprocAttr, Option.map_some]; rfl) (hszT _ _ (by omega) (by omega)) ?_ rfl; rintro v A' ⟨rfl, rfl⟩
    by_cases hf : (((x.name.length + zt : Nat)) : Int) ≤ l
    · have hv : left (l - ↑x.name.length) zt = l - (x.name.length + zt : Nat) := by
        rw [left, if_pos (by omega)]; omega
      have hn : decide (l - ((x.name.length + zt : Nat) : Int) < 0) = false := by simp only [decide_eq_false_iff_not]; omega
      rw [hv]
      simp only [zW, zX, zD, builtinA, isLeaf, const1, ustrA, simprocAttr, ti3, ti9, ti39, ti42, ti122, ca33, ca59, cf, Try.results48, hn]
      refine callK_intro (by simp only [zW, zX, zD, builtinA, isLeaf, const1, ustrA, simprocAttr, Option.map_some]; rfl) (hszX _ _ (by omega) (by omega)) ?_ rfl; rintro v A' ⟨rfl, rfl⟩
      by_cases hg : (((x.name.length + zt + zx : Nat)) : Int) ≤ l
      · have hv2 : left (l - ((x.name.length + zt : Nat) : Int)) zx = l - (x.name.length + zt + zx : Nat) := by
          rw [left, if_pos (by omega)]; omega
        have hn2 : decide (l - ((x.name.length + zt + zx : Nat) : Int) < 0) = false := by simp only [decide_eq_false_iff_not]; omega
        rw [hv2, left, if_pos hg]
        simp only [zW, zX, zD, builtinA, isLeaf, const1, ustrA, simprocAttr, ti3, ti9, ti39, ti42, ti122, ca33, ca59, cf, Try.results48, hn2]
      · have hv2 : left (l - ((x.name.length + zt : Nat) : Int)) zx = -1 := by rw [left, if_neg (by omega)]
        rw [hv2, left, if_neg hg]
        simp only [zW, zX, zD, builtinA, isLeaf, const1, ustrA, simprocAttr, ti3, ti9, ti39, ti42, ti122, ca33, ca59, cf, Try.results48]
    · have hv : left (l - ↑x.name.length) zt = -1 := by
        rw [left, if_neg (by omega)]
      rw [hv, left, if_neg (by omega)]
      simp only [zW, zX, zD, builtinA, isLeaf, const1, ustrA, simprocAttr, ti3, ti9, ti39, ti42, ti122, ca33, ca59, cf, Try.results48]

set_option maxRecDepth 100000 in
theorem laws_szItemS (ks : List ItI) (hl : ks.length < 2 ^ 63) (hk : ∀ t ∈ ks, t.Ok) (l : Int) (A : List Box) (h0 : 0 ≤ l) (h1 : l ≤ 1048576) :
    ACalls Try.prog 22 [.aslice (iEAs ks), .int .i64 l] A (fun v A' => v = .int .i64 (left l (ks.length + szJs ks)) ∧ A' = A) := by
  have hw : IntKind.i64.wrap (l - ↑(iEAs ks).length) = l - ks.length := by rw [iEAs_length]; exact wrap64 (by omega) (by omega)
  refine acalls_enter (cf := cf 27 [0, 1, 4, 5, 11, 15, 25]) foll Try.func22 Try.ntmps22 (by simp [cf]) ?_
  simp only [Try.f22, EnterK_some, zW, zX, zD, builtinA, isLeaf, const1, ustrA, simprocAttr, ti3, ti23, ti122, ca48, cf, Try.results22]
  rw [hw]
  refine condK_intro (fun h => ?_) (fun h => ?_)
  · simp only [zW, zX, zD, builtinA, isLeaf, const1, ustrA, simprocAttr, ti3, ti23, ti122, ca48, cf, Try.results22]
    have : ¬ ((ks.length + szJs ks : Nat) : Int) ≤ l := by simp at h; omega
    rw [left, if_neg this]
  · simp only [zW, zX, zD, builtinA, isLeaf, const1, ustrA, simprocAttr, ti3, ti23, ti122, ca48, cf, Try.results22]
    refine aloop_intro [0, 1, 5] (fun e A' => ∃ i, i ≤ ks.length ∧ ((ks.length + szJs (ks.take i) : Nat) : Int) ≤ l ∧ e = [(0, .aslice (iEAs ks)), (1, .int .i64 (l - (ks.length + szJs (ks.take i) : Nat))), (5, .int .i64 i)] ∧ A' = A) (fun e _ => ks.length - (intOf (Abs.look 5 e)).toNat) ?_ ?_
    · refine ⟨0, by omega, ?_, ?_, rfl⟩
      · simp at h; simp [szJs]; omega
      · simp only [zW, zX, zD, builtinA, isLeaf, const1, ustrA, simprocAttr, ti3, ti23, ti122, ca48, cf, Try.results22]
        simp [szJs]
    · rintro e A' ⟨i, hi, hle, rfl, rfl⟩
      simp only [zW, zX, zD, builtinA, isLeaf, const1, ustrA, simprocAttr, ti3, ti23, ti122, ca48, cf, Try.results22]
      refine condK_intro (fun h2 => ?_) (fun h2 => ?_)
      · have hi2 : i < ks.length := by simp [iEAs_length] at h2; exact h2
        have he := iEAs_getD hi2
        have hm := it_mem hi2
        have hs := szJs_take hi2
        simp only [zW, zX, zD, builtinA, isLeaf, const1, ustrA, simprocAttr, ti3, ti23, ti122, ca48, cf, Try.results22, he, iEA_length, iEA_take, iEAs_length]
        refine ⟨⟨by omega, by omega⟩, ?_⟩
        refine callK_intro (by simp only [zW, zX, zD, builtinA, isLeaf, const1, ustrA, simprocAttr, frzL_iEA, Option.map_some]; rfl) (laws_szItem _ (hk _ hm) _ _ (by omega) (by omega)) ?_ rfl; rintro v A' ⟨rfl, rfl⟩
        by_cases hf : ((ks.length + szJs (ks.take (i + 1)) : Nat) : Int) ≤ l
        · have hv : left (l - ((ks.length + szJs (ks.take i) : Nat) : Int)) (szJ (ks.getD i itm0)) = l - ((ks.length + szJs (ks.take (i + 1)) : Nat) : Int) := by
            rw [left, if_pos (by omega)]; omega
          have hn : decide (l - ((ks.length + szJs (ks.take (i + 1)) : Nat) : Int) < 0) = false := by simp only [decide_eq_false_iff_not]; omega
          have hi1 : IntKind.i64.wrap ((i : Int) + 1) = ((i + 1 : Nat) : Int) := by rw [wrap64 (by omega) (by omega)]; rfl
          rw [hv]
          simp only [zW, zX, zD, builtinA, isLeaf, const1, ustrA, simprocAttr, ti3, ti23, ti122, ca48, cf, Try.results22, hn, hi1, LoopK_eq, iEAs_length]
          refine ⟨⟨i + 1, by omega, hf, rfl⟩, ?_⟩
          simp only [intOf]
          omega
        · have hv : left (l - ((ks.length + szJs (ks.take i) : Nat) : Int)) (szJ (ks.getD i itm0)) = -1 := by
            rw [left, if_neg (by omega)]
          have hz := szJs_le ks (i + 1)
          rw [hv, left, if_neg (by omega)]
          simp only [zW, zX, zD, builtinA, isLeaf, const1, ustrA, simprocAttr, ti3, ti23, ti122, ca48, cf, Try.results22]
      · simp only [zW, zX, zD, builtinA, isLeaf, const1, ustrA, simprocAttr, ti3, ti23, ti122, ca48, cf, Try.results22]
        have : i = ks.length := by simp [iEAs_length] at h2; omega
        subst this
        rw [List.take_length] at hle ⊢
        rw [left, if_pos hle]

set_option maxRecDepth 100000 in
theorem laws_toItem (x : ItI) (hx : szJ x ≤ 1048576) (A : List Box) : ACalls Try.prog 49 [.agg (iEA x)] A (fun v A' => v = .agg (iE x) ∧ A' = A) := by
  have h1 : sz x.typ ≤ 1048576 := by rw [szJ] at hx; omega
  have h2 : szX x.ex ≤ 1048576 := by rw [szJ] at hx; omega
  have hT := fun A => laws_toType x.typ h1 A
  have hX := fun A => laws_toExpr x.ex h2 A
  rw [encTA4, encT4] at hT
  simp only [ItI.ex, encXA, encX] at hX
  rw [iEA, iE]
  refine acalls_enter (cf := cf 19 [0, 1, 2, 3]) foll Try.func49 Try.ntmps49 (by simp [cf]) ?_
  simp only [Try.f49, EnterK_some, zW, zX, zD, builtinA, isLeaf, const1, ustrA, simprocAttr, ti3, ti9, ti39, ti42, ti50, ti53, ti122, ti124, ca36, ca62, cf, Try.results49]
  refine callK_intro (by simp only [zW, zX, zD, builtinA, isLeaf, const1, ustrA, simprocAttr, Option.map_some]; rfl) (hT _) ?_ rfl; rintro v A' ⟨rfl, rfl⟩
  simp only [zW, zX, zD, builtinA, isLeaf, const1, ustrA, simprocAttr, ti3, ti9, ti39, ti42, ti50, ti53, ti122, ti124, ca36, ca62, cf, Try.results49]
  refine callK_intro (by simp only [zW, zX, zD, builtinA, isLeaf, const1, ustrA, simprocAttr, Option.map_some]; rfl) (hX _) ?_ rfl; rintro v A' ⟨rfl, rfl⟩
  simp only [zW, zX, zD, builtinA, isLeaf, const1, ustrA, simprocAttr, ti3, ti9, ti39, ti42, ti50, ti53, ti122, ti124, ca36, ca62, cf, Try.results49]

theorem irow_step {l : List ItI} {i : Nat} (h : i < l.length) : (iEs (l.take i) ++ List.replicate (l.length - i) zit).set i (iE (l.getD i itm0) ++ List.drop 15 ((iEs (l.take i) ++ List.replicate (l.length - i) zit).getD i [])) = iEs (l.take (i + 1)) ++ List.replicate (l.length - (i + 1)) zit := by
  have e1 : (iEs (l.take i)).length = i := by rw [iEs_length]; simp; omega
  have e2 : List.drop 15 ((iEs (l.take i) ++ List.replicate (l.length - i) zit).getD i []) = [] := by
    have e3 : l.length - i = (l.length - (i + 1)) + 1 := by omega
    rw [List.getD, List.getElem?_append_right (by omega), e1, Nat.sub_self, e3, List.replicate_succ]
    rfl
  have e4 : l.length - i = (l.length - (i + 1)) + 1 := by omega
  rw [e2, List.append_nil, List.set_append_right _ _ (by omega), e1, Nat.sub_self, e4, List.replicate_succ, List.set_cons_zero]
  simp only [iEs]
  rw [List.take_add_one, List.map_append, List.append_assoc]
  simp [List.getD, h]

set_option maxRecDepth 100000 in
theorem laws_toItemS (ks : List ItI) (hl : ks.length ≤ 1048576) (hk : szJs ks ≤ 1048576) (A : List Box) :
    ACalls Try.prog 24 [.aslice (iEAs ks)] A (fun v A' => v = .slice (iEs ks) ∧ A' = A) := by
  have hl2 : ((iEAs ks).length : Int) ≤ 1048576 := by rw [iEAs_length]; omega
  refine acalls_enter (cf := cf 23 [0, 2, 3, 4, 11]) foll Try.func24 Try.ntmps24 (by simp [cf]) ?_
  simp only [Try.f24, EnterK_some, zW, zX, zD, builtinA, isLeaf, const1, ustrA, simprocAttr, ti3, ti23, ti30, ti122, ti124, ca49, cf, Try.results24]
  refine ⟨⟨by omega, by omega, by omega⟩, ?_⟩
  refine aloop_intro [0, 3, 4] (fun e A' => ∃ i, i ≤ ks.length ∧ e = [(0, .aslice (iEAs ks)), (3, .own A.length), (4, .int .i64 i)] ∧ A' = A ++ [.row 15 (iEs (ks.take i) ++ List.replicate (ks.length - i) zit) 0]) (fun e _ => ks.length - (intOf (Abs.look 4 e)).toNat) ?_ ?_
  · simp only [zW, zX, zD, builtinA, isLeaf, const1, ustrA, simprocAttr, ti3, ti23, ti30, ti122, ti124, ca49, cf, Try.results24]
    exact ⟨0, by omega, rfl, by rw [iEAs_length]; simp [iEs, zit]⟩
  · rintro e A' ⟨i, hi, rfl, rfl⟩
    simp only [zW, zX, zD, builtinA, isLeaf, const1, ustrA, simprocAttr, ti3, ti23, ti30, ti122, ti124, ca49, cf, Try.results24, iEAs_length]
    refine condK_intro (fun h2 => ?_) (fun h2 => ?_)
    · have hi2 : i < ks.length := by simpa using h2
      have he := iEAs_getD hi2
      have hm := it_mem hi2
      have hzm := szJs_mem hm
      simp only [zW, zX, zD, builtinA, isLeaf, const1, ustrA, simprocAttr, ti3, ti23, ti30, ti122, ti124, ca49, cf, Try.results24, he, iEA_length, iEA_take, iEAs_length]
      refine ⟨⟨by omega, by omega⟩, ?_⟩
      refine callK_intro (by simp only [zW, zX, zD, builtinA, isLeaf, const1, ustrA, simprocAttr, frzL_iEA, Option.map_some]; rfl) (laws_toItem _ (by omega) _) ?_ rfl; rintro v A' ⟨rfl, rfl⟩
      have hi1 : IntKind.i64.wrap ((i : Int) + 1) = ((i + 1 : Nat) : Int) := by rw [wrap64 (by omega) (by omega)]; rfl
      simp only [zW, zX, zD, builtinA, isLeaf, const1, ustrA, simprocAttr, ti3, ti23, ti30, ti122, ti124, ca49, cf, Try.results24, iE_length, frzL_iE, irow_step hi2, hi1, LoopK_eq]
      have hlen : (iEs (List.take i ks)).length + (List.replicate (ks.length - i) zit).length = ks.length := by
        simp [iEs_length]; omega
      rw [hlen]
      refine ⟨⟨by omega, by omega⟩, ⟨by omega, by omega, fun v hv => iE_leaf _ v hv⟩, ⟨i + 1, by omega, rfl, rfl⟩, ?_⟩
      simp only [intOf]
      omega
    · simp only [zW, zX, zD, builtinA, isLeaf, const1, ustrA, simprocAttr, ti3, ti23, ti30, ti122, ti124, ca49, cf, Try.results24]
      have : i = ks.length := by simp at h2; omega
      subst this
      simp [List.take_length]

set_option maxRecDepth 100000 in
theorem laws_eqItem (x : ItI) (hx : x.Ok) (A : List Box) : ACalls Try.prog 52 [.agg (iE x), .agg (iE x)] A (fun v A' => v = .bool true ∧ A' = A) := by
  have hT := fun A => laws_eqType x.typ hx.2.1 A
  have hX := fun A => laws_eqExpr x.ex hx.2.2 A
  rw [encT4] at hT
  simp only [ItI.ex, encX] at hX
  rw [iE]
  refine acalls_enter (cf := cf 27 [0, 1, 2, 3, 4, 9, 14, 20, 26]) foll Try.func52 Try.ntmps52 (by simp [cf]) ?_
  simp only [Try.f52, EnterK_some, zW, zX, zD, builtinA, isLeaf, const1, ustrA, simprocAttr, ti3, ti9, ti50, ti53, ti124, ca40, ca68, cf, Try.results52]
  refine callK_intro (by simp only [zW, zX, zD, builtinA, isLeaf, const1, ustrA, simprocAttr, Option.map_some]; rfl) (hT _) ?_ rfl; rintro v A' ⟨rfl, rfl⟩
  simp only [zW, zX, zD, builtinA, isLeaf, const1, ustrA, simprocAttr, ti3, ti9, ti50, ti53, ti124, ca40, ca68, cf, Try.results52]
  refine callK_intro (by simp only [zW, zX, zD, builtinA, isLeaf, const1, ustrA, simprocAttr, Option.map_some]; rfl) (hX _) ?_ rfl; rintro v A' ⟨rfl, rfl⟩
  simp only [zW, zX, zD, builtinA, isLeaf, const1, ustrA, simprocAttr, ti3, ti9, ti50, ti53, ti124, ca40, ca68, cf, Try.results52]

set_option maxRecDepth 100000 in
theorem laws_eqItemS (ks : List ItI) (hl : ks.length < 2 ^ 63) (hk : ∀ t ∈ ks, t.Ok) (A : List Box) :
    ACalls Try.prog 26 [.slice (iEs ks), .slice (iEs ks)] A (fun v A' => v = .bool true ∧ A' = A) := by
  refine acalls_enter (cf := cf 27 [0, 1, 4, 5, 10, 14, 26]) foll Try.func26 Try.ntmps26 (by simp [cf]) ?_
  simp only [Try.f26, EnterK_some, zW, zX, zD, builtinA, isLeaf, const1, ustrA, simprocAttr, ti3, ti30, ti124, ca52, cf, Try.results26]
  refine aloop_intro [0, 1, 5] (fun e A' => ∃ i, i ≤ ks.length ∧ e = [(0, .slice (iEs ks)), (1, .slice (iEs ks)), (5, .int .i64 i)] ∧ A' = A) (fun e _ => ks.length - (intOf (Abs.look 5 e)).toNat) ?_ ?_
  · simp only [zW, zX, zD, builtinA, isLeaf, const1, ustrA, simprocAttr, ti3, ti30, ti124, ca52, cf, Try.results26]
    exact ⟨0, by omega, rfl⟩
  · rintro e A' ⟨i, hi, rfl, rfl⟩
    simp only [zW, zX, zD, builtinA, isLeaf, const1, ustrA, simprocAttr, ti3, ti30, ti124, ca52, cf, Try.results26, iEs_length]
    refine condK_intro (fun h2 => ?_) (fun h2 => ?_)
    · have hi2 : i < ks.length := by simpa using h2
      have he := iEs_getD hi2
      have hm := it_mem hi2
      have hi1 : IntKind.i64.wrap ((i : Int) + 1) = ((i + 1 : Nat) : Int) := by rw [wrap64 (by omega) (by omega)]; rfl
      simp only [zW, zX, zD, builtinA, isLeaf, const1, ustrA, simprocAttr, ti3, ti30, ti124, ca52, cf, Try.results26, he, iE_length, iE_take, iEs_length]
      refine .inl ⟨by kernel_rfl, by kernel_rfl, ⟨by omega, by omega⟩, ⟨by omega, by omega⟩, ?_⟩
      refine callD_intro (by simp only [zW, zX, zD, builtinA, isLeaf, const1, ustrA, simprocAttr, frzL_iE, Option.map_some] <;> rfl) (laws_eqItem _ (hk _ hm) _) ?_ rfl
      simp only [zW, zX, zD, builtinA, isLeaf, const1, ustrA, simprocAttr, ti3, ti30, ti124, ca52, cf, Try.results26, hi1, LoopK_eq]
      refine ⟨⟨i + 1, by omega, rfl⟩, ?_⟩
      simp only [intOf]
      omega
    · simp only [zW, zX, zD, builtinA, isLeaf, const1, ustrA, simprocAttr, ti3, ti30, ti124, ca52, cf, Try.results26]
end Go.Proofs.Ytebgneaehhaclaa
