/- Expressions as trees, and what the laws' helpers do with them. -/
import Derived.Test.YtebgneaehhaclaaLawTy
import Derived.Test.YtebgneaehhaclaaAbsW3
set_option linter.unusedVariables false
set_option linter.unusedSimpArgs false
namespace Go.Proofs.Ytebgneaehhaclaa
open Go.Abs

inductive Ex where
  | mk (kind n : Int) (mod name : List UInt8) (arg : Ty) (kids : List Ex)

theorem Ex.ind {M : Ex → Prop} (h : ∀ k i m n t ks, (∀ x ∈ ks, M x) → M (.mk k i m n t ks)) : ∀ x, M x
  | .mk k i m n t ks => h k i m n t ks fun x hx => Ex.ind h x
termination_by x => SizeOf.sizeOf x
decreasing_by
  have := List.sizeOf_lt_of_mem hx
  simp only [Ex.mk.sizeOf_spec]
  omega

theorem encT4 (t : Ty) : enc t = [.int .i64 t.kind, .str t.mod, .str t.name, .slice (encs t.kids)] := by cases t; rw [enc]; rfl
theorem encTA4 (t : Ty) : encA t = [.int .i64 t.kind, .str t.mod, .str t.name, .aslice (encAs t.kids)] := by cases t; rw [encA]; rfl

mutual
def encX : Ex → List AV
  | .mk k i m n t ks => [.int .i64 k, .int .i64 i, .str m, .str n, .int .i64 t.kind, .str t.mod, .str t.name, .slice (encs t.kids), .slice (encXs ks)]
def encXs : List Ex → List (List AV)
  | [] => []
  | x :: l => encX x :: encXs l
end
mutual
def encXA : Ex → List AV
  | .mk k i m n t ks => [.int .i64 k, .int .i64 i, .str m, .str n, .int .i64 t.kind, .str t.mod, .str t.name, .aslice (encAs t.kids), .aslice (encXAs ks)]
def encXAs : List Ex → List (List AV)
  | [] => []
  | x :: l => encXA x :: encXAs l
end
mutual
def szX : Ex → Nat
  | .mk _ _ m n t ks => m.length + n.length + sz t + (ks.length + szXs ks)
def szXs : List Ex → Nat
  | [] => 0
  | x :: l => szX x + szXs l
end
inductive Ex.Ok : Ex → Prop
  | mk {k i : Int} {m n : List UInt8} {t : Ty} {ks : List Ex} : m.length < 2 ^ 63 → n.length < 2 ^ 63 → t.Ok → ks.length < 2 ^ 63 → (∀ x ∈ ks, Ex.Ok x) → Ex.Ok (.mk k i m n t ks)

def ex0 : Ex := .mk 0 0 [] [] ty0 []
def zex : List AV := [.int .i64 0, .int .i64 0, .str [], .str [], .int .i64 0, .str [], .str [], .slice [], .slice []]
theorem encXs_map : ∀ l, encXs l = l.map encX
  | [] => rfl
  | t :: l => by rw [encXs, encXs_map l]; rfl
theorem encXs_length (l : List Ex) : (encXs l).length = l.length := by rw [encXs_map]; simp
theorem encXs_getD {l : List Ex} {i : Nat} (h : i < l.length) : (encXs l).getD i [] = encX (l.getD i ex0) := by
  rw [encXs_map]; simp [List.getD, h]
theorem encX_length (t : Ex) : (encX t).length = 9 := by cases t; rw [encX]; rfl
theorem encX_take (t : Ex) : List.take 9 (encX t) = encX t := by cases t; rw [encX]; rfl
theorem xrow_step {l : List Ex} {i : Nat} (h : i < l.length) : (encXs (l.take i) ++ List.replicate (l.length - i) zex).set i (encX (l.getD i ex0) ++ List.drop 9 ((encXs (l.take i) ++ List.replicate (l.length - i) zex).getD i [])) = encXs (l.take (i + 1)) ++ List.replicate (l.length - (i + 1)) zex := by
  have e1 : (encXs (l.take i)).length = i := by rw [encXs_length]; simp; omega
  have e2 : List.drop 9 ((encXs (l.take i) ++ List.replicate (l.length - i) zex).getD i []) = [] := by
    have e3 : l.length - i = (l.length - (i + 1)) + 1 := by omega
    rw [List.getD, List.getElem?_append_right (by omega), e1, Nat.sub_self, e3, List.replicate_succ]
    rfl
  have e4 : l.length - i = (l.length - (i + 1)) + 1 := by omega
  rw [e2, List.append_nil, List.set_append_right _ _ (by omega), e1, Nat.sub_self, e4, List.replicate_succ, List.set_cons_zero]
  rw [encXs_map, encXs_map, List.take_add_one, List.map_append, List.append_assoc]
  simp [List.getD, h]
theorem encX_leaf (t : Ex) : ∀ v ∈ encX t, isLeaf v = true := by cases t; rw [encX]; simp [isLeaf]
theorem frzL_encX (t : Ex) (A : List Box) : frzL (encX t) A = some (encX t, A) := by cases t; rw [encX]; rfl
theorem encXAs_map : ∀ l, encXAs l = l.map encXA
  | [] => rfl
  | t :: l => by rw [encXAs, encXAs_map l]; rfl
theorem encXAs_length (l : List Ex) : (encXAs l).length = l.length := by rw [encXAs_map]; simp
theorem encXAs_getD {l : List Ex} {i : Nat} (h : i < l.length) : (encXAs l).getD i [] = encXA (l.getD i ex0) := by
  rw [encXAs_map]; simp [List.getD, h]
theorem encXA_length (t : Ex) : (encXA t).length = 9 := by cases t; rw [encXA]; rfl
theorem encXA_take (t : Ex) : List.take 9 (encXA t) = encXA t := by cases t; rw [encXA]; rfl
theorem frzL_encXA (t : Ex) (A : List Box) : frzL (encXA t) A = some (encXA t, A) := by cases t; rw [encXA]; rfl
theorem ex_mem {l : List Ex} {i : Nat} (h : i < l.length) : l.getD i ex0 ∈ l := by simp [List.getD, h]
theorem ex_take {l : List Ex} {i : Nat} (h : i < l.length) : l.take (i + 1) = l.take i ++ [l.getD i ex0] := by
  rw [List.take_add_one]; simp [List.getD, h]
theorem szXs_take {l : List Ex} {i : Nat} (h : i < l.length) : szXs (l.take (i + 1)) = szXs (l.take i) + szX (l.getD i ex0) := by
  induction l generalizing i with
  | nil => simp at h
  | cons t l ih =>
    cases i with
    | zero => simp [szXs, List.getD]
    | succ i =>
      have := ih (i := i) (by simpa using h)
      simp only [List.take_succ_cons, szXs, List.getD_cons_succ] at this ⊢
      omega
theorem szXs_le (l : List Ex) : ∀ i, szXs (l.take i) ≤ szXs l := by
  induction l with
  | nil => intro i; simp [szXs]
  | cons t l ih =>
    intro i
    cases i with
    | zero => simp [szXs]
    | succ i => simp only [List.take_succ_cons, szXs]; have := ih i; omega
theorem szXs_mem {t : Ex} {l : List Ex} (h : t ∈ l) : szX t ≤ szXs l := by
  induction l with
  | nil => simp at h
  | cons u l ih =>
    rw [szXs]
    rcases List.mem_cons.1 h with rfl | h
    · omega
    · have := ih h; omega

def SzX (x : Ex) : Prop := ∀ (l : Int) (A : List Box), 0 ≤ l → l ≤ 1048576 → ACalls Try.prog 33 [.agg (encXA x), .int .i64 l] A (fun v A' => v = .int .i64 (left l (szX x)) ∧ A' = A)

set_option maxRecDepth 100000 in
theorem laws_szExprS (ks : List Ex) (hl : ks.length < 2 ^ 63) (hk : ∀ t ∈ ks, SzX t) (l : Int) (A : List Box) (h0 : 0 ≤ l) (h1 : l ≤ 1048576) :
    ACalls Try.prog 60 [.aslice (encXAs ks), .int .i64 l] A (fun v A' => v = .int .i64 (left l (ks.length + szXs ks)) ∧ A' = A) := by
  have hw : IntKind.i64.wrap (l - ↑(encXAs ks).length) = l - ks.length := by rw [encXAs_length]; exact wrap64 (by omega) (by omega)
  refine acalls_enter (cf := cf 27 [0, 1, 4, 5, 11, 15, 25]) foll Try.func60 Try.ntmps60 (by simp [cf]) ?_
  simp only [Try.f60, EnterK_some, zW, zX, zD, builtinA, isLeaf, const1, ustrA, simprocAttr, ti3, ti40, ti42, ca33, cf, Try.results60]
  rw [hw]
  refine condK_intro (fun h => ?_) (fun h => ?_)
  · simp only [zW, zX, zD, builtinA, isLeaf, const1, ustrA, simprocAttr, ti3, ti40, ti42, ca33, cf, Try.results60]
    have : ¬ ((ks.length + szXs ks : Nat) : Int) ≤ l := by simp at h; omega
    rw [left, if_neg this]
  · simp only [zW, zX, zD, builtinA, isLeaf, const1, ustrA, simprocAttr, ti3, ti40, ti42, ca33, cf, Try.results60]
    refine aloop_intro [0, 1, 5] (fun e A' => ∃ i, i ≤ ks.length ∧ ((ks.length + szXs (ks.take i) : Nat) : Int) ≤ l ∧ e = [(0, .aslice (encXAs ks)), (1, .int .i64 (l - (ks.length + szXs (ks.take i) : Nat))), (5, .int .i64 i)] ∧ A' = A) (fun e _ => ks.length - (intOf (Abs.look 5 e)).toNat) ?_ ?_
    · refine ⟨0, by omega, ?_, ?_, rfl⟩
      · simp at h; simp [szXs]; omega
      · simp only [zW, zX, zD, builtinA, isLeaf, const1, ustrA, simprocAttr, ti3, ti40, ti42, ca33, cf, Try.results60]
        simp [szXs]
    · rintro e A' ⟨i, hi, hle, rfl, rfl⟩
      simp only [zW, zX, zD, builtinA, isLeaf, const1, ustrA, simprocAttr, ti3, ti40, ti42, ca33, cf, Try.results60]
      refine condK_intro (fun h2 => ?_) (fun h2 => ?_)
      · have hi2 : i < ks.length := by simp [encXAs_length] at h2; exact h2
        have he := encXAs_getD hi2
        have hm := ex_mem hi2
        have hs := szXs_take hi2
        simp only [zW, zX, zD, builtinA, isLeaf, const1, ustrA, simprocAttr, ti3, ti40, ti42, ca33, cf, Try.results60, he, encXA_length, encXA_take, encXAs_length]
        refine ⟨⟨by omega, by omega⟩, ?_⟩
        refine callK_intro (by simp only [zW, zX, zD, builtinA, isLeaf, const1, ustrA, simprocAttr, frzL_encXA, Option.map_some]; rfl) (hk _ hm _ _ (by omega) (by omega)) ?_ rfl; rintro v A' ⟨rfl, rfl⟩
        by_cases hf : ((ks.length + szXs (ks.take (i + 1)) : Nat) : Int) ≤ l
        · have hv : left (l - ((ks.length + szXs (ks.take i) : Nat) : Int)) (szX (ks.getD i ex0)) = l - ((ks.length + szXs (ks.take (i + 1)) : Nat) : Int) := by
            rw [left, if_pos (by omega)]; omega
          have hn : decide (l - ((ks.length + szXs (ks.take (i + 1)) : Nat) : Int) < 0) = false := by simp only [decide_eq_false_iff_not]; omega
          have hi1 : IntKind.i64.wrap ((i : Int) + 1) = ((i + 1 : Nat) : Int) := by rw [wrap64 (by omega) (by omega)]; rfl
          rw [hv]
          simp only [zW, zX, zD, builtinA, isLeaf, const1, ustrA, simprocAttr, ti3, ti40, ti42, ca33, cf, Try.results60, hn, hi1, LoopK_eq, encXAs_length]
          refine ⟨⟨i + 1, by omega, hf, rfl⟩, ?_⟩
          simp only [intOf]
          omega
        · have hv : left (l - ((ks.length + szXs (ks.take i) : Nat) : Int)) (szX (ks.getD i ex0)) = -1 := by
            rw [left, if_neg (by omega)]
          have hz := szXs_le ks (i + 1)
          rw [hv, left, if_neg (by omega)]
          simp only [zW, zX, zD, builtinA, isLeaf, const1, ustrA, simprocAttr, ti3, ti40, ti42, ca33, cf, Try.results60]
      · simp only [zW, zX, zD, builtinA, isLeaf, const1, ustrA, simprocAttr, ti3, ti40, ti42, ca33, cf, Try.results60]
        have : i = ks.length := by simp [encXAs_length] at h2; omega
        subst this
        rw [List.take_length] at hle ⊢
        rw [left, if_pos hle]

theorem left_go {l : Int} {a b c : Nat} (h : ((a + b : Nat) : Int) ≤ l) (hc : c = a + b) : left (l - a) b = l - c := by
  rw [left, if_pos (by omega)]; omega

set_option maxRecDepth 100000 in
theorem laws_szExpr (x : Ex) (hx : x.Ok) : SzX x := by
  induction x using Ex.ind with
  | h k i m n t ks ih =>
    obtain ⟨hm, hn, ht, hks, hok⟩ := hx
    intro l A h0 h1
    have hw : IntKind.i64.wrap (l - ↑m.length) = l - m.length := wrap64 (by omega) (by omega)
    have hst := fun l A => laws_szType t ht l A
    rw [encTA4] at hst
    have hsx : szX (.mk k i m n t ks) = m.length + n.length + sz t + (ks.length + szXs ks) := by rw [szX]
    rw [hsx, encXA]
    refine acalls_enter (cf := cf 32 [0, 1, 2, 4, 11, 18, 24, 30]) foll Try.func33 Try.ntmps33 (by simp [cf]) ?_
    simp only [Try.f33, EnterK_some, zW, zX, zD, builtinA, isLeaf, const1, ustrA, simprocAttr, ti3, ti9, ti39, ti40, ti42, ca59, ca60, cf, Try.results33]
    rw [hw]
    refine condK_intro (fun h => ?_) (fun h => ?_)
    · simp only [zW, zX, zD, builtinA, isLeaf, const1, ustrA, simprocAttr, ti3, ti9, ti39, ti40, ti42, ca59, ca60, cf, Try.results33]
      rw [left, if_neg (by simp at h; omega)]
    · have hw2 : IntKind.i64.wrap (l - ↑m.length - ↑n.length) = l - ↑m.length - ↑n.length := by simp at h; exact wrap64 (by omega) (by omega)
      simp only [zW, zX, zD, builtinA, isLeaf, const1, ustrA, simprocAttr, ti3, ti9, ti39, ti40, ti42, ca59, ca60, cf, Try.results33, hw2]
      refine condK_intro (fun h2 => ?_) (fun h2 => ?_)
      · simp only [zW, zX, zD, builtinA, isLeaf, const1, ustrA, simprocAttr, ti3, ti9, ti39, ti40, ti42, ca59, ca60, cf, Try.results33]
        rw [left, if_neg (by simp at h2; omega)]
      · simp only [decide_eq_false_iff_not] at h h2
        simp only [zW, zX, zD, builtinA, isLeaf, const1, ustrA, simprocAttr, ti3, ti9, ti39, ti40, ti42, ca59, ca60, cf, Try.results33]
        refine callK_intro (by simp only [zW, zX, zD, builtinA, isLeaf, const1, ustrA, simprocAttr, Option.map_some]; rfl) (hst _ _ (by omega) (by omega)) ?_ rfl; rintro v A' ⟨rfl, rfl⟩
        by_cases hf : ((m.length + n.length + sz t : Nat) : Int) ≤ l
        · have hv : left (l - ↑m.length - ↑n.length) (sz t) = l - (m.length + n.length + sz t : Nat) := by
            rw [left, if_pos (by omega)]; omega
          have hn : decide (l - (m.length + n.length + sz t : Nat) < 0) = false := by simp only [decide_eq_false_iff_not]; omega
          rw [hv]
          simp only [zW, zX, zD, builtinA, isLeaf, const1, ustrA, simprocAttr, ti3, ti9, ti39, ti40, ti42, ca59, ca60, cf, Try.results33, hn]
          refine callK_intro (by simp only [zW, zX, zD, builtinA, isLeaf, const1, ustrA, simprocAttr, Option.map_some]; rfl) (laws_szExprS ks (by omega) (fun t ht => ih t ht (hok t ht)) _ _ (by omega) (by omega)) ?_ rfl; rintro v A' ⟨rfl, rfl⟩
          by_cases hg : ((m.length + n.length + sz t + (ks.length + szXs ks) : Nat) : Int) ≤ l
          · have hv : left (l - (m.length + n.length + sz t : Nat)) (ks.length + szXs ks) = l - (m.length + n.length + sz t + (ks.length + szXs ks) : Nat) := by
              rw [left, if_pos (by omega)]; omega
            have hn : decide (l - (m.length + n.length + sz t + (ks.length + szXs ks) : Nat) < 0) = false := by simp only [decide_eq_false_iff_not]; omega
            rw [hv, left, if_pos hg]
            simp only [zW, zX, zD, builtinA, isLeaf, const1, ustrA, simprocAttr, ti3, ti9, ti39, ti40, ti42, ca59, ca60, cf, Try.results33, hn]
          · have hv : left (l - (m.length + n.length + sz t : Nat)) (ks.length + szXs ks) = -1 := by
              rw [left, if_neg (by omega)]
            rw [hv, left, if_neg hg]
            simp only [zW, zX, zD, builtinA, isLeaf, const1, ustrA, simprocAttr, ti3, ti9, ti39, ti40, ti42, ca59, ca60, cf, Try.results33]
        · have hv : left (l - ↑m.length - ↑n.length) (sz t) = -1 := by
            rw [left, if_neg (by omega)]
          rw [hv, left, if_neg (by omega)]
          simp only [zW, zX, zD, builtinA, isLeaf, const1, ustrA, simprocAttr, ti3, ti9, ti39, ti40, ti42, ca59, ca60, cf, Try.results33]

set_option maxRecDepth 100000 in
theorem laws_toExprS (ks : List Ex) (hl : ks.length ≤ 1048576) (hk : ∀ t ∈ ks, ∀ A, ACalls Try.prog 36 [.agg (encXA t)] A (fun v A' => v = .agg (encX t) ∧ A' = A)) (A : List Box) :
    ACalls Try.prog 63 [.aslice (encXAs ks)] A (fun v A' => v = .slice (encXs ks) ∧ A' = A) := by
  have hl2 : ((encXAs ks).length : Int) ≤ 1048576 := by rw [encXAs_length]; omega
  refine acalls_enter (cf := cf 23 [0, 2, 3, 4, 11]) foll Try.func63 Try.ntmps63 (by simp [cf]) ?_
  simp only [Try.f63, EnterK_some, zW, zX, zD, builtinA, isLeaf, const1, ustrA, simprocAttr, ti3, ti40, ti42, ti51, ti53, ca36, cf, Try.results63]
  refine ⟨⟨by omega, by omega, by omega⟩, ?_⟩
  refine aloop_intro [0, 3, 4] (fun e A' => ∃ i, i ≤ ks.length ∧ e = [(0, .aslice (encXAs ks)), (3, .own A.length), (4, .int .i64 i)] ∧ A' = A ++ [.row 9 (encXs (ks.take i) ++ List.replicate (ks.length - i) zex) 0]) (fun e _ => ks.length - (intOf (Abs.look 4 e)).toNat) ?_ ?_
  · simp only [zW, zX, zD, builtinA, isLeaf, const1, ustrA, simprocAttr, ti3, ti40, ti42, ti51, ti53, ca36, cf, Try.results63]
    exact ⟨0, by omega, rfl, by rw [encXAs_length]; simp [encXs, zex]⟩
  · rintro e A' ⟨i, hi, rfl, rfl⟩
    simp only [zW, zX, zD, builtinA, isLeaf, const1, ustrA, simprocAttr, ti3, ti40, ti42, ti51, ti53, ca36, cf, Try.results63, encXAs_length]
    refine condK_intro (fun h2 => ?_) (fun h2 => ?_)
    · have hi2 : i < ks.length := by simpa using h2
      have he := encXAs_getD hi2
      have hm := ex_mem hi2
      simp only [zW, zX, zD, builtinA, isLeaf, const1, ustrA, simprocAttr, ti3, ti40, ti42, ti51, ti53, ca36, cf, Try.results63, he, encXA_length, encXA_take, encXAs_length]
      refine ⟨⟨by omega, by omega⟩, ?_⟩
      refine callK_intro (by simp only [zW, zX, zD, builtinA, isLeaf, const1, ustrA, simprocAttr, frzL_encXA, Option.map_some]; rfl) (hk _ hm _) ?_ rfl; rintro v A' ⟨rfl, rfl⟩
      have hi1 : IntKind.i64.wrap ((i : Int) + 1) = ((i + 1 : Nat) : Int) := by rw [wrap64 (by omega) (by omega)]; rfl
      simp only [zW, zX, zD, builtinA, isLeaf, const1, ustrA, simprocAttr, ti3, ti40, ti42, ti51, ti53, ca36, cf, Try.results63, encX_length, frzL_encX, xrow_step hi2, hi1, LoopK_eq]
      have hlen : (encXs (List.take i ks)).length + (List.replicate (ks.length - i) zex).length = ks.length := by
        simp [encXs_length]; omega
      rw [hlen]
      refine ⟨⟨by omega, by omega⟩, ⟨by omega, by omega, fun v hv => encX_leaf _ v hv⟩, ⟨i + 1, by omega, rfl, rfl⟩, ?_⟩
      simp only [intOf]
      omega
    · simp only [zW, zX, zD, builtinA, isLeaf, const1, ustrA, simprocAttr, ti3, ti40, ti42, ti51, ti53, ca36, cf, Try.results63]
      have : i = ks.length := by simp at h2; omega
      subst this
      simp [List.take_length]

set_option maxRecDepth 100000 in
theorem laws_toExpr (x : Ex) (hx : szX x ≤ 1048576) : ∀ A, ACalls Try.prog 36 [.agg (encXA x)] A (fun v A' => v = .agg (encX x) ∧ A' = A) := by
  induction x using Ex.ind with
  | h k i m n t ks ih =>
    intro A
    have hsx : szX (.mk k i m n t ks) = m.length + n.length + sz t + (ks.length + szXs ks) := by rw [szX]
    rw [hsx] at hx
    have htt := fun A => laws_toType t (by omega) A
    rw [encTA4, encT4] at htt
    have h1 : ks.length ≤ 1048576 := by omega
    have h2 : ∀ t ∈ ks, szX t ≤ 1048576 := fun t ht => by have := szXs_mem ht; omega
    rw [encXA, encX]
    refine acalls_enter (cf := cf 25 [0, 1, 2, 3]) foll Try.func36 Try.ntmps36 (by simp [cf]) ?_
    simp only [Try.f36, EnterK_some, zW, zX, zD, builtinA, isLeaf, const1, ustrA, simprocAttr, ti3, ti9, ti39, ti40, ti42, ti50, ti51, ti53, ca62, ca63, cf, Try.results36]
    refine callK_intro (by simp only [zW, zX, zD, builtinA, isLeaf, const1, ustrA, simprocAttr, Option.map_some]; rfl) (htt _) ?_ rfl; rintro v A' ⟨rfl, rfl⟩
    simp only [zW, zX, zD, builtinA, isLeaf, const1, ustrA, simprocAttr, ti3, ti9, ti39, ti40, ti42, ti50, ti51, ti53, ca62, ca63, cf, Try.results36]
    refine callK_intro (by simp only [zW, zX, zD, builtinA, isLeaf, const1, ustrA, simprocAttr, Option.map_some]; rfl) (laws_toExprS ks h1 (fun t ht => ih t ht (h2 t ht)) _) ?_ rfl; rintro v A' ⟨rfl, rfl⟩
    simp only [zW, zX, zD, builtinA, isLeaf, const1, ustrA, simprocAttr, ti3, ti9, ti39, ti40, ti42, ti50, ti51, ti53, ca62, ca63, cf, Try.results36]

set_option maxRecDepth 100000 in
theorem laws_eqExprS (ks : List Ex) (hl : ks.length < 2 ^ 63) (hk : ∀ t ∈ ks, ∀ A, ACalls Try.prog 40 [.agg (encX t), .agg (encX t)] A (fun v A' => v = .bool true ∧ A' = A)) (A : List Box) :
    ACalls Try.prog 69 [.slice (encXs ks), .slice (encXs ks)] A (fun v A' => v = .bool true ∧ A' = A) := by
  refine acalls_enter (cf := cf 27 [0, 1, 4, 5, 10, 14, 26]) foll Try.func69 Try.ntmps69 (by simp [cf]) ?_
  simp only [Try.f69, EnterK_some, zW, zX, zD, builtinA, isLeaf, const1, ustrA, simprocAttr, ti3, ti51, ti53, ca40, cf, Try.results69]
  refine aloop_intro [0, 1, 5] (fun e A' => ∃ i, i ≤ ks.length ∧ e = [(0, .slice (encXs ks)), (1, .slice (encXs ks)), (5, .int .i64 i)] ∧ A' = A) (fun e _ => ks.length - (intOf (Abs.look 5 e)).toNat) ?_ ?_
  · simp only [zW, zX, zD, builtinA, isLeaf, const1, ustrA, simprocAttr, ti3, ti51, ti53, ca40, cf, Try.results69]
    exact ⟨0, by omega, rfl⟩
  · rintro e A' ⟨i, hi, rfl, rfl⟩
    simp only [zW, zX, zD, builtinA, isLeaf, const1, ustrA, simprocAttr, ti3, ti51, ti53, ca40, cf, Try.results69, encXs_length]
    refine condK_intro (fun h2 => ?_) (fun h2 => ?_)
    · have hi2 : i < ks.length := by simpa using h2
      have he := encXs_getD hi2
      have hm := ex_mem hi2
      have hi1 : IntKind.i64.wrap ((i : Int) + 1) = ((i + 1 : Nat) : Int) := by rw [wrap64 (by omega) (by omega)]; rfl
      simp only [zW, zX, zD, builtinA, isLeaf, const1, ustrA, simprocAttr, ti3, ti51, ti53, ca40, cf, Try.results69, he, encX_length, encX_take, encXs_length]
      refine .inl ⟨by kernel_rfl, by kernel_rfl, ⟨by omega, by omega⟩, ⟨by omega, by omega⟩, ?_⟩
      refine callD_intro (by simp only [zW, zX, zD, builtinA, isLeaf, const1, ustrA, simprocAttr, frzL_encX, Option.map_some] <;> rfl) (hk _ hm _) ?_ rfl
      simp only [zW, zX, zD, builtinA, isLeaf, const1, ustrA, simprocAttr, ti3, ti51, ti53, ca40, cf, Try.results69, hi1, LoopK_eq]
      refine ⟨⟨i + 1, by omega, rfl⟩, ?_⟩
      simp only [intOf]
      omega
    · simp only [zW, zX, zD, builtinA, isLeaf, const1, ustrA, simprocAttr, ti3, ti51, ti53, ca40, cf, Try.results69]

set_option maxRecDepth 100000 in
theorem laws_eqExpr (x : Ex) (hx : x.Ok) : ∀ A, ACalls Try.prog 40 [.agg (encX x), .agg (encX x)] A (fun v A' => v = .bool true ∧ A' = A) := by
  induction x using Ex.ind with
  | h k i m n t ks ih =>
    intro A
    obtain ⟨hm, hn, ht, hks, hok⟩ := hx
    have het := fun A => laws_eqType t ht A
    rw [encT4] at het
    rw [encX]
    refine acalls_enter (cf := cf 37 [0, 1, 2, 3, 4, 9, 14, 19, 24, 30, 36]) foll Try.func40 Try.ntmps40 (by simp [cf]) ?_
    simp only [Try.f40, EnterK_some, zW, zX, zD, builtinA, isLeaf, const1, ustrA, simprocAttr, ti3, ti9, ti50, ti51, ti53, ca68, ca69, cf, Try.results40]
    refine callK_intro (by simp only [zW, zX, zD, builtinA, isLeaf, const1, ustrA, simprocAttr, Option.map_some]; rfl) (het _) ?_ rfl; rintro v A' ⟨rfl, rfl⟩
    simp only [zW, zX, zD, builtinA, isLeaf, const1, ustrA, simprocAttr, ti3, ti9, ti50, ti51, ti53, ca68, ca69, cf, Try.results40]
    refine callK_intro (by simp only [zW, zX, zD, builtinA, isLeaf, const1, ustrA, simprocAttr, Option.map_some]; rfl) (laws_eqExprS ks (by omega) (fun t ht => ih t ht (hok t ht)) _) ?_ rfl; rintro v A' ⟨rfl, rfl⟩
    simp only [zW, zX, zD, builtinA, isLeaf, const1, ustrA, simprocAttr, ti3, ti9, ti50, ti51, ti53, ca68, ca69, cf, Try.results40]
end Go.Proofs.Ytebgneaehhaclaa
