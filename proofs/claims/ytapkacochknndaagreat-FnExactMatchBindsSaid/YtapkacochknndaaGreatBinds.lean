/- Bindings as data, and what the laws' helpers do with lists of them. -/
import Derived.Test.YtapkacochknndaaGreatTypesMeth
import Derived.Test.YtapkacochknndaaGreatAbsW3
set_option linter.unusedVariables false
set_option linter.unusedSimpArgs false
namespace Go.Proofs.YtapkacochknndaaGreat
open Go.Abs

theorem bT4 (t : Ty) : enc t = [.int .i64 t.kind, .str t.mod, .str t.name, .slice (encs t.kids)] := by cases t; rw [enc]; rfl
theorem bTA4 (t : Ty) : encA t = [.int .i64 t.kind, .str t.mod, .str t.name, .aslice (encAs t.kids)] := by cases t; rw [encA]; rfl
structure BdI where
  mod : List UInt8
  name : List UInt8
  typ : Ty
def bd0 : BdI := ⟨[], [], ty0⟩
def bE (x : BdI) : List AV := [.str x.mod, .str x.name, .int .i64 x.typ.kind, .str x.typ.mod, .str x.typ.name, .slice (encs x.typ.kids)]
def bEA (x : BdI) : List AV := [.str x.mod, .str x.name, .int .i64 x.typ.kind, .str x.typ.mod, .str x.typ.name, .aslice (encAs x.typ.kids)]
def bEs (l : List BdI) : List (List AV) := l.map bE
def bEAs (l : List BdI) : List (List AV) := l.map bEA
def szB (x : BdI) : Nat := x.mod.length + x.name.length + sz x.typ
def szBs (l : List BdI) : Nat := (l.map szB).sum
def BdI.Ok (x : BdI) : Prop := x.mod.length < 2 ^ 63 ∧ x.name.length < 2 ^ 63 ∧ x.typ.Ok
def zbd : List AV := [.str [], .str [], .int .i64 0, .str [], .str [], .slice []]
theorem bE_length (x : BdI) : (bE x).length = 6 := rfl
theorem bEA_length (x : BdI) : (bEA x).length = 6 := rfl
theorem bE_take (x : BdI) : List.take 6 (bE x) = bE x := rfl
theorem bEA_take (x : BdI) : List.take 6 (bEA x) = bEA x := rfl
theorem bE_leaf (x : BdI) : ∀ v ∈ bE x, isLeaf v = true := by simp [bE, isLeaf]
theorem frzL_bE (x : BdI) (A : List Box) : frzL (bE x) A = some (bE x, A) := rfl
theorem frzL_bEA (x : BdI) (A : List Box) : frzL (bEA x) A = some (bEA x, A) := rfl
theorem bEs_length (l : List BdI) : (bEs l).length = l.length := by simp [bEs]
theorem bEAs_length (l : List BdI) : (bEAs l).length = l.length := by simp [bEAs]
theorem bEs_getD {l : List BdI} {i : Nat} (h : i < l.length) : (bEs l).getD i [] = bE (l.getD i bd0) := by simp [bEs, List.getD, h]
theorem bEAs_getD {l : List BdI} {i : Nat} (h : i < l.length) : (bEAs l).getD i [] = bEA (l.getD i bd0) := by simp [bEAs, List.getD, h]
theorem bd_mem {l : List BdI} {i : Nat} (h : i < l.length) : l.getD i bd0 ∈ l := by simp [List.getD, h]
theorem bd_take {l : List BdI} {i : Nat} (h : i < l.length) : l.take (i + 1) = l.take i ++ [l.getD i bd0] := by
  rw [List.take_add_one]; simp [List.getD, h]
theorem szBs_take {l : List BdI} {i : Nat} (h : i < l.length) : szBs (l.take (i + 1)) = szBs (l.take i) + szB (l.getD i bd0) := by
  rw [bd_take h]; simp [szBs]
theorem szBs_le (l : List BdI) (i : Nat) : szBs (l.take i) ≤ szBs l := by
  have h : szBs l = szBs (l.take i) + szBs (l.drop i) := by
    conv => lhs; rw [← List.take_append_drop i l]
    simp only [szBs, List.map_append, List.sum_append]
  omega
theorem szBs_mem {x : BdI} {l : List BdI} (h : x ∈ l) : szB x ≤ szBs l := by
  induction l with
  | nil => simp at h
  | cons y l ih =>
    simp only [szBs, List.map_cons, List.sum_cons] at ih ⊢
    rcases List.mem_cons.1 h with rfl | h
    · omega
    · have := ih h; omega




theorem brow_step {l : List BdI} {i : Nat} (h : i < l.length) : (bEs (l.take i) ++ List.replicate (l.length - i) zbd).set i (bE (l.getD i bd0) ++ List.drop 6 ((bEs (l.take i) ++ List.replicate (l.length - i) zbd).getD i [])) = bEs (l.take (i + 1)) ++ List.replicate (l.length - (i + 1)) zbd := by
  have e1 : (bEs (l.take i)).length = i := by rw [bEs_length]; simp; omega
  have e2 : List.drop 6 ((bEs (l.take i) ++ List.replicate (l.length - i) zbd).getD i []) = [] := by
    have e3 : l.length - i = (l.length - (i + 1)) + 1 := by omega
    rw [List.getD, List.getElem?_append_right (by omega), e1, Nat.sub_self, e3, List.replicate_succ]
    rfl
  have e4 : l.length - i = (l.length - (i + 1)) + 1 := by omega
  rw [e2, List.append_nil, List.set_append_right _ _ (by omega), e1, Nat.sub_self, e4, List.replicate_succ, List.set_cons_zero]
  simp only [bEs]
  rw [List.take_add_one, List.map_append, List.append_assoc]
  simp [List.getD, h]


set_option maxRecDepth 100000 in
theorem laws_eqBind (x : BdI) (hx : x.Ok) (A : List Box) : ACalls Tryz.prog 61 [.agg (bE x), .agg (bE x)] A (fun v A' => v = .bool true ∧ A' = A) := by
  have hT := fun A => laws_eqType x.typ hx.2.2 A
  rw [bT4] at hT
  rw [bE]
  refine acalls_enter (cf := cf 21 [0, 1, 2, 3, 4, 9, 14, 20]) foll Tryz.func61 Tryz.ntmps61 (by simp [cf]) ?_
  simp only [Tryz.f61, EnterK_some, zW, zX, zD, builtinA, isLeaf, const1, ustrA, simprocAttr, ti9, ti57, ti91, ca76, cf, Tryz.results61]
  refine callK_intro (by simp only [zW, zX, zD, builtinA, isLeaf, const1, ustrA, simprocAttr, Option.map_some]; rfl) (hT _) ?_ rfl; rintro v A' ⟨rfl, rfl⟩
  simp only [zW, zX, zD, builtinA, isLeaf, const1, ustrA, simprocAttr, ti9, ti57, ti91, ca76, cf, Tryz.results61]

set_option maxRecDepth 100000 in
theorem laws_eqBindS (ks : List BdI) (hl : ks.length < 2 ^ 63) (hk : ∀ t ∈ ks, t.Ok) (A : List Box) :
    ACalls Tryz.prog 25 [.slice (bEs ks), .slice (bEs ks)] A (fun v A' => v = .bool true ∧ A' = A) := by
  refine acalls_enter (cf := cf 27 [0, 1, 4, 5, 10, 14, 26]) foll Tryz.func25 Tryz.ntmps25 (by simp [cf]) ?_
  simp only [Tryz.f25, EnterK_some, zW, zX, zD, builtinA, isLeaf, const1, ustrA, simprocAttr, ti3, ti38, ti91, ca61, cf, Tryz.results25]
  refine aloop_intro [0, 1, 5] (fun e A' => ∃ i, i ≤ ks.length ∧ e = [(0, .slice (bEs ks)), (1, .slice (bEs ks)), (5, .int .i64 i)] ∧ A' = A) (fun e _ => ks.length - (intOf (Abs.look 5 e)).toNat) ?_ ?_
  · simp only [zW, zX, zD, builtinA, isLeaf, const1, ustrA, simprocAttr, ti3, ti38, ti91, ca61, cf, Tryz.results25]
    exact ⟨0, by omega, rfl⟩
  · rintro e A' ⟨i, hi, rfl, rfl⟩
    simp only [zW, zX, zD, builtinA, isLeaf, const1, ustrA, simprocAttr, ti3, ti38, ti91, ca61, cf, Tryz.results25, bEs_length]
    refine condK_intro (fun h2 => ?_) (fun h2 => ?_)
    · have hi2 : i < ks.length := by simpa using h2
      have he := bEs_getD hi2
      have hm := bd_mem hi2
      have hi1 : IntKind.i64.wrap ((i : Int) + 1) = ((i + 1 : Nat) : Int) := by rw [wrap64 (by omega) (by omega)]; rfl
      simp only [zW, zX, zD, builtinA, isLeaf, const1, ustrA, simprocAttr, ti3, ti38, ti91, ca61, cf, Tryz.results25, he, bE_length, bE_take, bEs_length]
      refine .inl ⟨by kernel_rfl, by kernel_rfl, ⟨by omega, by omega⟩, ⟨by omega, by omega⟩, ?_⟩
      refine callD_intro (by simp only [zW, zX, zD, builtinA, isLeaf, const1, ustrA, simprocAttr, frzL_bE, Option.map_some] <;> rfl) (laws_eqBind _ (hk _ hm) _) ?_ rfl
      simp only [zW, zX, zD, builtinA, isLeaf, const1, ustrA, simprocAttr, ti3, ti38, ti91, ca61, cf, Tryz.results25, hi1, LoopK_eq]
      refine ⟨⟨i + 1, by omega, rfl⟩, ?_⟩
      simp only [intOf]
      omega
    · simp only [zW, zX, zD, builtinA, isLeaf, const1, ustrA, simprocAttr, ti3, ti38, ti91, ca61, cf, Tryz.results25]
end Go.Proofs.YtapkacochknndaaGreat
