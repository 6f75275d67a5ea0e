/- Bindings as data, and what the laws' helpers do with lists of them. -/
import Derived.Test.YtkajklfohjcofaaGreatDoorTypesMeth
import Derived.Test.YtkajklfohjcofaaGreatDoorAbsW3
set_option linter.unusedVariables false
set_option linter.unusedSimpArgs false
namespace Go.Proofs.YtkajklfohjcofaaGreatDoor
open Go.Abs

theorem bT4 (t : Ty) : enc t = [.int .i64 t.kind, .str t.mod, .str t.name, .slice (encs t.kids)] := by cases t; rw [enc]; rfl
theorem bTA4 (t : Ty) : encA t = [.int .i64 t.kind, .str t.mod, .str t.name, .aslice (encAs t.kids)] := by cases t; rw [encA]; rfl
structure BdI where
  mod : List UInt8
  name : List UInt8
  typ : Ty
def bd0 : BdI := ⟨[], [], ty0⟩
def bE (x : BdI) : List AV := [.str x.mod, .str x.name, .int .i64 x.typ.kind, .str x.typ.mod, .str x.typ.name, .slice (encs x.typ.kids)]
def bEA (x : BdI) : List AV := [.str x.mod, .str x.name, .int .i64 x.typ.kind, .str x.typ.mod, .str x.typ.name, .aslice (encAs x.typ.kids)]
def bEs (l : List BdI) : List (List AV) := l.map bE
def bEAs (l : List BdI) : List (List AV) := l.map bEA
def szB (x : BdI) : Nat := x.mod.length + x.name.length + sz x.typ
def szBs (l : List BdI) : Nat := (l.map szB).sum
def BdI.Ok (x : BdI) : Prop := x.mod.length < 2 ^ 63 ∧ x.name.length < 2 ^ 63 ∧ x.typ.Ok
def zbd : List AV := [.str [], .str [], .int .i64 0, .str [], .str [], .slice []]
theorem bE_length (x : BdI) : (bE x).length = 6 := rfl
theorem bEA_length (x : BdI) : (bEA x).length = 6 := rfl
theorem bE_take (x : BdI) : List.take 6 (bE x) = bE x := rfl
theorem bEA_take (x : BdI) : List.take 6 (bEA x) = bEA x := rfl
theorem bE_leaf (x : BdI) : ∀ v ∈ bE x, isLeaf v = true := by simp [bE, isLeaf]
theorem frzL_bE (x : BdI) (A : List Box) : frzL (bE x) A = some (bE x, A) := rfl
theorem frzL_bEA (x : BdI) (A : List Box) : frzL (bEA x) A = some (bEA x, A) := rfl
theorem bEs_length (l : List BdI) : (bEs l).length = l.length := by simp [bEs]
theorem bEAs_length (l : List BdI) : (bEAs l).length = l.length := by simp [bEAs]
theorem bEs_getD {l : List BdI} {i : Nat} (h : i < l.length) : (bEs l).getD i [] = bE (l.getD i bd0) := by simp [bEs, List.getD, h]
theorem bEAs_getD {l : List BdI} {i : Nat} (h : i < l.length) : (bEAs l).getD i [] = bEA (l.getD i bd0) := by simp [bEAs, List.getD, h]
theorem bd_mem {l : List BdI} {i : Nat} (h : i < l.length) : l.getD i bd0 ∈ l := by simp [List.getD, h]
theorem bd_take {l : List BdI} {i : Nat} (h : i < l.length) : l.take (i + 1) = l.take i ++ [l.getD i bd0] := by
  rw [List.take_add_one]; simp [List.getD, h]
theorem szBs_take {l : List BdI} {i : Nat} (h : i < l.length) : szBs (l.take (i + 1)) = szBs (l.take i) + szB (l.getD i bd0) := by
  rw [bd_take h]; simp [szBs]
theorem szBs_le (l : List BdI) (i : Nat) : szBs (l.take i) ≤ szBs l := by
  have h : szBs l = szBs (l.take i) + szBs (l.drop i) := by
    conv => lhs; rw [← List.take_append_drop i l]
    simp only [szBs, List.map_append, List.sum_append]
  omega
theorem szBs_mem {x : BdI} {l : List BdI} (h : x ∈ l) : szB x ≤ szBs l := by
  induction l with
  | nil => simp at h
  | cons y l ih =>
    simp only [szBs, List.map_cons, List.sum_cons] at ih ⊢
    rcases List.mem_cons.1 h with rfl | h
    · omega
    · have := ih h; omega




theorem brow_step {l : List BdI} {i : Nat} (h : i < l.length) : (bEs (l.take i) ++ List.replicate (l.length - i) zbd).set i (bE (l.getD i bd0) ++ List.drop 6 ((bEs (l.take i) ++ List.replicate (l.length - i) zbd).getD i [])) = bEs (l.take (i + 1)) ++ List.replicate (l.length - (i + 1)) zbd := by
  have e1 : (bEs (l.take i)).length = i := by rw [bEs_length]; simp; omega
  have e2 : List.drop 6 ((bEs (l.take i) ++ List.replicate (l.length - i) zbd).getD i []) = [] := by
    have e3 : l.length - i = (l.length - (i + 1)) + 1 := by omega
    rw [List.getD, List.getElem?_append_right (by omega), e1, Nat.sub_self, e3, List.replicate_succ]
    rfl
  have e4 : l.length - i = (l.length - (i + 1)) + 1 := by omega
  rw [e2, List.append_nil, List.set_append_right _ _ (by omega), e1, Nat.sub_self, e4, List.replicate_succ, List.set_cons_zero]
  simp only [bEs]
  rw [List.take_add_one, List.map_append, List.append_assoc]
  simp [List.getD, h]



end Go.Proofs.YtkajklfohjcofaaGreatDoor
