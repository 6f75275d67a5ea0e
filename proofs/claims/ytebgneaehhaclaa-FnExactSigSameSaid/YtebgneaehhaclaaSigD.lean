/- Items of signatures as data. -/
import Derived.Test.YtebgneaehhaclaaTypes
set_option linter.unusedVariables false
set_option linter.unusedSimpArgs false
namespace Go.Proofs.Ytebgneaehhaclaa
open Go.Abs

structure SigI where
  kind : Int
  name : List UInt8
  typ : Ty
def si0 : SigI := ⟨0, [], ty0⟩
def sE (x : SigI) : List AV := .int .i64 x.kind :: .str x.name :: enc x.typ
def sEA (x : SigI) : List AV := .int .i64 x.kind :: .str x.name :: encA x.typ
def sEs (l : List SigI) : List (List AV) := l.map sE
def sEAs (l : List SigI) : List (List AV) := l.map sEA
def szI (x : SigI) : Nat := x.name.length + sz x.typ
def szIs (l : List SigI) : Nat := (l.map szI).sum
def SigI.Ok (x : SigI) : Prop := x.name.length < 2 ^ 63 ∧ x.typ.Ok
def zsi : List AV := [.int .i64 0, .str [], .int .i64 0, .str [], .str [], .slice []]
theorem sE_length (x : SigI) : (sE x).length = 6 := by simp [sE, enc_length]
theorem sEA_length (x : SigI) : (sEA x).length = 6 := by simp [sEA, encA_length]
theorem sE_take (x : SigI) : List.take 6 (sE x) = sE x := List.take_of_length_le (by rw [sE_length]; exact Nat.le_refl _)
theorem sEA_take (x : SigI) : List.take 6 (sEA x) = sEA x := List.take_of_length_le (by rw [sEA_length]; exact Nat.le_refl _)
theorem sE_leaf (x : SigI) : ∀ v ∈ sE x, isLeaf v = true := by
  intro v hv
  simp only [sE, List.mem_cons] at hv
  rcases hv with rfl | rfl | hv
  · rfl
  · rfl
  · exact enc_leaf _ v hv
theorem frzL_leaf : ∀ (l : List AV) (A : List Box), (∀ v ∈ l, isLeaf v = true) → frzL l A = some (l, A)
  | [], A, _ => rfl
  | v :: l, A, h => by
    have h1 : frz1 v A = some (v, A) := by
      have := h v (by simp)
      cases v <;> simp [isLeaf] at this <;> rfl
    simp only [frzL, h1, frzL_leaf l A fun x hx => h x (by simp [hx])]
theorem frzL_sE (x : SigI) (A : List Box) : frzL (sE x) A = some (sE x, A) := frzL_leaf _ _ (sE_leaf x)
theorem sEA_leaf (x : SigI) : ∀ v ∈ sEA x, isLeaf v = true := by
  intro v hv
  simp only [sEA, List.mem_cons] at hv
  rcases hv with rfl | rfl | hv
  · rfl
  · rfl
  · cases ht : x.typ with
    | mk k m n ks =>
      rw [ht, encA] at hv
      simp at hv
      rcases hv with rfl | rfl | rfl | rfl <;> rfl
theorem frzL_sEA (x : SigI) (A : List Box) : frzL (sEA x) A = some (sEA x, A) := frzL_leaf _ _ (sEA_leaf x)
theorem sEs_length (l : List SigI) : (sEs l).length = l.length := by simp [sEs]
theorem sEAs_length (l : List SigI) : (sEAs l).length = l.length := by simp [sEAs]
theorem sEs_getD {l : List SigI} {i : Nat} (h : i < l.length) : (sEs l).getD i [] = sE (l.getD i si0) := by simp [sEs, List.getD, h]
theorem sEAs_getD {l : List SigI} {i : Nat} (h : i < l.length) : (sEAs l).getD i [] = sEA (l.getD i si0) := by simp [sEAs, List.getD, h]
theorem si_mem {l : List SigI} {i : Nat} (h : i < l.length) : l.getD i si0 ∈ l := by simp [List.getD, h]
theorem si_take {l : List SigI} {i : Nat} (h : i < l.length) : l.take (i + 1) = l.take i ++ [l.getD i si0] := by
  rw [List.take_add_one]; simp [List.getD, h]
theorem szIs_take {l : List SigI} {i : Nat} (h : i < l.length) : szIs (l.take (i + 1)) = szIs (l.take i) + szI (l.getD i si0) := by
  rw [si_take h]; simp [szIs]
theorem szIs_le (l : List SigI) (i : Nat) : szIs (l.take i) ≤ szIs l := by
  have h : szIs l = szIs (l.take i) + szIs (l.drop i) := by
    conv => lhs; rw [← List.take_append_drop i l]
    simp only [szIs, List.map_append, List.sum_append]
  omega
theorem szIs_mem {x : SigI} {l : List SigI} (h : x ∈ l) : szI x ≤ szIs l := by
  induction l with
  | nil => simp at h
  | cons y l ih =>
    simp only [szIs, List.map_cons, List.sum_cons] at ih ⊢
    rcases List.mem_cons.1 h with rfl | h
    · omega
    · have := ih h; omega

theorem encCl (n : Nat) (t : Ty) : (enc t).all (closed1 n) = true := List.all_eq_true.2 fun x hx => leaf_closed1 (enc_leaf t x hx)
theorem encD (t : Ty) : List.drop 4 (enc t) = [] := List.drop_of_length_le (by rw [enc_length]; exact Nat.le_refl _)
end Go.Proofs.Ytebgneaehhaclaa
