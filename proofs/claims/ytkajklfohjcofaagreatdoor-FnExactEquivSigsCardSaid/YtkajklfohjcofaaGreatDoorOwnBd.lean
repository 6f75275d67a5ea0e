/- Lists of bindings as memory of their own. -/
import Derived.Test.YtkajklfohjcofaaGreatDoorOwnTo
import Derived.Test.YtkajklfohjcofaaGreatDoorBinds
import Derived.Test.YtkajklfohjcofaaGreatDoorAbsW3
set_option linter.unusedVariables false
set_option linter.unusedSimpArgs false
namespace Go.Proofs.YtkajklfohjcofaaGreatDoor
open Go.Abs

def bRow (b : BdI) (v : AV) : List AV := [.str b.mod, .str b.name, .int .i64 b.typ.kind, .str b.typ.mod, .str b.typ.name, v]
def OwnB (A : List Box) : List BdI → List (List AV) → List Nat → Prop
  | [], rows, S => rows = [] ∧ S = []
  | b :: bs, rows, S => ∃ v rows' S1 S2, rows = bRow b v :: rows' ∧ S = S1 ++ S2 ∧ OwnK A b.typ.kids v S1 ∧ OwnB A bs rows' S2
theorem OwnB.frame {A A' : List Box} : ∀ {bs : List BdI} {rows : List (List AV)} {S : List Nat}, OwnB A bs rows S → (∀ i ∈ S, A'.getD i .dead = A.getD i .dead) → OwnB A' bs rows S
  | [], rows, S, h, hf => h
  | b :: bs, rows, S, h, hf => by
    rw [OwnB] at h ⊢
    obtain ⟨v, rows', S1, S2, h1, rfl, h3, h4⟩ := h
    exact ⟨v, rows', S1, S2, h1, rfl, h3.frame fun j hj => hf j (by simp [hj]), OwnB.frame h4 fun j hj => hf j (by simp [hj])⟩
theorem OwnB.length {A : List Box} : ∀ {bs : List BdI} {rows : List (List AV)} {S : List Nat}, OwnB A bs rows S → rows.length = bs.length
  | [], rows, S, h => by rw [OwnB] at h; rw [h.1]; rfl
  | b :: bs, rows, S, h => by
    rw [OwnB] at h
    obtain ⟨v, rows', S1, S2, rfl, h2, h3, h4⟩ := h
    simp [OwnB.length h4]
theorem OwnB.low {A : List Box} : ∀ {bs : List BdI} {rows : List (List AV)} {S : List Nat}, OwnB A bs rows S → ∀ i ∈ S, i < A.length
  | [], rows, S, h => by rw [OwnB] at h; rw [h.2]; simp
  | b :: bs, rows, S, h => by
    rw [OwnB] at h
    obtain ⟨v, rows', S1, S2, h1, rfl, h3, h4⟩ := h
    intro j hj
    rcases List.mem_append.1 hj with hj | hj
    · exact h3.low j hj
    · exact OwnB.low h4 j hj
theorem OwnB.append {A : List Box} : ∀ {k1 k2 : List BdI} {r1 r2 : List (List AV)} {S1 S2 : List Nat}, OwnB A k1 r1 S1 → OwnB A k2 r2 S2 → OwnB A (k1 ++ k2) (r1 ++ r2) (S1 ++ S2)
  | [], k2, r1, r2, S1, S2, h1, h2 => by
    rw [OwnB] at h1
    rw [h1.1, h1.2]; exact h2
  | t :: k1, k2, r1, r2, S1, S2, h1, h2 => by
    rw [OwnB] at h1
    obtain ⟨v, r', T1, T2, rfl, rfl, h3, h4⟩ := h1
    rw [List.cons_append, OwnB]
    exact ⟨v, r' ++ r2, T1, T2 ++ S2, by simp, by simp, h3, OwnB.append h4 h2⟩
theorem OwnB.view {A : List Box} : ∀ {bs : List BdI} {rows : List (List AV)} {S : List Nat}, OwnB A bs rows S → ∀ k, k < rows.length → ∀ j, j < 6 → View A ((rows.getD k []).getD j .bot) ((bE (bs.getD k bd0)).getD j .bot)
  | [], rows, S, h => by rw [OwnB] at h; rw [h.1]; intro k hk; simp at hk
  | b :: bs, rows, S, h => by
    rw [OwnB] at h
    obtain ⟨v, rows', S1, S2, rfl, h2, h3, h4⟩ := h
    intro k hk j hj
    cases k with
    | zero =>
      have hv := h3.view
      match j, hj with
      | 0, _ => exact .leaf _ rfl
      | 1, _ => exact .leaf _ rfl
      | 2, _ => exact .leaf _ rfl
      | 3, _ => exact .leaf _ rfl
      | 4, _ => exact .leaf _ rfl
      | 5, _ => exact hv
    | succ k =>
      have := OwnB.view h4 k (by simpa using hk) j hj
      simpa using this
theorem OwnB.viewB {A : List Box} {bs : List BdI} {rows : List (List AV)} {S : List Nat} {i : Nat} (h : A.getD i .dead = .gr none 6 rows) (hb : OwnB A bs rows S) : View A (.own i) (.slice (bEs bs)) := by
  refine .gr i 6 none rows (bEs bs) h (by rw [bEs_length, hb.length]) (fun r hr => ?_) fun k j hk hj => ?_
  · obtain ⟨t, _, rfl⟩ := List.mem_map.1 hr
    exact ⟨bE_length t, bE_leaf t⟩
  · unfold Abs.rowAt
    rw [bEs_getD (by rw [← hb.length]; exact hk)]
    exact hb.view k hk j hj
/-- new memory that holds a list of bindings -/
def NewB (A : List Box) (bs : List BdI) (j : Nat) (A' : List Box) : Prop :=
  A.length ≤ A'.length ∧ (∀ k, k < A.length → A'.getD k .dead = A.getD k .dead) ∧ ∃ rows S, A'.getD j .dead = .gr none 6 rows ∧ OwnB A' bs rows S ∧ (j :: S).Nodup ∧ ∀ i ∈ j :: S, A.length ≤ i



end Go.Proofs.YtkajklfohjcofaaGreatDoor
