/- Marks in a list of items that is owned. -/
import Derived.Test.YtmgppdedcciogaaGreatOwnTo
import Derived.Test.YtmgppdedcciogaaGreatSigD
import Derived.Test.YtmgppdedcciogaaGreatAbsW3
set_option linter.unusedVariables false
set_option linter.unusedSimpArgs false
namespace Go.Proofs.YtmgppdedcciogaaGreat
open Go.Abs

theorem enc4s (t : Ty) : enc t = [.int .i64 t.kind, .str t.mod, .str t.name, .slice (encs t.kids)] := by cases t; rw [enc]; rfl
theorem encA4s (t : Ty) : encA t = [.int .i64 t.kind, .str t.mod, .str t.name, .aslice (encAs t.kids)] := by cases t; rw [encA]; rfl
theorem sE6 (x : SigI) : sE x = [.int .i64 x.kind, .str x.name, .int .i64 x.typ.kind, .str x.typ.mod, .str x.typ.name, .slice (encs x.typ.kids)] := by rw [sE, enc4s]
def sRow (b : SigI) (v : AV) : List AV := [.int .i64 b.kind, .str b.name, .int .i64 b.typ.kind, .str b.typ.mod, .str b.typ.name, v]
def OwnG (A : List Box) : List SigI → List (List AV) → List Nat → Prop
  | [], rows, S => rows = [] ∧ S = []
  | b :: bs, rows, S => ∃ v rows' S1 S2, rows = sRow b v :: rows' ∧ S = S1 ++ S2 ∧ OwnK A b.typ.kids v S1 ∧ OwnG A bs rows' S2
theorem OwnG.frame {A A' : List Box} : ∀ {bs : List SigI} {rows : List (List AV)} {S : List Nat}, OwnG A bs rows S → (∀ i ∈ S, A'.getD i .dead = A.getD i .dead) → OwnG A' bs rows S
  | [], rows, S, h, hf => h
  | b :: bs, rows, S, h, hf => by
    rw [OwnG] at h ⊢
    obtain ⟨v, rows', S1, S2, h1, rfl, h3, h4⟩ := h
    exact ⟨v, rows', S1, S2, h1, rfl, h3.frame fun j hj => hf j (by simp [hj]), OwnG.frame h4 fun j hj => hf j (by simp [hj])⟩
theorem OwnG.length {A : List Box} : ∀ {bs : List SigI} {rows : List (List AV)} {S : List Nat}, OwnG A bs rows S → rows.length = bs.length
  | [], rows, S, h => by rw [OwnG] at h; rw [h.1]; rfl
  | b :: bs, rows, S, h => by
    rw [OwnG] at h
    obtain ⟨v, rows', S1, S2, rfl, h2, h3, h4⟩ := h
    simp [OwnG.length h4]
theorem OwnG.low {A : List Box} : ∀ {bs : List SigI} {rows : List (List AV)} {S : List Nat}, OwnG A bs rows S → ∀ i ∈ S, i < A.length
  | [], rows, S, h => by rw [OwnG] at h; rw [h.2]; simp
  | b :: bs, rows, S, h => by
    rw [OwnG] at h
    obtain ⟨v, rows', S1, S2, h1, rfl, h3, h4⟩ := h
    intro j hj
    rcases List.mem_append.1 hj with hj | hj
    · exact h3.low j hj
    · exact OwnG.low h4 j hj
theorem OwnG.append {A : List Box} : ∀ {k1 k2 : List SigI} {r1 r2 : List (List AV)} {S1 S2 : List Nat}, OwnG A k1 r1 S1 → OwnG A k2 r2 S2 → OwnG A (k1 ++ k2) (r1 ++ r2) (S1 ++ S2)
  | [], k2, r1, r2, S1, S2, h1, h2 => by
    rw [OwnG] at h1
    rw [h1.1, h1.2]; exact h2
  | t :: k1, k2, r1, r2, S1, S2, h1, h2 => by
    rw [OwnG] at h1
    obtain ⟨v, r', T1, T2, rfl, rfl, h3, h4⟩ := h1
    rw [List.cons_append, OwnG]
    exact ⟨v, r' ++ r2, T1, T2 ++ S2, by simp, by simp, h3, OwnG.append h4 h2⟩
theorem OwnG.view {A : List Box} : ∀ {bs : List SigI} {rows : List (List AV)} {S : List Nat}, OwnG A bs rows S → ∀ k, k < rows.length → ∀ j, j < 6 → View A ((rows.getD k []).getD j .bot) ((sE (bs.getD k si0)).getD j .bot)
  | [], rows, S, h => by rw [OwnG] at h; rw [h.1]; intro k hk; simp at hk
  | b :: bs, rows, S, h => by
    rw [OwnG] at h
    obtain ⟨v, rows', S1, S2, rfl, h2, h3, h4⟩ := h
    intro k hk j hj
    cases k with
    | zero =>
      have hv := h3.view
      have e0 : (sE ((b :: bs).getD 0 si0)) = sE b := rfl
      rw [e0, sE6]
      match j, hj with
      | 0, _ => exact .leaf _ rfl
      | 1, _ => exact .leaf _ rfl
      | 2, _ => exact .leaf _ rfl
      | 3, _ => exact .leaf _ rfl
      | 4, _ => exact .leaf _ rfl
      | 5, _ => exact hv
    | succ k =>
      have := OwnG.view h4 k (by simpa using hk) j hj
      simpa using this
theorem OwnG.viewG {A : List Box} {bs : List SigI} {rows : List (List AV)} {S : List Nat} {i : Nat} (h : A.getD i .dead = .gr none 6 rows) (hb : OwnG A bs rows S) : View A (.own i) (.slice (sEs bs)) := by
  refine .gr i 6 none rows (sEs bs) h (by rw [sEs_length, hb.length]) (fun r hr => ?_) fun k j hk hj => ?_
  · obtain ⟨t, _, rfl⟩ := List.mem_map.1 hr
    exact ⟨sE_length t, sE_leaf t⟩
  · unfold Abs.rowAt
    rw [sEs_getD (by rw [← hb.length]; exact hk)]
    exact hb.view k hk j hj
/-- new memory that holds a list of bindings -/
def NewG (A : List Box) (bs : List SigI) (j : Nat) (A' : List Box) : Prop :=
  A.length ≤ A'.length ∧ (∀ k, k < A.length → A'.getD k .dead = A.getD k .dead) ∧ ∃ rows S, A'.getD j .dead = .gr none 6 rows ∧ OwnG A' bs rows S ∧ (j :: S).Nodup ∧ ∀ i ∈ j :: S, A.length ≤ i



end Go.Proofs.YtmgppdedcciogaaGreat

namespace Go.Proofs.YtmgppdedcciogaaGreat
open Go.Abs

/-- a list of items that is owned, or none -/
def OwnI (A : List Box) (xs : List SigI) (v : AV) (S : List Nat) : Prop :=
  (v = .nils ∧ xs = [] ∧ S = []) ∨ ∃ i rows S', v = .own i ∧ S = i :: S' ∧ A.getD i .dead = .gr none 6 rows ∧ OwnG A xs rows S'
theorem OwnI.frame {A A' : List Box} {xs : List SigI} {v : AV} {S : List Nat} (h : OwnI A xs v S) (hf : ∀ i ∈ S, A'.getD i .dead = A.getD i .dead) : OwnI A' xs v S := by
  rcases h with h | ⟨i, rows, S', h1, h2, h3, h4⟩
  · exact .inl h
  · subst h2
    exact .inr ⟨i, rows, S', h1, rfl, by rw [hf i (by simp)]; exact h3, h4.frame fun j hj => hf j (by simp [hj])⟩
theorem OwnI.low {A : List Box} {xs : List SigI} {v : AV} {S : List Nat} (h : OwnI A xs v S) : ∀ i ∈ S, i < A.length := by
  rcases h with ⟨_, _, rfl⟩ | ⟨i, rows, S', h1, rfl, h3, h4⟩
  · simp
  · intro j hj
    rcases List.mem_cons.1 hj with rfl | hj
    · exact live_lt h3 (by simp)
    · exact h4.low j hj
theorem OwnI.view {A : List Box} {xs : List SigI} {v : AV} {S : List Nat} (h : OwnI A xs v S) : View A v (.slice (sEs xs)) := by
  rcases h with ⟨rfl, rfl, _⟩ | ⟨i, rows, S', rfl, _, h3, h4⟩
  · exact .nils
  · exact OwnG.viewG h3 h4

end Go.Proofs.YtmgppdedcciogaaGreat

namespace Go.Proofs.YtmgppdedcciogaaGreat
open Go.Abs

def totG : List SigI → Nat
  | [] => 0
  | b :: bs => 5 + 3 * counts b.typ.kids + totG bs
theorem totG_app : ∀ a b : List SigI, totG (a ++ b) = totG a + totG b
  | [], b => by simp [totG]
  | x :: a, b => by rw [List.cons_append, totG, totG, totG_app a b]; omega
theorem totG_take {bs : List SigI} {p : Nat} (h : p < bs.length) : totG (bs.take (p + 1)) = totG (bs.take p) + (5 + 3 * counts (bs.getD p si0).typ.kids) := by
  rw [si_take h, totG_app]; simp [totG]
theorem totG_le (bs : List SigI) (p : Nat) : totG (bs.take p) ≤ totG bs := by
  conv => rhs; rw [← List.take_append_drop p bs]
  rw [totG_app]; omega

theorem si_drop' {l : List SigI} {i : Nat} (h : i < l.length) : l.drop i = l.getD i si0 :: l.drop (i + 1) := by
  have : l.getD i si0 = l[i] := by simp [List.getD, h]
  rw [this, List.getElem_cons_drop h]

mutual
theorem count_le_szG : ∀ t : Ty, count t ≤ 1 + sz t
  | .mk k m n ks => by rw [count, sz]; have := counts_le_szG ks; omega
theorem counts_le_szG : ∀ l : List Ty, counts l ≤ l.length + szs l
  | [] => by simp [counts]
  | t :: l => by rw [counts, szs, List.length_cons]; have := count_le_szG t; have := counts_le_szG l; omega
end
theorem totG_sz : ∀ bs : List SigI, totG bs ≤ 5 * bs.length + 3 * szIs bs
  | [] => by simp [totG]
  | b :: bs => by
    have h := totG_sz bs
    have e : szIs (b :: bs) = szI b + szIs bs := by simp [szIs]
    have h2 := counts_le_szG b.typ.kids
    have h3 : b.typ.kids.length + szs b.typ.kids ≤ sz b.typ := by cases b.typ; rw [sz]; simp [Ty.kids]
    rw [totG, e, List.length_cons, szI]; omega

end Go.Proofs.YtmgppdedcciogaaGreat
