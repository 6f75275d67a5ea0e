/- Types that are owned: their lists of kids lie in boxes. -/
import Derived.Test.YtejbjgmgdbcddaaGreatAbsW3
import Derived.Test.YtejbjgmgdbcddaaGreatTypes
set_option linter.unusedVariables false
set_option linter.unusedSimpArgs false
namespace Go.Proofs.YtejbjgmgdbcddaaGreat
open Go.Abs

mutual
/-- the cells of a type whose kids lie in the boxes of S -/
def OwnT (A : List Box) : Ty → List AV → List Nat → Prop
  | .mk k m n ks, r, S => ∃ v, r = [.int .i64 k, .str m, .str n, v] ∧ ((v = .nils ∧ ks = [] ∧ S = []) ∨ (v = .slice [] ∧ ks = [] ∧ S = []) ∨ ∃ i rows S', v = .own i ∧ S = i :: S' ∧ A.getD i .dead = .gr none 4 rows ∧ OwnR A ks rows S')
def OwnR (A : List Box) : List Ty → List (List AV) → List Nat → Prop
  | [], rows, S => rows = [] ∧ S = []
  | t :: ks, rows, S => ∃ r rows' S1 S2, rows = r :: rows' ∧ S = S1 ++ S2 ∧ OwnT A t r S1 ∧ OwnR A ks rows' S2
end
/-- a list of types that is owned -/
def OwnK (A : List Box) (ks : List Ty) (v : AV) (S : List Nat) : Prop :=
  (v = .nils ∧ ks = [] ∧ S = []) ∨ (v = .slice [] ∧ ks = [] ∧ S = []) ∨ ∃ i rows S', v = .own i ∧ S = i :: S' ∧ A.getD i .dead = .gr none 4 rows ∧ OwnR A ks rows S'

theorem ownT_mk {A : List Box} {k : Int} {m n : List UInt8} {ks : List Ty} {r : List AV} {S : List Nat} : OwnT A (.mk k m n ks) r S ↔ ∃ v, r = [.int .i64 k, .str m, .str n, v] ∧ OwnK A ks v S := by
  rw [OwnT]; rfl

mutual
theorem OwnT.frame {A A' : List Box} : ∀ {t : Ty} {r : List AV} {S : List Nat}, OwnT A t r S → (∀ i ∈ S, A'.getD i .dead = A.getD i .dead) → OwnT A' t r S
  | .mk k m n ks, r, S, h, hf => by
    rw [OwnT] at h ⊢
    obtain ⟨v, hr, h⟩ := h
    refine ⟨v, hr, ?_⟩
    rcases h with h | h | ⟨i, rows, S', h1, h2, h3, h4⟩
    · exact .inl h
    · exact .inr (.inl h)
    · subst h2
      exact .inr (.inr ⟨i, rows, S', h1, rfl, by rw [hf i (by simp)]; exact h3, OwnR.frame h4 fun j hj => hf j (by simp [hj])⟩)
theorem OwnR.frame {A A' : List Box} : ∀ {ks : List Ty} {rows : List (List AV)} {S : List Nat}, OwnR A ks rows S → (∀ i ∈ S, A'.getD i .dead = A.getD i .dead) → OwnR A' ks rows S
  | [], rows, S, h, hf => by rw [OwnR] at h ⊢; exact h
  | t :: ks, rows, S, h, hf => by
    rw [OwnR] at h ⊢
    obtain ⟨r, rows', S1, S2, h1, h2, h3, h4⟩ := h
    subst h2
    exact ⟨r, rows', S1, S2, h1, rfl, OwnT.frame h3 fun j hj => hf j (by simp [hj]), OwnR.frame h4 fun j hj => hf j (by simp [hj])⟩
end
theorem OwnK.frame {A A' : List Box} {ks : List Ty} {v : AV} {S : List Nat} (h : OwnK A ks v S) (hf : ∀ i ∈ S, A'.getD i .dead = A.getD i .dead) : OwnK A' ks v S := by
  rcases h with h | h | ⟨i, rows, S', h1, h2, h3, h4⟩
  · exact .inl h
  · exact .inr (.inl h)
  · subst h2
    exact .inr (.inr ⟨i, rows, S', h1, rfl, by rw [hf i (by simp)]; exact h3, h4.frame fun j hj => hf j (by simp [hj])⟩)

theorem OwnR.length {A : List Box} : ∀ {ks : List Ty} {rows : List (List AV)} {S : List Nat}, OwnR A ks rows S → rows.length = ks.length
  | [], rows, S, h => by rw [OwnR] at h; rw [h.1]; rfl
  | t :: ks, rows, S, h => by
    rw [OwnR] at h
    obtain ⟨r, rows', S1, S2, h1, h2, h3, h4⟩ := h
    subst h1
    simp [OwnR.length h4]

theorem live_lt {A : List Box} {i : Nat} {b : Box} (h : A.getD i .dead = b) (hb : b ≠ .dead) : i < A.length := by
  rcases Nat.lt_or_ge i A.length with hh | hh
  · exact hh
  · simp [List.getD, Nat.not_lt.2 hh] at h; exact absurd h.symm hb

mutual
theorem OwnT.low {A : List Box} : ∀ {t : Ty} {r : List AV} {S : List Nat}, OwnT A t r S → ∀ i ∈ S, i < A.length
  | .mk k m n ks, r, S, h => by
    rw [OwnT] at h
    obtain ⟨v, hr, h⟩ := h
    rcases h with ⟨_, _, rfl⟩ | ⟨_, _, rfl⟩ | ⟨i, rows, S', h1, rfl, h3, h4⟩
    · simp
    · simp
    · intro j hj
      rcases List.mem_cons.1 hj with rfl | hj
      · exact live_lt h3 (by simp)
      · exact OwnR.low h4 j hj
theorem OwnR.low {A : List Box} : ∀ {ks : List Ty} {rows : List (List AV)} {S : List Nat}, OwnR A ks rows S → ∀ i ∈ S, i < A.length
  | [], rows, S, h => by rw [OwnR] at h; rw [h.2]; simp
  | t :: ks, rows, S, h => by
    rw [OwnR] at h
    obtain ⟨r, rows', S1, S2, h1, rfl, h3, h4⟩ := h
    intro j hj
    rcases List.mem_append.1 hj with hj | hj
    · exact OwnT.low h3 j hj
    · exact OwnR.low h4 j hj
end
theorem OwnK.low {A : List Box} {ks : List Ty} {v : AV} {S : List Nat} (h : OwnK A ks v S) : ∀ i ∈ S, i < A.length := by
  rcases h with ⟨_, _, rfl⟩ | ⟨_, _, rfl⟩ | ⟨i, rows, S', h1, rfl, h3, h4⟩
  · simp
  · simp
  · intro j hj
    rcases List.mem_cons.1 hj with rfl | hj
    · exact live_lt h3 (by simp)
    · exact h4.low j hj

/-! ### as they are read -/
theorem enc4 (k : Int) (m n : List UInt8) (ks : List Ty) : enc (.mk k m n ks) = [.int .i64 k, .str m, .str n, .slice (encs ks)] := by rw [enc]

theorem rows_view {A : List Box} {i : Nat} {rows : List (List AV)} {ks : List Ty} (h : A.getD i .dead = .gr none 4 rows) (hl : rows.length = ks.length)
    (hv : ∀ k, k < rows.length → ∀ j, j < 4 → View A ((rows.getD k []).getD j .bot) ((enc (ks.getD k ty0)).getD j .bot)) : View A (.own i) (.slice (encs ks)) := by
  refine .gr i 4 none rows (encs ks) h (by rw [encs_length, hl]) (fun r hr => ?_) fun k j hk hj => ?_
  · rw [encs_map] at hr
    obtain ⟨t, _, rfl⟩ := List.mem_map.1 hr
    exact ⟨enc_length t, enc_leaf t⟩
  · unfold Abs.rowAt
    rw [encs_getD (by omega)]
    exact hv k hk j hj

mutual
theorem OwnT.view {A : List Box} : ∀ {t : Ty} {r : List AV} {S : List Nat}, OwnT A t r S → r.length = 4 ∧ ∀ j, j < 4 → View A (r.getD j .bot) ((enc t).getD j .bot)
  | .mk k m n ks, r, S, h => by
    rw [OwnT] at h
    obtain ⟨v, rfl, h⟩ := h
    have hk : View A v (.slice (encs ks)) := by
      rcases h with ⟨rfl, rfl, _⟩ | ⟨rfl, rfl, _⟩ | ⟨i, rows, S', rfl, _, h3, h4⟩
      · exact .nils
      · exact .leaf _ rfl
      · exact rows_view h3 h4.length (OwnR.view h4)
    refine ⟨rfl, fun j hj => ?_⟩
    rw [enc4]
    match j, hj with
    | 0, _ => exact .leaf _ rfl
    | 1, _ => exact .leaf _ rfl
    | 2, _ => exact .leaf _ rfl
    | 3, _ => exact hk
theorem OwnR.view {A : List Box} : ∀ {ks : List Ty} {rows : List (List AV)} {S : List Nat}, OwnR A ks rows S → ∀ k, k < rows.length → ∀ j, j < 4 → View A ((rows.getD k []).getD j .bot) ((enc (ks.getD k ty0)).getD j .bot)
  | [], rows, S, h => by rw [OwnR] at h; rw [h.1]; intro k hk; simp at hk
  | t :: ks, rows, S, h => by
    rw [OwnR] at h
    obtain ⟨r, rows', S1, S2, rfl, h2, h3, h4⟩ := h
    intro k hk j hj
    cases k with
    | zero => exact (OwnT.view h3).2 j hj
    | succ k =>
      have := OwnR.view h4 k (by simpa using hk) j hj
      simpa using this
end
theorem OwnK.view {A : List Box} {ks : List Ty} {v : AV} {S : List Nat} (h : OwnK A ks v S) : View A v (.slice (encs ks)) := by
  rcases h with ⟨rfl, rfl, _⟩ | ⟨rfl, rfl, _⟩ | ⟨i, rows, S', rfl, _, h3, h4⟩
  · exact .nils
  · exact .leaf _ rfl
  · exact rows_view h3 h4.length h4.view
theorem OwnT.viewA {A : List Box} {t : Ty} {r : List AV} {S : List Nat} (h : OwnT A t r S) : View A (.agg r) (.agg (enc t)) := by
  obtain ⟨h1, h2⟩ := h.view
  exact .agg r (enc t) (by rw [enc_length, h1]) fun j hj => h2 j (by omega)
theorem OwnK.viewT {A : List Box} {ks : List Ty} {v : AV} {S : List Nat} (h : OwnK A ks v S) (k : Int) (m n : List UInt8) : View A (.agg [.int .i64 k, .str m, .str n, v]) (.agg (enc (.mk k m n ks))) :=
  OwnT.viewA (S := S) (ownT_mk.2 ⟨v, rfl, h⟩)
end Go.Proofs.YtejbjgmgdbcddaaGreat
