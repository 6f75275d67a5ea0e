/- Expressions whose lists of operands have a place, and the classes of such lists. -/
import Derived.Test.YtebgneaehhaclaaExprs
import Derived.Test.YtebgneaehhaclaaSameA2
set_option linter.unusedVariables false
set_option linter.unusedSimpArgs false
namespace Go.Proofs.Ytebgneaehhaclaa
noncomputable instance decEx : DecidableEq Ex := fun a b => Classical.propDecidable (a = b)
abbrev TT := ITy
def tNode := node
def tKids := kidsV
def tErase := erase
theorem tEnc_eq (t : TT) : encI t = [Go.Abs.AV.int .i64 (tNode t).1, .str (tNode t).2.1, .str (tNode t).2.2.1, tKids t] := encI_eq t
theorem tKids_leaf (t : TT) : Go.Abs.isLeaf (tKids t) = true := by unfold tKids kidsV; split <;> rfl
end Go.Proofs.Ytebgneaehhaclaa
namespace Go.Proofs.Ytebgneaehhaclaa.SX
open Go.Abs

inductive IEx where
  | mk (k q : Int) (m n : List UInt8) (a : TT) (b off : Nat) (kids : List IEx)

theorem IEx.ind {M : IEx → Prop} (h : ∀ k q m n a b o ks, (∀ t ∈ ks, M t) → M (.mk k q m n a b o ks)) : ∀ t, M t
  | .mk k q m n a b o ks => h k q m n a b o ks fun t ht => IEx.ind h t
termination_by t => SizeOf.sizeOf t
decreasing_by
  have := List.sizeOf_lt_of_mem ht
  simp only [IEx.mk.sizeOf_spec]
  omega

mutual
def encI : IEx → List AV
  | .mk k q m n a b o [] => [.int .i64 k, .int .i64 q, .str m, .str n, .int .i64 (tNode a).1, .str (tNode a).2.1, .str (tNode a).2.2.1, tKids a, .slice []]
  | .mk k q m n a b o (t :: ks) => [.int .i64 k, .int .i64 q, .str m, .str n, .int .i64 (tNode a).1, .str (tNode a).2.1, .str (tNode a).2.2.1, tKids a, .islice b o (encI t :: encIs ks)]
def encIs : List IEx → List (List AV)
  | [] => []
  | t :: l => encI t :: encIs l
end
mutual
def erase : IEx → Ex
  | .mk k q m n a _ _ ks => .mk k q m n (tErase a) (erases ks)
def erases : List IEx → List Ex
  | [] => []
  | t :: l => erase t :: erases l
end
mutual
def isz : IEx → Nat
  | .mk _ _ _ _ _ _ _ ks => 1 + iszs ks
def iszs : List IEx → Nat
  | [] => 0
  | t :: l => isz t + iszs l
end
theorem encIs_map : ∀ l, encIs l = l.map encI
  | [] => rfl
  | t :: l => by rw [encIs, encIs_map l]; rfl
theorem encIs_length (l : List IEx) : (encIs l).length = l.length := by rw [encIs_map]; simp
theorem erases_map : ∀ l, erases l = l.map erase
  | [] => rfl
  | t :: l => by rw [erases, erases_map l]; rfl
def it0 : IEx := .mk 0 0 [] [] (Go.Proofs.Ytebgneaehhaclaa.it0) 0 0 []
theorem encIs_getD {l : List IEx} {i : Nat} (h : i < l.length) : (encIs l).getD i [] = encI (l.getD i it0) := by
  rw [encIs_map]; simp [List.getD, h]
theorem encI_length (t : IEx) : (encI t).length = 9 := by
  obtain ⟨k, q, m, n, a, b, o, ks⟩ := t
  cases ks <;> rw [encI] <;> rfl
theorem encI_leaf (t : IEx) : ∀ v ∈ encI t, isLeaf v = true := by
  obtain ⟨k, q, m, n, a, b, o, ks⟩ := t
  have := tKids_leaf a
  cases ks <;> rw [encI] <;> simp [isLeaf] <;> exact this
theorem iszs_mem {t : IEx} {l : List IEx} (h : t ∈ l) : isz t ≤ iszs l := by
  induction l with
  | nil => simp at h
  | cons u l ih =>
    rw [iszs]
    rcases List.mem_cons.1 h with rfl | h
    · omega
    · have := ih h; omega

/-- a list of parts that is not empty, with its place -/
structure LL where
  b : Nat
  off : Nat
  hd : IEx
  tl : List IEx
def LL.ks (x : LL) : List IEx := x.hd :: x.tl
def LL.idn (x : LL) : Nat × Nat × Nat := (x.b, x.off, x.ks.length)
def LL.sz (x : LL) : Nat := iszs x.ks

/-- the list below a type -/
def below : IEx → Option LL
  | .mk _ _ _ _ _ _ _ [] => none
  | .mk _ _ _ _ _ b o (t :: ks) => some ⟨b, o, t, ks⟩
def node : IEx → (Int × Int × List UInt8 × List UInt8 × Ty) × Nat
  | .mk k q m n a _ _ ks => ((k, q, m, n, tErase a), ks.length)

/-- what is below and above in a set of lists -/
structure Univ (U : List LL) : Prop where
  inj : ∀ x ∈ U, ∀ y ∈ U, x.idn = y.idn → x = y
  down : ∀ x ∈ U, ∀ t ∈ x.ks, ∀ y, below t = some y → y ∈ U

inductive Eqv (J : List (LL × LL)) : LL → LL → Prop
  | base {x y : LL} : (x, y) ∈ J → Eqv J x y
  | refl (x : LL) : Eqv J x x
  | symm {x y : LL} : Eqv J x y → Eqv J y x
  | trans {x y z : LL} : Eqv J x y → Eqv J y z → Eqv J x z

theorem Eqv.mono {J J' : List (LL × LL)} (hs : ∀ p ∈ J, p ∈ J') {x y : LL} (h : Eqv J x y) : Eqv J' x y := by
  induction h with
  | base h => exact .base (hs _ h)
  | refl x => exact .refl x
  | symm _ ih => exact .symm ih
  | trans _ _ ih1 ih2 => exact .trans ih1 ih2

/-- two types whose roots agree and whose lists are in one class -/
def Near (R : LL → LL → Prop) (s t : IEx) : Prop :=
  node s = node t ∧ ((below s = none ∧ below t = none) ∨ ∃ x y, below s = some x ∧ below t = some y ∧ R x y)
def Bis (R : LL → LL → Prop) (x y : LL) : Prop := x.ks.length = y.ks.length ∧ ∀ i, i < x.ks.length → Near R (x.ks.getD i it0) (y.ks.getD i it0)

theorem Near.refl {R : LL → LL → Prop} (hr : ∀ x, R x x) (s : IEx) : Near R s s := by
  refine ⟨rfl, ?_⟩
  cases h : below s with
  | none => exact .inl ⟨rfl, rfl⟩
  | some x => exact .inr ⟨x, x, rfl, rfl, hr x⟩
theorem Near.symm {R : LL → LL → Prop} (hs : ∀ x y, R x y → R y x) {s t : IEx} (h : Near R s t) : Near R t s := by
  refine ⟨h.1.symm, ?_⟩
  rcases h.2 with ⟨h1, h2⟩ | ⟨x, y, h1, h2, h3⟩
  · exact .inl ⟨h2, h1⟩
  · exact .inr ⟨y, x, h2, h1, hs _ _ h3⟩
theorem Near.trans {R : LL → LL → Prop} (ht : ∀ x y z, R x y → R y z → R x z) {s t u : IEx} (h : Near R s t) (k : Near R t u) : Near R s u := by
  refine ⟨h.1.trans k.1, ?_⟩
  rcases h.2 with ⟨h1, h2⟩ | ⟨x, y, h1, h2, h3⟩
  · rcases k.2 with ⟨k1, k2⟩ | ⟨x', y', k1, k2, k3⟩
    · exact .inl ⟨h1, k2⟩
    · rw [h2] at k1; cases k1
  · rcases k.2 with ⟨k1, k2⟩ | ⟨x', y', k1, k2, k3⟩
    · rw [h2] at k1; cases k1
    · rw [h2] at k1; cases k1
      exact .inr ⟨x, y', h1, k2, ht _ _ _ h3 k3⟩

theorem bis_all {J : List (LL × LL)} (hj : ∀ p ∈ J, Bis (Eqv J) p.1 p.2) {x y : LL} (h : Eqv J x y) : Bis (Eqv J) x y := by
  induction h with
  | base h => exact hj _ h
  | refl x => exact ⟨rfl, fun i _ => Near.refl (fun x => .refl x) _⟩
  | symm _ ih => exact ⟨ih.1.symm, fun i hi => (ih.2 i (by rw [ih.1]; exact hi)).symm fun _ _ h => .symm h⟩
  | trans _ _ ih1 ih2 => exact ⟨ih1.1.trans ih2.1, fun i hi => (ih1.2 i hi).trans (fun _ _ _ h k => .trans h k) (ih2.2 i (by rw [← ih1.1]; exact hi))⟩

theorem below_ks {t : IEx} {x : LL} (h : below t = some x) : ∃ k q m n a, t = .mk k q m n a x.b x.off x.ks := by
  obtain ⟨k, q, m, n, a, b, o, ks⟩ := t
  cases ks with
  | nil => simp [below] at h
  | cons t ks => simp [below] at h; subst h; exact ⟨k, q, m, n, a, rfl⟩
theorem below_none {t : IEx} (h : below t = none) : ∃ k q m n a b o, t = .mk k q m n a b o [] := by
  obtain ⟨k, q, m, n, a, b, o, ks⟩ := t
  cases ks with
  | nil => exact ⟨k, q, m, n, a, b, o, rfl⟩
  | cons t ks => simp [below] at h

theorem erases_ext {l l' : List IEx} (hl : l.length = l'.length) (h : ∀ i, i < l.length → erase (l.getD i it0) = erase (l'.getD i it0)) : erases l = erases l' := by
  induction l generalizing l' with
  | nil => cases l' with
    | nil => rfl
    | cons => simp at hl
  | cons t l ih => cases l' with
    | nil => simp at hl
    | cons t' l' =>
      rw [erases, erases]
      have h0 := h 0 (by simp)
      simp only [List.getD_cons_zero] at h0
      rw [h0, ih (by simpa using hl) fun i hi => by have := h (i + 1) (by simpa using hi); simpa using this]

theorem near_erase {R : LL → LL → Prop} {s t : IEx} (h : Near R s t) (hr : ∀ x y, below s = some x → below t = some y → R x y → erases x.ks = erases y.ks) : erase s = erase t := by
  obtain ⟨h1, h2⟩ := h
  rcases h2 with ⟨ha, hb⟩ | ⟨x, y, ha, hb, hc⟩
  · obtain ⟨k, q, m, n, a, b1, o1, rfl⟩ := below_none ha
    obtain ⟨k', q', m', n', a', b2, o2, rfl⟩ := below_none hb
    simp only [node, Prod.mk.injEq] at h1
    obtain ⟨⟨rfl, rfl, rfl, rfl, h2⟩, _⟩ := h1
    rw [erase, erase, h2]
  · have he := hr x y ha hb hc
    obtain ⟨k, q, m, n, a, rfl⟩ := below_ks ha
    obtain ⟨k', q', m', n', a', rfl⟩ := below_ks hb
    simp only [node, Prod.mk.injEq] at h1
    obtain ⟨⟨rfl, rfl, rfl, rfl, h2⟩, _⟩ := h1
    rw [erase, erase, he, h2]

theorem same_all {J : List (LL × LL)} (hj : ∀ p ∈ J, Bis (Eqv J) p.1 p.2) : ∀ (n : Nat) (x y : LL), x.sz ≤ n → Eqv J x y → erases x.ks = erases y.ks := by
  intro n
  induction n with
  | zero =>
    intro x y hn
    exfalso
    have : 1 ≤ x.sz := by
      unfold LL.sz LL.ks
      rw [iszs]
      obtain ⟨k, q, m, n, a, b, o, ks⟩ := x.hd
      rw [isz]; omega
    omega
  | succ n ih =>
    intro x y hn h
    obtain ⟨h1, h2⟩ := bis_all hj h
    refine erases_ext h1 fun i hi => near_erase (h2 i hi) fun u v hu hv hr => ih u v ?_ hr
    have hm : x.ks.getD i it0 ∈ x.ks := Abs.getD_mem hi
    have := iszs_mem hm
    obtain ⟨k, q, m, nn, a, he⟩ := below_ks hu
    rw [he, isz] at this
    unfold LL.sz at hn ⊢
    omega

theorem nodup_le {α : Type} [DecidableEq α] : ∀ (l U : List α), l.Nodup → (∀ x ∈ l, x ∈ U) → l.length ≤ U.length
  | [], U, _, _ => by simp
  | x :: l, U, hn, hs => by
    have hx := hs x (by simp)
    obtain ⟨h1, h2⟩ := List.nodup_cons.1 hn
    have := nodup_le l (U.erase x) h2 fun y hy => by
      have hne : y ≠ x := fun e => h1 (e ▸ hy)
      exact (List.mem_erase_of_ne hne).2 (hs y (by simp [hy]))
    rw [List.length_erase_of_mem hx] at this
    have : 0 < U.length := List.length_pos_of_mem hx
    simp only [List.length_cons]
    omega
end Go.Proofs.Ytebgneaehhaclaa.SX
