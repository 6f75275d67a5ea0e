/- Valid types as trees, and what the methods of the program answer on them. -/
import Derived.Test.YtebgneaehhaclaaAbsW3
import Derived.Test.YtebgneaehhaclaaTypesImpl
set_option linter.unusedVariables false
set_option linter.unusedSimpArgs false
namespace Go.Proofs.Ytebgneaehhaclaa
open Go.Abs

inductive VT where
  | num
  | fn (a b : VT)
  | nm (m n : List UInt8)

def vT : VT → TypeId
  | .num => 0
  | .fn _ _ => 0
  | .nm _ _ => 0
def vX : VT → AV
  | .num => .agg []
  | .fn a b => .agg [.iface (vT a) (vX a), .iface (vT b) (vX b)]
  | .nm m n => .agg [.str m, .str n]
def venc (v : VT) : AV := .iface (vT v) (vX v)
def toTy : VT → Ty
  | .num => .mk 1 [] [] []
  | .fn a b => .mk 2 [] [] [toTy a, toTy b]
  | .nm m n => .mk 3 m n []
def dep : VT → Nat
  | .num => 1
  | .fn a b => 1 + max (dep a) (dep b)
  | .nm _ _ => 1
def cnt : VT → Nat
  | .num => 1
  | .fn a b => 1 + cnt a + cnt b
  | .nm _ _ => 1
def nmB (m n : List UInt8) : Bool := (decide (m = []) || moduleB m) && localB n
def okV : VT → Bool
  | .num => true
  | .fn a b => okV a && okV b
  | .nm m n => nmB m n

theorem dep_pos : ∀ v, 1 ≤ dep v
  | .num => by simp [dep]
  | .fn a b => by simp [dep]
  | .nm _ _ => by simp [dep]
theorem cnt_dep : ∀ v, cnt v + 1 ≤ 2 ^ dep v
  | .num => by simp [dep, cnt]
  | .nm _ _ => by simp [dep, cnt]
  | .fn a b => by
    have ha := cnt_dep a
    have hb := cnt_dep b
    have h1 : 2 ^ dep a ≤ 2 ^ max (dep a) (dep b) := Nat.pow_le_pow_right (by decide) (Nat.le_max_left _ _)
    have h2 : 2 ^ dep b ≤ 2 ^ max (dep a) (dep b) := Nat.pow_le_pow_right (by decide) (Nat.le_max_right _ _)
    rw [dep, cnt, Nat.pow_add, Nat.pow_one]
    omega
theorem cnt_lt {v : VT} {k : Nat} (h : dep v ≤ k) : cnt v < 2 ^ k := by
  have := cnt_dep v
  have h2 : 2 ^ dep v ≤ 2 ^ k := Nat.pow_le_pow_right (by decide) h
  omega
theorem count_toTy : ∀ v, count (toTy v) = cnt v
  | .num => by simp [toTy, count, counts, cnt]
  | .nm _ _ => by simp [toTy, count, counts, cnt]
  | .fn a b => by simp [toTy, count, counts, cnt, count_toTy a, count_toTy b]; omega

theorem shape_toTy : ∀ (v : VT) (d : Int), okV v = true → (dep v : Int) ≤ d → shape (toTy v) d = true
  | .num, d, _, h => by
    simp [dep] at h
    simp [toTy, shape, shapes, kidsOf, ownB, h]
  | .nm m n, d, hv, h => by
    simp [dep] at h
    simp [okV, nmB] at hv
    simp [toTy, shape, shapes, kidsOf, ownB, h, hv.1, hv.2]
  | .fn a b, d, hv, h => by
    simp [dep] at h
    simp [okV] at hv
    have ha := shape_toTy a (d - 1) hv.1 (by omega)
    have hb := shape_toTy b (d - 1) hv.2 (by omega)
    simp [toTy, shape, shapes, kidsOf, ownB, ha, hb]
    have := dep_pos a
    omega

theorem shape_of (τ : Ty) : ∀ (d : Int), shape τ d = true → ∃ v, τ = toTy v ∧ okV v = true ∧ (dep v : Int) ≤ d := by
  induction τ using Ty.ind with
  | h k m n ks ih =>
    intro d h
    rw [shape] at h
    simp only [Bool.and_eq_true, decide_eq_true_eq] at h
    obtain ⟨⟨h1, h2, h3⟩, h4⟩ := h
    by_cases k1 : k = 1
    · subst k1
      simp [kidsOf] at h2
      have : ks = [] := by cases ks with
        | nil => rfl
        | cons => simp at h2; omega
      subst this
      simp [ownB] at h3
      obtain ⟨rfl, rfl⟩ := h3
      exact ⟨.num, rfl, rfl, h1⟩
    · by_cases k3 : k = 3
      · subst k3
        simp [kidsOf] at h2
        have : ks = [] := by cases ks with
          | nil => rfl
          | cons => simp at h2; omega
        subst this
        simp [ownB] at h3
        exact ⟨.nm m n, rfl, by simp [okV, nmB, h3.1, h3.2], h1⟩
      · by_cases k2 : k = 2
        · subst k2
          simp [kidsOf] at h2
          match ks, h2, ih, h4 with
          | [a, b], _, ih, h4 =>
            simp [ownB] at h3
            obtain ⟨rfl, rfl⟩ := h3
            simp only [shapes, Bool.and_eq_true] at h4
            obtain ⟨x, rfl, hx1, hx2⟩ := ih a (by simp) _ h4.1
            obtain ⟨y, rfl, hy1, hy2⟩ := ih b (by simp) _ h4.2.1
            refine ⟨.fn x y, rfl, by simp [okV, hx1, hy1], ?_⟩
            simp only [dep]
            omega
          | [], h2, _, _ => simp at h2
          | [_], h2, _, _ => simp at h2
          | _ :: _ :: _ :: _, h2, _, _ => simp at h2; omega
        · simp [kidsOf, k1, k2, k3] at h2; try omega

theorem readO_toTy : ∀ (v : VT) (d : Int), okV v = true → d + dep v ≤ 9 → readO (toTy v) d = (some (vT v, vX v), true)
  | .num, d, _, h => by
    simp [dep] at h
    have : ¬ 8 < d := by omega
    simp [toTy, readO, this, vT, vX]
  | .nm m n, d, hv, h => by
    simp [dep] at h
    simp [okV, nmB] at hv
    have : ¬ 8 < d := by omega
    simp [toTy, readO, this, vT, vX, hv.1, hv.2]
  | .fn a b, d, hv, h => by
    simp [dep] at h
    simp [okV] at hv
    have ha := readO_toTy a (d + 1) hv.1 (by omega)
    have hb := readO_toTy b (d + 1) hv.2 (by omega)
    have := dep_pos a
    have : ¬ 8 < d := by omega
    simp [toTy, readO, readOs, this, vT, vX, ha, hb, pairUp, ifA]

theorem readO_of (τ : Ty) : ∀ (d : Int), (readO τ d).2 = true → ∃ v, τ = toTy v ∧ okV v = true ∧ d + dep v ≤ 9 := by
  induction τ using Ty.ind with
  | h k m n ks ih =>
    intro d h
    rw [readO] at h
    split at h
    · cases h
    · rename_i hd
      split at h
      · rename_i k1
        subst k1
        simp at h
        obtain ⟨⟨rfl, rfl⟩, h⟩ := h
        have : ks = [] := by cases ks with
          | nil => rfl
          | cons => simp at h
        subst this
        exact ⟨.num, rfl, rfl, by simp [dep]; omega⟩
      · split at h
        · rename_i k1 k2
          subst k2
          split at h
          · rename_i hm
            subst hm
            split at h
            · rename_i hn
              subst hn
              match ks, ih, h with
              | [a, b], ih, h =>
                simp only [readOs, pairUp] at h
                have ha : (readO a (d + 1)).2 = true := by
                  generalize readO a (d + 1) = x at h
                  generalize readO b (d + 1) = y at h
                  rcases x with ⟨x, _ | _⟩ <;> simp [pairUp] at h ⊢
                have hb : (readO b (d + 1)).2 = true := by
                  generalize readO a (d + 1) = x at h
                  generalize readO b (d + 1) = y at h
                  rcases x with ⟨x, _ | _⟩ <;> rcases y with ⟨y, _ | _⟩ <;> simp [pairUp] at h ⊢
                obtain ⟨x, rfl, hx1, hx2⟩ := ih a (by simp) _ ha
                obtain ⟨y, rfl, hy1, hy2⟩ := ih b (by simp) _ hb
                refine ⟨.fn x y, rfl, by simp [okV, hx1, hy1], ?_⟩
                simp only [dep]
                omega
              | [], _, h => simp [readOs, pairUp] at h
              | [_], _, h => simp [readOs, pairUp] at h
              | _ :: _ :: _ :: _, _, h => simp [readOs, pairUp] at h
            · cases h
          · cases h
        · split at h
          · rename_i k1 k2 k3
            subst k3
            simp at h
            have : ks = [] := by cases ks with
              | nil => rfl
              | cons => simp at h
            subst this
            exact ⟨.nm m n, rfl, by simp [okV, nmB, h.1.1, h.1.2], by simp [dep]; omega⟩
          · cases h

/-- a valid type -/
structure VOk (v : VT) : Prop where
  ok : okV v = true
  dep : dep v ≤ 8
  cnt : cnt v ≤ 63

theorem validB_toTy {v : VT} (h : VOk v) : validB (toTy v) = true := by
  have := h.dep
  rw [validB, shape_toTy v 8 h.ok (by omega), count_toTy, decide_eq_true h.cnt]
  rfl
theorem validB_of {τ : Ty} (h : validB τ = true) : ∃ v, τ = toTy v ∧ VOk v := by
  simp only [validB, Bool.and_eq_true, decide_eq_true_eq] at h
  obtain ⟨v, rfl, h1, h2⟩ := shape_of τ 8 h.1
  rw [count_toTy] at h
  exact ⟨v, rfl, h1, by omega, h.2⟩
theorem valid_cases (τ : Ty) : (∃ v, τ = toTy v ∧ VOk v) ∨ validB τ = false := by
  cases h : validB τ with
  | true => exact .inl (validB_of h)
  | false => exact .inr rfl

theorem frzC_vX (v : VT) (A : List Box) : frzC (vX v) A = some (vX v, A) := by cases v <;> rfl
theorem frzC_venc (v : VT) (A : List Box) : frzC (venc v) A = some (venc v, A) := rfl
theorem whole_vX (v : VT) : isWhole (vX v) = true := by cases v <;> rfl

/-- the functions of a method -/
def pickF (x y z : FuncId) : VT → FuncId
  | .num => x
  | .fn _ _ => y
  | .nm _ _ => z
structure Met (name : String) (gs : VT → FuncId) : Prop where
  find : ∀ v, methA Try.prog (vT v) name = some (gs v)
  call : ∀ v, callable Try.prog (gs v) = true
theorem met3 {name : String} {x y z : FuncId} (h1 : methA Try.prog 0 name = some x) (h2 : methA Try.prog 0 name = some y) (h3 : methA Try.prog 0 name = some z)
    (c1 : callable Try.prog x = true) (c2 : callable Try.prog y = true) (c3 : callable Try.prog z = true) : Met name (pickF x y z) :=
  ⟨fun v => match v with
    | .num => h1
    | .fn _ _ => h2
    | .nm _ _ => h3,
   fun v => match v with
    | .num => c1
    | .fn _ _ => c2
    | .nm _ _ => c3⟩

theorem meth_invK {own ow : FuncId → Bool} {name : String} {gs : VT → FuncId} {v : VT} {args args' : List AV} {A A1 : List Box} {R : AV → List Box → Prop} {N : Nat} {ops : Array Oper} {Q : Env → List Box → Prop} {rest : List Oper} {d : Option Tmp} {e : Env}
    (hm : Met name gs) (h : ACalls Try.prog (gs v) (vX v :: args') A1 R) (hf : frzs args A = some (args', A1)) (ho : ∀ g, own g = false)
    (hk : ∀ r A', R r A' → wpO Try.prog ow N ops Q rest (putA N d r e) A') : InvK Try.prog own name (.iface (vT v) (vX v)) args A (ContO Try.prog ow N ops Q rest d e) := by
  have h1 := hm.find v
  have h2 := hm.call v
  generalize gs v = g at h h1 h2
  refine ⟨g, h1, h2, callK_intro (args' := vX v :: args') (A1 := A1) ?_ h hk (ho g)⟩
  simp only [frzs, frzC_vX, hf]

theorem meth_invD {own : FuncId → Bool} {name : String} {gs : VT → FuncId} {v : VT} {args args' : List AV} {A : List Box} {x : AV} {N : Nat} {ops : Array Oper} {Q : Env → Prop} {rest : List Oper} {d : Option Tmp} {e : Env}
    (hm : Met name gs) (h : ACalls Try.prog (gs v) (vX v :: args') A (fun v' A' => v' = x ∧ A' = A)) (hf : frzs args A = some (args', A)) (ho : ∀ g, own g = false)
    (hk : wpD Try.prog own N ops A Q rest (putA N d x e)) : InvD Try.prog own name (.iface (vT v) (vX v)) args A N ops Q rest d e := by
  have h1 := hm.find v
  have h2 := hm.call v
  generalize gs v = g at h h1 h2
  refine ⟨g, h1, h2, callD_intro (args' := vX v :: args') ?_ h hk (ho g)⟩
  simp only [frzs, frzC_vX, hf]
end Go.Proofs.Ytebgneaehhaclaa
