/- Valid expressions as data. -/
import Derived.Test.YtebgneaehhaclaaGreatExprs
set_option linter.unusedVariables false
set_option linter.unusedSimpArgs false
namespace Go.Proofs.YtebgneaehhaclaaGreat
open Go.Abs

inductive VE where
  | var (i : Int)
  | num (i : Int)
  | nm (m n : List UInt8)
  | fn (t : VT) (b : VE)
  | app (f a : VE)
  | add (a b : VE)
  | ite (c a b : VE)

def toX : VE → Ex
  | .var i => .mk 1 i [] [] ty0 []
  | .num i => .mk 2 i [] [] ty0 []
  | .nm m n => .mk 3 0 m n ty0 []
  | .fn t b => .mk 4 0 [] [] (toTy t) [toX b]
  | .app f a => .mk 5 0 [] [] ty0 [toX f, toX a]
  | .add a b => .mk 6 0 [] [] ty0 [toX a, toX b]
  | .ite c a b => .mk 7 0 [] [] ty0 [toX c, toX a, toX b]
def depE : VE → Nat
  | .var _ => 1
  | .num _ => 1
  | .nm _ _ => 1
  | .fn _ b => 1 + depE b
  | .app f a => 1 + max (depE f) (depE a)
  | .add a b => 1 + max (depE a) (depE b)
  | .ite c a b => 1 + max (depE c) (max (depE a) (depE b))
def cntE : VE → Nat
  | .var _ => 1
  | .num _ => 1
  | .nm _ _ => 1
  | .fn _ b => 1 + cntE b
  | .app f a => 1 + cntE f + cntE a
  | .add a b => 1 + cntE a + cntE b
  | .ite c a b => 1 + cntE c + cntE a + cntE b
/-- every node has the fields that it should have -/
def okE : VE → Prop
  | .var i => 0 ≤ i ∧ i ≤ 12
  | .num i => 0 ≤ i ∧ i ≤ 99
  | .nm m n => nmB m n = true
  | .fn t b => VOk t ∧ okE b
  | .app f a => okE f ∧ okE a
  | .add a b => okE a ∧ okE b
  | .ite c a b => okE c ∧ okE a ∧ okE b

mutual
def countX : Ex → Nat
  | .mk _ _ _ _ _ ks => 1 + countXs ks
def countXs : List Ex → Nat
  | [] => 0
  | x :: l => countX x + countXs l
end
mutual
theorem countX_sz : ∀ t, countX t ≤ 1 + szX t
  | .mk k i m n t ks => by rw [countX, szX]; have := countXs_sz ks; omega
theorem countXs_sz : ∀ l, countXs l ≤ l.length + szXs l
  | [] => by simp [countXs]
  | t :: l => by rw [countXs, szXs, List.length_cons]; have := countX_sz t; have := countXs_sz l; omega
end
theorem countX_toX : ∀ v, countX (toX v) = cntE v
  | .var _ => by simp [toX, countX, countXs, cntE]
  | .num _ => by simp [toX, countX, countXs, cntE]
  | .nm _ _ => by simp [toX, countX, countXs, cntE]
  | .fn t b => by simp [toX, countX, countXs, cntE, countX_toX b]
  | .app a b => by simp [toX, countX, countXs, cntE, countX_toX a, countX_toX b]; omega
  | .add a b => by simp [toX, countX, countXs, cntE, countX_toX a, countX_toX b]; omega
  | .ite c a b => by simp [toX, countX, countXs, cntE, countX_toX a, countX_toX b, countX_toX c]; omega

def kidsX (k : Int) : Int := if k = 1 then 0 else if k = 2 then 0 else if k = 3 then 0 else if k = 4 then 1 else if k = 5 then 2 else if k = 6 then 2 else if k = 7 then 3 else -1
noncomputable def ownX (k i : Int) (m n : List UInt8) (t : Ty) : Bool :=
  if k = 3 then decide (i = 0) && decide (t = ty0) && localB n && (decide (m = []) || moduleB m)
  else decide (m = []) && decide (n = []) && (if k = 1 then decide (0 ≤ i) && decide (i ≤ 12) && decide (t = ty0) else if k = 2 then decide (0 ≤ i) && decide (i ≤ 99) && decide (t = ty0)
    else if k = 4 then decide (i = 0) && validB t else decide (i = 0) && decide (t = ty0))
mutual
noncomputable def shapeX : Ex → Int → Bool
  | .mk k i m n t ks, d => decide (1 ≤ d) && (decide (kidsX k = ks.length) && ownX k i m n t) && shapeXs ks (d - 1)
noncomputable def shapeXs : List Ex → Int → Bool
  | [], _ => true
  | x :: l, d => shapeX x d && shapeXs l d
end
theorem shapeXs_take {l : List Ex} {i : Nat} (h : i < l.length) (d : Int) : shapeXs (l.take (i + 1)) d = (shapeXs (l.take i) d && shapeX (l.getD i ex0) d) := by
  induction l generalizing i with
  | nil => simp at h
  | cons t l ih =>
    cases i with
    | zero => simp [shapeXs, List.getD]
    | succ i =>
      have := ih (i := i) (by simpa using h)
      simp only [List.take_succ_cons, shapeXs, List.getD_cons_succ] at this ⊢
      rw [this, Bool.and_assoc]
theorem shapeXs_false {l : List Ex} {i : Nat} {d : Int} (h : i < l.length) (hs : shapeX (l.getD i ex0) d = false) : shapeXs l d = false := by
  induction l generalizing i with
  | nil => simp at h
  | cons t l ih =>
    rw [shapeXs]
    cases i with
    | zero => have : shapeX t d = false := hs; rw [this]; rfl
    | succ i => rw [ih (i := i) (by simpa using h) (by simpa using hs)]; simp

theorem depE_pos : ∀ v, 1 ≤ depE v
  | .var _ | .num _ | .nm _ _ => by simp [depE]
  | .fn _ _ | .app _ _ | .add _ _ | .ite _ _ _ => by simp [depE]
theorem cntE_pos : ∀ v, 1 ≤ cntE v
  | .var _ | .num _ | .nm _ _ => by simp [cntE]
  | .fn _ _ | .app _ _ | .add _ _ | .ite _ _ _ => by simp [cntE]; try omega
theorem depE_cnt : ∀ v, depE v ≤ cntE v
  | .var _ | .num _ | .nm _ _ => by simp [depE, cntE]
  | .fn _ b => by have := depE_cnt b; simp [depE, cntE]; omega
  | .app a b | .add a b => by have := depE_cnt a; have := depE_cnt b; simp [depE, cntE]; omega
  | .ite c a b => by have := depE_cnt a; have := depE_cnt b; have := depE_cnt c; simp [depE, cntE]; omega

theorem shapeX_toX : ∀ (v : VE) (d : Int), okE v → (depE v : Int) ≤ d → shapeX (toX v) d = true
  | .var i, d, hv, h => by
    simp only [depE] at h; obtain ⟨h1, h2⟩ := hv
    simp [toX, shapeX, shapeXs, kidsX, ownX, h1, h2]; omega
  | .num i, d, hv, h => by
    simp only [depE] at h; obtain ⟨h1, h2⟩ := hv
    simp [toX, shapeX, shapeXs, kidsX, ownX, h1, h2]; omega
  | .nm m n, d, hv, h => by
    simp only [depE] at h
    simp [okE, nmB] at hv
    simp [toX, shapeX, shapeXs, kidsX, ownX, hv.1, hv.2]; omega
  | .fn t b, d, hv, h => by
    simp only [depE] at h; obtain ⟨h1, h2⟩ := hv
    have hb := shapeX_toX b (d - 1) h2 (by omega)
    simp [toX, shapeX, shapeXs, kidsX, ownX, hb, validB_toTy h1]; omega
  | .app a b, d, hv, h => by
    simp only [depE] at h; obtain ⟨h1, h2⟩ := hv
    have ha := shapeX_toX a (d - 1) h1 (by omega)
    have hb := shapeX_toX b (d - 1) h2 (by omega)
    simp [toX, shapeX, shapeXs, kidsX, ownX, ha, hb]; omega
  | .add a b, d, hv, h => by
    simp only [depE] at h; obtain ⟨h1, h2⟩ := hv
    have ha := shapeX_toX a (d - 1) h1 (by omega)
    have hb := shapeX_toX b (d - 1) h2 (by omega)
    simp [toX, shapeX, shapeXs, kidsX, ownX, ha, hb]; omega
  | .ite c a b, d, hv, h => by
    simp only [depE] at h; obtain ⟨h0, h1, h2⟩ := hv
    have hc := shapeX_toX c (d - 1) h0 (by omega)
    have ha := shapeX_toX a (d - 1) h1 (by omega)
    have hb := shapeX_toX b (d - 1) h2 (by omega)
    simp [toX, shapeX, shapeXs, kidsX, ownX, ha, hb, hc]; omega

theorem len0 {l : List Ex} (h : (0 : Int) = l.length) : l = [] := List.length_eq_zero_iff.1 (by omega)
theorem len1 {l : List Ex} (h : (1 : Int) = l.length) : ∃ a, l = [a] := by
  match l, h with
  | [a], _ => exact ⟨a, rfl⟩
  | [], h => simp at h
  | _ :: _ :: _, h => simp at h; omega
theorem len2 {l : List Ex} (h : (2 : Int) = l.length) : ∃ a b, l = [a, b] := by
  match l, h with
  | [a, b], _ => exact ⟨a, b, rfl⟩
  | [], h => simp at h
  | [_], h => simp at h
  | _ :: _ :: _ :: _, h => simp at h; omega
theorem len3 {l : List Ex} (h : (3 : Int) = l.length) : ∃ a b c, l = [a, b, c] := by
  match l, h with
  | [a, b, c], _ => exact ⟨a, b, c, rfl⟩
  | [], h => simp at h
  | [_], h => simp at h
  | [_, _], h => simp at h
  | _ :: _ :: _ :: _ :: _, h => simp at h; omega

theorem shapeX_of (x : Ex) : ∀ (d : Int), shapeX x d = true → ∃ v, x = toX v ∧ okE v ∧ (depE v : Int) ≤ d := by
  induction x using Ex.ind with
  | h k i m n t ks ih =>
    intro d h
    rw [shapeX] at h
    simp only [Bool.and_eq_true, decide_eq_true_eq] at h
    obtain ⟨⟨h1, h2, h3⟩, h4⟩ := h
    by_cases k1 : k = 1
    · subst k1
      simp only [kidsX, if_true] at h2
      obtain rfl := len0 h2
      simp [ownX] at h3
      obtain ⟨⟨rfl, rfl⟩, ⟨h5, h6⟩, rfl⟩ := h3
      exact ⟨.var i, rfl, ⟨h5, h6⟩, h1⟩
    by_cases k2 : k = 2
    · subst k2
      simp [kidsX] at h2
      obtain rfl := len0 h2
      simp [ownX] at h3
      obtain ⟨⟨rfl, rfl⟩, ⟨h5, h6⟩, rfl⟩ := h3
      exact ⟨.num i, rfl, ⟨h5, h6⟩, h1⟩
    by_cases k3 : k = 3
    · subst k3
      simp [kidsX] at h2
      obtain rfl := len0 h2
      simp [ownX] at h3
      obtain ⟨⟨⟨rfl, rfl⟩, h5⟩, h6⟩ := h3
      exact ⟨.nm m n, rfl, by simp [okE, nmB, h5, h6], h1⟩
    by_cases k4 : k = 4
    · subst k4
      simp [kidsX] at h2
      obtain ⟨b, rfl⟩ := len1 h2
      simp [ownX] at h3
      obtain ⟨⟨rfl, rfl⟩, rfl, h5⟩ := h3
      rcases valid_cases t with ⟨u, rfl, hu⟩ | hn
      · simp only [shapeXs, Bool.and_true] at h4
        obtain ⟨v, rfl, v1, v2⟩ := ih b (by simp) _ h4
        exact ⟨.fn u v, rfl, ⟨hu, v1⟩, by simp only [depE]; omega⟩
      · rw [hn] at h5; cases h5
    by_cases k5 : k = 5
    · subst k5
      simp [kidsX] at h2
      obtain ⟨a, b, rfl⟩ := len2 h2
      simp [ownX] at h3
      obtain ⟨⟨rfl, rfl⟩, rfl, rfl⟩ := h3
      simp only [shapeXs, Bool.and_true, Bool.and_eq_true] at h4
      obtain ⟨u, rfl, u1, u2⟩ := ih a (by simp) _ h4.1
      obtain ⟨v, rfl, v1, v2⟩ := ih b (by simp) _ h4.2
      exact ⟨.app u v, rfl, ⟨u1, v1⟩, by simp only [depE]; omega⟩
    by_cases k6 : k = 6
    · subst k6
      simp [kidsX] at h2
      obtain ⟨a, b, rfl⟩ := len2 h2
      simp [ownX] at h3
      obtain ⟨⟨rfl, rfl⟩, rfl, rfl⟩ := h3
      simp only [shapeXs, Bool.and_true, Bool.and_eq_true] at h4
      obtain ⟨u, rfl, u1, u2⟩ := ih a (by simp) _ h4.1
      obtain ⟨v, rfl, v1, v2⟩ := ih b (by simp) _ h4.2
      exact ⟨.add u v, rfl, ⟨u1, v1⟩, by simp only [depE]; omega⟩
    by_cases k7 : k = 7
    · subst k7
      simp [kidsX] at h2
      obtain ⟨c, a, b, rfl⟩ := len3 h2
      simp [ownX] at h3
      obtain ⟨⟨rfl, rfl⟩, rfl, rfl⟩ := h3
      simp only [shapeXs, Bool.and_true, Bool.and_eq_true] at h4
      obtain ⟨w, rfl, w1, w2⟩ := ih c (by simp) _ h4.1
      obtain ⟨u, rfl, u1, u2⟩ := ih a (by simp) _ h4.2.1
      obtain ⟨v, rfl, v1, v2⟩ := ih b (by simp) _ h4.2.2
      exact ⟨.ite w u v, rfl, ⟨w1, u1, v1⟩, by simp only [depE]; omega⟩
    · exfalso
      simp [kidsX, k1, k2, k3, k4, k5, k6, k7] at h2
      try omega

mutual
/-- nodes, counted up to a number -/
def cntU : Ex → Int → Int
  | .mk _ _ _ _ _ ks, most => cntUs ks most 1
def cntUs : List Ex → Int → Int → Int
  | [], _, n => n
  | x :: l, most, n => if n ≤ most then cntUs l most (n + cntU x (most - n)) else n
end
theorem cntUs_stop (l : List Ex) (most n : Int) (h : most < n) : cntUs l most n = n := by
  cases l with
  | nil => rfl
  | cons x l => rw [cntUs, if_neg (by omega)]
mutual
theorem cntU_is : ∀ (x : Ex) (most : Int), 0 ≤ most → 1 ≤ cntU x most ∧ cntU x most ≤ countX x ∧ ((countX x : Int) ≤ most → cntU x most = countX x) ∧ (most < countX x → most < cntU x most)
  | .mk _ _ _ _ _ ks, most, h => by
    have := cntUs_is ks most 1 (by omega) (by omega)
    simp only [countX, cntU]
    refine ⟨by omega, by omega, fun hh => ?_, fun hh => ?_⟩
    · rw [this.2.2.1 (by omega)]; omega
    · exact this.2.2.2 (by omega)
theorem cntUs_is : ∀ (l : List Ex) (most n : Int), 0 ≤ most → 0 ≤ n → n ≤ cntUs l most n ∧ cntUs l most n ≤ n + countXs l ∧ (n + countXs l ≤ most → cntUs l most n = n + countXs l) ∧ (most < n + countXs l → most < cntUs l most n)
  | [], most, n, h, hn => by simp [cntUs, countXs]
  | x :: l, most, n, h, hn => by
    rw [cntUs, countXs]
    by_cases hh : n ≤ most
    · rw [if_pos hh]
      obtain ⟨a1, a2, a3, a4⟩ := cntU_is x (most - n) (by omega)
      obtain ⟨b1, b2, b3, b4⟩ := cntUs_is l most (n + cntU x (most - n)) h (by omega)
      refine ⟨by omega, by omega, fun q => ?_, fun q => ?_⟩
      · have := a3 (by omega)
        rw [b3 (by omega), this]; omega
      · by_cases hq : (countX x : Int) ≤ most - n
        · have := a3 hq
          exact b4 (by omega)
        · have := a4 (by omega)
          omega
    · rw [if_neg hh]
      omega
end

noncomputable def validX (x : Ex) : Bool := shapeX x 40 && decide (countX x ≤ 400)
structure EOk (v : VE) : Prop where
  ok : okE v
  dep : depE v ≤ 40
  cnt : cntE v ≤ 400
theorem validX_toX {v : VE} (h : EOk v) : validX (toX v) = true := by
  rw [validX, shapeX_toX v 40 h.ok (by have := h.dep; omega), countX_toX, decide_eq_true h.cnt]; rfl
theorem validX_cases (x : Ex) : (∃ v, x = toX v ∧ EOk v) ∨ validX x = false := by
  cases h : validX x with
  | false => exact .inr rfl
  | true =>
    left
    rw [validX, Bool.and_eq_true, decide_eq_true_eq] at h
    obtain ⟨v, rfl, h1, h2⟩ := shapeX_of x 40 h.1
    rw [countX_toX] at h
    exact ⟨v, rfl, h1, by omega, h.2⟩
theorem toTy_inj' : ∀ {v v' : VT}, toTy v = toTy v' → v = v'
  | .num, .num, _ => rfl
  | .num, .nm _ _, h => by simp [toTy] at h
  | .num, .fn _ _, h => by simp [toTy] at h
  | .nm _ _, .num, h => by simp [toTy] at h
  | .nm _ _, .fn _ _, h => by simp [toTy] at h
  | .fn _ _, .num, h => by simp [toTy] at h
  | .fn _ _, .nm _ _, h => by simp [toTy] at h
  | .nm m n, .nm m' n', h => by simp [toTy] at h; rw [h.1, h.2]
  | .fn a b, .fn a' b', h => by
    simp [toTy] at h
    rw [toTy_inj' h.1, toTy_inj' h.2]
theorem toX_inj : ∀ {v v' : VE}, toX v = toX v' → v = v'
  | .var _, v', h => by cases v' <;> simp [toX] at h; rw [h]
  | .num _, v', h => by cases v' <;> simp [toX] at h; rw [h]
  | .nm _ _, v', h => by cases v' <;> simp [toX] at h; rw [h.1, h.2]
  | .fn t b, v', h => by
    cases v' <;> simp [toX] at h
    rw [toTy_inj' h.1, toX_inj h.2]
  | .app a b, v', h => by
    cases v' <;> simp [toX] at h
    rw [toX_inj h.1, toX_inj h.2]
  | .add a b, v', h => by
    cases v' <;> simp [toX] at h
    rw [toX_inj h.1, toX_inj h.2]
  | .ite c a b, v', h => by
    cases v' <;> simp [toX] at h
    rw [toX_inj h.1, toX_inj h.2.1, toX_inj h.2.2]
end Go.Proofs.YtebgneaehhaclaaGreat
