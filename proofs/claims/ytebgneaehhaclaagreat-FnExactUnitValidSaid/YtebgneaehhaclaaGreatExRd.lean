/- How the program reads an expression, as a function. -/
import Derived.Test.YtebgneaehhaclaaGreatExVal
set_option linter.unusedVariables false
set_option linter.unusedSimpArgs false
namespace Go.Proofs.YtebgneaehhaclaaGreat
open Go.Abs

def vtE : VE → TypeId
  | .var _ => 290
  | .num _ => 291
  | .nm _ _ => 292
  | .fn _ _ => 295
  | .app _ _ => 297
  | .add _ _ => 299
  | .ite _ _ _ => 301
def vxE : VE → AV
  | .var i => .agg [.int .i64 i]
  | .num i => .agg [.int .i64 i]
  | .nm m n => .agg [.str m, .str n]
  | .fn t b => .agg [.iface (vT t) (vX t), .iface (vtE b) (vxE b)]
  | .app a b => .agg [.iface (vtE a) (vxE a), .iface (vtE b) (vxE b)]
  | .add a b => .agg [.iface (vtE a) (vxE a), .iface (vtE b) (vxE b)]
  | .ite c a b => .agg [.iface (vtE c) (vxE c), .iface (vtE a) (vxE a), .iface (vtE b) (vxE b)]
def ifE (v : VE) : AV := .iface (vtE v) (vxE v)
def rowsV (vs : List VE) : List (List AV) := vs.map fun v => [ifE v]
theorem rowsV_length (vs : List VE) : (rowsV vs).length = vs.length := by simp [rowsV]

noncomputable def rdT (t : Ty) : AV × Option VT := by
  classical
  exact if h : ∃ v, t = toTy v ∧ VOk v then (.iface (vT h.choose) (vX h.choose), some h.choose) else (.nili, none)
theorem rdT_toTy {v : VT} (h : VOk v) : rdT (toTy v) = (.iface (vT v) (vX v), some v) := by
  have hh : ∃ u, toTy v = toTy u ∧ VOk u := ⟨v, rfl, h⟩
  have e : hh.choose = v := (toTy_inj' hh.choose_spec.1).symm
  unfold rdT
  rw [dif_pos hh, e]
theorem rdT_bad {t : Ty} (h : validB t = false) : rdT t = (.nili, none) := by
  have hh : ¬ ∃ u, t = toTy u ∧ VOk u := by
    rintro ⟨u, rfl, hu⟩
    rw [validB_toTy hu] at h; cases h
  unfold rdT
  rw [dif_neg hh]

def opc (k : Int) : Int := if k = 1 then 0 else if k = 2 then 0 else if k = 3 then 0 else if k = 4 then 1 else if k = 5 then 2 else if k = 6 then 2 else if k = 7 then 3 else -1
noncomputable def zeroX (k i : Int) (m n : List UInt8) (t : Ty) : Bool :=
  ((decide (k = 1) || decide (k = 2)) || decide (i = 0)) && (decide (k = 3) || decide (m = [])) && (decide (k = 3) || decide (n = [])) && (decide (k = 4) || decide (t = ty0))
noncomputable def headX (k i : Int) (m n : List UInt8) (t : Ty) (vs : List VE) : AV × Option VE :=
  if k = 1 then (.iface 290 (.agg [.int .i64 i]), if 0 ≤ i ∧ i ≤ 12 then some (.var i) else none)
  else if k = 2 then (.iface 291 (.agg [.int .i64 i]), if 0 ≤ i ∧ i ≤ 99 then some (.num i) else none)
  else if k = 3 then (.iface 292 (.agg [.str m, .str n]), if ((decide (m = []) || moduleB m) && localB n) = true then some (.nm m n) else none)
  else if k = 4 then (.iface 295 (.agg [(rdT t).1, ifE (vs.getD 0 (.num 0))]), (rdT t).2.map fun u => .fn u (vs.getD 0 (.num 0)))
  else if k = 5 then (.iface 297 (.agg [ifE (vs.getD 0 (.num 0)), ifE (vs.getD 1 (.num 0))]), some (.app (vs.getD 0 (.num 0)) (vs.getD 1 (.num 0))))
  else if k = 6 then (.iface 299 (.agg [ifE (vs.getD 0 (.num 0)), ifE (vs.getD 1 (.num 0))]), some (.add (vs.getD 0 (.num 0)) (vs.getD 1 (.num 0))))
  else if k = 7 then (.iface 301 (.agg [ifE (vs.getD 0 (.num 0)), ifE (vs.getD 1 (.num 0)), ifE (vs.getD 2 (.num 0))]), some (.ite (vs.getD 0 (.num 0)) (vs.getD 1 (.num 0)) (vs.getD 2 (.num 0))))
  else (.nili, none)
/-- a node, whose kids were read -/
noncomputable def fin (k i : Int) (m n : List UInt8) (t : Ty) (r : Option (List VE) × Int) : (AV × Option VE) × Int :=
  match r.1 with
  | none => ((.nili, none), r.2)
  | some vs => if (vs.length : Int) = opc k then (headX k i m n t vs, r.2) else ((.nili, none), r.2)
noncomputable def next (r : (AV × Option VE) × Int) (s : Option (List VE) × Int) : Option (List VE) × Int :=
  match r.1.2 with
  | none => (none, r.2)
  | some v => match s.1 with
    | none => (none, s.2)
    | some vs => (some (v :: vs), s.2)
mutual
noncomputable def readX : Ex → Int → Int → (AV × Option VE) × Int
  | .mk k i m n t ks, d, c =>
    if (decide (c + 1 ≤ 400) && decide (d ≤ 40) && zeroX k i m n t) = false then ((.nili, none), c + 1)
    else if opc k < ks.length then ((.nili, none), c + 1)
    else fin k i m n t (readXs ks (d + 1) (c + 1))
noncomputable def readXs : List Ex → Int → Int → Option (List VE) × Int
  | [], _, c => (some [], c)
  | x :: l, d, c => next (readX x d c) (readXs l d (readX x d c).2)
end

theorem readX_of (x : Ex) : ∀ (d c : Int) (v : VE), 0 ≤ c → (readX x d c).1.2 = some v → x = toX v ∧ okE v ∧ d + depE v ≤ 41 ∧ c + cntE v ≤ 400 ∧ readX x d c = ((ifE v, some v), c + cntE v) := by
  induction x using Ex.ind with
  | h k i m n t ks ih =>
    have hs : ∀ (l : List Ex), (∀ x ∈ l, x ∈ ks) → ∀ (d c : Int) (vs : List VE), 0 ≤ c → (readXs l d c).1 = some vs → l = vs.map toX ∧ (∀ v ∈ vs, okE v ∧ d + depE v ≤ 41) ∧ (readXs l d c).2 = c + (vs.map cntE).sum ∧ (vs = [] ∨ c + (vs.map cntE).sum ≤ 400) := by
      intro l
      induction l with
      | nil => intro _ d c vs hc h; simp only [readXs, Option.some.injEq] at h; subst h; simp [readXs]
      | cons x l ihl =>
        intro hm d c vs hc h
        rw [readXs, next] at h
        cases h1 : (readX x d c).1.2 with
        | none => rw [h1] at h; cases h
        | some v =>
          rw [h1] at h
          simp only at h
          obtain ⟨a1, a2, a3, a4, a5⟩ := ih x (hm x (by simp)) d c v hc h1
          have hc2 : (readX x d c).2 = c + cntE v := by rw [a5]
          cases h2 : (readXs l d (readX x d c).2).1 with
          | none => rw [h2] at h; cases h
          | some us =>
            rw [h2] at h
            simp only [Option.some.injEq] at h
            subst h
            obtain ⟨b1, b2, b3, b4⟩ := ihl (fun y hy => hm y (by simp [hy])) d _ us (by rw [hc2]; omega) h2
            refine ⟨by rw [List.map_cons, ← a1, ← b1], fun u hu => ?_, ?_, .inr ?_⟩
            · rcases List.mem_cons.1 hu with rfl | hu
              · exact ⟨a2, a3⟩
              · exact b2 u hu
            · rw [readXs, next, h1]
              simp only [h2]
              rw [b3, hc2]; simp; omega
            · rw [hc2] at b4
              rcases b4 with rfl | b4
              · simp; omega
              · simp; omega
    intro d c v hc h
    rw [readX] at h ⊢
    by_cases h1 : (decide (c + 1 ≤ 400) && decide (d ≤ 40) && zeroX k i m n t) = false
    · rw [if_pos h1] at h; cases h
    · rw [if_neg h1] at h ⊢
      by_cases h2 : opc k < ks.length
      · rw [if_pos h2] at h; cases h
      · rw [if_neg h2] at h ⊢
        simp only [Bool.not_eq_false, Bool.and_eq_true, decide_eq_true_eq] at h1
        obtain ⟨⟨g1, g2⟩, g3⟩ := h1
        rw [fin] at h ⊢
        cases h3 : (readXs ks (d + 1) (c + 1)).1 with
        | none => rw [h3] at h; cases h
        | some vs =>
          rw [h3] at h
          simp only at h ⊢
          by_cases h4 : (vs.length : Int) = opc k
          · rw [if_pos h4] at h ⊢
            obtain ⟨b1, b2, b3, b4⟩ := hs ks (fun _ h => h) (d + 1) (c + 1) vs (by omega) h3
            subst b1
            rw [b3]
            simp only at h
            unfold headX at h ⊢
            by_cases k1 : k = 1
            · subst k1
              obtain rfl : vs = [] := by simpa [opc] using h4
              simp only [if_true] at h ⊢
              split at h
              · rename_i hi
                injection h with h; subst h
                simp [zeroX] at g3
                rw [if_pos hi, g3.1.1, g3.1.2, g3.2]
                refine ⟨rfl, hi, by simp only [depE]; omega, by simp only [cntE]; omega, ?_⟩
                simp [ifE, vtE, vxE, cntE]
              · cases h
            by_cases k2 : k = 2
            · subst k2
              obtain rfl : vs = [] := by simpa [opc] using h4
              simp only [if_neg k1, if_true] at h ⊢
              split at h
              · rename_i hi
                injection h with h; subst h
                simp [zeroX] at g3
                rw [if_pos hi, g3.1.1, g3.1.2, g3.2]
                refine ⟨rfl, hi, by simp only [depE]; omega, by simp only [cntE]; omega, ?_⟩
                simp [ifE, vtE, vxE, cntE]
              · cases h
            by_cases k3 : k = 3
            · subst k3
              obtain rfl : vs = [] := by simpa [opc] using h4
              simp only [if_neg k1, if_neg k2, if_true] at h ⊢
              split at h
              · rename_i hi
                injection h with h; subst h
                simp [zeroX] at g3
                rw [if_pos hi, g3.1, g3.2]
                refine ⟨rfl, hi, by simp only [depE]; omega, by simp only [cntE]; omega, ?_⟩
                simp [ifE, vtE, vxE, cntE]
              · cases h
            by_cases k4 : k = 4
            · subst k4
              obtain ⟨b, rfl⟩ : ∃ b, vs = [b] := by
                match vs, h4 with
                | [b], _ => exact ⟨b, rfl⟩
                | [], h4 => simp [opc] at h4
                | _ :: _ :: _, h4 => simp [opc] at h4; omega
              simp only [if_neg k1, if_neg k2, if_neg k3, if_true] at h ⊢
              rcases valid_cases t with ⟨u, rfl, hu⟩ | hn
              · rw [rdT_toTy hu] at h ⊢
                simp only [Option.map_some, Option.some.injEq, List.getD_cons_zero] at h ⊢
                subst h
                have hb := b2 b (by simp)
                simp [zeroX] at g3
                rw [g3.1.1, g3.1.2, g3.2]
                simp at b4
                refine ⟨rfl, ⟨hu, hb.1⟩, by simp only [depE]; omega, by simp only [cntE]; omega, ?_⟩
                simp [ifE, vtE, vxE, cntE]; omega
              · rw [rdT_bad hn] at h; cases h
            by_cases k5 : k = 5
            · subst k5
              obtain ⟨a, b, rfl⟩ : ∃ a b, vs = [a, b] := by
                match vs, h4 with
                | [a, b], _ => exact ⟨a, b, rfl⟩
                | [], h4 => simp [opc] at h4
                | [_], h4 => simp [opc] at h4
                | _ :: _ :: _ :: _, h4 => simp [opc] at h4; omega
              simp only [if_neg k1, if_neg k2, if_neg k3, if_neg k4, if_true, Option.some.injEq, List.getD_cons_zero, List.getD_cons_succ] at h ⊢
              subst h
              have ha := b2 a (by simp)
              have hb := b2 b (by simp)
              simp [zeroX] at g3
              rw [g3.1.1.1, g3.1.1.2, g3.1.2, g3.2]
              simp at b4
              refine ⟨rfl, ⟨ha.1, hb.1⟩, by simp only [depE]; omega, by simp only [cntE]; omega, ?_⟩
              simp [ifE, vtE, vxE, cntE]; omega
            by_cases k6 : k = 6
            · subst k6
              obtain ⟨a, b, rfl⟩ : ∃ a b, vs = [a, b] := by
                match vs, h4 with
                | [a, b], _ => exact ⟨a, b, rfl⟩
                | [], h4 => simp [opc] at h4
                | [_], h4 => simp [opc] at h4
                | _ :: _ :: _ :: _, h4 => simp [opc] at h4; omega
              simp only [if_neg k1, if_neg k2, if_neg k3, if_neg k4, if_neg k5, if_true, Option.some.injEq, List.getD_cons_zero, List.getD_cons_succ] at h ⊢
              subst h
              have ha := b2 a (by simp)
              have hb := b2 b (by simp)
              simp [zeroX] at g3
              rw [g3.1.1.1, g3.1.1.2, g3.1.2, g3.2]
              simp at b4
              refine ⟨rfl, ⟨ha.1, hb.1⟩, by simp only [depE]; omega, by simp only [cntE]; omega, ?_⟩
              simp [ifE, vtE, vxE, cntE]; omega
            by_cases k7 : k = 7
            · subst k7
              obtain ⟨e, a, b, rfl⟩ : ∃ e a b, vs = [e, a, b] := by
                match vs, h4 with
                | [e, a, b], _ => exact ⟨e, a, b, rfl⟩
                | [], h4 => simp [opc] at h4
                | [_], h4 => simp [opc] at h4
                | [_, _], h4 => simp [opc] at h4
                | _ :: _ :: _ :: _ :: _, h4 => simp [opc] at h4; omega
              simp only [if_neg k1, if_neg k2, if_neg k3, if_neg k4, if_neg k5, if_neg k6, if_true, Option.some.injEq, List.getD_cons_zero, List.getD_cons_succ] at h ⊢
              subst h
              have he := b2 e (by simp)
              have ha := b2 a (by simp)
              have hb := b2 b (by simp)
              simp [zeroX] at g3
              rw [g3.1.1.1, g3.1.1.2, g3.1.2, g3.2]
              simp at b4
              refine ⟨rfl, ⟨he.1, ha.1, hb.1⟩, by simp only [depE]; omega, by simp only [cntE]; omega, ?_⟩
              simp [ifE, vtE, vxE, cntE]; omega
            · rw [if_neg k1, if_neg k2, if_neg k3, if_neg k4, if_neg k5, if_neg k6, if_neg k7] at h; cases h
          · rw [if_neg h4] at h; cases h

theorem readX_toX : ∀ (v : VE) (d c : Int), okE v → d + depE v ≤ 41 → 0 ≤ c → c + cntE v ≤ 400 → readX (toX v) d c = ((ifE v, some v), c + cntE v)
  | .var i, d, c, ho, h1, h0, h2 => by
    simp only [okE, depE, cntE] at ho h1 h2
    have g1 : c + 1 ≤ 400 := by omega
    have g2 : d ≤ 40 := by omega
    simp [toX, readX, readXs, zeroX, opc, fin, headX, g1, g2, ho, ifE, vtE, vxE, cntE]
  | .num i, d, c, ho, h1, h0, h2 => by
    simp only [okE, depE, cntE] at ho h1 h2
    have g1 : c + 1 ≤ 400 := by omega
    have g2 : d ≤ 40 := by omega
    simp [toX, readX, readXs, zeroX, opc, fin, headX, g1, g2, ho, ifE, vtE, vxE, cntE]
  | .nm m n, d, c, ho, h1, h0, h2 => by
    simp only [okE, depE, cntE, nmB] at ho h1 h2
    have g1 : c + 1 ≤ 400 := by omega
    have g2 : d ≤ 40 := by omega
    simp [toX, readX, readXs, zeroX, opc, fin, headX, g1, g2, ho, ifE, vtE, vxE, cntE]
  | .fn t b, d, c, ho, h1, h0, h2 => by
    obtain ⟨o1, o2⟩ := ho
    simp only [depE, cntE] at h1 h2
    have g1 : c + 1 ≤ 400 := by omega
    have g2 : d ≤ 40 := by have := depE_pos b; omega
    have hb := readX_toX b (d + 1) (c + 1) o2 (by omega) (by omega) (by omega)
    simp [toX, readX, readXs, next, hb, zeroX, opc, fin, headX, rdT_toTy o1, g1, g2, ifE, vtE, vxE, cntE]
    omega
  | .app a b, d, c, ho, h1, h0, h2 => by
    obtain ⟨o1, o2⟩ := ho
    simp only [depE, cntE] at h1 h2
    have g1 : c + 1 ≤ 400 := by omega
    have g2 : d ≤ 40 := by have := depE_pos b; omega
    have ha := readX_toX a (d + 1) (c + 1) o1 (by omega) (by omega) (by omega)
    have hb := readX_toX b (d + 1) (c + 1 + cntE a) o2 (by omega) (by omega) (by omega)
    simp [toX, readX, readXs, next, ha, hb, zeroX, opc, fin, headX, g1, g2, ifE, vtE, vxE, cntE]
    omega
  | .add a b, d, c, ho, h1, h0, h2 => by
    obtain ⟨o1, o2⟩ := ho
    simp only [depE, cntE] at h1 h2
    have g1 : c + 1 ≤ 400 := by omega
    have g2 : d ≤ 40 := by have := depE_pos b; omega
    have ha := readX_toX a (d + 1) (c + 1) o1 (by omega) (by omega) (by omega)
    have hb := readX_toX b (d + 1) (c + 1 + cntE a) o2 (by omega) (by omega) (by omega)
    simp [toX, readX, readXs, next, ha, hb, zeroX, opc, fin, headX, g1, g2, ifE, vtE, vxE, cntE]
    omega
  | .ite e a b, d, c, ho, h1, h0, h2 => by
    obtain ⟨o0, o1, o2⟩ := ho
    simp only [depE, cntE] at h1 h2
    have g1 : c + 1 ≤ 400 := by omega
    have g2 : d ≤ 40 := by have := depE_pos b; omega
    have he := readX_toX e (d + 1) (c + 1) o0 (by omega) (by omega) (by omega)
    have ha := readX_toX a (d + 1) (c + 1 + cntE e) o1 (by omega) (by omega) (by omega)
    have hb := readX_toX b (d + 1) (c + 1 + cntE e + cntE a) o2 (by omega) (by omega) (by omega)
    simp [toX, readX, readXs, next, he, ha, hb, zeroX, opc, fin, headX, g1, g2, ifE, vtE, vxE, cntE]
    omega
end Go.Proofs.YtebgneaehhaclaaGreat
