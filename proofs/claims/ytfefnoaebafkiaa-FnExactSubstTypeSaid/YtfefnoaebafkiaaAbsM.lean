/- Calls, regions, code. -/
import Derived.Test.YtfefnoaebafkiaaAbsL
set_option linter.unusedVariables false
set_option linter.unusedSimpArgs false
namespace Go.Abs
open Go.RowKit

/-- A call, on what its arguments stand for. -/
def ACalls (P : Program) (f : FuncId) (args : List AV) (A : List Box) (R : AV → List Box → Prop) : Prop :=
  ∀ (G : Ghost) (w : World) (base : Nat) (xs : Array Value), HRel G A w base → RL G w args xs.toList →
    Calls P f xs w fun e w' => ∃ x v A' G', e = .returned x ∧ R v A' ∧ RV G' w' v x ∧ HRel G' A' w' base ∧ Ext G w G' w' ∧ Below base w w'

theorem ACalls.mono {P : Program} {f : FuncId} {args : List AV} {A : List Box} {R R' : AV → List Box → Prop} (h : ACalls P f args A R) (hr : ∀ v A', R v A' → R' v A') : ACalls P f args A R' :=
  fun G w base xs h1 h2 => (h G w base xs h1 h2).mono fun e w' ⟨x, v, A', G', a1, a2, a3⟩ => ⟨x, v, A', G', a1, hr v A' a2, a3⟩

def callable (P : Program) (g : FuncId) : Bool :=
  match P.funcs[g]? with
  | some fn => fn.name != "runtime.NumGoroutine" && fn.body.isSome
  | none => false

theorem callFunc_run {P : Program} {g : FuncId} {xs : Array Value} {w : World} (h : callable P g = true) : (callFunc g xs).run P w = .ok (.enter g xs) w := by
  unfold callable at h
  split at h
  · rename_i fn hf
    simp only [Bool.and_eq_true, bne_iff_ne, ne_eq] at h
    cases hb : fn.body with
    | none => rw [hb] at h; simp at h
    | some cd => simp [callFunc, hf, h.1, hb, Result.andThen]
  · cases h

def callTarget (P : Program) (op : Op) (vs : List AV) : Option (FuncId × List AV) :=
  match op, vs with
  | .call ⟨.value _, _, _⟩, .func (.func g) first captured :: args => if callable P g = true then some (g, first ++ args ++ captured) else none
  | .call ⟨.invoke _ name, _, _⟩, .iface t v :: args => match methA P t name with
    | some g => if callable P g = true then some (g, v :: args) else none
    | none => none
  | _, _ => none

def CallK (P : Program) (own : FuncId → Bool) (g : FuncId) (args : List AV) (A : List Box) (K : AV → List Box → Prop) : Prop :=
  if own g = true then ACalls P g args A K else (∃ args' A1, frzs args A = some (args', A1) ∧ ACalls P g args' A1 K) ∨ ACalls P g args A K

def OpK (P : Program) (own : FuncId → Bool) (o : Oper) (vs : List AV) (A : List Box) (K : AV → List Box → Prop) : Prop :=
  match callTarget P o.op vs with
  | some (g, args) => CallK P own g args A K
  | none => match astep P o.op vs A with
    | some (c, v, A') => c ∧ K v A'
    | none => False

theorem RL.append {G : Ghost} {w : World} {vs us : List AV} {xs ys : List Value} (h : RL G w vs xs) (k : RL G w us ys) : RL G w (vs ++ us) (xs ++ ys) := by
  induction vs generalizing xs with
  | nil => cases xs with
    | nil => simpa using k
    | cons x xs => have := h.1; simp at this
  | cons v vs ih => cases xs with
    | nil => have := h.1; simp at this
    | cons x xs => simpa using .cons h.head (ih h.tail)

theorem methA_run {P : Program} {t : TypeId} {name : String} {g : FuncId} {v : Value} {w : World} {n : Nat} (h : methA P t name = some g) : (method (n + 1) t v name).run P w = .ok (g, v) w := by
  unfold methA at h
  split at h <;> try cases h
  rename_i i d h1 h2
  split at h <;> try cases h
  rename_i m hm
  have hti : (typeInfo t).run P w = .ok i w := by simp [typeInfo, h1]
  split at h <;> try cases h
  · rename_i e hf hp
    simp [method, hti, Result.andThen, hm, hp, follow, hf, receiverAt, run_underlying h2, Place.get]
  · rename_i d1 x2 x1 d0 hp0 hnp hf0
    have : ∀ x wr, (receiverAt t (.val x) false wr).run P w = .ok x w := fun x wr => by
      cases d1 <;> first | (exact absurd rfl (hnp _)) | simp [receiverAt, run_underlying h2, Result.andThen, Place.get]
    simp [method, hti, Result.andThen, hm, hp0, follow, hf0, this]

theorem OpK_ok {P : Program} {own : FuncId → Bool} {o : Oper} {vs : List AV} {A : List Box} {K : AV → List Box → Prop} {a : Act} {w : World} {G : Ghost} {base : Nat} {next : Act → World → Prop} {Q : Exit → Act → World → Prop}
    (hk : OpK P own o vs A K) (hv : RL G w vs (o.op.operands.toList.map a.eval)) (h : HRel G A w base)
    (hn : ∀ v A' x w' G', K v A' → RV G' w' v x → HRel G' A' w' base → Ext G w G' w' → Below base w w' → next (a.put o.dst x) w') : o.wp P a w next Q := by
  have go : ∀ g args (xs : Array Value), CallK P own g args A K → RL G w args xs.toList → (execOp a.eval o).run P w = .ok (.enter g xs) w → o.wp P a w next Q := fun g args xs hc hx hr => by
    unfold Oper.wp
    rw [hr, Oper.upon_enter]
    unfold CallK at hc
    split at hc
    · exact (hc G w base xs h hx).mono fun e w' ⟨x, v, A', G', e1, e2, e3, e4, e5, e6⟩ => by subst e1; exact hn v A' x w' G' e2 e3 e4 e5 e6
    · rcases hc with ⟨args', A1, hf, hc⟩ | hc
      · obtain ⟨G1, k1, k2, k3⟩ := frzs_ok h hx hf
        exact (hc G1 w base xs k1 k3).mono fun e w' ⟨x, v, A', G', e1, e2, e3, e4, e5, e6⟩ => by subst e1; exact hn v A' x w' G' e2 e3 e4 (k2.trans e5) e6
      · exact (hc G w base xs h hx).mono fun e w' ⟨x, v, A', G', e1, e2, e3, e4, e5, e6⟩ => by subst e1; exact hn v A' x w' G' e2 e3 e4 e5 e6
  unfold OpK at hk
  split at hk
  · rename_i g args hct
    unfold callTarget at hct
    split at hct <;> try cases hct
    · rename_i f as ts g' first captured args0 hop
      split at hct <;> try cases hct
      rename_i hca
      rw [hop] at hv
      simp [Op.operands, Call.operands] at hv
      have hf := hv.head
      generalize hq : a.eval f = fv at hf
      cases hf with
      | func _ _ _ ys zs hs ht hh hh' =>
        refine go g _ (ys ++ as.map a.eval ++ zs) hk ?_ ?_
        · have h1 := RL.ofArr hs hh
          have h2 := RL.ofArr ht hh'
          have := (h1.append hv.tail).append h2
          simpa using this
        · unfold execOp
          simp only [hop]
          simp [resolve, Deferred.ofValue, hq, invoke, Result.andThen]
          exact callFunc_run hca
    · rename_i r name as ts t v args0 hop
      split at hct <;> try cases hct
      rename_i g' hm
      split at hct <;> try cases hct
      rename_i hca
      rw [hop] at hv
      simp [Op.operands, Call.operands] at hv
      have hf := hv.head
      generalize hq : a.eval r = fv at hf
      cases hf with
      | iface _ _ x hw hx =>
        refine go g _ (#[x] ++ as.map a.eval) hk ?_ ?_
        · have := RL.cons hx hv.tail
          simpa using this
        · unfold execOp
          simp only [hop]
          have hmr := methA_run (P := P) (w := w) (v := x) (n := P.types.size + Made.depth - 1) hm
          have hd : P.types.size + Made.depth - 1 + 1 = P.types.size + Made.depth := by
            have : 0 < Made.depth := by decide
            omega
          rw [hd] at hmr
          have h0 : (#[Value.iface t x] ++ as.map a.eval)[0]? = some (.iface t x) := by
            rw [Array.getElem?_append_left (by simp)]; rfl
          have h1 : (as.map a.eval).extract 0 as.size = as.map a.eval := by
            have := Array.extract_size (xs := as.map a.eval)
            rwa [Array.size_map] at this
          simp [resolve, hq, invoke, callMethod, Result.andThen, hmr, h0, h1]
          exact callFunc_run hca
  · split at hk
    · rename_i c v A' hs
      obtain ⟨x, w', G', hr, e1, e2, e3, e4⟩ := astep_ok hv hs hk.1 h
      unfold Oper.wp
      rcases hr with hr | ⟨hr, rfl⟩
      · rw [hr, Oper.upon_value]; exact hn v A' x w' G' hk.2 e1 e2 e3 e4
      · rw [hr, Oper.upon_skip]; exact hn v A' undef w' G' hk.2 e1 e2 e3 e4
    · exact hk.elim

end Go.Abs
