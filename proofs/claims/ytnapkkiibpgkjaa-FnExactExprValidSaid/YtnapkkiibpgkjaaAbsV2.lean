/- Calls of function values in regions whose order is open. -/
import Derived.Test.YtnapkkiibpgkjaaAbsW
set_option linter.unusedVariables false
set_option linter.unusedSimpArgs false
namespace Go.Abs

section
variable (P : Program) (own : FuncId → Bool) (N : Nat) (ops : Array Oper) (T : Ranks) (As : Nat → List Box) (Q : Env → Prop) (k : Nat) (rest : List Oper) (e : Env) (A : List Box) (d : Option Tmp) (ty : TypeId) (pos : String) (af : Array Edge)
/-- a function value, called -/
def CallVE (v : AV) (args : List AV) : Prop :=
  match v with
  | .func (.func g) first captured => callable P g = true ∧ CallE P own N ops T As Q k g (first ++ args ++ captured) rest d e
  | _ => False
def CallVD (v : AV) (args : List AV) : Prop :=
  match v with
  | .func (.func g) first captured => callable P g = true ∧ CallD P own g (first ++ args ++ captured) A N ops Q rest d e
  | _ => False
theorem CallVE_eq (g : FuncId) (first captured args : List AV) : CallVE P own N ops T As Q k rest e d (.func (.func g) first captured) args = (callable P g = true ∧ CallE P own N ops T As Q k g (first ++ args ++ captured) rest d e) := ofRfl rfl
theorem CallVD_eq (g : FuncId) (first captured args : List AV) : CallVD P own N ops Q rest e A d (.func (.func g) first captured) args = (callable P g = true ∧ CallD P own g (first ++ args ++ captured) A N ops Q rest d e) := ofRfl rfl
theorem wpG_callv (r : Operand) (l : List Operand) (ts : Array TypeId) (h : CallVE P own N ops T As Q k rest e d (evA e r) (l.map (evA e))) :
    wpG P own N ops T As Q k (⟨d, .call ⟨.value r, l.toArray, ts⟩, ty, pos, af, none⟩ :: rest) e := by
  rw [wpG_plain]
  unfold CallVE at h
  unfold OpG
  simp only [Op.operands, Call.operands]
  generalize hq : evA e r = q at h
  cases q <;> try exact h.elim
  rename_i fn first captured
  cases fn <;> try exact h.elim
  rename_i g
  obtain ⟨h2, v, h3, h4⟩ := h
  have : callTarget P (.call ⟨.value r, l.toArray, ts⟩) (List.map (evA e) (#[r] ++ l.toArray).toList) = some (g, first ++ l.map (evA e) ++ captured) := by
    simp [callTarget, hq, h2]
  simp only [this]
  exact ⟨v, h3, h4⟩
theorem wpD_callv (r : Operand) (l : List Operand) (ts : Array TypeId) (h : CallVD P own N ops Q rest e A d (evA e r) (l.map (evA e))) :
    wpD P own N ops A Q (⟨d, .call ⟨.value r, l.toArray, ts⟩, ty, pos, af, none⟩ :: rest) e := by
  rw [wpD_plain]
  unfold CallVD at h
  unfold OpK
  simp only [Op.operands, Call.operands]
  generalize hq : evA e r = q at h
  cases q <;> try exact h.elim
  rename_i fn first captured
  cases fn <;> try exact h.elim
  rename_i g
  obtain ⟨h2, v, h3, h4⟩ := h
  have : callTarget P (.call ⟨.value r, l.toArray, ts⟩) (List.map (evA e) (#[r] ++ l.toArray).toList) = some (g, first ++ l.map (evA e) ++ captured) := by
    simp [callTarget, hq, h2]
  simp only [this]
  exact ⟨v, h3, h4⟩
theorem wpG_makeFunc (fn : Fn) (l m : List Operand) : wpG P own N ops T As Q k (⟨d, .makeFunc fn l.toArray m.toArray, ty, pos, af, none⟩ :: rest) e = StepK (astep P (.makeFunc fn l.toArray m.toArray) ((l ++ m).map (evA e)) (As (T.lo k))) (ContE P own N ops T As Q k rest d e (.makeFunc fn l.toArray m.toArray) ((l ++ m).map (evA e))) := by
  rw [wpG_step _ _ _ _ _ _ _ _ _ _ _ _ _ _ rfl]; simp [Op.operands]
theorem wpD_makeFunc (fn : Fn) (l m : List Operand) : wpD P own N ops A Q (⟨d, .makeFunc fn l.toArray m.toArray, ty, pos, af, none⟩ :: rest) e = StepK (astep P (.makeFunc fn l.toArray m.toArray) ((l ++ m).map (evA e)) A) (ContD P own N ops A Q rest d e) := by
  rw [wpD_step _ _ _ _ _ _ _ _ _ _ _ _ rfl]; simp [Op.operands]
theorem wpG_makeMap (t : TypeId) : wpG P own N ops T As Q k (⟨d, .makeMap t none, ty, pos, af, none⟩ :: rest) e = StepK (astep P (.makeMap t none) [] (As (T.lo k))) (ContE P own N ops T As Q k rest d e (.makeMap t none) []) := by
  rw [wpG_step _ _ _ _ _ _ _ _ _ _ _ _ _ _ rfl]; rfl
end
end Go.Abs
