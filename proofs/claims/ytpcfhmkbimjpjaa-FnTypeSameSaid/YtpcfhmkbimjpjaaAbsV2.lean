/- Calls of function values in regions whose order is open. -/
import Derived.Test.YtpcfhmkbimjpjaaAbsW
set_option linter.unusedVariables false
set_option linter.unusedSimpArgs false
namespace Go.Abs

section
variable (P : Program) (own : FuncId → Bool) (N : Nat) (ops : Array Oper) (T : Ranks) (As : Nat → List Box) (Q : Env → Prop) (k : Nat) (rest : List Oper) (e : Env) (A : List Box) (d : Option Tmp) (ty : TypeId) (pos : String) (af : Array Edge)
/-- a function value, called -/
def CallVE (v : AV) (args : List AV) : Prop :=
  match v with
  | .func (.func g) first captured => callable P g = true ∧ CallE P own N ops T As Q k g (first ++ args ++ captured) rest d e
  | _ => False
def CallVD (v : AV) (args : List AV) : Prop :=
  match v with
  | .func (.func g) first captured => callable P g = true ∧ CallD P own g (first ++ args ++ captured) A N ops Q rest d e
  | _ => False
theorem CallVE_eq (g : FuncId) (first captured args : List AV) : CallVE P own N ops T As Q k rest e d (.func (.func g) first captured) args = (callable P g = true ∧ CallE P own N ops T As Q k g (first ++ args ++ captured) rest d e) := ofRfl rfl
theorem CallVD_eq (g : FuncId) (first captured args : List AV) : CallVD P own N ops Q rest e A d (.func (.func g) first captured) args = (callable P g = true ∧ CallD P own g (first ++ args ++ captured) A N ops Q rest d e) := ofRfl rfl
theorem wpG_callv (r : Operand) (l : List Operand) (ts : Array TypeId) (h : CallVE P own N ops T As Q k rest e d (evA e r) (l.map (evA e))) :
    wpG P own N ops T As Q k (⟨d, .call ⟨.value r, l.toArray, ts⟩, ty, pos, af, none⟩ :: rest) e := by
  rw [wpG_plain]
  unfold CallVE at h
  unfold OpG
  simp only [Op.operands, Call.operands]
  generalize hq : evA e r = q at h
  cases q <;> try exact h.elim
  rename_i fn first captured
  cases fn <;> try exact h.elim
  rename_i g
  obtain ⟨h2, v, h3, h4⟩ := h
  have : callTarget P (.call ⟨.value r, l.toArray, ts⟩) (List.map (evA e) (#[r] ++ l.toArray).toList) = some (g, first ++ l.map (evA e) ++ captured) := by
    simp [callTarget, hq, h2]
  simp only [this]
  exact ⟨v, h3, h4⟩
theorem wpD_callv (r : Operand) (l : List Operand) (ts : Array TypeId) (h : CallVD P own N ops Q rest e A d (evA e r) (l.map (evA e))) :
    wpD P own N ops A Q (⟨d, .call ⟨.value r, l.toArray, ts⟩, ty, pos, af, none⟩ :: rest) e := by
  rw [wpD_plain]
  unfold CallVD at h
  unfold OpK
  simp only [Op.operands, Call.operands]
  generalize hq : evA e r = q at h
  cases q <;> try exact h.elim
  rename_i fn first captured
  cases fn <;> try exact h.elim
  rename_i g
  obtain ⟨h2, v, h3, h4⟩ := h
  have : callTarget P (.call ⟨.value r, l.toArray, ts⟩) (List.map (evA e) (#[r] ++ l.toArray).toList) = some (g, first ++ l.map (evA e) ++ captured) := by
    simp [callTarget, hq, h2]
  simp only [this]
  exact ⟨v, h3, h4⟩
theorem wpG_makeFunc (fn : Fn) (l m : List Operand) : wpG P own N ops T As Q k (⟨d, .makeFunc fn l.toArray m.toArray, ty, pos, af, none⟩ :: rest) e = StepK (astep P (.makeFunc fn l.toArray m.toArray) ((l ++ m).map (evA e)) (As (T.lo k))) (ContE P own N ops T As Q k rest d e (.makeFunc fn l.toArray m.toArray) ((l ++ m).map (evA e))) := by
  rw [wpG_step _ _ _ _ _ _ _ _ _ _ _ _ _ _ rfl]; simp [Op.operands]
theorem wpD_makeFunc (fn : Fn) (l m : List Operand) : wpD P own N ops A Q (⟨d, .makeFunc fn l.toArray m.toArray, ty, pos, af, none⟩ :: rest) e = StepK (astep P (.makeFunc fn l.toArray m.toArray) ((l ++ m).map (evA e)) A) (ContD P own N ops A Q rest d e) := by
  rw [wpD_step _ _ _ _ _ _ _ _ _ _ _ _ rfl]; simp [Op.operands]
theorem wpG_makeMap (t : TypeId) : wpG P own N ops T As Q k (⟨d, .makeMap t none, ty, pos, af, none⟩ :: rest) e = StepK (astep P (.makeMap t none) [] (As (T.lo k))) (ContE P own N ops T As Q k rest d e (.makeMap t none) []) := by
  rw [wpG_step _ _ _ _ _ _ _ _ _ _ _ _ _ _ rfl]; rfl
theorem wpO_typeAssert (x : Operand) (t u : TypeId) (b : Bool) (Q : Env → List Box → Prop) : wpO P own N ops Q (⟨d, .typeAssert x t u b, ty, pos, af, none⟩ :: rest) e A = StepK (astep P (.typeAssert x t u b) [evA e x] A) (ContO P own N ops Q rest d e) := by
  rw [wpO_plain, opK_step _ _ _ _ _ _ _ rfl]; rfl
theorem wpD_typeAssert (x : Operand) (t u : TypeId) (b : Bool) : wpD P own N ops A Q (⟨d, .typeAssert x t u b, ty, pos, af, none⟩ :: rest) e = StepK (astep P (.typeAssert x t u b) [evA e x] A) (ContD P own N ops A Q rest d e) := by
  rw [wpD_step _ _ _ _ _ _ _ _ _ _ _ _ rfl]; rfl
theorem assert_yes (zc : List AV) (u : TypeId) (v : AV) : assertA u zc (.iface u v) A = some (True, .tuple [v, .bool true], A) := by simp [assertA]
theorem assert_no (zc : List AV) (t u : TypeId) (v : AV) (h : (t == u) = false) : assertA u zc (.iface t v) A = some (True, .tuple [.agg zc, .bool false], A) := by
  have : ¬ t = u := by simpa using h
  simp [assertA, this]
theorem wpS_nil (Q : Env → List Box → Prop) (l : List Oper) : wpS P own N ops Q [] l e A = wpD P own N ops A (fun e => Q e A) l e := ofRfl rfl
theorem wpS_cons (Q : Env → List Box → Prop) (n : Nat) (ns : List Nat) (l : List Oper) : wpS P own N ops Q (n :: ns) l e A = wpD P own N ops A (fun e => wpO P own N ops (fun e A => wpS P own N ops Q ns (l.drop (n + 1)) e A) ((l.drop n).take 1) e A) (l.take n) e := ofRfl rfl
def segB (n : Nat) (ns : List Nat) : Bool := (segIdx 0 ns).all fun j => decide (j < n)
/-- an open region by pieces: behind so many operations stands one that may change boxes -/
theorem drawS_intro {P : Program} {c : Cfg} {l : List Oper} {Q : Exit → Env → List Box → Prop} {e : Env} {A : List Box} (ns : List Nat) (h1 : dstOk c.N l.toArray = true) (h2 : Region.lexB .any l.toArray = true) (h3 : sepB l.toArray (segIdx 0 ns) = true) (h4 : segB l.toArray.size ns = true)
    (h : wpS P c.own c.N l.toArray (fun e A => KeepD c.vs Q A e) ns l e A) : DrawE P c l.toArray Q e A :=
  .inl ⟨ns, h1, h2, h3, fun j hj => by simpa using List.all_eq_true.1 h4 j hj, h⟩
theorem wpO_mono {Q Q' : Env → List Box → Prop} (hq : ∀ e A, Q e A → Q' e A) : ∀ (l : List Oper) (e : Env) (A : List Box), wpO P own N ops Q l e A → wpO P own N ops Q' l e A
  | [], e, A, h => hq e A h
  | o :: rest, e, A, h => by
    simp only [wpO] at h ⊢
    split at h
    · exact h.elim
    · rename_i b hb
      refine ⟨fun hh => OpK_mono (h.1 hh) fun v A' h' => wpO_mono hq rest _ _ h', fun hh => wpO_mono hq rest _ _ (h.2 hh)⟩
theorem wpE_mono {T : Ranks} {As : Nat → List Box} {Q Q' : Env → Prop} (hq : ∀ e, Q e → Q' e) : ∀ (l : List Oper) (k : Nat) (e : Env), wpE P own N ops T As Q k l e → wpE P own N ops T As Q' k l e
  | [], k, e, h => hq e h
  | o :: rest, k, e, h => by
    simp only [wpE] at h ⊢
    split at h
    · exact h.elim
    · rename_i b hb
      refine ⟨fun hh => ?_, fun hh => ⟨(h.2 hh).1, wpE_mono hq rest _ _ (h.2 hh).2⟩⟩
      obtain ⟨v, h1, h2⟩ := h.1 hh
      exact ⟨v, h1, wpE_mono hq rest _ _ h2⟩
/-- a chain by pieces, over lists of box lists -/
def wpMG (T : Ranks) (m : Nat) (Q : Env → List Box → Prop) : List Nat → Nat → List Oper → Env → List (List Box) → Prop
  | [], k, l, e, L => wpG P own N ops T (Lk L) (fun e => Q e (Lk L m)) k l e
  | n :: ns, k, l, e, L => wpG P own N ops T (Lk L) (fun e => wpO P own N ops (fun e A => ∃ L', Lk L' (T.lo (k + n) + 1) = A ∧ wpMG T m Q ns (k + n + 1) (l.drop (n + 1)) e L') ((l.drop n).take 1) e (Lk L (T.lo (k + n)))) k (l.take n) e
theorem wpMG_nil (T : Ranks) (m : Nat) (Q : Env → List Box → Prop) (k : Nat) (l : List Oper) (L : List (List Box)) : wpMG P own N ops T m Q [] k l e L = wpG P own N ops T (Lk L) (fun e => Q e (Lk L m)) k l e := ofRfl rfl
theorem wpMG_cons (T : Ranks) (m : Nat) (Q : Env → List Box → Prop) (n : Nat) (ns : List Nat) (k : Nat) (l : List Oper) (L : List (List Box)) : wpMG P own N ops T m Q (n :: ns) k l e L = wpG P own N ops T (Lk L) (fun e => wpO P own N ops (fun e A => ∃ L', Lk L' (T.lo (k + n) + 1) = A ∧ wpMG P own N ops T m Q ns (k + n + 1) (l.drop (n + 1)) e L') ((l.drop n).take 1) e (Lk L (T.lo (k + n)))) k (l.take n) e := ofRfl rfl
theorem wpMG_M {T : Ranks} {m : Nat} {Q : Env → List Box → Prop} (hT : lohiB T = true) : ∀ (ns : List Nat) (k : Nat) (l : List Oper) (e : Env) (L : List (List Box)), wpMG P own N ops T m Q ns k l e L → wpM P own N ops T m Q ns k l e (Lk L)
  | [], k, l, e, L, h => wpG_E P own N ops T (Lk L) _ hT _ _ _ h
  | n :: ns, k, l, e, L, h => by
    have h1 := wpG_E P own N ops T (Lk L) _ hT _ _ _ h
    refine wpE_mono P own N ops (fun e' h2 => ?_) _ _ _ h1
    refine wpO_mono P own N ops (fun e A ⟨L', h3, h4⟩ => ?_) _ _ _ h2
    exact ⟨Lk L', h3, wpMG_M hT ns _ _ _ _ h4⟩
theorem wpY_done_eq (Q : Env → List Box → Prop) : wpY P own N ops Q .done e A = Q e A := ofRfl rfl
theorem wpY_one_eq (Q : Env → List Box → Prop) (l : List Oper) (i : Nat) (s : Sch) : wpY P own N l.toArray Q (.one i s) e A = wpO P own N l.toArray (fun e A => wpY P own N l.toArray Q s e A) ((l.drop i).take 1) e A := ofRfl rfl
theorem wpY_or_eq (Q : Env → List Box → Prop) (a b : Sch) : wpY P own N ops Q (.or a b) e A = (wpY P own N ops Q a e A ∧ wpY P own N ops Q b e A) := ofRfl rfl
end
/-- an open region by pieces of a chain: behind so many operations stands one with any answer; from n on, every order -/
theorem drawM_intro {P : Program} {e : Env} {c : Cfg} {l : List Oper} {Q : Exit → Env → List Box → Prop} {A : List Box} (ns : List Nat) (s : Sch) (T : Ranks) (L : List (List Box)) (m n : Nat) (h0 : Lk L 0 = A) (h1 : chkM c.N l.toArray T m n ns s = true) (h6 : lohiB T = true)
    (h : wpMG P c.own c.N l.toArray T m (fun e A => wpY P c.own c.N l.toArray (fun e A => KeepD c.vs Q A e) s e A) ns 0 (l.take n) e L) : DrawE P c l.toArray Q e A :=
  .inr (.inl ⟨ns, s, T, Lk L, m, n, h1, h0, wpMG_M P c.own c.N l.toArray h6 ns _ _ _ _ h⟩)
end Go.Abs
