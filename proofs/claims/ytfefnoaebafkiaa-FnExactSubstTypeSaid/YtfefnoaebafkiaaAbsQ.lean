/- How a walk is reckoned: equations for simp. What comes later stands in closed words, so that simp does not look into it. -/
import Derived.Test.YtfefnoaebafkiaaAbsP
set_option linter.unusedVariables false
set_option linter.unusedSimpArgs false
namespace Go.Abs
open Go.RowKit

/-- an equation that simp is to write down -/
theorem ofRfl {a b : Prop} (h : a = b) : a = b := h

def StepK (r : Option (Prop × AV × List Box)) (K : AV → List Box → Prop) : Prop :=
  match r with
  | some (c, v, A') => c ∧ K v A'
  | none => False

/-- what comes behind an operation -/
def ContO (P : Program) (own : FuncId → Bool) (N : Nat) (ops : Array Oper) (Q : Env → List Box → Prop) (rest : List Oper) (d : Option Tmp) (e : Env) (v : AV) (A : List Box) : Prop := wpO P own N ops Q rest (putA N d v e) A
/-- what comes behind a region -/
def KeepK (vs : List Nat) (Q : Exit → Env → List Box → Prop) (e : Env) (A : List Box) : Prop := Q .normal (keep vs e) A
/-- a test -/
def CondK (P : Program) (c : Cfg) (x y : Code) (Q : Exit → Env → List Box → Prop) (e : Env) (A : List Box) (v : AV) : Prop :=
  match v with
  | .bool t => (t = true → wpc P c x Q e A) ∧ (t = false → wpc P c y Q e A)
  | _ => False
/-- a guard -/
def GuardK (P : Program) (own : FuncId → Bool) (N : Nat) (ops : Array Oper) (Q : Env → List Box → Prop) (o : Oper) (rest : List Oper) (e : Env) (A : List Box) (want : Bool) (v : AV) : Prop :=
  match v with
  | .bool t => ((t == want) = true → wpO P own N ops Q ({ o with guard := none } :: rest) e A) ∧ ((t == want) = false → wpO P own N ops Q rest (putA N o.dst (.tuple []) e) A)
  | .tuple _ => wpO P own N ops Q rest (putA N o.dst (.tuple []) e) A
  | _ => False

theorem StepK_some (c : Prop) (v : AV) (A : List Box) (P : Program) (own : FuncId → Bool) (N : Nat) (ops : Array Oper) (Q : Env → List Box → Prop) (rest : List Oper) (d : Option Tmp) (e : Env) :
    StepK (Option.some (c, v, A)) (ContO P own N ops Q rest d e) = (c ∧ wpO P own N ops Q rest (putA N d v e) A) := rfl
theorem KeepK_eq (vs : List Nat) (Q : Exit → Env → List Box → Prop) (e : Env) (A : List Box) : KeepK vs Q e A = Q .normal (keep vs e) A := ofRfl rfl
theorem CondK_true (P : Program) (c : Cfg) (x y : Code) (Q : Exit → Env → List Box → Prop) (e : Env) (A : List Box) : CondK P c x y Q e A (.bool true) = wpc P c x Q e A := by simp [CondK]
theorem CondK_false (P : Program) (c : Cfg) (x y : Code) (Q : Exit → Env → List Box → Prop) (e : Env) (A : List Box) : CondK P c x y Q e A (.bool false) = wpc P c y Q e A := by simp [CondK]
theorem condK_intro {P : Program} {c : Cfg} {x y : Code} {Q : Exit → Env → List Box → Prop} {e : Env} {A : List Box} {b : Bool} (h : b = true → wpc P c x Q e A) (h' : b = false → wpc P c y Q e A) : CondK P c x y Q e A (.bool b) := ⟨h, h'⟩

section
variable (P : Program) (c : Cfg) (Q : Exit → Env → List Box → Prop) (e : Env) (A : List Box)
theorem wpc_skip : wpc P c .skip Q e A = Q .normal e A := ofRfl rfl
theorem wpc_label (l : Nat) : wpc P c (.label l) Q e A = Q .normal e A := ofRfl rfl
theorem wpc_seq (x y : Code) : wpc P c (.seq x y) Q e A = wpc P c x (AThen (wpc P c y Q) Q) e A := ofRfl rfl
theorem wpc_region (id : Nat) (l : List Oper) : wpc P c (.region id l.toArray false) Q e A = wpO P c.own c.N l.toArray (KeepK c.vs Q) l e A := ofRfl rfl
theorem wpc_draw (id : Nat) (l : List Oper) : wpc P c (.region id l.toArray true) Q e A = ((dstOk c.N l.toArray = true ∧ Region.lexB .any l.toArray = true ∧ wpD P c.own c.N l.toArray A (fun e => Q .normal (keep c.vs e) A) l e) ∨ DrawE P c l.toArray Q e A) := ofRfl rfl
theorem wpc_block (id : Nat) (x : Code) : wpc P c (.block id x) Q e A = wpc P c x (ABlk id Q) e A := ofRfl rfl
theorem wpc_loop (x : Code) : wpc P c (.loop x) Q e A = ALoop (wpc P c x) Q e A := ofRfl rfl
theorem wpc_exit (id : Nat) : wpc P c (.exit id) Q e A = Q (.exit id) e A := ofRfl rfl
theorem wpc_ret : wpc P c .ret Q e A = Q .ret e A := ofRfl rfl
theorem wpc_cond (b : Operand) (x y : Code) : wpc P c (.cond b x y) Q e A = CondK P c x y Q e A (evA e b) := by
  simp only [wpc, CondK]
  cases evA e b <;> rfl
end

section
variable (n : Env → List Box → Prop) (Q : Exit → Env → List Box → Prop) (e : Env) (A : List Box)
theorem AThen_normal : AThen n Q .normal e A = n e A := ofRfl rfl
theorem AThen_ret : AThen n Q .ret e A = Q .ret e A := ofRfl rfl
theorem AThen_exit (i : Nat) : AThen n Q (.exit i) e A = Q (.exit i) e A := ofRfl rfl
theorem ABlk_normal (i : Nat) : ABlk i Q .normal e A = Q .normal e A := ofRfl rfl
theorem ABlk_ret (i : Nat) : ABlk i Q .ret e A = Q .ret e A := ofRfl rfl
theorem ABlk_exit (i j : Nat) : ABlk i Q (.exit j) e A = if j = i then Q .normal e A else Q (.exit j) e A := ofRfl rfl
end

section
variable (P : Program) (own : FuncId → Bool) (N : Nat) (ops : Array Oper) (Q : Env → List Box → Prop) (rest : List Oper) (e : Env) (A : List Box)
variable (d : Option Tmp) (ty : TypeId) (pos : String) (af : Array Edge)
theorem wpO_nil : wpO P own N ops Q [] e A = Q e A := ofRfl rfl

theorem wpO_plain (op : Op) : wpO P own N ops Q (⟨d, op, ty, pos, af, none⟩ :: rest) e A = OpK P own ⟨d, op, ty, pos, af, none⟩ (op.operands.toList.map (evA e)) A (ContO P own N ops Q rest d e) := by
  simp [wpO, wantA]; rfl

theorem opK_step {g : Option (Nat × Bool)} {op : Op} {vs : List AV} {K : AV → List Box → Prop} (h : callTarget P op vs = none) : OpK P own ⟨d, op, ty, pos, af, g⟩ vs A K = StepK (astep P op vs A) K := by
  unfold OpK StepK
  simp only [h]
  cases astep P op vs A <;> rfl

theorem wpO_move (x : Operand) : wpO P own N ops Q (⟨d, .move x, ty, pos, af, none⟩ :: rest) e A = wpO P own N ops Q rest (putA N d (evA e x) e) A := by
  rw [wpO_plain, opK_step _ _ _ _ _ _ _ rfl]; simp [Op.operands, astep, StepK, ContO]
theorem wpO_assign (x : Operand) : wpO P own N ops Q (⟨d, .assign x, ty, pos, af, none⟩ :: rest) e A = wpO P own N ops Q rest (putA N d (evA e x) e) A := by
  rw [wpO_plain, opK_step _ _ _ _ _ _ _ rfl]; simp [Op.operands, astep, StepK, ContO]
theorem wpO_pick (x y z : Operand) : wpO P own N ops Q (⟨d, .pick x y z, ty, pos, af, none⟩ :: rest) e A = StepK (astep P (.pick x y z) [evA e x, evA e y, evA e z] A) (ContO P own N ops Q rest d e) := by
  rw [wpO_plain, opK_step _ _ _ _ _ _ _ rfl]; rfl
theorem wpO_alloc (t : TypeId) : wpO P own N ops Q (⟨d, .alloc t, ty, pos, af, none⟩ :: rest) e A = StepK (astep P (.alloc t) [] A) (ContO P own N ops Q rest d e) := by
  rw [wpO_plain, opK_step _ _ _ _ _ _ _ rfl]; rfl
theorem wpO_box (t : TypeId) (x : Operand) : wpO P own N ops Q (⟨d, .box t x, ty, pos, af, none⟩ :: rest) e A = StepK (astep P (.box t x) [evA e x] A) (ContO P own N ops Q rest d e) := by
  rw [wpO_plain, opK_step _ _ _ _ _ _ _ rfl]; rfl
theorem wpO_load (t : TypeId) (x : Operand) : wpO P own N ops Q (⟨d, .load t x, ty, pos, af, none⟩ :: rest) e A = StepK (astep P (.load t x) [evA e x] A) (ContO P own N ops Q rest d e) := by
  rw [wpO_plain, opK_step _ _ _ _ _ _ _ rfl]; rfl
theorem wpO_store (t : TypeId) (x y : Operand) : wpO P own N ops Q (⟨d, .store t x y, ty, pos, af, none⟩ :: rest) e A = StepK (astep P (.store t x y) [evA e x, evA e y] A) (ContO P own N ops Q rest d e) := by
  rw [wpO_plain, opK_step _ _ _ _ _ _ _ rfl]; rfl
theorem wpO_nilCheck (x : Operand) : wpO P own N ops Q (⟨d, .nilCheck x, ty, pos, af, none⟩ :: rest) e A = StepK (astep P (.nilCheck x) [evA e x] A) (ContO P own N ops Q rest d e) := by
  rw [wpO_plain, opK_step _ _ _ _ _ _ _ rfl]; rfl
theorem wpO_binOp (b : BinOp) (t u : TypeId) (x y : Operand) : wpO P own N ops Q (⟨d, .binOp b t x y u, ty, pos, af, none⟩ :: rest) e A = StepK (astep P (.binOp b t x y u) [evA e x, evA e y] A) (ContO P own N ops Q rest d e) := by
  rw [wpO_plain, opK_step _ _ _ _ _ _ _ rfl]; rfl
theorem wpO_unOp (b : UnOp) (t : TypeId) (x : Operand) : wpO P own N ops Q (⟨d, .unOp b t x, ty, pos, af, none⟩ :: rest) e A = StepK (astep P (.unOp b t x) [evA e x] A) (ContO P own N ops Q rest d e) := by
  rw [wpO_plain, opK_step _ _ _ _ _ _ _ rfl]; rfl
theorem wpO_convert (t u : TypeId) (x : Operand) : wpO P own N ops Q (⟨d, .convert t u x, ty, pos, af, none⟩ :: rest) e A = StepK (astep P (.convert t u x) [evA e x] A) (ContO P own N ops Q rest d e) := by
  rw [wpO_plain, opK_step _ _ _ _ _ _ _ rfl]; rfl
theorem wpO_makeSlice (t : TypeId) (x y : Operand) : wpO P own N ops Q (⟨d, .makeSlice t x y, ty, pos, af, none⟩ :: rest) e A = StepK (astep P (.makeSlice t x y) [evA e x, evA e y] A) (ContO P own N ops Q rest d e) := by
  rw [wpO_plain, opK_step _ _ _ _ _ _ _ rfl]; rfl
theorem wpO_slice0 (t : TypeId) (x : Operand) : wpO P own N ops Q (⟨d, .slice t x none none none, ty, pos, af, none⟩ :: rest) e A = StepK (astep P (.slice t x none none none) [evA e x] A) (ContO P own N ops Q rest d e) := by
  rw [wpO_plain, opK_step _ _ _ _ _ _ _ rfl]; rfl
theorem wpO_slice1 (t : TypeId) (x y : Operand) : wpO P own N ops Q (⟨d, .slice t x (some y) none none, ty, pos, af, none⟩ :: rest) e A = StepK (astep P (.slice t x (some y) none none) [evA e x, evA e y] A) (ContO P own N ops Q rest d e) := by
  rw [wpO_plain, opK_step _ _ _ _ _ _ _ rfl]; rfl
theorem wpO_slice2 (t : TypeId) (x y : Operand) : wpO P own N ops Q (⟨d, .slice t x none (some y) none, ty, pos, af, none⟩ :: rest) e A = StepK (astep P (.slice t x none (some y) none) [evA e x, evA e y] A) (ContO P own N ops Q rest d e) := by
  rw [wpO_plain, opK_step _ _ _ _ _ _ _ rfl]; rfl
theorem wpO_slice3 (t : TypeId) (x y z : Operand) : wpO P own N ops Q (⟨d, .slice t x (some y) (some z) none, ty, pos, af, none⟩ :: rest) e A = StepK (astep P (.slice t x (some y) (some z) none) [evA e x, evA e y, evA e z] A) (ContO P own N ops Q rest d e) := by
  rw [wpO_plain, opK_step _ _ _ _ _ _ _ rfl]; rfl
theorem wpO_fieldAddr (t : TypeId) (x : Operand) (k : Nat) : wpO P own N ops Q (⟨d, .fieldAddr t x k, ty, pos, af, none⟩ :: rest) e A = StepK (astep P (.fieldAddr t x k) [evA e x] A) (ContO P own N ops Q rest d e) := by
  rw [wpO_plain, opK_step _ _ _ _ _ _ _ rfl]; rfl
theorem wpO_field (t : TypeId) (x : Operand) (k : Nat) : wpO P own N ops Q (⟨d, .field t x k, ty, pos, af, none⟩ :: rest) e A = StepK (astep P (.field t x k) [evA e x] A) (ContO P own N ops Q rest d e) := by
  rw [wpO_plain, opK_step _ _ _ _ _ _ _ rfl]; rfl
theorem wpO_indexAddr (t : TypeId) (x y : Operand) : wpO P own N ops Q (⟨d, .indexAddr t x y, ty, pos, af, none⟩ :: rest) e A = StepK (astep P (.indexAddr t x y) [evA e x, evA e y] A) (ContO P own N ops Q rest d e) := by
  rw [wpO_plain, opK_step _ _ _ _ _ _ _ rfl]; rfl
theorem wpO_index (t : TypeId) (x y : Operand) : wpO P own N ops Q (⟨d, .index t x y, ty, pos, af, none⟩ :: rest) e A = StepK (astep P (.index t x y) [evA e x, evA e y] A) (ContO P own N ops Q rest d e) := by
  rw [wpO_plain, opK_step _ _ _ _ _ _ _ rfl]; rfl
theorem wpO_extract (x : Operand) (k : Nat) : wpO P own N ops Q (⟨d, .extract x k, ty, pos, af, none⟩ :: rest) e A = StepK (astep P (.extract x k) [evA e x] A) (ContO P own N ops Q rest d e) := by
  rw [wpO_plain, opK_step _ _ _ _ _ _ _ rfl]; rfl
theorem wpO_build (t : TypeId) (l : List (Nat × Operand)) : wpO P own N ops Q (⟨d, .build t l.toArray, ty, pos, af, none⟩ :: rest) e A = StepK (astep P (.build t l.toArray) (l.map fun p => evA e p.2) A) (ContO P own N ops Q rest d e) := by
  rw [wpO_plain, opK_step _ _ _ _ _ _ _ rfl]; simp [Op.operands, Function.comp_def]
theorem wpO_buildSlice (t : TypeId) (n : Nat) (l : List (Nat × Operand)) : wpO P own N ops Q (⟨d, .buildSlice t n l.toArray, ty, pos, af, none⟩ :: rest) e A = StepK (astep P (.buildSlice t n l.toArray) (l.map fun p => evA e p.2) A) (ContO P own N ops Q rest d e) := by
  rw [wpO_plain, opK_step _ _ _ _ _ _ _ rfl]; simp [Op.operands, Function.comp_def]
theorem wpO_builtin (b : Builtin) (l : List Operand) (ts : Array TypeId) : wpO P own N ops Q (⟨d, .call ⟨.builtin b, l.toArray, ts⟩, ty, pos, af, none⟩ :: rest) e A = StepK (builtinA P b ts (l.map (evA e)) A) (ContO P own N ops Q rest d e) := by
  rw [wpO_plain, opK_step _ _ _ _ _ _ _ (by rfl)]; simp [Op.operands, Call.operands, astep]
theorem wpO_call (g : FuncId) (l : List Operand) (ts : Array TypeId) (h : callable P g = true) : wpO P own N ops Q (⟨d, .call ⟨.value (.func g), l.toArray, ts⟩, ty, pos, af, none⟩ :: rest) e A = CallK P own g (l.map (evA e)) A (ContO P own N ops Q rest d e) := by
  rw [wpO_plain]; simp [OpK, callTarget, Op.operands, Call.operands, evA, h]
/-- a function value -/
def CallVK (P : Program) (own : FuncId → Bool) (v : AV) (args : List AV) (A : List Box) (K : AV → List Box → Prop) : Prop :=
  match v with
  | .func (.func g) first captured => callable P g = true ∧ CallK P own g (first ++ args ++ captured) A K
  | _ => False
theorem wpO_callv (r : Operand) (l : List Operand) (ts : Array TypeId) (h : CallVK P own (evA e r) (l.map (evA e)) A (ContO P own N ops Q rest d e)) :
    wpO P own N ops Q (⟨d, .call ⟨.value r, l.toArray, ts⟩, ty, pos, af, none⟩ :: rest) e A := by
  rw [wpO_plain]
  unfold CallVK at h
  unfold OpK
  simp only [Op.operands, Call.operands]
  generalize hq : evA e r = q at h
  cases q <;> try exact h.elim
  rename_i fn first captured
  cases fn <;> try exact h.elim
  rename_i g
  have : callTarget P (.call ⟨.value r, l.toArray, ts⟩) (List.map (evA e) (#[r] ++ l.toArray).toList) = some (g, first ++ l.map (evA e) ++ captured) := by
    simp [callTarget, hq, h.1]
  simp only [this]
  exact h.2
/-- a method of an interface value -/
def InvK (P : Program) (own : FuncId → Bool) (name : String) (v : AV) (args : List AV) (A : List Box) (K : AV → List Box → Prop) : Prop :=
  match v with
  | .iface t x => ∃ g, methA P t name = some g ∧ callable P g = true ∧ CallK P own g (x :: args) A K
  | _ => False
theorem wpO_invoke (r : Operand) (name : String) (l : List Operand) (ts : Array TypeId) (h : InvK P own name (evA e r) (l.map (evA e)) A (ContO P own N ops Q rest d e)) :
    wpO P own N ops Q (⟨d, .call ⟨.invoke r name, l.toArray, ts⟩, ty, pos, af, none⟩ :: rest) e A := by
  rw [wpO_plain]
  unfold InvK at h
  unfold OpK
  simp only [Op.operands, Call.operands]
  generalize hq : evA e r = q at h
  cases q <;> try exact h.elim
  rename_i t x
  obtain ⟨g, h1, h2, h3⟩ := h
  have : callTarget P (.call ⟨.invoke r name, l.toArray, ts⟩) (List.map (evA e) (#[r] ++ l.toArray).toList) = some (g, x :: l.map (evA e)) := by
    simp [callTarget, hq, h1, h2]
  simp only [this]
  exact h3
theorem invK_intro {P : Program} {own : FuncId → Bool} {name : String} {t : TypeId} {x : AV} {args : List AV} {A : List Box} {K : AV → List Box → Prop} (g : FuncId) (h1 : methA P t name = some g) (h2 : callable P g = true) (h3 : CallK P own g (x :: args) A K) :
    InvK P own name (.iface t x) args A K := ⟨g, h1, h2, h3⟩
theorem wpO_makeInterface (t : TypeId) (x : Operand) : wpO P own N ops Q (⟨d, .makeInterface t x, ty, pos, af, none⟩ :: rest) e A = StepK (astep P (.makeInterface t x) [evA e x] A) (ContO P own N ops Q rest d e) := by
  rw [wpO_plain, opK_step _ _ _ _ _ _ _ rfl]; rfl
theorem wpO_makeMap (t : TypeId) : wpO P own N ops Q (⟨d, .makeMap t none, ty, pos, af, none⟩ :: rest) e A = StepK (astep P (.makeMap t none) [] A) (ContO P own N ops Q rest d e) := by
  rw [wpO_plain, opK_step _ _ _ _ _ _ _ rfl]; rfl
theorem wpO_lookup (t : TypeId) (x y : Operand) (b : Bool) : wpO P own N ops Q (⟨d, .lookup t x y b, ty, pos, af, none⟩ :: rest) e A = StepK (astep P (.lookup t x y b) [evA e x, evA e y] A) (ContO P own N ops Q rest d e) := by
  rw [wpO_plain, opK_step _ _ _ _ _ _ _ rfl]; rfl
theorem wpO_mapUpdate (t : TypeId) (x y z : Operand) : wpO P own N ops Q (⟨d, .mapUpdate t x y z, ty, pos, af, none⟩ :: rest) e A = StepK (astep P (.mapUpdate t x y z) [evA e x, evA e y, evA e z] A) (ContO P own N ops Q rest d e) := by
  rw [wpO_plain, opK_step _ _ _ _ _ _ _ rfl]; rfl
theorem wpO_makeFunc (fn : Fn) (l m : List Operand) : wpO P own N ops Q (⟨d, .makeFunc fn l.toArray m.toArray, ty, pos, af, none⟩ :: rest) e A = StepK (astep P (.makeFunc fn l.toArray m.toArray) ((l ++ m).map (evA e)) A) (ContO P own N ops Q rest d e) := by
  rw [wpO_plain, opK_step _ _ _ _ _ _ _ rfl]; simp [Op.operands]
theorem wpO_guard (op : Op) (j : Nat) (want : Bool) : wpO P own N ops Q (⟨d, op, ty, pos, af, some (j, want)⟩ :: rest) e A =
    GuardK P own N ops Q ⟨d, op, ty, pos, af, none⟩ rest e A want (match (ops[j]?).bind (·.dst) with | some t => look t e | none => .bot) := by
  simp only [wpO, wantA, GuardK]
  cases (ops[j]?).bind (·.dst) with
  | none => rfl
  | some t =>
    simp only
    cases look t e with
    | tuple l => simp
    | bool b => simp only [true_implies, Bool.true_eq_false, false_implies, and_true]; rfl
    | _ => rfl
end
theorem GuardK_bool (P : Program) (own : FuncId → Bool) (N : Nat) (ops : Array Oper) (Q : Env → List Box → Prop) (o : Oper) (rest : List Oper) (e : Env) (A : List Box) (want t : Bool) (h : (t == want) = true) :
    GuardK P own N ops Q o rest e A want (.bool t) = wpO P own N ops Q ({ o with guard := none } :: rest) e A := by simp [GuardK, h]
theorem GuardK_not (P : Program) (own : FuncId → Bool) (N : Nat) (ops : Array Oper) (Q : Env → List Box → Prop) (o : Oper) (rest : List Oper) (e : Env) (A : List Box) (want t : Bool) (h : (t == want) = false) :
    GuardK P own N ops Q o rest e A want (.bool t) = wpO P own N ops Q rest (putA N o.dst (.tuple []) e) A := by simp [GuardK, h]
theorem GuardK_skip (P : Program) (own : FuncId → Bool) (N : Nat) (ops : Array Oper) (Q : Env → List Box → Prop) (o : Oper) (rest : List Oper) (e : Env) (A : List Box) (want : Bool) (l : List AV) :
    GuardK P own N ops Q o rest e A want (.tuple l) = wpO P own N ops Q rest (putA N o.dst (.tuple []) e) A := ofRfl rfl
theorem guardK_intro {P : Program} {own : FuncId → Bool} {N : Nat} {ops : Array Oper} {Q : Env → List Box → Prop} {o : Oper} {rest : List Oper} {e : Env} {A : List Box} {want t : Bool}
    (h : (t == want) = true → wpO P own N ops Q ({ o with guard := none } :: rest) e A) (h' : (t == want) = false → wpO P own N ops Q rest (putA N o.dst (.tuple []) e) A) : GuardK P own N ops Q o rest e A want (.bool t) := ⟨h, h'⟩

theorem guardT_intro {P : Program} {own : FuncId → Bool} {N : Nat} {ops : Array Oper} {Q : Env → List Box → Prop} {o : Oper} {rest : List Oper} {e : Env} {A : List Box} {t : Bool}
    (h : t = true → wpO P own N ops Q ({ o with guard := none } :: rest) e A) (h' : t = false → wpO P own N ops Q rest (putA N o.dst (.tuple []) e) A) : GuardK P own N ops Q o rest e A true (.bool t) := ⟨fun k => h (by simpa using k), fun k => h' (by simpa using k)⟩
theorem guardF_intro {P : Program} {own : FuncId → Bool} {N : Nat} {ops : Array Oper} {Q : Env → List Box → Prop} {o : Oper} {rest : List Oper} {e : Env} {A : List Box} {t : Bool}
    (h : t = false → wpO P own N ops Q ({ o with guard := none } :: rest) e A) (h' : t = true → wpO P own N ops Q rest (putA N o.dst (.tuple []) e) A) : GuardK P own N ops Q o rest e A false (.bool t) := ⟨fun k => h (by simpa using k), fun k => h' (by simpa using k)⟩

/-- a function's code, if it has one -/
def EnterK (P : Program) (cf : Cfg) (b : Option Code) (Q : Exit → Env → List Box → Prop) (e : Env) (A : List Box) : Prop :=
  match b with
  | some c => wpc P cf c Q e A
  | none => False
theorem EnterK_some (P : Program) (cf : Cfg) (c : Code) (Q : Exit → Env → List Box → Prop) (e : Env) (A : List Box) : EnterK P cf (some c) Q e A = wpc P cf c Q e A := ofRfl rfl
theorem acalls_enter {P : Program} {cf : Cfg} {f : FuncId} {fn : Func} {args : List AV} {A : List Box} {R : AV → List Box → Prop} (hm : P.follows .mixedOrders = true) (hf : P.funcs[f]? = some fn)
    (hN : fn.ntmps = cf.N) (hl : args.length ≤ cf.N) (h : EnterK P cf fn.body (ARet P fn.results.toList A R) (entry args) A) : ACalls P f args A R := by
  cases hb : fn.body with
  | none => rw [hb] at h; exact h.elim
  | some c => rw [hb] at h; exact acalls_intro hm hf hb hN hl h

theorem callK_intro {P : Program} {own ow : FuncId → Bool} {g : FuncId} {args : List AV} {A A1 : List Box} {args' : List AV} {R : AV → List Box → Prop} {N : Nat} {ops : Array Oper} {Q : Env → List Box → Prop} {rest : List Oper} {d : Option Tmp} {e : Env}
    (hf : frzs args A = some (args', A1)) (h : ACalls P g args' A1 R)
    (hk : ∀ v A', R v A' → wpO P ow N ops Q rest (putA N d v e) A') (ho : own g = false) : CallK P own g args A (ContO P ow N ops Q rest d e) := by
  unfold CallK
  rw [ho]
  exact .inl ⟨args', A1, hf, h.mono hk⟩

theorem CallK.own {P : Program} {own : FuncId → Bool} {g : FuncId} {args : List AV} {A : List Box} {K : AV → List Box → Prop} (h : ACalls P g args A K) : CallK P own g args A K := by
  unfold CallK
  split
  · exact h
  · exact .inr h
/-- the arguments as they are: what is owned stays owned -/
theorem callO_intro {P : Program} {own ow : FuncId → Bool} {g : FuncId} {args : List AV} {A : List Box} {R : AV → List Box → Prop} {N : Nat} {ops : Array Oper} {Q : Env → List Box → Prop} {rest : List Oper} {d : Option Tmp} {e : Env}
    (h : ACalls P g args A R) (hk : ∀ v A', R v A' → wpO P ow N ops Q rest (putA N d v e) A') : CallK P own g args A (ContO P ow N ops Q rest d e) := .own (h.mono hk)

/-- a round's end -/
def LoopK (vs : List Nat) (I : Env → List Box → Prop) (μ : Env → List Box → Nat) (m : Nat) (e : Env) (A : List Box) : Prop := I (keep vs e) A ∧ μ (keep vs e) A < m
theorem LoopK_eq (vs : List Nat) (I : Env → List Box → Prop) (μ : Env → List Box → Nat) (m : Nat) (e : Env) (A : List Box) : LoopK vs I μ m e A = (I (keep vs e) A ∧ μ (keep vs e) A < m) := ofRfl rfl

theorem aloop_intro {body : (Exit → Env → List Box → Prop) → Env → List Box → Prop} {Q : Exit → Env → List Box → Prop} {e : Env} {A : List Box} (vs : List Nat) (I : Env → List Box → Prop) (μ : Env → List Box → Nat) (h : I (keep vs e) A)
    (hr : ∀ e A, I e A → body (AThen (LoopK vs I μ (μ e A)) Q) e A) : ALoop body Q e A := ⟨vs, I, μ, h, hr⟩

theorem Outer.app (A B : List Box) : Outer A (A ++ B) := ⟨by simp, fun i hi => .inl (getD_append_left hi)⟩
theorem Outer.refl (A : List Box) : Outer A A := ⟨Nat.le_refl _, fun i hi => .inl rfl⟩


theorem Outer_refl_eq (A : List Box) : Outer A A = True := eq_true (.refl A)
theorem Outer_app_eq (A B : List Box) : Outer A (A ++ B) = True := eq_true (.app A B)

section
variable {α : Type} (A B : List α) (d x : α) (k : Nat)
theorem getD_app0 : (A ++ B).getD A.length d = B.getD 0 d := by simp [List.getD, List.getElem?_append_right]
theorem getD_app : (A ++ B).getD (A.length + k) d = B.getD k d := by simp [List.getD, List.getElem?_append_right]
theorem getD_app1 (h : k < A.length) : (A ++ B).getD k d = A.getD k d := getD_append_left h
theorem set_app0 : (A ++ B).set A.length x = A ++ B.set 0 x := by simp [List.set_append]
theorem set_app : (A ++ B).set (A.length + k) x = A ++ B.set k x := by simp [List.set_append]
theorem length_app1 : (A ++ B).length = A.length + B.length := List.length_append
end
theorem List.take_left_app {α : Type} (A B : List α) : (A ++ B).take A.length = A := List.take_left

end Go.Abs
