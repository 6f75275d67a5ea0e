/- Drawn regions by the same equations: one walk in the order of the text. -/
import Derived.Test.YtfefnoaebafkiaaAbsS
set_option linter.unusedVariables false
set_option linter.unusedSimpArgs false
namespace Go.Abs
open Go.RowKit

/-- what comes behind an operation -/
def ContD (P : Program) (own : FuncId → Bool) (N : Nat) (ops : Array Oper) (A : List Box) (Q : Env → Prop) (rest : List Oper) (d : Option Tmp) (e : Env) (v : AV) (A' : List Box) : Prop := A' = A ∧ wpD P own N ops A Q rest (putA N d v e)
def KeepD (vs : List Nat) (Q : Exit → Env → List Box → Prop) (A : List Box) (e : Env) : Prop := Q .normal (keep vs e) A
/-- a call whose answer is known -/
def CallD (P : Program) (own : FuncId → Bool) (g : FuncId) (args : List AV) (A : List Box) (N : Nat) (ops : Array Oper) (Q : Env → Prop) (rest : List Oper) (d : Option Tmp) (e : Env) : Prop :=
  ∃ v, CallK P own g args A (fun v' A' => v' = v ∧ A' = A) ∧ wpD P own N ops A Q rest (putA N d v e)
def GuardD (P : Program) (own : FuncId → Bool) (N : Nat) (ops : Array Oper) (A : List Box) (Q : Env → Prop) (o : Oper) (rest : List Oper) (e : Env) (want : Bool) (v : AV) : Prop :=
  match v with
  | .bool t => ((t == want) = true → wpD P own N ops A Q ({ o with guard := none } :: rest) e) ∧ ((t == want) = false → wpD P own N ops A Q rest (putA N o.dst (.tuple []) e))
  | .tuple _ => wpD P own N ops A Q rest (putA N o.dst (.tuple []) e)
  | _ => False

theorem StepD_some (c : Prop) (v : AV) (A' A : List Box) (P : Program) (own : FuncId → Bool) (N : Nat) (ops : Array Oper) (Q : Env → Prop) (rest : List Oper) (d : Option Tmp) (e : Env) :
    StepK (Option.some (c, v, A')) (ContD P own N ops A Q rest d e) = (c ∧ A' = A ∧ wpD P own N ops A Q rest (putA N d v e)) := rfl
theorem KeepD_eq (vs : List Nat) (Q : Exit → Env → List Box → Prop) (A : List Box) (e : Env) : KeepD vs Q A e = Q .normal (keep vs e) A := ofRfl rfl
theorem wpc_drawn (P : Program) (c : Cfg) (Q : Exit → Env → List Box → Prop) (e : Env) (A : List Box) (id : Nat) (l : List Oper) : wpc P c (.region id l.toArray true) Q e A = ((dstOk c.N l.toArray = true ∧ Region.lexB .any l.toArray = true ∧ wpD P c.own c.N l.toArray A (KeepD c.vs Q A) l e) ∨ DrawE P c l.toArray Q e A) := ofRfl rfl

section
variable (P : Program) (own : FuncId → Bool) (N : Nat) (ops : Array Oper) (Q : Env → Prop) (rest : List Oper) (e : Env) (A : List Box)
variable (d : Option Tmp) (ty : TypeId) (pos : String) (af : Array Edge)
theorem wpD_nil : wpD P own N ops A Q [] e = Q e := ofRfl rfl

theorem wpD_plain (op : Op) : wpD P own N ops A Q (⟨d, op, ty, pos, af, none⟩ :: rest) e = ∃ v, OpK P own ⟨d, op, ty, pos, af, none⟩ (op.operands.toList.map (evA e)) A (fun v' A' => v' = v ∧ A' = A) ∧ wpD P own N ops A Q rest (putA N d v e) := by
  simp [wpD, wantA]

theorem wpD_step {op : Op} (h : callTarget P op (op.operands.toList.map (evA e)) = none) : wpD P own N ops A Q (⟨d, op, ty, pos, af, none⟩ :: rest) e = StepK (astep P op (op.operands.toList.map (evA e)) A) (ContD P own N ops A Q rest d e) := by
  rw [wpD_plain]
  simp only [opK_step P own A d ty pos af h]
  cases astep P op (op.operands.toList.map (evA e)) A with
  | none => simp [StepK]
  | some x =>
    obtain ⟨c, v0, A0⟩ := x
    simp only [StepK, ContD]
    apply propext
    constructor
    · rintro ⟨v, ⟨h1, rfl, h2⟩, h3⟩; exact ⟨h1, h2, h3⟩
    · rintro ⟨h1, h2, h3⟩; exact ⟨v0, ⟨h1, rfl, h2⟩, h3⟩

theorem wpD_pick (x y z : Operand) : wpD P own N ops A Q (⟨d, .pick x y z, ty, pos, af, none⟩ :: rest) e = StepK (astep P (.pick x y z) [evA e x, evA e y, evA e z] A) (ContD P own N ops A Q rest d e) := by
  rw [wpD_step _ _ _ _ _ _ _ _ _ _ _ _ rfl]; rfl
theorem wpD_alloc (t : TypeId) : wpD P own N ops A Q (⟨d, .alloc t, ty, pos, af, none⟩ :: rest) e = StepK (astep P (.alloc t) [] A) (ContD P own N ops A Q rest d e) := by
  rw [wpD_step _ _ _ _ _ _ _ _ _ _ _ _ rfl]; rfl
theorem wpD_box (t : TypeId) (x : Operand) : wpD P own N ops A Q (⟨d, .box t x, ty, pos, af, none⟩ :: rest) e = StepK (astep P (.box t x) [evA e x] A) (ContD P own N ops A Q rest d e) := by
  rw [wpD_step _ _ _ _ _ _ _ _ _ _ _ _ rfl]; rfl
theorem wpD_load (t : TypeId) (x : Operand) : wpD P own N ops A Q (⟨d, .load t x, ty, pos, af, none⟩ :: rest) e = StepK (astep P (.load t x) [evA e x] A) (ContD P own N ops A Q rest d e) := by
  rw [wpD_step _ _ _ _ _ _ _ _ _ _ _ _ rfl]; rfl
theorem wpD_store (t : TypeId) (x y : Operand) : wpD P own N ops A Q (⟨d, .store t x y, ty, pos, af, none⟩ :: rest) e = StepK (astep P (.store t x y) [evA e x, evA e y] A) (ContD P own N ops A Q rest d e) := by
  rw [wpD_step _ _ _ _ _ _ _ _ _ _ _ _ rfl]; rfl
theorem wpD_nilCheck (x : Operand) : wpD P own N ops A Q (⟨d, .nilCheck x, ty, pos, af, none⟩ :: rest) e = StepK (astep P (.nilCheck x) [evA e x] A) (ContD P own N ops A Q rest d e) := by
  rw [wpD_step _ _ _ _ _ _ _ _ _ _ _ _ rfl]; rfl
theorem wpD_binOp (b : BinOp) (t u : TypeId) (x y : Operand) : wpD P own N ops A Q (⟨d, .binOp b t x y u, ty, pos, af, none⟩ :: rest) e = StepK (astep P (.binOp b t x y u) [evA e x, evA e y] A) (ContD P own N ops A Q rest d e) := by
  rw [wpD_step _ _ _ _ _ _ _ _ _ _ _ _ rfl]; rfl
theorem wpD_unOp (b : UnOp) (t : TypeId) (x : Operand) : wpD P own N ops A Q (⟨d, .unOp b t x, ty, pos, af, none⟩ :: rest) e = StepK (astep P (.unOp b t x) [evA e x] A) (ContD P own N ops A Q rest d e) := by
  rw [wpD_step _ _ _ _ _ _ _ _ _ _ _ _ rfl]; rfl
theorem wpD_convert (t u : TypeId) (x : Operand) : wpD P own N ops A Q (⟨d, .convert t u x, ty, pos, af, none⟩ :: rest) e = StepK (astep P (.convert t u x) [evA e x] A) (ContD P own N ops A Q rest d e) := by
  rw [wpD_step _ _ _ _ _ _ _ _ _ _ _ _ rfl]; rfl
theorem wpD_makeSlice (t : TypeId) (x y : Operand) : wpD P own N ops A Q (⟨d, .makeSlice t x y, ty, pos, af, none⟩ :: rest) e = StepK (astep P (.makeSlice t x y) [evA e x, evA e y] A) (ContD P own N ops A Q rest d e) := by
  rw [wpD_step _ _ _ _ _ _ _ _ _ _ _ _ rfl]; rfl
theorem wpD_slice0 (t : TypeId) (x : Operand) : wpD P own N ops A Q (⟨d, .slice t x none none none, ty, pos, af, none⟩ :: rest) e = StepK (astep P (.slice t x none none none) [evA e x] A) (ContD P own N ops A Q rest d e) := by
  rw [wpD_step _ _ _ _ _ _ _ _ _ _ _ _ rfl]; rfl
theorem wpD_slice1 (t : TypeId) (x y : Operand) : wpD P own N ops A Q (⟨d, .slice t x (some y) none none, ty, pos, af, none⟩ :: rest) e = StepK (astep P (.slice t x (some y) none none) [evA e x, evA e y] A) (ContD P own N ops A Q rest d e) := by
  rw [wpD_step _ _ _ _ _ _ _ _ _ _ _ _ rfl]; rfl
theorem wpD_slice2 (t : TypeId) (x y : Operand) : wpD P own N ops A Q (⟨d, .slice t x none (some y) none, ty, pos, af, none⟩ :: rest) e = StepK (astep P (.slice t x none (some y) none) [evA e x, evA e y] A) (ContD P own N ops A Q rest d e) := by
  rw [wpD_step _ _ _ _ _ _ _ _ _ _ _ _ rfl]; rfl
theorem wpD_slice3 (t : TypeId) (x y z : Operand) : wpD P own N ops A Q (⟨d, .slice t x (some y) (some z) none, ty, pos, af, none⟩ :: rest) e = StepK (astep P (.slice t x (some y) (some z) none) [evA e x, evA e y, evA e z] A) (ContD P own N ops A Q rest d e) := by
  rw [wpD_step _ _ _ _ _ _ _ _ _ _ _ _ rfl]; rfl
theorem wpD_fieldAddr (t : TypeId) (x : Operand) (k : Nat) : wpD P own N ops A Q (⟨d, .fieldAddr t x k, ty, pos, af, none⟩ :: rest) e = StepK (astep P (.fieldAddr t x k) [evA e x] A) (ContD P own N ops A Q rest d e) := by
  rw [wpD_step _ _ _ _ _ _ _ _ _ _ _ _ rfl]; rfl
theorem wpD_field (t : TypeId) (x : Operand) (k : Nat) : wpD P own N ops A Q (⟨d, .field t x k, ty, pos, af, none⟩ :: rest) e = StepK (astep P (.field t x k) [evA e x] A) (ContD P own N ops A Q rest d e) := by
  rw [wpD_step _ _ _ _ _ _ _ _ _ _ _ _ rfl]; rfl
theorem wpD_indexAddr (t : TypeId) (x y : Operand) : wpD P own N ops A Q (⟨d, .indexAddr t x y, ty, pos, af, none⟩ :: rest) e = StepK (astep P (.indexAddr t x y) [evA e x, evA e y] A) (ContD P own N ops A Q rest d e) := by
  rw [wpD_step _ _ _ _ _ _ _ _ _ _ _ _ rfl]; rfl
theorem wpD_index (t : TypeId) (x y : Operand) : wpD P own N ops A Q (⟨d, .index t x y, ty, pos, af, none⟩ :: rest) e = StepK (astep P (.index t x y) [evA e x, evA e y] A) (ContD P own N ops A Q rest d e) := by
  rw [wpD_step _ _ _ _ _ _ _ _ _ _ _ _ rfl]; rfl
theorem wpD_extract (x : Operand) (k : Nat) : wpD P own N ops A Q (⟨d, .extract x k, ty, pos, af, none⟩ :: rest) e = StepK (astep P (.extract x k) [evA e x] A) (ContD P own N ops A Q rest d e) := by
  rw [wpD_step _ _ _ _ _ _ _ _ _ _ _ _ rfl]; rfl
theorem wpD_build (t : TypeId) (l : List (Nat × Operand)) : wpD P own N ops A Q (⟨d, .build t l.toArray, ty, pos, af, none⟩ :: rest) e = StepK (astep P (.build t l.toArray) (l.map fun p => evA e p.2) A) (ContD P own N ops A Q rest d e) := by
  rw [wpD_step _ _ _ _ _ _ _ _ _ _ _ _ rfl]; simp [Op.operands, Function.comp_def]
theorem wpD_buildSlice (t : TypeId) (n : Nat) (l : List (Nat × Operand)) : wpD P own N ops A Q (⟨d, .buildSlice t n l.toArray, ty, pos, af, none⟩ :: rest) e = StepK (astep P (.buildSlice t n l.toArray) (l.map fun p => evA e p.2) A) (ContD P own N ops A Q rest d e) := by
  rw [wpD_step _ _ _ _ _ _ _ _ _ _ _ _ rfl]; simp [Op.operands, Function.comp_def]
theorem wpD_builtin (b : Builtin) (l : List Operand) (ts : Array TypeId) : wpD P own N ops A Q (⟨d, .call ⟨.builtin b, l.toArray, ts⟩, ty, pos, af, none⟩ :: rest) e = StepK (builtinA P b ts (l.map (evA e)) A) (ContD P own N ops A Q rest d e) := by
  rw [wpD_step _ _ _ _ _ _ _ _ _ _ _ _ (by rfl)]; simp [Op.operands, Call.operands, astep]
theorem wpD_makeInterface (t : TypeId) (x : Operand) : wpD P own N ops A Q (⟨d, .makeInterface t x, ty, pos, af, none⟩ :: rest) e = StepK (astep P (.makeInterface t x) [evA e x] A) (ContD P own N ops A Q rest d e) := by
  rw [wpD_step _ _ _ _ _ _ _ _ _ _ _ _ rfl]; rfl
theorem wpD_move (x : Operand) : wpD P own N ops A Q (⟨d, .move x, ty, pos, af, none⟩ :: rest) e = wpD P own N ops A Q rest (putA N d (evA e x) e) := by
  rw [wpD_step _ _ _ _ _ _ _ _ _ _ _ _ rfl]; simp [Op.operands, astep, StepK, ContD]
theorem wpD_assign (x : Operand) : wpD P own N ops A Q (⟨d, .assign x, ty, pos, af, none⟩ :: rest) e = wpD P own N ops A Q rest (putA N d (evA e x) e) := by
  rw [wpD_step _ _ _ _ _ _ _ _ _ _ _ _ rfl]; simp [Op.operands, astep, StepK, ContD]
theorem wpD_call (g : FuncId) (l : List Operand) (ts : Array TypeId) (h : callable P g = true) : wpD P own N ops A Q (⟨d, .call ⟨.value (.func g), l.toArray, ts⟩, ty, pos, af, none⟩ :: rest) e = CallD P own g (l.map (evA e)) A N ops Q rest d e := by
  rw [wpD_plain]; simp [OpK, callTarget, Op.operands, Call.operands, evA, h, CallD]
theorem wpD_guard (op : Op) (j : Nat) (want : Bool) : wpD P own N ops A Q (⟨d, op, ty, pos, af, some (j, want)⟩ :: rest) e =
    GuardD P own N ops A Q ⟨d, op, ty, pos, af, none⟩ rest e want (match (ops[j]?).bind (·.dst) with | some t => look t e | none => .bot) := by
  simp only [wpD, wantA, GuardD]
  cases (ops[j]?).bind (·.dst) with
  | none => rfl
  | some t =>
    simp only
    cases look t e with
    | tuple l => simp
    | bool b => simp only [Option.some.injEq, true_implies, Bool.true_eq_false, false_implies, and_true]; rfl
    | _ => rfl
end
section
variable {P : Program} {own : FuncId → Bool} {N : Nat} {ops : Array Oper} {Q : Env → Prop} {rest : List Oper} {e : Env} {A : List Box}
theorem callD_intro {g : FuncId} {args args' : List AV} {v : AV} {d : Option Tmp} (hf : frzs args A = some (args', A)) (h : ACalls P g args' A (fun v' A' => v' = v ∧ A' = A))
    (hk : wpD P own N ops A Q rest (putA N d v e)) (ho : own g = false) : CallD P own g args A N ops Q rest d e := by
  refine ⟨v, ?_, hk⟩
  unfold CallK
  rw [ho]
  exact .inl ⟨args', A, hf, h⟩
theorem callDO_intro {g : FuncId} {args : List AV} {v : AV} {d : Option Tmp} (h : ACalls P g args A (fun v' A' => v' = v ∧ A' = A))
    (hk : wpD P own N ops A Q rest (putA N d v e)) : CallD P own g args A N ops Q rest d e := ⟨v, .own h, hk⟩
theorem GuardD_bool (o : Oper) (want t : Bool) (h : (t == want) = true) : GuardD P own N ops A Q o rest e want (.bool t) = wpD P own N ops A Q ({ o with guard := none } :: rest) e := by simp [GuardD, h]
theorem GuardD_not (o : Oper) (want t : Bool) (h : (t == want) = false) : GuardD P own N ops A Q o rest e want (.bool t) = wpD P own N ops A Q rest (putA N o.dst (.tuple []) e) := by simp [GuardD, h]
theorem GuardD_skip (o : Oper) (want : Bool) (l : List AV) : GuardD P own N ops A Q o rest e want (.tuple l) = wpD P own N ops A Q rest (putA N o.dst (.tuple []) e) := ofRfl rfl
theorem guardDT_intro {o : Oper} {t : Bool} (h : t = true → wpD P own N ops A Q ({ o with guard := none } :: rest) e) (h' : t = false → wpD P own N ops A Q rest (putA N o.dst (.tuple []) e)) : GuardD P own N ops A Q o rest e true (.bool t) := ⟨fun k => h (by simpa using k), fun k => h' (by simpa using k)⟩
theorem guardDF_intro {o : Oper} {t : Bool} (h : t = false → wpD P own N ops A Q ({ o with guard := none } :: rest) e) (h' : t = true → wpD P own N ops A Q rest (putA N o.dst (.tuple []) e)) : GuardD P own N ops A Q o rest e false (.bool t) := ⟨fun k => h (by simpa using k), fun k => h' (by simpa using k)⟩
end
/-- a method of an interface value, in a drawn region -/
def InvD (P : Program) (own : FuncId → Bool) (name : String) (v : AV) (args : List AV) (A : List Box) (N : Nat) (ops : Array Oper) (Q : Env → Prop) (rest : List Oper) (d : Option Tmp) (e : Env) : Prop :=
  match v with
  | .iface t x => ∃ g, methA P t name = some g ∧ callable P g = true ∧ CallD P own g (x :: args) A N ops Q rest d e
  | _ => False
theorem wpD_invoke (P : Program) (own : FuncId → Bool) (N : Nat) (ops : Array Oper) (Q : Env → Prop) (rest : List Oper) (e : Env) (A : List Box) (d : Option Tmp) (ty : TypeId) (pos : String) (af : Array Edge)
    (r : Operand) (name : String) (l : List Operand) (ts : Array TypeId) (h : InvD P own name (evA e r) (l.map (evA e)) A N ops Q rest d e) :
    wpD P own N ops A Q (⟨d, .call ⟨.invoke r name, l.toArray, ts⟩, ty, pos, af, none⟩ :: rest) e := by
  rw [wpD_plain]
  unfold InvD at h
  unfold OpK
  simp only [Op.operands, Call.operands]
  generalize hq : evA e r = q at h
  cases q <;> try exact h.elim
  rename_i t x
  obtain ⟨g, h1, h2, v, h3, h4⟩ := h
  have : callTarget P (.call ⟨.invoke r name, l.toArray, ts⟩) (List.map (evA e) (#[r] ++ l.toArray).toList) = some (g, x :: l.map (evA e)) := by
    simp [callTarget, hq, h1, h2]
  simp only [this]
  exact ⟨v, h3, h4⟩
theorem Outer_nil_eq (A : List Box) : Outer [] A = True := eq_true ⟨by simp, fun i hi => by simp at hi⟩
/-- a function's end, where all its boxes stay -/
def ARetK (P : Program) (rs : List ResultVar) (R : AV → List Box → Prop) : Exit → Env → List Box → Prop
  | .normal, e, A | .ret, e, A => match retVal P A rs e with
    | some v => R v A
    | none => False
  | _, _, _ => False

theorem acalls_introK {P : Program} {cf : Cfg} {f : FuncId} {fn : Func} {c : Code} {args : List AV} {A : List Box} {R : AV → List Box → Prop} (hm : P.follows .mixedOrders = true) (hf : P.funcs[f]? = some fn) (hb : fn.body = some c)
    (hN : fn.ntmps = cf.N) (hl : args.length ≤ cf.N) (h : wpc P cf c (ARetK P fn.results.toList R) (entry args) A) : ACalls P f args A R := by
  intro G w base xs hH hx
  have hxl : args.length = xs.size := by have := hx.1; simpa using this
  refine calls_of_wp hf hb (wp_mono (wpc_ok (base := base) (G := G) (G0 := G) (w0 := w) hm c h ⟨rfl, by simp [hN]; omega, fun t => ?_, hH⟩ (Ext.refl _ _) (Below.refl _ _)) fun x a w' hp => ?_)
  · rw [look_entry]
    by_cases ht : t < args.length
    · have h1 := hx.toArr t ht
      have h2 : (xs ++ Array.replicate (fn.ntmps - xs.size) undef).getD t undef = xs.getD t undef := by
        rw [Array.getD_eq_getD_getElem?, Array.getD_eq_getD_getElem?, Array.getElem?_append_left (by omega)]
      rw [h2]
      simpa using h1
    · have : args.getD t .bot = .bot := by simp [List.getD, Nat.not_lt.1 ht]
      rw [this]; exact .bot _
  · obtain ⟨e', A', G', hq, hr, he, hbel⟩ := hp
    have fin : ARetK P fn.results.toList R .ret e' A' → a.defers = [] ∧ ∃ v, (results fn a.tmps).run P w' = .ok v w' ∧ ∃ x v' A' G', Ending.returned v = .returned x ∧ R v' A' ∧ RV G' w' v' x ∧ HRel G' A' w' base ∧ Ext G w G' w' ∧ Below base w w' := fun hq => by
      refine ⟨hr.defers, ?_⟩
      simp only [ARetK] at hq
      split at hq
      · rename_i v hv
        obtain ⟨x, hx1, hx2⟩ := retVal_ok (P := P) hr.heap hr.env hv
        exact ⟨x, hx1, x, v, A', G', rfl, hq, hx2, hr.heap, he, hbel⟩
      · exact hq.elim
    cases x with
    | normal => exact fin hq
    | ret => exact fin hq
    | exit id => exact hq.elim
    | goto l => exact hq.elim
    | panic ch => exact hq.elim
    | outgrown => exact hq.elim
theorem acalls_enterK {P : Program} {cf : Cfg} {f : FuncId} {fn : Func} {args : List AV} {A : List Box} {R : AV → List Box → Prop} (hm : P.follows .mixedOrders = true) (hf : P.funcs[f]? = some fn)
    (hN : fn.ntmps = cf.N) (hl : args.length ≤ cf.N) (h : EnterK P cf fn.body (ARetK P fn.results.toList R) (entry args) A) : ACalls P f args A R := by
  cases hb : fn.body with
  | none => rw [hb] at h; exact h.elim
  | some c => rw [hb] at h; exact acalls_introK hm hf hb hN hl h

/-! ### boxes that a caller owns -/
section
variable {α : Type} {A B : List α} {i : Nat} {x d : α}
theorem set_app1 (h : i < A.length) : (A ++ B).set i x = A.set i x ++ B := by rw [List.set_append_left _ _ h]
theorem getD_set1 (h : i < A.length) : (A.set i x).getD i d = x := by simp [List.getD, h]
theorem take_set_app : (A.set i x ++ B).take A.length = A.set i x := by
  rw [List.take_append_of_le_length (by simp)]
  exact List.take_of_length_le (by simp)
theorem take_set : (A.set i x).take A.length = A.set i x := List.take_of_length_le (by simp)
end
theorem outer_set (A B : List Box) (i : Nat) (X : Box) (h : boxClosed A.length X = true) : Outer A (A.set i X ++ B) := by
  refine ⟨by simp, fun j hj => ?_⟩
  rw [getD_append_left (by simpa using hj)]
  by_cases e : i = j
  · subst e
    rw [getD_set1 hj]; exact .inr h
  · left
    simp [List.getD, List.getElem?_set_ne e]
theorem outer_set0 (A : List Box) (i : Nat) (X : Box) (h : boxClosed A.length X = true) : Outer A (A.set i X) := by
  have := outer_set A [] i X h
  rwa [List.append_nil] at this
section
variable {α : Type} (A B : List α) (i k : Nat) (x y d : α)
theorem getD_sapp0 : (A.set i x ++ B).getD A.length d = B.getD 0 d := by
  have := getD_app0 (A.set i x) B d
  rwa [List.length_set] at this
theorem getD_sapp : (A.set i x ++ B).getD (A.length + k) d = B.getD k d := by
  have := getD_app (A.set i x) B d k
  rwa [List.length_set] at this
theorem set_sapp0 : (A.set i x ++ B).set A.length y = A.set i x ++ B.set 0 y := by
  have := set_app0 (A.set i x) B y
  rwa [List.length_set] at this
theorem set_sapp : (A.set i x ++ B).set (A.length + k) y = A.set i x ++ B.set k y := by
  have := set_app (A.set i x) B y k
  rwa [List.length_set] at this
end
end Go.Abs
