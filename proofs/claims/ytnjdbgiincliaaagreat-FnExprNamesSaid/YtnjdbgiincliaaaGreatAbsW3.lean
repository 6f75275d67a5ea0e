/- The rules by which a run is walked. -/
import Derived.Test.YtnjdbgiincliaaaGreatAbsP
import Derived.ProofKit
/- How a walk is reckoned: equations for simp. What comes later stands in closed words, so that simp does not look into it. -/
set_option linter.unusedVariables false
set_option linter.unusedSimpArgs false
namespace Go.Abs
open Go.RowKit
theorem ofRfl {a b : Prop} (h : a = b) : a = b:=h
def StepK (r : Option (Prop × AV × List Box)) (K : AV → List Box → Prop) : Prop :=
  match r with
  | some (c,v,A')=>c ∧ K v A'
  | none=>False
def ContO (P : Program) (own : FuncId → Bool) (N : Nat) (ops : Array Oper) (Q : Env → List Box → Prop) (rest : List Oper) (d : Option Tmp) (e : Env) (v : AV) (A : List Box) : Prop:=wpO P own N ops Q rest (putA N d v e) A
def KeepK (vs : List Nat) (Q : Exit → Env → List Box → Prop) (e : Env) (A : List Box) : Prop:=Q .normal (keep vs e) A
def CondK (P : Program) (c : Cfg) (x y : Code) (Q : Exit → Env → List Box → Prop) (e : Env) (A : List Box) (v : AV) : Prop :=
  match v with
  | .bool t=>(t = true → wpc P c x Q e A) ∧ (t = false → wpc P c y Q e A)
  | _=>False
def GuardK (P : Program) (own : FuncId → Bool) (N : Nat) (ops : Array Oper) (Q : Env → List Box → Prop) (o : Oper) (rest : List Oper) (e : Env) (A : List Box) (want : Bool) (v : AV) : Prop :=
  match v with
  | .bool t=>((t == want) = true → wpO P own N ops Q ({ o with guard:=none } :: rest) e A) ∧ ((t == want) = false → wpO P own N ops Q rest (putA N o.dst (.tuple []) e) A)
  | .tuple _=>wpO P own N ops Q rest (putA N o.dst (.tuple []) e) A
  | _=>False
theorem StepK_some (c : Prop) (v : AV) (A : List Box) (P : Program) (own : FuncId → Bool) (N : Nat) (ops : Array Oper) (Q : Env → List Box → Prop) (rest : List Oper) (d : Option Tmp) (e : Env) :
    StepK (Option.some (c,v,A)) (ContO P own N ops Q rest d e) = (c ∧ wpO P own N ops Q rest (putA N d v e) A):=rfl
theorem KeepK_eq (vs : List Nat) (Q : Exit → Env → List Box → Prop) (e : Env) (A : List Box) : KeepK vs Q e A = Q .normal (keep vs e) A:=ofRfl rfl
theorem CondK_true (P : Program) (c : Cfg) (x y : Code) (Q : Exit → Env → List Box → Prop) (e : Env) (A : List Box) : CondK P c x y Q e A (.bool true) = wpc P c x Q e A:=by simp [CondK]
theorem CondK_false (P : Program) (c : Cfg) (x y : Code) (Q : Exit → Env → List Box → Prop) (e : Env) (A : List Box) : CondK P c x y Q e A (.bool false) = wpc P c y Q e A:=by simp [CondK]
theorem condK_intro {P : Program} {c : Cfg} {x y : Code} {Q : Exit → Env → List Box → Prop} {e : Env} {A : List Box} {b : Bool} (h : b = true → wpc P c x Q e A) (h' : b = false → wpc P c y Q e A) : CondK P c x y Q e A (.bool b):=⟨h,h'⟩
section
variable (P : Program) (c : Cfg) (Q : Exit → Env → List Box → Prop) (e : Env) (A : List Box)
theorem wpc_skip : wpc P c .skip Q e A = Q .normal e A:=ofRfl rfl
theorem wpc_label (l : Nat) : wpc P c (.label l) Q e A = Q .normal e A:=ofRfl rfl
theorem wpc_seq (x y : Code) : wpc P c (.seq x y) Q e A = wpc P c x (AThen (wpc P c y Q) Q) e A:=ofRfl rfl
theorem wpc_region (id : Nat) (l : List Oper) : wpc P c (.region id l.toArray false) Q e A = wpO P c.own c.N l.toArray (KeepK c.vs Q) l e A:=ofRfl rfl
theorem wpc_draw (id : Nat) (l : List Oper) : wpc P c (.region id l.toArray true) Q e A = ((dstOk c.N l.toArray = true ∧ Region.lexB .any l.toArray = true ∧ wpD P c.own c.N l.toArray A (fun e=>Q .normal (keep c.vs e) A) l e) ∨ DrawE P c l.toArray Q e A):=ofRfl rfl
theorem wpc_block (id : Nat) (x : Code) : wpc P c (.block id x) Q e A = wpc P c x (ABlk id Q) e A:=ofRfl rfl
theorem wpc_loop (x : Code) : wpc P c (.loop x) Q e A = ALoop (wpc P c x) Q e A:=ofRfl rfl
theorem wpc_exit (id : Nat) : wpc P c (.exit id) Q e A = Q (.exit id) e A:=ofRfl rfl
theorem wpc_ret : wpc P c .ret Q e A = Q .ret e A:=ofRfl rfl
theorem wpc_cond (b : Operand) (x y : Code) : wpc P c (.cond b x y) Q e A = CondK P c x y Q e A (evA e b):=by
  simp only [wpc,CondK]
  cases evA e b <;> rfl
end
section
variable (n : Env → List Box → Prop) (Q : Exit → Env → List Box → Prop) (e : Env) (A : List Box)
theorem AThen_normal : AThen n Q .normal e A = n e A:=ofRfl rfl
theorem AThen_ret : AThen n Q .ret e A = Q .ret e A:=ofRfl rfl
theorem AThen_exit (i : Nat) : AThen n Q (.exit i) e A = Q (.exit i) e A:=ofRfl rfl
theorem ABlk_normal (i : Nat) : ABlk i Q .normal e A = Q .normal e A:=ofRfl rfl
theorem ABlk_ret (i : Nat) : ABlk i Q .ret e A = Q .ret e A:=ofRfl rfl
theorem ABlk_exit (i j : Nat) : ABlk i Q (.exit j) e A = if j = i then Q .normal e A else Q (.exit j) e A:=ofRfl rfl
end
section
variable (P : Program) (own : FuncId → Bool) (N : Nat) (ops : Array Oper) (Q : Env → List Box → Prop) (rest : List Oper) (e : Env) (A : List Box)
variable (d : Option Tmp) (ty : TypeId) (pos : String) (af : Array Edge)
theorem wpO_nil : wpO P own N ops Q [] e A = Q e A:=ofRfl rfl
theorem wpO_plain (op : Op) : wpO P own N ops Q (⟨d,op,ty,pos,af,none⟩ :: rest) e A = OpK P own ⟨d,op,ty,pos,af,none⟩ (op.operands.toList.map (evA e)) A (ContO P own N ops Q rest d e):=by
  simp [wpO,wantA]; rfl
theorem opK_step {g : Option (Nat × Bool)} {op : Op} {vs : List AV} {K : AV → List Box → Prop} (h : callTarget P op vs = none) : OpK P own ⟨d,op,ty,pos,af,g⟩ vs A K = StepK (astep P op vs A) K:=by
  unfold OpK StepK
  simp only [h]
  cases astep P op vs A <;> rfl
theorem wpO_move (x : Operand) : wpO P own N ops Q (⟨d,.move x,ty,pos,af,none⟩ :: rest) e A = wpO P own N ops Q rest (putA N d (evA e x) e) A:=by
  rw [wpO_plain,opK_step _ _ _ _ _ _ _ rfl]; simp [Op.operands,astep,StepK,ContO]
theorem wpO_assign (x : Operand) : wpO P own N ops Q (⟨d,.assign x,ty,pos,af,none⟩ :: rest) e A = wpO P own N ops Q rest (putA N d (evA e x) e) A:=by
  rw [wpO_plain,opK_step _ _ _ _ _ _ _ rfl]; simp [Op.operands,astep,StepK,ContO]
theorem wpO_pick (x y z : Operand) : wpO P own N ops Q (⟨d,.pick x y z,ty,pos,af,none⟩ :: rest) e A = StepK (astep P (.pick x y z) [evA e x,evA e y,evA e z] A) (ContO P own N ops Q rest d e):=by
  rw [wpO_plain,opK_step _ _ _ _ _ _ _ rfl]; rfl
theorem wpO_alloc (t : TypeId) : wpO P own N ops Q (⟨d,.alloc t,ty,pos,af,none⟩ :: rest) e A = StepK (astep P (.alloc t) [] A) (ContO P own N ops Q rest d e):=by
  rw [wpO_plain,opK_step _ _ _ _ _ _ _ rfl]; rfl
theorem wpO_box (t : TypeId) (x : Operand) : wpO P own N ops Q (⟨d,.box t x,ty,pos,af,none⟩ :: rest) e A = StepK (astep P (.box t x) [evA e x] A) (ContO P own N ops Q rest d e):=by
  rw [wpO_plain,opK_step _ _ _ _ _ _ _ rfl]; rfl
theorem wpO_load (t : TypeId) (x : Operand) : wpO P own N ops Q (⟨d,.load t x,ty,pos,af,none⟩ :: rest) e A = StepK (astep P (.load t x) [evA e x] A) (ContO P own N ops Q rest d e):=by
  rw [wpO_plain,opK_step _ _ _ _ _ _ _ rfl]; rfl
theorem wpO_store (t : TypeId) (x y : Operand) : wpO P own N ops Q (⟨d,.store t x y,ty,pos,af,none⟩ :: rest) e A = StepK (astep P (.store t x y) [evA e x,evA e y] A) (ContO P own N ops Q rest d e):=by
  rw [wpO_plain,opK_step _ _ _ _ _ _ _ rfl]; rfl
theorem wpO_nilCheck (x : Operand) : wpO P own N ops Q (⟨d,.nilCheck x,ty,pos,af,none⟩ :: rest) e A = StepK (astep P (.nilCheck x) [evA e x] A) (ContO P own N ops Q rest d e):=by
  rw [wpO_plain,opK_step _ _ _ _ _ _ _ rfl]; rfl
theorem wpO_binOp (b : BinOp) (t u : TypeId) (x y : Operand) : wpO P own N ops Q (⟨d,.binOp b t x y u,ty,pos,af,none⟩ :: rest) e A = StepK (astep P (.binOp b t x y u) [evA e x,evA e y] A) (ContO P own N ops Q rest d e):=by
  rw [wpO_plain,opK_step _ _ _ _ _ _ _ rfl]; rfl
theorem wpO_unOp (b : UnOp) (t : TypeId) (x : Operand) : wpO P own N ops Q (⟨d,.unOp b t x,ty,pos,af,none⟩ :: rest) e A = StepK (astep P (.unOp b t x) [evA e x] A) (ContO P own N ops Q rest d e):=by
  rw [wpO_plain,opK_step _ _ _ _ _ _ _ rfl]; rfl
theorem wpO_convert (t u : TypeId) (x : Operand) : wpO P own N ops Q (⟨d,.convert t u x,ty,pos,af,none⟩ :: rest) e A = StepK (astep P (.convert t u x) [evA e x] A) (ContO P own N ops Q rest d e):=by
  rw [wpO_plain,opK_step _ _ _ _ _ _ _ rfl]; rfl
theorem wpO_makeSlice (t : TypeId) (x y : Operand) : wpO P own N ops Q (⟨d,.makeSlice t x y,ty,pos,af,none⟩ :: rest) e A = StepK (astep P (.makeSlice t x y) [evA e x,evA e y] A) (ContO P own N ops Q rest d e):=by
  rw [wpO_plain,opK_step _ _ _ _ _ _ _ rfl]; rfl
theorem wpO_slice0 (t : TypeId) (x : Operand) : wpO P own N ops Q (⟨d,.slice t x none none none,ty,pos,af,none⟩ :: rest) e A = StepK (astep P (.slice t x none none none) [evA e x] A) (ContO P own N ops Q rest d e):=by
  rw [wpO_plain,opK_step _ _ _ _ _ _ _ rfl]; rfl
theorem wpO_slice1 (t : TypeId) (x y : Operand) : wpO P own N ops Q (⟨d,.slice t x (some y) none none,ty,pos,af,none⟩ :: rest) e A = StepK (astep P (.slice t x (some y) none none) [evA e x,evA e y] A) (ContO P own N ops Q rest d e):=by
  rw [wpO_plain,opK_step _ _ _ _ _ _ _ rfl]; rfl
theorem wpO_slice2 (t : TypeId) (x y : Operand) : wpO P own N ops Q (⟨d,.slice t x none (some y) none,ty,pos,af,none⟩ :: rest) e A = StepK (astep P (.slice t x none (some y) none) [evA e x,evA e y] A) (ContO P own N ops Q rest d e):=by
  rw [wpO_plain,opK_step _ _ _ _ _ _ _ rfl]; rfl
theorem wpO_slice3 (t : TypeId) (x y z : Operand) : wpO P own N ops Q (⟨d,.slice t x (some y) (some z) none,ty,pos,af,none⟩ :: rest) e A = StepK (astep P (.slice t x (some y) (some z) none) [evA e x,evA e y,evA e z] A) (ContO P own N ops Q rest d e):=by
  rw [wpO_plain,opK_step _ _ _ _ _ _ _ rfl]; rfl
theorem wpO_fieldAddr (t : TypeId) (x : Operand) (k : Nat) : wpO P own N ops Q (⟨d,.fieldAddr t x k,ty,pos,af,none⟩ :: rest) e A = StepK (astep P (.fieldAddr t x k) [evA e x] A) (ContO P own N ops Q rest d e):=by
  rw [wpO_plain,opK_step _ _ _ _ _ _ _ rfl]; rfl
theorem wpO_field (t : TypeId) (x : Operand) (k : Nat) : wpO P own N ops Q (⟨d,.field t x k,ty,pos,af,none⟩ :: rest) e A = StepK (astep P (.field t x k) [evA e x] A) (ContO P own N ops Q rest d e):=by
  rw [wpO_plain,opK_step _ _ _ _ _ _ _ rfl]; rfl
theorem wpO_indexAddr (t : TypeId) (x y : Operand) : wpO P own N ops Q (⟨d,.indexAddr t x y,ty,pos,af,none⟩ :: rest) e A = StepK (astep P (.indexAddr t x y) [evA e x,evA e y] A) (ContO P own N ops Q rest d e):=by
  rw [wpO_plain,opK_step _ _ _ _ _ _ _ rfl]; rfl
theorem wpO_index (t : TypeId) (x y : Operand) : wpO P own N ops Q (⟨d,.index t x y,ty,pos,af,none⟩ :: rest) e A = StepK (astep P (.index t x y) [evA e x,evA e y] A) (ContO P own N ops Q rest d e):=by
  rw [wpO_plain,opK_step _ _ _ _ _ _ _ rfl]; rfl
theorem wpO_extract (x : Operand) (k : Nat) : wpO P own N ops Q (⟨d,.extract x k,ty,pos,af,none⟩ :: rest) e A = StepK (astep P (.extract x k) [evA e x] A) (ContO P own N ops Q rest d e):=by
  rw [wpO_plain,opK_step _ _ _ _ _ _ _ rfl]; rfl
theorem wpO_build (t : TypeId) (l : List (Nat × Operand)) : wpO P own N ops Q (⟨d,.build t l.toArray,ty,pos,af,none⟩ :: rest) e A = StepK (astep P (.build t l.toArray) (l.map fun p=>evA e p.2) A) (ContO P own N ops Q rest d e):=by
  rw [wpO_plain,opK_step _ _ _ _ _ _ _ rfl]; simp [Op.operands,Function.comp_def]
theorem wpO_buildSlice (t : TypeId) (n : Nat) (l : List (Nat × Operand)) : wpO P own N ops Q (⟨d,.buildSlice t n l.toArray,ty,pos,af,none⟩ :: rest) e A = StepK (astep P (.buildSlice t n l.toArray) (l.map fun p=>evA e p.2) A) (ContO P own N ops Q rest d e):=by
  rw [wpO_plain,opK_step _ _ _ _ _ _ _ rfl]; simp [Op.operands,Function.comp_def]
theorem wpO_builtin (b : Builtin) (l : List Operand) (ts : Array TypeId) : wpO P own N ops Q (⟨d,.call ⟨.builtin b,l.toArray,ts⟩,ty,pos,af,none⟩ :: rest) e A = StepK (builtinA P b ts (l.map (evA e)) A) (ContO P own N ops Q rest d e):=by
  rw [wpO_plain,opK_step _ _ _ _ _ _ _ (by rfl)]; simp [Op.operands,Call.operands,astep]
theorem wpO_call (g : FuncId) (l : List Operand) (ts : Array TypeId) (h : callable P g = true) : wpO P own N ops Q (⟨d,.call ⟨.value (.func g),l.toArray,ts⟩,ty,pos,af,none⟩ :: rest) e A = CallK P own g (l.map (evA e)) A (ContO P own N ops Q rest d e):=by
  rw [wpO_plain]; simp [OpK,callTarget,Op.operands,Call.operands,evA,h]
def CallVK (P : Program) (own : FuncId → Bool) (v : AV) (args : List AV) (A : List Box) (K : AV → List Box → Prop) : Prop :=
  match v with
  | .func (.func g) first captured=>callable P g = true ∧ CallK P own g (first ++ args ++ captured) A K
  | _=>False
theorem wpO_callv (r : Operand) (l : List Operand) (ts : Array TypeId) (h : CallVK P own (evA e r) (l.map (evA e)) A (ContO P own N ops Q rest d e)) :
    wpO P own N ops Q (⟨d,.call ⟨.value r,l.toArray,ts⟩,ty,pos,af,none⟩ :: rest) e A:=by
  rw [wpO_plain]
  unfold CallVK at h
  unfold OpK
  simp only [Op.operands,Call.operands]
  generalize hq : evA e r = q at h
  cases q <;> try exact h.elim
  rename_i fn first captured
  cases fn <;> try exact h.elim
  rename_i g
  have : callTarget P (.call ⟨.value r,l.toArray,ts⟩) (List.map (evA e) (#[r] ++ l.toArray).toList) = some (g,first ++ l.map (evA e) ++ captured):=by
    simp [callTarget,hq,h.1]
  simp only [this]
  exact h.2
def InvK (P : Program) (own : FuncId → Bool) (name : String) (v : AV) (args : List AV) (A : List Box) (K : AV → List Box → Prop) : Prop :=
  match v with
  | .iface t x=>∃ g,methA P t name = some g ∧ callable P g = true ∧ CallK P own g (x :: args) A K
  | .ifx t x=>∃ g,methA P t name = some g ∧ callable P g = true ∧ CallK P own g (x :: args) A K
  | _=>False
theorem wpO_invoke (r : Operand) (name : String) (l : List Operand) (ts : Array TypeId) (h : InvK P own name (evA e r) (l.map (evA e)) A (ContO P own N ops Q rest d e)) :
    wpO P own N ops Q (⟨d,.call ⟨.invoke r name,l.toArray,ts⟩,ty,pos,af,none⟩ :: rest) e A:=by
  rw [wpO_plain]
  unfold InvK at h
  unfold OpK
  simp only [Op.operands,Call.operands]
  generalize hq : evA e r = q at h
  cases q <;> try exact h.elim
  all_goals
    rename_i t x
    obtain ⟨g,h1,h2,h3⟩:=h
    have : callTarget P (.call ⟨.invoke r name,l.toArray,ts⟩) (List.map (evA e) (#[r] ++ l.toArray).toList) = some (g,x :: l.map (evA e)):=by
      simp [callTarget,hq,h1,h2]
    simp only [this]
    exact h3
theorem invK_intro {P : Program} {own : FuncId → Bool} {name : String} {t : TypeId} {x : AV} {args : List AV} {A : List Box} {K : AV → List Box → Prop} (g : FuncId) (h1 : methA P t name = some g) (h2 : callable P g = true) (h3 : CallK P own g (x :: args) A K) :
    InvK P own name (.iface t x) args A K:=⟨g,h1,h2,h3⟩
theorem invX_intro {P : Program} {own : FuncId → Bool} {name : String} {t : TypeId} {x : AV} {args : List AV} {A : List Box} {K : AV → List Box → Prop} (g : FuncId) (h1 : methA P t name = some g) (h2 : callable P g = true) (h3 : CallK P own g (x :: args) A K) :
    InvK P own name (.ifx t x) args A K:=⟨g,h1,h2,h3⟩
theorem wpO_makeInterface (t : TypeId) (x : Operand) : wpO P own N ops Q (⟨d,.makeInterface t x,ty,pos,af,none⟩ :: rest) e A = StepK (astep P (.makeInterface t x) [evA e x] A) (ContO P own N ops Q rest d e):=by
  rw [wpO_plain,opK_step _ _ _ _ _ _ _ rfl]; rfl
theorem wpO_makeMap (t : TypeId) : wpO P own N ops Q (⟨d,.makeMap t none,ty,pos,af,none⟩ :: rest) e A = StepK (astep P (.makeMap t none) [] A) (ContO P own N ops Q rest d e):=by
  rw [wpO_plain,opK_step _ _ _ _ _ _ _ rfl]; rfl
theorem wpO_lookup (t : TypeId) (x y : Operand) (b : Bool) : wpO P own N ops Q (⟨d,.lookup t x y b,ty,pos,af,none⟩ :: rest) e A = StepK (astep P (.lookup t x y b) [evA e x,evA e y] A) (ContO P own N ops Q rest d e):=by
  rw [wpO_plain,opK_step _ _ _ _ _ _ _ rfl]; rfl
theorem wpO_mapUpdate (t : TypeId) (x y z : Operand) : wpO P own N ops Q (⟨d,.mapUpdate t x y z,ty,pos,af,none⟩ :: rest) e A = StepK (astep P (.mapUpdate t x y z) [evA e x,evA e y,evA e z] A) (ContO P own N ops Q rest d e):=by
  rw [wpO_plain,opK_step _ _ _ _ _ _ _ rfl]; rfl
theorem wpO_insert (t : TypeId) (x y z : Operand) : wpO P own N ops Q (⟨d,.insert t x y z,ty,pos,af,none⟩ :: rest) e A = StepK (astep P (.insert t x y z) [evA e x,evA e y,evA e z] A) (ContO P own N ops Q rest d e):=by
  rw [wpO_plain,opK_step _ _ _ _ _ _ _ rfl]; rfl
theorem wpO_makeFunc (fn : Fn) (l m : List Operand) : wpO P own N ops Q (⟨d,.makeFunc fn l.toArray m.toArray,ty,pos,af,none⟩ :: rest) e A = StepK (astep P (.makeFunc fn l.toArray m.toArray) ((l ++ m).map (evA e)) A) (ContO P own N ops Q rest d e):=by
  rw [wpO_plain,opK_step _ _ _ _ _ _ _ rfl]; simp [Op.operands]
theorem wpO_guard (op : Op) (j : Nat) (want : Bool) : wpO P own N ops Q (⟨d,op,ty,pos,af,some (j,want)⟩ :: rest) e A =
    GuardK P own N ops Q ⟨d,op,ty,pos,af,none⟩ rest e A want (match (ops[j]?).bind (·.dst) with | some t=>look t e | none=>.bot):=by
  simp only [wpO,wantA,GuardK]
  cases (ops[j]?).bind (·.dst) with
  | none=>rfl
  | some t =>
    simp only
    cases look t e with
    | tuple l=>simp
    | bool b=>simp only [true_implies,Bool.true_eq_false,false_implies,and_true]; rfl
    | _=>rfl
end
theorem GuardK_bool (P : Program) (own : FuncId → Bool) (N : Nat) (ops : Array Oper) (Q : Env → List Box → Prop) (o : Oper) (rest : List Oper) (e : Env) (A : List Box) (want t : Bool) (h : (t == want) = true) :
    GuardK P own N ops Q o rest e A want (.bool t) = wpO P own N ops Q ({ o with guard:=none } :: rest) e A:=by simp [GuardK,h]
theorem GuardK_not (P : Program) (own : FuncId → Bool) (N : Nat) (ops : Array Oper) (Q : Env → List Box → Prop) (o : Oper) (rest : List Oper) (e : Env) (A : List Box) (want t : Bool) (h : (t == want) = false) :
    GuardK P own N ops Q o rest e A want (.bool t) = wpO P own N ops Q rest (putA N o.dst (.tuple []) e) A:=by simp [GuardK,h]
theorem GuardK_skip (P : Program) (own : FuncId → Bool) (N : Nat) (ops : Array Oper) (Q : Env → List Box → Prop) (o : Oper) (rest : List Oper) (e : Env) (A : List Box) (want : Bool) (l : List AV) :
    GuardK P own N ops Q o rest e A want (.tuple l) = wpO P own N ops Q rest (putA N o.dst (.tuple []) e) A:=ofRfl rfl
theorem guardK_intro {P : Program} {own : FuncId → Bool} {N : Nat} {ops : Array Oper} {Q : Env → List Box → Prop} {o : Oper} {rest : List Oper} {e : Env} {A : List Box} {want t : Bool}
    (h : (t == want) = true → wpO P own N ops Q ({ o with guard:=none } :: rest) e A) (h' : (t == want) = false → wpO P own N ops Q rest (putA N o.dst (.tuple []) e) A) : GuardK P own N ops Q o rest e A want (.bool t):=⟨h,h'⟩
theorem guardT_intro {P : Program} {own : FuncId → Bool} {N : Nat} {ops : Array Oper} {Q : Env → List Box → Prop} {o : Oper} {rest : List Oper} {e : Env} {A : List Box} {t : Bool}
    (h : t = true → wpO P own N ops Q ({ o with guard:=none } :: rest) e A) (h' : t = false → wpO P own N ops Q rest (putA N o.dst (.tuple []) e) A) : GuardK P own N ops Q o rest e A true (.bool t):=⟨fun k=>h (by simpa using k),fun k=>h' (by simpa using k)⟩
theorem guardF_intro {P : Program} {own : FuncId → Bool} {N : Nat} {ops : Array Oper} {Q : Env → List Box → Prop} {o : Oper} {rest : List Oper} {e : Env} {A : List Box} {t : Bool}
    (h : t = false → wpO P own N ops Q ({ o with guard:=none } :: rest) e A) (h' : t = true → wpO P own N ops Q rest (putA N o.dst (.tuple []) e) A) : GuardK P own N ops Q o rest e A false (.bool t):=⟨fun k=>h (by simpa using k),fun k=>h' (by simpa using k)⟩
def EnterK (P : Program) (cf : Cfg) (b : Option Code) (Q : Exit → Env → List Box → Prop) (e : Env) (A : List Box) : Prop :=
  match b with
  | some c=>wpc P cf c Q e A
  | none=>False
theorem EnterK_some (P : Program) (cf : Cfg) (c : Code) (Q : Exit → Env → List Box → Prop) (e : Env) (A : List Box) : EnterK P cf (some c) Q e A = wpc P cf c Q e A:=ofRfl rfl
theorem acalls_enter {P : Program} {cf : Cfg} {f : FuncId} {fn : Func} {args : List AV} {A : List Box} {R : AV → List Box → Prop} (hm : P.follows .mixedOrders = true) (hf : P.funcs[f]? = some fn)
    (hN : fn.ntmps = cf.N) (hl : args.length ≤ cf.N) (h : EnterK P cf fn.body (ARet P fn.results.toList A R) (entry args) A) : ACalls P f args A R:=by
  cases hb : fn.body with
  | none=>rw [hb] at h; exact h.elim
  | some c=>rw [hb] at h; exact acalls_intro hm hf hb hN hl h
theorem callK_intro {P : Program} {own ow : FuncId → Bool} {g : FuncId} {args : List AV} {A A1 : List Box} {args' : List AV} {R : AV → List Box → Prop} {N : Nat} {ops : Array Oper} {Q : Env → List Box → Prop} {rest : List Oper} {d : Option Tmp} {e : Env}
    (hf : frzs args A = some (args',A1)) (h : ACalls P g args' A1 R)
    (hk : ∀ v A',R v A' → wpO P ow N ops Q rest (putA N d v e) A') (ho : own g = false) : CallK P own g args A (ContO P ow N ops Q rest d e):=by
  unfold CallK
  rw [ho]
  exact .inl ⟨args',A1,hf,h.mono hk⟩
theorem CallK.own {P : Program} {own : FuncId → Bool} {g : FuncId} {args : List AV} {A : List Box} {K : AV → List Box → Prop} (h : ACalls P g args A K) : CallK P own g args A K:=by
  unfold CallK
  split
  · exact h
  · exact .inr h
theorem callO_intro {P : Program} {own ow : FuncId → Bool} {g : FuncId} {args : List AV} {A : List Box} {R : AV → List Box → Prop} {N : Nat} {ops : Array Oper} {Q : Env → List Box → Prop} {rest : List Oper} {d : Option Tmp} {e : Env}
    (h : ACalls P g args A R) (hk : ∀ v A',R v A' → wpO P ow N ops Q rest (putA N d v e) A') : CallK P own g args A (ContO P ow N ops Q rest d e):=.own (h.mono hk)
def LoopK (vs : List Nat) (I : Env → List Box → Prop) (μ : Env → List Box → Nat) (m : Nat) (e : Env) (A : List Box) : Prop:=I (keep vs e) A ∧ μ (keep vs e) A < m
theorem LoopK_eq (vs : List Nat) (I : Env → List Box → Prop) (μ : Env → List Box → Nat) (m : Nat) (e : Env) (A : List Box) : LoopK vs I μ m e A = (I (keep vs e) A ∧ μ (keep vs e) A < m):=ofRfl rfl
theorem aloop_intro {body : (Exit → Env → List Box → Prop) → Env → List Box → Prop} {Q : Exit → Env → List Box → Prop} {e : Env} {A : List Box} (vs : List Nat) (I : Env → List Box → Prop) (μ : Env → List Box → Nat) (h : I (keep vs e) A)
    (hr : ∀ e A,I e A → body (AThen (LoopK vs I μ (μ e A)) Q) e A) : ALoop body Q e A:=⟨vs,I,μ,h,hr⟩
theorem Outer.app (A B : List Box) : Outer A (A ++ B):=⟨by simp,fun i hi=>.inl (getD_append_left hi)⟩
theorem Outer.refl (A : List Box) : Outer A A:=⟨Nat.le_refl _,fun i hi=>.inl rfl⟩
theorem Outer_refl_eq (A : List Box) : Outer A A = True:=eq_true (.refl A)
theorem Outer_app_eq (A B : List Box) : Outer A (A ++ B) = True:=eq_true (.app A B)
section
variable {α : Type} (A B : List α) (d x : α) (k : Nat)
theorem getD_app0 : (A ++ B).getD A.length d = B.getD 0 d:=by simp [List.getD,List.getElem?_append_right]
theorem getD_app : (A ++ B).getD (A.length + k) d = B.getD k d:=by simp [List.getD,List.getElem?_append_right]
theorem getD_app1 (h : k < A.length) : (A ++ B).getD k d = A.getD k d:=getD_append_left h
theorem set_app0 : (A ++ B).set A.length x = A ++ B.set 0 x:=by simp [List.set_append]
theorem set_app : (A ++ B).set (A.length + k) x = A ++ B.set k x:=by simp [List.set_append]
theorem length_app1 : (A ++ B).length = A.length + B.length:=List.length_append
end
theorem List.take_left_app {α : Type} (A B : List α) : (A ++ B).take A.length = A:=List.take_left
end Go.Abs
/- From a call on what the arguments stand for to the statement of a law. -/
namespace Go.Abs
open Go.RowKit Go.ChangeShapes Go.WideShapes Go.ChangeAt
section
variable {H : Type} {enc : TypeId × Value → H} {P : Program} {W W' : World}
theorem trodAll_stays (hl : laidOutB P = true) (hb : Below W.heap.size W W') : ∀ {ts : List TypeId} {vs : List Value} {ds : List (DataW H)} {ps : List MemPlace},(∀ t ∈ ts,P.readableRec t = true ∧ t < P.types.size) →
    DataW.TrodAll enc P W 0 (fun _=>true) true ts vs ds ps → DataW.TrodAll enc P W' 0 (fun b=>decide (b < W.heap.size)) true ts vs ds ps
  | [],[],[],ps,_,h=>h
  | [],_ :: _,_,ps,_,h=>h.elim
  | [],[],_ :: _,ps,_,h=>h.elim
  | _ :: _,[],_,ps,_,h=>h.elim
  | _ :: _,_ :: _,[],ps,_,h=>h.elim
  | t :: ts,v :: vs,d :: ds,ps,hts,h=>by
    have hlt:=h.lt
    obtain ⟨p,q,h1,h2,rfl⟩:=h
    exact ⟨p,q,hb.trod hl (hts t (by simp)).1 (hts t (by simp)).2 h1 (fun x hx=>hlt x (by simp [hx])),trodAll_stays hl hb (fun t ht=>hts t (by simp [ht])) h2,rfl⟩
theorem law_post {f : Func} {s : ChangeSpec} {args : Array Value} {ds gs : List (DataW H)} {before : List MemPlace} {bt : TypeId} (hl : laidOutB P = true) (hts : ∀ t ∈ f.params.toList,P.readableRec t = true ∧ t < P.types.size)
    (hvars : s.vars = []) (hbt : P.underlying bt = some .bool) (hrt : f.resultTypes = #[bt]) (hfn : (s.fn H (ds ++ gs)).results = [.lit (.bool true)] ∧ (s.fn H (ds ++ gs)).args = ds)
    (hvs : (s.fn H (ds ++ gs)).vars = [])
    (hW : DataW.Whole enc P f.params.toList s.vars false W args.toList ds gs before) (hb : Below W.heap.size W W') : s.post enc P f false true false false W args (.bool true) W':=by
  obtain ⟨p,q,hA,hV,rfl,hz,hn⟩:=hW
  have hV':=hV
  rw [hvars] at hV'
  obtain ⟨rfl,rfl⟩:=trodVars_none hV'
  have hargs:=trodAll_stays hl hb hts hA
  refine ⟨ds,[],p ++ [],[],p,[],⟨p,[],hA,hV,rfl,hz,hn⟩,?_,?_,?_,?_,?_⟩
  · rw [hfn.1,hrt]
    exact trodAll_mk1 (shut_bool hbt _)
  · rw [hfn.2]; exact hargs
  · rw [hvars,hvs]; exact rfl
  · exact hb.frame _
  · intro h; cases h
def start (W : World) : Ghost:={ n:=0,I:=fun b _=>b < W.heap.size,blk:=fun _=>0,off:=fun _=>0,len:=fun _=>0,cap:=fun _=>0,sz:=fun _=>0 }
theorem start_rel (W : World) (hv : GV W W.heap.size) : HRel (start W) [] W W.heap.size :=
  ⟨rfl,fun i hi=>by simp at hi,fun i j hi=>by simp at hi,fun i hi=>by simp at hi,fun b o h=>h,Nat.le_refl _,hv⟩
theorem law_calls {f : FuncId} {args : List AV} {xs : Array Value} (h : ACalls P f args [] (fun v _=>v = .bool true)) (hx : RL (start W) W args xs.toList) (hv : GV W W.heap.size:=by simp [GV,hdV]) :
    Calls P f xs W fun e w'=>e = .returned (.bool true) ∧ Below W.heap.size W w' :=
  (h (start W) W W.heap.size xs (start_rel W hv) hx).mono fun e w' ⟨x,v,A',G',h1,h2,h3,h4,h5,h6⟩=>by
    subst h1; subst h2
    cases h3
    exact ⟨rfl,h6⟩
theorem rv_string (G : Ghost) (s : ByteArray) : RV G W (.str s.data.toList) (.string s):=.str s.data.toList
def byteRows (bs : List UInt8) : List (List AV):=bs.map fun b=>[.int .u8 (b.toNat : Nat)]
theorem rv_bytes {t e : TypeId} {v : Value} {d : DataW H} {p : List MemPlace} {r : Reach} {b0 : Nat} (ht : P.underlying t = some (.slice e)) (he : P.underlying e = some (.int .u8)) (hc : P.cellsOf e = 1)
    (hval : Value.okWide P W r b0 t v) (h : DataW.Trod enc P W 0 (fun _=>true) true t v d p) (hlt : ∀ x ∈ p,x.block < W.heap.size) : ∃ bs : List UInt8,RV (start W) W (.aslice (byteRows bs)) v:=by
  obtain ⟨a,len,cap,rfl⟩:=okWide_slice ht hval
  obtain ⟨fuel,hf⟩:=h
  rcases open_ints ht he hc hf with ⟨hcs,hx⟩ | ⟨a',len',cap',zs,hcs,hb,hl,hm,hz,hx,hcell,hwf⟩
  · simp [Value.cells] at hcs
    obtain ⟨rfl,rfl,rfl⟩:=hcs
    exact ⟨[],.aslice0⟩
  · simp [Value.cells] at hcs
    obtain ⟨rfl,rfl,rfl⟩:=hcs
    rcases Nat.eq_zero_or_pos len with rfl | hpos
    · exact ⟨[],.asliceE _ _⟩
    · simp only [if_true] at hz
      have hlz : len ≤ zs.length:=by omega
      obtain ⟨b,off,spot⟩:=a'
      have hspot : spot = none:=by
        have h0:=hcell 0 (by omega)
        simp only [Addr.add_zero'] at h0
        cases spot with
        | none=>rfl
        | some x=>simp [World.cell?] at h0; split at h0 <;> simp at h0
      subst hspot
      have hblk : b < W.heap.size:=by
        have h0:=hcell 0 (by omega)
        simp only [Addr.add_zero',World.cell?] at h0
        rcases Nat.lt_or_ge b W.heap.size with hh | hh
        · exact hh
        · simp [Array.getElem?_eq_none hh] at h0
      have key : ∀ z : Int,(Lit.int .u8 z).wf = true → ((UInt8.ofNat z.toNat).toNat : Int) = z:=fun z hz=>by
        have hz' : 0 ≤ z ∧ z ≤ 255:=by simpa [Lit.wf,IntKind.min,IntKind.max,IntKind.signed,IntKind.bits] using hz
        have h2 : z.toNat < 256:=by omega
        rw [UInt8.toNat_ofNat',Nat.mod_eq_of_lt h2]
        omega
      have hwf' : ∀ i,i < len → ((UInt8.ofNat (zs.getD i 0).toNat).toNat : Int) = zs.getD i 0:=fun i hi=>key _ (hwf _ (getD_mem (d:=0) (show i < zs.length by omega)))
      refine ⟨(zs.take len).map fun n=>UInt8.ofNat n.toNat,?_⟩
      have hbl : (byteRows ((zs.take len).map fun n=>UInt8.ofNat n.toNat)).length = len:=by simp [byteRows]; omega
      have:=RV.aslice (G:=start W) (w:=W) (byteRows ((zs.take len).map fun n=>UInt8.ofNat n.toNat)) b off cap 1 (fun i _=>.int .u8 (zs.getD i 0)) (fun r hr=>by
          simp only [byteRows,List.mem_map] at hr
          obtain ⟨_,_,rfl⟩:=hr
          exact ⟨rfl,by simp [isLeaf]⟩) (by omega) (fun i j hi hj=>by
          rw [hbl] at hi
          have:=hcell i (by omega)
          rw [Addr.add_lit] at this
          rw [show off + (i * 1 + j) = off + i by omega]; exact this) (fun i j hi hj=>hblk) (fun i j hi hj=>by
          rw [hbl] at hi
          obtain rfl : j = 0:=by omega
          have e1 : rowAt (byteRows ((zs.take len).map fun n=>UInt8.ofNat n.toNat)) i 0 = .int .u8 (((UInt8.ofNat (zs.getD i 0).toNat).toNat : Nat) : Int):=by
            have hi2 : i < zs.length:=by omega
            simp [rowAt,byteRows,List.getD,hi,hi2]
          rw [e1,hwf' i hi]
          exact .int _ _)
      rw [hbl] at this
      exact this
end
end Go.Abs
/- Opening what came in: values of types that are made of integers, truths, texts, slices and structs, to any depth. -/
namespace Go.Abs
open Go.RowKit Go.ChangeShapes Go.WideShapes Go.ChangeAt
inductive Cells (P : Program) : TypeId → List AV → Prop
  | int {t : TypeId} {k : IntKind} {n : Int} : P.underlying t = some (.int k) → (Lit.int k n).wf = true → Cells P t [.int k n]
  | bool {t : TypeId} {b : Bool} : P.underlying t = some .bool → Cells P t [.bool b]
  | str {t : TypeId} {s : List UInt8} : P.underlying t = some .string → s.length ≤ maxLen → Cells P t [.str s]
  | slice {t e : TypeId} {rows : List (List AV)} : P.underlying t = some (.slice e) → rows.length ≤ maxLen → (∀ r ∈ rows,Cells P e r) → Cells P t [.aslice rows]
  | struct {t : TypeId} {fs : Array Field} {cs : List AV} : P.underlying t = some (.struct fs) → cs.length = P.cellsOf t →
      (∀ f ∈ fs.toList,Cells P f.type ((cs.drop f.offset).take (P.cellsOf f.type))) → Cells P t cs
def tileB (P : Program) (n : Nat) : Nat → List Field → Bool
  | o,[]=>o == n
  | o,f :: l=>f.offset == o && tileB P n (o + P.cellsOf f.type) l
def plainB (P : Program) (S : List TypeId) : Bool:=S.all fun t =>
  match P.underlying t with
  | some (.int _) | some .bool | some .string=>P.cellsOf t == 1
  | some (.slice e)=>P.cellsOf t == 1 && S.contains e && decide (0 < P.cellsOf e)
  | some (.struct fs)=>tileB P (P.cellsOf t) 0 fs.toList && fs.toList.all fun f=>S.contains f.type
  | _=>false
structure Opened (P : Program) (W : World) (t : TypeId) (cs : List Value) (as : List AV) : Prop where
  typed : Cells P t as
  len : as.length = cs.length
  leaf : ∀ v ∈ as,isLeaf v = true
  rel : ∀ i,i < as.length → RV (start W) W (as.getD i .bot) (cs.getD i undef)
section
variable {H : Type} {enc : TypeId × Value → H} {P : Program} {W : World} {S : List TypeId}
theorem list_of {α : Type} (d : α) {Q : Nat → α → Prop} : ∀ {n : Nat},(∀ i,i < n → ∃ r,Q i r) → ∃ l : List α,l.length = n ∧ ∀ i,i < n → Q i (l.getD i d)
  | 0,_=>⟨[],rfl,fun i h=>by omega⟩
  | n + 1,h=>by
    obtain ⟨l,hl,hq⟩:=list_of d (n:=n) fun i hi=>h i (by omega)
    obtain ⟨r,hr⟩:=h n (by omega)
    refine ⟨l ++ [r],by simp [hl],fun i hi=>?_⟩
    rcases Nat.lt_or_ge i n with hh | hh
    · have:=hq i hh
      simpa [List.getD,List.getElem?_append_left (show i < l.length by omega)] using this
    · obtain rfl : i = n:=by omega
      simpa [List.getD,hl] using hr
theorem inList {α : Type} {d : α} {l : List α} {r : α} (h : r ∈ l) : ∃ i,i < l.length ∧ l.getD i d = r:=by
  obtain ⟨i,hi,rfl⟩:=List.mem_iff_getElem.1 h
  exact ⟨i,hi,by simp [List.getD,hi]⟩
theorem cells?_get {a : Addr} {n : Nat} {cs : List Value} (h : W.cells? 0 a n = some cs) : cs.length = n ∧ ∀ j,j < n → W.cell? (a.add j) = some (cs.getD j undef):=by
  simp only [World.cells?,Nat.zero_le,if_true] at h
  have hl : cs.length = n:=by simpa using mapM_some_length h
  refine ⟨hl,fun j hj=>?_⟩
  have h2:=mapM_some_get h j j (by simp [hj])
  rw [h2,List.getD,List.getElem?_eq_getElem (by omega)]
  rfl
theorem tile_le {n : Nat} : ∀ {fl : List Field} {o : Nat},tileB P n o fl = true → o ≤ n
  | [],o,h=>by simp [tileB] at h; omega
  | f :: fl,o,h=>by
    simp only [tileB,Bool.and_eq_true,beq_iff_eq] at h
    have:=tile_le h.2
    omega
theorem tile_opened {n : Nat} {cs : List Value} (hn : cs.length = n) : ∀ (fl : List Field) (pre : List AV),tileB P n pre.length fl = true →
    (∀ f ∈ fl,∃ a,Opened P W f.type ((cs.drop f.offset).take (P.cellsOf f.type)) a) →
    ∃ as,(pre ++ as).length = n ∧ (∀ f ∈ fl,Cells P f.type (((pre ++ as).drop f.offset).take (P.cellsOf f.type))) ∧ (∀ v ∈ as,isLeaf v = true) ∧
      ∀ i,i < as.length → RV (start W) W (as.getD i .bot) (cs.getD (pre.length + i) undef)
  | [],pre,ht,_=>⟨[],by simpa [tileB] using ht,by simp,by simp,by simp⟩
  | f :: fl,pre,ht,h=>by
    simp only [tileB,Bool.and_eq_true,beq_iff_eq] at ht
    obtain ⟨ho,ht⟩:=ht
    obtain ⟨a,ha⟩:=h f (by simp)
    have hle:=tile_le ht
    have hal : a.length = P.cellsOf f.type:=by
      have:=ha.len
      simp only [List.length_take,List.length_drop] at this
      omega
    obtain ⟨as,h1,h2,h3,h4⟩:=tile_opened hn fl (pre ++ a) (by rw [List.length_append,hal]; exact ht) fun g hg=>h g (by simp [hg])
    refine ⟨a ++ as,by simpa [Nat.add_assoc] using h1,fun g hg=>?_,fun v hv=>?_,fun i hi=>?_⟩
    · rcases List.mem_cons.1 hg with rfl | hg
      · rw [ho,List.drop_left,← hal,List.take_left]
        exact ha.typed
      · have:=h2 g hg
        rwa [List.append_assoc] at this
    · rcases List.mem_append.1 hv with hv | hv
      · exact ha.leaf v hv
      · exact h3 v hv
    · rcases Nat.lt_or_ge i a.length with hh | hh
      · have:=ha.rel i hh
        have e1 : (a ++ as).getD i .bot = a.getD i .bot:=by simp [List.getD,List.getElem?_append_left hh]
        have e2 : ((cs.drop f.offset).take (P.cellsOf f.type)).getD i undef = cs.getD (pre.length + i) undef:=by
          rw [ho,List.getD,List.getD,List.getElem?_take_of_lt (by omega),List.getElem?_drop]
        rw [e1,← e2]; exact this
      · have hi' : i - a.length < as.length:=by simp at hi; omega
        have:=h4 (i - a.length) hi'
        have e1 : (a ++ as).getD i .bot = as.getD (i - a.length) .bot:=by simp [List.getD,List.getElem?_append_right hh]
        rw [e1]
        rw [List.length_append,show pre.length + a.length + (i - a.length) = pre.length + i by omega] at this
        exact this
theorem plain_opened (hS : plainB P S = true) : ∀ (fuel : Nat) {t : TypeId} {cs : List Value} {x : DataW H × List MemPlace},t ∈ S →
    DataW.trod enc P W 0 (fun _=>true) true fuel t cs = some x → ∃ as,Opened P W t cs as:=by
  intro fuel
  induction fuel using Nat.strongRecOn with
  | _ fuel ih =>
    intro t cs x ht h
    have hp:=List.all_eq_true.1 hS t ht
    split at hp
    · next k hu =>
      obtain ⟨n,rfl,rfl,hw⟩:=DataW.trod_int hu h
      exact ⟨[.int k n],.int hu hw,rfl,by simp [isLeaf],fun i hi=>by
        obtain rfl : i = 0:=by simpa using hi
        exact .int k n⟩
    · next hu =>
      obtain ⟨b,rfl,rfl⟩:=DataW.trod_bool hu h
      exact ⟨[.bool b],.bool hu,rfl,by simp [isLeaf],fun i hi=>by
        obtain rfl : i = 0:=by simpa using hi
        exact .bool b⟩
    · next hu =>
      obtain ⟨s,rfl,rfl,hs⟩:=DataW.trod_string hu h
      exact ⟨[.str s.data.toList],.str hu (by simpa using hs),rfl,by simp [isLeaf],fun i hi=>by
        obtain rfl : i = 0:=by simpa using hi
        exact rv_string _ s⟩
    · next e hu =>
      simp only [Bool.and_eq_true,beq_iff_eq,decide_eq_true_eq,List.contains_iff_mem] at hp
      obtain ⟨⟨h1,he⟩,hpos⟩:=hp
      rcases DataW.trod_slice hu h with ⟨rfl,rfl⟩ | ⟨a,len,cap,elems,rest,n,rfl,rfl,rfl,hb,hl,hm,hlen,hel,hsp,hns⟩
      · exact ⟨[.aslice []],.slice hu (by simp) (by simp),rfl,by simp [isLeaf],fun i hi=>by
          obtain rfl : i = 0:=by simpa using hi
          exact .aslice0⟩
      · rcases Nat.eq_zero_or_pos len with rfl | hlp
        · exact ⟨[.aslice []],.slice hu (by simp) (by simp),rfl,by simp [isLeaf],fun i hi=>by
            obtain rfl : i = 0:=by simpa using hi
            exact .asliceE _ _⟩
        · obtain ⟨b,off,spot⟩:=a
          have each : ∀ i,i < len → ∃ r : List Value × List AV,W.cells? 0 (Addr.add ⟨b,off,spot⟩ (i * P.cellsOf e)) (P.cellsOf e) = some r.1 ∧ Opened P W e r.1 r.2:=fun i hi=>by
            have h2:=hel i hi
            rw [List.getElem?_eq_getElem (by omega)] at h2
            obtain ⟨ci,hc1,hc2⟩:=Option.bind_eq_some_iff.1 h2
            obtain ⟨r,hr⟩:=ih n (by omega) he hc2
            exact ⟨(ci,r),hc1,hr⟩
          obtain ⟨L,hL,hq⟩:=list_of ([],[]) each
          have cellat : ∀ i j,i < len → j < P.cellsOf e → W.cell? (Addr.add ⟨b,off,spot⟩ (i * P.cellsOf e + j)) = some ((L.getD i ([],[])).1.getD j undef):=fun i j hi hj=>by
            have:=(cells?_get (hq i hi).1).2 j hj
            rwa [Addr.add_add] at this
          have hspot : spot = none:=by
            have h0:=cellat 0 0 hlp hpos
            rw [Nat.zero_mul,Addr.add_zero'] at h0
            cases spot with
            | none=>rfl
            | some x=>simp [World.cell?] at h0; split at h0 <;> simp at h0
          subst hspot
          have hblk : b < W.heap.size:=by
            have h0:=cellat 0 0 hlp hpos
            rw [Nat.zero_mul,Addr.add_zero'] at h0
            simp only [World.cell?] at h0
            rcases Nat.lt_or_ge b W.heap.size with hh | hh
            · exact hh
            · simp [Array.getElem?_eq_none hh] at h0
          have hrl : ∀ i,i < len → (L.getD i ([],[])).2.length = P.cellsOf e:=fun i hi=>by
            rw [(hq i hi).2.len,(cells?_get (hq i hi).1).1]
          have hgd : ∀ i,i < len → (L.map (·.2)).getD i [] = (L.getD i ([],[])).2:=fun i hi=>by
            have : i < L.length:=by omega
            simp [List.getD,this]
          have hLl : (L.map (·.2)).length = len:=by simp [hL]
          refine ⟨[.aslice (L.map (·.2))],.slice hu (by omega) (fun r hr=>?_),rfl,by simp [isLeaf],fun i hi=>?_⟩
          · obtain ⟨i,hi,rfl⟩:=inList (d:=[]) hr
            rw [hgd i (by omega)]
            exact (hq i (by omega)).2.typed
          · obtain rfl : i = 0:=by simpa using hi
            have key:=RV.aslice (G:=start W) (w:=W) (L.map (·.2)) b off cap (P.cellsOf e) (fun i j=>(L.getD i ([],[])).1.getD j undef) (fun r hr=>by
                obtain ⟨i,hi,rfl⟩:=inList (d:=[]) hr
                rw [hgd i (by omega)]
                exact ⟨hrl i (by omega),(hq i (by omega)).2.leaf⟩) (by omega) (fun i j hi hj=>by
                have:=cellat i j (by omega) hj
                rwa [Addr.add_lit] at this) (fun i j hi hj=>hblk) (fun i j hi hj=>by
                have:=(hq i (by omega)).2.rel j (by rw [hrl i (by omega)]; exact hj)
                simpa only [rowAt,hgd i (show i < len by omega)] using this)
            rw [hLl] at key
            exact key
    · next fs hu =>
      simp only [Bool.and_eq_true,List.all_eq_true,List.contains_iff_mem] at hp
      obtain ⟨htile,hf⟩:=hp
      obtain ⟨xs,n,rfl,rfl,hcs,hxs,hx⟩:=DataW.trod_struct hu h
      obtain ⟨as,h1,h2,h3,h4⟩:=tile_opened (W:=W) hcs fs.toList [] htile fun f hfm=>by
        obtain ⟨i,hi,rfl⟩:=List.mem_iff_getElem.1 hfm
        have hi' : i < fs.size:=by simpa using hi
        have:=hx i fs[i] (by simp [hi'])
        rw [List.getElem?_eq_getElem (by omega)] at this
        exact ih n (by omega) (hf _ hfm) (by simpa using this)
      exact ⟨as,.struct hu (by simpa using h1) (by simpa using h2),by simpa [hcs] using h1,h3,by simpa using h4⟩
    · exact absurd hp (by simp)
end
end Go.Abs
/- Drawn regions by the same equations: one walk in the order of the text. -/
namespace Go.Abs
open Go.RowKit
def ContD (P : Program) (own : FuncId → Bool) (N : Nat) (ops : Array Oper) (A : List Box) (Q : Env → Prop) (rest : List Oper) (d : Option Tmp) (e : Env) (v : AV) (A' : List Box) : Prop:=A' = A ∧ wpD P own N ops A Q rest (putA N d v e)
def KeepD (vs : List Nat) (Q : Exit → Env → List Box → Prop) (A : List Box) (e : Env) : Prop:=Q .normal (keep vs e) A
def CallD (P : Program) (own : FuncId → Bool) (g : FuncId) (args : List AV) (A : List Box) (N : Nat) (ops : Array Oper) (Q : Env → Prop) (rest : List Oper) (d : Option Tmp) (e : Env) : Prop :=
  ∃ v,CallK P own g args A (fun v' A'=>v' = v ∧ A' = A) ∧ wpD P own N ops A Q rest (putA N d v e)
def GuardD (P : Program) (own : FuncId → Bool) (N : Nat) (ops : Array Oper) (A : List Box) (Q : Env → Prop) (o : Oper) (rest : List Oper) (e : Env) (want : Bool) (v : AV) : Prop :=
  match v with
  | .bool t=>((t == want) = true → wpD P own N ops A Q ({ o with guard:=none } :: rest) e) ∧ ((t == want) = false → wpD P own N ops A Q rest (putA N o.dst (.tuple []) e))
  | .tuple _=>wpD P own N ops A Q rest (putA N o.dst (.tuple []) e)
  | _=>False
theorem StepD_some (c : Prop) (v : AV) (A' A : List Box) (P : Program) (own : FuncId → Bool) (N : Nat) (ops : Array Oper) (Q : Env → Prop) (rest : List Oper) (d : Option Tmp) (e : Env) :
    StepK (Option.some (c,v,A')) (ContD P own N ops A Q rest d e) = (c ∧ A' = A ∧ wpD P own N ops A Q rest (putA N d v e)):=rfl
theorem KeepD_eq (vs : List Nat) (Q : Exit → Env → List Box → Prop) (A : List Box) (e : Env) : KeepD vs Q A e = Q .normal (keep vs e) A:=ofRfl rfl
theorem wpc_drawn (P : Program) (c : Cfg) (Q : Exit → Env → List Box → Prop) (e : Env) (A : List Box) (id : Nat) (l : List Oper) : wpc P c (.region id l.toArray true) Q e A = ((dstOk c.N l.toArray = true ∧ Region.lexB .any l.toArray = true ∧ wpD P c.own c.N l.toArray A (KeepD c.vs Q A) l e) ∨ DrawE P c l.toArray Q e A):=ofRfl rfl
section
variable (P : Program) (own : FuncId → Bool) (N : Nat) (ops : Array Oper) (Q : Env → Prop) (rest : List Oper) (e : Env) (A : List Box)
variable (d : Option Tmp) (ty : TypeId) (pos : String) (af : Array Edge)
theorem wpD_nil : wpD P own N ops A Q [] e = Q e:=ofRfl rfl
theorem wpD_plain (op : Op) : wpD P own N ops A Q (⟨d,op,ty,pos,af,none⟩ :: rest) e = ∃ v,OpK P own ⟨d,op,ty,pos,af,none⟩ (op.operands.toList.map (evA e)) A (fun v' A'=>v' = v ∧ A' = A) ∧ wpD P own N ops A Q rest (putA N d v e):=by
  simp [wpD,wantA]
theorem wpD_step {op : Op} (h : callTarget P op (op.operands.toList.map (evA e)) = none) : wpD P own N ops A Q (⟨d,op,ty,pos,af,none⟩ :: rest) e = StepK (astep P op (op.operands.toList.map (evA e)) A) (ContD P own N ops A Q rest d e):=by
  rw [wpD_plain]
  simp only [opK_step P own A d ty pos af h]
  cases astep P op (op.operands.toList.map (evA e)) A with
  | none=>simp [StepK]
  | some x =>
    obtain ⟨c,v0,A0⟩:=x
    simp only [StepK,ContD]
    apply propext
    constructor
    · rintro ⟨v,⟨h1,rfl,h2⟩,h3⟩; exact ⟨h1,h2,h3⟩
    · rintro ⟨h1,h2,h3⟩; exact ⟨v0,⟨h1,rfl,h2⟩,h3⟩
theorem wpD_pick (x y z : Operand) : wpD P own N ops A Q (⟨d,.pick x y z,ty,pos,af,none⟩ :: rest) e = StepK (astep P (.pick x y z) [evA e x,evA e y,evA e z] A) (ContD P own N ops A Q rest d e):=by
  rw [wpD_step _ _ _ _ _ _ _ _ _ _ _ _ rfl]; rfl
theorem wpD_alloc (t : TypeId) : wpD P own N ops A Q (⟨d,.alloc t,ty,pos,af,none⟩ :: rest) e = StepK (astep P (.alloc t) [] A) (ContD P own N ops A Q rest d e):=by
  rw [wpD_step _ _ _ _ _ _ _ _ _ _ _ _ rfl]; rfl
theorem wpD_box (t : TypeId) (x : Operand) : wpD P own N ops A Q (⟨d,.box t x,ty,pos,af,none⟩ :: rest) e = StepK (astep P (.box t x) [evA e x] A) (ContD P own N ops A Q rest d e):=by
  rw [wpD_step _ _ _ _ _ _ _ _ _ _ _ _ rfl]; rfl
theorem wpD_load (t : TypeId) (x : Operand) : wpD P own N ops A Q (⟨d,.load t x,ty,pos,af,none⟩ :: rest) e = StepK (astep P (.load t x) [evA e x] A) (ContD P own N ops A Q rest d e):=by
  rw [wpD_step _ _ _ _ _ _ _ _ _ _ _ _ rfl]; rfl
theorem wpD_store (t : TypeId) (x y : Operand) : wpD P own N ops A Q (⟨d,.store t x y,ty,pos,af,none⟩ :: rest) e = StepK (astep P (.store t x y) [evA e x,evA e y] A) (ContD P own N ops A Q rest d e):=by
  rw [wpD_step _ _ _ _ _ _ _ _ _ _ _ _ rfl]; rfl
theorem wpD_nilCheck (x : Operand) : wpD P own N ops A Q (⟨d,.nilCheck x,ty,pos,af,none⟩ :: rest) e = StepK (astep P (.nilCheck x) [evA e x] A) (ContD P own N ops A Q rest d e):=by
  rw [wpD_step _ _ _ _ _ _ _ _ _ _ _ _ rfl]; rfl
theorem wpD_binOp (b : BinOp) (t u : TypeId) (x y : Operand) : wpD P own N ops A Q (⟨d,.binOp b t x y u,ty,pos,af,none⟩ :: rest) e = StepK (astep P (.binOp b t x y u) [evA e x,evA e y] A) (ContD P own N ops A Q rest d e):=by
  rw [wpD_step _ _ _ _ _ _ _ _ _ _ _ _ rfl]; rfl
theorem wpD_unOp (b : UnOp) (t : TypeId) (x : Operand) : wpD P own N ops A Q (⟨d,.unOp b t x,ty,pos,af,none⟩ :: rest) e = StepK (astep P (.unOp b t x) [evA e x] A) (ContD P own N ops A Q rest d e):=by
  rw [wpD_step _ _ _ _ _ _ _ _ _ _ _ _ rfl]; rfl
theorem wpD_convert (t u : TypeId) (x : Operand) : wpD P own N ops A Q (⟨d,.convert t u x,ty,pos,af,none⟩ :: rest) e = StepK (astep P (.convert t u x) [evA e x] A) (ContD P own N ops A Q rest d e):=by
  rw [wpD_step _ _ _ _ _ _ _ _ _ _ _ _ rfl]; rfl
theorem wpD_makeSlice (t : TypeId) (x y : Operand) : wpD P own N ops A Q (⟨d,.makeSlice t x y,ty,pos,af,none⟩ :: rest) e = StepK (astep P (.makeSlice t x y) [evA e x,evA e y] A) (ContD P own N ops A Q rest d e):=by
  rw [wpD_step _ _ _ _ _ _ _ _ _ _ _ _ rfl]; rfl
theorem wpD_slice0 (t : TypeId) (x : Operand) : wpD P own N ops A Q (⟨d,.slice t x none none none,ty,pos,af,none⟩ :: rest) e = StepK (astep P (.slice t x none none none) [evA e x] A) (ContD P own N ops A Q rest d e):=by
  rw [wpD_step _ _ _ _ _ _ _ _ _ _ _ _ rfl]; rfl
theorem wpD_slice1 (t : TypeId) (x y : Operand) : wpD P own N ops A Q (⟨d,.slice t x (some y) none none,ty,pos,af,none⟩ :: rest) e = StepK (astep P (.slice t x (some y) none none) [evA e x,evA e y] A) (ContD P own N ops A Q rest d e):=by
  rw [wpD_step _ _ _ _ _ _ _ _ _ _ _ _ rfl]; rfl
theorem wpD_slice2 (t : TypeId) (x y : Operand) : wpD P own N ops A Q (⟨d,.slice t x none (some y) none,ty,pos,af,none⟩ :: rest) e = StepK (astep P (.slice t x none (some y) none) [evA e x,evA e y] A) (ContD P own N ops A Q rest d e):=by
  rw [wpD_step _ _ _ _ _ _ _ _ _ _ _ _ rfl]; rfl
theorem wpD_slice3 (t : TypeId) (x y z : Operand) : wpD P own N ops A Q (⟨d,.slice t x (some y) (some z) none,ty,pos,af,none⟩ :: rest) e = StepK (astep P (.slice t x (some y) (some z) none) [evA e x,evA e y,evA e z] A) (ContD P own N ops A Q rest d e):=by
  rw [wpD_step _ _ _ _ _ _ _ _ _ _ _ _ rfl]; rfl
theorem wpD_fieldAddr (t : TypeId) (x : Operand) (k : Nat) : wpD P own N ops A Q (⟨d,.fieldAddr t x k,ty,pos,af,none⟩ :: rest) e = StepK (astep P (.fieldAddr t x k) [evA e x] A) (ContD P own N ops A Q rest d e):=by
  rw [wpD_step _ _ _ _ _ _ _ _ _ _ _ _ rfl]; rfl
theorem wpD_field (t : TypeId) (x : Operand) (k : Nat) : wpD P own N ops A Q (⟨d,.field t x k,ty,pos,af,none⟩ :: rest) e = StepK (astep P (.field t x k) [evA e x] A) (ContD P own N ops A Q rest d e):=by
  rw [wpD_step _ _ _ _ _ _ _ _ _ _ _ _ rfl]; rfl
theorem wpD_indexAddr (t : TypeId) (x y : Operand) : wpD P own N ops A Q (⟨d,.indexAddr t x y,ty,pos,af,none⟩ :: rest) e = StepK (astep P (.indexAddr t x y) [evA e x,evA e y] A) (ContD P own N ops A Q rest d e):=by
  rw [wpD_step _ _ _ _ _ _ _ _ _ _ _ _ rfl]; rfl
theorem wpD_index (t : TypeId) (x y : Operand) : wpD P own N ops A Q (⟨d,.index t x y,ty,pos,af,none⟩ :: rest) e = StepK (astep P (.index t x y) [evA e x,evA e y] A) (ContD P own N ops A Q rest d e):=by
  rw [wpD_step _ _ _ _ _ _ _ _ _ _ _ _ rfl]; rfl
theorem wpD_extract (x : Operand) (k : Nat) : wpD P own N ops A Q (⟨d,.extract x k,ty,pos,af,none⟩ :: rest) e = StepK (astep P (.extract x k) [evA e x] A) (ContD P own N ops A Q rest d e):=by
  rw [wpD_step _ _ _ _ _ _ _ _ _ _ _ _ rfl]; rfl
theorem wpD_build (t : TypeId) (l : List (Nat × Operand)) : wpD P own N ops A Q (⟨d,.build t l.toArray,ty,pos,af,none⟩ :: rest) e = StepK (astep P (.build t l.toArray) (l.map fun p=>evA e p.2) A) (ContD P own N ops A Q rest d e):=by
  rw [wpD_step _ _ _ _ _ _ _ _ _ _ _ _ rfl]; simp [Op.operands,Function.comp_def]
theorem wpD_buildSlice (t : TypeId) (n : Nat) (l : List (Nat × Operand)) : wpD P own N ops A Q (⟨d,.buildSlice t n l.toArray,ty,pos,af,none⟩ :: rest) e = StepK (astep P (.buildSlice t n l.toArray) (l.map fun p=>evA e p.2) A) (ContD P own N ops A Q rest d e):=by
  rw [wpD_step _ _ _ _ _ _ _ _ _ _ _ _ rfl]; simp [Op.operands,Function.comp_def]
theorem wpD_builtin (b : Builtin) (l : List Operand) (ts : Array TypeId) : wpD P own N ops A Q (⟨d,.call ⟨.builtin b,l.toArray,ts⟩,ty,pos,af,none⟩ :: rest) e = StepK (builtinA P b ts (l.map (evA e)) A) (ContD P own N ops A Q rest d e):=by
  rw [wpD_step _ _ _ _ _ _ _ _ _ _ _ _ (by rfl)]; simp [Op.operands,Call.operands,astep]
theorem wpD_makeInterface (t : TypeId) (x : Operand) : wpD P own N ops A Q (⟨d,.makeInterface t x,ty,pos,af,none⟩ :: rest) e = StepK (astep P (.makeInterface t x) [evA e x] A) (ContD P own N ops A Q rest d e):=by
  rw [wpD_step _ _ _ _ _ _ _ _ _ _ _ _ rfl]; rfl
theorem wpD_move (x : Operand) : wpD P own N ops A Q (⟨d,.move x,ty,pos,af,none⟩ :: rest) e = wpD P own N ops A Q rest (putA N d (evA e x) e):=by
  rw [wpD_step _ _ _ _ _ _ _ _ _ _ _ _ rfl]; simp [Op.operands,astep,StepK,ContD]
theorem wpD_assign (x : Operand) : wpD P own N ops A Q (⟨d,.assign x,ty,pos,af,none⟩ :: rest) e = wpD P own N ops A Q rest (putA N d (evA e x) e):=by
  rw [wpD_step _ _ _ _ _ _ _ _ _ _ _ _ rfl]; simp [Op.operands,astep,StepK,ContD]
theorem wpD_call (g : FuncId) (l : List Operand) (ts : Array TypeId) (h : callable P g = true) : wpD P own N ops A Q (⟨d,.call ⟨.value (.func g),l.toArray,ts⟩,ty,pos,af,none⟩ :: rest) e = CallD P own g (l.map (evA e)) A N ops Q rest d e:=by
  rw [wpD_plain]; simp [OpK,callTarget,Op.operands,Call.operands,evA,h,CallD]
theorem wpD_guard (op : Op) (j : Nat) (want : Bool) : wpD P own N ops A Q (⟨d,op,ty,pos,af,some (j,want)⟩ :: rest) e =
    GuardD P own N ops A Q ⟨d,op,ty,pos,af,none⟩ rest e want (match (ops[j]?).bind (·.dst) with | some t=>look t e | none=>.bot):=by
  simp only [wpD,wantA,GuardD]
  cases (ops[j]?).bind (·.dst) with
  | none=>rfl
  | some t =>
    simp only
    cases look t e with
    | tuple l=>simp
    | bool b=>simp only [Option.some.injEq,true_implies,Bool.true_eq_false,false_implies,and_true]; rfl
    | _=>rfl
end
section
variable {P : Program} {own : FuncId → Bool} {N : Nat} {ops : Array Oper} {Q : Env → Prop} {rest : List Oper} {e : Env} {A : List Box}
theorem callD_intro {g : FuncId} {args args' : List AV} {v : AV} {d : Option Tmp} (hf : frzs args A = some (args',A)) (h : ACalls P g args' A (fun v' A'=>v' = v ∧ A' = A))
    (hk : wpD P own N ops A Q rest (putA N d v e)) (ho : own g = false) : CallD P own g args A N ops Q rest d e:=by
  refine ⟨v,?_,hk⟩
  unfold CallK
  rw [ho]
  exact .inl ⟨args',A,hf,h⟩
theorem callDO_intro {g : FuncId} {args : List AV} {v : AV} {d : Option Tmp} (h : ACalls P g args A (fun v' A'=>v' = v ∧ A' = A))
    (hk : wpD P own N ops A Q rest (putA N d v e)) : CallD P own g args A N ops Q rest d e:=⟨v,.own h,hk⟩
theorem GuardD_bool (o : Oper) (want t : Bool) (h : (t == want) = true) : GuardD P own N ops A Q o rest e want (.bool t) = wpD P own N ops A Q ({ o with guard:=none } :: rest) e:=by simp [GuardD,h]
theorem GuardD_not (o : Oper) (want t : Bool) (h : (t == want) = false) : GuardD P own N ops A Q o rest e want (.bool t) = wpD P own N ops A Q rest (putA N o.dst (.tuple []) e):=by simp [GuardD,h]
theorem GuardD_skip (o : Oper) (want : Bool) (l : List AV) : GuardD P own N ops A Q o rest e want (.tuple l) = wpD P own N ops A Q rest (putA N o.dst (.tuple []) e):=ofRfl rfl
theorem guardDT_intro {o : Oper} {t : Bool} (h : t = true → wpD P own N ops A Q ({ o with guard:=none } :: rest) e) (h' : t = false → wpD P own N ops A Q rest (putA N o.dst (.tuple []) e)) : GuardD P own N ops A Q o rest e true (.bool t):=⟨fun k=>h (by simpa using k),fun k=>h' (by simpa using k)⟩
theorem guardDF_intro {o : Oper} {t : Bool} (h : t = false → wpD P own N ops A Q ({ o with guard:=none } :: rest) e) (h' : t = true → wpD P own N ops A Q rest (putA N o.dst (.tuple []) e)) : GuardD P own N ops A Q o rest e false (.bool t):=⟨fun k=>h (by simpa using k),fun k=>h' (by simpa using k)⟩
end
def InvD (P : Program) (own : FuncId → Bool) (name : String) (v : AV) (args : List AV) (A : List Box) (N : Nat) (ops : Array Oper) (Q : Env → Prop) (rest : List Oper) (d : Option Tmp) (e : Env) : Prop :=
  match v with
  | .iface t x=>∃ g,methA P t name = some g ∧ callable P g = true ∧ CallD P own g (x :: args) A N ops Q rest d e
  | .ifx t x=>∃ g,methA P t name = some g ∧ callable P g = true ∧ CallD P own g (x :: args) A N ops Q rest d e
  | _=>False
theorem wpD_invoke (P : Program) (own : FuncId → Bool) (N : Nat) (ops : Array Oper) (Q : Env → Prop) (rest : List Oper) (e : Env) (A : List Box) (d : Option Tmp) (ty : TypeId) (pos : String) (af : Array Edge)
    (r : Operand) (name : String) (l : List Operand) (ts : Array TypeId) (h : InvD P own name (evA e r) (l.map (evA e)) A N ops Q rest d e) :
    wpD P own N ops A Q (⟨d,.call ⟨.invoke r name,l.toArray,ts⟩,ty,pos,af,none⟩ :: rest) e:=by
  rw [wpD_plain]
  unfold InvD at h
  unfold OpK
  simp only [Op.operands,Call.operands]
  generalize hq : evA e r = q at h
  cases q <;> try exact h.elim
  all_goals
    rename_i t x
    obtain ⟨g,h1,h2,v,h3,h4⟩:=h
    have : callTarget P (.call ⟨.invoke r name,l.toArray,ts⟩) (List.map (evA e) (#[r] ++ l.toArray).toList) = some (g,x :: l.map (evA e)):=by
      simp [callTarget,hq,h1,h2]
    simp only [this]
    exact ⟨v,h3,h4⟩
theorem Outer_nil_eq (A : List Box) : Outer [] A = True:=eq_true ⟨by simp,fun i hi=>by simp at hi⟩
def ARetK (P : Program) (rs : List ResultVar) (R : AV → List Box → Prop) : Exit → Env → List Box → Prop
  | .normal,e,A | .ret,e,A=>match retVal P A rs e with
    | some v=>R v A
    | none=>False
  | _,_,_=>False
theorem acalls_introK {P : Program} {cf : Cfg} {f : FuncId} {fn : Func} {c : Code} {args : List AV} {A : List Box} {R : AV → List Box → Prop} (hm : P.follows .mixedOrders = true) (hf : P.funcs[f]? = some fn) (hb : fn.body = some c)
    (hN : fn.ntmps = cf.N) (hl : args.length ≤ cf.N) (h : wpc P cf c (ARetK P fn.results.toList R) (entry args) A) : ACalls P f args A R:=by
  intro G w base xs hH hx
  have hxl : args.length = xs.size:=by have:=hx.1; simpa using this
  refine calls_of_wp hf hb (wp_mono (wpc_ok (base:=base) (G:=G) (G0:=G) (w0:=w) hm c h ⟨rfl,by simp [hN]; omega,fun t=>?_,hH⟩ (Ext.refl _ _) (Below.refl _ _)) fun x a w' hp=>?_)
  · rw [look_entry]
    by_cases ht : t < args.length
    · have h1:=hx.toArr t ht
      have h2 : (xs ++ Array.replicate (fn.ntmps - xs.size) undef).getD t undef = xs.getD t undef:=by
        rw [Array.getD_eq_getD_getElem?,Array.getD_eq_getD_getElem?,Array.getElem?_append_left (by omega)]
      rw [h2]
      simpa using h1
    · have : args.getD t .bot = .bot:=by simp [List.getD,Nat.not_lt.1 ht]
      rw [this]; exact .bot _
  · obtain ⟨e',A',G',hq,hr,he,hbel⟩:=hp
    have fin : ARetK P fn.results.toList R .ret e' A' → a.defers = [] ∧ ∃ v,(results fn a.tmps).run P w' = .ok v w' ∧ ∃ x v' A' G',Ending.returned v = .returned x ∧ R v' A' ∧ RV G' w' v' x ∧ HRel G' A' w' base ∧ Ext G w G' w' ∧ Below base w w':=fun hq=>by
      refine ⟨hr.defers,?_⟩
      simp only [ARetK] at hq
      split at hq
      · rename_i v hv
        obtain ⟨x,hx1,hx2⟩:=retVal_ok (P:=P) hr.heap hr.env hv
        exact ⟨x,hx1,x,v,A',G',rfl,hq,hx2,hr.heap,he,hbel⟩
      · exact hq.elim
    cases x with
    | normal=>exact fin hq
    | ret=>exact fin hq
    | exit id=>exact hq.elim
    | goto l=>exact hq.elim
    | panic ch=>exact hq.elim
    | outgrown=>exact hq.elim
theorem acalls_enterK {P : Program} {cf : Cfg} {f : FuncId} {fn : Func} {args : List AV} {A : List Box} {R : AV → List Box → Prop} (hm : P.follows .mixedOrders = true) (hf : P.funcs[f]? = some fn)
    (hN : fn.ntmps = cf.N) (hl : args.length ≤ cf.N) (h : EnterK P cf fn.body (ARetK P fn.results.toList R) (entry args) A) : ACalls P f args A R:=by
  cases hb : fn.body with
  | none=>rw [hb] at h; exact h.elim
  | some c=>rw [hb] at h; exact acalls_introK hm hf hb hN hl h
section
variable {α : Type} {A B : List α} {i : Nat} {x d : α}
theorem set_app1 (h : i < A.length) : (A ++ B).set i x = A.set i x ++ B:=by rw [List.set_append_left _ _ h]
theorem getD_set1 (h : i < A.length) : (A.set i x).getD i d = x:=by simp [List.getD,h]
theorem take_set_app : (A.set i x ++ B).take A.length = A.set i x:=by
  rw [List.take_append_of_le_length (by simp)]
  exact List.take_of_length_le (by simp)
theorem take_set : (A.set i x).take A.length = A.set i x:=List.take_of_length_le (by simp)
end
theorem outer_set (A B : List Box) (i : Nat) (X : Box) (h : boxClosed A.length X = true) : Outer A (A.set i X ++ B):=by
  refine ⟨by simp,fun j hj=>?_⟩
  rw [getD_append_left (by simpa using hj)]
  by_cases e : i = j
  · subst e
    rw [getD_set1 hj]; exact .inr h
  · left
    simp [List.getD,List.getElem?_set_ne e]
theorem outer_set0 (A : List Box) (i : Nat) (X : Box) (h : boxClosed A.length X = true) : Outer A (A.set i X):=by
  have:=outer_set A [] i X h
  rwa [List.append_nil] at this
section
variable {α : Type} (A B : List α) (i k : Nat) (x y d : α)
theorem getD_sapp0 : (A.set i x ++ B).getD A.length d = B.getD 0 d:=by
  have:=getD_app0 (A.set i x) B d
  rwa [List.length_set] at this
theorem getD_sapp : (A.set i x ++ B).getD (A.length + k) d = B.getD k d:=by
  have:=getD_app (A.set i x) B d k
  rwa [List.length_set] at this
theorem set_sapp0 : (A.set i x ++ B).set A.length y = A.set i x ++ B.set 0 y:=by
  have:=set_app0 (A.set i x) B y
  rwa [List.length_set] at this
theorem set_sapp : (A.set i x ++ B).set (A.length + k) y = A.set i x ++ B.set k y:=by
  have:=set_app (A.set i x) B y k
  rwa [List.length_set] at this
end
end Go.Abs
/- Regions that change boxes in an open order, by the same equations. -/
namespace Go.Abs
def Lk (L : List (List Box)) (c : Nat) : List Box:=L.getD c []
def AllN (p : Nat → Prop) : Nat → Nat → Prop
  | 0,_=>True
  | n + 1,c=>p c ∧ AllN p n (c + 1)
theorem AllN_zero (p : Nat → Prop) (c : Nat) : AllN p 0 c = True:=rfl
theorem AllN_succ (p : Nat → Prop) (n c : Nat) : AllN p (n + 1) c = (p c ∧ AllN p n (c + 1)):=rfl
theorem AllN_all {p : Nat → Prop} : ∀ {n c : Nat},AllN p n c → ∀ k,c ≤ k → k < c + n → p k
  | 0,c,_,k,h1,h2=>by omega
  | n + 1,c,h,k,h1,h2=>by
    rcases Nat.eq_or_lt_of_le h1 with rfl | h3
    · exact h.1
    · exact AllN_all h.2 k h3 (by omega)
def StepV (r : Option (Prop × AV × List Box)) (v0 : AV) (A0 : List Box) : Prop:=StepK r (fun v' A'=>v' = v0 ∧ A' = A0)
theorem StepV_some (c : Prop) (v v0 : AV) (A' A0 : List Box) : StepV (Option.some (c,v,A')) v0 A0 = (c ∧ v = v0 ∧ A' = A0):=rfl
section
variable (P : Program) (own : FuncId → Bool) (N : Nat) (ops : Array Oper) (T : Ranks) (As : Nat → List Box) (Q : Env → Prop)
def OpG (k : Nat) (o : Oper) (vs : List AV) (K : AV → Prop) : Prop :=
  match callTarget P o.op vs with
  | some (g,args)=>∃ v,(∀ c,T.lo k ≤ c → c ≤ T.hi k → CallK P own g args (As c) (fun v' A'=>v' = v ∧ A' = As (T.next k c))) ∧ K v
  | none=>StepK (astep P o.op vs (As (T.lo k))) (fun v A'=>A' = As (T.next k (T.lo k)) ∧ AllN (fun c=>StepV (astep P o.op vs (As c)) v (As (T.next k c))) (T.hi k - T.lo k) (T.lo k + 1) ∧ K v)
def wpG : Nat → List Oper → Env → Prop
  | _,[],e=>Q e
  | k,o :: rest,e=>match wantA ops o e with
    | none=>False
    | some b=>(b = true → OpG P own T As k o (o.op.operands.toList.map (evA e)) (fun v=>wpG (k + 1) rest (putA N o.dst v e))) ∧ (b = false → SkZ T As k ∧ wpG (k + 1) rest (putA N o.dst (.tuple []) e))
def lohiB (T : Ranks) : Bool:=T.all fun x=>decide (x.2.1 ≤ x.2.2)
theorem lohi {T : Ranks} (h : lohiB T = true) (k : Nat) : T.lo k ≤ T.hi k:=by
  unfold Ranks.lo Ranks.hi
  rcases Nat.lt_or_ge k T.length with hk | hk
  · have:=List.all_eq_true.1 h T[k] (List.getElem_mem hk)
    simpa [List.getD,hk] using this
  · simp [List.getD,hk]
theorem OpG_ok {k : Nat} {o : Oper} {vs : List AV} {K : AV → Prop} (hle : T.lo k ≤ T.hi k) (h : OpG P own T As k o vs K) : ∃ v,OpZ P own T As k o vs v ∧ K v:=by
  unfold OpG at h
  cases hc : callTarget P o.op vs with
  | some x =>
    obtain ⟨g,args⟩:=x
    simp only [hc] at h
    obtain ⟨v,h2,h3⟩:=h
    refine ⟨v,fun r hr1 hr2=>?_,h3⟩
    unfold OpK
    simp only [hc]
    exact h2 r hr1 hr2
  | none =>
    simp only [hc] at h
    cases hq : astep P o.op vs (As (T.lo k)) with
    | none=>rw [hq] at h; exact h.elim
    | some x =>
      obtain ⟨c,v0,A0⟩:=x
      rw [hq] at h
      obtain ⟨h1,h2,h3,h4⟩:=h
      refine ⟨v0,fun r hr1 hr2=>?_,h4⟩
      unfold OpK
      simp only [hc]
      rcases Nat.eq_or_lt_of_le hr1 with rfl | hr3
      · simp only [hq]; exact ⟨h1,trivial,h2⟩
      · have h5:=AllN_all h3 r hr3 (by omega)
        unfold StepV StepK at h5
        exact h5
theorem wpG_E (hT : lohiB T = true) : ∀ (l : List Oper) (k : Nat) (e : Env),wpG P own N ops T As Q k l e → wpE P own N ops T As Q k l e
  | [],_,_,h=>h
  | o :: rest,k,e,h=>by
    simp only [wpG] at h
    simp only [wpE]
    split at h
    · exact h.elim
    · rename_i b hb
      simp only [hb]
      refine ⟨fun hbt=>?_,fun hbf=>⟨(h.2 hbf).1,wpG_E hT rest (k + 1) _ (h.2 hbf).2⟩⟩
      obtain ⟨v,h1,h2⟩:=OpG_ok P own T As (lohi hT k) (h.1 hbt)
      exact ⟨v,h1,wpG_E hT rest (k + 1) _ h2⟩
def ContE (k : Nat) (rest : List Oper) (d : Option Tmp) (e : Env) (op : Op) (vs : List AV) (v : AV) (A' : List Box) : Prop :=
  A' = As (T.next k (T.lo k)) ∧ AllN (fun c=>StepV (astep P op vs (As c)) v (As (T.next k c))) (T.hi k - T.lo k) (T.lo k + 1) ∧ wpG P own N ops T As Q (k + 1) rest (putA N d v e)
theorem StepE_some (c : Prop) (v : AV) (A' : List Box) (k : Nat) (rest : List Oper) (d : Option Tmp) (e : Env) (op : Op) (vs : List AV) :
    StepK (Option.some (c,v,A')) (ContE P own N ops T As Q k rest d e op vs) = (c ∧ A' = As (T.next k (T.lo k)) ∧ AllN (fun c=>StepV (astep P op vs (As c)) v (As (T.next k c))) (T.hi k - T.lo k) (T.lo k + 1) ∧ wpG P own N ops T As Q (k + 1) rest (putA N d v e)):=rfl
def CallE (k : Nat) (g : FuncId) (args : List AV) (rest : List Oper) (d : Option Tmp) (e : Env) : Prop :=
  ∃ v,(∀ c,T.lo k ≤ c → c ≤ T.hi k → CallK P own g args (As c) (fun v' A'=>v' = v ∧ A' = As (T.next k c))) ∧ wpG P own N ops T As Q (k + 1) rest (putA N d v e)
def InvE (k : Nat) (name : String) (v : AV) (args : List AV) (rest : List Oper) (d : Option Tmp) (e : Env) : Prop :=
  match v with
  | .iface t x=>∃ g,methA P t name = some g ∧ callable P g = true ∧ CallE P own N ops T As Q k g (x :: args) rest d e
  | .ifx t x=>∃ g,methA P t name = some g ∧ callable P g = true ∧ CallE P own N ops T As Q k g (x :: args) rest d e
  | _=>False
def GuardE (k : Nat) (o : Oper) (rest : List Oper) (e : Env) (want : Bool) (v : AV) : Prop :=
  match v with
  | .bool t=>((t == want) = true → wpG P own N ops T As Q k ({ o with guard:=none } :: rest) e) ∧ ((t == want) = false → SkZ T As k ∧ wpG P own N ops T As Q (k + 1) rest (putA N o.dst (.tuple []) e))
  | .tuple _=>SkZ T As k ∧ wpG P own N ops T As Q (k + 1) rest (putA N o.dst (.tuple []) e)
  | _=>False
variable (k : Nat) (rest : List Oper) (e : Env) (d : Option Tmp) (ty : TypeId) (pos : String) (af : Array Edge)
theorem wpG_nil : wpG P own N ops T As Q k [] e = Q e:=ofRfl rfl
theorem wpG_plain (op : Op) : wpG P own N ops T As Q k (⟨d,op,ty,pos,af,none⟩ :: rest) e = OpG P own T As k ⟨d,op,ty,pos,af,none⟩ (op.operands.toList.map (evA e)) (fun v=>wpG P own N ops T As Q (k + 1) rest (putA N d v e)):=by
  simp [wpG,wantA]
theorem wpG_step {op : Op} (h : callTarget P op (op.operands.toList.map (evA e)) = none) : wpG P own N ops T As Q k (⟨d,op,ty,pos,af,none⟩ :: rest) e = StepK (astep P op (op.operands.toList.map (evA e)) (As (T.lo k))) (ContE P own N ops T As Q k rest d e op (op.operands.toList.map (evA e))):=by
  rw [wpG_plain]
  unfold OpG
  simp only [h]
  rfl
theorem wpG_pick (x y z : Operand) : wpG P own N ops T As Q k (⟨d,.pick x y z,ty,pos,af,none⟩ :: rest) e = StepK (astep P (.pick x y z) [evA e x,evA e y,evA e z] (As (T.lo k))) (ContE P own N ops T As Q k rest d e (.pick x y z) [evA e x,evA e y,evA e z]):=by
  rw [wpG_step _ _ _ _ _ _ _ _ _ _ _ _ _ _ rfl]; rfl
theorem wpG_alloc (t : TypeId) : wpG P own N ops T As Q k (⟨d,.alloc t,ty,pos,af,none⟩ :: rest) e = StepK (astep P (.alloc t) [] (As (T.lo k))) (ContE P own N ops T As Q k rest d e (.alloc t) []):=by
  rw [wpG_step _ _ _ _ _ _ _ _ _ _ _ _ _ _ rfl]; rfl
theorem wpG_box (t : TypeId) (x : Operand) : wpG P own N ops T As Q k (⟨d,.box t x,ty,pos,af,none⟩ :: rest) e = StepK (astep P (.box t x) [evA e x] (As (T.lo k))) (ContE P own N ops T As Q k rest d e (.box t x) [evA e x]):=by
  rw [wpG_step _ _ _ _ _ _ _ _ _ _ _ _ _ _ rfl]; rfl
theorem wpG_load (t : TypeId) (x : Operand) : wpG P own N ops T As Q k (⟨d,.load t x,ty,pos,af,none⟩ :: rest) e = StepK (astep P (.load t x) [evA e x] (As (T.lo k))) (ContE P own N ops T As Q k rest d e (.load t x) [evA e x]):=by
  rw [wpG_step _ _ _ _ _ _ _ _ _ _ _ _ _ _ rfl]; rfl
theorem wpG_store (t : TypeId) (x y : Operand) : wpG P own N ops T As Q k (⟨d,.store t x y,ty,pos,af,none⟩ :: rest) e = StepK (astep P (.store t x y) [evA e x,evA e y] (As (T.lo k))) (ContE P own N ops T As Q k rest d e (.store t x y) [evA e x,evA e y]):=by
  rw [wpG_step _ _ _ _ _ _ _ _ _ _ _ _ _ _ rfl]; rfl
theorem wpG_nilCheck (x : Operand) : wpG P own N ops T As Q k (⟨d,.nilCheck x,ty,pos,af,none⟩ :: rest) e = StepK (astep P (.nilCheck x) [evA e x] (As (T.lo k))) (ContE P own N ops T As Q k rest d e (.nilCheck x) [evA e x]):=by
  rw [wpG_step _ _ _ _ _ _ _ _ _ _ _ _ _ _ rfl]; rfl
theorem wpG_binOp (b : BinOp) (t u : TypeId) (x y : Operand) : wpG P own N ops T As Q k (⟨d,.binOp b t x y u,ty,pos,af,none⟩ :: rest) e = StepK (astep P (.binOp b t x y u) [evA e x,evA e y] (As (T.lo k))) (ContE P own N ops T As Q k rest d e (.binOp b t x y u) [evA e x,evA e y]):=by
  rw [wpG_step _ _ _ _ _ _ _ _ _ _ _ _ _ _ rfl]; rfl
theorem wpG_unOp (b : UnOp) (t : TypeId) (x : Operand) : wpG P own N ops T As Q k (⟨d,.unOp b t x,ty,pos,af,none⟩ :: rest) e = StepK (astep P (.unOp b t x) [evA e x] (As (T.lo k))) (ContE P own N ops T As Q k rest d e (.unOp b t x) [evA e x]):=by
  rw [wpG_step _ _ _ _ _ _ _ _ _ _ _ _ _ _ rfl]; rfl
theorem wpG_convert (t u : TypeId) (x : Operand) : wpG P own N ops T As Q k (⟨d,.convert t u x,ty,pos,af,none⟩ :: rest) e = StepK (astep P (.convert t u x) [evA e x] (As (T.lo k))) (ContE P own N ops T As Q k rest d e (.convert t u x) [evA e x]):=by
  rw [wpG_step _ _ _ _ _ _ _ _ _ _ _ _ _ _ rfl]; rfl
theorem wpG_makeSlice (t : TypeId) (x y : Operand) : wpG P own N ops T As Q k (⟨d,.makeSlice t x y,ty,pos,af,none⟩ :: rest) e = StepK (astep P (.makeSlice t x y) [evA e x,evA e y] (As (T.lo k))) (ContE P own N ops T As Q k rest d e (.makeSlice t x y) [evA e x,evA e y]):=by
  rw [wpG_step _ _ _ _ _ _ _ _ _ _ _ _ _ _ rfl]; rfl
theorem wpG_slice0 (t : TypeId) (x : Operand) : wpG P own N ops T As Q k (⟨d,.slice t x none none none,ty,pos,af,none⟩ :: rest) e = StepK (astep P (.slice t x none none none) [evA e x] (As (T.lo k))) (ContE P own N ops T As Q k rest d e (.slice t x none none none) [evA e x]):=by
  rw [wpG_step _ _ _ _ _ _ _ _ _ _ _ _ _ _ rfl]; rfl
theorem wpG_slice1 (t : TypeId) (x y : Operand) : wpG P own N ops T As Q k (⟨d,.slice t x (some y) none none,ty,pos,af,none⟩ :: rest) e = StepK (astep P (.slice t x (some y) none none) [evA e x,evA e y] (As (T.lo k))) (ContE P own N ops T As Q k rest d e (.slice t x (some y) none none) [evA e x,evA e y]):=by
  rw [wpG_step _ _ _ _ _ _ _ _ _ _ _ _ _ _ rfl]; rfl
theorem wpG_slice2 (t : TypeId) (x y : Operand) : wpG P own N ops T As Q k (⟨d,.slice t x none (some y) none,ty,pos,af,none⟩ :: rest) e = StepK (astep P (.slice t x none (some y) none) [evA e x,evA e y] (As (T.lo k))) (ContE P own N ops T As Q k rest d e (.slice t x none (some y) none) [evA e x,evA e y]):=by
  rw [wpG_step _ _ _ _ _ _ _ _ _ _ _ _ _ _ rfl]; rfl
theorem wpG_slice3 (t : TypeId) (x y z : Operand) : wpG P own N ops T As Q k (⟨d,.slice t x (some y) (some z) none,ty,pos,af,none⟩ :: rest) e = StepK (astep P (.slice t x (some y) (some z) none) [evA e x,evA e y,evA e z] (As (T.lo k))) (ContE P own N ops T As Q k rest d e (.slice t x (some y) (some z) none) [evA e x,evA e y,evA e z]):=by
  rw [wpG_step _ _ _ _ _ _ _ _ _ _ _ _ _ _ rfl]; rfl
theorem wpG_fieldAddr (t : TypeId) (x : Operand) (kk : Nat) : wpG P own N ops T As Q k (⟨d,.fieldAddr t x kk,ty,pos,af,none⟩ :: rest) e = StepK (astep P (.fieldAddr t x kk) [evA e x] (As (T.lo k))) (ContE P own N ops T As Q k rest d e (.fieldAddr t x kk) [evA e x]):=by
  rw [wpG_step _ _ _ _ _ _ _ _ _ _ _ _ _ _ rfl]; rfl
theorem wpG_field (t : TypeId) (x : Operand) (kk : Nat) : wpG P own N ops T As Q k (⟨d,.field t x kk,ty,pos,af,none⟩ :: rest) e = StepK (astep P (.field t x kk) [evA e x] (As (T.lo k))) (ContE P own N ops T As Q k rest d e (.field t x kk) [evA e x]):=by
  rw [wpG_step _ _ _ _ _ _ _ _ _ _ _ _ _ _ rfl]; rfl
theorem wpG_indexAddr (t : TypeId) (x y : Operand) : wpG P own N ops T As Q k (⟨d,.indexAddr t x y,ty,pos,af,none⟩ :: rest) e = StepK (astep P (.indexAddr t x y) [evA e x,evA e y] (As (T.lo k))) (ContE P own N ops T As Q k rest d e (.indexAddr t x y) [evA e x,evA e y]):=by
  rw [wpG_step _ _ _ _ _ _ _ _ _ _ _ _ _ _ rfl]; rfl
theorem wpG_index (t : TypeId) (x y : Operand) : wpG P own N ops T As Q k (⟨d,.index t x y,ty,pos,af,none⟩ :: rest) e = StepK (astep P (.index t x y) [evA e x,evA e y] (As (T.lo k))) (ContE P own N ops T As Q k rest d e (.index t x y) [evA e x,evA e y]):=by
  rw [wpG_step _ _ _ _ _ _ _ _ _ _ _ _ _ _ rfl]; rfl
theorem wpG_extract (x : Operand) (kk : Nat) : wpG P own N ops T As Q k (⟨d,.extract x kk,ty,pos,af,none⟩ :: rest) e = StepK (astep P (.extract x kk) [evA e x] (As (T.lo k))) (ContE P own N ops T As Q k rest d e (.extract x kk) [evA e x]):=by
  rw [wpG_step _ _ _ _ _ _ _ _ _ _ _ _ _ _ rfl]; rfl
theorem wpG_build (t : TypeId) (l : List (Nat × Operand)) : wpG P own N ops T As Q k (⟨d,.build t l.toArray,ty,pos,af,none⟩ :: rest) e = StepK (astep P (.build t l.toArray) (l.map fun p=>evA e p.2) (As (T.lo k))) (ContE P own N ops T As Q k rest d e (.build t l.toArray) (l.map fun p=>evA e p.2)):=by
  rw [wpG_step _ _ _ _ _ _ _ _ _ _ _ _ _ _ rfl]; simp [Op.operands,Function.comp_def]
theorem wpG_buildSlice (t : TypeId) (n : Nat) (l : List (Nat × Operand)) : wpG P own N ops T As Q k (⟨d,.buildSlice t n l.toArray,ty,pos,af,none⟩ :: rest) e = StepK (astep P (.buildSlice t n l.toArray) (l.map fun p=>evA e p.2) (As (T.lo k))) (ContE P own N ops T As Q k rest d e (.buildSlice t n l.toArray) (l.map fun p=>evA e p.2)):=by
  rw [wpG_step _ _ _ _ _ _ _ _ _ _ _ _ _ _ rfl]; simp [Op.operands,Function.comp_def]
theorem wpG_builtin (b : Builtin) (l : List Operand) (ts : Array TypeId) : wpG P own N ops T As Q k (⟨d,.call ⟨.builtin b,l.toArray,ts⟩,ty,pos,af,none⟩ :: rest) e = StepK (astep P (.call ⟨.builtin b,l.toArray,ts⟩) (l.map (evA e)) (As (T.lo k))) (ContE P own N ops T As Q k rest d e (.call ⟨.builtin b,l.toArray,ts⟩) (l.map (evA e))):=by
  rw [wpG_step _ _ _ _ _ _ _ _ _ _ _ _ _ _ (by rfl)]; simp [Op.operands,Call.operands]
theorem wpG_makeInterface (t : TypeId) (x : Operand) : wpG P own N ops T As Q k (⟨d,.makeInterface t x,ty,pos,af,none⟩ :: rest) e = StepK (astep P (.makeInterface t x) [evA e x] (As (T.lo k))) (ContE P own N ops T As Q k rest d e (.makeInterface t x) [evA e x]):=by
  rw [wpG_step _ _ _ _ _ _ _ _ _ _ _ _ _ _ rfl]; rfl
theorem wpG_move (x : Operand) : wpG P own N ops T As Q k (⟨d,.move x,ty,pos,af,none⟩ :: rest) e = StepK (astep P (.move x) [evA e x] (As (T.lo k))) (ContE P own N ops T As Q k rest d e (.move x) [evA e x]):=by
  rw [wpG_step _ _ _ _ _ _ _ _ _ _ _ _ _ _ rfl]; rfl
theorem wpG_assign (x : Operand) : wpG P own N ops T As Q k (⟨d,.assign x,ty,pos,af,none⟩ :: rest) e = StepK (astep P (.assign x) [evA e x] (As (T.lo k))) (ContE P own N ops T As Q k rest d e (.assign x) [evA e x]):=by
  rw [wpG_step _ _ _ _ _ _ _ _ _ _ _ _ _ _ rfl]; rfl
theorem wpG_call (g : FuncId) (l : List Operand) (ts : Array TypeId) (h : callable P g = true) : wpG P own N ops T As Q k (⟨d,.call ⟨.value (.func g),l.toArray,ts⟩,ty,pos,af,none⟩ :: rest) e = CallE P own N ops T As Q k g (l.map (evA e)) rest d e:=by
  rw [wpG_plain]; simp [OpG,callTarget,Op.operands,Call.operands,evA,h,CallE]
theorem wpG_guard (op : Op) (j : Nat) (want : Bool) : wpG P own N ops T As Q k (⟨d,op,ty,pos,af,some (j,want)⟩ :: rest) e =
    GuardE P own N ops T As Q k ⟨d,op,ty,pos,af,none⟩ rest e want (match (ops[j]?).bind (·.dst) with | some t=>look t e | none=>.bot):=by
  simp only [wpG,wantA,GuardE]
  cases (ops[j]?).bind (·.dst) with
  | none=>rfl
  | some t =>
    simp only
    cases look t e with
    | tuple l=>simp
    | bool b=>simp only [Option.some.injEq,true_implies,Bool.true_eq_false,false_implies,and_true]; rfl
    | _=>rfl
theorem wpG_invoke (r : Operand) (name : String) (l : List Operand) (ts : Array TypeId) (h : InvE P own N ops T As Q k name (evA e r) (l.map (evA e)) rest d e) :
    wpG P own N ops T As Q k (⟨d,.call ⟨.invoke r name,l.toArray,ts⟩,ty,pos,af,none⟩ :: rest) e:=by
  rw [wpG_plain]
  unfold InvE at h
  unfold OpG
  simp only [Op.operands,Call.operands]
  generalize hq : evA e r = q at h
  cases q <;> try exact h.elim
  all_goals
    rename_i t x
    obtain ⟨g,h1,h2,v,h3,h4⟩:=h
    have : callTarget P (.call ⟨.invoke r name,l.toArray,ts⟩) (List.map (evA e) (#[r] ++ l.toArray).toList) = some (g,x :: l.map (evA e)):=by
      simp [callTarget,hq,h1,h2]
    simp only [this]
    exact ⟨v,h3,h4⟩
end
section
variable {P : Program} {own : FuncId → Bool} {N : Nat} {ops : Array Oper} {T : Ranks} {As : Nat → List Box} {Q : Env → Prop} {k : Nat} {rest : List Oper} {d : Option Tmp} {e : Env}
theorem callE_intro {g : FuncId} {args args' : List AV} {v : AV} {A1 : List Box} (hf : frzs args (As (T.lo k)) = some (args',A1)) (h : ACalls P g args' A1 (fun v' A'=>v' = v ∧ A' = As (T.next k (T.lo k))))
    (hk : wpG P own N ops T As Q (k + 1) rest (putA N d v e)) (ho : own g = false) (hr : T.lo k = T.hi k) : CallE P own N ops T As Q k g args rest d e:=by
  refine ⟨v,fun c h1 h2=>?_,hk⟩
  obtain rfl : c = T.lo k:=by omega
  unfold CallK
  rw [ho]
  exact .inl ⟨args',A1,hf,h⟩
theorem callEN_intro {g : FuncId} {args args' : List AV} {v : AV} (hf : ∀ A,frzs args A = some (args',A)) (h : ∀ A,ACalls P g args' A (fun v' A'=>v' = v ∧ A' = A))
    (hk : wpG P own N ops T As Q (k + 1) rest (putA N d v e)) (ho : own g = false) (hn : T.eff k = false) : CallE P own N ops T As Q k g args rest d e:=by
  refine ⟨v,fun c h1 h2=>?_,hk⟩
  have : T.next k c = c:=by simp [Ranks.next,hn]
  rw [this]
  unfold CallK
  rw [ho]
  exact .inl ⟨args',As c,hf _,h _⟩
theorem callEO_intro {g : FuncId} {args : List AV} {v : AV} (h : ACalls P g args (As (T.lo k)) (fun v' A'=>v' = v ∧ A' = As (T.next k (T.lo k))))
    (hk : wpG P own N ops T As Q (k + 1) rest (putA N d v e)) (hr : T.lo k = T.hi k) : CallE P own N ops T As Q k g args rest d e:=⟨v,fun c h1 h2=>by
  obtain rfl : c = T.lo k:=by omega
  exact .own h,hk⟩
theorem GuardE_bool (o : Oper) (want t : Bool) (h : (t == want) = true) : GuardE P own N ops T As Q k o rest e want (.bool t) = wpG P own N ops T As Q k ({ o with guard:=none } :: rest) e:=by simp [GuardE,h]
theorem GuardE_not (o : Oper) (want t : Bool) (h : (t == want) = false) : GuardE P own N ops T As Q k o rest e want (.bool t) = (SkZ T As k ∧ wpG P own N ops T As Q (k + 1) rest (putA N o.dst (.tuple []) e)):=by simp [GuardE,h]
theorem GuardE_skip (o : Oper) (want : Bool) (l : List AV) : GuardE P own N ops T As Q k o rest e want (.tuple l) = (SkZ T As k ∧ wpG P own N ops T As Q (k + 1) rest (putA N o.dst (.tuple []) e)):=ofRfl rfl
theorem drawE_intro {c : Cfg} {l : List Oper} {Q : Exit → Env → List Box → Prop} {A : List Box} (T : Ranks) (L : List (List Box)) (m : Nat) (h0 : Lk L 0 = A) (h1 : dstOk c.N l.toArray = true) (h2 : Region.lexB .any l.toArray = true) (h3 : rankB l.toArray T m = true) (h4 : backB l.toArray = true) (h5 : endB l.toArray T m = true) (h6 : lohiB T = true)
    (h : wpG P c.own c.N l.toArray T (Lk L) (KeepD c.vs Q (Lk L m)) 0 l e) : DrawE P c l.toArray Q e A :=
  .inr (.inr ⟨T,Lk L,m,h1,h2,h3,h4,h5,h0,wpG_E P c.own c.N l.toArray T (Lk L) _ h6 _ _ _ h⟩)
end
end Go.Abs
/- Short names for the lemmas of a walk. -/
namespace Go.Abs
theorem zaa : type_of% @Go.Abs.wpc_skip:=@Go.Abs.wpc_skip
theorem zab : type_of% @Go.Abs.wpc_label:=@Go.Abs.wpc_label
theorem zac : type_of% @Go.Abs.wpc_seq:=@Go.Abs.wpc_seq
theorem zad : type_of% @Go.Abs.wpc_region:=@Go.Abs.wpc_region
theorem zae : type_of% @Go.Abs.wpc_block:=@Go.Abs.wpc_block
theorem zaf : type_of% @Go.Abs.wpc_loop:=@Go.Abs.wpc_loop
theorem zag : type_of% @Go.Abs.wpc_exit:=@Go.Abs.wpc_exit
theorem zah : type_of% @Go.Abs.wpc_ret:=@Go.Abs.wpc_ret
theorem zai : type_of% @Go.Abs.wpc_cond:=@Go.Abs.wpc_cond
theorem zaj : type_of% @Go.Abs.AThen_normal:=@Go.Abs.AThen_normal
theorem zak : type_of% @Go.Abs.AThen_ret:=@Go.Abs.AThen_ret
theorem zal : type_of% @Go.Abs.AThen_exit:=@Go.Abs.AThen_exit
theorem zam : type_of% @Go.Abs.ABlk_normal:=@Go.Abs.ABlk_normal
theorem zan : type_of% @Go.Abs.ABlk_ret:=@Go.Abs.ABlk_ret
theorem zao : type_of% @Go.Abs.ABlk_exit:=@Go.Abs.ABlk_exit
theorem zap : type_of% @Go.Abs.wpO_nil:=@Go.Abs.wpO_nil
theorem zaq : type_of% @Go.Abs.wpO_move:=@Go.Abs.wpO_move
theorem zar : type_of% @Go.Abs.wpO_assign:=@Go.Abs.wpO_assign
theorem zas : type_of% @Go.Abs.wpO_pick:=@Go.Abs.wpO_pick
theorem zat : type_of% @Go.Abs.wpO_alloc:=@Go.Abs.wpO_alloc
theorem zau : type_of% @Go.Abs.wpO_box:=@Go.Abs.wpO_box
theorem zav : type_of% @Go.Abs.wpO_load:=@Go.Abs.wpO_load
theorem zaw : type_of% @Go.Abs.wpO_store:=@Go.Abs.wpO_store
theorem zax : type_of% @Go.Abs.wpO_nilCheck:=@Go.Abs.wpO_nilCheck
theorem zay : type_of% @Go.Abs.wpO_binOp:=@Go.Abs.wpO_binOp
theorem zaz : type_of% @Go.Abs.wpO_unOp:=@Go.Abs.wpO_unOp
theorem za0 : type_of% @Go.Abs.wpO_convert:=@Go.Abs.wpO_convert
theorem za1 : type_of% @Go.Abs.wpO_makeSlice:=@Go.Abs.wpO_makeSlice
theorem za2 : type_of% @Go.Abs.wpO_slice0:=@Go.Abs.wpO_slice0
theorem za3 : type_of% @Go.Abs.wpO_slice1:=@Go.Abs.wpO_slice1
theorem za4 : type_of% @Go.Abs.wpO_slice2:=@Go.Abs.wpO_slice2
theorem za5 : type_of% @Go.Abs.wpO_slice3:=@Go.Abs.wpO_slice3
theorem za6 : type_of% @Go.Abs.wpO_fieldAddr:=@Go.Abs.wpO_fieldAddr
theorem za7 : type_of% @Go.Abs.wpO_field:=@Go.Abs.wpO_field
theorem za8 : type_of% @Go.Abs.wpO_indexAddr:=@Go.Abs.wpO_indexAddr
theorem za9 : type_of% @Go.Abs.wpO_index:=@Go.Abs.wpO_index
theorem zba : type_of% @Go.Abs.wpO_extract:=@Go.Abs.wpO_extract
theorem zbb : type_of% @Go.Abs.wpO_build:=@Go.Abs.wpO_build
theorem zbc : type_of% @Go.Abs.wpO_buildSlice:=@Go.Abs.wpO_buildSlice
theorem zbd : type_of% @Go.Abs.wpO_builtin:=@Go.Abs.wpO_builtin
theorem zbe : type_of% @Go.Abs.wpO_call:=@Go.Abs.wpO_call
theorem zbf : type_of% @Go.Abs.wpO_makeInterface:=@Go.Abs.wpO_makeInterface
theorem zbg : type_of% @Go.Abs.wpO_guard:=@Go.Abs.wpO_guard
theorem zbh : type_of% @Go.Abs.StepK_some:=@Go.Abs.StepK_some
theorem zbi : type_of% @Go.Abs.KeepK_eq:=@Go.Abs.KeepK_eq
theorem zbj : type_of% @Go.Abs.CondK_true:=@Go.Abs.CondK_true
theorem zbk : type_of% @Go.Abs.CondK_false:=@Go.Abs.CondK_false
theorem zbl : type_of% @Go.Abs.GuardK_bool:=@Go.Abs.GuardK_bool
theorem zbm : type_of% @Go.Abs.GuardK_not:=@Go.Abs.GuardK_not
theorem zbn : type_of% @Go.Abs.getD_app0:=@Go.Abs.getD_app0
theorem zbo : type_of% @Go.Abs.getD_app:=@Go.Abs.getD_app
theorem zbp : type_of% @Go.Abs.getD_app1:=@Go.Abs.getD_app1
theorem zbq : type_of% @Go.Abs.set_app0:=@Go.Abs.set_app0
theorem zbr : type_of% @Go.Abs.set_app:=@Go.Abs.set_app
theorem zbs : type_of% @Go.Abs.length_app1:=@Go.Abs.length_app1
theorem zbt : type_of% @List.length_append:=@List.length_append
theorem zbu : type_of% @List.length_cons:=@List.length_cons
theorem zbv : type_of% @List.length_nil:=@List.length_nil
theorem zbw : type_of% @List.length_singleton:=@List.length_singleton
theorem zbx : type_of% @List.length_set:=@List.length_set
theorem zby : type_of% @List.getElem?_cons_zero:=@List.getElem?_cons_zero
theorem zbz : type_of% @List.getElem?_cons_succ:=@List.getElem?_cons_succ
theorem zb0 : type_of% @List.getElem?_nil:=@List.getElem?_nil
theorem zb1 : type_of% @List.getElem?_toArray:=@List.getElem?_toArray
theorem zb2 : type_of% @List.getD_cons_zero:=@List.getD_cons_zero
theorem zb3 : type_of% @List.getD_cons_succ:=@List.getD_cons_succ
theorem zb4 : type_of% @List.getD_nil:=@List.getD_nil
theorem zb5 : type_of% @List.set_cons_zero:=@List.set_cons_zero
theorem zb6 : type_of% @List.set_cons_succ:=@List.set_cons_succ
theorem zb7 : type_of% @List.take_succ_cons:=@List.take_succ_cons
theorem zb8 : type_of% @List.take_zero:=@List.take_zero
theorem zb9 : type_of% @List.take_nil:=@List.take_nil
theorem zca : type_of% @List.drop_succ_cons:=@List.drop_succ_cons
theorem zcb : type_of% @List.drop_zero:=@List.drop_zero
theorem zcc : type_of% @List.drop_nil:=@List.drop_nil
theorem zcd : type_of% @Go.Abs.List.take_left_app:=@Go.Abs.List.take_left_app
theorem zce : type_of% @List.take_length:=@List.take_length
theorem zcf : type_of% @Go.Abs.Outer_refl_eq:=@Go.Abs.Outer_refl_eq
theorem zcg : type_of% @Go.Abs.Outer_app_eq:=@Go.Abs.Outer_app_eq
theorem zch : type_of% @List.cons_append:=@List.cons_append
theorem zci : type_of% @List.nil_append:=@List.nil_append
theorem zcj : type_of% @List.append_assoc:=@List.append_assoc
theorem zck : type_of% @List.append_nil:=@List.append_nil
theorem zcl : type_of% @List.zip_cons_cons:=@List.zip_cons_cons
theorem zcm : type_of% @List.zip_nil_left:=@List.zip_nil_left
theorem zcn : type_of% @List.zip_nil_right:=@List.zip_nil_right
theorem zco : type_of% @List.zipIdx_cons:=@List.zipIdx_cons
theorem zcp : type_of% @List.zipIdx_nil:=@List.zipIdx_nil
theorem zcq : type_of% @List.map_cons:=@List.map_cons
theorem zcr : type_of% @List.map_nil:=@List.map_nil
theorem zcs : type_of% @List.all_cons:=@List.all_cons
theorem zct : type_of% @List.all_nil:=@List.all_nil
theorem zcu : type_of% @List.replicate_succ:=@List.replicate_succ
theorem zcv : type_of% @List.replicate_zero:=@List.replicate_zero
theorem zcw : type_of% @Option.map_some:=@Option.map_some
theorem zcx : type_of% @Option.map_none:=@Option.map_none
theorem zcy : type_of% @Option.bind_some:=@Option.bind_some
theorem zcz : type_of% @Option.bind_none:=@Option.bind_none
theorem zc0 : type_of% @Option.getD_some:=@Option.getD_some
theorem zc1 : type_of% @Option.getD_none:=@Option.getD_none
theorem zc2 : type_of% @Nat.zero_add:=@Nat.zero_add
theorem zc3 : type_of% @Nat.add_zero:=@Nat.add_zero
theorem zc4 : type_of% @Nat.lt_irrefl:=@Nat.lt_irrefl
theorem zc5 : type_of% @Nat.succ_ne_self:=@Nat.succ_ne_self
theorem zc6 : type_of% @Nat.succ_ne_zero:=@Nat.succ_ne_zero
theorem zc7 : type_of% @Nat.le_refl:=@Nat.le_refl
theorem zc8 : type_of% @if_true:=@if_true
theorem zc9 : type_of% @if_false:=@if_false
theorem zda : type_of% @true_and:=@true_and
theorem zdb : type_of% @and_true:=@and_true
theorem zdc : type_of% @and_self:=@and_self
theorem zdd : type_of% @true_implies:=@true_implies
theorem zde : type_of% @false_implies:=@false_implies
theorem zdf : type_of% @not_true_eq_false:=@not_true_eq_false
theorem zdg : type_of% @not_false_eq_true:=@not_false_eq_true
theorem zdh : type_of% @false_and:=@false_and
theorem zdi : type_of% @and_false:=@and_false
theorem zdj : type_of% @or_true:=@or_true
theorem zdk : type_of% @true_or:=@true_or
theorem zdl : type_of% @or_false:=@or_false
theorem zdm : type_of% @false_or:=@false_or
theorem zdn : type_of% @Bool.true_eq_false:=@Bool.true_eq_false
theorem zdo : type_of% @Bool.false_eq_true:=@Bool.false_eq_true
theorem zdp : type_of% @Bool.and_true:=@Bool.and_true
theorem zdq : type_of% @Bool.true_and:=@Bool.true_and
theorem zdr : type_of% @Bool.and_false:=@Bool.and_false
theorem zds : type_of% @Bool.false_and:=@Bool.false_and
theorem zdt : type_of% @Bool.or_true:=@Bool.or_true
theorem zdu : type_of% @Bool.true_or:=@Bool.true_or
theorem zdv : type_of% @Bool.or_false:=@Bool.or_false
theorem zdw : type_of% @Bool.false_or:=@Bool.false_or
theorem zdx : type_of% @Bool.not_true:=@Bool.not_true
theorem zdy : type_of% @Bool.not_false:=@Bool.not_false
theorem zdz : type_of% @beq_self_eq_true:=@beq_self_eq_true
theorem zd0 : type_of% @bne_self_eq_false:=@bne_self_eq_false
theorem zd1 : type_of% @decide_true:=@decide_true
theorem zd2 : type_of% @decide_false:=@decide_false
theorem zd3 : type_of% @decide_eq_true_eq:=@decide_eq_true_eq
theorem zd4 : type_of% @cond_true:=@cond_true
theorem zd5 : type_of% @cond_false:=@cond_false
theorem zd6 : type_of% @Bool.true_beq:=@Bool.true_beq
theorem zd7 : type_of% @Bool.false_beq:=@Bool.false_beq
theorem zd8 : type_of% @Int.toNat_natCast:=@Int.toNat_natCast
theorem zd9 : type_of% @Int.toNat_zero:=@Int.toNat_zero
theorem zea : type_of% @Go.Abs.wpD_nil:=@Go.Abs.wpD_nil
theorem zeb : type_of% @Go.Abs.wpD_alloc:=@Go.Abs.wpD_alloc
theorem zec : type_of% @Go.Abs.wpD_box:=@Go.Abs.wpD_box
theorem zed : type_of% @Go.Abs.wpD_load:=@Go.Abs.wpD_load
theorem zee : type_of% @Go.Abs.wpD_store:=@Go.Abs.wpD_store
theorem zef : type_of% @Go.Abs.wpD_nilCheck:=@Go.Abs.wpD_nilCheck
theorem zeg : type_of% @Go.Abs.wpD_binOp:=@Go.Abs.wpD_binOp
theorem zeh : type_of% @Go.Abs.wpD_unOp:=@Go.Abs.wpD_unOp
theorem zei : type_of% @Go.Abs.wpD_convert:=@Go.Abs.wpD_convert
theorem zej : type_of% @Go.Abs.wpD_makeSlice:=@Go.Abs.wpD_makeSlice
theorem zek : type_of% @Go.Abs.wpD_slice0:=@Go.Abs.wpD_slice0
theorem zel : type_of% @Go.Abs.wpD_slice1:=@Go.Abs.wpD_slice1
theorem zem : type_of% @Go.Abs.wpD_slice2:=@Go.Abs.wpD_slice2
theorem zen : type_of% @Go.Abs.wpD_slice3:=@Go.Abs.wpD_slice3
theorem zeo : type_of% @Go.Abs.wpD_fieldAddr:=@Go.Abs.wpD_fieldAddr
theorem zep : type_of% @Go.Abs.wpD_field:=@Go.Abs.wpD_field
theorem zeq : type_of% @Go.Abs.wpD_indexAddr:=@Go.Abs.wpD_indexAddr
theorem zer : type_of% @Go.Abs.wpD_index:=@Go.Abs.wpD_index
theorem zes : type_of% @Go.Abs.wpD_extract:=@Go.Abs.wpD_extract
theorem zet : type_of% @Go.Abs.wpD_build:=@Go.Abs.wpD_build
theorem zeu : type_of% @Go.Abs.wpD_buildSlice:=@Go.Abs.wpD_buildSlice
theorem zev : type_of% @Go.Abs.wpD_builtin:=@Go.Abs.wpD_builtin
theorem zew : type_of% @Go.Abs.wpD_call:=@Go.Abs.wpD_call
theorem zex : type_of% @Go.Abs.wpD_move:=@Go.Abs.wpD_move
theorem zey : type_of% @Go.Abs.wpD_assign:=@Go.Abs.wpD_assign
theorem zez : type_of% @Go.Abs.wpD_guard:=@Go.Abs.wpD_guard
theorem ze0 : type_of% @Go.Abs.StepD_some:=@Go.Abs.StepD_some
theorem ze1 : type_of% @Go.Abs.KeepD_eq:=@Go.Abs.KeepD_eq
theorem ze2 : type_of% @Go.Abs.wpc_drawn:=@Go.Abs.wpc_drawn
theorem ze3 : type_of% @Go.Abs.GuardD_bool:=@Go.Abs.GuardD_bool
theorem ze4 : type_of% @Go.Abs.GuardD_not:=@Go.Abs.GuardD_not
theorem ze5 : type_of% @Go.Abs.wpD_pick:=@Go.Abs.wpD_pick
theorem ze6 : type_of% @Go.Abs.wpD_makeInterface:=@Go.Abs.wpD_makeInterface
theorem ze7 : type_of% @Go.Abs.GuardK_skip:=@Go.Abs.GuardK_skip
theorem ze8 : type_of% @Go.Abs.GuardD_skip:=@Go.Abs.GuardD_skip
theorem ze9 : type_of% @Go.Abs.Outer_nil_eq:=@Go.Abs.Outer_nil_eq
theorem zfa : type_of% @Go.Abs.set_app1:=@Go.Abs.set_app1
theorem zfb : type_of% @Go.Abs.getD_set1:=@Go.Abs.getD_set1
theorem zfc : type_of% @Go.Abs.take_set_app:=@Go.Abs.take_set_app
theorem zfd : type_of% @Go.Abs.take_set:=@Go.Abs.take_set
theorem zfe : type_of% @List.set_set:=@List.set_set
theorem zff : type_of% @Go.Abs.getD_sapp0:=@Go.Abs.getD_sapp0
theorem zfg : type_of% @Go.Abs.getD_sapp:=@Go.Abs.getD_sapp
theorem zfh : type_of% @Go.Abs.set_sapp0:=@Go.Abs.set_sapp0
theorem zfi : type_of% @Go.Abs.set_sapp:=@Go.Abs.set_sapp
theorem zfj : type_of% @Go.Abs.wpG_nil:=@Go.Abs.wpG_nil
theorem zfk : type_of% @Go.Abs.wpG_pick:=@Go.Abs.wpG_pick
theorem zfl : type_of% @Go.Abs.wpG_alloc:=@Go.Abs.wpG_alloc
theorem zfm : type_of% @Go.Abs.wpG_box:=@Go.Abs.wpG_box
theorem zfn : type_of% @Go.Abs.wpG_load:=@Go.Abs.wpG_load
theorem zfo : type_of% @Go.Abs.wpG_store:=@Go.Abs.wpG_store
theorem zfp : type_of% @Go.Abs.wpG_nilCheck:=@Go.Abs.wpG_nilCheck
theorem zfq : type_of% @Go.Abs.wpG_binOp:=@Go.Abs.wpG_binOp
theorem zfr : type_of% @Go.Abs.wpG_unOp:=@Go.Abs.wpG_unOp
theorem zfs : type_of% @Go.Abs.wpG_convert:=@Go.Abs.wpG_convert
theorem zft : type_of% @Go.Abs.wpG_makeSlice:=@Go.Abs.wpG_makeSlice
theorem zfu : type_of% @Go.Abs.wpG_slice0:=@Go.Abs.wpG_slice0
theorem zfv : type_of% @Go.Abs.wpG_slice1:=@Go.Abs.wpG_slice1
theorem zfw : type_of% @Go.Abs.wpG_slice2:=@Go.Abs.wpG_slice2
theorem zfx : type_of% @Go.Abs.wpG_slice3:=@Go.Abs.wpG_slice3
theorem zfy : type_of% @Go.Abs.wpG_fieldAddr:=@Go.Abs.wpG_fieldAddr
theorem zfz : type_of% @Go.Abs.wpG_field:=@Go.Abs.wpG_field
theorem zf0 : type_of% @Go.Abs.wpG_indexAddr:=@Go.Abs.wpG_indexAddr
theorem zf1 : type_of% @Go.Abs.wpG_index:=@Go.Abs.wpG_index
theorem zf2 : type_of% @Go.Abs.wpG_extract:=@Go.Abs.wpG_extract
theorem zf3 : type_of% @Go.Abs.wpG_build:=@Go.Abs.wpG_build
theorem zf4 : type_of% @Go.Abs.wpG_buildSlice:=@Go.Abs.wpG_buildSlice
theorem zf5 : type_of% @Go.Abs.wpG_builtin:=@Go.Abs.wpG_builtin
theorem zf6 : type_of% @Go.Abs.wpG_makeInterface:=@Go.Abs.wpG_makeInterface
theorem zf7 : type_of% @Go.Abs.wpG_move:=@Go.Abs.wpG_move
theorem zf8 : type_of% @Go.Abs.wpG_assign:=@Go.Abs.wpG_assign
theorem zf9 : type_of% @Go.Abs.wpG_call:=@Go.Abs.wpG_call
theorem zga : type_of% @Go.Abs.wpG_guard:=@Go.Abs.wpG_guard
theorem zgb : type_of% @Go.Abs.StepE_some:=@Go.Abs.StepE_some
theorem zgc : type_of% @Go.Abs.StepV_some:=@Go.Abs.StepV_some
theorem zgd : type_of% @Go.Abs.AllN_zero:=@Go.Abs.AllN_zero
theorem zge : type_of% @Go.Abs.AllN_succ:=@Go.Abs.AllN_succ
theorem zgf : type_of% @Go.Abs.GuardE_bool:=@Go.Abs.GuardE_bool
theorem zgg : type_of% @Go.Abs.GuardE_not:=@Go.Abs.GuardE_not
theorem zgh : type_of% @Go.Abs.GuardE_skip:=@Go.Abs.GuardE_skip
theorem zgi : type_of% @Go.Abs.wpO_makeMap:=@Go.Abs.wpO_makeMap
theorem zgj : type_of% @Go.Abs.wpO_lookup:=@Go.Abs.wpO_lookup
theorem zgk : type_of% @Go.Abs.wpO_mapUpdate:=@Go.Abs.wpO_mapUpdate
theorem zgl : type_of% @Go.Abs.wpO_makeFunc:=@Go.Abs.wpO_makeFunc
theorem zgm : type_of% @Option.isSome_some:=@Option.isSome_some
theorem zgn : type_of% @Option.isSome_none:=@Option.isSome_none
theorem zW : (((((((type_of% @zaa) ∧ (type_of% @zab)) ∧ ((type_of% @zac) ∧ (type_of% @zad))) ∧ (((type_of% @zae) ∧ (type_of% @zaf)) ∧ ((type_of% @zag) ∧ (type_of% @zah)))) ∧ ((((type_of% @zai) ∧ (type_of% @zaj)) ∧ ((type_of% @zak) ∧ (type_of% @zal))) ∧ (((type_of% @zam) ∧ (type_of% @zan)) ∧ ((type_of% @zao) ∧ ((type_of% @zap) ∧ (type_of% @zaq)))))) ∧ (((((type_of% @zar) ∧ (type_of% @zas)) ∧ ((type_of% @zat) ∧ (type_of% @zau))) ∧ (((type_of% @zav) ∧ (type_of% @zaw)) ∧ ((type_of% @zax) ∧ ((type_of% @zay) ∧ (type_of% @zaz))))) ∧ ((((type_of% @za0) ∧ (type_of% @za1)) ∧ ((type_of% @za2) ∧ (type_of% @za3))) ∧ (((type_of% @za4) ∧ (type_of% @za5)) ∧ ((type_of% @za6) ∧ ((type_of% @za7) ∧ (type_of% @za8))))))) ∧ ((((((type_of% @za9) ∧ (type_of% @zba)) ∧ ((type_of% @zbb) ∧ (type_of% @zbc))) ∧ (((type_of% @zbd) ∧ (type_of% @zbe)) ∧ ((type_of% @zbf) ∧ (type_of% @zbg)))) ∧ ((((type_of% @zbh) ∧ (type_of% @zbi)) ∧ ((type_of% @zbj) ∧ (type_of% @zbk))) ∧ (((type_of% @zbl) ∧ (type_of% @zbm)) ∧ ((type_of% @zbn) ∧ ((type_of% @zbo) ∧ (type_of% @zbp)))))) ∧ (((((type_of% @zbq) ∧ (type_of% @zbr)) ∧ ((type_of% @zbs) ∧ (type_of% @zcd))) ∧ (((type_of% @zcf) ∧ (type_of% @zcg)) ∧ ((type_of% @zea) ∧ ((type_of% @zeb) ∧ (type_of% @zec))))) ∧ ((((type_of% @zed) ∧ (type_of% @zee)) ∧ ((type_of% @zef) ∧ (type_of% @zeg))) ∧ (((type_of% @zeh) ∧ (type_of% @zei)) ∧ ((type_of% @zej) ∧ ((type_of% @zek) ∧ (type_of% @zel)))))))) ∧ (((((((type_of% @zem) ∧ (type_of% @zen)) ∧ ((type_of% @zeo) ∧ (type_of% @zep))) ∧ (((type_of% @zeq) ∧ (type_of% @zer)) ∧ ((type_of% @zes) ∧ (type_of% @zet)))) ∧ ((((type_of% @zeu) ∧ (type_of% @zev)) ∧ ((type_of% @zew) ∧ (type_of% @zex))) ∧ (((type_of% @zey) ∧ (type_of% @zez)) ∧ ((type_of% @ze0) ∧ ((type_of% @ze1) ∧ (type_of% @ze2)))))) ∧ (((((type_of% @ze3) ∧ (type_of% @ze4)) ∧ ((type_of% @ze5) ∧ (type_of% @ze6))) ∧ (((type_of% @ze7) ∧ (type_of% @ze8)) ∧ ((type_of% @ze9) ∧ ((type_of% @zfa) ∧ (type_of% @zfb))))) ∧ ((((type_of% @zfc) ∧ (type_of% @zfd)) ∧ ((type_of% @zff) ∧ (type_of% @zfg))) ∧ (((type_of% @zfh) ∧ (type_of% @zfi)) ∧ ((type_of% @zfj) ∧ ((type_of% @zfk) ∧ (type_of% @zfl))))))) ∧ ((((((type_of% @zfm) ∧ (type_of% @zfn)) ∧ ((type_of% @zfo) ∧ (type_of% @zfp))) ∧ (((type_of% @zfq) ∧ (type_of% @zfr)) ∧ ((type_of% @zfs) ∧ ((type_of% @zft) ∧ (type_of% @zfu))))) ∧ ((((type_of% @zfv) ∧ (type_of% @zfw)) ∧ ((type_of% @zfx) ∧ (type_of% @zfy))) ∧ (((type_of% @zfz) ∧ (type_of% @zf0)) ∧ ((type_of% @zf1) ∧ ((type_of% @zf2) ∧ (type_of% @zf3)))))) ∧ (((((type_of% @zf4) ∧ (type_of% @zf5)) ∧ ((type_of% @zf6) ∧ (type_of% @zf7))) ∧ (((type_of% @zf8) ∧ (type_of% @zf9)) ∧ ((type_of% @zga) ∧ ((type_of% @zgb) ∧ (type_of% @zgc))))) ∧ ((((type_of% @zgd) ∧ (type_of% @zge)) ∧ ((type_of% @zgf) ∧ (type_of% @zgg))) ∧ (((type_of% @zgh) ∧ (type_of% @zgi)) ∧ ((type_of% @zgj) ∧ ((type_of% @zgk) ∧ (type_of% @zgl)))))))) :=
  ⟨⟨⟨⟨⟨⟨⟨@zaa,@zab⟩,⟨@zac,@zad⟩⟩,⟨⟨@zae,@zaf⟩,⟨@zag,@zah⟩⟩⟩,⟨⟨⟨@zai,@zaj⟩,⟨@zak,@zal⟩⟩,⟨⟨@zam,@zan⟩,⟨@zao,⟨@zap,@zaq⟩⟩⟩⟩⟩,⟨⟨⟨⟨@zar,@zas⟩,⟨@zat,@zau⟩⟩,⟨⟨@zav,@zaw⟩,⟨@zax,⟨@zay,@zaz⟩⟩⟩⟩,⟨⟨⟨@za0,@za1⟩,⟨@za2,@za3⟩⟩,⟨⟨@za4,@za5⟩,⟨@za6,⟨@za7,@za8⟩⟩⟩⟩⟩⟩,⟨⟨⟨⟨⟨@za9,@zba⟩,⟨@zbb,@zbc⟩⟩,⟨⟨@zbd,@zbe⟩,⟨@zbf,@zbg⟩⟩⟩,⟨⟨⟨@zbh,@zbi⟩,⟨@zbj,@zbk⟩⟩,⟨⟨@zbl,@zbm⟩,⟨@zbn,⟨@zbo,@zbp⟩⟩⟩⟩⟩,⟨⟨⟨⟨@zbq,@zbr⟩,⟨@zbs,@zcd⟩⟩,⟨⟨@zcf,@zcg⟩,⟨@zea,⟨@zeb,@zec⟩⟩⟩⟩,⟨⟨⟨@zed,@zee⟩,⟨@zef,@zeg⟩⟩,⟨⟨@zeh,@zei⟩,⟨@zej,⟨@zek,@zel⟩⟩⟩⟩⟩⟩⟩,⟨⟨⟨⟨⟨⟨@zem,@zen⟩,⟨@zeo,@zep⟩⟩,⟨⟨@zeq,@zer⟩,⟨@zes,@zet⟩⟩⟩,⟨⟨⟨@zeu,@zev⟩,⟨@zew,@zex⟩⟩,⟨⟨@zey,@zez⟩,⟨@ze0,⟨@ze1,@ze2⟩⟩⟩⟩⟩,⟨⟨⟨⟨@ze3,@ze4⟩,⟨@ze5,@ze6⟩⟩,⟨⟨@ze7,@ze8⟩,⟨@ze9,⟨@zfa,@zfb⟩⟩⟩⟩,⟨⟨⟨@zfc,@zfd⟩,⟨@zff,@zfg⟩⟩,⟨⟨@zfh,@zfi⟩,⟨@zfj,⟨@zfk,@zfl⟩⟩⟩⟩⟩⟩,⟨⟨⟨⟨⟨@zfm,@zfn⟩,⟨@zfo,@zfp⟩⟩,⟨⟨@zfq,@zfr⟩,⟨@zfs,⟨@zft,@zfu⟩⟩⟩⟩,⟨⟨⟨@zfv,@zfw⟩,⟨@zfx,@zfy⟩⟩,⟨⟨@zfz,@zf0⟩,⟨@zf1,⟨@zf2,@zf3⟩⟩⟩⟩⟩,⟨⟨⟨⟨@zf4,@zf5⟩,⟨@zf6,@zf7⟩⟩,⟨⟨@zf8,@zf9⟩,⟨@zga,⟨@zgb,@zgc⟩⟩⟩⟩,⟨⟨⟨@zgd,@zge⟩,⟨@zgf,@zgg⟩⟩,⟨⟨@zgh,@zgi⟩,⟨@zgj,⟨@zgk,@zgl⟩⟩⟩⟩⟩⟩⟩⟩
end Go.Abs
/- Calls of function values in regions whose order is open. -/
namespace Go.Abs
section
variable (P : Program) (own : FuncId → Bool) (N : Nat) (ops : Array Oper) (T : Ranks) (As : Nat → List Box) (Q : Env → Prop) (k : Nat) (rest : List Oper) (e : Env) (A : List Box) (d : Option Tmp) (ty : TypeId) (pos : String) (af : Array Edge)
def CallVE (v : AV) (args : List AV) : Prop :=
  match v with
  | .func (.func g) first captured=>callable P g = true ∧ CallE P own N ops T As Q k g (first ++ args ++ captured) rest d e
  | _=>False
def CallVD (v : AV) (args : List AV) : Prop :=
  match v with
  | .func (.func g) first captured=>callable P g = true ∧ CallD P own g (first ++ args ++ captured) A N ops Q rest d e
  | _=>False
theorem CallVE_eq (g : FuncId) (first captured args : List AV) : CallVE P own N ops T As Q k rest e d (.func (.func g) first captured) args = (callable P g = true ∧ CallE P own N ops T As Q k g (first ++ args ++ captured) rest d e):=ofRfl rfl
theorem CallVD_eq (g : FuncId) (first captured args : List AV) : CallVD P own N ops Q rest e A d (.func (.func g) first captured) args = (callable P g = true ∧ CallD P own g (first ++ args ++ captured) A N ops Q rest d e):=ofRfl rfl
theorem wpG_callv (r : Operand) (l : List Operand) (ts : Array TypeId) (h : CallVE P own N ops T As Q k rest e d (evA e r) (l.map (evA e))) :
    wpG P own N ops T As Q k (⟨d,.call ⟨.value r,l.toArray,ts⟩,ty,pos,af,none⟩ :: rest) e:=by
  rw [wpG_plain]
  unfold CallVE at h
  unfold OpG
  simp only [Op.operands,Call.operands]
  generalize hq : evA e r = q at h
  cases q <;> try exact h.elim
  rename_i fn first captured
  cases fn <;> try exact h.elim
  rename_i g
  obtain ⟨h2,v,h3,h4⟩:=h
  have : callTarget P (.call ⟨.value r,l.toArray,ts⟩) (List.map (evA e) (#[r] ++ l.toArray).toList) = some (g,first ++ l.map (evA e) ++ captured):=by
    simp [callTarget,hq,h2]
  simp only [this]
  exact ⟨v,h3,h4⟩
theorem wpD_callv (r : Operand) (l : List Operand) (ts : Array TypeId) (h : CallVD P own N ops Q rest e A d (evA e r) (l.map (evA e))) :
    wpD P own N ops A Q (⟨d,.call ⟨.value r,l.toArray,ts⟩,ty,pos,af,none⟩ :: rest) e:=by
  rw [wpD_plain]
  unfold CallVD at h
  unfold OpK
  simp only [Op.operands,Call.operands]
  generalize hq : evA e r = q at h
  cases q <;> try exact h.elim
  rename_i fn first captured
  cases fn <;> try exact h.elim
  rename_i g
  obtain ⟨h2,v,h3,h4⟩:=h
  have : callTarget P (.call ⟨.value r,l.toArray,ts⟩) (List.map (evA e) (#[r] ++ l.toArray).toList) = some (g,first ++ l.map (evA e) ++ captured):=by
    simp [callTarget,hq,h2]
  simp only [this]
  exact ⟨v,h3,h4⟩
theorem wpG_makeFunc (fn : Fn) (l m : List Operand) : wpG P own N ops T As Q k (⟨d,.makeFunc fn l.toArray m.toArray,ty,pos,af,none⟩ :: rest) e = StepK (astep P (.makeFunc fn l.toArray m.toArray) ((l ++ m).map (evA e)) (As (T.lo k))) (ContE P own N ops T As Q k rest d e (.makeFunc fn l.toArray m.toArray) ((l ++ m).map (evA e))):=by
  rw [wpG_step _ _ _ _ _ _ _ _ _ _ _ _ _ _ rfl]; simp [Op.operands]
theorem wpD_makeFunc (fn : Fn) (l m : List Operand) : wpD P own N ops A Q (⟨d,.makeFunc fn l.toArray m.toArray,ty,pos,af,none⟩ :: rest) e = StepK (astep P (.makeFunc fn l.toArray m.toArray) ((l ++ m).map (evA e)) A) (ContD P own N ops A Q rest d e):=by
  rw [wpD_step _ _ _ _ _ _ _ _ _ _ _ _ rfl]; simp [Op.operands]
theorem wpG_makeMap (t : TypeId) : wpG P own N ops T As Q k (⟨d,.makeMap t none,ty,pos,af,none⟩ :: rest) e = StepK (astep P (.makeMap t none) [] (As (T.lo k))) (ContE P own N ops T As Q k rest d e (.makeMap t none) []):=by
  rw [wpG_step _ _ _ _ _ _ _ _ _ _ _ _ _ _ rfl]; rfl
theorem wpO_typeAssert (x : Operand) (t u : TypeId) (b : Bool) (Q : Env → List Box → Prop) : wpO P own N ops Q (⟨d,.typeAssert x t u b,ty,pos,af,none⟩ :: rest) e A = StepK (astep P (.typeAssert x t u b) [evA e x] A) (ContO P own N ops Q rest d e):=by
  rw [wpO_plain,opK_step _ _ _ _ _ _ _ rfl]; rfl
theorem wpD_typeAssert (x : Operand) (t u : TypeId) (b : Bool) : wpD P own N ops A Q (⟨d,.typeAssert x t u b,ty,pos,af,none⟩ :: rest) e = StepK (astep P (.typeAssert x t u b) [evA e x] A) (ContD P own N ops A Q rest d e):=by
  rw [wpD_step _ _ _ _ _ _ _ _ _ _ _ _ rfl]; rfl
theorem assert_yes (zc : List AV) (u : TypeId) (v : AV) : assertA u zc (.iface u v) A = some (True,.tuple [v,.bool true],A):=by simp [assertA]
theorem assert_no (zc : List AV) (t u : TypeId) (v : AV) (h : (t == u) = false) : assertA u zc (.iface t v) A = some (True,.tuple [.agg zc,.bool false],A):=by
  have : ¬ t = u:=by simpa using h
  simp [assertA,this]
theorem wpS_nil (Q : Env → List Box → Prop) (l : List Oper) : wpS P own N ops Q [] l e A = wpD P own N ops A (fun e=>Q e A) l e:=ofRfl rfl
theorem wpS_cons (Q : Env → List Box → Prop) (n : Nat) (ns : List Nat) (l : List Oper) : wpS P own N ops Q (n :: ns) l e A = wpD P own N ops A (fun e=>wpO P own N ops (fun e A=>wpS P own N ops Q ns (l.drop (n + 1)) e A) ((l.drop n).take 1) e A) (l.take n) e:=ofRfl rfl
def segB (n : Nat) (ns : List Nat) : Bool:=(segIdx 0 ns).all fun j=>decide (j < n)
theorem drawS_intro {P : Program} {c : Cfg} {l : List Oper} {Q : Exit → Env → List Box → Prop} {e : Env} {A : List Box} (ns : List Nat) (h1 : dstOk c.N l.toArray = true) (h2 : Region.lexB .any l.toArray = true) (h3 : sepB l.toArray (segIdx 0 ns) = true) (h4 : segB l.toArray.size ns = true)
    (h : wpS P c.own c.N l.toArray (fun e A=>KeepD c.vs Q A e) ns l e A) : DrawE P c l.toArray Q e A :=
  .inl ⟨ns,h1,h2,h3,fun j hj=>by simpa using List.all_eq_true.1 h4 j hj,h⟩
theorem wpO_mono {Q Q' : Env → List Box → Prop} (hq : ∀ e A,Q e A → Q' e A) : ∀ (l : List Oper) (e : Env) (A : List Box),wpO P own N ops Q l e A → wpO P own N ops Q' l e A
  | [],e,A,h=>hq e A h
  | o :: rest,e,A,h=>by
    simp only [wpO] at h ⊢
    split at h
    · exact h.elim
    · rename_i b hb
      refine ⟨fun hh=>OpK_mono (h.1 hh) fun v A' h'=>wpO_mono hq rest _ _ h',fun hh=>wpO_mono hq rest _ _ (h.2 hh)⟩
theorem wpE_mono {T : Ranks} {As : Nat → List Box} {Q Q' : Env → Prop} (hq : ∀ e,Q e → Q' e) : ∀ (l : List Oper) (k : Nat) (e : Env),wpE P own N ops T As Q k l e → wpE P own N ops T As Q' k l e
  | [],k,e,h=>hq e h
  | o :: rest,k,e,h=>by
    simp only [wpE] at h ⊢
    split at h
    · exact h.elim
    · rename_i b hb
      refine ⟨fun hh=>?_,fun hh=>⟨(h.2 hh).1,wpE_mono hq rest _ _ (h.2 hh).2⟩⟩
      obtain ⟨v,h1,h2⟩:=h.1 hh
      exact ⟨v,h1,wpE_mono hq rest _ _ h2⟩
def wpMG (T : Ranks) (m : Nat) (Q : Env → List Box → Prop) : List Nat → Nat → List Oper → Env → List (List Box) → Prop
  | [],k,l,e,L=>wpG P own N ops T (Lk L) (fun e=>Q e (Lk L m)) k l e
  | n :: ns,k,l,e,L=>wpG P own N ops T (Lk L) (fun e=>wpO P own N ops (fun e A=>∃ L',Lk L' (T.lo (k + n) + 1) = A ∧ wpMG T m Q ns (k + n + 1) (l.drop (n + 1)) e L') ((l.drop n).take 1) e (Lk L (T.lo (k + n)))) k (l.take n) e
theorem wpMG_nil (T : Ranks) (m : Nat) (Q : Env → List Box → Prop) (k : Nat) (l : List Oper) (L : List (List Box)) : wpMG P own N ops T m Q [] k l e L = wpG P own N ops T (Lk L) (fun e=>Q e (Lk L m)) k l e:=ofRfl rfl
theorem wpMG_cons (T : Ranks) (m : Nat) (Q : Env → List Box → Prop) (n : Nat) (ns : List Nat) (k : Nat) (l : List Oper) (L : List (List Box)) : wpMG P own N ops T m Q (n :: ns) k l e L = wpG P own N ops T (Lk L) (fun e=>wpO P own N ops (fun e A=>∃ L',Lk L' (T.lo (k + n) + 1) = A ∧ wpMG P own N ops T m Q ns (k + n + 1) (l.drop (n + 1)) e L') ((l.drop n).take 1) e (Lk L (T.lo (k + n)))) k (l.take n) e:=ofRfl rfl
theorem wpMG_M {T : Ranks} {m : Nat} {Q : Env → List Box → Prop} (hT : lohiB T = true) : ∀ (ns : List Nat) (k : Nat) (l : List Oper) (e : Env) (L : List (List Box)),wpMG P own N ops T m Q ns k l e L → wpM P own N ops T m Q ns k l e (Lk L)
  | [],k,l,e,L,h=>wpG_E P own N ops T (Lk L) _ hT _ _ _ h
  | n :: ns,k,l,e,L,h=>by
    have h1:=wpG_E P own N ops T (Lk L) _ hT _ _ _ h
    refine wpE_mono P own N ops (fun e' h2=>?_) _ _ _ h1
    refine wpO_mono P own N ops (fun e A ⟨L',h3,h4⟩=>?_) _ _ _ h2
    exact ⟨Lk L',h3,wpMG_M hT ns _ _ _ _ h4⟩
theorem wpY_done_eq (Q : Env → List Box → Prop) : wpY P own N ops Q .done e A = Q e A:=ofRfl rfl
theorem wpY_one_eq (Q : Env → List Box → Prop) (l : List Oper) (i : Nat) (s : Sch) : wpY P own N l.toArray Q (.one i s) e A = wpO P own N l.toArray (fun e A=>wpY P own N l.toArray Q s e A) ((l.drop i).take 1) e A:=ofRfl rfl
theorem wpY_or_eq (Q : Env → List Box → Prop) (a b : Sch) : wpY P own N ops Q (.or a b) e A = (wpY P own N ops Q a e A ∧ wpY P own N ops Q b e A):=ofRfl rfl
end
theorem drawM_intro {P : Program} {e : Env} {c : Cfg} {l : List Oper} {Q : Exit → Env → List Box → Prop} {A : List Box} (ns : List Nat) (s : Sch) (T : Ranks) (L : List (List Box)) (m n : Nat) (h0 : Lk L 0 = A) (h1 : chkM c.N l.toArray T m n ns s = true) (h6 : lohiB T = true)
    (h : wpMG P c.own c.N l.toArray T m (fun e A=>wpY P c.own c.N l.toArray (fun e A=>KeepD c.vs Q A e) s e A) ns 0 (l.take n) e L) : DrawE P c l.toArray Q e A :=
  .inr (.inl (.inl ⟨ns,s,T,Lk L,m,n,h1,h0,wpMG_M P c.own c.N l.toArray h6 ns _ _ _ _ h⟩))
def IBox (k : Nat) (b : Box) (A : List Box) : Prop:=A.getD k .dead = b ∧ k < A.length
theorem IBox.app {k : Nat} {b : Box} {A : List Box} (h : IBox k b A) (B : List Box) : IBox k b (A ++ B):=⟨by rw [Abs.getD_append_left h.2]; exact h.1,by rw [List.length_append]; have:=h.2; omega⟩
theorem IBox.set {k i : Nat} {b : Box} {A : List Box} (h : IBox k b A) (hi : i ≠ k) (x : Box) : IBox k b (A.set i x):=⟨by rw [List.getD,List.getElem?_set_ne hi]; exact h.1,by rw [List.length_set]; exact h.2⟩
section
variable (P : Program) (own : FuncId → Bool) (N : Nat) (I : List Box → Prop) (Q : Env → List Box → Prop) (e : Env) (A : List Box) (l : List Oper)
theorem wpI_done_eq : wpI P own N l.toArray I Q .done e A = Q e A:=ofRfl rfl
theorem wpI_stop_eq : wpI P own N l.toArray I Q .stop e A = True:=ofRfl rfl
theorem wpI_or_eq (i : Nat) (s t : SchI) : wpI P own N l.toArray I Q (.or i s t) e A = (wpO P own N l.toArray (fun e A=>I A ∧ wpI P own N l.toArray I Q s e A) ((l.drop i).take 1) e A ∧ wpI P own N l.toArray I Q t e A):=ofRfl rfl
end
theorem wpI_pur_intro {P : Program} {own : FuncId → Bool} {N : Nat} {I : List Box → Prop} {Q : Env → List Box → Prop} {e : Env} {A : List Box} {l : List Oper} {i d : Nat} {s : SchI} {v : AV} (o : Oper) (h1 : (l.drop i).take 1 = [o]) (hd : o.dst = some d) (hN : d < N) (hw : wantA l.toArray o e = some true)
    (hp : ∀ A',I A' → wpO P own N l.toArray (fun e' A''=>Abs.look d e' = v ∧ A'' = A') [o] e A') (h : wpI P own N l.toArray I Q s (putA N (some d) v e) A) : wpI P own N l.toArray I Q (.pur i s) e A:=by
  refine ⟨o,v,h1,⟨hw,fun A' hA=>?_⟩,by rw [hd]; exact h⟩
  have h2:=hp A' hA
  simp only [wpO,hw] at h2
  refine OpK_mono (h2.1 trivial) fun v' A'' h3=>⟨?_,h3.2⟩
  have h4:=h3.1
  rw [hd,look_putA (d:=some d) (fun t ht=>by cases ht; exact hN)] at h4
  simpa [putF] using h4
theorem drawI_intro {P : Program} {e : Env} {c : Cfg} {l : List Oper} {Q : Exit → Env → List Box → Prop} {A : List Box} (s : SchI) (I : List Box → Prop) (h1 : chkI c.N l.toArray s = true) (hI : I A)
    (h : wpI P c.own c.N l.toArray I (fun e A=>KeepD c.vs Q A e) s e A) : DrawE P c l.toArray Q e A :=
  .inr (.inl (.inr ⟨s,I,h1,hI,h⟩))
end Go.Abs
/- The lemmas on lists and truth values of a walk, in one. -/
namespace Go.Abs
theorem zX : ((((((type_of% @List.length_append.{0}) ∧ (type_of% @List.length_cons.{0})) ∧ ((type_of% @List.length_nil.{0}) ∧ ((type_of% @List.length_singleton.{0}) ∧ (type_of% @List.length_set.{0})))) ∧ (((type_of% @List.getElem?_cons_zero.{0}) ∧ ((type_of% @List.getElem?_cons_succ.{0}) ∧ (type_of% @List.getElem?_nil.{0}))) ∧ ((type_of% @List.getElem?_toArray.{0}) ∧ ((type_of% @List.getD_cons_zero.{0}) ∧ (type_of% @List.getD_cons_succ.{0}))))) ∧ ((((type_of% @List.getD_nil.{0}) ∧ (type_of% @List.set_cons_zero.{0})) ∧ ((type_of% @List.set_cons_succ.{0}) ∧ ((type_of% @List.take_succ_cons.{0}) ∧ (type_of% @List.take_zero.{0})))) ∧ (((type_of% @List.take_nil.{0}) ∧ ((type_of% @List.drop_succ_cons.{0}) ∧ (type_of% @List.drop_zero.{0}))) ∧ ((type_of% @List.drop_nil.{0}) ∧ ((type_of% @List.take_length.{0}) ∧ (type_of% @List.cons_append.{0})))))) ∧ (((((type_of% @List.nil_append.{0}) ∧ (type_of% @List.append_assoc.{0})) ∧ ((type_of% @List.append_nil.{0}) ∧ ((type_of% @List.zip_cons_cons.{0,0}) ∧ (type_of% @List.zip_nil_left.{0,0})))) ∧ (((type_of% @List.zip_nil_right.{0,0}) ∧ ((type_of% @List.zipIdx_cons.{0}) ∧ (type_of% @List.zipIdx_nil.{0}))) ∧ ((type_of% @List.map_cons.{0,0}) ∧ ((type_of% @List.map_nil.{0,0}) ∧ (type_of% @List.all_cons.{0}))))) ∧ ((((type_of% @List.all_nil.{0}) ∧ (type_of% @List.replicate_succ.{0})) ∧ ((type_of% @List.replicate_zero.{0}) ∧ ((type_of% @Option.map_some.{0,0}) ∧ (type_of% @Option.map_none.{0,0})))) ∧ (((type_of% @Option.bind_some.{0,0}) ∧ ((type_of% @Option.bind_none.{0,0}) ∧ (type_of% @Option.getD_some.{0}))) ∧ ((type_of% @Option.getD_none.{0}) ∧ ((type_of% @Nat.zero_add) ∧ (type_of% @Nat.add_zero))))))) ∧ ((((((type_of% @Nat.lt_irrefl) ∧ (type_of% @Nat.succ_ne_self)) ∧ ((type_of% @Nat.succ_ne_zero) ∧ ((type_of% @Nat.le_refl) ∧ (type_of% @if_true.{1})))) ∧ (((type_of% @if_false.{1}) ∧ ((type_of% @true_and) ∧ (type_of% @and_true))) ∧ ((type_of% @and_self) ∧ ((type_of% @true_implies) ∧ (type_of% @false_implies))))) ∧ ((((type_of% @not_true_eq_false) ∧ (type_of% @not_false_eq_true)) ∧ ((type_of% @false_and) ∧ ((type_of% @and_false) ∧ (type_of% @or_true)))) ∧ (((type_of% @true_or) ∧ ((type_of% @or_false) ∧ (type_of% @false_or))) ∧ ((type_of% @Bool.true_eq_false) ∧ ((type_of% @Bool.false_eq_true) ∧ (type_of% @Bool.and_true)))))) ∧ (((((type_of% @Bool.true_and) ∧ (type_of% @Bool.and_false)) ∧ ((type_of% @Bool.false_and) ∧ ((type_of% @Bool.or_true) ∧ (type_of% @Bool.true_or)))) ∧ (((type_of% @Bool.or_false) ∧ ((type_of% @Bool.false_or) ∧ (type_of% @Bool.not_true))) ∧ ((type_of% @Bool.not_false) ∧ ((type_of% @beq_self_eq_true.{0}) ∧ (type_of% @bne_self_eq_false.{0}))))) ∧ ((((type_of% @decide_true) ∧ ((type_of% @decide_false) ∧ (type_of% @decide_eq_true_eq))) ∧ ((type_of% @cond_true.{1}) ∧ ((type_of% @cond_false.{1}) ∧ (type_of% @Bool.true_beq)))) ∧ (((type_of% @Bool.false_beq) ∧ ((type_of% @Int.toNat_natCast) ∧ (type_of% @Int.toNat_zero))) ∧ ((type_of% @List.set_set.{0}) ∧ ((type_of% @Option.isSome_some.{0}) ∧ (type_of% @Option.isSome_none.{0}))))))) :=
  ⟨⟨⟨⟨⟨⟨@List.length_append.{0},@List.length_cons.{0}⟩,⟨@List.length_nil.{0},⟨@List.length_singleton.{0},@List.length_set.{0}⟩⟩⟩,⟨⟨@List.getElem?_cons_zero.{0},⟨@List.getElem?_cons_succ.{0},@List.getElem?_nil.{0}⟩⟩,⟨@List.getElem?_toArray.{0},⟨@List.getD_cons_zero.{0},@List.getD_cons_succ.{0}⟩⟩⟩⟩,⟨⟨⟨@List.getD_nil.{0},@List.set_cons_zero.{0}⟩,⟨@List.set_cons_succ.{0},⟨@List.take_succ_cons.{0},@List.take_zero.{0}⟩⟩⟩,⟨⟨@List.take_nil.{0},⟨@List.drop_succ_cons.{0},@List.drop_zero.{0}⟩⟩,⟨@List.drop_nil.{0},⟨@List.take_length.{0},@List.cons_append.{0}⟩⟩⟩⟩⟩,⟨⟨⟨⟨@List.nil_append.{0},@List.append_assoc.{0}⟩,⟨@List.append_nil.{0},⟨@List.zip_cons_cons.{0,0},@List.zip_nil_left.{0,0}⟩⟩⟩,⟨⟨@List.zip_nil_right.{0,0},⟨@List.zipIdx_cons.{0},@List.zipIdx_nil.{0}⟩⟩,⟨@List.map_cons.{0,0},⟨@List.map_nil.{0,0},@List.all_cons.{0}⟩⟩⟩⟩,⟨⟨⟨@List.all_nil.{0},@List.replicate_succ.{0}⟩,⟨@List.replicate_zero.{0},⟨@Option.map_some.{0,0},@Option.map_none.{0,0}⟩⟩⟩,⟨⟨@Option.bind_some.{0,0},⟨@Option.bind_none.{0,0},@Option.getD_some.{0}⟩⟩,⟨@Option.getD_none.{0},⟨@Nat.zero_add,@Nat.add_zero⟩⟩⟩⟩⟩⟩,⟨⟨⟨⟨⟨@Nat.lt_irrefl,@Nat.succ_ne_self⟩,⟨@Nat.succ_ne_zero,⟨@Nat.le_refl,@if_true.{1}⟩⟩⟩,⟨⟨@if_false.{1},⟨@true_and,@and_true⟩⟩,⟨@and_self,⟨@true_implies,@false_implies⟩⟩⟩⟩,⟨⟨⟨@not_true_eq_false,@not_false_eq_true⟩,⟨@false_and,⟨@and_false,@or_true⟩⟩⟩,⟨⟨@true_or,⟨@or_false,@false_or⟩⟩,⟨@Bool.true_eq_false,⟨@Bool.false_eq_true,@Bool.and_true⟩⟩⟩⟩⟩,⟨⟨⟨⟨@Bool.true_and,@Bool.and_false⟩,⟨@Bool.false_and,⟨@Bool.or_true,@Bool.true_or⟩⟩⟩,⟨⟨@Bool.or_false,⟨@Bool.false_or,@Bool.not_true⟩⟩,⟨@Bool.not_false,⟨@beq_self_eq_true.{0},@bne_self_eq_false.{0}⟩⟩⟩⟩,⟨⟨⟨@decide_true,⟨@decide_false,@decide_eq_true_eq⟩⟩,⟨@cond_true.{1},⟨@cond_false.{1},@Bool.true_beq⟩⟩⟩,⟨⟨@Bool.false_beq,⟨@Int.toNat_natCast,@Int.toNat_zero⟩⟩,⟨@List.set_set.{0},⟨@Option.isSome_some.{0},@Option.isSome_none.{0}⟩⟩⟩⟩⟩⟩⟩
end Go.Abs
/- The rules of the operations, in one. -/
namespace Go.Abs
theorem zD : ((((((((type_of% @tkIface.eq_1) ∧ (type_of% @tkIface.eq_2)) ∧ ((type_of% @isWhole.eq_1) ∧ (type_of% @isWhole.eq_2))) ∧ (((type_of% @evA.eq_1) ∧ (type_of% @evA.eq_2)) ∧ ((type_of% @evA.eq_3) ∧ (type_of% @evA.eq_4)))) ∧ ((((type_of% @look.eq_1) ∧ (type_of% @look.eq_2)) ∧ ((type_of% @putA.eq_1) ∧ (type_of% @putA.eq_2))) ∧ (((type_of% @del.eq_1) ∧ (type_of% @del.eq_2)) ∧ ((type_of% @keep.eq_1) ∧ ((type_of% @astep.eq_1) ∧ (type_of% @astep.eq_2)))))) ∧ (((((type_of% @astep.eq_3) ∧ (type_of% @astep.eq_4)) ∧ ((type_of% @astep.eq_5) ∧ (type_of% @astep.eq_6))) ∧ (((type_of% @astep.eq_7) ∧ (type_of% @astep.eq_8)) ∧ ((type_of% @astep.eq_9) ∧ (type_of% @astep.eq_10)))) ∧ ((((type_of% @astep.eq_11) ∧ (type_of% @astep.eq_12)) ∧ ((type_of% @astep.eq_13) ∧ (type_of% @astep.eq_14))) ∧ (((type_of% @astep.eq_15) ∧ (type_of% @astep.eq_16)) ∧ ((type_of% @astep.eq_17) ∧ ((type_of% @astep.eq_18) ∧ (type_of% @astep.eq_19))))))) ∧ ((((((type_of% @astep.eq_20) ∧ (type_of% @astep.eq_21)) ∧ ((type_of% @astep.eq_22) ∧ (type_of% @astep.eq_23))) ∧ (((type_of% @astep.eq_24) ∧ (type_of% @astep.eq_25)) ∧ ((type_of% @astep.eq_26) ∧ (type_of% @astep.eq_27)))) ∧ ((((type_of% @astep.eq_28) ∧ (type_of% @astep.eq_29)) ∧ ((type_of% @astep.eq_30) ∧ (type_of% @astep.eq_31))) ∧ (((type_of% @astep.eq_32) ∧ (type_of% @astep.eq_33)) ∧ ((type_of% @astep.eq_34) ∧ ((type_of% @astep.eq_35) ∧ (type_of% @astep.eq_36)))))) ∧ (((((type_of% @astep.eq_37) ∧ (type_of% @appendA.eq_1)) ∧ ((type_of% @pickA.eq_1) ∧ (type_of% @pickA.eq_2))) ∧ (((type_of% @pickA.eq_3) ∧ (type_of% @elemOf?.eq_1)) ∧ ((type_of% @elemOf?.eq_2) ∧ ((type_of% @lenA.eq_1) ∧ (type_of% @lenA.eq_2))))) ∧ ((((type_of% @lenA.eq_3) ∧ (type_of% @lenA.eq_4)) ∧ ((type_of% @lenA.eq_5) ∧ (type_of% @lenA.eq_6))) ∧ (((type_of% @lenA.eq_7) ∧ (type_of% @rowsOf.eq_1)) ∧ ((type_of% @rowsOf.eq_2) ∧ ((type_of% @rowsOf.eq_3) ∧ (type_of% @rowsOf.eq_4)))))))) ∧ (((((((type_of% @rowsOf.eq_5) ∧ (type_of% @cellsOf.eq_1)) ∧ ((type_of% @cellsOf.eq_2) ∧ (type_of% @cellsOf.eq_3))) ∧ (((type_of% @cellsOf.eq_4) ∧ (type_of% @cellsOf.eq_5)) ∧ ((type_of% @shiftP.eq_1) ∧ (type_of% @shiftP.eq_2)))) ∧ ((((type_of% @shiftP.eq_3) ∧ (type_of% @shiftP.eq_4)) ∧ ((type_of% @loadA.eq_1) ∧ (type_of% @partA.eq_1))) ∧ (((type_of% @idxA.eq_1) ∧ (type_of% @idxA.eq_2)) ∧ ((type_of% @idxA.eq_3) ∧ ((type_of% @idxA.eq_4) ∧ (type_of% @idxA.eq_5)))))) ∧ (((((type_of% @binA.eq_1) ∧ (type_of% @binA.eq_2)) ∧ ((type_of% @binA.eq_3) ∧ (type_of% @binA.eq_4))) ∧ (((type_of% @binA.eq_5) ∧ (type_of% @intA.eq_1)) ∧ ((type_of% @intA.eq_2) ∧ (type_of% @intA.eq_3)))) ∧ ((((type_of% @intA.eq_4) ∧ (type_of% @intA.eq_5)) ∧ ((type_of% @intA.eq_6) ∧ (type_of% @intA.eq_7))) ∧ (((type_of% @intA.eq_8) ∧ (type_of% @intA.eq_9)) ∧ ((type_of% @intA.eq_10) ∧ ((type_of% @intA.eq_11) ∧ (type_of% @intA.eq_12))))))) ∧ ((((((type_of% @intA.eq_13) ∧ (type_of% @strA.eq_1)) ∧ ((type_of% @strA.eq_2) ∧ (type_of% @strA.eq_3))) ∧ (((type_of% @strA.eq_4) ∧ (type_of% @strA.eq_5)) ∧ ((type_of% @strA.eq_6) ∧ (type_of% @strA.eq_7)))) ∧ ((((type_of% @strA.eq_8) ∧ (type_of% @eqA.eq_1)) ∧ ((type_of% @eqA.eq_2) ∧ (type_of% @eqA.eq_3))) ∧ (((type_of% @eqA.eq_4) ∧ (type_of% @eqA.eq_5)) ∧ ((type_of% @eqA.eq_6) ∧ ((type_of% @eqA.eq_7) ∧ (type_of% @eqA.eq_8)))))) ∧ (((((type_of% @eqA.eq_9) ∧ (type_of% @eqA.eq_10)) ∧ ((type_of% @nilP.eq_1) ∧ (type_of% @nilP.eq_2))) ∧ (((type_of% @nilP.eq_3) ∧ (type_of% @nilP.eq_4)) ∧ ((type_of% @nilP.eq_5) ∧ ((type_of% @nilS.eq_1) ∧ (type_of% @nilS.eq_2))))) ∧ ((((type_of% @nilS.eq_3) ∧ (type_of% @nilM.eq_1)) ∧ ((type_of% @nilM.eq_2) ∧ (type_of% @nilM.eq_3))) ∧ (((type_of% @unA.eq_1) ∧ (type_of% @unA.eq_2)) ∧ ((type_of% @unA.eq_3) ∧ ((type_of% @unA.eq_4) ∧ (type_of% @unA.eq_5))))))))) ∧ ((((((((type_of% @convA.eq_1) ∧ (type_of% @convA.eq_2)) ∧ ((type_of% @convA.eq_3) ∧ (type_of% @convA.eq_4))) ∧ (((type_of% @convA.eq_5) ∧ (type_of% @convA.eq_6)) ∧ ((type_of% @storeA.eq_1) ∧ (type_of% @storeA.eq_2)))) ∧ ((((type_of% @storeA.eq_3) ∧ (type_of% @cellsA.eq_1)) ∧ ((type_of% @cellsA.eq_2) ∧ (type_of% @cellsA.eq_3))) ∧ (((type_of% @cellsA.eq_4) ∧ (type_of% @fillA.eq_1)) ∧ ((type_of% @fillA.eq_2) ∧ ((type_of% @litRows.eq_1) ∧ (type_of% @litRows.eq_2)))))) ∧ (((((type_of% @pairs.eq_1) ∧ (type_of% @sliceOp.eq_1)) ∧ ((type_of% @sliceA.eq_1) ∧ (type_of% @sliceA.eq_2))) ∧ (((type_of% @sliceA.eq_3) ∧ (type_of% @sliceA.eq_4)) ∧ ((type_of% @isPtr.eq_1) ∧ (type_of% @isPtr.eq_2)))) ∧ ((((type_of% @isPtr.eq_3) ∧ (type_of% @isPtr.eq_4)) ∧ ((type_of% @isPtr.eq_5) ∧ (type_of% @isStr.eq_1))) ∧ (((type_of% @isStr.eq_2) ∧ (type_of% @tkStr.eq_1)) ∧ ((type_of% @tkStr.eq_2) ∧ ((type_of% @tkSlice.eq_1) ∧ (type_of% @tkSlice.eq_2))))))) ∧ ((((((type_of% @isByte.eq_1) ∧ (type_of% @isByte.eq_2)) ∧ ((type_of% @byteOf.eq_1) ∧ (type_of% @byteOf.eq_2))) ∧ (((type_of% @frz1.eq_1) ∧ (type_of% @frz1.eq_2)) ∧ ((type_of% @frz1.eq_3) ∧ (type_of% @frzL.eq_1)))) ∧ ((((type_of% @frzL.eq_2) ∧ (type_of% @frzC.eq_1)) ∧ ((type_of% @frzC.eq_2) ∧ (type_of% @frzs.eq_1))) ∧ (((type_of% @frzs.eq_2) ∧ (type_of% @frzT.eq_1)) ∧ ((type_of% @frzT.eq_2) ∧ ((type_of% @lfz.eq_1) ∧ (type_of% @lfz.eq_2)))))) ∧ (((((type_of% @constA.eq_1) ∧ (type_of% @constA.eq_2)) ∧ ((type_of% @retVal.eq_1) ∧ (type_of% @rvs.eq_1))) ∧ (((type_of% @rvs.eq_2) ∧ (type_of% @rvs.eq_3)) ∧ ((type_of% @resCell.eq_1) ∧ ((type_of% @ARet.eq_1) ∧ (type_of% @ARet.eq_2))))) ∧ ((((type_of% @ARet.eq_3) ∧ (type_of% @entry.eq_1)) ∧ ((type_of% @closed.eq_1) ∧ (type_of% @closed.eq_2))) ∧ (((type_of% @closed1.eq_1) ∧ (type_of% @closed1.eq_2)) ∧ ((type_of% @closed1.eq_3) ∧ ((type_of% @closed1.eq_4) ∧ (type_of% @closed1.eq_5)))))))) ∧ (((((((type_of% @closed1.eq_6) ∧ (type_of% @closed1.eq_7)) ∧ ((type_of% @closed1.eq_8) ∧ (type_of% @closed1.eq_9))) ∧ (((type_of% @closed1.eq_10) ∧ (type_of% @closed1.eq_11)) ∧ ((type_of% @closed1.eq_12) ∧ (type_of% @closed1.eq_13)))) ∧ ((((type_of% @closed1.eq_14) ∧ (type_of% @closed1.eq_15)) ∧ ((type_of% @closed1.eq_16) ∧ (type_of% @closed1.eq_17))) ∧ (((type_of% @closed1.eq_18) ∧ (type_of% @closed1.eq_19)) ∧ ((type_of% @closed1.eq_20) ∧ ((type_of% @closed1.eq_21) ∧ (type_of% @closed2.eq_1)))))) ∧ (((((type_of% @closed2.eq_2) ∧ (type_of% @closed2.eq_3)) ∧ ((type_of% @ARetK.eq_1) ∧ (type_of% @ARetK.eq_2))) ∧ (((type_of% @ARetK.eq_3) ∧ (type_of% @Lk.eq_1)) ∧ ((type_of% @Ranks.lo.eq_1) ∧ ((type_of% @Ranks.hi.eq_1) ∧ (type_of% @Ranks.next.eq_1))))) ∧ ((((type_of% @Ranks.eff.eq_1) ∧ (type_of% @aggEq.eq_1)) ∧ ((type_of% @aggEq.eq_2) ∧ (type_of% @eqK.eq_1))) ∧ (((type_of% @eqK.eq_2) ∧ (type_of% @c1A.eq_1)) ∧ ((type_of% @c1A.eq_2) ∧ ((type_of% @c1A.eq_3) ∧ (type_of% @c1A.eq_4))))))) ∧ ((((((type_of% @c1A.eq_5) ∧ (type_of% @lkV.eq_1)) ∧ ((type_of% @lkV.eq_2) ∧ (type_of% @updA.eq_1))) ∧ (((type_of% @updA.eq_2) ∧ (type_of% @updS.eq_1)) ∧ ((type_of% @updS.eq_2) ∧ (type_of% @isCell.eq_1)))) ∧ ((((type_of% @isCell.eq_2) ∧ (type_of% @isCell.eq_3)) ∧ ((type_of% @isCell.eq_4) ∧ (type_of% @cutOwn.eq_1))) ∧ (((type_of% @cutOwn.eq_2) ∧ (type_of% @cutOwn.eq_3)) ∧ ((type_of% @countA.eq_1) ∧ ((type_of% @storeN.eq_1) ∧ (type_of% @storeN.eq_2)))))) ∧ (((((type_of% @appendN.eq_1) ∧ (type_of% @appendN.eq_2)) ∧ ((type_of% @isU8.eq_1) ∧ (type_of% @isU8.eq_2))) ∧ (((type_of% @elemId.eq_1) ∧ (type_of% @elemId.eq_2)) ∧ ((type_of% @sdataA.eq_1) ∧ ((type_of% @sdataA.eq_2) ∧ (type_of% @sdataA.eq_3))))) ∧ ((((type_of% @bldZ.eq_1) ∧ (type_of% @bldZ.eq_2)) ∧ ((type_of% @isElem.eq_1) ∧ (type_of% @isElem.eq_2))) ∧ (((type_of% @isElem.eq_3) ∧ (type_of% @litRowsN.eq_1)) ∧ ((type_of% @litRowsN.eq_2) ∧ ((type_of% @isOctet.eq_1) ∧ (type_of% @isOctet.eq_2))))))))) :=
  ⟨⟨⟨⟨⟨⟨⟨⟨@tkIface.eq_1,@tkIface.eq_2⟩,⟨@isWhole.eq_1,@isWhole.eq_2⟩⟩,⟨⟨@evA.eq_1,@evA.eq_2⟩,⟨@evA.eq_3,@evA.eq_4⟩⟩⟩,⟨⟨⟨@look.eq_1,@look.eq_2⟩,⟨@putA.eq_1,@putA.eq_2⟩⟩,⟨⟨@del.eq_1,@del.eq_2⟩,⟨@keep.eq_1,⟨@astep.eq_1,@astep.eq_2⟩⟩⟩⟩⟩,⟨⟨⟨⟨@astep.eq_3,@astep.eq_4⟩,⟨@astep.eq_5,@astep.eq_6⟩⟩,⟨⟨@astep.eq_7,@astep.eq_8⟩,⟨@astep.eq_9,@astep.eq_10⟩⟩⟩,⟨⟨⟨@astep.eq_11,@astep.eq_12⟩,⟨@astep.eq_13,@astep.eq_14⟩⟩,⟨⟨@astep.eq_15,@astep.eq_16⟩,⟨@astep.eq_17,⟨@astep.eq_18,@astep.eq_19⟩⟩⟩⟩⟩⟩,⟨⟨⟨⟨⟨@astep.eq_20,@astep.eq_21⟩,⟨@astep.eq_22,@astep.eq_23⟩⟩,⟨⟨@astep.eq_24,@astep.eq_25⟩,⟨@astep.eq_26,@astep.eq_27⟩⟩⟩,⟨⟨⟨@astep.eq_28,@astep.eq_29⟩,⟨@astep.eq_30,@astep.eq_31⟩⟩,⟨⟨@astep.eq_32,@astep.eq_33⟩,⟨@astep.eq_34,⟨@astep.eq_35,@astep.eq_36⟩⟩⟩⟩⟩,⟨⟨⟨⟨@astep.eq_37,@appendA.eq_1⟩,⟨@pickA.eq_1,@pickA.eq_2⟩⟩,⟨⟨@pickA.eq_3,@elemOf?.eq_1⟩,⟨@elemOf?.eq_2,⟨@lenA.eq_1,@lenA.eq_2⟩⟩⟩⟩,⟨⟨⟨@lenA.eq_3,@lenA.eq_4⟩,⟨@lenA.eq_5,@lenA.eq_6⟩⟩,⟨⟨@lenA.eq_7,@rowsOf.eq_1⟩,⟨@rowsOf.eq_2,⟨@rowsOf.eq_3,@rowsOf.eq_4⟩⟩⟩⟩⟩⟩⟩,⟨⟨⟨⟨⟨⟨@rowsOf.eq_5,@cellsOf.eq_1⟩,⟨@cellsOf.eq_2,@cellsOf.eq_3⟩⟩,⟨⟨@cellsOf.eq_4,@cellsOf.eq_5⟩,⟨@shiftP.eq_1,@shiftP.eq_2⟩⟩⟩,⟨⟨⟨@shiftP.eq_3,@shiftP.eq_4⟩,⟨@loadA.eq_1,@partA.eq_1⟩⟩,⟨⟨@idxA.eq_1,@idxA.eq_2⟩,⟨@idxA.eq_3,⟨@idxA.eq_4,@idxA.eq_5⟩⟩⟩⟩⟩,⟨⟨⟨⟨@binA.eq_1,@binA.eq_2⟩,⟨@binA.eq_3,@binA.eq_4⟩⟩,⟨⟨@binA.eq_5,@intA.eq_1⟩,⟨@intA.eq_2,@intA.eq_3⟩⟩⟩,⟨⟨⟨@intA.eq_4,@intA.eq_5⟩,⟨@intA.eq_6,@intA.eq_7⟩⟩,⟨⟨@intA.eq_8,@intA.eq_9⟩,⟨@intA.eq_10,⟨@intA.eq_11,@intA.eq_12⟩⟩⟩⟩⟩⟩,⟨⟨⟨⟨⟨@intA.eq_13,@strA.eq_1⟩,⟨@strA.eq_2,@strA.eq_3⟩⟩,⟨⟨@strA.eq_4,@strA.eq_5⟩,⟨@strA.eq_6,@strA.eq_7⟩⟩⟩,⟨⟨⟨@strA.eq_8,@eqA.eq_1⟩,⟨@eqA.eq_2,@eqA.eq_3⟩⟩,⟨⟨@eqA.eq_4,@eqA.eq_5⟩,⟨@eqA.eq_6,⟨@eqA.eq_7,@eqA.eq_8⟩⟩⟩⟩⟩,⟨⟨⟨⟨@eqA.eq_9,@eqA.eq_10⟩,⟨@nilP.eq_1,@nilP.eq_2⟩⟩,⟨⟨@nilP.eq_3,@nilP.eq_4⟩,⟨@nilP.eq_5,⟨@nilS.eq_1,@nilS.eq_2⟩⟩⟩⟩,⟨⟨⟨@nilS.eq_3,@nilM.eq_1⟩,⟨@nilM.eq_2,@nilM.eq_3⟩⟩,⟨⟨@unA.eq_1,@unA.eq_2⟩,⟨@unA.eq_3,⟨@unA.eq_4,@unA.eq_5⟩⟩⟩⟩⟩⟩⟩⟩,⟨⟨⟨⟨⟨⟨⟨@convA.eq_1,@convA.eq_2⟩,⟨@convA.eq_3,@convA.eq_4⟩⟩,⟨⟨@convA.eq_5,@convA.eq_6⟩,⟨@storeA.eq_1,@storeA.eq_2⟩⟩⟩,⟨⟨⟨@storeA.eq_3,@cellsA.eq_1⟩,⟨@cellsA.eq_2,@cellsA.eq_3⟩⟩,⟨⟨@cellsA.eq_4,@fillA.eq_1⟩,⟨@fillA.eq_2,⟨@litRows.eq_1,@litRows.eq_2⟩⟩⟩⟩⟩,⟨⟨⟨⟨@pairs.eq_1,@sliceOp.eq_1⟩,⟨@sliceA.eq_1,@sliceA.eq_2⟩⟩,⟨⟨@sliceA.eq_3,@sliceA.eq_4⟩,⟨@isPtr.eq_1,@isPtr.eq_2⟩⟩⟩,⟨⟨⟨@isPtr.eq_3,@isPtr.eq_4⟩,⟨@isPtr.eq_5,@isStr.eq_1⟩⟩,⟨⟨@isStr.eq_2,@tkStr.eq_1⟩,⟨@tkStr.eq_2,⟨@tkSlice.eq_1,@tkSlice.eq_2⟩⟩⟩⟩⟩⟩,⟨⟨⟨⟨⟨@isByte.eq_1,@isByte.eq_2⟩,⟨@byteOf.eq_1,@byteOf.eq_2⟩⟩,⟨⟨@frz1.eq_1,@frz1.eq_2⟩,⟨@frz1.eq_3,@frzL.eq_1⟩⟩⟩,⟨⟨⟨@frzL.eq_2,@frzC.eq_1⟩,⟨@frzC.eq_2,@frzs.eq_1⟩⟩,⟨⟨@frzs.eq_2,@frzT.eq_1⟩,⟨@frzT.eq_2,⟨@lfz.eq_1,@lfz.eq_2⟩⟩⟩⟩⟩,⟨⟨⟨⟨@constA.eq_1,@constA.eq_2⟩,⟨@retVal.eq_1,@rvs.eq_1⟩⟩,⟨⟨@rvs.eq_2,@rvs.eq_3⟩,⟨@resCell.eq_1,⟨@ARet.eq_1,@ARet.eq_2⟩⟩⟩⟩,⟨⟨⟨@ARet.eq_3,@entry.eq_1⟩,⟨@closed.eq_1,@closed.eq_2⟩⟩,⟨⟨@closed1.eq_1,@closed1.eq_2⟩,⟨@closed1.eq_3,⟨@closed1.eq_4,@closed1.eq_5⟩⟩⟩⟩⟩⟩⟩,⟨⟨⟨⟨⟨⟨@closed1.eq_6,@closed1.eq_7⟩,⟨@closed1.eq_8,@closed1.eq_9⟩⟩,⟨⟨@closed1.eq_10,@closed1.eq_11⟩,⟨@closed1.eq_12,@closed1.eq_13⟩⟩⟩,⟨⟨⟨@closed1.eq_14,@closed1.eq_15⟩,⟨@closed1.eq_16,@closed1.eq_17⟩⟩,⟨⟨@closed1.eq_18,@closed1.eq_19⟩,⟨@closed1.eq_20,⟨@closed1.eq_21,@closed2.eq_1⟩⟩⟩⟩⟩,⟨⟨⟨⟨@closed2.eq_2,@closed2.eq_3⟩,⟨@ARetK.eq_1,@ARetK.eq_2⟩⟩,⟨⟨@ARetK.eq_3,@Lk.eq_1⟩,⟨@Ranks.lo.eq_1,⟨@Ranks.hi.eq_1,@Ranks.next.eq_1⟩⟩⟩⟩,⟨⟨⟨@Ranks.eff.eq_1,@aggEq.eq_1⟩,⟨@aggEq.eq_2,@eqK.eq_1⟩⟩,⟨⟨@eqK.eq_2,@c1A.eq_1⟩,⟨@c1A.eq_2,⟨@c1A.eq_3,@c1A.eq_4⟩⟩⟩⟩⟩⟩,⟨⟨⟨⟨⟨@c1A.eq_5,@lkV.eq_1⟩,⟨@lkV.eq_2,@updA.eq_1⟩⟩,⟨⟨@updA.eq_2,@updS.eq_1⟩,⟨@updS.eq_2,@isCell.eq_1⟩⟩⟩,⟨⟨⟨@isCell.eq_2,@isCell.eq_3⟩,⟨@isCell.eq_4,@cutOwn.eq_1⟩⟩,⟨⟨@cutOwn.eq_2,@cutOwn.eq_3⟩,⟨@countA.eq_1,⟨@storeN.eq_1,@storeN.eq_2⟩⟩⟩⟩⟩,⟨⟨⟨⟨@appendN.eq_1,@appendN.eq_2⟩,⟨@isU8.eq_1,@isU8.eq_2⟩⟩,⟨⟨@elemId.eq_1,@elemId.eq_2⟩,⟨@sdataA.eq_1,⟨@sdataA.eq_2,@sdataA.eq_3⟩⟩⟩⟩,⟨⟨⟨@bldZ.eq_1,@bldZ.eq_2⟩,⟨@isElem.eq_1,@isElem.eq_2⟩⟩,⟨⟨@isElem.eq_3,@litRowsN.eq_1⟩,⟨@litRowsN.eq_2,⟨@isOctet.eq_1,@isOctet.eq_2⟩⟩⟩⟩⟩⟩⟩⟩⟩
end Go.Abs
