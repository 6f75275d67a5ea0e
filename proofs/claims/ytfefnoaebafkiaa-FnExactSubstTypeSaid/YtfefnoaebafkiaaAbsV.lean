/- Regions that change boxes in an open order, by the same equations. -/
import Derived.Test.YtfefnoaebafkiaaAbsT
set_option linter.unusedVariables false
set_option linter.unusedSimpArgs false
namespace Go.Abs

def Lk (L : List (List Box)) (c : Nat) : List Box := L.getD c []
/-- a number of ranks from one on -/
def AllN (p : Nat → Prop) : Nat → Nat → Prop
  | 0, _ => True
  | n + 1, c => p c ∧ AllN p n (c + 1)
theorem AllN_zero (p : Nat → Prop) (c : Nat) : AllN p 0 c = True := rfl
theorem AllN_succ (p : Nat → Prop) (n c : Nat) : AllN p (n + 1) c = (p c ∧ AllN p n (c + 1)) := rfl
theorem AllN_all {p : Nat → Prop} : ∀ {n c : Nat}, AllN p n c → ∀ k, c ≤ k → k < c + n → p k
  | 0, c, _, k, h1, h2 => by omega
  | n + 1, c, h, k, h1, h2 => by
    rcases Nat.eq_or_lt_of_le h1 with rfl | h3
    · exact h.1
    · exact AllN_all h.2 k h3 (by omega)
def StepV (r : Option (Prop × AV × List Box)) (v0 : AV) (A0 : List Box) : Prop := StepK r (fun v' A' => v' = v0 ∧ A' = A0)
theorem StepV_some (c : Prop) (v v0 : AV) (A' A0 : List Box) : StepV (Option.some (c, v, A')) v0 A0 = (c ∧ v = v0 ∧ A' = A0) := rfl

section
variable (P : Program) (own : FuncId → Bool) (N : Nat) (ops : Array Oper) (T : Ranks) (As : Nat → List Box) (Q : Env → Prop)
def OpG (k : Nat) (o : Oper) (vs : List AV) (K : AV → Prop) : Prop :=
  match callTarget P o.op vs with
  | some (g, args) => ∃ v, (∀ c, T.lo k ≤ c → c ≤ T.hi k → CallK P own g args (As c) (fun v' A' => v' = v ∧ A' = As (T.next k c))) ∧ K v
  | none => StepK (astep P o.op vs (As (T.lo k))) (fun v A' => A' = As (T.next k (T.lo k)) ∧ AllN (fun c => StepV (astep P o.op vs (As c)) v (As (T.next k c))) (T.hi k - T.lo k) (T.lo k + 1) ∧ K v)
def wpG : Nat → List Oper → Env → Prop
  | _, [], e => Q e
  | k, o :: rest, e => match wantA ops o e with
    | none => False
    | some b => (b = true → OpG P own T As k o (o.op.operands.toList.map (evA e)) (fun v => wpG (k + 1) rest (putA N o.dst v e))) ∧ (b = false → SkZ T As k ∧ wpG (k + 1) rest (putA N o.dst (.tuple []) e))

def lohiB (T : Ranks) : Bool := T.all fun x => decide (x.2.1 ≤ x.2.2)
theorem lohi {T : Ranks} (h : lohiB T = true) (k : Nat) : T.lo k ≤ T.hi k := by
  unfold Ranks.lo Ranks.hi
  rcases Nat.lt_or_ge k T.length with hk | hk
  · have := List.all_eq_true.1 h T[k] (List.getElem_mem hk)
    simpa [List.getD, hk] using this
  · simp [List.getD, hk]

theorem OpG_ok {k : Nat} {o : Oper} {vs : List AV} {K : AV → Prop} (hle : T.lo k ≤ T.hi k) (h : OpG P own T As k o vs K) : ∃ v, OpZ P own T As k o vs v ∧ K v := by
  unfold OpG at h
  cases hc : callTarget P o.op vs with
  | some x =>
    obtain ⟨g, args⟩ := x
    simp only [hc] at h
    obtain ⟨v, h2, h3⟩ := h
    refine ⟨v, fun r hr1 hr2 => ?_, h3⟩
    unfold OpK
    simp only [hc]
    exact h2 r hr1 hr2
  | none =>
    simp only [hc] at h
    cases hq : astep P o.op vs (As (T.lo k)) with
    | none => rw [hq] at h; exact h.elim
    | some x =>
      obtain ⟨c, v0, A0⟩ := x
      rw [hq] at h
      obtain ⟨h1, h2, h3, h4⟩ := h
      refine ⟨v0, fun r hr1 hr2 => ?_, h4⟩
      unfold OpK
      simp only [hc]
      rcases Nat.eq_or_lt_of_le hr1 with rfl | hr3
      · simp only [hq]; exact ⟨h1, trivial, h2⟩
      · have h5 := AllN_all h3 r hr3 (by omega)
        unfold StepV StepK at h5
        exact h5

theorem wpG_E (hT : lohiB T = true) : ∀ (l : List Oper) (k : Nat) (e : Env), wpG P own N ops T As Q k l e → wpE P own N ops T As Q k l e
  | [], _, _, h => h
  | o :: rest, k, e, h => by
    simp only [wpG] at h
    simp only [wpE]
    split at h
    · exact h.elim
    · rename_i b hb
      simp only [hb]
      refine ⟨fun hbt => ?_, fun hbf => ⟨(h.2 hbf).1, wpG_E hT rest (k + 1) _ (h.2 hbf).2⟩⟩
      obtain ⟨v, h1, h2⟩ := OpG_ok P own T As (lohi hT k) (h.1 hbt)
      exact ⟨v, h1, wpG_E hT rest (k + 1) _ h2⟩

/-- what comes behind an operation -/
def ContE (k : Nat) (rest : List Oper) (d : Option Tmp) (e : Env) (op : Op) (vs : List AV) (v : AV) (A' : List Box) : Prop :=
  A' = As (T.next k (T.lo k)) ∧ AllN (fun c => StepV (astep P op vs (As c)) v (As (T.next k c))) (T.hi k - T.lo k) (T.lo k + 1) ∧ wpG P own N ops T As Q (k + 1) rest (putA N d v e)
theorem StepE_some (c : Prop) (v : AV) (A' : List Box) (k : Nat) (rest : List Oper) (d : Option Tmp) (e : Env) (op : Op) (vs : List AV) :
    StepK (Option.some (c, v, A')) (ContE P own N ops T As Q k rest d e op vs) = (c ∧ A' = As (T.next k (T.lo k)) ∧ AllN (fun c => StepV (astep P op vs (As c)) v (As (T.next k c))) (T.hi k - T.lo k) (T.lo k + 1) ∧ wpG P own N ops T As Q (k + 1) rest (putA N d v e)) := rfl
def CallE (k : Nat) (g : FuncId) (args : List AV) (rest : List Oper) (d : Option Tmp) (e : Env) : Prop :=
  ∃ v, (∀ c, T.lo k ≤ c → c ≤ T.hi k → CallK P own g args (As c) (fun v' A' => v' = v ∧ A' = As (T.next k c))) ∧ wpG P own N ops T As Q (k + 1) rest (putA N d v e)
def InvE (k : Nat) (name : String) (v : AV) (args : List AV) (rest : List Oper) (d : Option Tmp) (e : Env) : Prop :=
  match v with
  | .iface t x => ∃ g, methA P t name = some g ∧ callable P g = true ∧ CallE P own N ops T As Q k g (x :: args) rest d e
  | _ => False
def GuardE (k : Nat) (o : Oper) (rest : List Oper) (e : Env) (want : Bool) (v : AV) : Prop :=
  match v with
  | .bool t => ((t == want) = true → wpG P own N ops T As Q k ({ o with guard := none } :: rest) e) ∧ ((t == want) = false → SkZ T As k ∧ wpG P own N ops T As Q (k + 1) rest (putA N o.dst (.tuple []) e))
  | .tuple _ => SkZ T As k ∧ wpG P own N ops T As Q (k + 1) rest (putA N o.dst (.tuple []) e)
  | _ => False
variable (k : Nat) (rest : List Oper) (e : Env) (d : Option Tmp) (ty : TypeId) (pos : String) (af : Array Edge)
theorem wpG_nil : wpG P own N ops T As Q k [] e = Q e := ofRfl rfl
theorem wpG_plain (op : Op) : wpG P own N ops T As Q k (⟨d, op, ty, pos, af, none⟩ :: rest) e = OpG P own T As k ⟨d, op, ty, pos, af, none⟩ (op.operands.toList.map (evA e)) (fun v => wpG P own N ops T As Q (k + 1) rest (putA N d v e)) := by
  simp [wpG, wantA]
theorem wpG_step {op : Op} (h : callTarget P op (op.operands.toList.map (evA e)) = none) : wpG P own N ops T As Q k (⟨d, op, ty, pos, af, none⟩ :: rest) e = StepK (astep P op (op.operands.toList.map (evA e)) (As (T.lo k))) (ContE P own N ops T As Q k rest d e op (op.operands.toList.map (evA e))) := by
  rw [wpG_plain]
  unfold OpG
  simp only [h]
  rfl

theorem wpG_pick (x y z : Operand) : wpG P own N ops T As Q k (⟨d, .pick x y z, ty, pos, af, none⟩ :: rest) e = StepK (astep P (.pick x y z) [evA e x, evA e y, evA e z] (As (T.lo k))) (ContE P own N ops T As Q k rest d e (.pick x y z) [evA e x, evA e y, evA e z]) := by
  rw [wpG_step _ _ _ _ _ _ _ _ _ _ _ _ _ _ rfl]; rfl
theorem wpG_alloc (t : TypeId) : wpG P own N ops T As Q k (⟨d, .alloc t, ty, pos, af, none⟩ :: rest) e = StepK (astep P (.alloc t) [] (As (T.lo k))) (ContE P own N ops T As Q k rest d e (.alloc t) []) := by
  rw [wpG_step _ _ _ _ _ _ _ _ _ _ _ _ _ _ rfl]; rfl
theorem wpG_box (t : TypeId) (x : Operand) : wpG P own N ops T As Q k (⟨d, .box t x, ty, pos, af, none⟩ :: rest) e = StepK (astep P (.box t x) [evA e x] (As (T.lo k))) (ContE P own N ops T As Q k rest d e (.box t x) [evA e x]) := by
  rw [wpG_step _ _ _ _ _ _ _ _ _ _ _ _ _ _ rfl]; rfl
theorem wpG_load (t : TypeId) (x : Operand) : wpG P own N ops T As Q k (⟨d, .load t x, ty, pos, af, none⟩ :: rest) e = StepK (astep P (.load t x) [evA e x] (As (T.lo k))) (ContE P own N ops T As Q k rest d e (.load t x) [evA e x]) := by
  rw [wpG_step _ _ _ _ _ _ _ _ _ _ _ _ _ _ rfl]; rfl
theorem wpG_store (t : TypeId) (x y : Operand) : wpG P own N ops T As Q k (⟨d, .store t x y, ty, pos, af, none⟩ :: rest) e = StepK (astep P (.store t x y) [evA e x, evA e y] (As (T.lo k))) (ContE P own N ops T As Q k rest d e (.store t x y) [evA e x, evA e y]) := by
  rw [wpG_step _ _ _ _ _ _ _ _ _ _ _ _ _ _ rfl]; rfl
theorem wpG_nilCheck (x : Operand) : wpG P own N ops T As Q k (⟨d, .nilCheck x, ty, pos, af, none⟩ :: rest) e = StepK (astep P (.nilCheck x) [evA e x] (As (T.lo k))) (ContE P own N ops T As Q k rest d e (.nilCheck x) [evA e x]) := by
  rw [wpG_step _ _ _ _ _ _ _ _ _ _ _ _ _ _ rfl]; rfl
theorem wpG_binOp (b : BinOp) (t u : TypeId) (x y : Operand) : wpG P own N ops T As Q k (⟨d, .binOp b t x y u, ty, pos, af, none⟩ :: rest) e = StepK (astep P (.binOp b t x y u) [evA e x, evA e y] (As (T.lo k))) (ContE P own N ops T As Q k rest d e (.binOp b t x y u) [evA e x, evA e y]) := by
  rw [wpG_step _ _ _ _ _ _ _ _ _ _ _ _ _ _ rfl]; rfl
theorem wpG_unOp (b : UnOp) (t : TypeId) (x : Operand) : wpG P own N ops T As Q k (⟨d, .unOp b t x, ty, pos, af, none⟩ :: rest) e = StepK (astep P (.unOp b t x) [evA e x] (As (T.lo k))) (ContE P own N ops T As Q k rest d e (.unOp b t x) [evA e x]) := by
  rw [wpG_step _ _ _ _ _ _ _ _ _ _ _ _ _ _ rfl]; rfl
theorem wpG_convert (t u : TypeId) (x : Operand) : wpG P own N ops T As Q k (⟨d, .convert t u x, ty, pos, af, none⟩ :: rest) e = StepK (astep P (.convert t u x) [evA e x] (As (T.lo k))) (ContE P own N ops T As Q k rest d e (.convert t u x) [evA e x]) := by
  rw [wpG_step _ _ _ _ _ _ _ _ _ _ _ _ _ _ rfl]; rfl
theorem wpG_makeSlice (t : TypeId) (x y : Operand) : wpG P own N ops T As Q k (⟨d, .makeSlice t x y, ty, pos, af, none⟩ :: rest) e = StepK (astep P (.makeSlice t x y) [evA e x, evA e y] (As (T.lo k))) (ContE P own N ops T As Q k rest d e (.makeSlice t x y) [evA e x, evA e y]) := by
  rw [wpG_step _ _ _ _ _ _ _ _ _ _ _ _ _ _ rfl]; rfl
theorem wpG_slice0 (t : TypeId) (x : Operand) : wpG P own N ops T As Q k (⟨d, .slice t x none none none, ty, pos, af, none⟩ :: rest) e = StepK (astep P (.slice t x none none none) [evA e x] (As (T.lo k))) (ContE P own N ops T As Q k rest d e (.slice t x none none none) [evA e x]) := by
  rw [wpG_step _ _ _ _ _ _ _ _ _ _ _ _ _ _ rfl]; rfl
theorem wpG_slice1 (t : TypeId) (x y : Operand) : wpG P own N ops T As Q k (⟨d, .slice t x (some y) none none, ty, pos, af, none⟩ :: rest) e = StepK (astep P (.slice t x (some y) none none) [evA e x, evA e y] (As (T.lo k))) (ContE P own N ops T As Q k rest d e (.slice t x (some y) none none) [evA e x, evA e y]) := by
  rw [wpG_step _ _ _ _ _ _ _ _ _ _ _ _ _ _ rfl]; rfl
theorem wpG_slice2 (t : TypeId) (x y : Operand) : wpG P own N ops T As Q k (⟨d, .slice t x none (some y) none, ty, pos, af, none⟩ :: rest) e = StepK (astep P (.slice t x none (some y) none) [evA e x, evA e y] (As (T.lo k))) (ContE P own N ops T As Q k rest d e (.slice t x none (some y) none) [evA e x, evA e y]) := by
  rw [wpG_step _ _ _ _ _ _ _ _ _ _ _ _ _ _ rfl]; rfl
theorem wpG_slice3 (t : TypeId) (x y z : Operand) : wpG P own N ops T As Q k (⟨d, .slice t x (some y) (some z) none, ty, pos, af, none⟩ :: rest) e = StepK (astep P (.slice t x (some y) (some z) none) [evA e x, evA e y, evA e z] (As (T.lo k))) (ContE P own N ops T As Q k rest d e (.slice t x (some y) (some z) none) [evA e x, evA e y, evA e z]) := by
  rw [wpG_step _ _ _ _ _ _ _ _ _ _ _ _ _ _ rfl]; rfl
theorem wpG_fieldAddr (t : TypeId) (x : Operand) (kk : Nat) : wpG P own N ops T As Q k (⟨d, .fieldAddr t x kk, ty, pos, af, none⟩ :: rest) e = StepK (astep P (.fieldAddr t x kk) [evA e x] (As (T.lo k))) (ContE P own N ops T As Q k rest d e (.fieldAddr t x kk) [evA e x]) := by
  rw [wpG_step _ _ _ _ _ _ _ _ _ _ _ _ _ _ rfl]; rfl
theorem wpG_field (t : TypeId) (x : Operand) (kk : Nat) : wpG P own N ops T As Q k (⟨d, .field t x kk, ty, pos, af, none⟩ :: rest) e = StepK (astep P (.field t x kk) [evA e x] (As (T.lo k))) (ContE P own N ops T As Q k rest d e (.field t x kk) [evA e x]) := by
  rw [wpG_step _ _ _ _ _ _ _ _ _ _ _ _ _ _ rfl]; rfl
theorem wpG_indexAddr (t : TypeId) (x y : Operand) : wpG P own N ops T As Q k (⟨d, .indexAddr t x y, ty, pos, af, none⟩ :: rest) e = StepK (astep P (.indexAddr t x y) [evA e x, evA e y] (As (T.lo k))) (ContE P own N ops T As Q k rest d e (.indexAddr t x y) [evA e x, evA e y]) := by
  rw [wpG_step _ _ _ _ _ _ _ _ _ _ _ _ _ _ rfl]; rfl
theorem wpG_index (t : TypeId) (x y : Operand) : wpG P own N ops T As Q k (⟨d, .index t x y, ty, pos, af, none⟩ :: rest) e = StepK (astep P (.index t x y) [evA e x, evA e y] (As (T.lo k))) (ContE P own N ops T As Q k rest d e (.index t x y) [evA e x, evA e y]) := by
  rw [wpG_step _ _ _ _ _ _ _ _ _ _ _ _ _ _ rfl]; rfl
theorem wpG_extract (x : Operand) (kk : Nat) : wpG P own N ops T As Q k (⟨d, .extract x kk, ty, pos, af, none⟩ :: rest) e = StepK (astep P (.extract x kk) [evA e x] (As (T.lo k))) (ContE P own N ops T As Q k rest d e (.extract x kk) [evA e x]) := by
  rw [wpG_step _ _ _ _ _ _ _ _ _ _ _ _ _ _ rfl]; rfl
theorem wpG_build (t : TypeId) (l : List (Nat × Operand)) : wpG P own N ops T As Q k (⟨d, .build t l.toArray, ty, pos, af, none⟩ :: rest) e = StepK (astep P (.build t l.toArray) (l.map fun p => evA e p.2) (As (T.lo k))) (ContE P own N ops T As Q k rest d e (.build t l.toArray) (l.map fun p => evA e p.2)) := by
  rw [wpG_step _ _ _ _ _ _ _ _ _ _ _ _ _ _ rfl]; simp [Op.operands, Function.comp_def]
theorem wpG_buildSlice (t : TypeId) (n : Nat) (l : List (Nat × Operand)) : wpG P own N ops T As Q k (⟨d, .buildSlice t n l.toArray, ty, pos, af, none⟩ :: rest) e = StepK (astep P (.buildSlice t n l.toArray) (l.map fun p => evA e p.2) (As (T.lo k))) (ContE P own N ops T As Q k rest d e (.buildSlice t n l.toArray) (l.map fun p => evA e p.2)) := by
  rw [wpG_step _ _ _ _ _ _ _ _ _ _ _ _ _ _ rfl]; simp [Op.operands, Function.comp_def]
theorem wpG_builtin (b : Builtin) (l : List Operand) (ts : Array TypeId) : wpG P own N ops T As Q k (⟨d, .call ⟨.builtin b, l.toArray, ts⟩, ty, pos, af, none⟩ :: rest) e = StepK (astep P (.call ⟨.builtin b, l.toArray, ts⟩) (l.map (evA e)) (As (T.lo k))) (ContE P own N ops T As Q k rest d e (.call ⟨.builtin b, l.toArray, ts⟩) (l.map (evA e))) := by
  rw [wpG_step _ _ _ _ _ _ _ _ _ _ _ _ _ _ (by rfl)]; simp [Op.operands, Call.operands]
theorem wpG_makeInterface (t : TypeId) (x : Operand) : wpG P own N ops T As Q k (⟨d, .makeInterface t x, ty, pos, af, none⟩ :: rest) e = StepK (astep P (.makeInterface t x) [evA e x] (As (T.lo k))) (ContE P own N ops T As Q k rest d e (.makeInterface t x) [evA e x]) := by
  rw [wpG_step _ _ _ _ _ _ _ _ _ _ _ _ _ _ rfl]; rfl
theorem wpG_move (x : Operand) : wpG P own N ops T As Q k (⟨d, .move x, ty, pos, af, none⟩ :: rest) e = StepK (astep P (.move x) [evA e x] (As (T.lo k))) (ContE P own N ops T As Q k rest d e (.move x) [evA e x]) := by
  rw [wpG_step _ _ _ _ _ _ _ _ _ _ _ _ _ _ rfl]; rfl
theorem wpG_assign (x : Operand) : wpG P own N ops T As Q k (⟨d, .assign x, ty, pos, af, none⟩ :: rest) e = StepK (astep P (.assign x) [evA e x] (As (T.lo k))) (ContE P own N ops T As Q k rest d e (.assign x) [evA e x]) := by
  rw [wpG_step _ _ _ _ _ _ _ _ _ _ _ _ _ _ rfl]; rfl
theorem wpG_call (g : FuncId) (l : List Operand) (ts : Array TypeId) (h : callable P g = true) : wpG P own N ops T As Q k (⟨d, .call ⟨.value (.func g), l.toArray, ts⟩, ty, pos, af, none⟩ :: rest) e = CallE P own N ops T As Q k g (l.map (evA e)) rest d e := by
  rw [wpG_plain]; simp [OpG, callTarget, Op.operands, Call.operands, evA, h, CallE]
theorem wpG_guard (op : Op) (j : Nat) (want : Bool) : wpG P own N ops T As Q k (⟨d, op, ty, pos, af, some (j, want)⟩ :: rest) e =
    GuardE P own N ops T As Q k ⟨d, op, ty, pos, af, none⟩ rest e want (match (ops[j]?).bind (·.dst) with | some t => look t e | none => .bot) := by
  simp only [wpG, wantA, GuardE]
  cases (ops[j]?).bind (·.dst) with
  | none => rfl
  | some t =>
    simp only
    cases look t e with
    | tuple l => simp
    | bool b => simp only [Option.some.injEq, true_implies, Bool.true_eq_false, false_implies, and_true]; rfl
    | _ => rfl
theorem wpG_invoke (r : Operand) (name : String) (l : List Operand) (ts : Array TypeId) (h : InvE P own N ops T As Q k name (evA e r) (l.map (evA e)) rest d e) :
    wpG P own N ops T As Q k (⟨d, .call ⟨.invoke r name, l.toArray, ts⟩, ty, pos, af, none⟩ :: rest) e := by
  rw [wpG_plain]
  unfold InvE at h
  unfold OpG
  simp only [Op.operands, Call.operands]
  generalize hq : evA e r = q at h
  cases q <;> try exact h.elim
  rename_i t x
  obtain ⟨g, h1, h2, v, h3, h4⟩ := h
  have : callTarget P (.call ⟨.invoke r name, l.toArray, ts⟩) (List.map (evA e) (#[r] ++ l.toArray).toList) = some (g, x :: l.map (evA e)) := by
    simp [callTarget, hq, h1, h2]
  simp only [this]
  exact ⟨v, h3, h4⟩
end
section
variable {P : Program} {own : FuncId → Bool} {N : Nat} {ops : Array Oper} {T : Ranks} {As : Nat → List Box} {Q : Env → Prop} {k : Nat} {rest : List Oper} {d : Option Tmp} {e : Env}
theorem callE_intro {g : FuncId} {args args' : List AV} {v : AV} {A1 : List Box} (hf : frzs args (As (T.lo k)) = some (args', A1)) (h : ACalls P g args' A1 (fun v' A' => v' = v ∧ A' = As (T.next k (T.lo k))))
    (hk : wpG P own N ops T As Q (k + 1) rest (putA N d v e)) (ho : own g = false) (hr : T.lo k = T.hi k) : CallE P own N ops T As Q k g args rest d e := by
  refine ⟨v, fun c h1 h2 => ?_, hk⟩
  obtain rfl : c = T.lo k := by omega
  unfold CallK
  rw [ho]
  exact .inl ⟨args', A1, hf, h⟩
/-- a call that reads alone, wherever it stands -/
theorem callEN_intro {g : FuncId} {args args' : List AV} {v : AV} (hf : ∀ A, frzs args A = some (args', A)) (h : ∀ A, ACalls P g args' A (fun v' A' => v' = v ∧ A' = A))
    (hk : wpG P own N ops T As Q (k + 1) rest (putA N d v e)) (ho : own g = false) (hn : T.eff k = false) : CallE P own N ops T As Q k g args rest d e := by
  refine ⟨v, fun c h1 h2 => ?_, hk⟩
  have : T.next k c = c := by simp [Ranks.next, hn]
  rw [this]
  unfold CallK
  rw [ho]
  exact .inl ⟨args', As c, hf _, h _⟩
theorem callEO_intro {g : FuncId} {args : List AV} {v : AV} (h : ACalls P g args (As (T.lo k)) (fun v' A' => v' = v ∧ A' = As (T.next k (T.lo k))))
    (hk : wpG P own N ops T As Q (k + 1) rest (putA N d v e)) (hr : T.lo k = T.hi k) : CallE P own N ops T As Q k g args rest d e := ⟨v, fun c h1 h2 => by
  obtain rfl : c = T.lo k := by omega
  exact .own h, hk⟩
theorem GuardE_bool (o : Oper) (want t : Bool) (h : (t == want) = true) : GuardE P own N ops T As Q k o rest e want (.bool t) = wpG P own N ops T As Q k ({ o with guard := none } :: rest) e := by simp [GuardE, h]
theorem GuardE_not (o : Oper) (want t : Bool) (h : (t == want) = false) : GuardE P own N ops T As Q k o rest e want (.bool t) = (SkZ T As k ∧ wpG P own N ops T As Q (k + 1) rest (putA N o.dst (.tuple []) e)) := by simp [GuardE, h]
theorem GuardE_skip (o : Oper) (want : Bool) (l : List AV) : GuardE P own N ops T As Q k o rest e want (.tuple l) = (SkZ T As k ∧ wpG P own N ops T As Q (k + 1) rest (putA N o.dst (.tuple []) e)) := ofRfl rfl

theorem drawE_intro {c : Cfg} {l : List Oper} {Q : Exit → Env → List Box → Prop} {A : List Box} (T : Ranks) (L : List (List Box)) (m : Nat) (h0 : Lk L 0 = A) (h1 : dstOk c.N l.toArray = true) (h2 : Region.lexB .any l.toArray = true) (h3 : rankB l.toArray T m = true) (h4 : backB l.toArray = true) (h5 : endB l.toArray T m = true) (h6 : lohiB T = true)
    (h : wpG P c.own c.N l.toArray T (Lk L) (KeepD c.vs Q (Lk L m)) 0 l e) : DrawE P c l.toArray Q e A :=
  .inr (.inr ⟨T, Lk L, m, h1, h2, h3, h4, h5, h0, wpG_E P c.own c.N l.toArray T (Lk L) _ h6 _ _ _ h⟩)
end
end Go.Abs
