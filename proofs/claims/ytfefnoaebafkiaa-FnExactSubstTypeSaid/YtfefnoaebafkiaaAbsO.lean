/- A region whose order is open: one walk in the order of the text serves every order, where no operation changes a box. -/
import Derived.Test.YtfefnoaebafkiaaAbsN
set_option linter.unusedVariables false
set_option linter.unusedSimpArgs false
namespace Go.Abs
open Go.RowKit

def putF (d : Option Nat) (v : AV) (E : Nat → AV) : Nat → AV :=
  match d with
  | none => E
  | some d => fun t => if t = d then v else E t
def evF (E : Nat → AV) : Operand → AV
  | .tmp t => E t
  | .const v => constA v
  | .func f => .func (.func f) [] []
  | .global _ => .bot
def wantF (ops : Array Oper) (o : Oper) (E : Nat → AV) : Option Bool :=
  match o.guard with
  | none => some true
  | some (j, want) => match (ops[j]?).bind (·.dst) with
    | some t => match E t with
      | .bool b => some (b == want)
      | .tuple _ => some false
      | _ => none
    | none => none

section
variable {P : Program} {own : FuncId → Bool} {ops : Array Oper} {A : List Box}

def OpY (P : Program) (own : FuncId → Bool) (A : List Box) (o : Oper) (E : Nat → AV) (v : AV) : Prop :=
  OpK P own o (o.op.operands.toList.map (evF E)) A (fun v' A' => v' = v ∧ A' = A)

def qOpA (P : Program) (own : FuncId → Bool) (ops : Array Oper) (A : List Box) (i : Nat) (K : (Nat → AV) → Prop) (E : Nat → AV) : Prop :=
  match ops[i]? with
  | none => K E
  | some o => match wantF ops o E with
    | none => False
    | some true => ∃ v, OpY P own A o E v ∧ K (putF o.dst v E)
    | some false => K (putF o.dst (.tuple []) E)

def wpAnyA (P : Program) (own : FuncId → Bool) (ops : Array Oper) (A : List Box) (Q : (Nat → AV) → Prop) : Nat → Array Bool → (Nat → AV) → Prop
  | 0, listed, E => Region.ready .any ops listed = [] ∧ Q E
  | fuel + 1, listed, E => (Region.ready .any ops listed = [] → Q E) ∧ ∀ i ∈ Region.ready .any ops listed, qOpA P own ops A i (wpAnyA P own ops A Q fuel (listed.setIfInBounds i true)) E

def YieldsF (P : Program) (own : FuncId → Bool) (ops : Array Oper) (A : List Box) (o : Oper) (v : AV) (E : Nat → AV) : Prop :=
  (wantF ops o E = some true ∧ OpY P own A o E v) ∨ (wantF ops o E = some false ∧ v = .tuple [])

theorem qOpA_mono {i : Nat} {E : Nat → AV} {K K' : (Nat → AV) → Prop} (h : ∀ E, K E → K' E) (hh : qOpA P own ops A i K E) : qOpA P own ops A i K' E := by
  unfold qOpA at *
  split
  · rename_i ho; simp only [ho] at hh; exact h _ hh
  · rename_i o ho
    simp only [ho] at hh
    cases hw : wantF ops o E with
    | none => simp only [hw] at hh
    | some b =>
      simp only [hw] at hh
      cases b with
      | true => obtain ⟨v, h1, h2⟩ := hh; exact ⟨v, h1, h _ h2⟩
      | false => exact h _ hh

theorem evF_put {E : Nat → AV} {d : Option Nat} {v : AV} {x : Operand} (h : ∀ t, d = some t → x ≠ .tmp t) : evF (putF d v E) x = evF E x := by
  cases d with
  | none => rfl
  | some d =>
    cases x with
    | tmp t =>
      have : t ≠ d := fun e => h d rfl (e ▸ rfl)
      simp [evF, putF, this]
    | _ => rfl

theorem vals_put {o : Oper} {E : Nat → AV} {d : Option Nat} {v : AV} (h : ∀ t, d = some t → t ∉ o.looksAt ops) : o.op.operands.toList.map (evF (putF d v E)) = o.op.operands.toList.map (evF E) :=
  List.map_congr_left fun x hx => evF_put fun t ht hxt => h t ht (by
    subst hxt
    exact List.mem_append_left _ (List.mem_filterMap.2 ⟨.tmp t, hx, rfl⟩))

theorem wantF_put {o : Oper} {E : Nat → AV} {d : Option Nat} {v : AV} (h : ∀ t, d = some t → t ∉ o.looksAt ops) : wantF ops o (putF d v E) = wantF ops o E := by
  unfold wantF
  cases hg : o.guard with
  | none => rfl
  | some gw =>
    obtain ⟨g, want⟩ := gw
    simp only
    cases ht : (ops[g]?).bind (·.dst) with
    | none => rfl
    | some t =>
      cases d with
      | none => rfl
      | some d =>
        have : t ≠ d := fun e => h d rfl (by subst e; simp [Oper.looksAt, hg, ht])
        simp [putF, this]

theorem putF_comm (E : Nat → AV) {x y : Option Nat} (v u : AV) (h : ∀ d, x = some d → y ≠ some d) : putF y u (putF x v E) = putF x v (putF y u E) := by
  cases x with
  | none => rfl
  | some d =>
    cases y with
    | none => rfl
    | some d' =>
      have hne : d' ≠ d := fun e => h d rfl (by rw [e])
      funext t
      simp only [putF]
      by_cases h1 : t = d' <;> by_cases h2 : t = d <;> simp_all

theorem YieldsF.qOp {i : Nat} {o : Oper} {v : AV} {E : Nat → AV} (hi : ops[i]? = some o) (hy : YieldsF P own ops A o v E) {K : (Nat → AV) → Prop} (h : K (putF o.dst v E)) : qOpA P own ops A i K E := by
  unfold qOpA
  simp only [hi]
  rcases hy with ⟨hw, hv⟩ | ⟨hw, rfl⟩
  · simp only [hw]; exact ⟨v, hv, h⟩
  · simp only [hw]; exact h

theorem yieldsF_of_qOp {i : Nat} {o : Oper} {E : Nat → AV} {K : (Nat → AV) → Prop} (hi : ops[i]? = some o) (h : qOpA P own ops A i K E) : ∃ v, YieldsF P own ops A o v E ∧ K (putF o.dst v E) := by
  unfold qOpA at h
  simp only [hi] at h
  cases hw : wantF ops o E with
  | none => simp only [hw] at h
  | some b =>
    simp only [hw] at h
    cases b with
    | true => obtain ⟨v, h1, h2⟩ := h; exact ⟨v, .inl ⟨hw, h1⟩, h2⟩
    | false => exact ⟨.tuple [], .inr ⟨hw, rfl⟩, h⟩

theorem qOpA_put {j : Nat} {oi oj : Oper} {v : AV} (hj : ops[j]? = some oj) (hap : oi.apart ops oj = true) {K : (Nat → AV) → Prop} {E : Nat → AV}
    (hy : YieldsF P own ops A oi v E) (h : qOpA P own ops A j K (putF oi.dst v E)) :
    qOpA P own ops A j (fun E' => YieldsF P own ops A oi v E' ∧ K (putF oi.dst v E')) E := by
  obtain ⟨h1, h2, h3⟩ := Oper.apart_spec hap
  have keep : ∀ u, YieldsF P own ops A oi v (putF oj.dst u E) := fun u => by
    unfold YieldsF OpY at *
    rw [wantF_put h3, vals_put h3]; exact hy
  unfold qOpA at *
  simp only [hj] at *
  rw [wantF_put h1] at h
  cases hw : wantF ops oj E with
  | none => simp only [hw] at h
  | some b =>
    simp only [hw] at h ⊢
    cases b with
    | true =>
      obtain ⟨u, hu, hn⟩ := h
      refine ⟨u, ?_, keep u, by rw [putF_comm E u v (fun d hd hx => h2 d hx hd)]; exact hn⟩
      unfold OpY at *
      rwa [vals_put h1] at hu
    | false => exact ⟨keep _, by rw [putF_comm E _ v (fun d hd hx => h2 d hx hd)]; exact h⟩

theorem wpAnyA_first {Q : (Nat → AV) → Prop} {i : Nat} {oi : Oper} {v : AV} (hi : ops[i]? = some oi) :
    ∀ (fuel : Nat) (listed : Array Bool) (E : Nat → AV),
      (∀ j oj, ops[j]? = some oj → j ≠ i → listed.getD j true = false → (∀ e ∈ oj.after, Region.binds .any e = true → e.on ≠ i) → oi.apart ops oj = true) →
      i ∈ Region.ready .any ops listed → YieldsF P own ops A oi v E →
      wpAnyA P own ops A Q fuel (listed.setIfInBounds i true) (putF oi.dst v E) → wpAnyA P own ops A Q (fuel + 1) listed E := by
  intro fuel
  induction fuel with
  | zero =>
    intro listed E _ hr hy H
    refine ⟨fun h => (by rw [h] at hr; cases hr), fun j hj => ?_⟩
    by_cases hji : j = i
    · subst hji; exact hy.qOp hi H
    · have := ready_mono hj hji
      rw [H.1] at this
      cases this
  | succ fuel ih =>
    intro listed E hfree hr hy H
    refine ⟨fun h => (by rw [h] at hr; cases hr), fun j hj => ?_⟩
    by_cases hji : j = i
    · subst hji; exact hy.qOp hi H
    · have h1 := H.2 j (ready_mono hj hji)
      obtain ⟨hjun, oj, hoj, hall⟩ := mem_ready.1 hj
      have hnot : ∀ e ∈ oj.after, Region.binds .any e = true → e.on ≠ i := fun e he hb heq => by
        have h1 := hall e he hb
        have h0 := (mem_ready.1 hr).1
        rw [heq] at h1
        rcases Nat.lt_or_ge i listed.size with h' | h'
        · simp [h'] at h0 h1; rw [h0] at h1; cases h1
        · simp [Array.getElem?_eq_none h'] at h1
      have h2 := qOpA_put hoj (hfree j oj hoj hji hjun hnot) hy h1
      have hfree' : ∀ k ok, ops[k]? = some ok → k ≠ i → (listed.setIfInBounds j true).getD k true = false →
          (∀ e ∈ ok.after, Region.binds .any e = true → e.on ≠ i) → oi.apart ops ok = true := fun k ok hk hki hun hno => by
        refine hfree k ok hk hki ?_ hno
        by_cases hjk : j = k
        · subst hjk; exact hjun
        · rw [getD_set_ne true hjk] at hun; exact hun
      refine qOpA_mono (fun E' h3 => ih (listed.setIfInBounds j true) E' hfree' (ready_mono hr (Ne.symm hji)) h3.1 ?_) h2
      rw [Array.setIfInBounds_comm _ _ hji]
      exact h3.2

def wpDF (P : Program) (own : FuncId → Bool) (ops : Array Oper) (A : List Box) (Q : (Nat → AV) → Prop) : List Oper → (Nat → AV) → Prop
  | [], E => Q E
  | o :: rest, E => match wantF ops o E with
    | none => False
    | some true => ∃ v, OpY P own A o E v ∧ wpDF P own ops A Q rest (putF o.dst v E)
    | some false => wpDF P own ops A Q rest (putF o.dst (.tuple []) E)

theorem wpAnyA_lex {Q : (Nat → AV) → Prop} : ∀ (l : List Oper) (k : Nat) (listed : Array Bool) (E : Nat → AV), (∀ j, l[j]? = ops[k + j]?) →
    Region.lexFrom .any ops l.length k listed = true → wpDF P own ops A Q l E → wpAnyA P own ops A Q l.length listed E
  | [], _, _, _, _, hB, h => ⟨by simpa [Region.lexFrom] using hB, h⟩
  | o :: l, k, listed, E, hl, hB, h => by
    have h0 : ops[k]? = some o := by simpa using (hl 0).symm
    simp only [List.length_cons, Region.lexFrom, Bool.and_eq_true] at hB
    obtain ⟨⟨hr, hf⟩, hB'⟩ := hB
    have hst : qOpA P own ops A k (wpDF P own ops A Q l) E := by unfold qOpA; simp only [h0]; exact h
    obtain ⟨v, hy, hK⟩ := yieldsF_of_qOp h0 hst
    exact wpAnyA_first h0 l.length listed E (Region.free_spec h0 hf) (by simpa using hr) hy
      (wpAnyA_lex l (k + 1) _ _ (fun j => by have := hl (j + 1); simpa [Nat.add_assoc, Nat.add_comm 1 j] using this) hB' hK)

structure FRel (N base : Nat) (G : Ghost) (E : Nat → AV) (A : List Box) (a : Act) (w : World) : Prop where
  defers : a.defers = []
  size : a.tmps.size = N
  env : ∀ t, RV G w (E t) (a.tmps.getD t undef)
  heap : HRel G A w base

theorem FRel.put {N base : Nat} {G G' : Ghost} {E : Nat → AV} {a : Act} {w w' : World} {d : Option Nat} {v : AV} {x : Value} (h : FRel N base G E A a w) (hd : ∀ t, d = some t → t < N) (he : Ext G w G' w') (hx : RV G' w' v x) (hh : HRel G' A w' base) :
    FRel N base G' (putF d v E) A (a.put d x) w' := by
  cases d with
  | none => exact ⟨h.defers, h.size, fun t => (h.env t).mono he, hh⟩
  | some d =>
    refine ⟨h.defers, by simp only [Act.put, Array.size_setIfInBounds]; exact h.size, fun t => ?_, hh⟩
    simp only [putF, Act.put]
    by_cases ht : t = d
    · subst ht
      have : t < a.tmps.size := by rw [h.size]; exact hd t rfl
      have e2 : (a.tmps.setIfInBounds t x).getD t undef = x := by simp [Array.getD, this]
      rw [if_pos rfl, e2]; exact hx
    · have e2 : (a.tmps.setIfInBounds d x).getD t undef = a.tmps.getD t undef := by
        rw [Array.getD_eq_getD_getElem?, Array.getD_eq_getD_getElem?, Array.getElem?_setIfInBounds_ne (Ne.symm ht)]
      rw [if_neg ht, e2]; exact (h.env t).mono he

theorem evF_ok {G : Ghost} {w : World} {E : Nat → AV} {a : Act} (h : ∀ t, RV G w (E t) (a.tmps.getD t undef)) (x : Operand) : RV G w (evF E x) (a.eval x) := by
  cases x with
  | tmp t => exact h t
  | const v => exact constA_ok _ _ _
  | func f => exact .func _ [] [] #[] #[] rfl rfl (fun i hi => by simp at hi) (fun i hi => by simp at hi)
  | global g => exact .bot _

theorem evF_list {G : Ghost} {w : World} {E : Nat → AV} {a : Act} (h : ∀ t, RV G w (E t) (a.tmps.getD t undef)) (l : List Operand) : RL G w (l.map (evF E)) (l.map a.eval) := by
  induction l with
  | nil => exact .nil
  | cons x l ih => exact .cons (evF_ok h x) ih

theorem wantF_ok {G : Ghost} {w : World} {E : Nat → AV} {a : Act} {o : Oper} {b : Bool} (h : ∀ t, RV G w (E t) (a.tmps.getD t undef)) (hb : wantF ops o E = some b) : Region.wanted o (yielded ops a.tmps) = b := by
  unfold wantF at hb
  unfold Region.wanted
  cases hg : o.guard with
  | none => rw [hg] at hb; cases hb; rfl
  | some jw =>
    obtain ⟨j, want⟩ := jw
    rw [hg] at hb
    simp only at hb ⊢
    split at hb <;> try cases hb
    rename_i t ht
    split at hb <;> first
      | (injection hb with hb; rename_i us hc
         have hu := h t
         rw [hc] at hu
         have hy : yielded ops a.tmps j = none := by
           unfold yielded
           rw [ht]
           rcases Nat.lt_or_ge t a.tmps.size with hl | hl
           · have hv : a.tmps.getD t undef = a.tmps[t] := by simp [Array.getD, hl]
             rw [hv] at hu
             simp only [Option.bind_some, Array.getElem?_eq_getElem hl]
             generalize a.tmps[t] = q at hu
             cases hu; rfl
           · simp [Array.getElem?_eq_none hl]
         rw [hy, ← hb]; rfl; done)
      | skip
    all_goals try cases hb
    rename_i c hc
    have := h t
    rw [hc] at this
    have hy : yielded ops a.tmps j = some c := by
      unfold yielded
      rw [ht]
      have hv : a.tmps.getD t undef = .bool c := by
        generalize a.tmps.getD t undef = q at this
        cases this; rfl
      have hlt : t < a.tmps.size := by
        rcases Nat.lt_or_ge t a.tmps.size with hl | hl
        · exact hl
        · simp [Array.getD, Nat.not_lt.2 hl, undef] at hv
      simp only [Option.bind_some, Array.getElem?_eq_getElem hlt]
      simp [Array.getD, hlt] at hv
      rw [hv]
    rw [hy]; cases c <;> cases want <;> rfl

def dstOk (N : Nat) (ops : Array Oper) : Bool := ops.all fun o => match o.dst with | some d => decide (d < N) | none => true

theorem dstOk_spec {N i : Nat} {o : Oper} (h : dstOk N ops = true) (hi : ops[i]? = some o) : ∀ t, o.dst = some t → t < N := fun t ht => by
  obtain ⟨hlt, rfl⟩ := Array.getElem?_eq_some_iff.1 hi
  have := (Array.all_eq_true.1 h) i hlt
  rw [ht] at this
  simpa using this

/-- every order, in memory -/
theorem wpAny_of_A {N base : Nat} {Q : (Nat → AV) → Prop} {Q' : Exit → Act → World → Prop} {G0 : Ghost} {w0 : World} (hN : dstOk N ops = true)
    (hQ : ∀ E a w G, Q E → FRel N base G E A a w → Ext G0 w0 G w → Below base w0 w → Q' .normal a w) :
    ∀ (fuel : Nat) (listed : Array Bool) {E : Nat → AV} {a : Act} {w : World} {G : Ghost}, FRel N base G E A a w → Ext G0 w0 G w → Below base w0 w →
      wpAnyA P own ops A Q fuel listed E → wpAny P .any ops Q' fuel listed a w
  | 0, _, E, a, w, G, hr, he, hb, h => ⟨h.1, hQ E a w G h.2 hr he hb⟩
  | fuel + 1, listed, E, a, w, G, hr, he, hb, h => ⟨fun h0 => hQ E a w G (h.1 h0) hr he hb, fun i hi => by
      have hq := h.2 i hi
      unfold qOpA at hq
      unfold wpOp
      cases ho : ops[i]? with
      | none => simp only [ho] at hq ⊢; exact wpAny_of_A hN hQ fuel _ hr he hb hq
      | some o =>
        simp only [ho] at hq ⊢
        cases hw : wantF ops o E with
        | none => simp only [hw] at hq
        | some b =>
          simp only [hw] at hq
          rw [wantF_ok hr.env hw]
          cases b with
          | true =>
            obtain ⟨v, hv, hK⟩ := hq
            rw [if_pos rfl]
            refine .inl (OpK_ok hv (evF_list hr.env _) hr.heap fun v' A' x w' G' hk hx hh hext hbel => ?_)
            obtain ⟨e1, e2⟩ := hk
            rw [e1] at hx
            rw [e2] at hh
            exact wpAny_of_A hN hQ fuel _ (hr.put (dstOk_spec hN ho) hext hx hh) (he.trans hext) (hb.trans hbel) hK
          | false =>
            rw [if_neg (by simp)]
            exact wpAny_of_A hN hQ fuel _ (hr.put (dstOk_spec hN ho) (Ext.refl _ _) rv_skip hr.heap) he hb hq⟩

/-! ### over lists -/
def wpD (P : Program) (own : FuncId → Bool) (N : Nat) (ops : Array Oper) (A : List Box) (Q : Env → Prop) : List Oper → Env → Prop
  | [], e => Q e
  | o :: rest, e => match wantA ops o e with
    | none => False
    | some b => (b = true → ∃ v, OpK P own o (o.op.operands.toList.map (evA e)) A (fun v' A' => v' = v ∧ A' = A) ∧ wpD P own N ops A Q rest (putA N o.dst v e)) ∧ (b = false → wpD P own N ops A Q rest (putA N o.dst (.tuple []) e))

theorem look_putA {N t : Nat} {d : Option Nat} {v : AV} {e : Env} (hd : ∀ t, d = some t → t < N) : look t (putA N d v e) = putF d v (fun t => look t e) t := by
  cases d with
  | none => rfl
  | some d =>
    simp only [putA, if_pos (hd d rfl), putF]
    by_cases ht : t = d
    · subst ht; simp [look]
    · simp only [look, if_neg (Ne.symm ht), if_neg ht]; exact look_del_ne ht e

theorem wpD_F {N : Nat} {Q : Env → Prop} (hN : dstOk N ops = true) : ∀ (l : List Oper) (k : Nat) (e : Env), (∀ j, l[j]? = ops[k + j]?) → wpD P own N ops A Q l e → wpDF P own ops A (fun E => ∃ e, Q e ∧ E = fun t => look t e) l (fun t => look t e)
  | [], k, e, hl, h => ⟨e, h, rfl⟩
  | o :: rest, k, e, hl, h => by
    have h0 : ops[k]? = some o := by simpa using (hl 0).symm
    have hl' : ∀ j, rest[j]? = ops[k + 1 + j]? := fun j => by have := hl (j + 1); simpa [Nat.add_assoc, Nat.add_comm 1 j] using this
    have hev : evF (fun t => look t e) = evA e := by funext x; cases x <;> rfl
    have hwt : wantF ops o (fun t => look t e) = wantA ops o e := rfl
    simp only [wpD] at h
    simp only [wpDF, hwt]
    have hput : ∀ v, putF o.dst v (fun t => look t e) = fun t => look t (putA N o.dst v e) := fun v => by
      funext t; exact (look_putA (dstOk_spec hN h0)).symm
    split at h
    · exact h.elim
    · rename_i b hb
      rw [hb]
      cases b with
      | true =>
        obtain ⟨v, h1, h2⟩ := h.1 rfl
        refine ⟨v, ?_, ?_⟩
        · unfold OpY; rw [hev]; exact h1
        · rw [hput]; exact wpD_F hN rest (k + 1) _ hl' h2
      | false =>
        show wpDF P own ops A _ rest (putF o.dst (.tuple []) _)
        rw [hput]; exact wpD_F hN rest (k + 1) _ hl' (h.2 rfl)

theorem wpD_ok {N base id : Nat} {Q : Env → Prop} {Q' : Exit → Act → World → Prop} {G0 : Ghost} {w0 : World} {e : Env} {a : Act} {w : World} {G : Ghost} (hm : P.follows .mixedOrders = true) (hN : dstOk N ops = true) (hB : Region.lexB .any ops = true)
    (hQ : ∀ e a w G, Q e → ARel N base G e A a w → Ext G0 w0 G w → Below base w0 w → Q' .normal a w) (h : wpD P own N ops A Q ops.toList e) (hr : ARel N base G e A a w) (he : Ext G0 w0 G w) (hb : Below base w0 w) :
    (Code.region id ops true).wp P Q' a w := by
  simp only [Region.lexB, Bool.and_eq_true] at hB
  have h1 := wpD_F hN ops.toList 0 e (by simp) h
  have h2 := wpAnyA_lex ops.toList 0 (Array.replicate ops.size false) (fun t => look t e) (by simp) (by simpa using hB.2) h1
  obtain ⟨k1, k2⟩ := hr.heap.heap (w' := { w with drawn := w.drawn + 1 }) rfl
  have hbd : Below base w { w with drawn := w.drawn + 1 } := (Below.refl base w).drew
  refine wp_region_any hm ?_
  have h3 := wpAny_of_A (N := N) (base := base) (Q' := Q') (G0 := G0) (w0 := w0) hN (fun E a w G hq hr he hb => ?_) ops.toList.length (Array.replicate ops.size false) (a := a) (w := { w with drawn := w.drawn + 1 }) (G := G)
    ⟨hr.defers, hr.size, fun t => (hr.env t).mono k2, k1⟩ (he.trans k2) (hb.trans hbd) h2
  · simpa using h3
  · obtain ⟨e', hq, rfl⟩ := hq
    exact hQ e' a w G hq ⟨hr.defers, hr.size, hr.env, hr.heap⟩ he hb
end
end Go.Abs
