/- Regions, code, functions. -/
import Derived.Test.YtfefnoaebafkiaaAbsZ
set_option linter.unusedVariables false
set_option linter.unusedSimpArgs false
namespace Go.Abs
open Go.RowKit

abbrev Env := List (Nat × AV)

def look (t : Nat) : Env → AV
  | [] => .bot
  | (k, v) :: e => if k = t then v else look t e
def del (t : Nat) : Env → Env
  | [] => []
  | (k, v) :: e => if k = t then del t e else (k, v) :: del t e
def putA (N : Nat) (d : Option Nat) (v : AV) (e : Env) : Env :=
  match d with
  | none => e
  | some d => if d < N then (d, v) :: del d e else []
def keep (vs : List Nat) (e : Env) : Env := vs.map fun t => (t, look t e)
def evA (e : Env) : Operand → AV
  | .tmp t => look t e
  | .const v => constA v
  | .func f => .func (.func f) [] []
  | .global _ => .bot
def wantA (ops : Array Oper) (o : Oper) (e : Env) : Option Bool :=
  match o.guard with
  | none => some true
  | some (j, want) => match (ops[j]?).bind (·.dst) with
    | some t => match look t e with
      | .bool b => some (b == want)
      | .tuple _ => some false
      | _ => none
    | none => none

def EnvOk (G : Ghost) (w : World) (e : Env) (tmps : Array Value) : Prop := ∀ t, RV G w (look t e) (tmps.getD t undef)

theorem look_del_ne {t k : Nat} (h : t ≠ k) : ∀ e : Env, look t (del k e) = look t e
  | [] => rfl
  | (j, v) :: e => by
    simp only [del]
    split
    · rename_i hj; subst hj
      rw [look_del_ne h e]; simp [look, Ne.symm h]
    · simp only [look, look_del_ne h e]

theorem EnvOk.mono {G G' : Ghost} {w w' : World} {e : Env} {tmps : Array Value} (h : EnvOk G w e tmps) (x : Ext G w G' w') : EnvOk G' w' e tmps := fun t => (h t).mono x

theorem EnvOk.put {G : Ghost} {w : World} {e : Env} {a : Act} {N : Nat} {d : Option Nat} {v : AV} {x : Value} (h : EnvOk G w e a.tmps) (hN : a.tmps.size = N) (hx : RV G w v x) : EnvOk G w (putA N d v e) (a.put d x).tmps := by
  cases d with
  | none => exact h
  | some d =>
    intro t
    simp only [putA, Act.put]
    split
    · rename_i hd
      by_cases ht : d = t
      · subst ht
        have : d < a.tmps.size := by omega
        simp only [look, if_true]
        have e2 : (a.tmps.setIfInBounds d x).getD d undef = x := by simp [Array.getD, this]
        rw [e2]; exact hx
      · have e1 : look t ((d, v) :: del d e) = look t e := by simp only [look, if_neg ht]; exact look_del_ne (Ne.symm ht) e
        have e2 : (a.tmps.setIfInBounds d x).getD t undef = a.tmps.getD t undef := by
          rw [Array.getD_eq_getD_getElem?, Array.getD_eq_getD_getElem?, Array.getElem?_setIfInBounds_ne ht]
        rw [e1, e2]; exact h t
    · exact .bot _

theorem EnvOk.keep {G : Ghost} {w : World} {e : Env} {tmps : Array Value} {vs : List Nat} (h : EnvOk G w e tmps) : EnvOk G w (keep vs e) tmps := by
  intro t
  have : look t (Abs.keep vs e) = look t e ∨ look t (Abs.keep vs e) = .bot := by
    unfold Abs.keep
    induction vs with
    | nil => exact .inr rfl
    | cons k vs ih =>
      simp only [List.map_cons, look]
      by_cases hk : k = t
      · rw [if_pos hk, hk]; exact .inl rfl
      · rw [if_neg hk]; exact ih
  rcases this with h1 | h1
  · rw [h1]; exact h t
  · rw [h1]; exact .bot _

theorem evA_ok {G : Ghost} {w : World} {e : Env} {a : Act} (h : EnvOk G w e a.tmps) (x : Operand) : RV G w (evA e x) (a.eval x) := by
  cases x with
  | tmp t => exact h t
  | const v => exact constA_ok _ _ _
  | func f => exact .func _ [] [] #[] #[] rfl rfl (fun i hi => by simp at hi) (fun i hi => by simp at hi)
  | global g => exact .bot _

theorem evA_list {G : Ghost} {w : World} {e : Env} {a : Act} (h : EnvOk G w e a.tmps) (l : List Operand) : RL G w (l.map (evA e)) (l.map a.eval) := by
  induction l with
  | nil => exact .nil
  | cons x l ih => exact .cons (evA_ok h x) ih

theorem rv_skip {G : Ghost} {w : World} : RV G w (.tuple []) undef := .tuple [] #[] rfl (fun i hi => by simp at hi)

theorem wantA_ok {G : Ghost} {w : World} {e : Env} {a : Act} {ops : Array Oper} {o : Oper} {b : Bool} (h : EnvOk G w e a.tmps) (hb : wantA ops o e = some b) : Region.wanted o (yielded ops a.tmps) = b := by
  unfold wantA at hb
  unfold Region.wanted
  cases hg : o.guard with
  | none => rw [hg] at hb; cases hb; rfl
  | some jw =>
    obtain ⟨j, want⟩ := jw
    rw [hg] at hb
    simp only at hb ⊢
    split at hb <;> try cases hb
    rename_i t ht
    split at hb <;> first
      | (injection hb with hb; rename_i us hc
         have hu := h t
         rw [hc] at hu
         have hy : yielded ops a.tmps j = none := by
           unfold yielded
           rw [ht]
           rcases Nat.lt_or_ge t a.tmps.size with hl | hl
           · have hv : a.tmps.getD t undef = a.tmps[t] := by simp [Array.getD, hl]
             rw [hv] at hu
             simp only [Option.bind_some, Array.getElem?_eq_getElem hl]
             generalize a.tmps[t] = q at hu
             cases hu; rfl
           · simp [Array.getElem?_eq_none hl]
         rw [hy, ← hb]; rfl; done)
      | skip
    all_goals try cases hb
    rename_i c hc
    have := h t
    rw [hc] at this
    have hy : yielded ops a.tmps j = some c := by
      unfold yielded
      rw [ht]
      have hv : a.tmps.getD t undef = .bool c := by
        generalize a.tmps.getD t undef = q at this
        cases this; rfl
      have hlt : t < a.tmps.size := by
        rcases Nat.lt_or_ge t a.tmps.size with hl | hl
        · exact hl
        · simp [Array.getD, Nat.not_lt.2 hl, undef] at hv
      simp only [Option.bind_some, Array.getElem?_eq_getElem hlt]
      simp [Array.getD, hlt] at hv
      rw [hv]
    rw [hy]; cases c <;> cases want <;> rfl

/-! ### a region in its own order -/
def wpO (P : Program) (own : FuncId → Bool) (N : Nat) (ops : Array Oper) (Q : Env → List Box → Prop) : List Oper → Env → List Box → Prop
  | [], e, A => Q e A
  | o :: rest, e, A => match wantA ops o e with
    | none => False
    | some b => (b = true → OpK P own o (o.op.operands.toList.map (evA e)) A (fun v A' => wpO P own N ops Q rest (putA N o.dst v e) A')) ∧ (b = false → wpO P own N ops Q rest (putA N o.dst (.tuple []) e) A)

structure ARel (N base : Nat) (G : Ghost) (e : Env) (A : List Box) (a : Act) (w : World) : Prop where
  defers : a.defers = []
  size : a.tmps.size = N
  env : EnvOk G w e a.tmps
  heap : HRel G A w base

theorem ARel.put {N base : Nat} {G G' : Ghost} {e : Env} {A A' : List Box} {a : Act} {w w' : World} {d : Option Nat} {v : AV} {x : Value} (h : ARel N base G e A a w) (he : Ext G w G' w') (hx : RV G' w' v x) (hh : HRel G' A' w' base) :
    ARel N base G' (putA N d v e) A' (a.put d x) w' := by
  refine ⟨?_, ?_, (h.env.mono he).put h.size hx, hh⟩
  · cases d <;> exact h.defers
  · cases d with
    | none => exact h.size
    | some d => simp only [Act.put, Array.size_setIfInBounds]; exact h.size

def APost (N base : Nat) (G0 : Ghost) (w0 : World) (Q : Exit → Env → List Box → Prop) : Exit → Act → World → Prop := fun x a w =>
  ∃ e A G, Q x e A ∧ ARel N base G e A a w ∧ Ext G0 w0 G w ∧ Below base w0 w

theorem wpO_ok {P : Program} {own : FuncId → Bool} {N base : Nat} {ops : Array Oper} {Q : Env → List Box → Prop} {Q' : Exit → Act → World → Prop} {G0 : Ghost} {w0 : World} (hQ : ∀ e A a w G, Q e A → ARel N base G e A a w → Ext G0 w0 G w → Below base w0 w → Q' .normal a w) :
    ∀ (l : List Oper) (k : Nat) {e : Env} {A : List Box} {a : Act} {w : World} {G : Ghost}, (∀ j, l[j]? = ops[k + j]?) → wpO P own N ops Q l e A → ARel N base G e A a w → Ext G0 w0 G w → Below base w0 w →
      wpOps P ops Q' (List.range' k l.length) a w
  | [], k, e, A, a, w, G, hl, h, hr, he, hb => hQ e A a w G h hr he hb
  | o :: rest, k, e, A, a, w, G, hl, h, hr, he, hb => by
    have h0 : ops[k]? = some o := by simpa using (hl 0).symm
    have hl' : ∀ j, rest[j]? = ops[k + 1 + j]? := fun j => by have := hl (j + 1); simpa [Nat.add_assoc, Nat.add_comm 1 j] using this
    simp only [List.length_cons, List.range'_succ]
    simp only [wpOps, h0]
    simp only [wpO] at h
    split at h
    · exact h.elim
    · rename_i b hwant
      rw [wantA_ok hr.env hwant]
      cases b with
      | true =>
        rw [if_pos rfl]
        refine .inl (OpK_ok (h.1 rfl) (evA_list hr.env _) hr.heap fun v A' x w' G' hk hx hh hext hbel => ?_)
        exact wpO_ok hQ rest (k + 1) hl' hk (hr.put hext hx hh) (he.trans hext) (hb.trans hbel)
      | false =>
        rw [if_neg (by simp)]
        exact wpO_ok hQ rest (k + 1) hl' (h.2 rfl) (hr.put (Ext.refl _ _) rv_skip hr.heap) he hb

end Go.Abs
