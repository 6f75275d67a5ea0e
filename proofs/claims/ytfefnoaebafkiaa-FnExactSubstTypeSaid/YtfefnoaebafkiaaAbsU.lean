/- A region whose order is open and that changes boxes: what changes a box does so in one order, all else answers the same before and after. -/
import Derived.Test.YtfefnoaebafkiaaAbsO
set_option linter.unusedVariables false
set_option linter.unusedSimpArgs false
namespace Go.Abs
open Go.RowKit

/-- of an operation: whether it turns to the next list of boxes, and from which list to which it may stand -/
abbrev Ranks := List (Bool × Nat × Nat)
def Ranks.eff (T : Ranks) (k : Nat) : Bool := (T.getD k (false, 0, 0)).1
def Ranks.lo (T : Ranks) (k : Nat) : Nat := (T.getD k (false, 0, 0)).2.1
def Ranks.hi (T : Ranks) (k : Nat) : Nat := (T.getD k (false, 0, 0)).2.2
def Ranks.next (T : Ranks) (k c : Nat) : Nat := if T.eff k = true then c + 1 else c

def reachB (ops : Array Oper) : Nat → Nat → Nat → Bool
  | 0, _, _ => false
  | f + 1, i, j => match ops[j]? with
    | some o => o.after.any fun e => Region.binds .any e && (e.on == i || reachB ops f i e.on)
    | none => false

def rankB (ops : Array Oper) (T : Ranks) (m : Nat) : Bool :=
  (List.range ops.size).all fun k =>
    if T.eff k = true then
      T.lo k == T.hi k && decide (T.lo k < m) && (T.lo k == 0 || (List.range ops.size).any fun e => T.eff e && T.lo e + 1 == T.lo k && reachB ops ops.size e k) &&
        (List.range ops.size).all fun e => e == k || !T.eff e || T.lo e != T.lo k
    else (T.lo k == 0 || (List.range ops.size).any fun e => T.eff e && T.lo e + 1 == T.lo k && reachB ops ops.size e k) &&
      (decide (m ≤ T.hi k) || (List.range ops.size).any fun e => T.eff e && T.lo e == T.hi k && reachB ops ops.size k e)

def DC (ops : Array Oper) (listed : Array Bool) : Prop := ∀ k o, ops[k]? = some o → listed.getD k false = true → ∀ e ∈ o.after, Region.binds .any e = true → listed.getD e.on false = true
def RInv (ops : Array Oper) (T : Ranks) (m : Nat) (listed : Array Bool) (c : Nat) : Prop := c ≤ m ∧ ∀ e, e < ops.size → T.eff e = true → (listed.getD e false = true ↔ T.lo e < c)

section
variable {P : Program} {own : FuncId → Bool} {ops : Array Oper} {T : Ranks} {As : Nat → List Box} {m : Nat}

theorem reach_listed {listed : Array Bool} (hd : DC ops listed) : ∀ (f i j : Nat), reachB ops f i j = true → (∀ o, ops[j]? = some o → ∀ e ∈ o.after, Region.binds .any e = true → listed.getD e.on false = true) → listed.getD i false = true
  | 0, i, j, h, _ => by simp [reachB] at h
  | f + 1, i, j, h, hj => by
    simp only [reachB] at h
    split at h
    · rename_i o ho
      obtain ⟨e, he, hb⟩ := Array.any_eq_true'.1 h
      simp only [Bool.and_eq_true, Bool.or_eq_true, beq_iff_eq] at hb
      have hl := hj o ho e he hb.1
      rcases hb.2 with h1 | h1
      · rw [← h1]; exact hl
      · exact reach_listed hd f i e.on h1 fun o' ho' => hd e.on o' ho' hl
    · cases h

theorem dc_set {k : Nat} {listed : Array Bool} (hd : DC ops listed) (hk : k ∈ Region.ready .any ops listed) : DC ops (listed.setIfInBounds k true) := by
  intro j o ho hl e he hb
  obtain ⟨hun, ok, hok, hall⟩ := mem_ready.1 hk
  refine getD_set_true ?_
  by_cases hjk : k = j
  · subst hjk
    rw [hok] at ho; cases ho
    exact hall e he hb
  · rw [getD_set_ne false hjk] at hl
    exact hd j o ho hl e he hb

theorem rank_range {k c : Nat} {listed : Array Bool} (hB : rankB ops T m = true) (hd : DC ops listed) (hi : RInv ops T m listed c) (hs : listed.size = ops.size) (hk : k ∈ Region.ready .any ops listed) :
    T.lo k ≤ c ∧ c ≤ T.hi k ∧ RInv ops T m (listed.setIfInBounds k true) (T.next k c) := by
  obtain ⟨hun, ok, hok, hall⟩ := mem_ready.1 hk
  have hkl : k < ops.size := (Array.getElem?_eq_some_iff.1 hok).1
  have hunf : listed.getD k false = false := by
    have : k < listed.size := by omega
    simpa [this] using hun
  have hrk := List.all_eq_true.1 hB k (List.mem_range.2 hkl)
  have up : ∀ e, reachB ops ops.size e k = true → listed.getD e false = true := fun e he => reach_listed hd _ _ _ he fun o ho => by rw [hok] at ho; cases ho; exact hall
  have down : ∀ e, e < ops.size → reachB ops ops.size k e = true → listed.getD e false = false := fun e hel he => by
    cases hq : listed.getD e false with
    | false => rfl
    | true =>
      have := reach_listed hd _ _ _ he fun o ho => hd e o ho hq
      rw [hunf] at this; cases this
  have low : (T.lo k = 0 ∨ ∃ e, e < ops.size ∧ T.eff e = true ∧ T.lo e + 1 = T.lo k ∧ reachB ops ops.size e k = true) → T.lo k ≤ c := by
    rintro (h0 | ⟨e, h1, h2, h3, h4⟩)
    · omega
    · have := (hi.2 e h1 h2).1 (up e h4); omega
  cases hf : T.eff k with
  | true =>
    simp only [hf, if_true, Bool.and_eq_true, Bool.or_eq_true, beq_iff_eq, decide_eq_true_eq, List.any_eq_true, List.mem_range, List.all_eq_true, bne_iff_ne, Bool.not_eq_true', ne_eq] at hrk
    obtain ⟨⟨⟨h1, h2⟩, h3⟩, h4⟩ := hrk
    have hlo := low (h3.imp id fun ⟨e, a, b, d⟩ => ⟨e, a, b.1, b.2, d⟩)
    have hup : ¬ T.lo k < c := fun hc => by
      have := (hi.2 k hkl hf).2 hc
      rw [hunf] at this; cases this
    have hc : c = T.lo k := by omega
    refine ⟨by omega, by omega, ?_⟩
    have hnx : T.next k c = T.lo k + 1 := by simp [Ranks.next, hf, hc]
    rw [hnx]
    refine ⟨by omega, fun e hel hee => ?_⟩
    by_cases hek : k = e
    · subst hek
      have : k < listed.size := by omega
      simp [this]
    · rw [getD_set_ne false hek, hi.2 e hel hee, hc]
      have hne : T.lo e ≠ T.lo k := by
        rcases h4 e hel with (h | h) | h
        · exact absurd h.symm hek
        · rw [hee] at h; cases h
        · exact h
      omega
  | false =>
    simp only [hf, Bool.false_eq_true, if_false, Bool.and_eq_true, Bool.or_eq_true, beq_iff_eq, decide_eq_true_eq, List.any_eq_true, List.mem_range] at hrk
    obtain ⟨h1, h2⟩ := hrk
    have hlo := low (h1.imp id fun ⟨e, a, b, d⟩ => ⟨e, a, b.1, b.2, d⟩)
    have hup : c ≤ T.hi k := by
      rcases h2 with h2 | ⟨e, a, b, d⟩
      · have := hi.1; omega
      · have h5 := down e a d
        rcases Nat.lt_or_ge (T.lo e) c with h6 | h6
        · rw [(hi.2 e a b.1).2 h6] at h5; cases h5
        · omega
    refine ⟨hlo, hup, ?_⟩
    have hnx : T.next k c = c := by simp [Ranks.next, hf]
    rw [hnx]
    refine ⟨hi.1, fun e hel hee => ?_⟩
    have hek : k ≠ e := fun h => by subst h; rw [hf] at hee; cases hee
    rw [getD_set_ne false hek]
    exact hi.2 e hel hee

def OpZ (P : Program) (own : FuncId → Bool) (T : Ranks) (As : Nat → List Box) (k : Nat) (o : Oper) (vs : List AV) (v : AV) : Prop :=
  ∀ c, T.lo k ≤ c → c ≤ T.hi k → OpK P own o vs (As c) (fun v' A' => v' = v ∧ A' = As (T.next k c))
def SkZ (T : Ranks) (As : Nat → List Box) (k : Nat) : Prop := ∀ c, T.lo k ≤ c → c ≤ T.hi k → As (T.next k c) = As c

def qOpZ (P : Program) (own : FuncId → Bool) (ops : Array Oper) (T : Ranks) (As : Nat → List Box) (i : Nat) (K : (Nat → AV) → Prop) (E : Nat → AV) : Prop :=
  match ops[i]? with
  | none => K E
  | some o => match wantF ops o E with
    | none => False
    | some true => ∃ v, OpZ P own T As i o (o.op.operands.toList.map (evF E)) v ∧ K (putF o.dst v E)
    | some false => SkZ T As i ∧ K (putF o.dst (.tuple []) E)

def wpAnyZ (P : Program) (own : FuncId → Bool) (ops : Array Oper) (T : Ranks) (As : Nat → List Box) (Q : (Nat → AV) → Prop) : Nat → Array Bool → (Nat → AV) → Prop
  | 0, listed, E => Region.ready .any ops listed = [] ∧ Q E
  | fuel + 1, listed, E => (Region.ready .any ops listed = [] → Q E) ∧ ∀ i ∈ Region.ready .any ops listed, qOpZ P own ops T As i (wpAnyZ P own ops T As Q fuel (listed.setIfInBounds i true)) E

def YieldsZ (P : Program) (own : FuncId → Bool) (ops : Array Oper) (T : Ranks) (As : Nat → List Box) (i : Nat) (o : Oper) (v : AV) (E : Nat → AV) : Prop :=
  (wantF ops o E = some true ∧ OpZ P own T As i o (o.op.operands.toList.map (evF E)) v) ∨ (wantF ops o E = some false ∧ SkZ T As i ∧ v = .tuple [])

theorem qOpZ_mono {i : Nat} {E : Nat → AV} {K K' : (Nat → AV) → Prop} (h : ∀ E, K E → K' E) (hh : qOpZ P own ops T As i K E) : qOpZ P own ops T As i K' E := by
  unfold qOpZ at *
  split
  · rename_i ho; simp only [ho] at hh; exact h _ hh
  · rename_i o ho
    simp only [ho] at hh
    cases hw : wantF ops o E with
    | none => simp only [hw] at hh
    | some b =>
      simp only [hw] at hh
      cases b with
      | true => obtain ⟨v, h1, h2⟩ := hh; exact ⟨v, h1, h _ h2⟩
      | false => exact ⟨hh.1, h _ hh.2⟩

theorem YieldsZ.qOp {i : Nat} {o : Oper} {v : AV} {E : Nat → AV} (hi : ops[i]? = some o) (hy : YieldsZ P own ops T As i o v E) {K : (Nat → AV) → Prop} (h : K (putF o.dst v E)) : qOpZ P own ops T As i K E := by
  unfold qOpZ
  simp only [hi]
  rcases hy with ⟨hw, hv⟩ | ⟨hw, hs, rfl⟩
  · simp only [hw]; exact ⟨v, hv, h⟩
  · simp only [hw]; exact ⟨hs, h⟩

theorem yieldsZ_of_qOp {i : Nat} {o : Oper} {E : Nat → AV} {K : (Nat → AV) → Prop} (hi : ops[i]? = some o) (h : qOpZ P own ops T As i K E) : ∃ v, YieldsZ P own ops T As i o v E ∧ K (putF o.dst v E) := by
  unfold qOpZ at h
  simp only [hi] at h
  cases hw : wantF ops o E with
  | none => simp only [hw] at h
  | some b =>
    simp only [hw] at h
    cases b with
    | true => obtain ⟨v, h1, h2⟩ := h; exact ⟨v, .inl ⟨hw, h1⟩, h2⟩
    | false => exact ⟨.tuple [], .inr ⟨hw, h.1, rfl⟩, h.2⟩

theorem qOpZ_put {i j : Nat} {oi oj : Oper} {v : AV} (hj : ops[j]? = some oj) (hap : oi.apart ops oj = true) {K : (Nat → AV) → Prop} {E : Nat → AV}
    (hy : YieldsZ P own ops T As i oi v E) (h : qOpZ P own ops T As j K (putF oi.dst v E)) :
    qOpZ P own ops T As j (fun E' => YieldsZ P own ops T As i oi v E' ∧ K (putF oi.dst v E')) E := by
  obtain ⟨h1, h2, h3⟩ := Oper.apart_spec hap
  have keep : ∀ u, YieldsZ P own ops T As i oi v (putF oj.dst u E) := fun u => by
    unfold YieldsZ at *
    rw [wantF_put h3, vals_put h3]; exact hy
  unfold qOpZ at *
  simp only [hj] at *
  rw [wantF_put h1] at h
  cases hw : wantF ops oj E with
  | none => simp only [hw] at h
  | some b =>
    simp only [hw] at h ⊢
    cases b with
    | true =>
      obtain ⟨u, hu, hn⟩ := h
      refine ⟨u, ?_, keep u, by rw [putF_comm E u v (fun d hd hx => h2 d hx hd)]; exact hn⟩
      rwa [vals_put h1] at hu
    | false => exact ⟨h.1, keep _, by rw [putF_comm E _ v (fun d hd hx => h2 d hx hd)]; exact h.2⟩

theorem wpAnyZ_first {Q : (Nat → AV) → Prop} {i : Nat} {oi : Oper} {v : AV} (hi : ops[i]? = some oi) :
    ∀ (fuel : Nat) (listed : Array Bool) (E : Nat → AV),
      (∀ j oj, ops[j]? = some oj → j ≠ i → listed.getD j true = false → (∀ e ∈ oj.after, Region.binds .any e = true → e.on ≠ i) → oi.apart ops oj = true) →
      i ∈ Region.ready .any ops listed → YieldsZ P own ops T As i oi v E →
      wpAnyZ P own ops T As Q fuel (listed.setIfInBounds i true) (putF oi.dst v E) → wpAnyZ P own ops T As Q (fuel + 1) listed E := by
  intro fuel
  induction fuel with
  | zero =>
    intro listed E _ hr hy H
    refine ⟨fun h => (by rw [h] at hr; cases hr), fun j hj => ?_⟩
    by_cases hji : j = i
    · subst hji; exact hy.qOp hi H
    · have := ready_mono hj hji
      rw [H.1] at this
      cases this
  | succ fuel ih =>
    intro listed E hfree hr hy H
    refine ⟨fun h => (by rw [h] at hr; cases hr), fun j hj => ?_⟩
    by_cases hji : j = i
    · subst hji; exact hy.qOp hi H
    · have h1 := H.2 j (ready_mono hj hji)
      obtain ⟨hjun, oj, hoj, hall⟩ := mem_ready.1 hj
      have hnot : ∀ e ∈ oj.after, Region.binds .any e = true → e.on ≠ i := fun e he hb heq => by
        have h1 := hall e he hb
        have h0 := (mem_ready.1 hr).1
        rw [heq] at h1
        rcases Nat.lt_or_ge i listed.size with h' | h'
        · simp [h'] at h0 h1; rw [h0] at h1; cases h1
        · simp [Array.getElem?_eq_none h'] at h1
      have h2 := qOpZ_put hoj (hfree j oj hoj hji hjun hnot) hy h1
      have hfree' : ∀ k ok, ops[k]? = some ok → k ≠ i → (listed.setIfInBounds j true).getD k true = false →
          (∀ e ∈ ok.after, Region.binds .any e = true → e.on ≠ i) → oi.apart ops ok = true := fun k ok hk hki hun hno => by
        refine hfree k ok hk hki ?_ hno
        by_cases hjk : j = k
        · subst hjk; exact hjun
        · rw [getD_set_ne true hjk] at hun; exact hun
      refine qOpZ_mono (fun E' h3 => ih (listed.setIfInBounds j true) E' hfree' (ready_mono hr (Ne.symm hji)) h3.1 ?_) h2
      rw [Array.setIfInBounds_comm _ _ hji]
      exact h3.2

def wpZF (P : Program) (own : FuncId → Bool) (ops : Array Oper) (T : Ranks) (As : Nat → List Box) (Q : (Nat → AV) → Prop) : Nat → List Oper → (Nat → AV) → Prop
  | _, [], E => Q E
  | k, o :: rest, E => match wantF ops o E with
    | none => False
    | some true => ∃ v, OpZ P own T As k o (o.op.operands.toList.map (evF E)) v ∧ wpZF P own ops T As Q (k + 1) rest (putF o.dst v E)
    | some false => SkZ T As k ∧ wpZF P own ops T As Q (k + 1) rest (putF o.dst (.tuple []) E)

theorem wpAnyZ_lex {Q : (Nat → AV) → Prop} : ∀ (l : List Oper) (k : Nat) (listed : Array Bool) (E : Nat → AV), (∀ j, l[j]? = ops[k + j]?) →
    Region.lexFrom .any ops l.length k listed = true → wpZF P own ops T As Q k l E → wpAnyZ P own ops T As Q l.length listed E
  | [], _, _, _, _, hB, h => ⟨by simpa [Region.lexFrom] using hB, h⟩
  | o :: l, k, listed, E, hl, hB, h => by
    have h0 : ops[k]? = some o := by simpa using (hl 0).symm
    simp only [List.length_cons, Region.lexFrom, Bool.and_eq_true] at hB
    obtain ⟨⟨hr, hf⟩, hB'⟩ := hB
    have hst : qOpZ P own ops T As k (wpZF P own ops T As Q (k + 1) l) E := by unfold qOpZ; simp only [h0]; exact h
    obtain ⟨v, hy, hK⟩ := yieldsZ_of_qOp h0 hst
    exact wpAnyZ_first h0 l.length listed E (Region.free_spec h0 hf) (by simpa using hr) hy
      (wpAnyZ_lex l (k + 1) _ _ (fun j => by have := hl (j + 1); simpa [Nat.add_assoc, Nat.add_comm 1 j] using this) hB' hK)

theorem wpAny_of_Z {N base : Nat} {Q : (Nat → AV) → Prop} {Q' : Exit → Act → World → Prop} {G0 : Ghost} {w0 : World} (hN : dstOk N ops = true) (hB : rankB ops T m = true)
    (hQ : ∀ E a w G c, RInv ops T m (Array.replicate ops.size true) c → Q E → FRel N base G E (As c) a w → Ext G0 w0 G w → Below base w0 w → Q' .normal a w) (hlex : ∀ listed, DC ops listed → listed.size = ops.size → Region.ready .any ops listed = [] → listed = Array.replicate ops.size true) :
    ∀ (fuel : Nat) (listed : Array Bool) {E : Nat → AV} {a : Act} {w : World} {G : Ghost} {c : Nat}, DC ops listed → RInv ops T m listed c → listed.size = ops.size → FRel N base G E (As c) a w → Ext G0 w0 G w → Below base w0 w →
      wpAnyZ P own ops T As Q fuel listed E → wpAny P .any ops Q' fuel listed a w
  | 0, listed, E, a, w, G, c, hd, hi, hs, hr, he, hb, h => ⟨h.1, hQ E a w G c (by have := hlex listed hd hs h.1; rw [this] at hi; exact hi) h.2 hr he hb⟩
  | fuel + 1, listed, E, a, w, G, c, hd, hi, hs, hr, he, hb, h => ⟨fun h0 => hQ E a w G c (by have := hlex listed hd hs h0; rw [this] at hi; exact hi) (h.1 h0) hr he hb, fun i hir => by
      have hq := h.2 i hir
      obtain ⟨g1, g2, g3⟩ := rank_range hB hd hi hs hir
      have hd' := dc_set hd hir
      have hs' : (listed.setIfInBounds i true).size = ops.size := by simpa using hs
      unfold qOpZ at hq
      unfold wpOp
      cases ho : ops[i]? with
      | none => obtain ⟨_, o, ho', _⟩ := mem_ready.1 hir; rw [ho] at ho'; cases ho'
      | some o =>
        simp only [ho] at hq ⊢
        cases hw : wantF ops o E with
        | none => simp only [hw] at hq
        | some b =>
          simp only [hw] at hq
          rw [wantF_ok hr.env hw]
          cases b with
          | true =>
            obtain ⟨v, hv, hK⟩ := hq
            rw [if_pos rfl]
            refine .inl (OpK_ok (hv c g1 g2) (evF_list hr.env _) hr.heap fun v' A' x w' G' hk hx hh hext hbel => ?_)
            obtain ⟨e1, e2⟩ := hk
            rw [e1] at hx
            rw [e2] at hh
            have hp := hr.put (A := As c) (G' := G') (w' := w') (d := o.dst) (v := v) (x := x) (dstOk_spec hN ho) hext hx
            have hr' : FRel N base G' (putF o.dst v E) (As (T.next i c)) (a.put o.dst x) w' := by
              cases hdst : o.dst with
              | none => exact ⟨hr.defers, hr.size, fun t => (hr.env t).mono hext, hh⟩
              | some d =>
                refine ⟨hr.defers, by simp only [Act.put, Array.size_setIfInBounds]; exact hr.size, fun t => ?_, hh⟩
                simp only [putF, Act.put]
                by_cases ht : t = d
                · subst ht
                  have : t < a.tmps.size := by rw [hr.size]; exact dstOk_spec hN ho t hdst
                  have e2 : (a.tmps.setIfInBounds t x).getD t undef = x := by simp [Array.getD, this]
                  rw [if_pos rfl, e2]; exact hx
                · have e2 : (a.tmps.setIfInBounds d x).getD t undef = a.tmps.getD t undef := by
                    rw [Array.getD_eq_getD_getElem?, Array.getD_eq_getD_getElem?, Array.getElem?_setIfInBounds_ne (Ne.symm ht)]
                  rw [if_neg ht, e2]; exact (hr.env t).mono hext
            exact wpAny_of_Z hN hB hQ hlex fuel _ hd' g3 hs' hr' (he.trans hext) (hb.trans hbel) hK
          | false =>
            rw [if_neg (by simp)]
            have hr' := hr.put (d := o.dst) (dstOk_spec hN ho) (Ext.refl _ _) rv_skip hr.heap
            rw [← hq.1 c g1 g2] at hr'
            exact wpAny_of_Z hN hB hQ hlex fuel _ hd' g3 hs' hr' he hb hq.2⟩

def backB (ops : Array Oper) : Bool := (List.range ops.size).all fun k => match ops[k]? with
  | some o => o.after.all fun e => !Region.binds .any e || decide (e.on < k)
  | none => true
def endB (ops : Array Oper) (T : Ranks) (m : Nat) : Bool := m == 0 || (List.range ops.size).any fun e => T.eff e && T.lo e + 1 == m

theorem all_listed (hb : backB ops = true) {listed : Array Bool} (hs : listed.size = ops.size) (hr : Region.ready .any ops listed = []) : ∀ k, k < ops.size → listed.getD k false = true := by
  intro k
  induction k using Nat.strongRecOn with
  | _ k ih =>
    intro hk
    cases hq : listed.getD k false with
    | true => rfl
    | false =>
      have hmem : k ∈ Region.ready .any ops listed := by
        refine mem_ready.2 ⟨by simpa [show k < listed.size by omega] using hq, ops[k], by simp [hk], fun e he hbd => ?_⟩
        have hb1 := List.all_eq_true.1 hb k (List.mem_range.2 hk)
        simp only [Array.getElem?_eq_getElem hk] at hb1
        have := Array.all_eq_true_iff_forall_mem.1 hb1 e he
        have hlt : e.on < k := by simpa [hbd] using this
        exact ih e.on hlt (by omega)
      rw [hr] at hmem; cases hmem

theorem end_rank {c : Nat} {listed : Array Bool} (he : endB ops T m = true) (hi : RInv ops T m listed c) (ha : ∀ k, k < ops.size → listed.getD k false = true) : c = m := by
  have := hi.1
  simp only [endB, Bool.or_eq_true, beq_iff_eq, List.any_eq_true, List.mem_range, Bool.and_eq_true] at he
  rcases he with h0 | ⟨e, h1, h2, h3⟩
  · omega
  · have := (hi.2 e h1 h2).1 (ha e h1)
    omega

/-! ### over lists -/
def wpE (P : Program) (own : FuncId → Bool) (N : Nat) (ops : Array Oper) (T : Ranks) (As : Nat → List Box) (Q : Env → Prop) : Nat → List Oper → Env → Prop
  | _, [], e => Q e
  | k, o :: rest, e => match wantA ops o e with
    | none => False
    | some b => (b = true → ∃ v, OpZ P own T As k o (o.op.operands.toList.map (evA e)) v ∧ wpE P own N ops T As Q (k + 1) rest (putA N o.dst v e)) ∧ (b = false → SkZ T As k ∧ wpE P own N ops T As Q (k + 1) rest (putA N o.dst (.tuple []) e))

theorem wpE_F {N : Nat} {Q : Env → Prop} (hN : dstOk N ops = true) : ∀ (l : List Oper) (k : Nat) (e : Env), (∀ j, l[j]? = ops[k + j]?) → wpE P own N ops T As Q k l e → wpZF P own ops T As (fun E => ∃ e, Q e ∧ E = fun t => look t e) k l (fun t => look t e)
  | [], k, e, hl, h => ⟨e, h, rfl⟩
  | o :: rest, k, e, hl, h => by
    have h0 : ops[k]? = some o := by simpa using (hl 0).symm
    have hl' : ∀ j, rest[j]? = ops[k + 1 + j]? := fun j => by have := hl (j + 1); simpa [Nat.add_assoc, Nat.add_comm 1 j] using this
    have hev : evF (fun t => look t e) = evA e := by funext x; cases x <;> rfl
    have hwt : wantF ops o (fun t => look t e) = wantA ops o e := rfl
    simp only [wpE] at h
    simp only [wpZF, hwt]
    have hput : ∀ v, putF o.dst v (fun t => look t e) = fun t => look t (putA N o.dst v e) := fun v => by
      funext t; exact (look_putA (dstOk_spec hN h0)).symm
    split at h
    · exact h.elim
    · rename_i b hb
      rw [hb]
      cases b with
      | true =>
        obtain ⟨v, h1, h2⟩ := h.1 rfl
        refine ⟨v, ?_, ?_⟩
        · rw [hev]; exact h1
        · rw [hput]; exact wpE_F hN rest (k + 1) _ hl' h2
      | false =>
        refine ⟨(h.2 rfl).1, ?_⟩
        show wpZF P own ops T As _ (k + 1) rest (putF o.dst (.tuple []) _)
        rw [hput]; exact wpE_F hN rest (k + 1) _ hl' (h.2 rfl).2

theorem wpE_ok {N base id : Nat} {Q : Env → Prop} {Q' : Exit → Act → World → Prop} {G0 : Ghost} {w0 : World} {e : Env} {a : Act} {w : World} {G : Ghost} (hm : P.follows .mixedOrders = true) (hN : dstOk N ops = true) (hB : Region.lexB .any ops = true)
    (hR : rankB ops T m = true) (hb : backB ops = true) (hE : endB ops T m = true)
    (hQ : ∀ e a w G, Q e → ARel N base G e (As m) a w → Ext G0 w0 G w → Below base w0 w → Q' .normal a w) (h : wpE P own N ops T As Q 0 ops.toList e) (hr : ARel N base G e (As 0) a w) (he : Ext G0 w0 G w) (hbel : Below base w0 w) :
    (Code.region id ops true).wp P Q' a w := by
  simp only [Region.lexB, Bool.and_eq_true] at hB
  have h1 := wpE_F hN ops.toList 0 e (by simp) h
  have h2 := wpAnyZ_lex ops.toList 0 (Array.replicate ops.size false) (fun t => look t e) (by simp) (by simpa using hB.2) h1
  obtain ⟨k1, k2⟩ := hr.heap.heap (w' := { w with drawn := w.drawn + 1 }) rfl
  have hbd : Below base w { w with drawn := w.drawn + 1 } := (Below.refl base w).drew
  have hget : ∀ k, (Array.replicate ops.size false).getD k false = false := fun k => by
    rcases Nat.lt_or_ge k ops.size with hk | hk <;> simp [Array.getD, hk]
  have hd0 : DC ops (Array.replicate ops.size false) := fun k o _ hl => by rw [hget] at hl; cases hl
  have hi0 : RInv ops T m (Array.replicate ops.size false) 0 := ⟨Nat.zero_le _, fun e _ _ => by rw [hget]; simp⟩
  have hone : ∀ k, k < ops.size → (Array.replicate ops.size true).getD k false = true := fun k hk => by simp [Array.getD, hk]
  refine wp_region_any hm ?_
  have h3 := wpAny_of_Z (N := N) (base := base) (Q' := Q') (G0 := G0) (w0 := w0) (m := m) hN hR (fun E a w G c hi hq hr he hbl => ?_) (fun listed _ hs hrd => ?_) ops.toList.length (Array.replicate ops.size false) (a := a) (w := { w with drawn := w.drawn + 1 }) (G := G) (c := 0) hd0 hi0 (by simp)
    ⟨hr.defers, hr.size, fun t => (hr.env t).mono k2, k1⟩ (he.trans k2) (hbel.trans hbd) h2
  · simpa using h3
  · obtain ⟨e', hq, rfl⟩ := hq
    have hc := end_rank hE hi hone
    subst hc
    exact hQ e' a w G hq ⟨hr.defers, hr.size, hr.env, hr.heap⟩ he hbl
  · have := all_listed hb hs hrd
    refine Array.ext (by simp [hs]) fun k h1 h2 => ?_
    have h3 := this k (by omega)
    simpa [Array.getD, h1] using h3
end
end Go.Abs
