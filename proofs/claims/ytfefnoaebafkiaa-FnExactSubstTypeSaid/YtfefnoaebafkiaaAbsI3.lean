/- A region whose order is open: a chain of operations that change boxes, some of which have all others before or behind them and any answer; behind it, operations that are run in every order. -/
import Derived.Test.YtfefnoaebafkiaaAbsI2
set_option linter.unusedVariables false
set_option linter.unusedSimpArgs false
namespace Go.Abs
open Go.RowKit

section
variable {P : Program} {own : FuncId → Bool} {ops : Array Oper} {es : List Nat} {T : Ranks} {m n : Nat}

def qOpM (P : Program) (own : FuncId → Bool) (ops : Array Oper) (es : List Nat) (T : Ranks) (i : Nat) (K : (Nat → AV) → (Nat → List Box) → Prop) (E : Nat → AV) (As : Nat → List Box) : Prop :=
  if es.contains i = true then
    match ops[i]? with
    | none => False
    | some o => match wantF ops o E with
      | none => False
      | some true => OpK P own o (o.op.operands.toList.map (evF E)) (As (T.lo i)) (fun v A' => ∃ As', As' (T.lo i + 1) = A' ∧ K (putF o.dst v E) As')
      | some false => ∃ As', As' (T.lo i + 1) = As (T.lo i) ∧ K (putF o.dst (.tuple []) E) As'
  else qOpZ P own ops T As i (fun E => K E As) E

/-- every order -/
def wpAnyX (P : Program) (own : FuncId → Bool) (ops : Array Oper) (Q : (Nat → AV) → List Box → Prop) : Nat → Array Bool → (Nat → AV) → List Box → Prop
  | 0, listed, E, A => Region.ready .any ops listed = [] ∧ Q E A
  | fuel + 1, listed, E, A => (Region.ready .any ops listed = [] → Q E A) ∧ ∀ i ∈ Region.ready .any ops listed, match ops[i]? with
    | none => False
    | some o => match wantF ops o E with
      | none => False
      | some true => OpK P own o (o.op.operands.toList.map (evF E)) A (fun v A' => wpAnyX P own ops Q fuel (listed.setIfInBounds i true) (putF o.dst v E) A')
      | some false => wpAnyX P own ops Q fuel (listed.setIfInBounds i true) (putF o.dst (.tuple []) E) A

theorem wpAny_of_X {N base : Nat} {Q : (Nat → AV) → List Box → Prop} {Q' : Exit → Act → World → Prop} {G0 : Ghost} {w0 : World} (hN : dstOk N ops = true)
    (hQ : ∀ E A a w G, Q E A → FRel N base G E A a w → Ext G0 w0 G w → Below base w0 w → Q' .normal a w) :
    ∀ (fuel : Nat) (listed : Array Bool) {E : Nat → AV} {A : List Box} {a : Act} {w : World} {G : Ghost}, FRel N base G E A a w → Ext G0 w0 G w → Below base w0 w →
      wpAnyX P own ops Q fuel listed E A → wpAny P .any ops Q' fuel listed a w
  | 0, _, E, A, a, w, G, hr, he, hb, h => ⟨h.1, hQ E A a w G h.2 hr he hb⟩
  | fuel + 1, listed, E, A, a, w, G, hr, he, hb, h => ⟨fun h0 => hQ E A a w G (h.1 h0) hr he hb, fun i hi => by
      have hq := h.2 i hi
      unfold wpOp
      cases ho : ops[i]? with
      | none => simp only [ho] at hq
      | some o =>
        simp only [ho] at hq ⊢
        cases hw : wantF ops o E with
        | none => simp only [hw] at hq
        | some b =>
          simp only [hw] at hq
          rw [wantF_ok hr.env hw]
          cases b with
          | true =>
            rw [if_pos rfl]
            refine .inl (OpK_ok hq (evF_list hr.env _) hr.heap fun v' A' x w' G' hk hx hh hext hbel => ?_)
            exact wpAny_of_X hN hQ fuel _ (hr.put2 (dstOk_spec hN ho) hext hx hh) (he.trans hext) (hb.trans hbel) hk
          | false =>
            rw [if_neg (by simp)]
            exact wpAny_of_X hN hQ fuel _ (hr.put (dstOk_spec hN ho) (Ext.refl _ _) rv_skip hr.heap) he hb hq⟩

def preB (ops : Array Oper) (n : Nat) : Bool := (List.range ops.size).all fun j => decide (j < n) || (List.range n).all fun i => reachB ops ops.size i j
/-- all before n are run -/
def preAll (n : Nat) (listed : Array Bool) : Prop := ∀ i, i < n → listed.getD i false = true
open Classical in
noncomputable def wpAnyM (P : Program) (own : FuncId → Bool) (ops : Array Oper) (es : List Nat) (T : Ranks) (m n : Nat) (Q : (Nat → AV) → List Box → Prop) : Nat → Array Bool → (Nat → AV) → (Nat → List Box) → Prop
  | 0, listed, E, As => preAll n listed ∧ wpAnyX P own ops Q 0 listed E (As m)
  | fuel + 1, listed, E, As => if preAll n listed then wpAnyX P own ops Q (fuel + 1) listed E (As m) else ∀ i ∈ Region.ready .any ops listed, qOpM P own ops es T i (wpAnyM P own ops es T m n Q fuel (listed.setIfInBounds i true)) E As

theorem ready_low (hp : preB ops n = true) {listed : Array Bool} {j : Nat} (hd : DC ops listed) (hj : j ∈ Region.ready .any ops listed) (hn : ¬ preAll n listed) : j < n := by
  rcases Nat.lt_or_ge j n with h | h
  · exact h
  · exfalso
    apply hn
    intro i hi
    obtain ⟨hju, oj, hoj, hja⟩ := mem_ready.1 hj
    have hjl : j < ops.size := (Array.getElem?_eq_some_iff.1 hoj).1
    have h1 := List.all_eq_true.1 hp j (List.mem_range.2 hjl)
    simp only [Bool.or_eq_true, decide_eq_true_eq] at h1
    rcases h1 with h1 | h1
    · omega
    · have h2 := List.all_eq_true.1 h1 i (List.mem_range.2 hi)
      exact reach_listed hd _ _ _ h2 fun o ho => by rw [hoj] at ho; cases ho; exact hja
theorem not_pre {listed : Array Bool} {i : Nat} (hi : i < n) (hr : i ∈ Region.ready .any ops listed) : ¬ preAll n listed := fun h => by
  obtain ⟨hiu, oi, hoi, _⟩ := mem_ready.1 hr
  have h1 := h i hi
  rcases Nat.lt_or_ge i listed.size with h' | h'
  · simp [h'] at h1 hiu; rw [hiu] at h1; cases h1
  · simp [Array.getD, Nat.not_lt.2 h'] at h1

theorem wpAnyM_first (hs : sepB ops es = true) (hp : preB ops n = true) {Q : (Nat → AV) → List Box → Prop} {i : Nat} {oi : Oper} {v : AV} {As : Nat → List Box} (hin : i < n) (hi : ops[i]? = some oi) (hie : es.contains i = false) :
    ∀ (fuel : Nat) (listed : Array Bool) (E : Nat → AV), DC ops listed →
      (∀ j oj, ops[j]? = some oj → j ≠ i → listed.getD j true = false → (∀ e ∈ oj.after, Region.binds .any e = true → e.on ≠ i) → oi.apart ops oj = true) →
      i ∈ Region.ready .any ops listed → YieldsZ P own ops T As i oi v E →
      wpAnyM P own ops es T m n Q fuel (listed.setIfInBounds i true) (putF oi.dst v E) As → wpAnyM P own ops es T m n Q (fuel + 1) listed E As := by
  intro fuel
  have no : ∀ {listed : Array Bool} {j : Nat}, DC ops listed → i ∈ Region.ready .any ops listed → j ∈ Region.ready .any ops listed → es.contains j = false := fun {listed j} hd hr hj => by
    cases hq : es.contains j with
    | false => rfl
    | true =>
      have := sep_two hs hd hr hj hq
      subst this
      rw [hie] at hq; cases hq
  induction fuel with
  | zero =>
    intro listed E hd _ hr hy H
    have hnp := not_pre hin hr
    unfold wpAnyM
    rw [if_neg hnp]
    intro j hj
    have hjn := ready_low hp hd hj hnp
    by_cases hji : j = i
    · subst hji
      unfold qOpM
      rw [if_neg (by rw [hie]; simp)]
      exact hy.qOp hi H
    · exact absurd H.1 (not_pre hjn (ready_mono hj hji))
  | succ fuel ih =>
    intro listed E hd hfree hr hy H
    have hnp := not_pre hin hr
    unfold wpAnyM
    rw [if_neg hnp]
    intro j hj
    have hjn := ready_low hp hd hj hnp
    by_cases hji : j = i
    · subst hji
      unfold qOpM
      rw [if_neg (by rw [hie]; simp)]
      exact hy.qOp hi H
    · have hje := no hd hr hj
      unfold wpAnyM at H
      rw [if_neg (not_pre hjn (ready_mono hj hji))] at H
      have h1 := H j (ready_mono hj hji)
      unfold qOpM at h1 ⊢
      rw [if_neg (by rw [hje]; simp)] at h1 ⊢
      obtain ⟨hjun, oj, hoj, hall⟩ := mem_ready.1 hj
      have hnot : ∀ e ∈ oj.after, Region.binds .any e = true → e.on ≠ i := fun e he hb heq => by
        have h1 := hall e he hb
        have h0 := (mem_ready.1 hr).1
        rw [heq] at h1
        rcases Nat.lt_or_ge i listed.size with h' | h'
        · simp [h'] at h0 h1; rw [h0] at h1; cases h1
        · simp [Array.getElem?_eq_none h'] at h1
      have h2 := qOpZ_put hoj (hfree j oj hoj hji hjun hnot) hy h1
      have hfree' : ∀ k ok, ops[k]? = some ok → k ≠ i → (listed.setIfInBounds j true).getD k true = false →
          (∀ e ∈ ok.after, Region.binds .any e = true → e.on ≠ i) → oi.apart ops ok = true := fun k ok hk hki hun hno => by
        refine hfree k ok hk hki ?_ hno
        by_cases hjk : j = k
        · subst hjk; exact hjun
        · rw [getD_set_ne true hjk] at hun; exact hun
      refine qOpZ_mono (fun E' h3 => ih (listed.setIfInBounds j true) E' (dc_set hd hj) hfree' (ready_mono hr (Ne.symm hji)) h3.1 ?_) h2
      rw [Array.setIfInBounds_comm _ _ hji]
      exact h3.2

def wpMF (P : Program) (own : FuncId → Bool) (ops : Array Oper) (es : List Nat) (T : Ranks) (Q : (Nat → AV) → (Nat → List Box) → Prop) : Nat → List Oper → (Nat → AV) → (Nat → List Box) → Prop
  | _, [], E, As => Q E As
  | k, o :: rest, E, As => match wantF ops o E with
    | none => False
    | some true => (es.contains k = true → OpK P own o (o.op.operands.toList.map (evF E)) (As (T.lo k)) (fun v A' => ∃ As', As' (T.lo k + 1) = A' ∧ wpMF P own ops es T Q (k + 1) rest (putF o.dst v E) As')) ∧
        (es.contains k = false → ∃ v, OpZ P own T As k o (o.op.operands.toList.map (evF E)) v ∧ wpMF P own ops es T Q (k + 1) rest (putF o.dst v E) As)
    | some false => (es.contains k = true → ∃ As', As' (T.lo k + 1) = As (T.lo k) ∧ wpMF P own ops es T Q (k + 1) rest (putF o.dst (.tuple []) E) As') ∧
        (es.contains k = false → SkZ T As k ∧ wpMF P own ops es T Q (k + 1) rest (putF o.dst (.tuple []) E) As)

def lexN (ops : Array Oper) : Nat → Nat → Array Bool → Bool
  | 0, _, _ => true
  | l + 1, k, listed => (Region.ready .any ops listed).contains k && Region.free .any ops listed k && lexN ops l (k + 1) (listed.setIfInBounds k true)
def setN : Nat → Nat → Array Bool → Array Bool
  | 0, _, listed => listed
  | l + 1, k, listed => setN l (k + 1) (listed.setIfInBounds k true)

theorem wpAnyM_lex (hs : sepB ops es = true) (hp : preB ops n = true) {Q : (Nat → AV) → List Box → Prop} (f : Nat) : ∀ (l : List Oper) (k : Nat) (listed : Array Bool) (E : Nat → AV) (As : Nat → List Box), (∀ j o, l[j]? = some o → ops[k + j]? = some o) → k + l.length = n → DC ops listed →
    lexN ops l.length k listed = true → wpMF P own ops es T (fun E As => wpAnyM P own ops es T m n Q f (setN l.length k listed) E As) k l E As → wpAnyM P own ops es T m n Q (l.length + f) listed E As
  | [], k, _, _, _, _, _, _, hB, h => by simpa [setN, wpMF] using h
  | o :: l, k, listed, E, As, hl, hkn, hd, hB, h => by
    have h0 : ops[k]? = some o := by simpa using hl 0 o rfl
    have hl' : ∀ j o, l[j]? = some o → ops[k + 1 + j]? = some o := fun j o ho => by have := hl (j + 1) o (by simpa using ho); simpa [Nat.add_assoc, Nat.add_comm 1 j] using this
    have hkn' : k + 1 + l.length = n := by simp at hkn; omega
    have hk0 : k < n := by simp at hkn; omega
    simp only [List.length_cons, lexN, Bool.and_eq_true] at hB
    obtain ⟨⟨hr, hf⟩, hB'⟩ := hB
    have hrm : k ∈ Region.ready .any ops listed := by simpa using hr
    have hd' := dc_set hd hrm
    have hnp := not_pre hk0 hrm
    have rec' := fun E As h => wpAnyM_lex hs hp (Q := Q) f l (k + 1) (listed.setIfInBounds k true) E As hl' hkn' hd' hB' h
    rw [List.length_cons, show l.length + 1 + f = (l.length + f) + 1 by omega]
    simp only [List.length_cons, setN] at h
    cases hk : es.contains k with
    | true =>
      unfold wpAnyM
      rw [if_neg hnp]
      intro j hj
      have hjk := sep_two hs hd hj hrm hk
      subst hjk
      unfold qOpM
      rw [if_pos hk]
      simp only [h0]
      simp only [wpMF] at h
      cases hw : wantF ops o E with
      | none => simp only [hw] at h
      | some b =>
        simp only [hw] at h
        cases b with
        | true => exact OpK_mono (h.1 hk) fun v A' ⟨As', h1, h'⟩ => ⟨As', h1, rec' _ _ h'⟩
        | false =>
          obtain ⟨As', h1, h'⟩ := h.1 hk
          exact ⟨As', h1, rec' _ _ h'⟩
    | false =>
      have hst : qOpZ P own ops T As k (fun E => wpMF P own ops es T (fun E As => wpAnyM P own ops es T m n Q f (setN l.length (k + 1) (listed.setIfInBounds k true)) E As) (k + 1) l E As) E := by
        unfold qOpZ
        simp only [h0]
        simp only [wpMF] at h
        cases hw : wantF ops o E with
        | none => simp only [hw] at h
        | some b =>
          simp only [hw] at h ⊢
          cases b with
          | true => exact h.2 hk
          | false => exact h.2 hk
      obtain ⟨v, hy, hK⟩ := yieldsZ_of_qOp h0 hst
      exact wpAnyM_first hs hp hk0 h0 hk (l.length + f) listed E hd (Region.free_spec h0 hf) hrm hy (rec' _ _ hK)

def effB (T : Ranks) (es : List Nat) : Bool := es.all fun i => T.eff i
theorem eff_lo {k : Nat} (hB : rankB ops T m = true) (hk : k < ops.size) (he : T.eff k = true) : T.lo k = T.hi k := by
  have := List.all_eq_true.1 hB k (List.mem_range.2 hk)
  simp only [he, if_true, Bool.and_eq_true, beq_iff_eq] at this
  exact this.1.1.1

def endN (ops : Array Oper) (T : Ranks) (m n : Nat) : Bool := decide (n ≤ ops.size) && (m == 0 || (List.range n).any fun e => T.eff e && T.lo e + 1 == m)
theorem end_rankN {c : Nat} {listed : Array Bool} (he : endN ops T m n = true) (hi : RInv ops T m listed c) (ha : preAll n listed) : c = m := by
  have := hi.1
  simp only [endN, Bool.and_eq_true, decide_eq_true_eq, Bool.or_eq_true, beq_iff_eq, List.any_eq_true, List.mem_range] at he
  obtain ⟨hn, he⟩ := he
  rcases he with h0 | ⟨e, h1, h2, h3⟩
  · omega
  · have := (hi.2 e (by omega) h2).1 (ha e h1)
    omega

theorem wpAny_of_M {N base : Nat} {Q : (Nat → AV) → List Box → Prop} {Q' : Exit → Act → World → Prop} {G0 : Ghost} {w0 : World} (hN : dstOk N ops = true) (hB : rankB ops T m = true) (hbk : backB ops = true) (hEn : endN ops T m n = true) (hE : effB T es = true)
    (hQ : ∀ E A a w G, Q E A → FRel N base G E A a w → Ext G0 w0 G w → Below base w0 w → Q' .normal a w) :
    ∀ (fuel : Nat) (listed : Array Bool) {E : Nat → AV} {As : Nat → List Box} {a : Act} {w : World} {G : Ghost} {c : Nat}, DC ops listed → RInv ops T m listed c → listed.size = ops.size → FRel N base G E (As c) a w → Ext G0 w0 G w → Below base w0 w →
      wpAnyM P own ops es T m n Q fuel listed E As → wpAny P .any ops Q' fuel listed a w
  | 0, listed, E, As, a, w, G, c, hd, hi, hs, hr, he, hb, h => by
    have hc := end_rankN hEn hi h.1
    subst hc
    exact wpAny_of_X hN hQ 0 listed hr he hb h.2
  | fuel + 1, listed, E, As, a, w, G, c, hd, hi, hs, hr, he, hb, h => by
    unfold wpAnyM at h
    by_cases hpa : preAll n listed
    · rw [if_pos hpa] at h
      have hc := end_rankN hEn hi hpa
      subst hc
      exact wpAny_of_X hN hQ (fuel + 1) listed hr he hb h
    rw [if_neg hpa] at h
    have hns : n ≤ ops.size := by simp only [endN, Bool.and_eq_true, decide_eq_true_eq] at hEn; exact hEn.1
    refine ⟨fun h0 => absurd (fun i hin => all_listed hbk hs h0 i (by omega)) hpa, fun i hir => ?_⟩
    have hq := h i hir
    obtain ⟨g1, g2, g3⟩ := rank_range hB hd hi hs hir
    have hd' := dc_set hd hir
    have hs' : (listed.setIfInBounds i true).size = ops.size := by simpa using hs
    unfold qOpM at hq
    unfold wpOp
    cases ho : ops[i]? with
    | none => obtain ⟨_, o, ho', _⟩ := mem_ready.1 hir; rw [ho] at ho'; cases ho'
    | some o =>
      have hil : i < ops.size := (Array.getElem?_eq_some_iff.1 ho).1
      cases hes : es.contains i with
      | true =>
        rw [if_pos hes] at hq
        simp only [ho] at hq ⊢
        have heff : T.eff i = true := List.all_eq_true.1 hE i (by simpa using hes)
        have hlh := eff_lo hB hil heff
        have hc : T.lo i = c := by omega
        have hnx : T.next i c = c + 1 := by simp [Ranks.next, heff]
        rw [hnx] at g3
        rw [hc] at hq
        cases hw : wantF ops o E with
        | none => simp only [hw] at hq
        | some b =>
          simp only [hw] at hq
          rw [wantF_ok hr.env hw]
          cases b with
          | true =>
            rw [if_pos rfl]
            refine .inl (OpK_ok hq (evF_list hr.env _) hr.heap fun v' A' x w' G' hk hx hh hext hbel => ?_)
            obtain ⟨As', e1, hk⟩ := hk
            rw [← e1] at hh
            exact wpAny_of_M hN hB hbk hEn hE hQ fuel _ hd' g3 hs' (hr.put2 (dstOk_spec hN ho) hext hx hh) (he.trans hext) (hb.trans hbel) hk
          | false =>
            rw [if_neg (by simp)]
            obtain ⟨As', e1, hk⟩ := hq
            have hr' := hr.put (d := o.dst) (dstOk_spec hN ho) (Ext.refl _ _) rv_skip hr.heap
            rw [← e1] at hr'
            exact wpAny_of_M hN hB hbk hEn hE hQ fuel _ hd' g3 hs' hr' he hb hk
      | false =>
        rw [if_neg (by rw [hes]; simp)] at hq
        unfold qOpZ at hq
        simp only [ho] at hq ⊢
        cases hw : wantF ops o E with
        | none => simp only [hw] at hq
        | some b =>
          simp only [hw] at hq
          rw [wantF_ok hr.env hw]
          cases b with
          | true =>
            obtain ⟨v, hv, hK⟩ := hq
            rw [if_pos rfl]
            refine .inl (OpK_ok (hv c g1 g2) (evF_list hr.env _) hr.heap fun v' A' x w' G' hk hx hh hext hbel => ?_)
            obtain ⟨e1, e2⟩ := hk
            rw [e1] at hx
            rw [e2] at hh
            exact wpAny_of_M hN hB hbk hEn hE hQ fuel _ hd' g3 hs' (hr.put2 (dstOk_spec hN ho) hext hx hh) (he.trans hext) (hb.trans hbel) hK
          | false =>
            rw [if_neg (by simp)]
            have hr' := hr.put (d := o.dst) (dstOk_spec hN ho) (Ext.refl _ _) rv_skip hr.heap
            rw [← hq.1 c g1 g2] at hr'
            exact wpAny_of_M hN hB hbk hEn hE hQ fuel _ hd' g3 hs' hr' he hb hq.2

/-! ### over lists -/
/-- a chain by pieces: in each, all box lists are known; then one operation with any answer -/
def wpM (P : Program) (own : FuncId → Bool) (N : Nat) (ops : Array Oper) (T : Ranks) (m : Nat) (Q : Env → List Box → Prop) : List Nat → Nat → List Oper → Env → (Nat → List Box) → Prop
  | [], k, l, e, As => wpE P own N ops T As (fun e => Q e (As m)) k l e
  | n :: ns, k, l, e, As => wpE P own N ops T As (fun e => wpO P own N ops (fun e A => ∃ As', As' (T.lo (k + n) + 1) = A ∧ wpM P own N ops T m Q ns (k + n + 1) (l.drop (n + 1)) e As') ((l.drop n).take 1) e (As (T.lo (k + n)))) k (l.take n) e

/-- the orders that are left -/
inductive Sch where
  | done
  | one (i : Nat) (s : Sch)
  | or (a b : Sch)
def Sch.firsts : Sch → List Nat
  | .done => []
  | .one i _ => [i]
  | .or a b => a.firsts ++ b.firsts
def Sch.dep : Sch → Nat
  | .done => 0
  | .one _ s => s.dep + 1
  | .or a b => max a.dep b.dep
def okS (ops : Array Oper) : Sch → Array Bool → Bool
  | .done, _ => true
  | .one i s, listed => (Region.ready .any ops (listed.setIfInBounds i true) == s.firsts) && okS ops s (listed.setIfInBounds i true)
  | .or a b, listed => okS ops a listed && okS ops b listed
def wpY (P : Program) (own : FuncId → Bool) (N : Nat) (ops : Array Oper) (Q : Env → List Box → Prop) : Sch → Env → List Box → Prop
  | .done, e, A => Q e A
  | .one i s, e, A => wpO P own N ops (fun e A => wpY P own N ops Q s e A) ((ops.toList.drop i).take 1) e A
  | .or a b, e, A => wpY P own N ops Q a e A ∧ wpY P own N ops Q b e A

theorem wpY_first {N : Nat} {Q : Env → List Box → Prop} {e : Env} {A : List Box} {listed : Array Bool} : ∀ (s : Sch) (i : Nat), i ∈ s.firsts → okS ops s listed = true → wpY P own N ops Q s e A →
    ∃ s', wpO P own N ops (fun e A => wpY P own N ops Q s' e A) ((ops.toList.drop i).take 1) e A ∧ Region.ready .any ops (listed.setIfInBounds i true) = s'.firsts ∧ okS ops s' (listed.setIfInBounds i true) = true ∧ s'.dep + 1 ≤ s.dep
  | .done, i, hi, _, _ => by simp [Sch.firsts] at hi
  | .one j s, i, hi, ho, h => by
    simp only [Sch.firsts, List.mem_singleton] at hi
    subst hi
    simp only [okS, Bool.and_eq_true, beq_iff_eq] at ho
    exact ⟨s, h, ho.1, ho.2, Nat.le_refl _⟩
  | .or a b, i, hi, ho, h => by
    simp only [okS, Bool.and_eq_true] at ho
    rcases List.mem_append.1 hi with hi | hi
    · obtain ⟨s', h1, h2, h3, h4⟩ := wpY_first a i hi ho.1 h.1
      exact ⟨s', h1, h2, h3, by simp only [Sch.dep]; omega⟩
    · obtain ⟨s', h1, h2, h3, h4⟩ := wpY_first b i hi ho.2 h.2
      exact ⟨s', h1, h2, h3, by simp only [Sch.dep]; omega⟩
theorem wpY_done {N : Nat} {Q : Env → List Box → Prop} {e : Env} {A : List Box} : ∀ (s : Sch), s.firsts = [] → wpY P own N ops Q s e A → Q e A
  | .done, _, h => h
  | .one i s, hf, _ => by simp [Sch.firsts] at hf
  | .or a b, hf, h => wpY_done a (by simp [Sch.firsts] at hf; exact hf.1) h.1

theorem wpY_X {N : Nat} {Q : Env → List Box → Prop} (hN : dstOk N ops = true) : ∀ (fuel : Nat) (s : Sch) (listed : Array Bool) (e : Env) (A : List Box), s.dep ≤ fuel → Region.ready .any ops listed = s.firsts → okS ops s listed = true → wpY P own N ops Q s e A →
    wpAnyX P own ops (fun E A => ∃ e, Q e A ∧ E = fun t => look t e) fuel listed (fun t => look t e) A
  | 0, s, listed, e, A, hd, hf, ho, h => by
    have hs0 : s.firsts = [] := by
      cases hq : s.firsts with
      | nil => rfl
      | cons i l =>
        obtain ⟨s', _, _, _, h4⟩ := wpY_first (P := P) (own := own) s i (by rw [hq]; simp) ho h
        omega
    exact ⟨by rw [hf, hs0], e, wpY_done s hs0 h, rfl⟩
  | fuel + 1, s, listed, e, A, hd, hf, ho, h => by
    refine ⟨fun h0 => ⟨e, wpY_done s (by rw [← hf, h0]) h, rfl⟩, fun i hi => ?_⟩
    obtain ⟨s', h1, h2, h3, h4⟩ := wpY_first s i (by rw [← hf]; exact hi) ho h
    obtain ⟨_, o, hoi, _⟩ := mem_ready.1 hi
    have hil : i < ops.size := (Array.getElem?_eq_some_iff.1 hoi).1
    have hoe : ops.toList[i]? = some o := by simpa using hoi
    have hone : (ops.toList.drop i).take 1 = [o] := by
      have hl : i < ops.toList.length := by simpa using hil
      rw [List.drop_eq_getElem_cons hl]
      have : ops.toList[i] = o := by rw [List.getElem?_eq_getElem hl] at hoe; exact Option.some.inj hoe
      rw [this]; rfl
    rw [hone] at h1
    have hev : evF (fun t => look t e) = evA e := by funext x; cases x <;> rfl
    have hwt : wantF ops o (fun t => look t e) = wantA ops o e := rfl
    have hput : ∀ v, putF o.dst v (fun t => look t e) = fun t => look t (putA N o.dst v e) := fun v => by
      funext t; exact (look_putA (dstOk_spec hN hoi)).symm
    simp only [hoi, hwt]
    simp only [wpO] at h1
    split at h1
    · exact h1.elim
    · rename_i b hb
      rw [hb]
      cases b with
      | true =>
        simp only []
        rw [hev]
        refine OpK_mono (h1.1 rfl) fun v A' h5 => ?_
        rw [hput]
        exact wpY_X hN fuel s' _ _ _ (by omega) h2 h3 h5
      | false =>
        show wpAnyX P own ops _ fuel _ (putF o.dst (.tuple []) _) A
        rw [hput]
        exact wpY_X hN fuel s' _ _ _ (by omega) h2 h3 (h1.2 rfl)

theorem wpMF_pure {Q : (Nat → AV) → (Nat → List Box) → Prop} {As : Nat → List Box} {rest : List Oper} : ∀ (l : List Oper) (k : Nat) (E : Nat → AV) (Q' : (Nat → AV) → Prop), (∀ j, k ≤ j → j < k + l.length → es.contains j = false) → wpZF P own ops T As Q' k l E →
    (∀ E, Q' E → wpMF P own ops es T Q (k + l.length) rest E As) → wpMF P own ops es T Q k (l ++ rest) E As
  | [], k, E, Q', _, h, hq => by simpa using hq E h
  | o :: l, k, E, Q', hn, h, hq => by
    simp only [wpZF] at h
    simp only [List.cons_append, wpMF]
    have hk := hn k (Nat.le_refl _) (by simp)
    have rec' := fun E h => wpMF_pure l (k + 1) E Q' (fun j h1 h2 => hn j (by omega) (by simp at h2 ⊢; omega)) h (fun E hE => by
      have := hq E hE
      rwa [List.length_cons, show k + (l.length + 1) = k + 1 + l.length by omega] at this)
    cases hw : wantF ops o E with
    | none => simp only [hw] at h
    | some b =>
      simp only [hw] at h ⊢
      cases b with
      | true =>
        obtain ⟨v, h1, h2⟩ := h
        exact ⟨fun hh => (by rw [hk] at hh; cases hh), fun _ => ⟨v, h1, rec' _ h2⟩⟩
      | false => exact ⟨fun hh => (by rw [hk] at hh; cases hh), fun _ => ⟨h.1, rec' _ h.2⟩⟩

theorem wpMF_mono {Q Q' : (Nat → AV) → (Nat → List Box) → Prop} (hq : ∀ E As, Q E As → Q' E As) : ∀ (l : List Oper) (k : Nat) (E : Nat → AV) (As : Nat → List Box), wpMF P own ops es T Q k l E As → wpMF P own ops es T Q' k l E As
  | [], k, E, As, h => hq E As h
  | o :: l, k, E, As, h => by
    simp only [wpMF] at h ⊢
    cases hw : wantF ops o E with
    | none => simp only [hw] at h
    | some b =>
      simp only [hw] at h ⊢
      cases b with
      | true =>
        refine ⟨fun hh => OpK_mono (h.1 hh) fun v A' ⟨As', h1, h2⟩ => ⟨As', h1, wpMF_mono hq l _ _ _ h2⟩, fun hh => ?_⟩
        obtain ⟨v, h1, h2⟩ := h.2 hh
        exact ⟨v, h1, wpMF_mono hq l _ _ _ h2⟩
      | false =>
        refine ⟨fun hh => ?_, fun hh => ⟨(h.2 hh).1, wpMF_mono hq l _ _ _ (h.2 hh).2⟩⟩
        obtain ⟨As', h1, h2⟩ := h.1 hh
        exact ⟨As', h1, wpMF_mono hq l _ _ _ h2⟩

theorem wpE_F2 {N : Nat} {As : Nat → List Box} {Q : Env → Prop} (hN : dstOk N ops = true) : ∀ (l : List Oper) (k : Nat) (e : Env), (∀ j o, l[j]? = some o → ops[k + j]? = some o) → wpE P own N ops T As Q k l e → wpZF P own ops T As (fun E => ∃ e, Q e ∧ E = fun t => look t e) k l (fun t => look t e)
  | [], k, e, hl, h => ⟨e, h, rfl⟩
  | o :: rest, k, e, hl, h => by
    have h0 : ops[k]? = some o := by simpa using hl 0 o rfl
    have hl' : ∀ j o, rest[j]? = some o → ops[k + 1 + j]? = some o := fun j o ho => by have := hl (j + 1) o (by simpa using ho); simpa [Nat.add_assoc, Nat.add_comm 1 j] using this
    have hev : evF (fun t => look t e) = evA e := by funext x; cases x <;> rfl
    have hwt : wantF ops o (fun t => look t e) = wantA ops o e := rfl
    simp only [wpE] at h
    simp only [wpZF, hwt]
    have hput : ∀ v, putF o.dst v (fun t => look t e) = fun t => look t (putA N o.dst v e) := fun v => by
      funext t; exact (look_putA (dstOk_spec hN h0)).symm
    split at h
    · exact h.elim
    · rename_i b hb
      rw [hb]
      cases b with
      | true =>
        obtain ⟨v, h1, h2⟩ := h.1 rfl
        refine ⟨v, ?_, ?_⟩
        · rw [hev]; exact h1
        · rw [hput]; exact wpE_F2 hN rest (k + 1) _ hl' h2
      | false =>
        refine ⟨(h.2 rfl).1, ?_⟩
        show wpZF P own ops T As _ (k + 1) rest (putF o.dst (.tuple []) _)
        rw [hput]; exact wpE_F2 hN rest (k + 1) _ hl' (h.2 rfl).2

theorem wpM_F {N : Nat} {Q : Env → List Box → Prop} (hN : dstOk N ops = true) : ∀ (ns : List Nat) (l : List Oper) (k : Nat) (e : Env) (As : Nat → List Box), (∀ j o, l[j]? = some o → ops[k + j]? = some o) → (∀ j, k ≤ j → (es.contains j = true ↔ j ∈ segIdx k ns)) → (∀ j ∈ segIdx k ns, j < k + l.length) →
    wpM P own N ops T m Q ns k l e As → wpMF P own ops es T (fun E As => ∃ e, Q e (As m) ∧ E = fun t => look t e) k l (fun t => look t e) As
  | [], l, k, e, As, hl, hes, _, h => by
    have h1 := wpE_F2 hN l k e hl h
    have := wpMF_pure (es := es) (Q := fun E As => ∃ e, Q e (As m) ∧ E = fun t => look t e) (rest := []) l k _ _ (fun j h1 h2 => by
      cases hq : es.contains j with
      | false => rfl
      | true => have := (hes j h1).1 hq; simp [segIdx] at this) h1 (fun E hE => hE)
    simpa using this
  | n :: ns, l, k, e, As, hl, hes, hlt, h => by
    have hn : n < l.length := by have := hlt (k + n) (by simp [segIdx]); omega
    have hsplit : l = l.take n ++ (l[n] :: l.drop (n + 1)) := by rw [List.getElem_cons_drop, List.take_append_drop]
    have htk : (l.take n).length = n := by simp; omega
    have hone : (l.drop n).take 1 = [l[n]] := by rw [List.drop_eq_getElem_cons hn]; rfl
    have h1 : wpE P own N ops T As (fun e => wpO P own N ops (fun e A => ∃ As', As' (T.lo (k + n) + 1) = A ∧ wpM P own N ops T m Q ns (k + n + 1) (l.drop (n + 1)) e As') ((l.drop n).take 1) e (As (T.lo (k + n)))) k (l.take n) e := h
    rw [hone] at h1
    have h2 := wpE_F2 hN (l.take n) k e (fun j o ho => by
      rw [List.getElem?_take] at ho
      split at ho
      · exact hl j o ho
      · cases ho) h1
    rw [hsplit]
    refine wpMF_pure (l.take n) k _ _ (fun j h3 h4 => ?_) h2 ?_
    · rw [htk] at h4
      cases hq : es.contains j with
      | false => rfl
      | true =>
        have := (hes j h3).1 hq
        simp only [segIdx, List.mem_cons] at this
        rcases this with rfl | h5
        · omega
        · have := segIdx_ge _ _ _ h5; omega
    · rintro E ⟨e', h3, rfl⟩
      rw [htk]
      have hkn : es.contains (k + n) = true := (hes (k + n) (by omega)).2 (by simp [segIdx])
      have h0 : ops[k + n]? = some l[n] := hl n _ (by simp [hn])
      have hev : evF (fun t => look t e') = evA e' := by funext x; cases x <;> rfl
      have hwt : wantF ops l[n] (fun t => look t e') = wantA ops l[n] e' := rfl
      have hput : ∀ v, putF l[n].dst v (fun t => look t e') = fun t => look t (putA N l[n].dst v e') := fun v => by
        funext t; exact (look_putA (dstOk_spec hN h0)).symm
      have rec' := fun e As h => wpM_F (Q := Q) hN ns (l.drop (n + 1)) (k + n + 1) e As (fun j o ho => by
          rw [List.getElem?_drop] at ho
          have := hl _ o ho
          rwa [show k + n + 1 + j = k + (n + 1 + j) by omega]) (fun j hj => by
          rw [hes j (by omega)]
          simp only [segIdx, List.mem_cons]
          constructor
          · rintro (rfl | h)
            · omega
            · exact h
          · exact .inr) (fun j hj => by
          have := hlt j (by simp only [segIdx, List.mem_cons]; exact .inr hj)
          simp; omega) h
      simp only [wpO] at h3
      simp only [wpMF, hwt]
      split at h3
      · exact h3.elim
      · rename_i b hb
        rw [hb]
        cases b with
        | true =>
          refine ⟨fun _ => ?_, fun hh => (by rw [hkn] at hh; cases hh)⟩
          rw [hev]
          refine OpK_mono (h3.1 rfl) fun v A' ⟨As', h4, h5⟩ => ?_
          rw [hput]
          exact ⟨As', h4, rec' _ _ h5⟩
        | false =>
          refine ⟨fun _ => ?_, fun hh => (by rw [hkn] at hh; cases hh)⟩
          obtain ⟨As', h4, h5⟩ := h3.2 rfl
          refine ⟨As', h4, ?_⟩
          show wpMF P own ops es T _ (k + n + 1) _ (putF l[n].dst (.tuple []) _) As'
          rw [hput]
          exact rec' _ _ h5

theorem wpM_ok {N base id : Nat} {As : Nat → List Box} {Q : Env → List Box → Prop} {Q' : Exit → Act → World → Prop} {G0 : Ghost} {w0 : World} {e : Env} {a : Act} {w : World} {G : Ghost} (ns : List Nat) (s : Sch) (hm : P.follows .mixedOrders = true) (hN : dstOk N ops = true)
    (hB : (lexN ops n 0 (Array.replicate ops.size false)) = true)
    (hR : rankB ops T m = true) (hb : backB ops = true) (hE : endN ops T m n = true) (hS : sepB ops (segIdx 0 ns) = true) (hF : effB T (segIdx 0 ns) = true) (hlt : ∀ j ∈ segIdx 0 ns, j < n) (hp : preB ops n = true)
    (hs1 : (Region.ready .any ops (setN n 0 (Array.replicate ops.size false)) == s.firsts) = true) (hs2 : okS ops s (setN n 0 (Array.replicate ops.size false)) = true) (hs3 : n + s.dep ≤ ops.size)
    (hQ : ∀ e A a w G, Q e A → ARel N base G e A a w → Ext G0 w0 G w → Below base w0 w → Q' .normal a w) (h : wpM P own N ops T m (fun e A => wpY P own N ops Q s e A) ns 0 (ops.toList.take n) e As) (hr : ARel N base G e (As 0) a w) (he : Ext G0 w0 G w) (hbel : Below base w0 w) :
    (Code.region id ops true).wp P Q' a w := by
  have htl : (ops.toList.take n).length = n := by simp; omega
  have h1 := wpM_F (es := segIdx 0 ns) hN ns (ops.toList.take n) 0 e As (fun j o ho => by
    rw [List.getElem?_take] at ho
    split at ho
    · simpa using ho
    · cases ho) (fun j _ => by simp) (fun j hj => by have := hlt j hj; rw [htl]; omega) h
  have hget : ∀ k, (Array.replicate ops.size false).getD k false = false := fun k => by
    rcases Nat.lt_or_ge k ops.size with hk | hk <;> simp [Array.getD, hk]
  have hd0 : DC ops (Array.replicate ops.size false) := fun k o _ hl => by rw [hget] at hl; cases hl
  have hsetall : ∀ (l k : Nat) (listed : Array Bool), k + l ≤ listed.size → ∀ i, (i < k → listed.getD i false = true) → i < k + l → (setN l k listed).getD i false = true := by
    intro l
    induction l with
    | zero => intro k listed hk i hi hik; exact hi (by omega)
    | succ l ih =>
      intro k listed hk i hi hik
      simp only [setN]
      refine ih (k + 1) _ (by simp; omega) i (fun hh => ?_) (by omega)
      rcases Nat.lt_or_ge i k with h' | h'
      · exact getD_set_true (hi h')
      · obtain rfl : i = k := by omega
        have : i < listed.size := by omega
        simp [Array.getD, this]
  have hpre : preAll n (setN n 0 (Array.replicate ops.size false)) := fun i hi => hsetall n 0 _ (by simp; omega) i (fun h => by omega) (by omega)
  have h2 := wpAnyM_lex (P := P) (own := own) (m := m) (Q := fun E A => ∃ e, Q e A ∧ E = fun t => look t e) hS hp (ops.size - n) (ops.toList.take n) 0 (Array.replicate ops.size false) (fun t => look t e) As (fun j o ho => by
    rw [List.getElem?_take] at ho
    split at ho
    · simpa using ho
    · cases ho) (by rw [htl]; omega) hd0 (by rw [htl]; exact hB) (by
      rw [htl]
      refine wpMF_mono (fun E As' ⟨e', h3, h4⟩ => ?_) _ _ _ _ h1
      subst h4
      have h5 := wpY_X hN (ops.size - n) s (setN n 0 (Array.replicate ops.size false)) e' (As' m) (by omega) (by simpa using hs1) hs2 h3
      cases hf : ops.size - n with
      | zero => rw [hf] at h5; exact ⟨hpre, h5⟩
      | succ f => rw [hf] at h5; unfold wpAnyM; rw [if_pos hpre]; exact h5)
  obtain ⟨k1, k2⟩ := hr.heap.heap (w' := { w with drawn := w.drawn + 1 }) rfl
  have hbd : Below base w { w with drawn := w.drawn + 1 } := (Below.refl base w).drew
  have hi0 : RInv ops T m (Array.replicate ops.size false) 0 := ⟨Nat.zero_le _, fun e _ _ => by rw [hget]; simp⟩
  refine wp_region_any hm ?_
  have h3 := wpAny_of_M (N := N) (base := base) (Q' := Q') (G0 := G0) (w0 := w0) (m := m) (n := n) hN hR hb hE hF (fun E A a w G hq hr he hbl => ?_) ((ops.toList.take n).length + (ops.size - n)) (Array.replicate ops.size false) (a := a) (w := { w with drawn := w.drawn + 1 }) (G := G) (c := 0) hd0 hi0 (by simp)
    ⟨hr.defers, hr.size, fun t => (hr.env t).mono k2, k1⟩ (he.trans k2) (hbel.trans hbd) h2
  · rw [htl, show n + (ops.size - n) = ops.size by omega] at h3
    simpa using h3
  · obtain ⟨e', hq, rfl⟩ := hq
    exact hQ e' _ a w G hq ⟨hr.defers, hr.size, hr.env, hr.heap⟩ he hbl
end
end Go.Abs
