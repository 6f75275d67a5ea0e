/- A region whose order is open, where each operation that changes boxes has all others before it or behind it. -/
import Derived.Test.YtfefnoaebafkiaaAbsU
set_option linter.unusedVariables false
set_option linter.unusedSimpArgs false
namespace Go.Abs
open Go.RowKit

def sepB (ops : Array Oper) (es : List Nat) : Bool :=
  (List.range ops.size).all fun s => !es.contains s || (List.range ops.size).all fun k => k == s || (if k < s then reachB ops ops.size k s else reachB ops ops.size s k)

theorem OpK_mono {P : Program} {own : FuncId → Bool} {o : Oper} {vs : List AV} {A : List Box} {K K' : AV → List Box → Prop} (h : OpK P own o vs A K) (hk : ∀ v A', K v A' → K' v A') : OpK P own o vs A K' := by
  unfold OpK at *
  split
  · rename_i g args hc
    simp only [hc] at h
    unfold CallK at *
    split
    · rename_i ho; rw [if_pos ho] at h; exact h.mono hk
    · rename_i ho
      rw [if_neg ho] at h
      rcases h with ⟨a, A1, h1, h2⟩ | h
      · exact .inl ⟨a, A1, h1, h2.mono hk⟩
      · exact .inr (h.mono hk)
  · rename_i hc
    simp only [hc] at h
    cases hq : astep P o.op vs A with
    | none => rw [hq] at h; exact h
    | some x =>
      obtain ⟨c, v, A'⟩ := x
      rw [hq] at h
      exact ⟨h.1, hk _ _ h.2⟩

section
variable {P : Program} {own : FuncId → Bool} {ops : Array Oper} {es : List Nat}

def qOpR (P : Program) (own : FuncId → Bool) (ops : Array Oper) (es : List Nat) (i : Nat) (K : (Nat → AV) → List Box → Prop) (E : Nat → AV) (A : List Box) : Prop :=
  if es.contains i = true then
    match ops[i]? with
    | none => False
    | some o => match wantF ops o E with
      | none => False
      | some true => OpK P own o (o.op.operands.toList.map (evF E)) A (fun v A' => K (putF o.dst v E) A')
      | some false => K (putF o.dst (.tuple []) E) A
  else qOpA P own ops A i (fun E => K E A) E

def wpAnyR (P : Program) (own : FuncId → Bool) (ops : Array Oper) (es : List Nat) (Q : (Nat → AV) → List Box → Prop) : Nat → Array Bool → (Nat → AV) → List Box → Prop
  | 0, listed, E, A => Region.ready .any ops listed = [] ∧ Q E A
  | fuel + 1, listed, E, A => (Region.ready .any ops listed = [] → Q E A) ∧ ∀ i ∈ Region.ready .any ops listed, qOpR P own ops es i (wpAnyR P own ops es Q fuel (listed.setIfInBounds i true)) E A

theorem sep_two {i j : Nat} {listed : Array Bool} (hs : sepB ops es = true) (hd : DC ops listed) (hi : i ∈ Region.ready .any ops listed) (hj : j ∈ Region.ready .any ops listed) (he : es.contains j = true) : i = j := by
  obtain ⟨hiu, oi, hoi, hia⟩ := mem_ready.1 hi
  obtain ⟨hju, oj, hoj, hja⟩ := mem_ready.1 hj
  have hil : i < ops.size := (Array.getElem?_eq_some_iff.1 hoi).1
  have hjl : j < ops.size := (Array.getElem?_eq_some_iff.1 hoj).1
  have un : ∀ k, listed.getD k true = false → listed.getD k false = false := fun k hk => by
    rcases Nat.lt_or_ge k listed.size with hl | hl
    · simpa [hl] using hk
    · simp [Array.getD, Nat.not_lt.2 hl] at hk
  have h1 := List.all_eq_true.1 hs j (List.mem_range.2 hjl)
  rw [he] at h1
  simp only [Bool.not_true, Bool.false_or] at h1
  have h2 := List.all_eq_true.1 h1 i (List.mem_range.2 hil)
  simp only [Bool.or_eq_true, beq_iff_eq] at h2
  rcases h2 with h2 | h2
  · exact h2
  · exfalso
    split at h2
    · have := reach_listed hd _ _ _ h2 fun o ho => by rw [hoj] at ho; cases ho; exact hja
      rw [un i hiu] at this; cases this
    · have := reach_listed hd _ _ _ h2 fun o ho => by rw [hoi] at ho; cases ho; exact hia
      rw [un j hju] at this; cases this

theorem wpAnyR_first (hs : sepB ops es = true) {Q : (Nat → AV) → List Box → Prop} {i : Nat} {oi : Oper} {v : AV} {A : List Box} (hi : ops[i]? = some oi) (hie : es.contains i = false) :
    ∀ (fuel : Nat) (listed : Array Bool) (E : Nat → AV), DC ops listed →
      (∀ j oj, ops[j]? = some oj → j ≠ i → listed.getD j true = false → (∀ e ∈ oj.after, Region.binds .any e = true → e.on ≠ i) → oi.apart ops oj = true) →
      i ∈ Region.ready .any ops listed → YieldsF P own ops A oi v E →
      wpAnyR P own ops es Q fuel (listed.setIfInBounds i true) (putF oi.dst v E) A → wpAnyR P own ops es Q (fuel + 1) listed E A := by
  intro fuel
  have no : ∀ {listed : Array Bool} {j : Nat}, DC ops listed → i ∈ Region.ready .any ops listed → j ∈ Region.ready .any ops listed → es.contains j = false := fun {listed j} hd hr hj => by
    cases hq : es.contains j with
    | false => rfl
    | true =>
      have := sep_two hs hd hr hj hq
      subst this
      rw [hie] at hq; cases hq
  induction fuel with
  | zero =>
    intro listed E hd _ hr hy H
    refine ⟨fun h => (by rw [h] at hr; cases hr), fun j hj => ?_⟩
    by_cases hji : j = i
    · subst hji
      unfold qOpR
      rw [if_neg (by rw [hie]; simp)]
      exact hy.qOp hi H
    · have := ready_mono hj hji
      rw [H.1] at this
      cases this
  | succ fuel ih =>
    intro listed E hd hfree hr hy H
    refine ⟨fun h => (by rw [h] at hr; cases hr), fun j hj => ?_⟩
    by_cases hji : j = i
    · subst hji
      unfold qOpR
      rw [if_neg (by rw [hie]; simp)]
      exact hy.qOp hi H
    · have hje := no hd hr hj
      have h1 := H.2 j (ready_mono hj hji)
      unfold qOpR at h1 ⊢
      rw [if_neg (by rw [hje]; simp)] at h1 ⊢
      obtain ⟨hjun, oj, hoj, hall⟩ := mem_ready.1 hj
      have hnot : ∀ e ∈ oj.after, Region.binds .any e = true → e.on ≠ i := fun e he hb heq => by
        have h1 := hall e he hb
        have h0 := (mem_ready.1 hr).1
        rw [heq] at h1
        rcases Nat.lt_or_ge i listed.size with h' | h'
        · simp [h'] at h0 h1; rw [h0] at h1; cases h1
        · simp [Array.getElem?_eq_none h'] at h1
      have h2 := qOpA_put hoj (hfree j oj hoj hji hjun hnot) hy h1
      have hfree' : ∀ k ok, ops[k]? = some ok → k ≠ i → (listed.setIfInBounds j true).getD k true = false →
          (∀ e ∈ ok.after, Region.binds .any e = true → e.on ≠ i) → oi.apart ops ok = true := fun k ok hk hki hun hno => by
        refine hfree k ok hk hki ?_ hno
        by_cases hjk : j = k
        · subst hjk; exact hjun
        · rw [getD_set_ne true hjk] at hun; exact hun
      refine qOpA_mono (fun E' h3 => ih (listed.setIfInBounds j true) E' (dc_set hd hj) hfree' (ready_mono hr (Ne.symm hji)) h3.1 ?_) h2
      rw [Array.setIfInBounds_comm _ _ hji]
      exact h3.2

def wpRF (P : Program) (own : FuncId → Bool) (ops : Array Oper) (es : List Nat) (Q : (Nat → AV) → List Box → Prop) : Nat → List Oper → (Nat → AV) → List Box → Prop
  | _, [], E, A => Q E A
  | k, o :: rest, E, A => match wantF ops o E with
    | none => False
    | some true => (es.contains k = true → OpK P own o (o.op.operands.toList.map (evF E)) A (fun v A' => wpRF P own ops es Q (k + 1) rest (putF o.dst v E) A')) ∧ (es.contains k = false → ∃ v, OpY P own A o E v ∧ wpRF P own ops es Q (k + 1) rest (putF o.dst v E) A)
    | some false => wpRF P own ops es Q (k + 1) rest (putF o.dst (.tuple []) E) A

theorem wpAnyR_lex (hs : sepB ops es = true) {Q : (Nat → AV) → List Box → Prop} : ∀ (l : List Oper) (k : Nat) (listed : Array Bool) (E : Nat → AV) (A : List Box), (∀ j, l[j]? = ops[k + j]?) → DC ops listed →
    Region.lexFrom .any ops l.length k listed = true → wpRF P own ops es Q k l E A → wpAnyR P own ops es Q l.length listed E A
  | [], _, _, _, _, _, _, hB, h => ⟨by simpa [Region.lexFrom] using hB, h⟩
  | o :: l, k, listed, E, A, hl, hd, hB, h => by
    have h0 : ops[k]? = some o := by simpa using (hl 0).symm
    have hl' : ∀ j, l[j]? = ops[k + 1 + j]? := fun j => by have := hl (j + 1); simpa [Nat.add_assoc, Nat.add_comm 1 j] using this
    simp only [List.length_cons, Region.lexFrom, Bool.and_eq_true] at hB
    obtain ⟨⟨hr, hf⟩, hB'⟩ := hB
    have hrm : k ∈ Region.ready .any ops listed := by simpa using hr
    have hd' := dc_set hd hrm
    cases hk : es.contains k with
    | true =>
      refine ⟨fun hh => (by rw [hh] at hrm; cases hrm), fun j hj => ?_⟩
      have hjk := sep_two hs hd hj hrm hk
      subst hjk
      unfold qOpR
      rw [if_pos hk]
      simp only [h0]
      simp only [wpRF] at h
      cases hw : wantF ops o E with
      | none => simp only [hw] at h
      | some b =>
        simp only [hw] at h
        cases b with
        | true => exact OpK_mono (h.1 hk) fun v A' h' => wpAnyR_lex hs l (j + 1) _ _ _ hl' hd' hB' h'
        | false => exact wpAnyR_lex hs l (j + 1) _ _ _ hl' hd' hB' h
    | false =>
      have hst : qOpA P own ops A k (fun E => wpRF P own ops es Q (k + 1) l E A) E := by
        unfold qOpA
        simp only [h0]
        simp only [wpRF] at h
        cases hw : wantF ops o E with
        | none => simp only [hw] at h
        | some b =>
          simp only [hw] at h ⊢
          cases b with
          | true => exact h.2 hk
          | false => exact h
      obtain ⟨v, hy, hK⟩ := yieldsF_of_qOp h0 hst
      exact wpAnyR_first hs h0 hk l.length listed E hd (Region.free_spec h0 hf) hrm hy (wpAnyR_lex hs l (k + 1) _ _ _ hl' hd' hB' hK)

theorem FRel.put2 {N base : Nat} {G G' : Ghost} {E : Nat → AV} {A A' : List Box} {a : Act} {w w' : World} {d : Option Nat} {v : AV} {x : Value} (h : FRel N base G E A a w) (hd : ∀ t, d = some t → t < N) (he : Ext G w G' w') (hx : RV G' w' v x) (hh : HRel G' A' w' base) :
    FRel N base G' (putF d v E) A' (a.put d x) w' := by
  cases d with
  | none => exact ⟨h.defers, h.size, fun t => (h.env t).mono he, hh⟩
  | some d =>
    refine ⟨h.defers, by simp only [Act.put, Array.size_setIfInBounds]; exact h.size, fun t => ?_, hh⟩
    simp only [putF, Act.put]
    by_cases ht : t = d
    · subst ht
      have : t < a.tmps.size := by rw [h.size]; exact hd t rfl
      have e2 : (a.tmps.setIfInBounds t x).getD t undef = x := by simp [Array.getD, this]
      rw [if_pos rfl, e2]; exact hx
    · have e2 : (a.tmps.setIfInBounds d x).getD t undef = a.tmps.getD t undef := by
        rw [Array.getD_eq_getD_getElem?, Array.getD_eq_getD_getElem?, Array.getElem?_setIfInBounds_ne (Ne.symm ht)]
      rw [if_neg ht, e2]; exact (h.env t).mono he

theorem wpAny_of_R {N base : Nat} {Q : (Nat → AV) → List Box → Prop} {Q' : Exit → Act → World → Prop} {G0 : Ghost} {w0 : World} (hN : dstOk N ops = true)
    (hQ : ∀ E A a w G, Q E A → FRel N base G E A a w → Ext G0 w0 G w → Below base w0 w → Q' .normal a w) :
    ∀ (fuel : Nat) (listed : Array Bool) {E : Nat → AV} {A : List Box} {a : Act} {w : World} {G : Ghost}, FRel N base G E A a w → Ext G0 w0 G w → Below base w0 w →
      wpAnyR P own ops es Q fuel listed E A → wpAny P .any ops Q' fuel listed a w
  | 0, _, E, A, a, w, G, hr, he, hb, h => ⟨h.1, hQ E A a w G h.2 hr he hb⟩
  | fuel + 1, listed, E, A, a, w, G, hr, he, hb, h => ⟨fun h0 => hQ E A a w G (h.1 h0) hr he hb, fun i hi => by
      have hq := h.2 i hi
      unfold qOpR at hq
      unfold wpOp
      cases hes : es.contains i with
      | true =>
        rw [if_pos hes] at hq
        cases ho : ops[i]? with
        | none => simp only [ho] at hq
        | some o =>
          simp only [ho] at hq ⊢
          cases hw : wantF ops o E with
          | none => simp only [hw] at hq
          | some b =>
            simp only [hw] at hq
            rw [wantF_ok hr.env hw]
            cases b with
            | true =>
              rw [if_pos rfl]
              refine .inl (OpK_ok hq (evF_list hr.env _) hr.heap fun v' A' x w' G' hk hx hh hext hbel => ?_)
              exact wpAny_of_R hN hQ fuel _ (hr.put2 (dstOk_spec hN ho) hext hx hh) (he.trans hext) (hb.trans hbel) hk
            | false =>
              rw [if_neg (by simp)]
              exact wpAny_of_R hN hQ fuel _ (hr.put (dstOk_spec hN ho) (Ext.refl _ _) rv_skip hr.heap) he hb hq
      | false =>
        rw [if_neg (by rw [hes]; simp)] at hq
        unfold qOpA at hq
        cases ho : ops[i]? with
        | none => simp only [ho] at hq ⊢; exact wpAny_of_R hN hQ fuel _ hr he hb hq
        | some o =>
          simp only [ho] at hq ⊢
          cases hw : wantF ops o E with
          | none => simp only [hw] at hq
          | some b =>
            simp only [hw] at hq
            rw [wantF_ok hr.env hw]
            cases b with
            | true =>
              obtain ⟨v, hv, hK⟩ := hq
              rw [if_pos rfl]
              refine .inl (OpK_ok hv (evF_list hr.env _) hr.heap fun v' A' x w' G' hk hx hh hext hbel => ?_)
              obtain ⟨e1, e2⟩ := hk
              rw [e1] at hx
              rw [e2] at hh
              exact wpAny_of_R hN hQ fuel _ (hr.put (dstOk_spec hN ho) hext hx hh) (he.trans hext) (hb.trans hbel) hK
            | false =>
              rw [if_neg (by simp)]
              exact wpAny_of_R hN hQ fuel _ (hr.put (dstOk_spec hN ho) (Ext.refl _ _) rv_skip hr.heap) he hb hq⟩

/-! ### over lists -/
/-- pieces of an open region: some operations that change nothing, then one that may -/
def wpS (P : Program) (own : FuncId → Bool) (N : Nat) (ops : Array Oper) (Q : Env → List Box → Prop) : List Nat → List Oper → Env → List Box → Prop
  | [], l, e, A => wpD P own N ops A (fun e => Q e A) l e
  | n :: ns, l, e, A => wpD P own N ops A (fun e => wpO P own N ops (fun e A => wpS P own N ops Q ns (l.drop (n + 1)) e A) ((l.drop n).take 1) e A) (l.take n) e
def segIdx : Nat → List Nat → List Nat
  | _, [] => []
  | k, n :: ns => (k + n) :: segIdx (k + n + 1) ns
theorem segIdx_ge : ∀ (ns : List Nat) (k j : Nat), j ∈ segIdx k ns → k ≤ j
  | [], k, j, h => by simp [segIdx] at h
  | n :: ns, k, j, h => by
    simp only [segIdx, List.mem_cons] at h
    rcases h with rfl | h
    · omega
    · have := segIdx_ge ns _ j h; omega

theorem wpRF_pure {Q : (Nat → AV) → List Box → Prop} {A : List Box} {rest : List Oper} : ∀ (l : List Oper) (k : Nat) (E : Nat → AV) (Q' : (Nat → AV) → Prop), (∀ j, k ≤ j → j < k + l.length → es.contains j = false) → wpDF P own ops A Q' l E →
    (∀ E, Q' E → wpRF P own ops es Q (k + l.length) rest E A) → wpRF P own ops es Q k (l ++ rest) E A
  | [], k, E, Q', _, h, hq => by simpa using hq E h
  | o :: l, k, E, Q', hn, h, hq => by
    simp only [wpDF] at h
    simp only [List.cons_append, wpRF]
    have hk := hn k (Nat.le_refl _) (by simp)
    have rec' := fun E h => wpRF_pure l (k + 1) E Q' (fun j h1 h2 => hn j (by omega) (by simp at h2 ⊢; omega)) h (fun E hE => by
      have := hq E hE
      rwa [List.length_cons, show k + (l.length + 1) = k + 1 + l.length by omega] at this)
    cases hw : wantF ops o E with
    | none => simp only [hw] at h
    | some b =>
      simp only [hw] at h ⊢
      cases b with
      | true =>
        obtain ⟨v, h1, h2⟩ := h
        exact ⟨fun hh => (by rw [hk] at hh; cases hh), fun _ => ⟨v, h1, rec' _ h2⟩⟩
      | false => exact rec' _ h

theorem wpD_F2 {N : Nat} {A : List Box} {Q : Env → Prop} (hN : dstOk N ops = true) : ∀ (l : List Oper) (k : Nat) (e : Env), (∀ j o, l[j]? = some o → ops[k + j]? = some o) → wpD P own N ops A Q l e → wpDF P own ops A (fun E => ∃ e, Q e ∧ E = fun t => look t e) l (fun t => look t e)
  | [], k, e, hl, h => ⟨e, h, rfl⟩
  | o :: rest, k, e, hl, h => by
    have h0 : ops[k]? = some o := by simpa using hl 0 o rfl
    have hl' : ∀ j o, rest[j]? = some o → ops[k + 1 + j]? = some o := fun j o ho => by have := hl (j + 1) o (by simpa using ho); simpa [Nat.add_assoc, Nat.add_comm 1 j] using this
    have hev : evF (fun t => look t e) = evA e := by funext x; cases x <;> rfl
    have hwt : wantF ops o (fun t => look t e) = wantA ops o e := rfl
    simp only [wpD] at h
    simp only [wpDF, hwt]
    have hput : ∀ v, putF o.dst v (fun t => look t e) = fun t => look t (putA N o.dst v e) := fun v => by
      funext t; exact (look_putA (dstOk_spec hN h0)).symm
    split at h
    · exact h.elim
    · rename_i b hb
      rw [hb]
      cases b with
      | true =>
        obtain ⟨v, h1, h2⟩ := h.1 rfl
        refine ⟨v, ?_, ?_⟩
        · unfold OpY; rw [hev]; exact h1
        · rw [hput]; exact wpD_F2 hN rest (k + 1) _ hl' h2
      | false =>
        show wpDF P own ops A _ rest (putF o.dst (.tuple []) _)
        rw [hput]; exact wpD_F2 hN rest (k + 1) _ hl' (h.2 rfl)

theorem wpS_F {N : Nat} {Q : Env → List Box → Prop} (hN : dstOk N ops = true) : ∀ (ns : List Nat) (l : List Oper) (k : Nat) (e : Env) (A : List Box), (∀ j o, l[j]? = some o → ops[k + j]? = some o) → (∀ j, k ≤ j → (es.contains j = true ↔ j ∈ segIdx k ns)) → (∀ j ∈ segIdx k ns, j < k + l.length) →
    wpS P own N ops Q ns l e A → wpRF P own ops es (fun E A => ∃ e, Q e A ∧ E = fun t => look t e) k l (fun t => look t e) A
  | [], l, k, e, A, hl, hes, _, h => by
    have h1 := wpD_F2 hN l k e hl h
    have := wpRF_pure (es := es) (Q := fun E A => ∃ e, Q e A ∧ E = fun t => look t e) (rest := []) l k _ _ (fun j h1 h2 => by
      cases hq : es.contains j with
      | false => rfl
      | true => have := (hes j h1).1 hq; simp [segIdx] at this) h1 (fun E hE => hE)
    simpa using this
  | n :: ns, l, k, e, A, hl, hes, hlt, h => by
    have hn : n < l.length := by have := hlt (k + n) (by simp [segIdx]); omega
    have hsplit : l = l.take n ++ (l[n] :: l.drop (n + 1)) := by rw [List.getElem_cons_drop, List.take_append_drop]
    have htk : (l.take n).length = n := by simp; omega
    have hone : (l.drop n).take 1 = [l[n]] := by rw [List.drop_eq_getElem_cons hn]; rfl
    have h1 : wpD P own N ops A (fun e => wpO P own N ops (fun e A => wpS P own N ops Q ns (l.drop (n + 1)) e A) ((l.drop n).take 1) e A) (l.take n) e := h
    rw [hone] at h1
    have h2 := wpD_F2 hN (l.take n) k e (fun j o ho => by
      rw [List.getElem?_take] at ho
      split at ho
      · exact hl j o ho
      · cases ho) h1
    rw [hsplit]
    refine wpRF_pure (l.take n) k _ _ (fun j h3 h4 => ?_) h2 ?_
    · rw [htk] at h4
      cases hq : es.contains j with
      | false => rfl
      | true =>
        have := (hes j h3).1 hq
        simp only [segIdx, List.mem_cons] at this
        rcases this with rfl | h5
        · omega
        · have := segIdx_ge _ _ _ h5; omega
    · rintro E ⟨e', h3, rfl⟩
      rw [htk]
      have hkn : es.contains (k + n) = true := (hes (k + n) (by omega)).2 (by simp [segIdx])
      have h0 : ops[k + n]? = some l[n] := hl n _ (by simp [hn])
      have hev : evF (fun t => look t e') = evA e' := by funext x; cases x <;> rfl
      have hwt : wantF ops l[n] (fun t => look t e') = wantA ops l[n] e' := rfl
      have hput : ∀ v, putF l[n].dst v (fun t => look t e') = fun t => look t (putA N l[n].dst v e') := fun v => by
        funext t; exact (look_putA (dstOk_spec hN h0)).symm
      have rec' := fun e A h => wpS_F (Q := Q) hN ns (l.drop (n + 1)) (k + n + 1) e A (fun j o ho => by
          rw [List.getElem?_drop] at ho
          have := hl _ o ho
          rwa [show k + n + 1 + j = k + (n + 1 + j) by omega]) (fun j hj => by
          rw [hes j (by omega)]
          simp only [segIdx, List.mem_cons]
          constructor
          · rintro (rfl | h)
            · omega
            · exact h
          · exact .inr) (fun j hj => by
          have := hlt j (by simp only [segIdx, List.mem_cons]; exact .inr hj)
          simp; omega) h
      simp only [wpO] at h3
      simp only [wpRF, hwt]
      split at h3
      · exact h3.elim
      · rename_i b hb
        rw [hb]
        cases b with
        | true =>
          refine ⟨fun _ => ?_, fun hh => (by rw [hkn] at hh; cases hh)⟩
          rw [hev]
          refine OpK_mono (h3.1 rfl) fun v A' h4 => ?_
          rw [hput]
          exact rec' _ _ h4
        | false =>
          show wpRF P own ops es _ (k + n + 1) _ (putF l[n].dst (.tuple []) _) A
          rw [hput]
          exact rec' _ _ (h3.2 rfl)

theorem wpS_ok {N base id : Nat} {Q : Env → List Box → Prop} {Q' : Exit → Act → World → Prop} {G0 : Ghost} {w0 : World} {e : Env} {A : List Box} {a : Act} {w : World} {G : Ghost} (ns : List Nat) (hm : P.follows .mixedOrders = true) (hN : dstOk N ops = true) (hB : Region.lexB .any ops = true)
    (hS : sepB ops (segIdx 0 ns) = true) (hlt : ∀ j ∈ segIdx 0 ns, j < ops.size)
    (hQ : ∀ e A a w G, Q e A → ARel N base G e A a w → Ext G0 w0 G w → Below base w0 w → Q' .normal a w) (h : wpS P own N ops Q ns ops.toList e A) (hr : ARel N base G e A a w) (he : Ext G0 w0 G w) (hb : Below base w0 w) :
    (Code.region id ops true).wp P Q' a w := by
  simp only [Region.lexB, Bool.and_eq_true] at hB
  have h1 := wpS_F (es := segIdx 0 ns) hN ns ops.toList 0 e A (fun j o ho => by simpa using ho) (fun j _ => by simp) (fun j hj => by have := hlt j hj; simpa using this) h
  have hget : ∀ k, (Array.replicate ops.size false).getD k false = false := fun k => by
    rcases Nat.lt_or_ge k ops.size with hk | hk <;> simp [Array.getD, hk]
  have hd0 : DC ops (Array.replicate ops.size false) := fun k o _ hl => by rw [hget] at hl; cases hl
  have h2 := wpAnyR_lex hS ops.toList 0 (Array.replicate ops.size false) (fun t => look t e) A (by simp) hd0 (by simpa using hB.2) h1
  obtain ⟨k1, k2⟩ := hr.heap.heap (w' := { w with drawn := w.drawn + 1 }) rfl
  have hbd : Below base w { w with drawn := w.drawn + 1 } := (Below.refl base w).drew
  refine wp_region_any hm ?_
  have h3 := wpAny_of_R (N := N) (base := base) (Q' := Q') (G0 := G0) (w0 := w0) hN (fun E A a w G hq hr he hb => ?_) ops.toList.length (Array.replicate ops.size false) (a := a) (w := { w with drawn := w.drawn + 1 }) (G := G)
    ⟨hr.defers, hr.size, fun t => (hr.env t).mono k2, k1⟩ (he.trans k2) (hb.trans hbd) h2
  · simpa using h3
  · obtain ⟨e', hq, rfl⟩ := hq
    exact hQ e' A a w G hq ⟨hr.defers, hr.size, hr.env, hr.heap⟩ he hb
end
end Go.Abs
