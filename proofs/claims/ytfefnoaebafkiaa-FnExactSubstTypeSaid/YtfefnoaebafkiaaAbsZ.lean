/- A call that reads what is owned, and gives it back. -/
import Derived.Test.YtfefnoaebafkiaaAbsM
set_option linter.unusedVariables false
set_option linter.unusedSimpArgs false
namespace Go.Abs
open Go.RowKit

/-- a value, as it is read while nothing is written -/
inductive View (A : List Box) : AV → AV → Prop
  | leaf (v : AV) (h : isLeaf v = true) : View A v v
  | nils : View A .nils (.slice [])
  | row (i sz s : Nat) (rows rows' : List (List AV)) (h : A.getD i .dead = .row sz rows s) (hl : rows'.length = rows.length) (hr : ∀ r ∈ rows', r.length = sz ∧ ∀ v ∈ r, isLeaf v = true)
      (hv : ∀ k j, k < rows.length → j < sz → View A (rowAt rows k j) (rowAt rows' k j)) : View A (.own i) (.slice rows')
  | gr (i sz : Nat) (te : Option TypeId) (rows rows' : List (List AV)) (h : A.getD i .dead = .gr te sz rows) (hl : rows'.length = rows.length) (hr : ∀ r ∈ rows', r.length = sz ∧ ∀ v ∈ r, isLeaf v = true)
      (hv : ∀ k j, k < rows.length → j < sz → View A (rowAt rows k j) (rowAt rows' k j)) : View A (.own i) (.slice rows')
  | agg (cs cs' : List AV) (hl : cs'.length = cs.length) (hv : ∀ i, i < cs.length → View A (cs.getD i .bot) (cs'.getD i .bot)) : View A (.agg cs) (.agg cs')

/-- all that is there is not written -/
def cov (G : Ghost) (w : World) : Ghost := { G with I := fun b _ => b < w.heap.size }

theorem cov_ext {G : Ghost} {A : List Box} {w : World} {base : Nat} (h : HRel G A w base) : Ext G w (cov G w) w :=
  ⟨Nat.le_refl _, fun b o x => h.imm b o x, fun _ _ _ => rfl, fun _ _ => ⟨rfl, rfl, rfl, rfl, rfl⟩, fun _ _ _ f => f⟩

theorem RowOk.view {E : AV → Bool} {G : Ghost} {w : World} {i sz s : Nat} {rows rows' : List (List AV)} (hb : RowOk E G w i sz rows s) (hlt : G.blk i < w.heap.size) (hl : rows'.length = rows.length) (hr : ∀ r ∈ rows', r.length = sz ∧ ∀ v ∈ r, isLeaf v = true)
    (hv : ∀ k j x, k < rows.length → j < sz → RV G w (rowAt rows k j) x → RV (cov G w) w (rowAt rows' k j) x) : RV (cov G w) w (.slice rows') (.slice (some ⟨G.blk i, G.off i, none⟩) (G.len i) (G.cap i)) := by
  obtain ⟨c, el, q1, q3, q4, q5, q6, q7, q8, q9, q10, q11⟩ := hb
  rw [q4, ← hl]
  refine .slice rows' (G.blk i) (G.off i) (G.cap i) sz (fun k j => c.getD (G.off i + (k * sz + j)) undef) hr (by omega) (fun k j hk hj => ?_) (fun _ _ _ _ => hlt) (fun _ _ => ⟨c, el, q1⟩) fun k j hk hj => hv k j _ (by omega) hj (q10 k j (by omega) hj)
  exact cell?_of q1 (by have := row_in (rows := rows) (by omega : k < rows.length) hj q5; omega)

theorem RV.view {G : Ghost} {A : List Box} {w : World} {base : Nat} (h : HRel G A w base) {v v' : AV} (hv : View A v v') : ∀ {x : Value}, RV G w v x → RV (cov G w) w v' x := by
  induction hv with
  | leaf v hl => intro x hx; exact hx.mono (cov_ext h)
  | nils => intro x hx; cases hx; exact .slice0
  | row i sz s rows rows' hb hl hr hv ih =>
    intro x hx
    cases hx with
    | own _ hi =>
      have hil : i < A.length := by rw [← h.n]; exact hi
      have hbx := h.box i hil
      have hbd := h.bnd i hil (by rw [hb]; rfl)
      rw [hb] at hbx
      exact RowOk.view hbx hbd.2 hl hr fun k j x hk hj hx => ih k j hk hj hx
  | gr i sz te rows rows' hb hl hr hv ih =>
    intro x hx
    cases hx with
    | own _ hi =>
      have hil : i < A.length := by rw [← h.n]; exact hi
      have hbx := h.box i hil
      have hbd := h.bnd i hil (by rw [hb]; rfl)
      rw [hb] at hbx
      exact RowOk.view hbx.1 hbd.2 hl hr fun k j x hk hj hx => ih k j hk hj hx
  | agg cs cs' hl hv ih =>
    intro x hx
    cases hx with
    | agg _ xs hs hc hh => exact .agg cs' xs (by omega) hc fun i hi => ih i (by omega) (hh i (by omega))

mutual
/-- says nothing of memory that is never written -/
def ifree : AV → Bool
  | .slice [] => true
  | .slice _ | .aslice _ | .islice .. | .ivptr .. | .vptr _ => false
  | .agg cs => ifrees cs
  | .tuple cs => ifrees cs
  | .iface _ v => ifree v
  | .func _ first captured => ifrees first && ifrees captured
  | .bot | .int .. | .bool _ | .str _ | .own _ | .nils | .ptr .. | .eptr .. | .nilp | .nilf | .nili | .map _ | .nilm => true
def ifrees : List AV → Bool
  | [] => true
  | v :: l => ifree v && ifrees l
end
theorem ifrees_getD : ∀ {l : List AV} {i : Nat}, ifrees l = true → i < l.length → ifree (l.getD i .bot) = true
  | v :: l, 0, h, _ => by simp only [ifrees, Bool.and_eq_true] at h; exact h.1
  | v :: l, i + 1, h, hi => by
    simp only [ifrees, Bool.and_eq_true] at h
    have := ifrees_getD (i := i) h.2 (by simpa using hi)
    simpa using this

theorem RV.ifree {G : Ghost} {w : World} (I : Nat → Nat → Prop) {v : AV} {x : Value} (h : RV G w v x) : Abs.ifree v = true → RV { G with I := I } w v x := by
  induction h with
  | bot x => intro _; exact .bot x
  | int k n => intro _; exact .int k n
  | bool b => intro _; exact .bool b
  | str s => intro _; exact .str s
  | agg cs xs hs hc h ih => intro hf; exact .agg cs xs hs hc fun i hi => ih i hi (ifrees_getD (by simpa [Abs.ifree] using hf) hi)
  | tuple cs xs hs h ih => intro hf; exact .tuple cs xs hs fun i hi => ih i hi (ifrees_getD (by simpa [Abs.ifree] using hf) hi)
  | slice0 => intro _; exact .slice0
  | sliceE a cap => intro _; exact .sliceE a cap
  | slice rows b off cap sz X hr hcap hx hI hz h ih =>
    intro hf
    cases rows with
    | nil => exact .sliceE _ _
    | cons r rows => simp [Abs.ifree] at hf
  | aslice0 => intro hf; simp [Abs.ifree] at hf
  | asliceE a cap => intro hf; simp [Abs.ifree] at hf
  | aslice => intro hf; simp [Abs.ifree] at hf
  | islice => intro hf; simp [Abs.ifree] at hf
  | ivptr => intro hf; simp [Abs.ifree] at hf
  | own i hi => intro _; exact .own (G := { G with I := I }) i hi
  | nils => intro _; exact .nils
  | ptr i o hi => intro _; exact .ptr (G := { G with I := I }) i o hi
  | eptr i k j hi => intro _; exact .eptr (G := { G with I := I }) i k j hi
  | vptr => intro hf; simp [Abs.ifree] at hf
  | nilp => intro _; exact .nilp
  | func fn first captured xs ys hs ht h h' ih ih' =>
    intro hf
    simp only [Abs.ifree, Bool.and_eq_true] at hf
    exact .func fn first captured xs ys hs ht (fun i hi => ih i hi (ifrees_getD hf.1 hi)) (fun i hi => ih' i hi (ifrees_getD hf.2 hi))
  | nilf => intro _; exact .nilf
  | iface t v x hv h ih => intro hf; exact .iface t v x hv (ih (by simpa [Abs.ifree] using hf))
  | nili => intro _; exact .nili
  | map i hi => intro _; exact .map (G := { G with I := I }) i hi
  | nilm => intro _; exact .nilm

def ifreeB : Box → Bool
  | .dead => true
  | .cells cs => ifrees cs
  | .tc _ cs => ifrees cs
  | .row _ rows s => s == 0 && rows.all ifrees
  | .gr _ _ rows => rows.all ifrees
  | .mapb es => es.all fun e => ifree e.1 && ifree e.2

theorem RowOk.ifree {E : AV → Bool} {G : Ghost} {w : World} {i sz : Nat} {rows : List (List AV)} {I : Nat → Nat → Prop} (h : RowOk E G w i sz rows 0) (hf : rows.all ifrees = true) (hI : ∀ o, I (G.blk i) o → G.I (G.blk i) o) : RowOk E { G with I := I } w i sz rows 0 := by
  obtain ⟨c, el, q1, q3, q4, q5, q6, q7, q8, q9, q10, q11⟩ := h
  refine ⟨c, el, q1, q3, q4, q5, q6, q7, q8, q9, fun k j hk hj => (q10 k j hk hj).ifree I ?_, fun o ho hh => q11 o ho (hI o hh)⟩
  have hm := getD_mem (d := []) hk
  exact ifrees_getD (List.all_eq_true.1 hf _ hm) (by rw [(q9 _ hm).1]; exact hj)

theorem BoxOk.ifree {G : Ghost} {w : World} {i : Nat} {b : Box} {I : Nat → Nat → Prop} (h : BoxOk G w i b) (hf : ifreeB b = true) (hI : b.live = true → ∀ o, I (G.blk i) o → G.I (G.blk i) o) : BoxOk { G with I := I } w i b := by
  cases b with
  | dead => trivial
  | cells cs =>
    obtain ⟨c, e, q1, q3, q4, q5, q6⟩ := h
    exact ⟨c, e, q1, q3, q4, fun j hj => (q5 j hj).ifree I (ifrees_getD hf hj), fun o ho => q6 o (hI rfl o ho)⟩
  | tc T cs =>
    obtain ⟨c, q1, q3, q4, q5, q6⟩ := h
    exact ⟨c, q1, q3, q4, fun j hj => (q5 j hj).ifree I (ifrees_getD hf hj), fun o ho => q6 o (hI rfl o ho)⟩
  | row sz rows s =>
    simp only [ifreeB, Bool.and_eq_true, beq_iff_eq] at hf
    obtain ⟨rfl, hf⟩ := hf
    exact RowOk.ifree h hf (hI rfl)
  | gr te sz rows => exact ⟨RowOk.ifree h.1 hf (hI rfl), h.2⟩
  | mapb es =>
    obtain ⟨m, cl, q1, q3, q4, q5⟩ := h
    simp only [ifreeB, List.all_eq_true, Bool.and_eq_true] at hf
    exact ⟨m, cl, q1, q3, fun j hj => ⟨(q4 j hj).1.ifree I (hf _ (getD_mem hj)).1, (q4 j hj).2.ifree I (hf _ (getD_mem hj)).2⟩, fun o ho => q5 o (hI rfl o ho)⟩

def deads (A : List Box) : List Box := A.map fun _ => .dead
theorem deads_length (A : List Box) : (deads A).length = A.length := by simp [deads]
theorem deads_getD (A : List Box) (i : Nat) : (deads A).getD i .dead = .dead := by
  simp only [deads, List.getD, List.getElem?_map]
  cases A[i]? <;> rfl
theorem getD_append_right {α : Type} {l l' : List α} {i : Nat} {d : α} (h : l.length ≤ i) : (l ++ l').getD i d = l'.getD (i - l.length) d := by
  simp [List.getD, List.getElem?_append_right h]

theorem cov_rel {G : Ghost} {A : List Box} {w : World} {base : Nat} (h : HRel G A w base) : HRel (cov G w) (deads A) w w.heap.size where
  n := by rw [deads_length]; exact h.n
  box := fun i hi => by rw [deads_getD]; trivial
  sep := fun i j hi hj hne li lj => by rw [deads_getD] at li; cases li
  bnd := fun i hi li => by rw [deads_getD] at li; cases li
  imm := fun b o x => x
  low := Nat.le_refl _

def Views (A : List Box) (vs vs' : List AV) : Prop := vs'.length = vs.length ∧ ∀ i, i < vs.length → View A (vs.getD i .bot) (vs'.getD i .bot)
theorem Views.nil {A : List Box} : Views A [] [] := ⟨rfl, fun i hi => by simp at hi⟩
theorem Views.cons {A : List Box} {v v' : AV} {vs vs' : List AV} (h : View A v v') (k : Views A vs vs') : Views A (v :: vs) (v' :: vs') := by
  refine ⟨by simp [k.1], fun i hi => ?_⟩
  cases i with
  | zero => exact h
  | succ i => simpa using k.2 i (by simpa using hi)

/-- reading what is owned: it is as it was behind the call -/
theorem ACalls.borrow {P : Program} {f : FuncId} {args args' : List AV} {A : List Box} {K : AV → List Box → Prop} (hv : Views A args args')
    (hc : ACalls P f args' (deads A) (fun v A' => ∃ B, A' = deads A ++ B ∧ ifree v = true ∧ (∀ b ∈ B, ifreeB b = true) ∧ K v (A ++ B))) : ACalls P f args A K := by
  intro G w base xs h hx
  have hx' : RL (cov G w) w args' xs.toList := ⟨by rw [hv.1]; exact hx.1, fun i hi => (hx.2 i (by rw [← hv.1]; exact hi)).view h (hv.2 i (by rw [← hv.1]; exact hi)) |> fun r => r⟩
  refine (hc (cov G w) w w.heap.size xs (cov_rel h) hx').mono fun e w' ⟨x, v, A', G', e1, ⟨B, e2, e3, e4, e5⟩, e6, e7, e8, e9⟩ => ?_
  subst e2
  have hbel : ∀ b, b < w.heap.size → w'.heap[b]? = w.heap[b]? := fun b hb => e9.block b hb
  have hids : ∀ i, i < G.n → G'.blk i = G.blk i ∧ G'.off i = G.off i ∧ G'.len i = G.len i ∧ G'.cap i = G.cap i ∧ G'.sz i = G.sz i := fun i hi => e8.ids i hi
  let I2 : Nat → Nat → Prop := fun b o => G.I b o ∨ (w.heap.size ≤ b ∧ G'.I b o)
  have hsize : w.heap.size ≤ w'.heap.size := e9.size
  have eE : Ext G w { G' with I := I2 } w' := ⟨e8.n, fun b o x => .inl x, fun b o x => cell?_congr (hbel b (h.imm b o x)) o, hids, fun b o x f => by unfold fzOk; rw [hbel b (h.imm b o x)]; exact f⟩
  have hn := h.n
  have hAB : (A ++ B).length = (deads A ++ B).length := by simp [deads_length]
  have hgl : ∀ i, i < A.length → (A ++ B).getD i .dead = A.getD i .dead := fun i hi => getD_append_left hi
  have hgr : ∀ i, A.length ≤ i → (A ++ B).getD i .dead = (deads A ++ B).getD i .dead := fun i hi => by
    rw [getD_append_right hi, getD_append_right (by rw [deads_length]; exact hi), deads_length]
  have hbB : ∀ i, A.length ≤ i → i < (A ++ B).length → ((A ++ B).getD i .dead).live = true → w.heap.size ≤ G'.blk i ∧ G'.blk i < w'.heap.size := fun i hi hl li => by
    rw [hgr i hi] at li
    exact e7.bnd i (by rw [← hAB]; exact hl) li
  have hbA : ∀ i, i < A.length → ((A ++ B).getD i .dead).live = true → base ≤ G'.blk i ∧ G'.blk i < w.heap.size := fun i hi li => by
    rw [hgl i hi] at li
    have := h.bnd i hi li
    rw [(hids i (by omega)).1]; exact this
  refine ⟨x, v, A ++ B, { G' with I := I2 }, e1, e5, e6.ifree I2 e3, ⟨by rw [hAB]; exact e7.n, fun i hi => ?_, fun i j hi hj hne li lj => ?_, fun i hi li => ?_, fun b o hh => ?_, Nat.le_trans h.low hsize⟩, eE, ?_⟩
  · by_cases hlt : i < A.length
    · rw [hgl i hlt]
      exact (h.box i hlt).mono eE (by omega) (fun li => hbel _ (h.bnd i hlt li).2) fun li o hh => by
        rcases hh with hh | ⟨hh, _⟩
        · exact hh
        · have := (h.bnd i hlt li).2; omega
    · have hge : A.length ≤ i := by omega
      have hb := e7.box i (by rw [← hAB]; exact hi)
      rw [hgr i hge]
      have hmem : ∀ bx, (deads A ++ B).getD i .dead = bx → ifreeB bx = true := fun bx hbx => by
        rw [getD_append_right (by rw [deads_length]; exact hge)] at hbx
        subst hbx
        exact e4 _ (getD_mem (by rw [deads_length]; simp at hi; omega))
      refine hb.ifree (hmem _ rfl) fun li o hh => ?_
      rcases hh with hh | ⟨_, hh⟩
      · have h1 := h.imm _ _ hh
        have h2 := e7.bnd i (by rw [← hAB]; exact hi) li
        omega
      · exact hh
  · by_cases hil : i < A.length
    · by_cases hjl : j < A.length
      · have hi' := hids i (by omega)
        have hj' := hids j (by omega)
        show G'.blk i ≠ G'.blk j
        rw [hi'.1, hj'.1]
        rw [hgl i hil] at li; rw [hgl j hjl] at lj
        exact h.sep i j hil hjl hne li lj
      · have h1 := hbA i hil li
        have h2 := hbB j (by omega) hj lj
        show G'.blk i ≠ G'.blk j
        omega
    · by_cases hjl : j < A.length
      · have h1 := hbA j hjl lj
        have h2 := hbB i (by omega) hi li
        show G'.blk i ≠ G'.blk j
        omega
      · rw [hgr i (by omega)] at li; rw [hgr j (by omega)] at lj
        exact e7.sep i j (by rw [← hAB]; exact hi) (by rw [← hAB]; exact hj) hne li lj
  · by_cases hil : i < A.length
    · have := hbA i hil li
      exact ⟨this.1, Nat.lt_of_lt_of_le this.2 hsize⟩
    · have := hbB i (by omega) hi li
      exact ⟨Nat.le_trans h.low this.1, this.2⟩
  · rcases hh with hh | ⟨_, hh⟩
    · exact Nat.lt_of_lt_of_le (h.imm b o hh) hsize
    · exact e7.imm b o hh
  · exact ⟨e9.os, e9.tape, e9.output, e9.size, fun k hk => e9.block k (Nat.lt_of_lt_of_le hk h.low)⟩

/-- a row of leaves is a row of that kind, too -/
theorem HRel.grow {G : Ghost} {A : List Box} {w : World} {base i sz : Nat} {rows : List (List AV)} (h : HRel G A w base) (hb : A.getD i .dead = .row sz rows 0) : HRel G (A.set i (.gr none sz rows)) w base := by
  have hil : i < A.length := by
    rcases Nat.lt_or_ge i A.length with hh | hh
    · exact hh
    · simp [List.getD, Nat.not_lt.2 hh] at hb
  have aux : ∀ k, ((A.set i (.gr none sz rows)).getD k .dead).live = true → (A.getD k .dead).live = true := fun k lk => by
    by_cases hki : i = k
    · subst hki; rw [hb]; rfl
    · rwa [getD_set_ne' hki] at lk
  refine ⟨by simp [h.n], fun j hj => ?_, fun j k hj hk hne lj lk => ?_, fun j hj lj => ?_, h.imm, h.low⟩
  · simp only [List.length_set] at hj
    by_cases hji : i = j
    · subst hji
      rw [getD_set_self hj]
      have := h.box i hj
      rw [hb] at this
      exact ⟨RowOk.elem this, fun t ht => by cases ht⟩
    · rw [getD_set_ne' hji]; exact h.box j hj
  · simp only [List.length_set] at hj hk
    exact h.sep j k hj hk hne (aux j lj) (aux k lk)
  · simp only [List.length_set] at hj
    exact h.bnd j hj (aux j lj)

theorem ACalls.grow {P : Program} {f : FuncId} {args : List AV} {A : List Box} {R : AV → List Box → Prop}
    (h : ACalls P f args A (fun v A' => R v A' ∨ ∃ i sz rows, A'.getD i .dead = .row sz rows 0 ∧ R v (A'.set i (.gr none sz rows)))) : ACalls P f args A R := by
  intro G w base xs h1 h2
  refine (h G w base xs h1 h2).mono fun e w' ⟨x, v, A', G', a1, a2, a3, a4, a5⟩ => ?_
  rcases a2 with a2 | ⟨i, sz, rows, b1, b2⟩
  · exact ⟨x, v, A', G', a1, a2, a3, a4, a5⟩
  · exact ⟨x, v, _, G', a1, b2, a3, a4.grow b1, a5⟩

/-- of the boxes, those that are still spoken of -/
def only (keep : Nat → Bool) (A : List Box) : List Box := (List.range A.length).map fun i => if keep i = true then A.getD i .dead else .dead
theorem only_length (keep : Nat → Bool) (A : List Box) : (only keep A).length = A.length := by simp [only]
theorem only_getD (keep : Nat → Bool) (A : List Box) (i : Nat) : (only keep A).getD i .dead = if keep i = true then A.getD i .dead else .dead := by
  rcases Nat.lt_or_ge i A.length with h | h
  · simp [only, List.getD, h]
  · have : A.getD i .dead = .dead := by simp [List.getD, Nat.not_lt.2 h]
    rw [this]
    have h2 : (only keep A).getD i .dead = .dead := by simp [only, List.getD, Nat.not_lt.2 h]
    rw [h2]; split <;> rfl
theorem HRel.only {G : Ghost} {A : List Box} {w : World} {base : Nat} (h : HRel G A w base) (keep : Nat → Bool) : HRel G (only keep A) w base := by
  have aux : ∀ k, ((Abs.only keep A).getD k .dead).live = true → keep k = true ∧ (A.getD k .dead).live = true := fun k lk => by
    rw [only_getD] at lk
    split at lk
    · rename_i hk; exact ⟨hk, lk⟩
    · cases lk
  refine ⟨by rw [only_length]; exact h.n, fun j hj => ?_, fun j k hj hk hne lj lk => ?_, fun j hj lj => ?_, h.imm, h.low⟩
  · rw [only_length] at hj
    rw [only_getD]
    split
    · exact h.box j hj
    · trivial
  · rw [only_length] at hj hk
    exact h.sep j k hj hk hne (aux j lj).2 (aux k lk).2
  · rw [only_length] at hj
    exact h.bnd j hj (aux j lj).2
/-- what nobody speaks of any more may be left out -/
theorem ACalls.only {P : Program} {f : FuncId} {args : List AV} {A : List Box} {R : AV → List Box → Prop}
    (h : ACalls P f args A (fun v A' => ∃ keep, R v (Abs.only keep A'))) : ACalls P f args A R := by
  intro G w base xs h1 h2
  refine (h G w base xs h1 h2).mono fun e w' ⟨x, v, A', G', a1, a2, a3, a4, a5⟩ => ?_
  obtain ⟨keep, a2⟩ := a2
  exact ⟨x, v, _, G', a1, a2, a3, a4.only keep, a5⟩
theorem split_front {A A' : List Box} (hl : A.length ≤ A'.length) (hf : ∀ k, k < A.length → A'.getD k .dead = A.getD k .dead) : A' = A ++ A'.drop A.length := by
  have e : A'.take A.length = A := by
    apply List.ext_getElem (by simp; omega)
    intro i h1 h2
    have h3 := hf i h2
    have e1 : i < A'.length := by omega
    simp [List.getD, e1, h2] at h3
    simp [h3]
  conv => lhs; rw [← List.take_append_drop A.length A', e]
end Go.Abs
