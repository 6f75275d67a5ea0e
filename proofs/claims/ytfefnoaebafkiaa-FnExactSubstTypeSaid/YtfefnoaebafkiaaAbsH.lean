/- store, append to nil, make, literals. -/
import Derived.Test.YtfefnoaebafkiaaAbsG
set_option linter.unusedVariables false
set_option linter.unusedSimpArgs false
namespace Go.Abs
open Go.RowKit

theorem splice_getD {α : Type} {c vs : List α} {o m : Nat} {d : α} (ho : o + vs.length ≤ c.length) :
    (c.take o ++ vs ++ c.drop (o + vs.length)).getD m d = if o ≤ m ∧ m < o + vs.length then vs.getD (m - o) d else c.getD m d := by
  have hl : (c.take o).length = o := by simp; omega
  simp only [List.getD]
  by_cases h1 : m < o
  · rw [if_neg (by omega), List.append_assoc, List.getElem?_append_left (by omega), List.getElem?_take_of_lt h1]
  · by_cases h2 : m < o + vs.length
    · rw [if_pos ⟨by omega, h2⟩, List.append_assoc, List.getElem?_append_right (by omega), hl, List.getElem?_append_left (by omega)]
    · rw [if_neg (by omega), List.getElem?_append_right (by simp; omega)]
      simp only [List.getElem?_drop, List.length_append, hl]
      congr 2; omega

theorem splice_length {α : Type} {c vs : List α} {o : Nat} (ho : o + vs.length ≤ c.length) : (c.take o ++ vs ++ c.drop (o + vs.length)).length = c.length := by
  simp; omega

def storeA (A : List Box) (p : AV) (vs : List AV) : Option (Prop × List Box) :=
  match p with
  | .ptr i o => match A.getD i .dead with
    | .cells cs => some (o + vs.length ≤ cs.length, A.set i (.cells (cs.take o ++ vs ++ cs.drop (o + vs.length))))
    | .tc T cs => some (o + vs.length ≤ cs.length, A.set i (.tc T (cs.take o ++ vs ++ cs.drop (o + vs.length))))
    | _ => none
  | .eptr i k j => match A.getD i .dead with
    | .row sz rows s => some (s ≤ k ∧ k < rows.length ∧ j + vs.length ≤ sz ∧ (∀ v ∈ vs, isLeaf v = true), A.set i (.row sz (rows.set k ((rows.getD k []).take j ++ vs ++ (rows.getD k []).drop (j + vs.length))) s))
    | .gr te sz rows => some (k < rows.length ∧ j + vs.length ≤ sz ∧ (∀ v ∈ vs, isElem v = true), A.set i (.gr te sz (rows.set k ((rows.getD k []).take j ++ vs ++ (rows.getD k []).drop (j + vs.length)))))
    | _ => none
  | _ => none

/-- storing what owns others makes a row of that kind -/
def storeN (A : List Box) (p : AV) (vs : List AV) : Option (Prop × List Box) :=
  match p with
  | .eptr i k j => match A.getD i .dead with
    | .row sz rows 0 => some (k < rows.length ∧ j + vs.length ≤ sz ∧ (∀ v ∈ vs, isElem v = true), A.set i (.gr none sz (rows.set k ((rows.getD k []).take j ++ vs ++ (rows.getD k []).drop (j + vs.length)))))
    | .gr te sz rows => some (k < rows.length ∧ j + vs.length ≤ sz ∧ (∀ v ∈ vs, isElem v = true), A.set i (.gr te sz (rows.set k ((rows.getD k []).take j ++ vs ++ (rows.getD k []).drop (j + vs.length)))))
    | _ => none
  | _ => none

theorem store_gen {P : Program} {E : AV → Bool} {tt : Option TypeId} {mk : List (List AV) → Box} {G : Ghost} {A : List Box} {w : World} {base : Nat} {t : TypeId} {ti : TI} {v : AV} {y : Value} {vs : List AV} {i k j sz s : Nat} {rows : List (List AV)}
    (ht : tinf P t = some ti) (hc : cellsA v = some vs) (hl : vs.length = ti.size) (hK : RowKind E tt sz s mk) (hlive : (A.getD i .dead).live = true) (hil : i < A.length) (hb : RowOk E G w i sz rows s ∧ Typed tt G w i)
    (hp : s ≤ k ∧ k < rows.length ∧ j + vs.length ≤ sz ∧ (∀ v ∈ vs, E v = true)) (h : HRel G A w base) (hy : RV G w v y) :
    ∃ w' G', (Instr.storeAt t (.pointer (some ⟨G.blk i, G.off i + (k * G.sz i + j), none⟩)) y).run P w = .ok () w' ∧ HRel G' (A.set i (mk (rows.set k ((rows.getD k []).take j ++ vs ++ (rows.getD k []).drop (j + vs.length))))) w' base ∧ Ext G w G' w' ∧ Below base w w' := by
  obtain ⟨i0, d, h1, h2, h3, h4, h5, h6⟩ := tinf_spec ht
  obtain ⟨c1, c2⟩ := cellsA_ok hy hc
  have hvl : y.cells.size = i0.size := by have := c1.1; simp at this; omega
  have run : ∀ b o (cur : Array Value) el, w.heap[b]? = some (.cells cur el (0, 0)) → o + vs.length ≤ cur.size →
      (Instr.storeAt t (.pointer (some ⟨b, o, none⟩)) y).run P w = .ok () (w.setRow b (cur.toList.take o ++ y.cells.toList ++ cur.toList.drop (o + y.cells.toList.length)).toArray) := fun b o cur el hb ho => by
    have := run_storeCells_at P b o el y.cells.toList 0 cur w hb (by simp; have := c1.1; simp at this; omega) (fun v hv => c2 v (by simpa using hv))
    simp only [Nat.add_zero] at this
    simp [Instr.storeAt, Instr.sureAddr, storeVar, sizeOf_run h1, hvl, Result.andThen, this]
  have hvl' : vs.length = y.cells.toList.length := c1.1
  obtain ⟨⟨cur, el, q1, q3, q4, q5, q6, q7, q8, q9, q10, q11⟩, qt⟩ := hb
  obtain ⟨p1, p2, p3, p4⟩ := hp
  have hcm := Nat.mul_le_mul_right sz q5
  have hrk := (q9 _ (getD_mem (d := []) p2))
  have hks : k * sz + sz ≤ rows.length * sz := by
    have := Nat.mul_le_mul_right sz (Nat.succ_le_of_lt p2); rwa [Nat.succ_mul] at this
  have hfit : G.off i + (k * sz + j) + vs.length ≤ cur.toList.length := by simp; omega
  have hrow' : ((rows.getD k []).take j ++ vs ++ (rows.getD k []).drop (j + vs.length)).length = sz := by rw [splice_length (by omega)]; exact hrk.1
  rw [q6]
  have hh := h.set (w' := w.setRow (G.blk i) (cur.toList.take (G.off i + (k * sz + j)) ++ y.cells.toList ++ cur.toList.drop (G.off i + (k * sz + j) + y.cells.toList.length)).toArray)
    (mk (rows.set k ((rows.getD k []).take j ++ vs ++ (rows.getD k []).drop (j + vs.length)))) hil hlive kept_setRow (fun o' ho' => by
      have hlt : o' < G.off i + s * sz := by
        rcases Nat.lt_or_ge o' (G.off i + s * sz) with hh | hh
        · exact hh
        · exact absurd ho' (q11 o' hh)
      have hsk := Nat.mul_le_mul_right sz p1
      have hoc : o' < cur.size := by omega
      rw [cell?_of (setRow_heap w _ cur _ el _ q1) (by rw [List.size_toArray, splice_length (by rw [← hvl']; exact hfit)]; simpa using hoc), cell?_of q1 hoc, getD_arr, splice_getD (by rw [← hvl']; exact hfit), if_neg (by omega)]
      simp [Array.getD, List.getD, hoc]) (fun _ _ _ => ⟨_, _, setRow_heap w _ cur _ el _ q1⟩) fun e' => by
    refine (hK.ok _ _ _ _).2 ⟨⟨_, el, setRow_heap w _ cur _ el _ q1, fun z hz => ?_, by simp [q4], by simpa using q5, q6, ?_, by simpa using q8, fun r hr => ?_, fun k' j' hk' hj' => ?_, q11⟩, fun t ht => ?_⟩
    · simp only [List.mem_toArray, List.mem_append] at hz
      rcases hz with (hz | hz) | hz
      · exact q3 z (by simpa using List.mem_of_mem_take hz)
      · exact c2 z (by simpa using hz)
      · exact q3 z (by simpa using List.mem_of_mem_drop hz)
    · rw [List.size_toArray, splice_length (by rw [← hvl']; exact hfit)]; simpa using q7
    · rcases List.mem_or_eq_of_mem_set hr with hr | hr
      · exact q9 r hr
      · subst hr
        refine ⟨hrow', fun v hv => ?_⟩
        simp only [List.mem_append] at hv
        rcases hv with (hv | hv) | hv
        · exact hrk.2 v (List.mem_of_mem_take hv)
        · exact p4 v hv
        · exact hrk.2 v (List.mem_of_mem_drop hv)
    · simp only [List.length_set] at hk'
      rw [getD_arr, splice_getD (by rw [← hvl']; exact hfit)]
      unfold rowAt
      have hks' : k' * sz + sz ≤ rows.length * sz := by
        have := Nat.mul_le_mul_right sz (Nat.succ_le_of_lt hk'); rwa [Nat.succ_mul] at this
      by_cases hkk : k = k'
      · subst hkk
        rw [getD_set_self p2, splice_getD (by omega)]
        by_cases hin : j ≤ j' ∧ j' < j + vs.length
        · rw [if_pos hin, if_pos (by omega), show G.off i + (k * sz + j') - (G.off i + (k * sz + j)) = j' - j by omega]
          exact (c1.2 (j' - j) (by omega)).mono e'
        · rw [if_neg hin, if_neg (by omega)]
          have := (q10 k j' p2 hj').mono e'
          have hjc : G.off i + (k * sz + j') < cur.size := by omega
          simpa [Array.getD, List.getD, hjc, rowAt] using this
      · rw [getD_set_ne' hkk, if_neg (by
          have hne : k * sz + sz ≤ k' * sz ∨ k' * sz + sz ≤ k * sz := by
            rcases Nat.lt_or_gt_of_ne hkk with hlt | hlt
            · have := Nat.mul_le_mul_right sz (Nat.succ_le_of_lt hlt); rw [Nat.succ_mul] at this; exact .inl this
            · have := Nat.mul_le_mul_right sz (Nat.succ_le_of_lt hlt); rw [Nat.succ_mul] at this; exact .inr this
          omega)]
        have := (q10 k' j' hk' hj').mono e'
        have hjc : G.off i + (k' * sz + j') < cur.size := by omega
        simpa [Array.getD, List.getD, hjc, rowAt] using this
    · obtain ⟨t1, c', t2⟩ := qt t ht
      rw [q1] at t2; cases t2
      exact ⟨t1, _, setRow_heap w _ cur _ el _ q1⟩
  exact ⟨_, G, run _ _ cur el q1 (by simp at hfit; omega), hh.1, hh.2, kept_setRow.below (fun b hb => by rw [hb]; exact (h.bnd i hil hlive).1) h.low⟩

theorem store_ok {P : Program} {G : Ghost} {A A' : List Box} {w : World} {base : Nat} {t : TypeId} {ti : TI} {p v : AV} {x y : Value} {vs : List AV} {c : Prop}
    (ht : tinf P t = some ti) (hc : cellsA v = some vs) (hl : vs.length = ti.size) (hs : storeA A p vs = some (c, A')) (hp : c) (h : HRel G A w base) (hx : RV G w p x) (hy : RV G w v y) :
    ∃ w' G', (Instr.storeAt t x y).run P w = .ok () w' ∧ HRel G' A' w' base ∧ Ext G w G' w' ∧ Below base w w' := by
  obtain ⟨i0, d, h1, h2, h3, h4, h5, h6⟩ := tinf_spec ht
  obtain ⟨c1, c2⟩ := cellsA_ok hy hc
  have hvl : y.cells.size = i0.size := by have := c1.1; simp at this; omega
  have run : ∀ b o (cur : Array Value) el, w.heap[b]? = some (.cells cur el (0, 0)) → o + vs.length ≤ cur.size →
      (Instr.storeAt t (.pointer (some ⟨b, o, none⟩)) y).run P w = .ok () (w.setRow b (cur.toList.take o ++ y.cells.toList ++ cur.toList.drop (o + y.cells.toList.length)).toArray) := fun b o cur el hb ho => by
    have := run_storeCells_at P b o el y.cells.toList 0 cur w hb (by simp; have := c1.1; simp at this; omega) (fun v hv => c2 v (by simpa using hv))
    simp only [Nat.add_zero] at this
    simp [Instr.storeAt, Instr.sureAddr, storeVar, sizeOf_run h1, hvl, Result.andThen, this]
  have hvl' : vs.length = y.cells.toList.length := c1.1
  cases hx with
  | ptr i o hi =>
    simp only [storeA] at hs
    have hil : i < A.length := by rw [← h.n]; exact hi
    have hb := h.box i hil
    split at hs <;> try cases hs
    · rename_i cs hb0
      have hlive : (A.getD i .dead).live = true := by rw [hb0]; rfl
      rw [hb0] at hb
      obtain ⟨cur, el, q1, q3, q4, q5, q6⟩ := hb
      have hcl : cur.toList.length = cs.length := by simp [q3]
      have hh := h.set (w' := w.setRow (G.blk i) (cur.toList.take o ++ y.cells.toList ++ cur.toList.drop (o + y.cells.toList.length)).toArray) (.cells (cs.take o ++ vs ++ cs.drop (o + vs.length))) hil hlive kept_setRow (fun o' ho' => absurd ho' (q6 o')) (fun _ _ _ => ⟨_, _, setRow_heap w _ cur _ el _ q1⟩) fun e' => by
        refine ⟨_, el, setRow_heap w _ cur _ el _ q1, ?_, fun z hz => ?_, fun j hj => ?_, q6⟩
        · rw [List.size_toArray, splice_length (by rw [← hvl', hcl]; exact hp), splice_length hp, hcl]
        · simp only [List.mem_toArray, List.mem_append] at hz
          rcases hz with (hz | hz) | hz
          · exact q4 z (by simpa using List.mem_of_mem_take hz)
          · exact c2 z (by simpa using hz)
          · exact q4 z (by simpa using List.mem_of_mem_drop hz)
        · rw [splice_length hp] at hj
          rw [getD_arr, splice_getD hp, splice_getD (by rw [← hvl', hcl]; exact hp)]
          by_cases hin : o ≤ j ∧ j < o + vs.length
          · rw [if_pos hin, if_pos (by omega)]; exact (c1.2 (j - o) (by omega)).mono e'
          · rw [if_neg hin, if_neg (by omega)]
            have := (q5 j hj).mono e'
            have hjc : j < cur.size := by omega
            simpa [Array.getD, List.getD, hjc] using this
      exact ⟨_, G, run _ _ cur el q1 (by omega), hh.1, hh.2, kept_setRow.below (fun b hb => by rw [hb]; exact (h.bnd i hil hlive).1) h.low⟩
    · rename_i el cs hb0
      have hlive : (A.getD i .dead).live = true := by rw [hb0]; rfl
      rw [hb0] at hb
      obtain ⟨cur, q1, q3, q4, q5, q6⟩ := hb
      have hcl : cur.toList.length = cs.length := by simp [q3]
      have hh := h.set (w' := w.setRow (G.blk i) (cur.toList.take o ++ y.cells.toList ++ cur.toList.drop (o + y.cells.toList.length)).toArray) (.tc el (cs.take o ++ vs ++ cs.drop (o + vs.length))) hil hlive kept_setRow (fun o' ho' => absurd ho' (q6 o')) (fun _ _ _ => ⟨_, _, setRow_heap w _ cur _ el _ q1⟩) fun e' => by
        refine ⟨_, setRow_heap w _ cur _ el _ q1, ?_, fun z hz => ?_, fun j hj => ?_, q6⟩
        · rw [List.size_toArray, splice_length (by rw [← hvl', hcl]; exact hp), splice_length hp, hcl]
        · simp only [List.mem_toArray, List.mem_append] at hz
          rcases hz with (hz | hz) | hz
          · exact q4 z (by simpa using List.mem_of_mem_take hz)
          · exact c2 z (by simpa using hz)
          · exact q4 z (by simpa using List.mem_of_mem_drop hz)
        · rw [splice_length hp] at hj
          rw [getD_arr, splice_getD hp, splice_getD (by rw [← hvl', hcl]; exact hp)]
          by_cases hin : o ≤ j ∧ j < o + vs.length
          · rw [if_pos hin, if_pos (by omega)]; exact (c1.2 (j - o) (by omega)).mono e'
          · rw [if_neg hin, if_neg (by omega)]
            have := (q5 j hj).mono e'
            have hjc : j < cur.size := by omega
            simpa [Array.getD, List.getD, hjc] using this
      exact ⟨_, G, run _ _ cur el q1 (by omega), hh.1, hh.2, kept_setRow.below (fun b hb => by rw [hb]; exact (h.bnd i hil hlive).1) h.low⟩
  | eptr i k j hi =>
    simp only [storeA] at hs
    have hil : i < A.length := by rw [← h.n]; exact hi
    have hb := h.box i hil
    split at hs <;> try cases hs
    · rename_i sz rows s hb0
      have hlive : (A.getD i .dead).live = true := by rw [hb0]; rfl
      rw [hb0] at hb
      exact store_gen ht hc hl (rowKind sz s) hlive hil ((rowKind sz s).ok _ _ _ _ |>.1 hb) hp h hy
    · rename_i te sz rows hb0
      have hlive : (A.getD i .dead).live = true := by rw [hb0]; rfl
      rw [hb0] at hb
      exact store_gen ht hc hl (grKind te sz) hlive hil hb ⟨Nat.zero_le _, hp⟩ h hy
  | _ => simp [storeA] at hs

theorem RowOk.elem {G : Ghost} {w : World} {i sz s : Nat} {rows : List (List AV)} (h : RowOk isLeaf G w i sz rows s) : RowOk isElem G w i sz rows s := by
  obtain ⟨c, el, h1, h3, h4, h5, h6, h7, h8, h9, h10, h11⟩ := h
  exact ⟨c, el, h1, h3, h4, h5, h6, h7, h8, fun r hr => ⟨(h9 r hr).1, fun v hv => leaf_elem ((h9 r hr).2 v hv)⟩, h10, h11⟩

theorem storeN_ok {P : Program} {G : Ghost} {A A' : List Box} {w : World} {base : Nat} {t : TypeId} {ti : TI} {p v : AV} {x y : Value} {vs : List AV} {c : Prop}
    (ht : tinf P t = some ti) (hc : cellsA v = some vs) (hl : vs.length = ti.size) (hs : storeN A p vs = some (c, A')) (hp : c) (h : HRel G A w base) (hx : RV G w p x) (hy : RV G w v y) :
    ∃ w' G', (Instr.storeAt t x y).run P w = .ok () w' ∧ HRel G' A' w' base ∧ Ext G w G' w' ∧ Below base w w' := by
  cases hx with
  | eptr i k j hi =>
    simp only [storeN] at hs
    have hil : i < A.length := by rw [← h.n]; exact hi
    have hb := h.box i hil
    split at hs <;> try cases hs
    · rename_i sz rows hb0
      have hlive : (A.getD i .dead).live = true := by rw [hb0]; rfl
      rw [hb0] at hb
      exact store_gen ht hc hl (grKind none sz) hlive hil ⟨RowOk.elem hb, fun t ht => by cases ht⟩ ⟨Nat.zero_le _, hp⟩ h hy
    · rename_i te sz rows hb0
      have hlive : (A.getD i .dead).live = true := by rw [hb0]; rfl
      rw [hb0] at hb
      exact store_gen ht hc hl (grKind te sz) hlive hil hb ⟨Nat.zero_le _, hp⟩ h hy
  | _ => simp [storeN] at hs

/-- append to nil -/
theorem append_nil_gen {P : Program} {E : AV → Bool} {tt : Option TypeId} {mk : List (List AV) → Box} {G : Ghost} {A : List Box} {w : World} {base : Nat} {t tx ty e : TypeId} {ti te : TI} {sz : Nat} {xs : List (List AV)} {y z : Value}
    (hK : RowKind E tt sz 0 mk) (htt : ∀ t, tt = some t → t = e) (ht : tinf P t = some ti) (hk : ti.kind = .slice e) (hte : tinf P e = some te) (hsz : te.size = sz) {zc : List AV} (hz : te.zero = some zc) (hzl : zc.length = sz) (hby : 0 < te.bytes ∧ te.bytes ≤ 65536)
    (hsrc0 : ∃ news, Src P sz tx y xs.length news w ∧ RL G w xs.flatten news ∧ (∀ r ∈ xs, ∀ v ∈ r, E v = true)) (hxl : ∀ r ∈ xs, r.length = sz) (hlen : 0 < xs.length ∧ xs.length ≤ 1073741824)
    (h : HRel G A w base) (hz' : RV G w .nils z) :
    YV G w base (.own A.length) (A ++ [mk xs]) ((Builtin.append_ #[t, tx] ty #[z, y]).run P w) := by
  obtain ⟨it, d, h1, h2, h3, h4, h5, h6⟩ := tinf_spec ht
  obtain ⟨ie, de, g1, g2, g3, g4, g5, g6⟩ := tinf_spec hte
  rw [h6] at hk
  obtain rfl := tk_slice hk
  obtain ⟨news, hsrc, hnews, hleaf⟩ := hsrc0
  have hsz' : sz = ie.size := by omega
  have hnl : news.length = xs.length * sz := by rw [← hnews.1, flat_length hxl]
  have hnew : ∀ k j, k < xs.length → j < sz → RV G w (rowAt xs k j) (news.getD (k * sz + j) undef) := fun k j hk' hj => by
    have := hnews.2 (k * sz + j) (by rw [flat_length hxl]; exact row_in hk' hj (Nat.le_refl _))
    rwa [flat_getD hxl k j hk' hj] at this
  cases hz'
  rw [g5] at hz
  obtain ⟨zz, hzz, hzrl, hzc⟩ := zeroA_ok (G := G) (w := w) hz
  have hzs : zz.cells.size = sz := by have := hzrl.1; simp at this; omega
  have hneed : (0 + xs.length) * ie.bytes ≤ 1073741824 * 65536 := Nat.mul_le_mul (by omega) (by omega)
  rw [hsz'] at hsrc
  have hrun := run_append_grow_src w t tx ty e ie zz h2 g1 hzz none 0 0 [] (by simp [Builtin.firstCells]) y xs.length news hsrc (by omega) (by omega) (growslice_fits (by omega) (by omega))
  rw [← hsz'] at hsrc
  generalize hcp : grownCap w (0 + xs.length) 0 e = cap at hrun
  have hcap : xs.length ≤ cap := by
    rw [← hcp]; simp [grownCap, Question.cut]
  simp only [List.nil_append, Nat.zero_add] at hrun
  generalize hC : news.toArray ++ Builtin.zeroCells zz.cells (cap - xs.length) = C at hrun
  obtain ⟨hd, he⟩ := h.heap (w' := w.drew) rfl
  have hCget : ∀ m, m < news.length → C.getD m undef = news.getD m undef := fun m hm => by
    rw [← hC, Array.getD_eq_getD_getElem?, Array.getElem?_append_left (by simpa using hm)]
    simp [List.getD]
  have hp := push_gen (G := G) (A := A) (w := w.drew) (base := base) (rows := xs) (sz := sz) (s := 0) (cap := cap) (c := C) (e := e) hK htt hd (fun u hu => ?_) (fun r hr => ⟨hxl r hr, hleaf r hr⟩) hcap ?_ (by omega) fun k j hk' hj => ?_
  · obtain ⟨G', p1, p2, p3, p4⟩ := hp
    exact ⟨_, _, G', hrun, p3, p1, he.trans p2, (Below.refl _ _).drew.trans p4⟩
  · rw [← hC] at hu
    simp only [Array.mem_append, List.mem_toArray] at hu
    rcases hu with hu | hu
    · exact hsrc.one u hu
    · simp only [Builtin.zeroCells, Array.mem_map] at hu
      obtain ⟨m, hm, rfl⟩ := hu
      have hsz0 : 0 < zz.cells.size := by
        rcases Nat.eq_zero_or_pos zz.cells.size with h0 | h0
        · simp [h0] at hm
        · exact h0
      have : m % zz.cells.size < zz.cells.size := Nat.mod_lt _ hsz0
      rw [getElem!_pos zz.cells (m % zz.cells.size) this]
      exact hzc _ (Array.getElem_mem _)
  · rw [← hC]
    simp only [Array.size_append, size_zeroCells, hzs, List.size_toArray, hnl]
    rw [← Nat.add_mul, Nat.add_sub_cancel' hcap]
    exact Nat.le_refl _
  · rw [hCget _ (by rw [hnl]; exact row_in hk' hj (Nat.le_refl _))]
    exact (hnew k j hk' hj).mono he

theorem append_nil_ok {P : Program} {G : Ghost} {A : List Box} {w : World} {base : Nat} {t tx ty e : TypeId} {ti te tix : TI} {sz : Nat} {xs : List (List AV)} {x : AV} {y z : Value}
    (ht : tinf P t = some ti) (hk : ti.kind = .slice e) (hte : tinf P e = some te) (hsz : te.size = sz) {zc : List AV} (hz : te.zero = some zc) (hzl : zc.length = sz) (hby : 0 < te.bytes ∧ te.bytes ≤ 65536) (htx : tinf P tx = some tix)
    (hkx : (∃ e, tix.kind = .slice e) ∨ (tix.kind = .str ∧ sz = 1)) (hs : (∃ e, tix.kind = .slice e) → ∀ s, x ≠ .str s) (hs' : tix.kind = .str → ∃ s, x = .str s)
    (hxs : rowsOf A x = some xs) (hxl : ∀ r ∈ xs, r.length = sz) (hlen : 0 < xs.length ∧ xs.length ≤ 1073741824)
    (h : HRel G A w base) (hx : RV G w x y) (hz' : RV G w .nils z) :
    YV G w base (.own A.length) (A ++ [.row sz xs 0]) ((Builtin.append_ #[t, tx] ty #[z, y]).run P w) :=
  append_nil_gen (rowKind sz 0) (fun t ht => by cases ht) ht hk hte hsz hz hzl hby (src_ok htx hkx h hx hxs hxl hs hs') hxl hlen h hz'

/-! ### small ones -/
def unA (op : UnOp) : AV → Option AV
  | .bool b => match op with
    | .not => some (.bool (!b))
    | _ => none
  | .int k n => match op with
    | .neg => some (.int k (k.wrap (0 - n)))
    | _ => none
  | _ => none

theorem un_ok {P : Program} {G : Ghost} {A : List Box} {w : World} {base : Nat} {op : UnOp} {x v : AV} {y : Value} (hv : unA op x = some v) (h : HRel G A w base) (hx : RV G w x y) :
    YV G w base v A ((Op.unary op y).run P w) := by
  cases hx <;> simp only [unA] at hv <;> try (cases hv; done)
  · cases op <;> simp at hv; subst hv
    exact .same h (.int _ _) (by simp [Op.unary, Op.intArith])
  · cases op <;> simp at hv; subst hv
    exact .same h (.bool _) (by simp [Op.unary])

def byteOf : List AV → UInt8
  | [.int _ n] => UInt8.ofNat n.toNat
  | _ => 0

def isByte : List AV → Bool
  | [.int .u8 _] => true
  | _ => false

def convA (P : Program) (A : List Box) (ks kd : TK) (x : AV) : Option (Prop × AV) :=
  match kd, x with
  | .int k, .int _ n => some (True, .int k (k.wrap n))
  | .str, .str s => some (True, .str s)
  | .str, x => match ks with
    | .slice e => match tinf P e with
      | some te => match te.kind with
        | .int .u8 => match x with
          | .str _ => none
          | x => (rowsOf A x).map fun rows => (∀ r ∈ rows, isByte r = true, .str (rows.map byteOf))
        | _ => none
      | none => none
    | _ => none
  | _, _ => none

theorem extract_ok {P : Program} {G : Ghost} {A : List Box} {w : World} {base k : Nat} {cs : List AV} {y : Value} (hk : k < cs.length) (h : HRel G A w base) (hx : RV G w (.tuple cs) y) :
    YV G w base (cs.getD k .bot) A ((Instr.extract y k).run P w) := by
  cases hx with
  | tuple _ xs hs hh =>
    have : k < xs.size := by omega
    refine .same h (hh k hk) (by simp [Instr.extract, this, Array.getD])

def lenA (A : List Box) : AV → Option Nat
  | .str s => some s.length
  | .slice rows => some rows.length
  | .aslice rows => some rows.length
  | .islice _ _ rows => some rows.length
  | .nils => some 0
  | .own i => match A.getD i .dead with
    | .row _ rows _ => some rows.length
    | .gr _ _ rows => some rows.length
    | _ => none
  | _ => none

theorem len_ok {P : Program} {G : Ghost} {A : List Box} {w : World} {base n : Nat} {t ty : TypeId} {ti : TI} {x : AV} {y : Value} (ht : tinf P t = some ti) (hk : (ti.kind = .str ∧ ∃ s, x = .str s) ∨ ((∃ e, ti.kind = .slice e) ∧ ∀ s, x ≠ .str s)) (hn : lenA A x = some n)
    (h : HRel G A w base) (hx : RV G w x y) : YV G w base (.int .i64 n) A ((Builtin.len_ #[t] ty #[y]).run P w) := by
  obtain ⟨i, d, h1, h2, h3, h4, h5, h6⟩ := tinf_spec ht
  rcases hk with ⟨hk, s, rfl⟩ | ⟨⟨e, hk⟩, hns⟩
  · rw [h6] at hk
    obtain rfl := tk_str hk
    cases hx
    simp only [lenA] at hn; cases hn
    refine .same h (.int _ _) ?_
    have : (⟨s.toArray⟩ : ByteArray).size = s.length := by simp [ByteArray.size]
    simp [Builtin.len_, run_underlying h2, Result.andThen, goInt, this]
  · rw [h6] at hk
    obtain rfl := tk_slice hk
    have fin : ∀ a len cap, y = .slice a len cap → len = n → YV G w base (.int .i64 n) A ((Builtin.len_ #[t] ty #[y]).run P w) := by
      rintro a len cap rfl rfl
      exact .same h (.int _ _) (by simp [Builtin.len_, run_underlying h2, Result.andThen, goInt])
    cases hx <;> simp only [lenA] at hn <;> try (cases hn; done)
    case str => exact absurd rfl (hns _)
    case slice0 => cases hn; exact fin _ _ _ rfl rfl
    case sliceE => cases hn; exact fin _ _ _ rfl rfl
    case slice => cases hn; exact fin _ _ _ rfl rfl
    case aslice0 => cases hn; exact fin _ _ _ rfl rfl
    case asliceE => cases hn; exact fin _ _ _ rfl rfl
    case aslice => cases hn; exact fin _ _ _ rfl rfl
    case islice => cases hn; exact fin _ _ _ rfl rfl
    case nils => cases hn; exact fin _ _ _ rfl rfl
    case own i hi =>
      have hb := h.box i (by rw [← h.n]; exact hi)
      split at hn <;> try cases hn
      · rename_i sz rows s hb0
        rw [hb0] at hb
        obtain ⟨cur, el, q1, q3, q4, q5, q6, q7, q8, q9, q10, q11⟩ := hb
        exact fin _ _ _ rfl q4
      · rename_i te sz rows hb0
        rw [hb0] at hb
        obtain ⟨⟨cur, el, q1, q3, q4, q5, q6, q7, q8, q9, q10, q11⟩, _⟩ := hb
        exact fin _ _ _ rfl q4

end Go.Abs
