/- The operations that make memory, and append. -/
import Derived.Test.YtfefnoaebafkiaaAbsE
import Derived.Deep.AppendSrc
set_option linter.unusedVariables false
set_option linter.unusedSimpArgs false
namespace Go.Abs
open Go.RowKit

/-! ### data that is stored: slices are given up -/
def frz1 (v : AV) (A : List Box) : Option (AV × List Box) :=
  match v with
  | .own i => match A.getD i .dead with
    | .row sz rows s => some (.slice rows, A.set i (.row sz rows rows.length))
    | _ => none
  | .nils => some (.slice [], A)
  | v => some (v, A)

theorem frz1_ok {G : Ghost} {A A' : List Box} {w : World} {base : Nat} {v v' : AV} {x : Value} (h : HRel G A w base) (hx : RV G w v x) (hf : frz1 v A = some (v', A')) :
    ∃ G', HRel G' A' w base ∧ Ext G w G' w ∧ RV G' w v' x := by
  cases hx with
  | own i hi =>
    simp only [frz1] at hf
    have hl : i < A.length := by rw [← h.n]; exact hi
    split at hf <;> try cases hf
    rename_i sz rows s hb
    exact h.shutRow hl hb
  | nils => simp only [frz1] at hf; cases hf; exact ⟨G, h, Ext.refl _ _, .slice0⟩
  | _ =>
    simp only [frz1] at hf
    cases hf
    exact ⟨G, h, Ext.refl _ _, by constructor <;> assumption⟩

def frzL : List AV → List Box → Option (List AV × List Box)
  | [], A => some ([], A)
  | v :: l, A => match frz1 v A with
    | some (v', A1) => match frzL l A1 with
      | some (l', A2) => some (v' :: l', A2)
      | none => none
    | none => none

def RL (G : Ghost) (w : World) (vs : List AV) (xs : List Value) : Prop := vs.length = xs.length ∧ ∀ i, i < vs.length → RV G w (vs.getD i .bot) (xs.getD i undef)

theorem RL.nil {G : Ghost} {w : World} : RL G w [] [] := ⟨rfl, fun i hi => by simp at hi⟩
theorem RL.cons {G : Ghost} {w : World} {v : AV} {x : Value} {vs : List AV} {xs : List Value} (h : RV G w v x) (hl : RL G w vs xs) : RL G w (v :: vs) (x :: xs) :=
  ⟨by simp [hl.1], fun i hi => by
    cases i with
    | zero => simpa using h
    | succ i => simpa using hl.2 i (by simpa using hi)⟩
theorem RL.head {G : Ghost} {w : World} {v : AV} {x : Value} {vs : List AV} {xs : List Value} (h : RL G w (v :: vs) (x :: xs)) : RV G w v x := by
  simpa using h.2 0 (by simp)
theorem RL.tail {G : Ghost} {w : World} {v : AV} {x : Value} {vs : List AV} {xs : List Value} (h : RL G w (v :: vs) (x :: xs)) : RL G w vs xs :=
  ⟨by simpa using h.1, fun i hi => by simpa using h.2 (i + 1) (by simpa using hi)⟩
theorem RL.mono {G G' : Ghost} {w w' : World} {vs : List AV} {xs : List Value} (h : RL G w vs xs) (e : Ext G w G' w') : RL G' w' vs xs := ⟨h.1, fun i hi => (h.2 i hi).mono e⟩

theorem frzL_ok {base : Nat} {w : World} : ∀ {vs vs' : List AV} {xs : List Value} {G : Ghost} {A A' : List Box}, HRel G A w base → RL G w vs xs → frzL vs A = some (vs', A') →
    ∃ G', HRel G' A' w base ∧ Ext G w G' w ∧ RL G' w vs' xs
  | [], vs', xs, G, A, A', h, hx, hf => by
    simp only [frzL] at hf; cases hf
    exact ⟨G, h, Ext.refl _ _, hx⟩
  | v :: l, vs', [], G, A, A', h, hx, hf => by have := hx.1; simp at this
  | v :: l, vs', x :: xs, G, A, A', h, hx, hf => by
    simp only [frzL] at hf
    split at hf <;> try cases hf
    rename_i v' A1 h1
    split at hf <;> try cases hf
    rename_i l' A2 h2
    obtain ⟨G1, k1, k2, k3⟩ := frz1_ok h hx.head h1
    obtain ⟨G2, m1, m2, m3⟩ := frzL_ok k1 (hx.tail.mono k2) h2
    exact ⟨G2, m1, k2.trans m2, .cons (k3.mono m2) m3⟩

theorem RL.ofArr {G : Ghost} {w : World} {cs : List AV} {xs : Array Value} (hs : xs.size = cs.length) (h : ∀ i, i < cs.length → RV G w (cs.getD i .bot) (xs.getD i undef)) : RL G w cs xs.toList :=
  ⟨by simp [hs], fun i hi => by
    have := h i hi
    have hi' : i < xs.size := by omega
    simpa [List.getD, Array.getD, hi', hi] using this⟩
theorem RL.toArr {G : Ghost} {w : World} {cs : List AV} {xs : List Value} (h : RL G w cs xs) : ∀ i, i < cs.length → RV G w (cs.getD i .bot) (xs.toArray.getD i undef) := fun i hi => by
  have := h.2 i hi
  have hi' : i < xs.length := by have := h.1; omega
  simpa [List.getD, Array.getD, hi', hi] using this

def frzC (v : AV) (A : List Box) : Option (AV × List Box) :=
  match v with
  | .agg cs => (frzL cs A).map fun x => (.agg x.1, x.2)
  | v => frz1 v A

theorem frzL_length : ∀ {vs vs' : List AV} {A A' : List Box}, frzL vs A = some (vs', A') → vs'.length = vs.length
  | [], vs', A, A', hf => by simp only [frzL] at hf; cases hf; rfl
  | v :: l, vs', A, A', hf => by
    simp only [frzL] at hf
    split at hf <;> try cases hf
    split at hf <;> try cases hf
    rename_i h2
    simp [frzL_length h2]

theorem frzC_ok {G : Ghost} {A A' : List Box} {w : World} {base : Nat} {v v' : AV} {x : Value} (h : HRel G A w base) (hx : RV G w v x) (hf : frzC v A = some (v', A')) :
    ∃ G', HRel G' A' w base ∧ Ext G w G' w ∧ RV G' w v' x := by
  unfold frzC at hf
  split at hf
  · rename_i cs
    cases hx with
    | agg _ xs hs hc hh =>
      cases hq : frzL cs A with
      | none => rw [hq] at hf; cases hf
      | some q =>
        rw [hq] at hf; cases hf
        obtain ⟨G', k1, k2, k3⟩ := frzL_ok h (RL.ofArr hs hh) hq
        refine ⟨G', k1, k2, .agg _ xs (by rw [frzL_length hq]; exact hs) hc fun i hi => ?_⟩
        have := k3.toArr i hi
        simpa using this
  · exact frz1_ok h hx hf

def frzs : List AV → List Box → Option (List AV × List Box)
  | [], A => some ([], A)
  | v :: l, A => match frzC v A with
    | some (v', A1) => match frzs l A1 with
      | some (l', A2) => some (v' :: l', A2)
      | none => none
    | none => none

theorem frzs_ok {base : Nat} {w : World} : ∀ {vs vs' : List AV} {xs : List Value} {G : Ghost} {A A' : List Box}, HRel G A w base → RL G w vs xs → frzs vs A = some (vs', A') →
    ∃ G', HRel G' A' w base ∧ Ext G w G' w ∧ RL G' w vs' xs
  | [], vs', xs, G, A, A', h, hx, hf => by
    simp only [frzs] at hf; cases hf
    exact ⟨G, h, Ext.refl _ _, hx⟩
  | v :: l, vs', [], G, A, A', h, hx, hf => by have := hx.1; simp at this
  | v :: l, vs', x :: xs, G, A, A', h, hx, hf => by
    simp only [frzs] at hf
    split at hf <;> try cases hf
    rename_i v' A1 h1
    split at hf <;> try cases hf
    rename_i l' A2 h2
    obtain ⟨G1, k1, k2, k3⟩ := frzC_ok h hx.head h1
    obtain ⟨G2, m1, m2, m3⟩ := frzs_ok k1 (hx.tail.mono k2) h2
    exact ⟨G2, m1, k2.trans m2, .cons (k3.mono m2) m3⟩

/-! ### a new box -/
/-- the cells of a value -/
def cellsA : AV → Option (List AV)
  | .agg cs => some cs
  | .bot | .tuple _ => none
  | v => some [v]

theorem cellsA_ok {G : Ghost} {w : World} {v : AV} {x : Value} {cs : List AV} (hx : RV G w v x) (hc : cellsA v = some cs) : RL G w cs x.cells.toList ∧ ∀ y ∈ x.cells, y.oneCell' = true := by
  cases hx with
  | bot x => simp [cellsA] at hc
  | tuple => simp [cellsA] at hc
  | agg cs' xs hs hc' hh =>
    simp only [cellsA] at hc; cases hc
    exact ⟨RL.ofArr hs hh, hc'⟩
  | _ =>
    simp only [cellsA] at hc; cases hc
    refine ⟨?_, fun y hy => by simp [Value.cells] at hy; subst hy; rfl⟩
    simp only [Value.cells]
    exact .cons (by constructor <;> assumption) .nil

theorem kept_alloc {w : World} {o : Obj} : Kept (fun _ => False) w (w.alloc o) :=
  ⟨rfl, rfl, rfl, by simp, fun b hb _ => Below.heap_alloc w o b hb⟩

theorem heap_alloc_new (w : World) (o : Obj) : (w.alloc o).heap[w.heap.size]? = some o := by
  show (w.heap.push o)[w.heap.size]? = some o
  simp

theorem push_cells {G : Ghost} {A : List Box} {w : World} {base : Nat} {cs : List AV} {c : Array Value} {e : TypeId} (h : HRel G A w base) (hx : RL G w cs c.toList) (h1 : ∀ y ∈ c, y.oneCell' = true) :
    ∃ G', HRel G' (A ++ [.cells cs]) (w.alloc (.cells c e)) base ∧ Ext G w G' (w.alloc (.cells c e)) ∧ RV G' (w.alloc (.cells c e)) (.ptr A.length 0) (.pointer (some ⟨w.heap.size, 0, none⟩)) ∧ Below base w (w.alloc (.cells c e)) := by
  have hp := h.push (w' := w.alloc (.cells c e)) (.cells cs) 0 0 0 0 kept_alloc (by simp) fun e' => by
    refine ⟨c, e, ?_, by have := hx.1; simp at this; omega, h1, fun j hj => ?_, fun o ho => ?_⟩
    · have : (G.add w.heap.size 0 0 0 0).blk G.n = w.heap.size := by simp [Ghost.add]
      rw [this]; exact heap_alloc_new _ _
    · have := (hx.mono e').toArr j hj; simpa using this
    · have hb : (G.add w.heap.size 0 0 0 0).blk G.n = w.heap.size := by simp [Ghost.add]
      rw [hb] at ho
      exact absurd (h.imm _ _ ho) (Nat.lt_irrefl _)
  refine ⟨_, hp.1, hp.2, ?_, kept_alloc.below (fun _ f => f.elim) h.low⟩
  have := RV.ptr (G := G.add w.heap.size 0 0 0 0) (w := w.alloc (.cells c e)) A.length 0 (by simp [Ghost.add, h.n])
  have hb : (G.add w.heap.size 0 0 0 0).blk A.length = w.heap.size := by simp [Ghost.add, h.n]
  rw [hb] at this; exact this

theorem box_ok {P : Program} {G : Ghost} {A : List Box} {w : World} {base : Nat} {e : TypeId} {v : AV} {cs : List AV} {x : Value} (h : HRel G A w base) (hx : RV G w v x) (hc : cellsA v = some cs) :
    YV G w base (.ptr A.length 0) (A ++ [.cells cs]) ((Instr.box e x).run P w) := by
  obtain ⟨c1, c2⟩ := cellsA_ok hx hc
  obtain ⟨G', k1, k2, k3, k4⟩ := push_cells (e := e) h c1 c2
  exact ⟨_, _, G', by simp [Instr.box, newVar, newRow, Result.andThen], k3, k1, k2, k4⟩

theorem zeroA_ok {G : Ghost} {w : World} {z : Option Value} {cs : List AV} (h : zeroA z = some cs) : ∃ v, z = some v ∧ RL G w cs v.cells.toList ∧ ∀ y ∈ v.cells, y.oneCell' = true := by
  unfold zeroA at h
  split at h
  · rename_i v
    split at h
    · rename_i h1
      cases h
      refine ⟨v, rfl, ⟨by simp, fun i hi => ?_⟩, fun y hy => Array.all_eq_true_iff_forall_mem.1 h1 y hy⟩
      simp only [List.length_map, Array.length_toList] at hi
      rw [getD_map_const hi]
      have := const1_ok G w (v.cells.getD i undef)
      simpa [List.getD, Array.getD, hi] using this
    · cases h
  · cases h

theorem zeroValue_run {P : Program} {t : TypeId} {i : TypeInfo} {z : Value} (h : P.info? t = some i) (hz : i.zero = some z) (w : World) : (zeroValue t).run P w = .ok z w := by
  simp [zeroValue, typeInfo, h, hz, Result.andThen]

theorem alloc_ok {P : Program} {G : Ghost} {A : List Box} {w : World} {base : Nat} {e : TypeId} {ti : TI} {cs : List AV} (ht : tinf P e = some ti) (hz : ti.zero = some cs) (h : HRel G A w base) :
    YV G w base (.ptr A.length 0) (A ++ [.cells cs]) ((Instr.alloc e true (.tuple #[])).run P w) := by
  obtain ⟨i, d, h1, h2, h3, h4, h5, h6⟩ := tinf_spec ht
  rw [h5] at hz
  obtain ⟨z, hz', c1, c2⟩ := zeroA_ok (G := G) (w := w) hz
  obtain ⟨G', k1, k2, k3, k4⟩ := push_cells (e := e) h c1 c2
  exact ⟨_, _, G', by simp [Instr.alloc, zeroValue_run h1 hz', newVar, newRow, Result.andThen], k3, k1, k2, k4⟩

theorem push_tc {G : Ghost} {A : List Box} {w : World} {base : Nat} {cs : List AV} {c : Array Value} {e : TypeId} (h : HRel G A w base) (hx : RL G w cs c.toList) (h1 : ∀ y ∈ c, y.oneCell' = true) :
    ∃ G', HRel G' (A ++ [.tc e cs]) (w.alloc (.cells c e)) base ∧ Ext G w G' (w.alloc (.cells c e)) ∧ RV G' (w.alloc (.cells c e)) (.ptr A.length 0) (.pointer (some ⟨w.heap.size, 0, none⟩)) ∧ Below base w (w.alloc (.cells c e)) := by
  have hp := h.push (w' := w.alloc (.cells c e)) (.tc e cs) 0 0 0 0 kept_alloc (by simp) fun e' => by
    refine ⟨c, ?_, by have := hx.1; simp at this; omega, h1, fun j hj => ?_, fun o ho => ?_⟩
    · have : (G.add w.heap.size 0 0 0 0).blk G.n = w.heap.size := by simp [Ghost.add]
      rw [this]; exact heap_alloc_new _ _
    · have := (hx.mono e').toArr j hj; simpa using this
    · have hb : (G.add w.heap.size 0 0 0 0).blk G.n = w.heap.size := by simp [Ghost.add]
      rw [hb] at ho
      exact absurd (h.imm _ _ ho) (Nat.lt_irrefl _)
  refine ⟨_, hp.1, hp.2, ?_, kept_alloc.below (fun _ f => f.elim) h.low⟩
  have := RV.ptr (G := G.add w.heap.size 0 0 0 0) (w := w.alloc (.cells c e)) A.length 0 (by simp [Ghost.add, h.n])
  have hb : (G.add w.heap.size 0 0 0 0).blk A.length = w.heap.size := by simp [Ghost.add, h.n]
  rw [hb] at this; exact this

theorem alloc_tc_ok {P : Program} {G : Ghost} {A : List Box} {w : World} {base : Nat} {e : TypeId} {ti : TI} {cs : List AV} (ht : tinf P e = some ti) (hz : ti.zero = some cs) (h : HRel G A w base) :
    YV G w base (.ptr A.length 0) (A ++ [.tc e cs]) ((Instr.alloc e true (.tuple #[])).run P w) := by
  obtain ⟨i, d, h1, h2, h3, h4, h5, h6⟩ := tinf_spec ht
  rw [h5] at hz
  obtain ⟨z, hz', c1, c2⟩ := zeroA_ok (G := G) (w := w) hz
  obtain ⟨G', k1, k2, k3, k4⟩ := push_tc (e := e) h c1 c2
  exact ⟨_, _, G', by simp [Instr.alloc, zeroValue_run h1 hz', newVar, newRow, Result.andThen], k3, k1, k2, k4⟩

/-! ### a new row -/
/-- a kind of box that is a row -/
structure RowKind (E : AV → Bool) (tt : Option TypeId) (sz s : Nat) (mk : List (List AV) → Box) : Prop where
  ok : ∀ G w i rows, BoxOk G w i (mk rows) ↔ RowOk E G w i sz rows s ∧ Typed tt G w i
  live : ∀ rows, (mk rows).live = true
  leaf : ∀ v, isLeaf v = true → E v = true

theorem rowKind (sz s : Nat) : RowKind isLeaf none sz s (fun rows => .row sz rows s) :=
  ⟨fun G w i rows => ⟨fun h => ⟨h, fun t ht => by cases ht⟩, fun h => h.1⟩, fun _ => rfl, fun _ h => h⟩
theorem leaf_elem {v : AV} (h : isLeaf v = true) : isElem v = true := by cases v <;> simp_all [isLeaf, isElem]
theorem grKind (te : Option TypeId) (sz : Nat) : RowKind isElem te sz 0 (fun rows => .gr te sz rows) :=
  ⟨fun G w i rows => Iff.rfl, fun _ => rfl, fun _ => leaf_elem⟩

theorem push_gen {E : AV → Bool} {tt : Option TypeId} {mk : List (List AV) → Box} {G : Ghost} {A : List Box} {w : World} {base : Nat} {rows : List (List AV)} {sz s cap : Nat} {c : Array Value} {e : TypeId} (hk : RowKind E tt sz s mk) (htt : ∀ t, tt = some t → t = e)
    (h : HRel G A w base) (hc : ∀ y ∈ c, y.oneCell' = true)
    (hr : ∀ r ∈ rows, r.length = sz ∧ ∀ v ∈ r, E v = true) (hcap : rows.length ≤ cap) (hsz : cap * sz ≤ c.size) (hs : s ≤ rows.length)
    (hx : ∀ k j, k < rows.length → j < sz → RV G w (rowAt rows k j) (c.getD (k * sz + j) undef)) :
    ∃ G', HRel G' (A ++ [mk rows]) (w.alloc (.cells c e)) base ∧ Ext G w G' (w.alloc (.cells c e)) ∧ RV G' (w.alloc (.cells c e)) (.own A.length) (.slice (some ⟨w.heap.size, 0, none⟩) rows.length cap) ∧ Below base w (w.alloc (.cells c e)) := by
  have hp := h.push (w' := w.alloc (.cells c e)) (mk rows) 0 rows.length cap sz kept_alloc (by simp) fun e' => by
    have hb : (G.add w.heap.size 0 rows.length cap sz).blk G.n = w.heap.size := by simp [Ghost.add]
    have ho : (G.add w.heap.size 0 rows.length cap sz).off G.n = 0 := by simp [Ghost.add]
    have hcp : (G.add w.heap.size 0 rows.length cap sz).cap G.n = cap := by simp [Ghost.add]
    refine (hk.ok _ _ _ _).2 ⟨⟨c, e, by rw [hb]; exact heap_alloc_new _ _, hc, by simp [Ghost.add], by rw [hcp]; exact hcap, by simp [Ghost.add], by rw [ho, hcp, Nat.zero_add]; exact hsz, hs, hr, fun k j hk hj => ?_, fun o _ hh => ?_⟩, fun t ht => ⟨ho, c, by rw [hb, htt t ht]; exact heap_alloc_new _ _⟩⟩
    · rw [ho, Nat.zero_add]; exact (hx k j hk hj).mono e'
    · rw [hb] at hh
      exact absurd (h.imm _ _ hh) (Nat.lt_irrefl _)
  refine ⟨_, hp.1, hp.2, ?_, kept_alloc.below (fun _ f => f.elim) h.low⟩
  have := RV.own (G := G.add w.heap.size 0 rows.length cap sz) (w := w.alloc (.cells c e)) A.length (by simp [Ghost.add, h.n])
  simpa [Ghost.add, h.n] using this

theorem push_row {G : Ghost} {A : List Box} {w : World} {base : Nat} {rows : List (List AV)} {sz s cap : Nat} {c : Array Value} {e : TypeId} (h : HRel G A w base) (hc : ∀ y ∈ c, y.oneCell' = true)
    (hr : ∀ r ∈ rows, r.length = sz ∧ ∀ v ∈ r, isLeaf v = true) (hcap : rows.length ≤ cap) (hsz : cap * sz ≤ c.size) (hs : s ≤ rows.length)
    (hx : ∀ k j, k < rows.length → j < sz → RV G w (rowAt rows k j) (c.getD (k * sz + j) undef)) :
    ∃ G', HRel G' (A ++ [.row sz rows s]) (w.alloc (.cells c e)) base ∧ Ext G w G' (w.alloc (.cells c e)) ∧ RV G' (w.alloc (.cells c e)) (.own A.length) (.slice (some ⟨w.heap.size, 0, none⟩) rows.length cap) ∧ Below base w (w.alloc (.cells c e)) :=
  push_gen (rowKind sz s) (fun t ht => by cases ht) h hc hr hcap hsz hs hx

/-! ### append -/
/-- what can be read of a slice -/
def rowsOf (A : List Box) : AV → Option (List (List AV))
  | .slice rows => some rows
  | .nils => some []
  | .own i => match A.getD i .dead with
    | .row _ rows _ => some rows
    | _ => none
  | .str s => some (s.map fun b => [.int .u8 (b.toNat : Nat)])
  | _ => none

/-- the cells of rows, one behind the other -/
theorem flat_getD {rows : List (List AV)} {sz : Nat} (hr : ∀ r ∈ rows, r.length = sz) : ∀ k j, k < rows.length → j < sz → rows.flatten.getD (k * sz + j) .bot = rowAt rows k j := by
  induction rows with
  | nil => intro k j hk; simp at hk
  | cons r rows ih =>
    intro k j hk hj
    have h0 := hr r (by simp)
    cases k with
    | zero => simp [rowAt, List.getD, List.getElem?_append_left (by omega : j < r.length)]
    | succ k =>
      have := ih (fun r hr' => hr r (by simp [hr'])) k j (by simpa using hk) hj
      simp only [rowAt, List.getD_cons_succ] at this ⊢
      rw [← this]
      simp only [List.flatten_cons, List.getD, List.getElem?_append_right (by rw [h0, Nat.succ_mul]; omega : r.length ≤ (k + 1) * sz + j)]
      rw [h0, Nat.succ_mul, show k * sz + sz + j - sz = k * sz + j by omega]

theorem flat_length {rows : List (List AV)} {sz : Nat} (hr : ∀ r ∈ rows, r.length = sz) : rows.flatten.length = rows.length * sz := by
  induction rows with
  | nil => simp
  | cons r rows ih =>
    rw [List.flatten_cons, List.length_append, ih (fun r hr' => hr r (by simp [hr'])), hr r (by simp), List.length_cons, Nat.succ_mul]; omega


theorem RL.ofFn {G : Ghost} {w : World} {rows : List (List AV)} {sz : Nat} (hr : ∀ r ∈ rows, r.length = sz) (X : Nat → Nat → Value) (h : ∀ i j, i < rows.length → j < sz → RV G w (rowAt rows i j) (X i j)) :
    RL G w rows.flatten ((List.range (rows.length * sz)).map fun m => X (m / sz) (m % sz)) := by
  refine ⟨by simp [flat_length hr], fun m hm => ?_⟩
  rw [flat_length hr] at hm
  have hsz : 0 < sz := by rcases Nat.eq_zero_or_pos sz with h0 | h0; · simp [h0] at hm
                          · exact h0
  have hk : m / sz < rows.length := Nat.div_lt_of_lt_mul (by rw [Nat.mul_comm]; exact hm)
  have hj : m % sz < sz := Nat.mod_lt _ hsz
  have e : m / sz * sz + m % sz = m := Nat.div_add_mod' m sz
  have := flat_getD hr (m / sz) (m % sz) hk hj
  rw [e] at this
  rw [this]
  have := h _ _ hk hj
  simpa [List.getD, hm] using this

theorem elem_cell {v : AV} (h : isElem v = true) : isCell v = true := by cases v <;> simp_all [isElem, isLeaf, isCell]

theorem src_gen {P : Program} {E : AV → Bool} {G : Ghost} {w : World} {tx : TypeId} {ti : TI} {y : Value} {xs : List (List AV)} {sz : Nat} (hE : ∀ v, E v = true → isCell v = true)
    (ht : tinf P tx = some ti) (hsz : ∀ r ∈ xs, r.length = sz) : ∀ (b off len cap : Nat) (X : Nat → Nat → Value), y = .slice (some ⟨b, off, none⟩) len cap → len = xs.length → (∃ e, ti.kind = .slice e) → (∀ r ∈ xs, ∀ v ∈ r, E v = true) →
      (∀ i j, i < xs.length → j < sz → w.cell? ⟨b, off + (i * sz + j), none⟩ = some (X i j) ∧ RV G w (rowAt xs i j) (X i j)) →
      ∃ news, Src P sz tx y xs.length news w ∧ RL G w xs.flatten news ∧ (∀ r ∈ xs, ∀ v ∈ r, E v = true) := by
  obtain ⟨i, d, h1, h2, h3, h4, h5, h6⟩ := tinf_spec ht
  rintro b off len cap X rfl rfl ⟨e, he⟩ hl hX
  rw [h6] at he
  obtain rfl := tk_slice he
  have hleaf : ∀ i j, i < xs.length → j < sz → E (rowAt xs i j) = true := fun i j hi hj => by
    have hm := getD_mem (d := []) hi
    exact hl _ hm _ (getD_mem (by rw [hsz _ hm]; exact hj))
  have hsp : ∀ m, m < xs.length * sz → m / sz < xs.length ∧ m % sz < sz ∧ m / sz * sz + m % sz = m := fun m hm => by
    have hsz0 : 0 < sz := by
      rcases Nat.eq_zero_or_pos sz with h0 | h0
      · simp [h0] at hm
      · exact h0
    exact ⟨Nat.div_lt_of_lt_mul (by rw [Nat.mul_comm]; exact hm), Nat.mod_lt _ hsz0, Nat.div_add_mod' m sz⟩
  refine ⟨_, Src.ofSlice w h2 ⟨b, off, none⟩ xs.length cap _ (by simp) (fun j u hj => ?_) (fun u hu => ?_), RL.ofFn hsz X fun i j hi hj => (hX i j hi hj).2, hl⟩
  · simp only [List.getElem?_map, Option.map_eq_some_iff] at hj
    obtain ⟨m, hm, rfl⟩ := hj
    have hlt : j < xs.length * sz := by
      have := List.getElem?_eq_some_iff.1 hm
      simpa using this.1
    rw [List.getElem?_range hlt] at hm
    cases hm
    obtain ⟨a1, a2, a3⟩ := hsp j hlt
    rw [Addr.add_lit]
    have := (hX _ _ a1 a2).1
    rw [a3] at this; exact this
  · obtain ⟨m, hm, rfl⟩ := List.mem_map.1 hu
    obtain ⟨a1, a2, a3⟩ := hsp m (by simpa using hm)
    exact (hX _ _ a1 a2).2.cell (hE _ (hleaf _ _ a1 a2))

/-- the source of an append -/
theorem src_ok {P : Program} {G : Ghost} {A : List Box} {w : World} {base : Nat} {tx : TypeId} {ti : TI} {x : AV} {y : Value} {xs : List (List AV)} {sz : Nat}
    (ht : tinf P tx = some ti) (hk : (∃ e, ti.kind = .slice e) ∨ (ti.kind = .str ∧ sz = 1)) (h : HRel G A w base) (hx : RV G w x y) (hxs : rowsOf A x = some xs) (hsz : ∀ r ∈ xs, r.length = sz)
    (hs : (∃ e, ti.kind = .slice e) → ∀ s, x ≠ .str s) (hs' : ti.kind = .str → ∃ s, x = .str s) :
    ∃ news, Src P sz tx y xs.length news w ∧ RL G w xs.flatten news ∧ (∀ r ∈ xs, ∀ v ∈ r, isLeaf v = true) := by
  obtain ⟨i, d, h1, h2, h3, h4, h5, h6⟩ := tinf_spec ht
  have gen := src_gen (P := P) (E := isLeaf) (G := G) (w := w) (y := y) (fun _ => leaf_cell) ht hsz
  cases hx with
  | str s =>
    rcases hk with he | ⟨hk, rfl⟩
    · exact absurd rfl (hs he s)
    · rw [h6] at hk
      obtain rfl := tk_str hk
      simp only [rowsOf] at hxs; cases hxs
      have hb : (⟨s.toArray⟩ : ByteArray).size = s.length := by simp [ByteArray.size]
      have := Src.ofString (P := P) w h2 ⟨s.toArray⟩
      rw [hb] at this
      have hfl : (s.map fun b => [AV.int .u8 (b.toNat : Nat)]).flatten = s.map fun b => AV.int .u8 (b.toNat : Nat) := by
        clear hsz hs hs' this hb gen
        induction s with
        | nil => rfl
        | cons b s ih => simp [ih]
      refine ⟨_, by simpa using this, ?_, by simp [isLeaf]⟩
      rw [hfl]
      refine ⟨by simp [byteCells], fun i hi => ?_⟩
      have hi' : i < s.length := by simpa using hi
      have e1 : (s.map fun b => AV.int .u8 (b.toNat : Nat)).getD i .bot = .int .u8 ((s[i]).toNat : Nat) := by simp [List.getD, hi']
      have e2 : (byteCells ⟨s.toArray⟩).getD i undef = .int .u8 ((s[i]).toNat : Nat) := by simp [byteCells, List.getD, hi']
      rw [e1, e2]; exact .int _ _
  | slice0 =>
    simp only [rowsOf] at hxs; cases hxs
    rcases hk with ⟨e, he⟩ | ⟨hk, _⟩
    · rw [h6] at he
      obtain rfl := tk_slice he
      exact ⟨[], Src.ofNil w h2 0, .nil, by simp⟩
    · obtain ⟨s, hs⟩ := hs' hk; cases hs
  | nils =>
    simp only [rowsOf] at hxs; cases hxs
    rcases hk with ⟨e, he⟩ | ⟨hk, _⟩
    · rw [h6] at he
      obtain rfl := tk_slice he
      exact ⟨[], Src.ofNil w h2 0, .nil, by simp⟩
    · obtain ⟨s, hs⟩ := hs' hk; cases hs
  | sliceE a cap =>
    simp only [rowsOf] at hxs; cases hxs
    rcases hk with ⟨e, he⟩ | ⟨hk, _⟩
    · rw [h6] at he
      obtain rfl := tk_slice he
      exact ⟨[], Src.ofSlice w h2 a 0 cap [] (by simp) (by simp) (by simp), .nil, by simp⟩
    · obtain ⟨s, hs⟩ := hs' hk; cases hs
  | slice rows b off cap sz' X hr hcap hx hI hzz hh =>
    simp only [rowsOf] at hxs; cases hxs
    have he : ∃ e, ti.kind = .slice e := by
      rcases hk with he | ⟨hk, _⟩
      · exact he
      · obtain ⟨s, hs⟩ := hs' hk; cases hs
    refine gen b off _ cap X rfl rfl he (fun r hr' => (hr r hr').2) fun i j hi hj => ?_
    have hm := getD_mem (d := []) hi
    have : sz' = sz := by rw [← (hr _ hm).1, hsz _ hm]
    subst this
    exact ⟨hx i j hi hj, hh i j hi hj⟩
  | own i hi =>
    simp only [rowsOf] at hxs
    have hb := h.box i (by rw [← h.n]; exact hi)
    split at hxs <;> try cases hxs
    rename_i sz' s hb0
    rw [hb0] at hb
    obtain ⟨c, el, q1, q3, q4, q5, q6, q7, q8, q9, q10, q11⟩ := hb
    have he : ∃ e, ti.kind = .slice e := by
      rcases hk with he | ⟨hk, _⟩
      · exact he
      · obtain ⟨s, hs⟩ := hs' hk; cases hs
    refine gen _ _ _ _ (fun k j => c.getD (G.off i + (k * sz + j)) undef) rfl q4 he (fun r hr' => (q9 r hr').2) fun k j hk1 hj1 => ?_
    have hm := getD_mem (d := []) hk1
    have : sz' = sz := by rw [← (q9 _ hm).1, hsz _ hm]
    subst this
    exact ⟨cell?_of q1 (by have := row_in hk1 hj1 q5; omega), q10 k j hk1 hj1⟩
  | _ => simp [rowsOf] at hxs

end Go.Abs
