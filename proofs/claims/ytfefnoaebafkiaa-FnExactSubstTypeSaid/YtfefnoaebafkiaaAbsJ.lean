/- Slices that are written out, and make. -/
import Derived.Test.YtfefnoaebafkiaaAbsI
set_option linter.unusedVariables false
set_option linter.unusedSimpArgs false
namespace Go.Abs
open Go.RowKit

def lfz : AV → AV
  | .nils => .slice []
  | v => v

theorem lfz_ok {G : Ghost} {w : World} {v : AV} {x : Value} (h : RV G w v x) : RV G w (lfz v) x := by
  cases h with
  | nils => exact .slice0
  | _ => simp only [lfz]; constructor <;> assumption

theorem RL.lfz {G : Ghost} {w : World} {vs : List AV} {xs : List Value} (h : RL G w vs xs) : RL G w (vs.map Abs.lfz) xs :=
  ⟨by simp [h.1], fun i hi => by
    simp only [List.length_map] at hi
    have := lfz_ok (h.2 i hi)
    simpa [List.getD, hi] using this⟩

theorem flatten_set {rows : List (List AV)} {sz i : Nat} {r : List AV} (hr : ∀ r ∈ rows, r.length = sz) (hi : i < rows.length) (h : r.length = sz) :
    (rows.set i r).flatten = rows.flatten.take (i * sz) ++ r ++ rows.flatten.drop (i * sz + r.length) := by
  induction rows generalizing i with
  | nil => simp at hi
  | cons r0 rows ih =>
    have h0 := hr r0 (by simp)
    cases i with
    | zero =>
      simp only [List.set_cons_zero, List.flatten_cons, Nat.zero_mul, List.take_zero, List.nil_append, Nat.zero_add]
      rw [show r.length = r0.length by omega, List.drop_left]
    | succ i =>
      have := ih (fun r hr' => hr r (by simp [hr'])) (by simpa using hi)
      simp only [List.set_cons_succ, List.flatten_cons, this]
      have e1 : (i + 1) * sz = r0.length + i * sz := by rw [h0, Nat.succ_mul]; omega
      rw [e1, List.take_length_add_append, show r0.length + i * sz + r.length = r0.length + (i * sz + r.length) by omega, List.drop_length_add_append]
      simp

def litRows (sz : Nat) : List (List AV) → List (Nat × AV) → Option (Prop × List (List AV))
  | rows, [] => some (True, rows)
  | rows, (i, v) :: rest =>
    match cellsA v with
    | some vs => match litRows sz (rows.set i vs) rest with
      | some (c, r) => some (vs.length = sz ∧ i < rows.length ∧ (∀ v ∈ vs, isLeaf v = true) ∧ c, r)
      | none => none
    | none => none

theorem litRows_ok {G : Ghost} {w : World} {sz : Nat} : ∀ {ps : List (Nat × AV)} {qs : List (Nat × Value)} {rows r : List (List AV)} {cells : Array Value} {c : Prop}, RP G w ps qs →
    litRows sz rows ps = some (c, r) → c → (∀ r ∈ rows, r.length = sz ∧ ∀ v ∈ r, isLeaf v = true) → RL G w rows.flatten cells.toList → (∀ x ∈ cells, x.oneCell' = true) →
    ∃ out, Instr.fill (fun i => some (i * sz, sz)) cells qs = some out ∧ RL G w r.flatten out.toList ∧ (∀ x ∈ out, x.oneCell' = true) ∧ (∀ r' ∈ r, r'.length = sz ∧ ∀ v ∈ r', isLeaf v = true) ∧ r.length = rows.length
  | [], [], rows, r, cells, c, _, hf, _, hr, hcs, h1 => by
    simp only [litRows] at hf; cases hf
    exact ⟨cells, rfl, hcs, h1, hr, rfl⟩
  | [], _ :: _, rows, r, cells, c, hp, hf, _, hr, hcs, h1 => by have := hp.1; simp at this
  | _ :: _, [], rows, r, cells, c, hp, hf, _, hr, hcs, h1 => by have := hp.1; simp at this
  | (i, v) :: ps, (i', x) :: qs, rows, r, cells, c, hp, hf, hc, hr, hcs, h1 => by
    have e := hp.1
    simp only [List.map_cons, List.cons.injEq] at e
    obtain ⟨rfl, e⟩ := e
    simp only [litRows] at hf
    split at hf <;> try cases hf
    rename_i vs hcv
    split at hf <;> try cases hf
    rename_i c' r' hrest
    obtain ⟨a1, a2, a3, a4⟩ := hc
    have hr' := hp.2
    simp only [List.map_cons] at hr'
    obtain ⟨b1, b2⟩ := cellsA_ok hr'.head hcv
    have hl := b1.1
    have hcl := hcs.1
    have hfl := flat_length (fun r hr' => (hr r hr').1)
    simp at hl hcl
    have hks : i * sz + sz ≤ rows.length * sz := by
      have := Nat.mul_le_mul_right sz (Nat.succ_le_of_lt a2); rwa [Nat.succ_mul] at this
    have hflen : rows.flatten.length = cells.size := by rw [hcs.1]; simp
    have hone := fill_one (v := x) (cells := cells) (off := i * sz) (by omega)
    have hset := flatten_set (fun r hr' => (hr r hr').1) a2 a1
    obtain ⟨out, o1, o2, o3, o4, o5⟩ := litRows_ok (sz := sz) (qs := qs) (cells := x.cells.zipIdx.foldl (fun cs (c, j) => cs.setIfInBounds (i * sz + j) c) cells) ⟨e, hr'.tail⟩ hrest a4 (fun r2 h2 => by
        rcases List.mem_or_eq_of_mem_set h2 with h2 | h2
        · exact hr r2 h2
        · subst h2; exact ⟨a1, a3⟩) (by rw [hone, hset]; exact hcs.splice b1 (by omega)) (fun y hy => by
      have hy' : y ∈ (x.cells.zipIdx.foldl (fun cs (c, j) => cs.setIfInBounds (i * sz + j) c) cells).toList := by simpa using hy
      rw [hone] at hy'
      simp only [List.mem_append] at hy'
      rcases hy' with (hy' | hy') | hy'
      · exact h1 y (by simpa using List.mem_of_mem_take hy')
      · exact b2 y (by simpa using hy')
      · exact h1 y (by simpa using List.mem_of_mem_drop hy'))
    refine ⟨out, ?_, o2, o3, o4, by simpa using o5⟩
    simp only [Instr.fill]
    rw [if_neg (by simp; omega)]
    exact o1

theorem zeros_getD {z : Array Value} {sz n m : Nat} (hz : z.size = sz) (hm : m < n * sz) : ((Array.range (n * sz)).map (z[· % z.size]!)).getD m undef = z.getD (m % sz) undef := by
  have hsz : 0 < sz := by
    rcases Nat.eq_zero_or_pos sz with h0 | h0
    · simp [h0] at hm
    · exact h0
  have : m % z.size < z.size := by rw [hz]; exact Nat.mod_lt _ hsz
  rw [Array.getD_eq_getD_getElem?]
  simp only [Array.getElem?_map, Array.getElem?_range, hm, if_true, Option.map_some, Option.getD_some]
  rw [getElem!_pos z (m % z.size) this, ← hz]
  simp [Array.getD, this]

theorem zeros_ok {G : Ghost} {w : World} {z : Value} {zr : List AV} {sz n : Nat} (hz : RL G w zr z.cells.toList) (h1 : ∀ y ∈ z.cells, y.oneCell' = true) (hl : zr.length = sz) :
    (∀ k j, k < n → j < sz → RV G w (rowAt (List.replicate n zr) k j) (((Array.range (n * sz)).map (z.cells[· % z.cells.size]!)).getD (k * sz + j) undef)) ∧ ∀ y ∈ (Array.range (n * sz)).map (z.cells[· % z.cells.size]!), y.oneCell' = true := by
  have hzs : z.cells.size = sz := by have := hz.1; simp at this; omega
  refine ⟨fun k j hk hj => ?_, fun y hy => ?_⟩
  · rw [zeros_getD hzs (row_in (rows := List.replicate n zr) (by simpa using hk) hj (by simp))]
    have : (k * sz + j) % sz = j := by rw [Nat.mul_comm, Nat.mul_add_mod]; exact Nat.mod_eq_of_lt hj
    rw [this]
    have h2 := hz.2 j (by omega)
    have hjz : j < z.cells.size := by omega
    simpa [rowAt, List.getD, hk, Array.getD, hjz] using h2
  · simp only [Array.mem_map, Array.mem_range] at hy
    obtain ⟨m, hm, rfl⟩ := hy
    have hsz : 0 < sz := by
      rcases Nat.eq_zero_or_pos sz with h0 | h0
      · simp [h0] at hm
      · exact h0
    have : m % z.cells.size < z.cells.size := by rw [hzs]; exact Nat.mod_lt _ hsz
    rw [getElem!_pos z.cells (m % z.cells.size) this]
    exact h1 _ (Array.getElem_mem _)

theorem RL.ofRows {G : Ghost} {w : World} {rows : List (List AV)} {sz : Nat} {c : Array Value} (hr : ∀ r ∈ rows, r.length = sz) (hc : c.size = rows.length * sz)
    (h : ∀ k j, k < rows.length → j < sz → RV G w (rowAt rows k j) (c.getD (k * sz + j) undef)) : RL G w rows.flatten c.toList := by
  refine ⟨by rw [flat_length hr]; simp [hc], fun m hm => ?_⟩
  rw [flat_length hr] at hm
  have hsz : 0 < sz := by
    rcases Nat.eq_zero_or_pos sz with h0 | h0
    · simp [h0] at hm
    · exact h0
  have hk : m / sz < rows.length := Nat.div_lt_of_lt_mul (by rw [Nat.mul_comm]; exact hm)
  have hj : m % sz < sz := Nat.mod_lt _ hsz
  have e : m / sz * sz + m % sz = m := Nat.div_add_mod' m sz
  have := flat_getD hr (m / sz) (m % sz) hk hj
  rw [e] at this
  rw [this]
  have := h _ _ hk hj
  rw [e] at this
  have hmc : m < c.size := by omega
  simpa [Array.getD, List.getD, hmc] using this

theorem RL.rows {G : Ghost} {w : World} {rows : List (List AV)} {sz : Nat} {c : Array Value} (hr : ∀ r ∈ rows, r.length = sz) (h : RL G w rows.flatten c.toList) :
    ∀ k j, k < rows.length → j < sz → RV G w (rowAt rows k j) (c.getD (k * sz + j) undef) := fun k j hk hj => by
  have hm := row_in hk hj (Nat.le_refl _)
  have hl := flat_length hr
  have := h.2 (k * sz + j) (by omega)
  rw [flat_getD hr k j hk hj] at this
  have hmc : k * sz + j < c.size := by have := h.1; simp at this; simp at hl; omega
  simpa [Array.getD, List.getD, hmc] using this

theorem buildSlice_ok {P : Program} {G : Ghost} {A : List Box} {w : World} {base : Nat} {t e : TypeId} {ti te : TI} {zc : List AV} {r : List (List AV)} {len : Nat} {ps : List (Nat × AV)} {qs : Array (Nat × Value)} {c : Prop}
    (ht : tinf P t = some ti) (hk : ti.kind = .slice e) (hte : tinf P e = some te) (hz : te.zero = some zc) (hzl : zc.length = te.size) (hzf : (zc.map lfz).all isLeaf = true) (hlen : len * te.size ≤ 16777216)
    (hf : litRows te.size (List.replicate len (zc.map lfz)) ps = some (c, r)) (hp : c)
    (h : HRel G A w base) (hx : RP G w ps qs.toList) : YV G w base (.own A.length) (A ++ [.row te.size r 0]) ((Instr.buildSlice t len qs).run P w) := by
  obtain ⟨i, d, h1, h2, h3, h4, h5, h6⟩ := tinf_spec ht
  obtain ⟨ie, de, g1, g2, g3, g4, g5, g6⟩ := tinf_spec hte
  rw [h6] at hk
  obtain rfl := tk_slice hk
  rw [g5] at hz
  obtain ⟨z, hz', c1, c2⟩ := zeroA_ok (G := G) (w := w) hz
  have hrep : ∀ r ∈ List.replicate len (zc.map lfz), r.length = te.size ∧ ∀ v ∈ r, isLeaf v = true := fun r hr => by
    obtain rfl := (List.mem_replicate.1 hr).2
    exact ⟨by simpa using hzl, fun v hv => List.all_eq_true.1 hzf v hv⟩
  obtain ⟨z1, z2⟩ := zeros_ok (n := len) (sz := te.size) c1.lfz c2 (by simpa using hzl)
  have hcells : RL G w (List.replicate len (zc.map lfz)).flatten ((Array.range (len * te.size)).map (z.cells[· % z.cells.size]!)).toList :=
    RL.ofRows (fun r hr => (hrep r hr).1) (by simp) (by simpa using z1)
  obtain ⟨out, o1, o2, o3, o4, o5⟩ := litRows_ok hx hf hp hrep hcells z2
  have hol : out.size = len * te.size := by
    have := o2.1
    rw [flat_length (fun r hr => (o4 r hr).1), o5] at this
    simpa using this.symm
  have hrl : r.length = len := by simpa using o5
  obtain ⟨G', p1, p2, p3, p4⟩ := push_row (s := 0) (cap := len) (c := out) (e := e) h o3 o4 (by omega) (by omega) (by omega) (RL.rows (fun r hr => (o4 r hr).1) o2)
  refine ⟨_, _, G', ?_, p3, p1, p2, p4⟩
  rw [hrl]
  rw [g3] at o1 hlen
  by_cases hn : len * ie.size = 0
  · rw [hn, Array.range_zero', Array.map_empty] at o1
    simp [Instr.buildSlice, run_underlying h2, Result.andThen, sizeOf_run g1, hn, Array.range_zero', o1, newRow, Nat.not_lt.2 hlen]
  · simp [Instr.buildSlice, run_underlying h2, Result.andThen, sizeOf_run g1, zeroValue_run g1 hz', hn, o1, newRow, Nat.not_lt.2 hlen]

theorem makeSlice_ok {P : Program} {G : Ghost} {A : List Box} {w : World} {base : Nat} {t e : TypeId} {ti te : TI} {zc : List AV} {kl kc : IntKind} {l c : Int}
    (ht : tinf P t = some ti) (hk : ti.kind = .slice e) (hte : tinf P e = some te) (hz : te.zero = some zc) (hzl : zc.length = te.size) (hzf : (zc.map lfz).all isLeaf = true) (hb : te.bytes ≤ 65536)
    (h0 : 0 ≤ l) (hlc : l ≤ c) (hc : c ≤ 1073741824)
    (h : HRel G A w base) : YV G w base (.own A.length) (A ++ [.row te.size (List.replicate l.toNat (zc.map lfz)) 0]) ((Instr.makeSlice t (.int kl l) (.int kc c)).run P w) := by
  obtain ⟨i, d, h1, h2, h3, h4, h5, h6⟩ := tinf_spec ht
  obtain ⟨ie, de, g1, g2, g3, g4, g5, g6⟩ := tinf_spec hte
  rw [h6] at hk
  obtain rfl := tk_slice hk
  rw [g5] at hz
  obtain ⟨z, hz', c1, c2⟩ := zeroA_ok (G := G) (w := w) hz
  obtain ⟨z1, z2⟩ := zeros_ok (n := c.toNat) (sz := te.size) c1.lfz c2 (by simpa using hzl)
  have hmul : (ie.bytes : Int) * c ≤ 281474976710656 := by
    have : ie.bytes * c.toNat ≤ 65536 * 1073741824 := Nat.mul_le_mul (by omega) (by omega)
    have h2 : ((ie.bytes * c.toNat : Nat) : Int) = (ie.bytes : Int) * c := by rw [Int.natCast_mul]; congr 1; omega
    omega
  have hrun := run_make w t e ie z h2 g1 hz' kl kc l c h0 hlc hmul (by omega)
  have hln : l.toNat ≤ c.toNat := by omega
  obtain ⟨G', p1, p2, p3, p4⟩ := push_row (rows := List.replicate l.toNat (zc.map lfz)) (sz := te.size) (s := 0) (cap := c.toNat) (c := madeCells z.cells (c.toNat * ie.size)) (e := e) h (fun y hy => by rw [← g3] at hy; exact z2 y hy) (fun r hr => by
      obtain rfl := (List.mem_replicate.1 hr).2
      exact ⟨by simpa using hzl, fun v hv => List.all_eq_true.1 hzf v hv⟩) (by simpa using hln) (by rw [size_madeCells, g3]; exact Nat.le_refl _) (by omega) (fun k j hk hj => by
    simp only [List.length_replicate] at hk
    have := z1 k j (by omega) hj
    have e1 : rowAt (List.replicate l.toNat (zc.map lfz)) k j = rowAt (List.replicate c.toNat (zc.map lfz)) k j := by
      simp [rowAt, List.getD, hk, show k < c.toNat by omega]
    rw [e1, ← g3]; exact this)
  refine ⟨_, _, G', hrun, ?_, p1, p2, p4⟩
  simpa using p3

end Go.Abs
