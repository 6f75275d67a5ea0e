/- Rows that own others, rows of bytes, strings of them. -/
import Derived.Test.YtfefnoaebafkiaaAbsX
import Derived.Lib.UnsafeStr
set_option linter.unusedVariables false
set_option linter.unusedSimpArgs false
namespace Go.Abs
open Go.RowKit

def litRowsN (sz : Nat) : List (List AV) → List (Nat × AV) → Option (Prop × List (List AV))
  | rows, [] => some (True, rows)
  | rows, (i, v) :: rest =>
    match cellsA v with
    | some vs => match litRowsN sz (rows.set i vs) rest with
      | some (c, r) => some (vs.length = sz ∧ i < rows.length ∧ (∀ v ∈ vs, isElem v = true) ∧ c, r)
      | none => none
    | none => none

theorem litRowsN_ok {G : Ghost} {w : World} {sz : Nat} : ∀ {ps : List (Nat × AV)} {qs : List (Nat × Value)} {rows r : List (List AV)} {cells : Array Value} {c : Prop}, RP G w ps qs →
    litRowsN sz rows ps = some (c, r) → c → (∀ r ∈ rows, r.length = sz ∧ ∀ v ∈ r, isElem v = true) → RL G w rows.flatten cells.toList → (∀ x ∈ cells, x.oneCell' = true) →
    ∃ out, Instr.fill (fun i => some (i * sz, sz)) cells qs = some out ∧ RL G w r.flatten out.toList ∧ (∀ x ∈ out, x.oneCell' = true) ∧ (∀ r' ∈ r, r'.length = sz ∧ ∀ v ∈ r', isElem v = true) ∧ r.length = rows.length
  | [], [], rows, r, cells, c, _, hf, _, hr, hcs, h1 => by
    simp only [litRowsN] at hf; cases hf
    exact ⟨cells, rfl, hcs, h1, hr, rfl⟩
  | [], _ :: _, rows, r, cells, c, hp, hf, _, hr, hcs, h1 => by have := hp.1; simp at this
  | _ :: _, [], rows, r, cells, c, hp, hf, _, hr, hcs, h1 => by have := hp.1; simp at this
  | (i, v) :: ps, (i', x) :: qs, rows, r, cells, c, hp, hf, hc, hr, hcs, h1 => by
    have e := hp.1
    simp only [List.map_cons, List.cons.injEq] at e
    obtain ⟨rfl, e⟩ := e
    simp only [litRowsN] at hf
    split at hf <;> try cases hf
    rename_i vs hcv
    split at hf <;> try cases hf
    rename_i c' r' hrest
    obtain ⟨a1, a2, a3, a4⟩ := hc
    have hr' := hp.2
    simp only [List.map_cons] at hr'
    obtain ⟨b1, b2⟩ := cellsA_ok hr'.head hcv
    have hl := b1.1
    have hcl := hcs.1
    have hfl := flat_length (fun r hr' => (hr r hr').1)
    simp at hl hcl
    have hks : i * sz + sz ≤ rows.length * sz := by
      have := Nat.mul_le_mul_right sz (Nat.succ_le_of_lt a2); rwa [Nat.succ_mul] at this
    have hflen : rows.flatten.length = cells.size := by rw [hcs.1]; simp
    have hone := fill_one (v := x) (cells := cells) (off := i * sz) (by omega)
    have hset := flatten_set (fun r hr' => (hr r hr').1) a2 a1
    obtain ⟨out, o1, o2, o3, o4, o5⟩ := litRowsN_ok (sz := sz) (qs := qs) (cells := x.cells.zipIdx.foldl (fun cs (c, j) => cs.setIfInBounds (i * sz + j) c) cells) ⟨e, hr'.tail⟩ hrest a4 (fun r2 h2 => by
        rcases List.mem_or_eq_of_mem_set h2 with h2 | h2
        · exact hr r2 h2
        · subst h2; exact ⟨a1, a3⟩) (by rw [hone, hset]; exact hcs.splice b1 (by omega)) (fun y hy => by
      have hy' : y ∈ (x.cells.zipIdx.foldl (fun cs (c, j) => cs.setIfInBounds (i * sz + j) c) cells).toList := by simpa using hy
      rw [hone] at hy'
      simp only [List.mem_append] at hy'
      rcases hy' with (hy' | hy') | hy'
      · exact h1 y (by simpa using List.mem_of_mem_take hy')
      · exact b2 y (by simpa using hy')
      · exact h1 y (by simpa using List.mem_of_mem_drop hy'))
    refine ⟨out, ?_, o2, o3, o4, by simpa using o5⟩
    simp only [Instr.fill]
    rw [if_neg (by simp; omega)]
    exact o1

theorem buildSliceN_ok {P : Program} {G : Ghost} {A : List Box} {w : World} {base : Nat} {t e : TypeId} {ti te : TI} {zc : List AV} {r : List (List AV)} {len : Nat} {ps : List (Nat × AV)} {qs : Array (Nat × Value)} {c : Prop}
    (ht : tinf P t = some ti) (hk : ti.kind = .slice e) (hte : tinf P e = some te) (hz : te.zero = some zc) (hzl : zc.length = te.size) (hzf : (zc.map lfz).all isLeaf = true) (hlen : len * te.size ≤ 16777216)
    (hf : litRowsN te.size (List.replicate len (zc.map lfz)) ps = some (c, r)) (hp : c)
    (h : HRel G A w base) (hx : RP G w ps qs.toList) : YV G w base (.own A.length) (A ++ [.gr none te.size r]) ((Instr.buildSlice t len qs).run P w) := by
  obtain ⟨i, d, h1, h2, h3, h4, h5, h6⟩ := tinf_spec ht
  obtain ⟨ie, de, g1, g2, g3, g4, g5, g6⟩ := tinf_spec hte
  rw [h6] at hk
  obtain rfl := tk_slice hk
  rw [g5] at hz
  obtain ⟨z, hz', c1, c2⟩ := zeroA_ok (G := G) (w := w) hz
  have hrep : ∀ r ∈ List.replicate len (zc.map lfz), r.length = te.size ∧ ∀ v ∈ r, isElem v = true := fun r hr => by
    obtain rfl := (List.mem_replicate.1 hr).2
    exact ⟨by simpa using hzl, fun v hv => leaf_elem (List.all_eq_true.1 hzf v hv)⟩
  obtain ⟨z1, z2⟩ := zeros_ok (n := len) (sz := te.size) c1.lfz c2 (by simpa using hzl)
  have hcells : RL G w (List.replicate len (zc.map lfz)).flatten ((Array.range (len * te.size)).map (z.cells[· % z.cells.size]!)).toList :=
    RL.ofRows (fun r hr => (hrep r hr).1) (by simp) (by simpa using z1)
  obtain ⟨out, o1, o2, o3, o4, o5⟩ := litRowsN_ok hx hf hp hrep hcells z2
  have hol : out.size = len * te.size := by
    have := o2.1
    rw [flat_length (fun r hr => (o4 r hr).1), o5] at this
    simpa using this.symm
  have hrl : r.length = len := by simpa using o5
  obtain ⟨G', p1, p2, p3, p4⟩ := push_gen (s := 0) (cap := len) (c := out) (e := e) (grKind none te.size) (fun t ht => by cases ht) h o3 o4 (by omega) (by omega) (by omega) (RL.rows (fun r hr => (o4 r hr).1) o2)
  refine ⟨_, _, G', ?_, p3, p1, p2, p4⟩
  rw [hrl]
  rw [g3] at o1 hlen
  by_cases hn : len * ie.size = 0
  · rw [hn, Array.range_zero', Array.map_empty] at o1
    simp [Instr.buildSlice, run_underlying h2, Result.andThen, sizeOf_run g1, hn, Array.range_zero', o1, newRow, Nat.not_lt.2 hlen]
  · simp [Instr.buildSlice, run_underlying h2, Result.andThen, sizeOf_run g1, zeroValue_run g1 hz', hn, o1, newRow, Nat.not_lt.2 hlen]


/-- the source of an append: a row that owns others -/
theorem srcN_ok {P : Program} {G : Ghost} {A : List Box} {w : World} {base : Nat} {tx : TypeId} {ti : TI} {i sz : Nat} {te : Option TypeId} {y : Value} {xs : List (List AV)}
    (ht : tinf P tx = some ti) (hk : ∃ e, ti.kind = .slice e) (h : HRel G A w base) (hx : RV G w (.own i) y) (hb : A.getD i .dead = .gr te sz xs) :
    ∃ news, Src P sz tx y xs.length news w ∧ RL G w xs.flatten news ∧ (∀ r ∈ xs, ∀ v ∈ r, isElem v = true) := by
  cases hx with
  | own _ hi =>
    have hbx := h.box i (by rw [← h.n]; exact hi)
    rw [hb] at hbx
    obtain ⟨⟨c, el, q1, q3, q4, q5, q6, q7, q8, q9, q10, q11⟩, _⟩ := hbx
    refine src_gen (P := P) (E := isElem) (fun _ => elem_cell) ht (fun r hr => (q9 r hr).1) (G.blk i) (G.off i) (G.len i) (G.cap i) (fun k j => c.getD (G.off i + (k * sz + j)) undef) rfl q4 hk (fun r hr => (q9 r hr).2) fun k j hk' hj => ⟨cell?_of q1 ?_, q10 k j hk' hj⟩
    have := row_in hk' hj q5
    omega

theorem kept_freeze {w : World} {p : Addr} {n : Nat} : Kept (fun b => b = p.block) w (w.freeze p n) := by
  unfold World.freeze
  split
  · exact ⟨rfl, rfl, rfl, Nat.le_refl _, fun _ _ _ => rfl⟩
  · exact ⟨rfl, rfl, rfl, by simp, fun k hk hne => by
      simp only [Array.getElem?_modify]
      rw [if_neg (fun e => hne e.symm)]⟩

def isOctet : List AV → Bool
  | [.int .u8 n] => decide (0 ≤ n ∧ n < 256)
  | _ => false
theorem isOctet_spec {r : List AV} (h : isOctet r = true) : ∃ b : UInt8, byteOf r = b ∧ r = [.int .u8 (b.toNat : Nat)] := by
  unfold isOctet at h
  split at h
  · rename_i n
    simp only [decide_eq_true_eq] at h
    refine ⟨_, rfl, ?_⟩
    have : ((UInt8.ofNat n.toNat).toNat : Int) = n := by
      have h1 : n.toNat < 256 := by omega
      simp [UInt8.toNat_ofNat, Nat.mod_eq_of_lt h1]
      omega
    simp only [byteOf, this]
  · cases h

def sdataA (A : List Box) : AV → Option (Prop × AV × List Box)
  | .nils => some (True, .nilp, A)
  | .own i => match A.getD i .dead with
    | .gr (some _) 1 rows => some (0 < rows.length, .eptr i 0 0, A)
    | _ => none
  | _ => none

def ustrA (P : Program) (A : List Box) (pt : TK) : AV → Int → Option (Prop × AV × List Box)
  | .nilp, n => some (n = 0, .str [], A)
  | .eptr i 0 0, n => match A.getD i .dead with
    | .gr (some e) 1 rows => match pt with
      | .ptr e' => match tinf P e with
        | some te => some (e' = e ∧ te.size = 1 ∧ n = rows.length ∧ 0 < rows.length ∧ (∀ r ∈ rows, isOctet r = true) ∧ rows.length ≤ 9223372036854775807, .str (rows.map byteOf), A.set i .dead)
        | none => none
      | _ => none
    | _ => none
  | _, _ => none

theorem sdata_ok {P : Program} {G : Ghost} {A A' : List Box} {w : World} {base : Nat} {ts : Array TypeId} {ty : TypeId} {x v : AV} {y : Value} {c : Prop} (hv : sdataA A x = some (c, v, A')) (hp : c) (h : HRel G A w base) (hx : RV G w x y) :
    YV G w base v A' ((Builtin.unsafeSliceData_ ts ty #[y]).run P w) := by
  cases hx with
  | nils => simp only [sdataA] at hv; cases hv; exact .same h .nilp (Lib.run_unsafeSliceData_nil w ts ty 0 0)
  | own i hi =>
    simp only [sdataA] at hv
    have hb := h.box i (by rw [← h.n]; exact hi)
    split at hv <;> try cases hv
    rename_i e rows hb0
    rw [hb0] at hb
    obtain ⟨⟨c, el, q1, q3, q4, q5, q6, q7, q8, q9, q10, q11⟩, _⟩ := hb
    refine .same h ?_ (Lib.run_unsafeSliceData_row w ts ty _ _ _ (by omega))
    have := RV.eptr (w := w) i 0 0 hi
    simpa using this
  | _ => simp [sdataA] at hv

theorem ustr_ok {P : Program} {G : Ghost} {A A' : List Box} {w : World} {base : Nat} {pt it ty : TypeId} {tp : TI} {x v : AV} {y : Value} {n : Int} {c : Prop} (ht : tinf P pt = some tp) (hv : ustrA P A tp.kind x n = some (c, v, A')) (hp : c) (h : HRel G A w base) (hx : RV G w x y) :
    YV G w base v A' ((Builtin.unsafeString_ #[pt, it] ty #[y, .int .i64 n]).run P w) := by
  obtain ⟨i0, d, h1, h2, h3, h4, h5, h6⟩ := tinf_spec ht
  cases hx with
  | nilp =>
    simp only [ustrA] at hv; cases hv
    subst hp
    exact .same h (.str []) (Lib.run_unsafeString_none w pt it ty none)
  | eptr i k j hi =>
    unfold ustrA at hv
    split at hv
    · cases ‹AV.eptr i k j = AV.nilp›
    · rename_i i' he
      cases he
      have hil : i < A.length := by rw [← h.n]; exact hi
      have hb := h.box i hil
      split at hv <;> try cases hv
      rename_i e rows hb0
      split at hv <;> try cases hv
      rename_i e' hke
      split at hv <;> try cases hv
      rename_i te hte
      obtain ⟨rfl, p2, rfl, p4, p5, p6⟩ := hp
      rw [h6] at hke
      obtain rfl := tk_ptr hke
      obtain ⟨ie, de, g1, g2, g3, g4, g5, g6⟩ := tinf_spec hte
      have hlive : (A.getD i .dead).live = true := by rw [hb0]; rfl
      rw [hb0] at hb
      obtain ⟨⟨cur, el, q1, q3, q4, q5, q6, q7, q8, q9, q10, q11⟩, qt⟩ := hb
      obtain ⟨t1, c', t2⟩ := qt _ rfl
      rw [q1] at t2; cases t2
      have hcell : ∀ j x, (rows.map byteOf)[j]? = some x → w.cell? ((⟨G.blk i, 0, none⟩ : Addr).add j) = some (.int .u8 x.toNat) := fun j x hj => by
        simp only [List.getElem?_map, Option.map_eq_some_iff] at hj
        obtain ⟨r, hr, rfl⟩ := hj
        obtain ⟨hjl, hr⟩ := List.getElem?_eq_some_iff.1 hr
        have hm := getD_mem (d := []) hjl
        have hrd : rows.getD j [] = r := by simp [List.getD, hjl, hr]
        rw [hrd] at hm
        obtain ⟨b, hb1, hb2⟩ := isOctet_spec (p5 r hm)
        have hx := q10 j 0 hjl (by omega)
        rw [t1] at hx
        simp only [rowAt, hrd, hb2] at hx
        rw [Addr.add_lit, cell?_of q1 (by rw [t1] at q7; omega)]
        simp only [Nat.mul_one, Nat.add_zero, Nat.zero_add] at hx ⊢
        generalize cur.getD j undef = q at hx
        simp at hx
        cases hx
        rw [hb1]
      have hsh : w.shape? (G.blk i) = some (e', cur.size) := by simp [World.shape?, q1]
      have hrun := Lib.run_unsafeString_row (P := P) w pt it ty e' h2 (by rw [Program.cellsOf]; simp [g1]; omega) (G.blk i) cur.size hsh (rows.map byteOf) (by intro e0; have := congrArg List.length e0; simp at this; rw [this] at p4; simp at p4) (by simp; rw [t1] at q7; omega) (by simpa using p6) hcell
      have hs := h.set (w' := w.freeze ⟨G.blk i, 0, none⟩ (rows.map byteOf).length) .dead hil hlive (kept_freeze (p := ⟨G.blk i, 0, none⟩)) (fun o ho => absurd ho (q11 o (by rw [t1]; omega))) (fun o ho => absurd ho (q11 o (by rw [t1]; omega))) fun _ => trivial
      refine ⟨_, _, G, ?_, .str _, hs.1, hs.2, (kept_freeze (p := ⟨G.blk i, 0, none⟩)).below (fun b hb => by rw [hb]; exact (h.bnd i hil hlive).1) h.low⟩
      simpa [t1] using hrun
    · cases hv
  | _ => simp [ustrA] at hv

end Go.Abs
