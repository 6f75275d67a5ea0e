/- Conversions, literals, make. -/
import Derived.Test.YtfefnoaebafkiaaAbsH
set_option linter.unusedVariables false
set_option linter.unusedSimpArgs false
namespace Go.Abs
open Go.RowKit

theorem rows_cells {G : Ghost} {A : List Box} {w : World} {base : Nat} {x : AV} {y : Value} {xs : List (List AV)} (h : HRel G A w base) (hx : RV G w x y) (hxs : rowsOf A x = some xs) (hns : ∀ s, x ≠ .str s) :
    (xs = [] ∧ ∃ a cap, y = .slice a 0 cap) ∨ ∃ (b off cap sz : Nat) (X : Nat → Nat → Value), y = .slice (some ⟨b, off, none⟩) xs.length cap ∧ (∀ r ∈ xs, r.length = sz ∧ ∀ v ∈ r, isLeaf v = true) ∧
      ∀ i j, i < xs.length → j < sz → w.cell? ⟨b, off + (i * sz + j), none⟩ = some (X i j) ∧ RV G w (rowAt xs i j) (X i j) := by
  cases hx with
  | slice0 => simp only [rowsOf] at hxs; cases hxs; exact .inl ⟨rfl, none, 0, rfl⟩
  | sliceE a cap => simp only [rowsOf] at hxs; cases hxs; exact .inl ⟨rfl, some a, cap, rfl⟩
  | nils => simp only [rowsOf] at hxs; cases hxs; exact .inl ⟨rfl, none, 0, rfl⟩
  | str s => exact absurd rfl (hns s)
  | slice rows b off cap sz X hr hcap hx hI hzz hh =>
    simp only [rowsOf] at hxs; cases hxs
    exact .inr ⟨b, off, cap, sz, X, rfl, hr, fun i j hi hj => ⟨hx i j hi hj, hh i j hi hj⟩⟩
  | own i hi =>
    simp only [rowsOf] at hxs
    have hb := h.box i (by rw [← h.n]; exact hi)
    split at hxs <;> try cases hxs
    rename_i sz' s hb0
    rw [hb0] at hb
    obtain ⟨c, el, q1, q3, q4, q5, q6, q7, q8, q9, q10, q11⟩ := hb
    exact .inr ⟨_, _, _, sz', fun k j => c.getD (G.off i + (k * sz' + j)) undef, by rw [q4], q9, fun k j hk hj => ⟨cell?_of q1 (by have := row_in hk hj q5; omega), q10 k j hk hj⟩⟩
  | _ => simp [rowsOf] at hxs

theorem isByte_spec {r : List AV} (h : isByte r = true) : ∃ n, r = [.int .u8 n] := by
  unfold isByte at h
  split at h
  · exact ⟨_, rfl⟩
  · cases h

theorem conv_ok {P : Program} {G : Ghost} {A : List Box} {w : World} {base : Nat} {src dst : TypeId} {si di : TI} {x v : AV} {y : Value} {c : Prop}
    (hs : tinf P src = some si) (hd : tinf P dst = some di) (hv : convA P A si.kind di.kind x = some (c, v)) (hp : c) (h : HRel G A w base) (hx : RV G w x y) :
    YV G w base v A ((convert src dst y).run P w) := by
  obtain ⟨i, d, h1, h2, h3, h4, h5, h6⟩ := tinf_spec hs
  obtain ⟨i', d', k1, k2, k3, k4, k5, k6⟩ := tinf_spec hd
  unfold convA at hv
  split at hv
  · rename_i kd k k' n hkd
    rw [k6] at hkd
    obtain rfl := tk_int hkd
    cases hx
    injection hv with hv; injection hv with hv1 hv2; subst hv1 hv2
    refine .same h (.int _ _) ?_
    cases d <;> simp [convert, run_underlying h2, run_underlying k2, Result.andThen, Conv.intToInt]
  · rename_i kd s hkd
    rw [k6] at hkd
    obtain rfl := tk_str hkd
    cases hx
    injection hv with hv; injection hv with hv1 hv2; subst hv1 hv2
    refine .same h (.str _) ?_
    cases d <;> simp [convert, run_underlying h2, run_underlying k2, Result.andThen]
  · rename_i x kd0 x0 hkd hns
    rw [k6] at hkd
    obtain rfl := tk_str hkd
    split at hv <;> try cases hv
    rename_i e hks
    split at hv <;> try cases hv
    rename_i te hte
    split at hv <;> try cases hv
    rename_i hk8
    obtain ⟨ie, de, g1, g2, g3, g4, g5, g6⟩ := tinf_spec hte
    rw [g6] at hk8
    obtain rfl := tk_int hk8
    rw [h6] at hks
    obtain rfl := tk_slice hks
    split at hv
    · cases hv
    rename_i hns'
    cases hq : rowsOf A x with
    | none => rw [hq] at hv; cases hv
    | some rows =>
      rw [hq] at hv; cases hv
      rcases rows_cells h hx hq (fun s => hns s) with ⟨rfl, a0, cap, rfl⟩ | ⟨b, off, cap, sz, X, rfl, hr, hX⟩
      · refine .same h (.str []) ?_
        rw [run_convert_bytes_string w src dst e a0 0 cap h2 g2 k2]
        cases a0 <;> simp [Conv.bytesToString, loadCells, loadCellsFrom, Result.andThen] <;> rfl
      · have hrow : ∀ i, i < rows.length → ∃ n, rows.getD i [] = [.int .u8 n] := fun i hi => isByte_spec (hp _ (getD_mem hi))
        have hsz : ∀ i, i < rows.length → sz = 1 := fun i hi => by
          obtain ⟨n, hn⟩ := hrow i hi
          rw [← (hr _ (getD_mem (d := []) hi)).1, hn]; rfl
        let num : List AV → Int := fun | [.int _ n] => n | _ => 0
        have hcell : ∀ i, i < rows.length → w.cell? ⟨b, off + i, none⟩ = some (.int .u8 (num (rows.getD i []))) := fun i hi => by
          obtain ⟨n, hn⟩ := hrow i hi
          have h1 := hsz i hi
          subst h1
          obtain ⟨a1, a2⟩ := hX i 0 hi (by omega)
          simp only [rowAt, hn] at a2
          rw [Nat.mul_one, Nat.add_zero] at a1
          rw [a1, hn]
          generalize X i 0 = q at a2
          simp at a2
          cases a2; rfl
        have hl : (loadCells ⟨b, off, none⟩ rows.length).run P w = .ok ((rows.map num).map (Value.int .u8)).toArray w := by
          rw [run_loadCells (P := P) w ⟨b, off, none⟩ rows.length (fun j => .int .u8 (num (rows.getD j []))) (fun j hj => by rw [Addr.add_lit]; exact hcell j hj)]
          congr 2
          apply List.ext_getElem?
          intro i
          by_cases hi : i < rows.length
          · simp [hi, List.getD]
          · simp [hi]
        refine .same h (.str _) ?_
        rw [run_convert_bytes_string w src dst e (some ⟨b, off, none⟩) rows.length cap h2 g2 k2, run_bytesToString w ⟨b, off, none⟩ rows.length cap _ hl]
        have key : ∀ (l : List (List AV)) (s : ByteArray), (∀ r ∈ l, isByte r = true) → (l.map num).foldl (fun r n => r.push (UInt8.ofNat n.toNat)) s = ⟨s.data ++ (l.map byteOf).toArray⟩ := by
          intro l
          induction l with
          | nil => intro s _; simp
          | cons r l ih =>
            intro s hl
            obtain ⟨n, rfl⟩ := isByte_spec (hl r (by simp))
            simp only [List.map_cons, List.foldl_cons]
            rw [ih _ fun r hr => hl r (by simp [hr])]
            simp [num, byteOf, ByteArray.push]
        rw [key rows _ hp]
        have he0 : ByteArray.empty.data = #[] := rfl
        rw [he0]
        simp
  · cases hv

/-! ### literals -/
theorem foldl_splice (off : Nat) : ∀ (l : List Value) (k : Nat) (cs : Array Value), off + k + l.length ≤ cs.size →
    ((l.zipIdx k).foldl (fun cs (x : Value × Nat) => cs.setIfInBounds (off + x.2) x.1) cs).toList = cs.toList.take (off + k) ++ l ++ cs.toList.drop (off + k + l.length)
  | [], k, cs, h => by simp
  | v :: l, k, cs, h => by
    simp only [List.length_cons] at h
    simp only [List.zipIdx_cons, List.foldl_cons]
    rw [foldl_splice off l (k + 1) _ (by simp; omega)]
    simp only [Array.toList_setIfInBounds]
    have h1 : (cs.toList.set (off + k) v).take (off + (k + 1)) = cs.toList.take (off + k) ++ [v] := by
      rw [← Nat.add_assoc, List.take_add_one]
      rw [List.take_set_of_le (Nat.le_refl _)]
      simp [show off + k < cs.size by omega]
    have h2 : (cs.toList.set (off + k) v).drop (off + (k + 1) + l.length) = cs.toList.drop (off + k + (l.length + 1)) := by
      rw [List.drop_set_of_lt (by omega)]
      congr 1; omega
    rw [h1, h2]
    simp

theorem fill_one {v : Value} {cells : Array Value} {off : Nat} (h : off + v.cells.size ≤ cells.size) :
    (v.cells.zipIdx.foldl (fun cs (c, j) => cs.setIfInBounds (off + j) c) cells).toList = cells.toList.take off ++ v.cells.toList ++ cells.toList.drop (off + v.cells.toList.length) := by
  have := foldl_splice off v.cells.toList 0 cells (by simpa using h)
  simp only [Nat.add_zero] at this
  rw [← this, ← Array.foldl_toList]
  simp

def fillA (place : Nat → Option (Nat × Nat)) : List AV → List (Nat × AV) → Option (Prop × List AV)
  | cs, [] => some (True, cs)
  | cs, (i, v) :: rest =>
    match place i, cellsA v with
    | some (off, sz), some vs => match fillA place (cs.take off ++ vs ++ cs.drop (off + vs.length)) rest with
      | some (c, r) => some (vs.length = sz ∧ off + sz ≤ cs.length ∧ c, r)
      | none => none
    | _, _ => none

theorem RL.splice {G : Ghost} {w : World} {cs vs : List AV} {xs ys : List Value} {off : Nat} (h : RL G w cs xs) (hv : RL G w vs ys) (ho : off + vs.length ≤ cs.length) :
    RL G w (cs.take off ++ vs ++ cs.drop (off + vs.length)) (xs.take off ++ ys ++ xs.drop (off + ys.length)) := by
  have e1 := h.1
  have e2 := hv.1
  refine ⟨by rw [splice_length ho, splice_length (by omega)]; exact e1, fun i hi => ?_⟩
  rw [splice_length ho] at hi
  rw [splice_getD ho, splice_getD (by omega)]
  by_cases hin : off ≤ i ∧ i < off + vs.length
  · rw [if_pos hin, if_pos (by omega)]; exact hv.2 _ (by omega)
  · rw [if_neg hin, if_neg (by omega)]; exact h.2 i hi

def RP (G : Ghost) (w : World) (ps : List (Nat × AV)) (qs : List (Nat × Value)) : Prop := ps.map (·.1) = qs.map (·.1) ∧ RL G w (ps.map (·.2)) (qs.map (·.2))

theorem fillA_ok {G : Ghost} {w : World} {place place' : Nat → Option (Nat × Nat)} : ∀ {ps : List (Nat × AV)} {qs : List (Nat × Value)} {cs r : List AV} {cells : Array Value} {c : Prop}, RP G w ps qs → (∀ i q, place i = some q → place' i = some q) →
    fillA place cs ps = some (c, r) → c → RL G w cs cells.toList → (∀ x ∈ cells, x.oneCell' = true) → ∃ out, Instr.fill place' cells qs = some out ∧ RL G w r out.toList ∧ (∀ x ∈ out, x.oneCell' = true)
  | [], [], cs, r, cells, c, _, _, hf, _, hcs, h1 => by
    simp only [fillA] at hf; cases hf
    exact ⟨cells, rfl, hcs, h1⟩
  | [], _ :: _, cs, r, cells, c, hp, _, hf, _, hcs, h1 => by have := hp.1; simp at this
  | _ :: _, [], cs, r, cells, c, hp, _, hf, _, hcs, h1 => by have := hp.1; simp at this
  | (i, v) :: ps, (i', x) :: qs, cs, r, cells, c, hp, hpl, hf, hc, hcs, h1 => by
    have e := hp.1
    simp only [List.map_cons, List.cons.injEq] at e
    obtain ⟨rfl, e⟩ := e
    simp only [fillA] at hf
    split at hf <;> try cases hf
    rename_i off sz vs hpi hcv
    split at hf <;> try cases hf
    rename_i c' r' hrest
    obtain ⟨a1, a2, a3⟩ := hc
    have hr := hp.2
    simp only [List.map_cons] at hr
    obtain ⟨b1, b2⟩ := cellsA_ok hr.head hcv
    have hl := b1.1
    have hcl := hcs.1
    simp at hl hcl
    have hone := fill_one (v := x) (cells := cells) (off := off) (by omega)
    obtain ⟨out, o1, o2, o3⟩ := fillA_ok (place := place) (place' := place') (qs := qs) (cells := x.cells.zipIdx.foldl (fun cs (c, j) => cs.setIfInBounds (off + j) c) cells) ⟨e, hr.tail⟩ hpl hrest a3 (by rw [hone]; exact hcs.splice b1 (by omega)) (fun y hy => by
      have hy' : y ∈ (x.cells.zipIdx.foldl (fun cs (c, j) => cs.setIfInBounds (off + j) c) cells).toList := by simpa using hy
      rw [hone] at hy'
      simp only [List.mem_append] at hy'
      rcases hy' with (hy' | hy') | hy'
      · exact h1 y (by simpa using List.mem_of_mem_take hy')
      · exact b2 y (by simpa using hy')
      · exact h1 y (by simpa using List.mem_of_mem_drop hy'))
    refine ⟨out, ?_, o2, o3⟩
    simp only [Instr.fill, hpl _ _ hpi]
    rw [if_neg (by simp; omega)]
    exact o1

theorem places_ok {P : Program} : ∀ (fs : List Field), (∀ f ∈ fs, P.cellsOf f.type ≠ 0) → fs.mapM (fun f => (P.info? f.type).map fun i => (f.offset, i.size)) = some (fs.map fun f => (f.offset, P.cellsOf f.type))
  | [], _ => by simp
  | f :: fs, h => by
    have h0 := h f (by simp)
    have ih := places_ok fs fun f hf => h f (by simp [hf])
    simp only [Program.cellsOf] at h0
    cases hi : P.info? f.type with
    | none => simp [hi] at h0
    | some i =>
      simp only [List.mapM_cons, hi, ih]
      simp [Program.cellsOf, hi]

theorem build_ok {P : Program} {G : Ghost} {A : List Box} {w : World} {base : Nat} {t : TypeId} {ti : TI} {fs : List (Nat × TypeId × Nat)} {zc r : List AV} {ps : List (Nat × AV)} {qs : Array (Nat × Value)} {c : Prop}
    (ht : tinf P t = some ti) (hk : ti.kind = .struct fs) (hz : ti.zero = some zc) (hnz : fs.all (fun f => f.2.2 != 0) = true) (hf : fillA (fun i => (fs[i]?).map fun f => (f.1, f.2.2)) zc ps = some (c, r)) (hp : c)
    (h : HRel G A w base) (hx : RP G w ps qs.toList) : YV G w base (.agg r) A ((Instr.build t qs).run P w) := by
  obtain ⟨i, d, h1, h2, h3, h4, h5, h6⟩ := tinf_spec ht
  rw [h6] at hk
  obtain ⟨fa, rfl, rfl⟩ := tk_struct hk
  rw [h5] at hz
  obtain ⟨z, hz', c1, c2⟩ := zeroA_ok (G := G) (w := w) hz
  have hpl := places_ok (P := P) fa.toList (fun f hf => by
    rw [List.all_eq_true] at hnz
    simpa using hnz (f.offset, f.type, P.cellsOf f.type) (List.mem_map.2 ⟨f, hf, rfl⟩))
  obtain ⟨out, o1, o2, o3⟩ := fillA_ok (place' := fun i => ((fa.toList.map fun f => (f.offset, P.cellsOf f.type)).toArray)[i]?) (cells := z.cells) hx (fun i q hq => by
    simp only [List.getElem?_map, Option.map_map, Option.map_eq_some_iff] at hq
    obtain ⟨f, hf, rfl⟩ := hq
    simp only [Array.getElem?_toList] at hf
    simp [hf]) hf hp c1 c2
  have hb : P.built t qs.toList = some out := by
    unfold Program.built
    simp only [h1, h2, hz', hpl]
    exact o1
  refine .same h (.agg r out (by have := o2.1; simp at this; omega) o3 fun i hi => ?_) (run_build w t qs out hb)
  have := o2.toArr i hi
  simpa using this

end Go.Abs
