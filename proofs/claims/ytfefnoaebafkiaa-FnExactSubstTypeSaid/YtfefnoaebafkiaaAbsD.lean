/- More operations that only read. -/
import Derived.Test.YtfefnoaebafkiaaAbsC
set_option linter.unusedVariables false
set_option linter.unusedSimpArgs false
namespace Go.Abs
open Go.RowKit

def partA (ti : TI) (cs : List AV) (off : Nat) : Option (Prop × AV) :=
  match ti.kind with
  | .struct _ => some (off + ti.size ≤ cs.length, .agg ((cs.drop off).take ti.size))
  | .other => none
  | _ => some (off < cs.length, cs.getD off .bot)

theorem part_ok {P : Program} {G : Ghost} {w : World} {t : TypeId} {ti : TI} {cs : List AV} {xs : Array Value} {off : Nat} {c : Prop} {v : AV}
    (ht : tinf P t = some ti) (hl : partA ti cs off = some (c, v)) (hp : c) (hs : xs.size = cs.length) (hc : ∀ x ∈ xs, x.oneCell' = true)
    (h : ∀ i, i < cs.length → RV G w (cs.getD i .bot) (xs.getD i undef)) : ∃ x, (part t xs off).run P w = .ok x w ∧ RV G w v x := by
  obtain ⟨i, d, h1, h2, h3, h4, h5, h6⟩ := tinf_spec ht
  unfold partA at hl
  have one : (off < cs.length ∧ cs.getD off .bot = v) → isAggD d = false → ∃ x, (part t xs off).run P w = .ok x w ∧ RV G w v x := fun ⟨h7, h8⟩ hd => by
    refine ⟨xs.getD off undef, ?_, h8 ▸ h off h7⟩
    have : off < xs.size := by omega
    simp [part, isAgg_run h2, hd, Result.andThen, this, Array.getD]
  cases hd : d <;> simp only [h6, hd, tkOf] at hl <;> try (cases hl; done)
  case struct fs =>
    injection hl with hl; injection hl with hl1 hl2; subst hl1 hl2
    refine ⟨.agg (xs.extract off (off + i.size)), by simp [part, isAgg_run h2, hd, isAggD, Result.andThen, sizeOf_run h1], .agg _ _ (by simp; omega) ?_ fun j hj => ?_⟩
    · intro y hy
      refine hc y ?_
      rw [Array.mem_iff_getElem] at hy ⊢
      obtain ⟨k, hk, rfl⟩ := hy
      simp only [Array.size_extract] at hk
      exact ⟨off + k, by omega, by simp⟩
    · simp only [List.length_take, List.length_drop] at hj
      rw [getD_take _ _ _ _ (by omega), getD_drop]
      have := h (off + j) (by omega)
      have h9 : j < min (off + i.size) xs.size - off := by omega
      have h8 : off + j < xs.size := by omega
      simpa [Array.getD, h9, h8] using this
  all_goals
    injection hl with hl; injection hl with hl1 hl2
    exact one ⟨hl1 ▸ hp, hl2⟩ (by rw [hd]; rfl)

theorem field_ok {P : Program} {G : Ghost} {A : List Box} {w : World} {base : Nat} {t : TypeId} {ti tf : TI} {v : AV} {cs : List AV} {x : Value} {fs : List (Nat × TypeId × Nat)} {k off ty sz : Nat} {c : Prop}
    (ht : tinf P t = some ti) (hk : ti.kind = .struct fs) (hf : fs[k]? = some (off, ty, sz)) (htf : tinf P ty = some tf) (hv : partA tf cs off = some (c, v)) (hp : c) (h : HRel G A w base) (hx : RV G w (.agg cs) x) :
    YV G w base v A ((Instr.field t x k).run P w) := by
  obtain ⟨i, d, h1, h2, h3, h4, h5, h6⟩ := tinf_spec ht
  rw [h6] at hk
  obtain ⟨fa, rfl, rfl⟩ := tk_struct hk
  simp only [List.getElem?_map, Option.map_eq_some_iff, Array.getElem?_toList] at hf
  obtain ⟨f, hf, he⟩ := hf
  injection he with e1 e2; injection e2 with e2 e3
  subst e1 e2 e3
  cases hx with
  | agg _ xs hs hc hh =>
    obtain ⟨y, hy, hr⟩ := part_ok htf hv hp hs hc hh
    exact .same h hr (by simp [Instr.field, run_underlying h2, Result.andThen, hf, asAgg, hy])

def idxA (sz : Nat) (A : List Box) (x : AV) (n : Int) : Option (Prop × AV) :=
  match x with
  | .slice rows => some (0 ≤ n ∧ n < rows.length ∧ (rows.getD n.toNat []).length = sz, .vptr (rows.getD n.toNat []))
  | .aslice rows => some (0 ≤ n ∧ n < rows.length ∧ (rows.getD n.toNat []).length = sz, .vptr (rows.getD n.toNat []))
  | .islice b off rows => some (0 ≤ n ∧ n < rows.length ∧ (rows.getD n.toNat []).length = sz, .ivptr b (off + n.toNat * sz) (rows.getD n.toNat []))
  | .own i => match A.getD i .dead with
    | .row s rows _ => some (s = sz ∧ 0 ≤ n ∧ n < rows.length, .eptr i n.toNat 0)
    | .gr _ s rows => some (s = sz ∧ 0 ≤ n ∧ n < rows.length, .eptr i n.toNat 0)
    | _ => none
  | _ => none

theorem indexAt_ok {P : Program} {G : Ghost} {A : List Box} {w : World} {base : Nat} {t e : TypeId} {ti te : TI} {x v : AV} {k : IntKind} {n : Int} {y : Value} {c : Prop}
    (ht : tinf P t = some ti) (hk : ti.kind = .slice e) (hte : tinf P e = some te) (hv : idxA te.size A x n = some (c, v)) (hp : c) (h : HRel G A w base) (hx : RV G w x y) :
    YV G w base v A ((Instr.indexAt t y (.int k n)).run P w) := by
  obtain ⟨i, d, h1, h2, h3, h4, h5, h6⟩ := tinf_spec ht
  obtain ⟨ie, de, g1, g2, g3, g4, g5, g6⟩ := tinf_spec hte
  rw [h6] at hk
  obtain rfl := tk_slice hk
  have fin : ∀ (b off len cap : Nat), 0 ≤ n ∧ n < (len : Int) → RV G w v (.pointer (some ⟨b, off + n.toNat * te.size, none⟩)) → YV G w base v A ((Instr.indexAt t (.slice (some ⟨b, off, none⟩) len cap) (.int k n)).run P w) := by
    intro b off len cap hn hr
    refine .same h hr ?_
    simp [Instr.indexAt, asIntOf, run_underlying h2, Result.andThen, hn, sizeOf_run g1, Addr.add_lit, g3]
  cases hx <;> simp only [idxA] at hv <;> try (cases hv; done)
  case slice0 => injection hv with hv; injection hv with hv1 hv2; subst hv1; simp at hp; omega
  case sliceE => injection hv with hv; injection hv with hv1 hv2; subst hv1; simp at hp; omega
  case aslice0 => injection hv with hv; injection hv with hv1 hv2; subst hv1; simp at hp; omega
  case asliceE => injection hv with hv; injection hv with hv1 hv2; subst hv1; simp at hp; omega
  case slice rows b off cap sz X hr hcap hx hI hz hh =>
    injection hv with hv; injection hv with hv1 hv2; subst hv1 hv2
    obtain ⟨p1, p2, p3⟩ := hp
    have hlt : n.toNat < rows.length := by omega
    obtain ⟨e1, e2⟩ := hr _ (getD_mem (d := []) hlt)
    have hsz : sz = te.size := by omega
    subst hsz
    refine fin b off rows.length cap ⟨p1, p2⟩ (.vptr _ b _ (X n.toNat) e2 (fun j hj => ?_) (fun j hj => ?_) fun j hj => ?_)
    · rw [Nat.add_assoc]; exact hx _ _ hlt (by omega)
    · rw [Nat.add_assoc]; exact hI _ _ hlt (by omega)
    · exact hh _ _ hlt (by omega)
  case aslice rows b off cap sz X hr hcap hx hI hh =>
    injection hv with hv; injection hv with hv1 hv2; subst hv1 hv2
    obtain ⟨p1, p2, p3⟩ := hp
    have hlt : n.toNat < rows.length := by omega
    obtain ⟨e1, e2⟩ := hr _ (getD_mem (d := []) hlt)
    have hsz : sz = te.size := by omega
    subst hsz
    refine fin b off rows.length cap ⟨p1, p2⟩ (.vptr _ b _ (X n.toNat) e2 (fun j hj => ?_) (fun j hj => ?_) fun j hj => ?_)
    · rw [Nat.add_assoc]; exact hx _ _ hlt (by omega)
    · rw [Nat.add_assoc]; exact hI _ _ hlt (by omega)
    · exact hh _ _ hlt (by omega)
  case islice rows b off cap sz X hr hcap hx hI hz hs hl hh =>
    injection hv with hv; injection hv with hv1 hv2; subst hv1 hv2
    obtain ⟨p1, p2, p3⟩ := hp
    have hlt : n.toNat < rows.length := by omega
    obtain ⟨e1, e2⟩ := hr _ (getD_mem (d := []) hlt)
    have hsz : sz = te.size := by omega
    subst hsz
    refine fin b off rows.length cap ⟨p1, p2⟩ (.ivptr _ b _ (X n.toNat) e2 (by omega) (fun j hj => ?_) (fun j hj => ?_) hz fun j hj => ?_)
    · rw [Nat.add_assoc]; exact hx _ _ hlt (by omega)
    · rw [Nat.add_assoc]; exact hI _ _ hlt (by omega)
    · exact hh _ _ hlt (by omega)
  case own i hi =>
    have hb := h.box i (by rw [← h.n]; exact hi)
    have gen : ∀ (E : AV → Bool) (s sl : Nat) (rows : List (List AV)), RowOk E G w i s rows sl → (s = te.size ∧ 0 ≤ n ∧ n < rows.length) → v = .eptr i n.toNat 0 → YV G w base v A ((Instr.indexAt t (.slice (some ⟨G.blk i, G.off i, none⟩) (G.len i) (G.cap i)) (.int k n)).run P w) := by
      rintro E s sl rows ⟨cc, el, q1, q3, q4, q5, q6, q7, q8, q9, q10, q11⟩ ⟨p1, p2, p3⟩ rfl
      subst p1
      refine fin _ _ _ _ ⟨p2, by rw [q4]; exact p3⟩ ?_
      have := RV.eptr (w := w) i n.toNat 0 hi
      rw [q6, Nat.add_zero] at this; exact this
    split at hv <;> try cases hv
    · rename_i s rows sl hb0
      rw [hb0] at hb
      exact gen _ _ _ _ hb hp rfl
    · rename_i te' s rows hb0
      rw [hb0] at hb
      exact gen _ _ _ _ hb.1 hp rfl

theorem indexStr_ok {P : Program} {G : Ghost} {A : List Box} {w : World} {base : Nat} {t : TypeId} {ti : TI} {s : List UInt8} {k : IntKind} {n : Int} {y : Value}
    (ht : tinf P t = some ti) (hk : ti.kind = .str) (hp : 0 ≤ n ∧ n < s.length) (h : HRel G A w base) (hx : RV G w (.str s) y) :
    YV G w base (.int .u8 ((s.getD n.toNat 0).toNat : Nat)) A ((Instr.index t y (.int k n)).run P w) := by
  obtain ⟨i, d, h1, h2, h3, h4, h5, h6⟩ := tinf_spec ht
  rw [h6] at hk
  obtain rfl := tk_str hk
  cases hx
  refine .same h (.int _ _) ?_
  have hlt : n.toNat < s.length := by omega
  have e : (⟨s.toArray⟩ : ByteArray)[n.toNat]? = some (s.getD n.toNat 0) := by
    rw [getElem?_pos _ _ (by simpa [ByteArray.size] using hlt)]
    simp [ByteArray.getElem_eq_getElem_data, List.getD, hlt]
  simp [Instr.index, asIntOf, run_underlying h2, Result.andThen, hp.1, e]

/-! ### slices of strings and of data -/
def sliceA (lo : Option Int) (hi : Option Int) : AV → Option (Prop × AV)
  | .str s => some (0 ≤ lo.getD 0 ∧ lo.getD 0 ≤ hi.getD s.length ∧ hi.getD s.length ≤ s.length, .str ((s.take (hi.getD s.length).toNat).drop (lo.getD 0).toNat))
  | .slice rows => some (0 ≤ lo.getD 0 ∧ lo.getD 0 ≤ hi.getD rows.length ∧ hi.getD rows.length ≤ rows.length, .slice ((rows.take (hi.getD rows.length).toNat).drop (lo.getD 0).toNat))
  | .aslice rows => some (0 ≤ lo.getD 0 ∧ lo.getD 0 ≤ hi.getD rows.length ∧ hi.getD rows.length ≤ rows.length, .aslice ((rows.take (hi.getD rows.length).toNat).drop (lo.getD 0).toNat))
  | _ => none

def optInt : Option AV → Option (Option Int)
  | none => some none
  | some (.int _ n) => some (some n)
  | _ => none

theorem sliceBound_run {P : Program} {w : World} {k : IntKind} {n : Int} {y : Nat} {c : BoundsCode} (h : 0 ≤ n ∧ n ≤ (y : Int)) : (Instr.sliceBound (.int k n) y c).run P w = .ok n.toNat w := by
  simp [Instr.sliceBound, asIntOf, Result.andThen, h]

theorem sliceBounds_run {P : Program} {w : World} {b : Bool} {len cap : Nat} {lo hi : Option Value} {l h : Option Int}
    (hl : ∀ x, lo = some x → ∃ k n, x = .int k n ∧ l = some n) (hl0 : lo = none → l = none) (hh : ∀ x, hi = some x → ∃ k n, x = .int k n ∧ h = some n) (hh0 : hi = none → h = none)
    (h1 : 0 ≤ l.getD 0) (h2 : l.getD 0 ≤ h.getD len) (h3 : h.getD len ≤ len) (h4 : len ≤ cap) :
    (Instr.sliceBounds b len cap lo hi none).run P w = .ok ((l.getD 0).toNat, (h.getD len).toNat, cap) w := by
  unfold Instr.sliceBounds
  cases hi with
  | none =>
    obtain rfl := hh0 rfl
    cases lo with
    | none => obtain rfl := hl0 rfl; simp
    | some y =>
      obtain ⟨k', n', rfl, rfl⟩ := hl y rfl
      simp only [Option.getD_none, Option.getD_some] at *
      have q1 := fun c => sliceBound_run (P := P) (w := w) (k := k') (n := n') (y := len) (c := c) ⟨h1, h2⟩
      simp [Result.andThen, q1]
  | some x =>
    obtain ⟨k, n, rfl, rfl⟩ := hh x rfl
    cases lo with
    | none =>
      obtain rfl := hl0 rfl
      simp only [Option.getD_none, Option.getD_some] at *
      have q1 := fun c => sliceBound_run (P := P) (w := w) (k := k) (n := n) (y := cap) (c := c) ⟨h2, by omega⟩
      simp [Result.andThen, q1]
    | some y =>
      obtain ⟨k', n', rfl, rfl⟩ := hl y rfl
      simp only [Option.getD_none, Option.getD_some] at *
      have q1 := fun c => sliceBound_run (P := P) (w := w) (k := k) (n := n) (y := cap) (c := c) ⟨by omega, by omega⟩
      have q2 := fun c => sliceBound_run (P := P) (w := w) (k := k') (n := n') (y := n.toNat) (c := c) ⟨h1, by omega⟩
      simp [Result.andThen, q1, q2]

theorem slice_ok {P : Program} {G : Ghost} {A : List Box} {w : World} {base : Nat} {t : TypeId} {ti : TI} {x v : AV} {y : Value} {lo hi : Option Value} {l h' : Option Int} {c : Prop}
    (ht : tinf P t = some ti) (hk : (∃ s, ti.kind = .str ∧ x = .str s) ∨ (∃ e te rows, ti.kind = .slice e ∧ x = .slice rows ∧ tinf P e = some te ∧ ∀ r ∈ rows, r.length = te.size) ∨ (∃ e te rows, ti.kind = .slice e ∧ x = .aslice rows ∧ tinf P e = some te ∧ ∀ r ∈ rows, r.length = te.size)) (hv : sliceA l h' x = some (c, v)) (hp : c)
    (hl : ∀ x, lo = some x → ∃ k n, x = .int k n ∧ l = some n) (hl0 : lo = none → l = none) (hh : ∀ x, hi = some x → ∃ k n, x = .int k n ∧ h' = some n) (hh0 : hi = none → h' = none)
    (h : HRel G A w base) (hx : RV G w x y) :
    YV G w base v A ((Instr.sliceAt t y lo hi none).run P w) := by
  obtain ⟨i, d, h1, h2, h3, h4, h5, h6⟩ := tinf_spec ht
  rcases hk with ⟨s, hk, rfl⟩ | ⟨e, te, rows, hk, rfl, hte, hrl⟩ | ⟨e, te, rows, hk, rfl, hte, hrl⟩
  · rw [h6] at hk
    obtain rfl := tk_str hk
    simp only [sliceA] at hv
    injection hv with hv; injection hv with hv1 hv2; subst hv1 hv2
    obtain ⟨p1, p2, p3⟩ := hp
    cases hx
    have hb := sliceBounds_run (P := P) (w := w) (b := false) (len := s.length) (cap := s.length) hl hl0 hh hh0 p1 p2 p3 (Nat.le_refl _)
    refine .same h (x := .string ((⟨s.toArray⟩ : ByteArray).extract (l.getD 0).toNat (h'.getD s.length).toNat)) ?_ ?_
    · have : (⟨s.toArray⟩ : ByteArray).extract (l.getD 0).toNat (h'.getD s.length).toNat = ⟨((s.take (h'.getD s.length).toNat).drop (l.getD 0).toNat).toArray⟩ := by
        apply ByteArray.ext
        apply Array.ext'
        simp [ByteArray.data_extract, List.drop_take]
      rw [this]; exact .str _
    · have hsz : (⟨s.toArray⟩ : ByteArray).size = s.length := by simp [ByteArray.size]
      simp [Instr.sliceAt, Instr.slice, run_underlying h2, Result.andThen, hsz, hb]
  · rw [h6] at hk
    obtain rfl := tk_slice hk
    obtain ⟨ie, de, g1, g2, g3, g4, g5, g6⟩ := tinf_spec hte
    simp only [sliceA] at hv
    injection hv with hv; injection hv with hv1 hv2; subst hv1 hv2
    obtain ⟨p1, p2, p3⟩ := hp
    cases hx with
    | slice0 =>
      simp at p2 p3
      have hb := sliceBounds_run (P := P) (w := w) (b := true) (len := 0) (cap := 0) hl hl0 hh hh0 p1 p2 p3 (Nat.le_refl _)
      have q1 : (l.getD 0).toNat = 0 := by omega
      have q2 : (h'.getD ((0 : Nat) : Int)).toNat = 0 := by simp at *; omega
      rw [q1, q2] at hb
      refine .same h (x := .slice none 0 0) (by simp; exact .slice0) ?_
      simp [Instr.sliceAt, Instr.slice, run_underlying h2, Result.andThen, hb, sizeOf_run g1]
    | sliceE a cap =>
      simp at p2 p3
      have hb := sliceBounds_run (P := P) (w := w) (b := true) (len := 0) (cap := cap) hl hl0 hh hh0 p1 p2 p3 (Nat.zero_le _)
      have q1 : (l.getD 0).toNat = 0 := by omega
      have q2 : (h'.getD ((0 : Nat) : Int)).toNat = 0 := by simp at *; omega
      rw [q1, q2] at hb
      refine .same h (x := .slice (some a) 0 cap) (by simp; exact .sliceE a cap) ?_
      by_cases hz : cap = 0
      · subst hz
        simp [Instr.sliceAt, Instr.slice, run_underlying h2, Result.andThen, hb, sizeOf_run g1]
      · simp [Instr.sliceAt, Instr.slice, run_underlying h2, Result.andThen, hb, sizeOf_run g1, hz, Addr.add]
    | slice _ b off cap sz X hr hcap hx hI hzz hh' =>
      have hb := sliceBounds_run (P := P) (w := w) (b := true) (len := rows.length) (cap := cap) hl hl0 hh hh0 p1 p2 p3 hcap
      have hlen : ((rows.take (h'.getD rows.length).toNat).drop (l.getD 0).toNat).length = (h'.getD rows.length).toNat - (l.getD 0).toNat := by simp; omega
      generalize hL : (l.getD 0).toNat = L at *
      generalize hH : (h'.getD rows.length).toNat = H at *
      have hHr : H ≤ rows.length := by omega
      have hLH : L ≤ H := by omega
      by_cases hm : cap = L
      · have hz : (rows.take H).drop L = [] := by apply List.eq_nil_of_length_eq_zero; omega
        refine .same h (x := .slice (some ⟨b, off, none⟩) (H - L) (cap - L)) ?_ ?_
        · rw [hz]
          have : H - L = ([] : List (List AV)).length := by simp; omega
          rw [this]
          exact .slice [] b off _ 0 (fun _ _ => undef) (by simp) (by simp) (by simp) (by simp) (by simp) (by simp)
        · rw [hm] at hb
          simp [Instr.sliceAt, Instr.slice, run_underlying h2, Result.andThen, hb, sizeOf_run g1, hm]
      · refine .same h (x := .slice (some ⟨b, off + L * ie.size, none⟩) (H - L) (cap - L)) ?_ ?_
        · rw [← hlen]
          have hrow : ∀ i, i < H - L → ((rows.take H).drop L).getD i [] = rows.getD (L + i) [] := fun i hi => by rw [getD_drop, getD_take _ _ _ _ (by omega)]
          have hsz : rows.length ≠ 0 → sz = ie.size := fun hne => by
            have hm := getD_mem (d := []) (l := rows) (i := 0) (by omega)
            rw [← (hr _ hm).1, hrl _ hm, g3]
          have hsz' : ∀ i, i < H - L → sz = ie.size := fun i hi => hsz (by omega)
          refine .slice _ b _ _ sz (fun i j => X (L + i) j) (fun r hr' => hr r (List.mem_of_mem_take (List.mem_of_mem_drop hr'))) (by rw [hlen]; omega) (fun i j hi hj => ?_) (fun i j hi hj => ?_) (fun hq hs => hzz (by omega) hs) (fun i j hi hj => ?_)
          all_goals rw [hlen] at hi
          · rw [← hsz' i hi, show off + L * sz + (i * sz + j) = off + ((L + i) * sz + j) by rw [Nat.add_mul]; omega]; exact hx _ _ (by omega) hj
          · rw [← hsz' i hi, show off + L * sz + (i * sz + j) = off + ((L + i) * sz + j) by rw [Nat.add_mul]; omega]; exact hI _ _ (by omega) hj
          · unfold rowAt; rw [hrow i hi]; exact hh' _ _ (by omega) hj
        · simp [Instr.sliceAt, Instr.slice, run_underlying h2, Result.andThen, hb, sizeOf_run g1, hm, Addr.add_lit]
  · rw [h6] at hk
    obtain rfl := tk_slice hk
    obtain ⟨ie, de, g1, g2, g3, g4, g5, g6⟩ := tinf_spec hte
    simp only [sliceA] at hv
    injection hv with hv; injection hv with hv1 hv2; subst hv1 hv2
    obtain ⟨p1, p2, p3⟩ := hp
    cases hx with
    | aslice0 =>
      simp at p2 p3
      have hb := sliceBounds_run (P := P) (w := w) (b := true) (len := 0) (cap := 0) hl hl0 hh hh0 p1 p2 p3 (Nat.le_refl _)
      have q1 : (l.getD 0).toNat = 0 := by omega
      have q2 : (h'.getD ((0 : Nat) : Int)).toNat = 0 := by simp at *; omega
      rw [q1, q2] at hb
      refine .same h (x := .slice none 0 0) (by simp; exact .aslice0) ?_
      simp [Instr.sliceAt, Instr.slice, run_underlying h2, Result.andThen, hb, sizeOf_run g1]
    | asliceE a cap =>
      simp at p2 p3
      have hb := sliceBounds_run (P := P) (w := w) (b := true) (len := 0) (cap := cap) hl hl0 hh hh0 p1 p2 p3 (Nat.zero_le _)
      have q1 : (l.getD 0).toNat = 0 := by omega
      have q2 : (h'.getD ((0 : Nat) : Int)).toNat = 0 := by simp at *; omega
      rw [q1, q2] at hb
      refine .same h (x := .slice (some a) 0 cap) (by simp; exact .asliceE a cap) ?_
      by_cases hz : cap = 0
      · subst hz
        simp [Instr.sliceAt, Instr.slice, run_underlying h2, Result.andThen, hb, sizeOf_run g1]
      · simp [Instr.sliceAt, Instr.slice, run_underlying h2, Result.andThen, hb, sizeOf_run g1, hz, Addr.add]
    | aslice _ b off cap sz X hr hcap hx hI hh' =>
      have hb := sliceBounds_run (P := P) (w := w) (b := true) (len := rows.length) (cap := cap) hl hl0 hh hh0 p1 p2 p3 hcap
      have hlen : ((rows.take (h'.getD rows.length).toNat).drop (l.getD 0).toNat).length = (h'.getD rows.length).toNat - (l.getD 0).toNat := by simp; omega
      generalize hL : (l.getD 0).toNat = L at *
      generalize hH : (h'.getD rows.length).toNat = H at *
      have hHr : H ≤ rows.length := by omega
      have hLH : L ≤ H := by omega
      by_cases hm : cap = L
      · have hz : (rows.take H).drop L = [] := by apply List.eq_nil_of_length_eq_zero; omega
        refine .same h (x := .slice (some ⟨b, off, none⟩) (H - L) (cap - L)) ?_ ?_
        · rw [hz]
          have : H - L = ([] : List (List AV)).length := by simp; omega
          rw [this]
          exact .aslice [] b off _ 0 (fun _ _ => undef) (by simp) (by simp) (by simp) (by simp) (by simp)
        · rw [hm] at hb
          simp [Instr.sliceAt, Instr.slice, run_underlying h2, Result.andThen, hb, sizeOf_run g1, hm]
      · refine .same h (x := .slice (some ⟨b, off + L * ie.size, none⟩) (H - L) (cap - L)) ?_ ?_
        · rw [← hlen]
          have hrow : ∀ i, i < H - L → ((rows.take H).drop L).getD i [] = rows.getD (L + i) [] := fun i hi => by rw [getD_drop, getD_take _ _ _ _ (by omega)]
          have hsz : rows.length ≠ 0 → sz = ie.size := fun hne => by
            have hm := getD_mem (d := []) (l := rows) (i := 0) (by omega)
            rw [← (hr _ hm).1, hrl _ hm, g3]
          have hsz' : ∀ i, i < H - L → sz = ie.size := fun i hi => hsz (by omega)
          refine .aslice _ b _ _ sz (fun i j => X (L + i) j) (fun r hr' => hr r (List.mem_of_mem_take (List.mem_of_mem_drop hr'))) (by rw [hlen]; omega) (fun i j hi hj => ?_) (fun i j hi hj => ?_) (fun i j hi hj => ?_)
          all_goals rw [hlen] at hi
          · rw [← hsz' i hi, show off + L * sz + (i * sz + j) = off + ((L + i) * sz + j) by rw [Nat.add_mul]; omega]; exact hx _ _ (by omega) hj
          · rw [← hsz' i hi, show off + L * sz + (i * sz + j) = off + ((L + i) * sz + j) by rw [Nat.add_mul]; omega]; exact hI _ _ (by omega) hj
          · unfold rowAt; rw [hrow i hi]; exact hh' _ _ (by omega) hj
        · simp [Instr.sliceAt, Instr.slice, run_underlying h2, Result.andThen, hb, sizeOf_run g1, hm, Addr.add_lit]

end Go.Abs
