/- Opening what came in: values of types that are made of integers, truths, texts, slices and structs, to any depth. -/
import Derived.Test.YtfefnoaebafkiaaAbsR
set_option linter.unusedVariables false
set_option linter.unusedSimpArgs false
namespace Go.Abs
open Go.RowKit Go.ChangeShapes Go.WideShapes Go.ChangeAt

/-- the cells of a value of a type -/
inductive Cells (P : Program) : TypeId → List AV → Prop
  | int {t : TypeId} {k : IntKind} {n : Int} : P.underlying t = some (.int k) → (Lit.int k n).wf = true → Cells P t [.int k n]
  | bool {t : TypeId} {b : Bool} : P.underlying t = some .bool → Cells P t [.bool b]
  | str {t : TypeId} {s : List UInt8} : P.underlying t = some .string → s.length ≤ maxLen → Cells P t [.str s]
  | slice {t e : TypeId} {rows : List (List AV)} : P.underlying t = some (.slice e) → rows.length ≤ maxLen → (∀ r ∈ rows, Cells P e r) → Cells P t [.aslice rows]
  | struct {t : TypeId} {fs : Array Field} {cs : List AV} : P.underlying t = some (.struct fs) → cs.length = P.cellsOf t →
      (∀ f ∈ fs.toList, Cells P f.type ((cs.drop f.offset).take (P.cellsOf f.type))) → Cells P t cs

def tileB (P : Program) (n : Nat) : Nat → List Field → Bool
  | o, [] => o == n
  | o, f :: l => f.offset == o && tileB P n (o + P.cellsOf f.type) l

/-- a closed set of such types -/
def plainB (P : Program) (S : List TypeId) : Bool := S.all fun t =>
  match P.underlying t with
  | some (.int _) | some .bool | some .string => P.cellsOf t == 1
  | some (.slice e) => P.cellsOf t == 1 && S.contains e && decide (0 < P.cellsOf e)
  | some (.struct fs) => tileB P (P.cellsOf t) 0 fs.toList && fs.toList.all fun f => S.contains f.type
  | _ => false

structure Opened (P : Program) (W : World) (t : TypeId) (cs : List Value) (as : List AV) : Prop where
  typed : Cells P t as
  len : as.length = cs.length
  leaf : ∀ v ∈ as, isLeaf v = true
  rel : ∀ i, i < as.length → RV (start W) W (as.getD i .bot) (cs.getD i undef)

section
variable {H : Type} {enc : TypeId × Value → H} {P : Program} {W : World} {S : List TypeId}

theorem list_of {α : Type} (d : α) {Q : Nat → α → Prop} : ∀ {n : Nat}, (∀ i, i < n → ∃ r, Q i r) → ∃ l : List α, l.length = n ∧ ∀ i, i < n → Q i (l.getD i d)
  | 0, _ => ⟨[], rfl, fun i h => by omega⟩
  | n + 1, h => by
    obtain ⟨l, hl, hq⟩ := list_of d (n := n) fun i hi => h i (by omega)
    obtain ⟨r, hr⟩ := h n (by omega)
    refine ⟨l ++ [r], by simp [hl], fun i hi => ?_⟩
    rcases Nat.lt_or_ge i n with hh | hh
    · have := hq i hh
      simpa [List.getD, List.getElem?_append_left (show i < l.length by omega)] using this
    · obtain rfl : i = n := by omega
      simpa [List.getD, hl] using hr

theorem inList {α : Type} {d : α} {l : List α} {r : α} (h : r ∈ l) : ∃ i, i < l.length ∧ l.getD i d = r := by
  obtain ⟨i, hi, rfl⟩ := List.mem_iff_getElem.1 h
  exact ⟨i, hi, by simp [List.getD, hi]⟩

theorem cells?_get {a : Addr} {n : Nat} {cs : List Value} (h : W.cells? 0 a n = some cs) : cs.length = n ∧ ∀ j, j < n → W.cell? (a.add j) = some (cs.getD j undef) := by
  simp only [World.cells?, Nat.zero_le, if_true] at h
  have hl : cs.length = n := by simpa using mapM_some_length h
  refine ⟨hl, fun j hj => ?_⟩
  have h2 := mapM_some_get h j j (by simp [hj])
  rw [h2, List.getD, List.getElem?_eq_getElem (by omega)]
  rfl

theorem tile_le {n : Nat} : ∀ {fl : List Field} {o : Nat}, tileB P n o fl = true → o ≤ n
  | [], o, h => by simp [tileB] at h; omega
  | f :: fl, o, h => by
    simp only [tileB, Bool.and_eq_true, beq_iff_eq] at h
    have := tile_le h.2
    omega

theorem tile_opened {n : Nat} {cs : List Value} (hn : cs.length = n) : ∀ (fl : List Field) (pre : List AV), tileB P n pre.length fl = true →
    (∀ f ∈ fl, ∃ a, Opened P W f.type ((cs.drop f.offset).take (P.cellsOf f.type)) a) →
    ∃ as, (pre ++ as).length = n ∧ (∀ f ∈ fl, Cells P f.type (((pre ++ as).drop f.offset).take (P.cellsOf f.type))) ∧ (∀ v ∈ as, isLeaf v = true) ∧
      ∀ i, i < as.length → RV (start W) W (as.getD i .bot) (cs.getD (pre.length + i) undef)
  | [], pre, ht, _ => ⟨[], by simpa [tileB] using ht, by simp, by simp, by simp⟩
  | f :: fl, pre, ht, h => by
    simp only [tileB, Bool.and_eq_true, beq_iff_eq] at ht
    obtain ⟨ho, ht⟩ := ht
    obtain ⟨a, ha⟩ := h f (by simp)
    have hle := tile_le ht
    have hal : a.length = P.cellsOf f.type := by
      have := ha.len
      simp only [List.length_take, List.length_drop] at this
      omega
    obtain ⟨as, h1, h2, h3, h4⟩ := tile_opened hn fl (pre ++ a) (by rw [List.length_append, hal]; exact ht) fun g hg => h g (by simp [hg])
    refine ⟨a ++ as, by simpa [Nat.add_assoc] using h1, fun g hg => ?_, fun v hv => ?_, fun i hi => ?_⟩
    · rcases List.mem_cons.1 hg with rfl | hg
      · rw [ho, List.drop_left, ← hal, List.take_left]
        exact ha.typed
      · have := h2 g hg
        rwa [List.append_assoc] at this
    · rcases List.mem_append.1 hv with hv | hv
      · exact ha.leaf v hv
      · exact h3 v hv
    · rcases Nat.lt_or_ge i a.length with hh | hh
      · have := ha.rel i hh
        have e1 : (a ++ as).getD i .bot = a.getD i .bot := by simp [List.getD, List.getElem?_append_left hh]
        have e2 : ((cs.drop f.offset).take (P.cellsOf f.type)).getD i undef = cs.getD (pre.length + i) undef := by
          rw [ho, List.getD, List.getD, List.getElem?_take_of_lt (by omega), List.getElem?_drop]
        rw [e1, ← e2]; exact this
      · have hi' : i - a.length < as.length := by simp at hi; omega
        have := h4 (i - a.length) hi'
        have e1 : (a ++ as).getD i .bot = as.getD (i - a.length) .bot := by simp [List.getD, List.getElem?_append_right hh]
        rw [e1]
        rw [List.length_append, show pre.length + a.length + (i - a.length) = pre.length + i by omega] at this
        exact this

theorem plain_opened (hS : plainB P S = true) : ∀ (fuel : Nat) {t : TypeId} {cs : List Value} {x : DataW H × List MemPlace}, t ∈ S →
    DataW.trod enc P W 0 (fun _ => true) true fuel t cs = some x → ∃ as, Opened P W t cs as := by
  intro fuel
  induction fuel using Nat.strongRecOn with
  | _ fuel ih =>
    intro t cs x ht h
    have hp := List.all_eq_true.1 hS t ht
    split at hp
    · next k hu =>
      obtain ⟨n, rfl, rfl, hw⟩ := DataW.trod_int hu h
      exact ⟨[.int k n], .int hu hw, rfl, by simp [isLeaf], fun i hi => by
        obtain rfl : i = 0 := by simpa using hi
        exact .int k n⟩
    · next hu =>
      obtain ⟨b, rfl, rfl⟩ := DataW.trod_bool hu h
      exact ⟨[.bool b], .bool hu, rfl, by simp [isLeaf], fun i hi => by
        obtain rfl : i = 0 := by simpa using hi
        exact .bool b⟩
    · next hu =>
      obtain ⟨s, rfl, rfl, hs⟩ := DataW.trod_string hu h
      exact ⟨[.str s.data.toList], .str hu (by simpa using hs), rfl, by simp [isLeaf], fun i hi => by
        obtain rfl : i = 0 := by simpa using hi
        exact rv_string _ s⟩
    · next e hu =>
      simp only [Bool.and_eq_true, beq_iff_eq, decide_eq_true_eq, List.contains_iff_mem] at hp
      obtain ⟨⟨h1, he⟩, hpos⟩ := hp
      rcases DataW.trod_slice hu h with ⟨rfl, rfl⟩ | ⟨a, len, cap, elems, rest, n, rfl, rfl, rfl, hb, hl, hm, hlen, hel, hsp, hns⟩
      · exact ⟨[.aslice []], .slice hu (by simp) (by simp), rfl, by simp [isLeaf], fun i hi => by
          obtain rfl : i = 0 := by simpa using hi
          exact .aslice0⟩
      · rcases Nat.eq_zero_or_pos len with rfl | hlp
        · exact ⟨[.aslice []], .slice hu (by simp) (by simp), rfl, by simp [isLeaf], fun i hi => by
            obtain rfl : i = 0 := by simpa using hi
            exact .asliceE _ _⟩
        · obtain ⟨b, off, spot⟩ := a
          have each : ∀ i, i < len → ∃ r : List Value × List AV, W.cells? 0 (Addr.add ⟨b, off, spot⟩ (i * P.cellsOf e)) (P.cellsOf e) = some r.1 ∧ Opened P W e r.1 r.2 := fun i hi => by
            have h2 := hel i hi
            rw [List.getElem?_eq_getElem (by omega)] at h2
            obtain ⟨ci, hc1, hc2⟩ := Option.bind_eq_some_iff.1 h2
            obtain ⟨r, hr⟩ := ih n (by omega) he hc2
            exact ⟨(ci, r), hc1, hr⟩
          obtain ⟨L, hL, hq⟩ := list_of ([], []) each
          have cellat : ∀ i j, i < len → j < P.cellsOf e → W.cell? (Addr.add ⟨b, off, spot⟩ (i * P.cellsOf e + j)) = some ((L.getD i ([], [])).1.getD j undef) := fun i j hi hj => by
            have := (cells?_get (hq i hi).1).2 j hj
            rwa [Addr.add_add] at this
          have hspot : spot = none := by
            have h0 := cellat 0 0 hlp hpos
            rw [Nat.zero_mul, Addr.add_zero'] at h0
            cases spot with
            | none => rfl
            | some x => simp [World.cell?] at h0; split at h0 <;> simp at h0
          subst hspot
          have hblk : b < W.heap.size := by
            have h0 := cellat 0 0 hlp hpos
            rw [Nat.zero_mul, Addr.add_zero'] at h0
            simp only [World.cell?] at h0
            rcases Nat.lt_or_ge b W.heap.size with hh | hh
            · exact hh
            · simp [Array.getElem?_eq_none hh] at h0
          have hrl : ∀ i, i < len → (L.getD i ([], [])).2.length = P.cellsOf e := fun i hi => by
            rw [(hq i hi).2.len, (cells?_get (hq i hi).1).1]
          have hgd : ∀ i, i < len → (L.map (·.2)).getD i [] = (L.getD i ([], [])).2 := fun i hi => by
            have : i < L.length := by omega
            simp [List.getD, this]
          have hLl : (L.map (·.2)).length = len := by simp [hL]
          refine ⟨[.aslice (L.map (·.2))], .slice hu (by omega) (fun r hr => ?_), rfl, by simp [isLeaf], fun i hi => ?_⟩
          · obtain ⟨i, hi, rfl⟩ := inList (d := []) hr
            rw [hgd i (by omega)]
            exact (hq i (by omega)).2.typed
          · obtain rfl : i = 0 := by simpa using hi
            have key := RV.aslice (G := start W) (w := W) (L.map (·.2)) b off cap (P.cellsOf e) (fun i j => (L.getD i ([], [])).1.getD j undef) (fun r hr => by
                obtain ⟨i, hi, rfl⟩ := inList (d := []) hr
                rw [hgd i (by omega)]
                exact ⟨hrl i (by omega), (hq i (by omega)).2.leaf⟩) (by omega) (fun i j hi hj => by
                have := cellat i j (by omega) hj
                rwa [Addr.add_lit] at this) (fun i j hi hj => hblk) (fun i j hi hj => by
                have := (hq i (by omega)).2.rel j (by rw [hrl i (by omega)]; exact hj)
                simpa only [rowAt, hgd i (show i < len by omega)] using this)
            rw [hLl] at key
            exact key
    · next fs hu =>
      simp only [Bool.and_eq_true, List.all_eq_true, List.contains_iff_mem] at hp
      obtain ⟨htile, hf⟩ := hp
      obtain ⟨xs, n, rfl, rfl, hcs, hxs, hx⟩ := DataW.trod_struct hu h
      obtain ⟨as, h1, h2, h3, h4⟩ := tile_opened (W := W) hcs fs.toList [] htile fun f hfm => by
        obtain ⟨i, hi, rfl⟩ := List.mem_iff_getElem.1 hfm
        have hi' : i < fs.size := by simpa using hi
        have := hx i fs[i] (by simp [hi'])
        rw [List.getElem?_eq_getElem (by omega)] at this
        exact ih n (by omega) (hf _ hfm) (by simpa using this)
      exact ⟨as, .struct hu (by simpa using h1) (by simpa using h2), by simpa [hcs] using h1, h3, by simpa using h4⟩
    · exact absurd hp (by simp)
end
end Go.Abs
