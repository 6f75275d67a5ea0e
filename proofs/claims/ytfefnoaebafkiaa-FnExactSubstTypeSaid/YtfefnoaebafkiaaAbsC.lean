/- The operations that only read, and those that make a box. -/
import Derived.Test.YtfefnoaebafkiaaAbsB
set_option linter.unusedVariables false
set_option linter.unusedSimpArgs false
namespace Go.Abs
open Go.RowKit

inductive TK where
  | int (k : IntKind) | bool | str | slice (e : TypeId) | struct (fs : List (Nat × TypeId × Nat)) | ptr (e : TypeId) | iface | map (k e : TypeId) | func | other

structure TI where
  size : Nat
  bytes : Nat
  zero : Option (List AV)
  kind : TK

def const1 : Value → AV
  | .int k n => .int k n
  | .bool b => .bool b
  | .string s => .str s.data.toList
  | .pointer none => .nilp
  | .slice none 0 0 => .nils
  | .nilFunc => .nilf
  | .nilIface => .nili
  | .map none => .nilm
  | .func fn xs ys => if xs.size = 0 ∧ ys.size = 0 then .func fn [] [] else .bot
  | _ => .bot
def constA : Value → AV
  | .agg cs => if cs.all (·.oneCell') then .agg (cs.toList.map const1) else .bot
  | v => const1 v

def tkOf (P : Program) : TypeDesc → TK
  | .int k => .int k
  | .bool => .bool
  | .string => .str
  | .slice e => .slice e
  | .struct fs => .struct (fs.toList.map fun f => (f.offset, f.type, P.cellsOf f.type))
  | .pointer e => .ptr e
  | .interface _ => .iface
  | .map k e => .map k e
  | .func .. => .func
  | _ => .other

def zeroA : Option Value → Option (List AV)
  | some z => if z.cells.all (·.oneCell') then some (z.cells.toList.map const1) else none
  | none => none

def tinf (P : Program) (t : TypeId) : Option TI :=
  match P.info? t, P.underlying t with
  | some i, some d => some { size := i.size, bytes := i.bytes, zero := zeroA i.zero, kind := tkOf P d }
  | _, _ => none

theorem tinf_spec {P : Program} {t : TypeId} {ti : TI} (h : tinf P t = some ti) : ∃ i d, P.info? t = some i ∧ P.underlying t = some d ∧ ti.size = i.size ∧ ti.bytes = i.bytes ∧ ti.zero = zeroA i.zero ∧ ti.kind = tkOf P d := by
  unfold tinf at h
  split at h
  · rename_i i d h1 h2
    injection h with h; subst h
    exact ⟨i, d, h1, h2, rfl, rfl, rfl, rfl⟩
  · cases h

theorem tk_int {P : Program} {d : TypeDesc} {k : IntKind} (h : tkOf P d = .int k) : d = .int k := by cases d <;> simp_all [tkOf]
theorem tk_bool {P : Program} {d : TypeDesc} (h : tkOf P d = .bool) : d = .bool := by cases d <;> simp_all [tkOf]
theorem tk_str {P : Program} {d : TypeDesc} (h : tkOf P d = .str) : d = .string := by cases d <;> simp_all [tkOf]
theorem tk_slice {P : Program} {d : TypeDesc} {e : TypeId} (h : tkOf P d = .slice e) : d = .slice e := by cases d <;> simp_all [tkOf]
theorem tk_ptr {P : Program} {d : TypeDesc} {e : TypeId} (h : tkOf P d = .ptr e) : d = .pointer e := by cases d <;> simp_all [tkOf]
theorem tk_struct {P : Program} {d : TypeDesc} {l : List (Nat × TypeId × Nat)} (h : tkOf P d = .struct l) : ∃ fs, d = .struct fs ∧ l = fs.toList.map fun f => (f.offset, f.type, P.cellsOf f.type) := by
  cases d <;> simp_all [tkOf]
theorem tk_iface {P : Program} {d : TypeDesc} (h : tkOf P d = .iface) : ∃ ms, d = .interface ms := by cases d <;> simp_all [tkOf]

theorem const1_ok (G : Ghost) (w : World) (x : Value) : RV G w (const1 x) x := by
  unfold const1
  split
  · exact .int _ _
  · exact .bool _
  · rename_i s; exact .str s.data.toList
  · exact .nilp
  · exact .nils
  · exact .nilf
  · exact .nili
  · exact .nilm
  · rename_i fn xs ys
    split
    · rename_i h
      exact .func fn [] [] xs ys h.1 h.2 (fun i hi => by simp at hi) (fun i hi => by simp at hi)
    · exact .bot _
  · exact .bot _

theorem getD_map_const {xs : Array Value} {i : Nat} (h : i < xs.size) : (xs.toList.map const1).getD i .bot = const1 (xs.getD i undef) := by
  simp [List.getD, Array.getD, h]

theorem constA_ok (G : Ghost) (w : World) (x : Value) : RV G w (constA x) x := by
  unfold constA
  split
  · rename_i cs
    split
    · rename_i h
      refine .agg _ cs (by simp) (fun x hx => (Array.all_eq_true_iff_forall_mem.1 h) x hx) fun i hi => ?_
      simp only [List.length_map, Array.length_toList] at hi
      rw [getD_map_const hi]; exact const1_ok _ _ _
    · exact .bot _
  · exact const1_ok _ _ _

/-- a value, in a world that went on -/
def YV (G : Ghost) (w : World) (base : Nat) (v : AV) (A' : List Box) (r : Result Value) : Prop :=
  ∃ x w' G', r = .ok x w' ∧ RV G' w' v x ∧ HRel G' A' w' base ∧ Ext G w G' w' ∧ Below base w w'

def YN (G : Ghost) (w : World) (base : Nat) (v : AV) (A' : List Box) (r : Result Next) : Prop :=
  ∃ x w' G', (r = .ok (.value x) w' ∨ (r = .ok .skip w' ∧ x = undef)) ∧ RV G' w' v x ∧ HRel G' A' w' base ∧ Ext G w G' w' ∧ Below base w w'

theorem YV.same {G : Ghost} {A : List Box} {w : World} {base : Nat} {v : AV} {x : Value} {r : Result Value} (h : HRel G A w base) (hx : RV G w v x) (hr : r = .ok x w) : YV G w base v A r :=
  ⟨x, w, G, hr, hx, h, Ext.refl _ _, Below.refl _ _⟩

theorem YV.next {P : Program} {G : Ghost} {w : World} {base : Nat} {v : AV} {A' : List Box} {s : Sem Value} (h : YV G w base v A' (s.run P w)) :
    YN G w base v A' (((do pure (.value (← s))) : Sem Next).run P w) := by
  obtain ⟨x, w', G', hr, h1, h2, h3, h4⟩ := h
  exact ⟨x, w', G', .inl (by simp [hr, Result.andThen]), h1, h2, h3, h4⟩

def CellsAt (G : Ghost) (w : World) (b off : Nat) (cs : List AV) : Prop :=
  ∀ j, j < cs.length → ∃ x, w.cell? ⟨b, off + j, none⟩ = some x ∧ RV G w (cs.getD j .bot) x ∧ x.oneCell' = true

def cellsOf (A : List Box) : AV → Option (List AV)
  | .ptr i o => match A.getD i .dead with
    | .cells cs => some (cs.drop o)
    | .tc _ cs => some (cs.drop o)
    | _ => none
  | .eptr i k j => match A.getD i .dead with
    | .row _ rows _ => some ((rows.getD k []).drop j)
    | .gr _ _ rows => some ((rows.getD k []).drop j)
    | _ => none
  | .vptr cs => some cs
  | .ivptr _ _ cs => some cs
  | _ => none

theorem getD_drop {α : Type} (l : List α) (o j : Nat) (d : α) : (l.drop o).getD j d = l.getD (o + j) d := by
  simp [List.getD]
theorem getD_take {α : Type} (l : List α) (n j : Nat) (d : α) (h : j < n) : (l.take n).getD j d = l.getD j d := by
  simp [List.getD, h]

theorem mem_getD {c : Array Value} {o : Nat} (h : o < c.size) : c.getD o undef ∈ c := by
  simp [Array.getD, h]

theorem row_in {rows : List (List AV)} {sz k j cap : Nat} (hk : k < rows.length) (hj : j < sz) (hc : rows.length ≤ cap) : k * sz + j < cap * sz := by
  have h1 := Nat.mul_le_mul_right sz (Nat.succ_le_of_lt hk)
  have h2 := Nat.mul_le_mul_right sz hc
  rw [Nat.succ_mul] at h1; omega

theorem cellsOf_ok {G : Ghost} {A : List Box} {w : World} {base : Nat} {p : AV} {x : Value} {cs : List AV} (h : HRel G A w base) (hx : RV G w p x) (hc : cellsOf A p = some cs) :
    ∃ b off, x = .pointer (some ⟨b, off, none⟩) ∧ CellsAt G w b off cs := by
  cases hx with
  | ptr i o hi =>
    simp only [cellsOf] at hc
    have hb := h.box i (by rw [← h.n]; exact hi)
    split at hc <;> try cases hc
    · rename_i cs0 hb0
      rw [hb0] at hb
      obtain ⟨c, el, h1, h3, h4, h5, h6⟩ := hb
      refine ⟨_, _, rfl, fun j hj => ?_⟩
      simp only [List.length_drop] at hj
      refine ⟨_, cell?_of h1 (by omega), ?_, h4 _ (mem_getD (by omega))⟩
      rw [getD_drop]; exact h5 _ (by omega)
    · rename_i T cs0 hb0
      rw [hb0] at hb
      obtain ⟨c, h1, h3, h4, h5, h6⟩ := hb
      refine ⟨_, _, rfl, fun j hj => ?_⟩
      simp only [List.length_drop] at hj
      refine ⟨_, cell?_of h1 (by omega), ?_, h4 _ (mem_getD (by omega))⟩
      rw [getD_drop]; exact h5 _ (by omega)
  | eptr i k j hi =>
    simp only [cellsOf] at hc
    have hb := h.box i (by rw [← h.n]; exact hi)
    have gen : ∀ (E : AV → Bool) (sz s : Nat) (rows : List (List AV)), RowOk E G w i sz rows s → CellsAt G w (G.blk i) (G.off i + (k * G.sz i + j)) ((rows.getD k []).drop j) := by
      rintro E sz s rows ⟨c, el, h1, h3, h4, h5, h6, h7, h8, h9, h10, h11⟩ j' hj'
      simp only [List.length_drop] at hj'
      by_cases hk : k < rows.length
      · have hlen := (h9 _ (getD_mem (d := []) hk)).1
        have hin := row_in (sz := sz) (cap := G.cap i) (j := j + j') hk (by omega) h5
        rw [h6]
        refine ⟨_, cell?_of h1 (o := G.off i + (k * sz + j) + j') (by omega), ?_, h3 _ (mem_getD (by omega))⟩
        rw [getD_drop]
        have := h10 k (j + j') hk (by omega)
        rw [show G.off i + (k * sz + j) + j' = G.off i + (k * sz + (j + j')) by omega]
        exact this
      · have : rows.getD k [] = [] := by simp [List.getD, hk]
        rw [this] at hj'; simp at hj'
    split at hc <;> try cases hc
    · rename_i sz rows s hb0
      rw [hb0] at hb
      exact ⟨_, _, rfl, gen _ _ _ _ hb⟩
    · rename_i te sz rows hb0
      rw [hb0] at hb
      exact ⟨_, _, rfl, gen _ _ _ _ hb.1⟩
  | vptr cs b off X hl hx hI h' =>
    simp only [cellsOf] at hc
    injection hc with hc; subst hc
    exact ⟨b, off, rfl, fun j hj => ⟨_, hx j hj, h' j hj, (h' j hj).cell (leaf_cell (hl _ (getD_mem hj)))⟩⟩
  | ivptr cs b off X hl hn hx hI hz h' =>
    simp only [cellsOf] at hc
    injection hc with hc; subst hc
    exact ⟨b, off, rfl, fun j hj => ⟨_, hx j hj, h' j hj, (h' j hj).cell (leaf_cell (hl _ (getD_mem hj)))⟩⟩
  | _ => simp [cellsOf] at hc

def shiftP (d : Nat) : AV → Option AV
  | .ptr i o => some (.ptr i (o + d))
  | .eptr i k j => some (.eptr i k (j + d))
  | .vptr cs => some (.vptr (cs.drop d))
  | _ => none

theorem shiftP_ok {G : Ghost} {w : World} {p p' : AV} {x : Value} {d : Nat} (hx : RV G w p x) (hc : shiftP d p = some p') :
    ∃ b off, x = .pointer (some ⟨b, off, none⟩) ∧ RV G w p' (.pointer (some ⟨b, off + d, none⟩)) := by
  cases hx <;> simp only [shiftP] at hc <;> try (cases hc; done)
  case ptr i o hi => injection hc with hc; subst hc; exact ⟨_, _, rfl, .ptr i (o + d) hi⟩
  case eptr i k j hi =>
    injection hc with hc; subst hc
    refine ⟨_, _, rfl, ?_⟩
    rw [show G.off i + (k * G.sz i + j) + d = G.off i + (k * G.sz i + (j + d)) by omega]
    exact .eptr i k (j + d) hi
  case vptr cs b off X hl hx hI h' =>
    injection hc with hc; subst hc
    refine ⟨_, _, rfl, .vptr (cs.drop d) b (off + d) (fun j => X (d + j)) (fun v hv => hl v (List.mem_of_mem_drop hv)) (fun j hj => ?_) (fun j hj => ?_) (fun j hj => ?_)⟩ <;> simp only [List.length_drop] at hj
    · rw [Nat.add_assoc]; exact hx _ (by omega)
    · rw [Nat.add_assoc]; exact hI _ (by omega)
    · rw [getD_drop]; exact h' _ (by omega)

/-! ### load -/
def loadA (ti : TI) (cs : List AV) : Option (Prop × AV) :=
  match ti.kind with
  | .struct _ => some (ti.size ≤ cs.length, .agg (cs.take ti.size))
  | .other => none
  | _ => some (0 < cs.length, cs.getD 0 .bot)

def isAggD : TypeDesc → Bool
  | .struct _ | .array _ _ => true
  | _ => false
theorem isAgg_run {P : Program} {t : TypeId} {d : TypeDesc} (h : P.underlying t = some d) (w : World) :
    (isAgg t).run P w = .ok (isAggD d) w := by
  cases d <;> simp [isAgg, run_underlying h, Result.andThen, isAggD]

theorem sizeOf_run {P : Program} {t : TypeId} {i : TypeInfo} (h : P.info? t = some i) (w : World) : (sizeOf t).run P w = .ok i.size w := by
  simp [sizeOf, typeInfo, h, Result.andThen]

theorem load_ok {P : Program} {G : Ghost} {A : List Box} {w : World} {base : Nat} {t : TypeId} {ti : TI} {p v : AV} {x : Value} {cs : List AV} {c : Prop}
    (ht : tinf P t = some ti) (hc : cellsOf A p = some cs) (hl : loadA ti cs = some (c, v)) (hp : c) (h : HRel G A w base) (hx : RV G w p x) :
    YV G w base v A ((Instr.loadAt t x).run P w) := by
  obtain ⟨i, d, h1, h2, h3, h4, h5, h6⟩ := tinf_spec ht
  obtain ⟨b, off, rfl, hcs⟩ := cellsOf_ok h hx hc
  unfold loadA at hl
  have one : (0 < cs.length ∧ cs.getD 0 .bot = v) → isAggD d = false → YV G w base v A ((Instr.loadAt t (.pointer (some ⟨b, off, none⟩))).run P w) := fun ⟨h7, h8⟩ hd => by
    obtain ⟨y, hy, hv, _⟩ := hcs 0 h7
    rw [h8] at hv
    refine .same h hv ?_
    simp only [Nat.add_zero] at hy
    simp [Instr.loadAt, Instr.sureAddr, loadVar, isAgg_run h2, hd, Result.andThen, hy]
  cases hd : d <;> simp only [h6, hd, tkOf] at hl <;> try (cases hl; done)
  case struct fs =>
    injection hl with hl; injection hl with hl1 hl2; subst hl1 hl2
    refine .same h (x := .agg ((List.range i.size).map fun j => (w.cell? ⟨b, off + j, none⟩).getD undef).toArray) (.agg _ _ (by simp; omega) ?_ fun j hj => ?_) ?_
    · intro y hy
      simp only [List.mem_toArray, List.mem_map, List.mem_range] at hy
      obtain ⟨j, hj, rfl⟩ := hy
      obtain ⟨y, hy, _, h9⟩ := hcs j (by omega)
      simp [hy, h9]
    · simp only [List.length_take] at hj
      obtain ⟨y, hy, hv, h9⟩ := hcs j (by omega)
      rw [getD_take _ _ _ _ (by omega)]
      have : j < i.size := by omega
      simpa [Array.getD, this, hy] using hv
    · simp only [Instr.loadAt, Instr.sureAddr, loadVar]
      have := run_loadCells (P := P) w ⟨b, off, none⟩ i.size (fun j => (w.cell? ⟨b, off + j, none⟩).getD undef) (fun j hj => by
        obtain ⟨y, hy, _, _⟩ := hcs j (by omega)
        rw [Addr.add_lit, hy]; rfl)
      simp [isAgg_run h2, hd, isAggD, Result.andThen, sizeOf_run h1, this]
  all_goals
    injection hl with hl; injection hl with hl1 hl2
    exact one ⟨hl1 ▸ hp, hl2⟩ (by rw [hd]; rfl)

theorem fieldAt_ok {P : Program} {G : Ghost} {A : List Box} {w : World} {base : Nat} {t : TypeId} {ti : TI} {p v : AV} {x : Value} {fs : List (Nat × TypeId × Nat)} {k off ty sz : Nat}
    (ht : tinf P t = some ti) (hk : ti.kind = .struct fs) (hf : fs[k]? = some (off, ty, sz)) (hs : sz ≠ 0) (hv : shiftP off p = some v) (h : HRel G A w base) (hx : RV G w p x) :
    YV G w base v A ((Instr.fieldAt t x k).run P w) := by
  obtain ⟨i, d, h1, h2, h3, h4, h5, h6⟩ := tinf_spec ht
  obtain ⟨b, o, rfl, hr⟩ := shiftP_ok hx hv
  rw [h6] at hk
  obtain ⟨fa, rfl, rfl⟩ := tk_struct hk
  simp only [List.getElem?_map, Option.map_eq_some_iff, Array.getElem?_toList] at hf
  obtain ⟨f, hf, he⟩ := hf
  injection he with e1 e2; injection e2 with e2 e3
  subst e1 e2 e3
  refine .same h hr ?_
  have hi : ∃ j, P.info? f.type = some j ∧ j.size ≠ 0 := by
    simp only [Program.cellsOf] at hs
    cases hj : P.info? f.type with
    | none => simp [hj] at hs
    | some j => exact ⟨j, rfl, by simpa [hj] using hs⟩
  obtain ⟨j, hj, hj0⟩ := hi
  simp [Instr.fieldAt, run_underlying h2, Result.andThen, hf, Instr.sureAddr, fieldPlace, sizeOf_run hj, hj0, Addr.add_lit]

end Go.Abs
