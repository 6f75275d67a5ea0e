/- The abstract values, the relation between them and the memory, and its laws. -/
import Derived.WalkKit
set_option linter.unusedVariables false
set_option linter.unusedSimpArgs false
namespace Go.Abs

/-- What a value stands for: data by value; memory that is still written by number. -/
inductive AV where
  | bot
  | int (k : IntKind) (n : Int)
  | bool (b : Bool)
  | str (s : List UInt8)
  | agg (cs : List AV)
  | tuple (cs : List AV)
  | slice (rows : List (List AV))
  | own (i : Nat)
  | nils
  | ptr (i o : Nat)
  | eptr (i k j : Nat)
  | vptr (cs : List AV)
  | nilp
  | func (fn : Fn) (first captured : List AV)
  | nilf
  | iface (t : TypeId) (v : AV)
  | nili
  | map (i : Nat)
  | nilm
  | aslice (rows : List (List AV))
  | islice (b off : Nat) (rows : List (List AV))
  | ivptr (b off : Nat) (cs : List AV)
  deriving Inhabited

def isLeaf : AV → Bool
  | .int .. | .bool _ | .str _ | .slice _ | .nilp | .nilf | .nili | .nilm | .iface .. | .aslice _ | .islice .. => true
  | .func _ [] [] => true
  | _ => false

/-- may lie in one cell -/
def isCell : AV → Bool
  | .bot | .agg _ | .tuple _ => false
  | _ => true

def isWhole : AV → Bool
  | .agg cs => cs.all isLeaf
  | v => isLeaf v

/-- names no number from n on -/
def closed1 (n : Nat) : AV → Bool
  | .own i | .ptr i _ | .eptr i _ _ | .map i => decide (i < n)
  | .int .. | .bool _ | .str _ | .slice _ | .nils | .nilp | .nilf | .nili | .nilm | .iface .. | .vptr _ | .bot | .aslice _ | .islice .. | .ivptr .. => true
  | .func _ [] [] => true
  | _ => false
def closed2 (n : Nat) : AV → Bool
  | .agg cs => cs.all (closed1 n)
  | .func _ first captured => first.all (closed1 n) && captured.all (closed1 n)
  | v => closed1 n v
def closed (n : Nat) : AV → Bool
  | .tuple cs => cs.all (closed2 n)
  | v => closed2 n v

inductive Box where
  | dead
  | cells (cs : List AV)
  | row (sz : Nat) (rows : List (List AV)) (s : Nat)
  | mapb (es : List (AV × AV))
  /-- cells of a known type -/
  | tc (T : TypeId) (cs : List AV)
  /-- a row whose elements may own others; of a known type, perhaps -/
  | gr (te : Option TypeId) (sz : Nat) (rows : List (List AV))
  deriving Inhabited

/-- may lie in a row of that kind -/
def isElem : AV → Bool
  | .own _ | .nils => true
  | v => isLeaf v

/-- a block whose cells are none that were frozen -/
def fzOk (w : World) (b : Nat) : Prop := ∃ c e, w.heap[b]? = some (.cells c e (0, 0))

structure Ghost where
  n : Nat
  I : Nat → Nat → Prop
  blk : Nat → Nat
  off : Nat → Nat
  len : Nat → Nat
  cap : Nat → Nat
  sz : Nat → Nat

def rowAt (rows : List (List AV)) (i j : Nat) : AV := (rows.getD i []).getD j .bot

inductive RV (G : Ghost) (w : World) : AV → Value → Prop
  | bot (x : Value) : RV G w .bot x
  | int (k : IntKind) (n : Int) : RV G w (.int k n) (.int k n)
  | bool (b : Bool) : RV G w (.bool b) (.bool b)
  | str (s : List UInt8) : RV G w (.str s) (.string ⟨s.toArray⟩)
  | agg (cs : List AV) (xs : Array Value) (hs : xs.size = cs.length) (hc : ∀ x ∈ xs, x.oneCell' = true)
      (h : ∀ i, i < cs.length → RV G w (cs.getD i .bot) (xs.getD i undef)) : RV G w (.agg cs) (.agg xs)
  | tuple (cs : List AV) (xs : Array Value) (hs : xs.size = cs.length)
      (h : ∀ i, i < cs.length → RV G w (cs.getD i .bot) (xs.getD i undef)) : RV G w (.tuple cs) (.tuple xs)
  | slice0 : RV G w (.slice []) (.slice none 0 0)
  | sliceE (a : Addr) (cap : Nat) : RV G w (.slice []) (.slice (some a) 0 cap)
  | slice (rows : List (List AV)) (b off cap sz : Nat) (X : Nat → Nat → Value)
      (hr : ∀ r ∈ rows, r.length = sz ∧ ∀ v ∈ r, isLeaf v = true) (hcap : rows.length ≤ cap)
      (hx : ∀ i j, i < rows.length → j < sz → w.cell? ⟨b, off + (i * sz + j), none⟩ = some (X i j))
      (hI : ∀ i j, i < rows.length → j < sz → G.I b (off + (i * sz + j))) (hz : 0 < rows.length → 0 < sz → fzOk w b)
      (h : ∀ i j, i < rows.length → j < sz → RV G w (rowAt rows i j) (X i j)) :
      RV G w (.slice rows) (.slice (some ⟨b, off, none⟩) rows.length cap)
  | aslice0 : RV G w (.aslice []) (.slice none 0 0)
  | asliceE (a : Addr) (cap : Nat) : RV G w (.aslice []) (.slice (some a) 0 cap)
  | aslice (rows : List (List AV)) (b off cap sz : Nat) (X : Nat → Nat → Value)
      (hr : ∀ r ∈ rows, r.length = sz ∧ ∀ v ∈ r, isLeaf v = true) (hcap : rows.length ≤ cap)
      (hx : ∀ i j, i < rows.length → j < sz → w.cell? ⟨b, off + (i * sz + j), none⟩ = some (X i j))
      (hI : ∀ i j, i < rows.length → j < sz → G.I b (off + (i * sz + j)))
      (h : ∀ i j, i < rows.length → j < sz → RV G w (rowAt rows i j) (X i j)) :
      RV G w (.aslice rows) (.slice (some ⟨b, off, none⟩) rows.length cap)
  | islice (rows : List (List AV)) (b off cap sz : Nat) (X : Nat → Nat → Value)
      (hr : ∀ r ∈ rows, r.length = sz ∧ ∀ v ∈ r, isLeaf v = true) (hcap : rows.length ≤ cap)
      (hx : ∀ i j, i < rows.length → j < sz → w.cell? ⟨b, off + (i * sz + j), none⟩ = some (X i j))
      (hI : ∀ i j, i < rows.length → j < sz → G.I b (off + (i * sz + j))) (hz : fzOk w b) (hs : 0 < sz) (hl : 0 < rows.length)
      (h : ∀ i j, i < rows.length → j < sz → RV G w (rowAt rows i j) (X i j)) :
      RV G w (.islice b off rows) (.slice (some ⟨b, off, none⟩) rows.length cap)
  | ivptr (cs : List AV) (b off : Nat) (X : Nat → Value) (hl : ∀ v ∈ cs, isLeaf v = true) (hn : 0 < cs.length)
      (hx : ∀ j, j < cs.length → w.cell? ⟨b, off + j, none⟩ = some (X j))
      (hI : ∀ j, j < cs.length → G.I b (off + j)) (hz : fzOk w b)
      (h : ∀ j, j < cs.length → RV G w (cs.getD j .bot) (X j)) : RV G w (.ivptr b off cs) (.pointer (some ⟨b, off, none⟩))
  | own (i : Nat) (hi : i < G.n) : RV G w (.own i) (.slice (some ⟨G.blk i, G.off i, none⟩) (G.len i) (G.cap i))
  | nils : RV G w .nils (.slice none 0 0)
  | ptr (i o : Nat) (hi : i < G.n) : RV G w (.ptr i o) (.pointer (some ⟨G.blk i, o, none⟩))
  | eptr (i k j : Nat) (hi : i < G.n) : RV G w (.eptr i k j) (.pointer (some ⟨G.blk i, G.off i + (k * G.sz i + j), none⟩))
  | vptr (cs : List AV) (b off : Nat) (X : Nat → Value) (hl : ∀ v ∈ cs, isLeaf v = true)
      (hx : ∀ j, j < cs.length → w.cell? ⟨b, off + j, none⟩ = some (X j))
      (hI : ∀ j, j < cs.length → G.I b (off + j))
      (h : ∀ j, j < cs.length → RV G w (cs.getD j .bot) (X j)) : RV G w (.vptr cs) (.pointer (some ⟨b, off, none⟩))
  | nilp : RV G w .nilp (.pointer none)
  | func (fn : Fn) (first captured : List AV) (xs ys : Array Value) (hs : xs.size = first.length) (ht : ys.size = captured.length)
      (h : ∀ i, i < first.length → RV G w (first.getD i .bot) (xs.getD i undef))
      (h' : ∀ i, i < captured.length → RV G w (captured.getD i .bot) (ys.getD i undef)) : RV G w (.func fn first captured) (.func fn xs ys)
  | nilf : RV G w .nilf .nilFunc
  | iface (t : TypeId) (v : AV) (x : Value) (hv : isWhole v = true) (h : RV G w v x) : RV G w (.iface t v) (.iface t x)
  | nili : RV G w .nili .nilIface
  | map (i : Nat) (hi : i < G.n) : RV G w (.map i) (.map (some (G.blk i)))
  | nilm : RV G w .nilm (.map none)

/-- The world goes on. -/
structure Ext (G : Ghost) (w : World) (G' : Ghost) (w' : World) : Prop where
  n : G.n ≤ G'.n
  I : ∀ b o, G.I b o → G'.I b o
  cell : ∀ b o, G.I b o → w'.cell? ⟨b, o, none⟩ = w.cell? ⟨b, o, none⟩
  ids : ∀ i, i < G.n → G'.blk i = G.blk i ∧ G'.off i = G.off i ∧ G'.len i = G.len i ∧ G'.cap i = G.cap i ∧ G'.sz i = G.sz i
  fz : ∀ b o, G.I b o → fzOk w b → fzOk w' b

theorem Ext.refl (G : Ghost) (w : World) : Ext G w G w := ⟨Nat.le_refl _, fun _ _ h => h, fun _ _ _ => rfl, fun _ _ => ⟨rfl, rfl, rfl, rfl, rfl⟩, fun _ _ _ h => h⟩

theorem Ext.trans {G G1 G2 : Ghost} {w w1 w2 : World} (h : Ext G w G1 w1) (k : Ext G1 w1 G2 w2) : Ext G w G2 w2 where
  n := Nat.le_trans h.n k.n
  I := fun b o x => k.I b o (h.I b o x)
  cell := fun b o x => (k.cell b o (h.I b o x)).trans (h.cell b o x)
  ids := fun i hi => by
    obtain ⟨a1, a2, a3, a4, a5⟩ := h.ids i hi
    obtain ⟨b1, b2, b3, b4, b5⟩ := k.ids i (Nat.lt_of_lt_of_le hi h.n)
    exact ⟨b1.trans a1, b2.trans a2, b3.trans a3, b4.trans a4, b5.trans a5⟩
  fz := fun b o x f => k.fz b o (h.I b o x) (h.fz b o x f)

theorem RV.mono {G G' : Ghost} {w w' : World} {v : AV} {x : Value} (h : RV G w v x) (e : Ext G w G' w') : RV G' w' v x := by
  induction h with
  | bot x => exact .bot x
  | int k n => exact .int k n
  | bool b => exact .bool b
  | str s => exact .str s
  | agg cs xs hs hc h ih => exact .agg cs xs hs hc ih
  | tuple cs xs hs h ih => exact .tuple cs xs hs ih
  | slice0 => exact .slice0
  | sliceE a cap => exact .sliceE a cap
  | slice rows b off cap sz X hr hcap hx hI hz h ih =>
    exact .slice rows b off cap sz X hr hcap (fun i j hi hj => (e.cell _ _ (hI i j hi hj)).trans (hx i j hi hj)) (fun i j hi hj => e.I _ _ (hI i j hi hj)) (fun hl hs => e.fz _ _ (hI 0 0 hl hs) (hz hl hs)) ih
  | aslice0 => exact .aslice0
  | asliceE a cap => exact .asliceE a cap
  | aslice rows b off cap sz X hr hcap hx hI h ih =>
    exact .aslice rows b off cap sz X hr hcap (fun i j hi hj => (e.cell _ _ (hI i j hi hj)).trans (hx i j hi hj)) (fun i j hi hj => e.I _ _ (hI i j hi hj)) ih
  | islice rows b off cap sz X hr hcap hx hI hz hs hl h ih =>
    exact .islice rows b off cap sz X hr hcap (fun i j hi hj => (e.cell _ _ (hI i j hi hj)).trans (hx i j hi hj)) (fun i j hi hj => e.I _ _ (hI i j hi hj)) (e.fz _ _ (hI 0 0 hl hs) hz) hs hl ih
  | ivptr cs b off X hl hn hx hI hz h ih => exact .ivptr cs b off X hl hn (fun j hj => (e.cell _ _ (hI j hj)).trans (hx j hj)) (fun j hj => e.I _ _ (hI j hj)) (e.fz _ _ (hI 0 hn) hz) ih
  | own i hi =>
    obtain ⟨a1, a2, a3, a4, a5⟩ := e.ids i hi
    rw [← a1, ← a2, ← a3, ← a4]; exact .own i (Nat.lt_of_lt_of_le hi e.n)
  | nils => exact .nils
  | ptr i o hi =>
    obtain ⟨a1, a2, a3, a4, a5⟩ := e.ids i hi
    rw [← a1]; exact .ptr i o (Nat.lt_of_lt_of_le hi e.n)
  | eptr i k j hi =>
    obtain ⟨a1, a2, a3, a4, a5⟩ := e.ids i hi
    rw [← a1, ← a2, ← a5]; exact .eptr i k j (Nat.lt_of_lt_of_le hi e.n)
  | vptr cs b off X hl hx hI h ih => exact .vptr cs b off X hl (fun j hj => (e.cell _ _ (hI j hj)).trans (hx j hj)) (fun j hj => e.I _ _ (hI j hj)) ih
  | nilp => exact .nilp
  | func fn first captured xs ys hs ht h h' ih ih' => exact .func fn first captured xs ys hs ht ih ih'
  | nilf => exact .nilf
  | iface t v x hv h ih => exact .iface t v x hv ih
  | nili => exact .nili
  | map i hi =>
    obtain ⟨a1, a2, a3, a4, a5⟩ := e.ids i hi
    rw [← a1]; exact .map i (Nat.lt_of_lt_of_le hi e.n)
  | nilm => exact .nilm

/-- fewer numbers -/
def Ghost.cut (G : Ghost) (n : Nat) : Ghost := { G with n := n }

theorem leaf_closed1 {n : Nat} {v : AV} (h : isLeaf v = true) : closed1 n v = true := by
  cases v <;> simp_all [isLeaf, closed1]
  case func fn f c => cases f <;> cases c <;> simp_all [isLeaf]

theorem closed1_closed {n : Nat} {v : AV} (h : closed1 n v = true) : closed n v = true := by
  cases v <;> simp_all [closed, closed1, closed2]
  case func fn f c => cases f <;> cases c <;> simp_all [closed1]
theorem closed2_closed {n : Nat} {v : AV} (h : closed2 n v = true) : closed n v = true := by
  cases v <;> simp_all [closed, closed1, closed2]
theorem leaf_closed {n : Nat} {v : AV} (h : isLeaf v = true) : closed n v = true := closed1_closed (leaf_closed1 h)
theorem whole_closed {n : Nat} {v : AV} (h : isWhole v = true) : closed n v = true := by
  cases v with
  | agg cs =>
    simp only [isWhole, List.all_eq_true] at h
    simp only [closed, closed2, List.all_eq_true]
    exact fun x hx => leaf_closed1 (h x hx)
  | _ => exact leaf_closed (by simpa [isWhole] using h)

theorem getD_mem {α : Type} {l : List α} {i : Nat} {d : α} (h : i < l.length) : l.getD i d ∈ l := by
  simp [List.getD, h]

theorem rowAt_mem {rows : List (List AV)} {sz i j : Nat} (hr : ∀ r ∈ rows, r.length = sz ∧ ∀ v ∈ r, isLeaf v = true) (hi : i < rows.length) (hj : j < sz) : isLeaf (rowAt rows i j) = true := by
  obtain ⟨e1, e2⟩ := hr _ (getD_mem (d := []) hi)
  exact e2 _ (getD_mem (by omega))

theorem RV.cut {G : Ghost} {w : World} (n : Nat) {v : AV} {x : Value} (h : RV G w v x) : closed n v = true → RV (G.cut n) w v x := by
  induction h with
  | bot x => intro _; exact .bot x
  | int k n => intro _; exact .int k n
  | bool b => intro _; exact .bool b
  | str s => intro _; exact .str s
  | agg cs xs hs hc h ih =>
    intro hk
    simp only [closed, closed2, List.all_eq_true] at hk
    exact .agg cs xs hs hc fun i hi => ih i hi (closed1_closed (hk _ (getD_mem hi)))
  | tuple cs xs hs h ih =>
    intro hk
    simp only [closed, List.all_eq_true] at hk
    exact .tuple cs xs hs fun i hi => ih i hi (closed2_closed (hk _ (getD_mem hi)))
  | slice0 => intro _; exact .slice0
  | sliceE a cap => intro _; exact .sliceE a cap
  | slice rows b off cap sz X hr hcap hx hI hz h ih =>
    intro _
    exact .slice rows b off cap sz X hr hcap hx hI hz fun i j hi hj => ih i j hi hj (leaf_closed (rowAt_mem hr hi hj))
  | aslice0 => intro _; exact .aslice0
  | asliceE a cap => intro _; exact .asliceE a cap
  | aslice rows b off cap sz X hr hcap hx hI h ih =>
    intro _
    exact .aslice rows b off cap sz X hr hcap hx hI fun i j hi hj => ih i j hi hj (leaf_closed (rowAt_mem hr hi hj))
  | islice rows b off cap sz X hr hcap hx hI hz hs hl h ih =>
    intro _
    exact .islice rows b off cap sz X hr hcap hx hI hz hs hl fun i j hi hj => ih i j hi hj (leaf_closed (rowAt_mem hr hi hj))
  | ivptr cs b off X hl hn hx hI hz h ih =>
    intro _
    exact .ivptr cs b off X hl hn hx hI hz fun j hj => ih j hj (leaf_closed (hl _ (getD_mem hj)))
  | own i hi => intro hc; simp [closed, closed1, closed2] at hc; exact .own (G := G.cut n) i hc
  | nils => intro _; exact .nils
  | ptr i o hi => intro hc; simp [closed, closed1, closed2] at hc; exact .ptr (G := G.cut n) i o hc
  | eptr i k j hi => intro hc; simp [closed, closed1, closed2] at hc; exact .eptr (G := G.cut n) i k j hc
  | vptr cs b off X hl hx hI h ih =>
    intro _
    exact .vptr cs b off X hl hx hI fun j hj => ih j hj (leaf_closed (hl _ (getD_mem hj)))
  | nilp => intro _; exact .nilp
  | func fn first captured xs ys hs ht h h' ih ih' =>
    intro hc
    simp only [closed, closed2, List.all_eq_true, Bool.and_eq_true] at hc
    exact .func fn first captured xs ys hs ht (fun i hi => ih i hi (closed1_closed (hc.1 _ (getD_mem hi)))) (fun i hi => ih' i hi (closed1_closed (hc.2 _ (getD_mem hi))))
  | nilf => intro _; exact .nilf
  | iface t v x hv h ih => intro _; exact .iface t v x hv (ih (whole_closed hv))
  | nili => intro _; exact .nili
  | map i hi => intro hc; simp [closed, closed1, closed2] at hc; exact .map (G := G.cut n) i hc
  | nilm => intro _; exact .nilm

/-- What is a leaf stands for itself in every world that goes on from the cells, whatever the numbers. -/
theorem RV.cell {G : Ghost} {w : World} {v : AV} {x : Value} (h : RV G w v x) (hv : isCell v = true) : x.oneCell' = true := by
  cases h <;> simp_all [isCell, Value.oneCell']

theorem leaf_cell {v : AV} (h : isLeaf v = true) : isCell v = true := by
  cases v <;> simp_all [isLeaf, isCell]

/-- One box, in the memory. -/
def RowOk (E : AV → Bool) (G : Ghost) (w : World) (i sz : Nat) (rows : List (List AV)) (s : Nat) : Prop :=
  ∃ c e, w.heap[G.blk i]? = some (.cells c e (0, 0)) ∧ (∀ x ∈ c, x.oneCell' = true) ∧
      G.len i = rows.length ∧ rows.length ≤ G.cap i ∧ G.sz i = sz ∧ G.off i + G.cap i * sz ≤ c.size ∧ s ≤ rows.length ∧
      (∀ r ∈ rows, r.length = sz ∧ ∀ v ∈ r, E v = true) ∧
      (∀ k j, k < rows.length → j < sz → RV G w (rowAt rows k j) (c.getD (G.off i + (k * sz + j)) undef)) ∧ (∀ o, G.off i + s * sz ≤ o → ¬ G.I (G.blk i) o)

def Typed (te : Option TypeId) (G : Ghost) (w : World) (i : Nat) : Prop := ∀ t, te = some t → G.off i = 0 ∧ ∃ c, w.heap[G.blk i]? = some (.cells c t (0, 0))

def BoxOk (G : Ghost) (w : World) (i : Nat) : Box → Prop
  | .dead => True
  | .tc T cs => ∃ c, w.heap[G.blk i]? = some (.cells c T (0, 0)) ∧ c.size = cs.length ∧ (∀ x ∈ c, x.oneCell' = true) ∧
      (∀ j, j < cs.length → RV G w (cs.getD j .bot) (c.getD j undef)) ∧ (∀ o, ¬ G.I (G.blk i) o)
  | .gr te sz rows => RowOk isElem G w i sz rows 0 ∧ Typed te G w i
  | .cells cs => ∃ c e, w.heap[G.blk i]? = some (.cells c e (0, 0)) ∧ c.size = cs.length ∧ (∀ x ∈ c, x.oneCell' = true) ∧
      (∀ j, j < cs.length → RV G w (cs.getD j .bot) (c.getD j undef)) ∧ (∀ o, ¬ G.I (G.blk i) o)
  | .row sz rows s => RowOk isLeaf G w i sz rows s
  | .mapb es => ∃ m clock, w.heap[G.blk i]? = some (.map m clock) ∧ m.size = es.length ∧
      (∀ j, j < es.length → RV G w (es.getD j (.bot, .bot)).1 (m.getD j default).key ∧ RV G w (es.getD j (.bot, .bot)).2 (m.getD j default).val) ∧ (∀ o, ¬ G.I (G.blk i) o)

def Box.live : Box → Bool
  | .dead => false
  | _ => true

structure HRel (G : Ghost) (A : List Box) (w : World) (base : Nat) : Prop where
  n : G.n = A.length
  box : ∀ i, i < A.length → BoxOk G w i (A.getD i .dead)
  sep : ∀ i j, i < A.length → j < A.length → i ≠ j → (A.getD i .dead).live = true → (A.getD j .dead).live = true → G.blk i ≠ G.blk j
  bnd : ∀ i, i < A.length → (A.getD i .dead).live = true → base ≤ G.blk i ∧ G.blk i < w.heap.size
  imm : ∀ b o, G.I b o → b < w.heap.size
  low : base ≤ w.heap.size

end Go.Abs
