/- Heaps, values and operations of the abstract runs. -/
import Derived.WalkKit
import Derived.Deep.AppendSrc
import Derived.Lib.AppendZeros
import Derived.Laws.StructEq
import Derived.MapKept
import Derived.WideKeyRuns
import Derived.LaidEql
import Derived.Carry
import Derived.Lib.UnsafeStr
/- The abstract values, the relation between them and the memory, and its laws. -/
set_option linter.unusedVariables false
set_option linter.unusedSimpArgs false
namespace Go.Abs
inductive AV where
  | bot
  | int (k : IntKind) (n : Int)
  | bool (b : Bool)
  | str (s : List UInt8)
  | agg (cs : List AV)
  | tuple (cs : List AV)
  | slice (rows : List (List AV))
  | own (i : Nat)
  | nils
  | ptr (i o : Nat)
  | eptr (i k j : Nat)
  | vptr (cs : List AV)
  | nilp
  | func (fn : Fn) (first captured : List AV)
  | nilf
  | iface (t : TypeId) (v : AV)
  | nili
  | map (i : Nat)
  | nilm
  | aslice (rows : List (List AV))
  | islice (b off : Nat) (rows : List (List AV))
  | ivptr (b off : Nat) (cs : List AV)
  | ifp (t : TypeId) (i o : Nat)
  | ifx (t : TypeId) (v : AV)
  deriving Inhabited
def isLeaf : AV → Bool
  | .int .. | .bool _ | .str _ | .slice _ | .nilp | .nilf | .nili | .nilm | .iface .. | .aslice _ | .islice ..=>true
  | .func _ [] []=>true
  | _=>false
def isCell : AV → Bool
  | .bot | .agg _ | .tuple _=>false
  | _=>true
def isWhole : AV → Bool
  | .agg cs=>cs.all isLeaf
  | v=>isLeaf v
def closedY (n : Nat) : AV → Bool
  | .map i | .ptr i _=>decide (i < n)
  | .nilm | .nilp=>true
  | _=>false
def closedX (n : Nat) : AV → Bool
  | .agg cs=>cs.all (closedY n)
  | v=>closedY n v
def closed1 (n : Nat) : AV → Bool
  | .own i | .ptr i _ | .eptr i _ _ | .map i | .ifp _ i _=>decide (i < n)
  | .int .. | .bool _ | .str _ | .slice _ | .nils | .nilp | .nilf | .nili | .nilm | .iface .. | .vptr _ | .bot | .aslice _ | .islice .. | .ivptr ..=>true
  | .func _ [] []=>true
  | .ifx _ v=>closedX n v
  | _=>false
def closed2 (n : Nat) : AV → Bool
  | .agg cs=>cs.all (closed1 n)
  | .func _ first captured=>first.all (closed1 n) && captured.all (closed1 n)
  | v=>closed1 n v
def closed (n : Nat) : AV → Bool
  | .tuple cs=>cs.all (closed2 n)
  | v=>closed2 n v
inductive Box where
  | dead
  | cells (cs : List AV)
  | row (sz : Nat) (rows : List (List AV)) (s : Nat)
  | mapb (es : List (AV × AV))
  | tc (T : TypeId) (cs : List AV)
  | gr (te : Option TypeId) (sz : Nat) (rows : List (List AV))
  deriving Inhabited
def isElem : AV → Bool
  | .own _ | .nils=>true
  | v=>isLeaf v
def fzOk (w : World) (b : Nat) : Prop:=∃ c e,w.heap[b]? = some (.cells c e (0,0))
structure Ghost where
  n : Nat
  I : Nat → Nat → Prop
  blk : Nat → Nat
  off : Nat → Nat
  len : Nat → Nat
  cap : Nat → Nat
  sz : Nat → Nat
def rowAt (rows : List (List AV)) (i j : Nat) : AV:=(rows.getD i []).getD j .bot
inductive RV (G : Ghost) (w : World) : AV → Value → Prop
  | bot (x : Value) : RV G w .bot x
  | int (k : IntKind) (n : Int) : RV G w (.int k n) (.int k n)
  | bool (b : Bool) : RV G w (.bool b) (.bool b)
  | str (s : List UInt8) : RV G w (.str s) (.string ⟨s.toArray⟩)
  | agg (cs : List AV) (xs : Array Value) (hs : xs.size = cs.length) (hc : ∀ x ∈ xs,x.oneCell' = true)
      (h : ∀ i,i < cs.length → RV G w (cs.getD i .bot) (xs.getD i undef)) : RV G w (.agg cs) (.agg xs)
  | tuple (cs : List AV) (xs : Array Value) (hs : xs.size = cs.length)
      (h : ∀ i,i < cs.length → RV G w (cs.getD i .bot) (xs.getD i undef)) : RV G w (.tuple cs) (.tuple xs)
  | slice0 : RV G w (.slice []) (.slice none 0 0)
  | sliceE (a : Addr) (cap : Nat) : RV G w (.slice []) (.slice (some a) 0 cap)
  | slice (rows : List (List AV)) (b off cap sz : Nat) (X : Nat → Nat → Value)
      (hr : ∀ r ∈ rows,r.length = sz ∧ ∀ v ∈ r,isLeaf v = true) (hcap : rows.length ≤ cap)
      (hx : ∀ i j,i < rows.length → j < sz → w.cell? ⟨b,off + (i * sz + j),none⟩ = some (X i j))
      (hI : ∀ i j,i < rows.length → j < sz → G.I b (off + (i * sz + j))) (hz : 0 < rows.length → 0 < sz → fzOk w b)
      (h : ∀ i j,i < rows.length → j < sz → RV G w (rowAt rows i j) (X i j)) :
      RV G w (.slice rows) (.slice (some ⟨b,off,none⟩) rows.length cap)
  | aslice0 : RV G w (.aslice []) (.slice none 0 0)
  | asliceE (a : Addr) (cap : Nat) : RV G w (.aslice []) (.slice (some a) 0 cap)
  | aslice (rows : List (List AV)) (b off cap sz : Nat) (X : Nat → Nat → Value)
      (hr : ∀ r ∈ rows,r.length = sz ∧ ∀ v ∈ r,isLeaf v = true) (hcap : rows.length ≤ cap)
      (hx : ∀ i j,i < rows.length → j < sz → w.cell? ⟨b,off + (i * sz + j),none⟩ = some (X i j))
      (hI : ∀ i j,i < rows.length → j < sz → G.I b (off + (i * sz + j)))
      (h : ∀ i j,i < rows.length → j < sz → RV G w (rowAt rows i j) (X i j)) :
      RV G w (.aslice rows) (.slice (some ⟨b,off,none⟩) rows.length cap)
  | islice (rows : List (List AV)) (b off cap sz : Nat) (X : Nat → Nat → Value)
      (hr : ∀ r ∈ rows,r.length = sz ∧ ∀ v ∈ r,isLeaf v = true) (hcap : rows.length ≤ cap)
      (hx : ∀ i j,i < rows.length → j < sz → w.cell? ⟨b,off + (i * sz + j),none⟩ = some (X i j))
      (hI : ∀ i j,i < rows.length → j < sz → G.I b (off + (i * sz + j))) (hz : fzOk w b) (hs : 0 < sz) (hl : 0 < rows.length)
      (h : ∀ i j,i < rows.length → j < sz → RV G w (rowAt rows i j) (X i j)) :
      RV G w (.islice b off rows) (.slice (some ⟨b,off,none⟩) rows.length cap)
  | ivptr (cs : List AV) (b off : Nat) (X : Nat → Value) (hl : ∀ v ∈ cs,isLeaf v = true) (hn : 0 < cs.length)
      (hx : ∀ j,j < cs.length → w.cell? ⟨b,off + j,none⟩ = some (X j))
      (hI : ∀ j,j < cs.length → G.I b (off + j)) (hz : fzOk w b)
      (h : ∀ j,j < cs.length → RV G w (cs.getD j .bot) (X j)) : RV G w (.ivptr b off cs) (.pointer (some ⟨b,off,none⟩))
  | own (i : Nat) (hi : i < G.n) : RV G w (.own i) (.slice (some ⟨G.blk i,G.off i,none⟩) (G.len i) (G.cap i))
  | nils : RV G w .nils (.slice none 0 0)
  | ptr (i o : Nat) (hi : i < G.n) : RV G w (.ptr i o) (.pointer (some ⟨G.blk i,o,none⟩))
  | eptr (i k j : Nat) (hi : i < G.n) : RV G w (.eptr i k j) (.pointer (some ⟨G.blk i,G.off i + (k * G.sz i + j),none⟩))
  | vptr (cs : List AV) (b off : Nat) (X : Nat → Value) (hl : ∀ v ∈ cs,isLeaf v = true)
      (hx : ∀ j,j < cs.length → w.cell? ⟨b,off + j,none⟩ = some (X j))
      (hI : ∀ j,j < cs.length → G.I b (off + j))
      (h : ∀ j,j < cs.length → RV G w (cs.getD j .bot) (X j)) : RV G w (.vptr cs) (.pointer (some ⟨b,off,none⟩))
  | nilp : RV G w .nilp (.pointer none)
  | func (fn : Fn) (first captured : List AV) (xs ys : Array Value) (hs : xs.size = first.length) (ht : ys.size = captured.length)
      (h : ∀ i,i < first.length → RV G w (first.getD i .bot) (xs.getD i undef))
      (h' : ∀ i,i < captured.length → RV G w (captured.getD i .bot) (ys.getD i undef)) : RV G w (.func fn first captured) (.func fn xs ys)
  | nilf : RV G w .nilf .nilFunc
  | iface (t : TypeId) (v : AV) (x : Value) (hv : isWhole v = true) (h : RV G w v x) : RV G w (.iface t v) (.iface t x)
  | nili : RV G w .nili .nilIface
  | map (i : Nat) (hi : i < G.n) : RV G w (.map i) (.map (some (G.blk i)))
  | nilm : RV G w .nilm (.map none)
  | ifp (t : TypeId) (i o : Nat) (hi : i < G.n) : RV G w (.ifp t i o) (.iface t (.pointer (some ⟨G.blk i,o,none⟩)))
  | ifx (t : TypeId) (v : AV) (x : Value) (h : RV G w v x) : RV G w (.ifx t v) (.iface t x)
structure Ext (G : Ghost) (w : World) (G' : Ghost) (w' : World) : Prop where
  n : G.n ≤ G'.n
  I : ∀ b o,G.I b o → G'.I b o
  cell : ∀ b o,G.I b o → w'.cell? ⟨b,o,none⟩ = w.cell? ⟨b,o,none⟩
  ids : ∀ i,i < G.n → G'.blk i = G.blk i ∧ G'.off i = G.off i ∧ G'.len i = G.len i ∧ G'.cap i = G.cap i ∧ G'.sz i = G.sz i
  fz : ∀ b o,G.I b o → fzOk w b → fzOk w' b
theorem Ext.refl (G : Ghost) (w : World) : Ext G w G w:=⟨Nat.le_refl _,fun _ _ h=>h,fun _ _ _=>rfl,fun _ _=>⟨rfl,rfl,rfl,rfl,rfl⟩,fun _ _ _ h=>h⟩
theorem Ext.trans {G G1 G2 : Ghost} {w w1 w2 : World} (h : Ext G w G1 w1) (k : Ext G1 w1 G2 w2) : Ext G w G2 w2 where
  n:=Nat.le_trans h.n k.n
  I:=fun b o x=>k.I b o (h.I b o x)
  cell:=fun b o x=>(k.cell b o (h.I b o x)).trans (h.cell b o x)
  ids:=fun i hi=>by
    obtain ⟨a1,a2,a3,a4,a5⟩:=h.ids i hi
    obtain ⟨b1,b2,b3,b4,b5⟩:=k.ids i (Nat.lt_of_lt_of_le hi h.n)
    exact ⟨b1.trans a1,b2.trans a2,b3.trans a3,b4.trans a4,b5.trans a5⟩
  fz:=fun b o x f=>k.fz b o (h.I b o x) (h.fz b o x f)
theorem RV.mono {G G' : Ghost} {w w' : World} {v : AV} {x : Value} (h : RV G w v x) (e : Ext G w G' w') : RV G' w' v x:=by
  induction h with
  | bot x=>exact .bot x
  | int k n=>exact .int k n
  | bool b=>exact .bool b
  | str s=>exact .str s
  | agg cs xs hs hc h ih=>exact .agg cs xs hs hc ih
  | tuple cs xs hs h ih=>exact .tuple cs xs hs ih
  | slice0=>exact .slice0
  | sliceE a cap=>exact .sliceE a cap
  | slice rows b off cap sz X hr hcap hx hI hz h ih =>
    exact .slice rows b off cap sz X hr hcap (fun i j hi hj=>(e.cell _ _ (hI i j hi hj)).trans (hx i j hi hj)) (fun i j hi hj=>e.I _ _ (hI i j hi hj)) (fun hl hs=>e.fz _ _ (hI 0 0 hl hs) (hz hl hs)) ih
  | aslice0=>exact .aslice0
  | asliceE a cap=>exact .asliceE a cap
  | aslice rows b off cap sz X hr hcap hx hI h ih =>
    exact .aslice rows b off cap sz X hr hcap (fun i j hi hj=>(e.cell _ _ (hI i j hi hj)).trans (hx i j hi hj)) (fun i j hi hj=>e.I _ _ (hI i j hi hj)) ih
  | islice rows b off cap sz X hr hcap hx hI hz hs hl h ih =>
    exact .islice rows b off cap sz X hr hcap (fun i j hi hj=>(e.cell _ _ (hI i j hi hj)).trans (hx i j hi hj)) (fun i j hi hj=>e.I _ _ (hI i j hi hj)) (e.fz _ _ (hI 0 0 hl hs) hz) hs hl ih
  | ivptr cs b off X hl hn hx hI hz h ih=>exact .ivptr cs b off X hl hn (fun j hj=>(e.cell _ _ (hI j hj)).trans (hx j hj)) (fun j hj=>e.I _ _ (hI j hj)) (e.fz _ _ (hI 0 hn) hz) ih
  | own i hi =>
    obtain ⟨a1,a2,a3,a4,a5⟩:=e.ids i hi
    rw [← a1,← a2,← a3,← a4]; exact .own i (Nat.lt_of_lt_of_le hi e.n)
  | nils=>exact .nils
  | ptr i o hi =>
    obtain ⟨a1,a2,a3,a4,a5⟩:=e.ids i hi
    rw [← a1]; exact .ptr i o (Nat.lt_of_lt_of_le hi e.n)
  | eptr i k j hi =>
    obtain ⟨a1,a2,a3,a4,a5⟩:=e.ids i hi
    rw [← a1,← a2,← a5]; exact .eptr i k j (Nat.lt_of_lt_of_le hi e.n)
  | vptr cs b off X hl hx hI h ih=>exact .vptr cs b off X hl (fun j hj=>(e.cell _ _ (hI j hj)).trans (hx j hj)) (fun j hj=>e.I _ _ (hI j hj)) ih
  | nilp=>exact .nilp
  | func fn first captured xs ys hs ht h h' ih ih'=>exact .func fn first captured xs ys hs ht ih ih'
  | nilf=>exact .nilf
  | iface t v x hv h ih=>exact .iface t v x hv ih
  | nili=>exact .nili
  | map i hi =>
    obtain ⟨a1,a2,a3,a4,a5⟩:=e.ids i hi
    rw [← a1]; exact .map i (Nat.lt_of_lt_of_le hi e.n)
  | nilm=>exact .nilm
  | ifp t i o hi =>
    obtain ⟨a1,a2,a3,a4,a5⟩:=e.ids i hi
    rw [← a1]; exact .ifp t i o (Nat.lt_of_lt_of_le hi e.n)
  | ifx t v x h ih=>exact .ifx t v x ih
def Ghost.cut (G : Ghost) (n : Nat) : Ghost:={ G with n:=n }
theorem leaf_closed1 {n : Nat} {v : AV} (h : isLeaf v = true) : closed1 n v = true:=by
  cases v <;> simp_all [isLeaf,closed1]
  case func fn f c=>cases f <;> cases c <;> simp_all [isLeaf]
theorem closed1_closed {n : Nat} {v : AV} (h : closed1 n v = true) : closed n v = true:=by
  cases v <;> simp_all [closed,closed1,closed2]
  case func fn f c=>cases f <;> cases c <;> simp_all [closed1]
theorem closed2_closed {n : Nat} {v : AV} (h : closed2 n v = true) : closed n v = true:=by
  cases v <;> simp_all [closed,closed1,closed2]
theorem closedY_closed1 {n : Nat} {v : AV} (h : closedY n v = true) : closed1 n v = true:=by
  cases v <;> simp_all [closedY,closed1]
theorem closedX_closed {n : Nat} {v : AV} (h : closedX n v = true) : closed n v = true:=by
  cases v with
  | agg cs =>
    simp only [closedX,List.all_eq_true] at h
    simp only [closed,closed2,List.all_eq_true]
    exact fun x hx=>closedY_closed1 (h x hx)
  | _=>exact closed1_closed (closedY_closed1 (by simpa [closedX] using h))
theorem leaf_closed {n : Nat} {v : AV} (h : isLeaf v = true) : closed n v = true:=closed1_closed (leaf_closed1 h)
theorem whole_closed {n : Nat} {v : AV} (h : isWhole v = true) : closed n v = true:=by
  cases v with
  | agg cs =>
    simp only [isWhole,List.all_eq_true] at h
    simp only [closed,closed2,List.all_eq_true]
    exact fun x hx=>leaf_closed1 (h x hx)
  | _=>exact leaf_closed (by simpa [isWhole] using h)
theorem getD_mem {α : Type} {l : List α} {i : Nat} {d : α} (h : i < l.length) : l.getD i d ∈ l:=by
  simp [List.getD,h]
theorem rowAt_mem {rows : List (List AV)} {sz i j : Nat} (hr : ∀ r ∈ rows,r.length = sz ∧ ∀ v ∈ r,isLeaf v = true) (hi : i < rows.length) (hj : j < sz) : isLeaf (rowAt rows i j) = true:=by
  obtain ⟨e1,e2⟩:=hr _ (getD_mem (d:=[]) hi)
  exact e2 _ (getD_mem (by omega))
theorem RV.cut {G : Ghost} {w : World} (n : Nat) {v : AV} {x : Value} (h : RV G w v x) : closed n v = true → RV (G.cut n) w v x:=by
  induction h with
  | bot x=>intro _; exact .bot x
  | int k n=>intro _; exact .int k n
  | bool b=>intro _; exact .bool b
  | str s=>intro _; exact .str s
  | agg cs xs hs hc h ih =>
    intro hk
    simp only [closed,closed2,List.all_eq_true] at hk
    exact .agg cs xs hs hc fun i hi=>ih i hi (closed1_closed (hk _ (getD_mem hi)))
  | tuple cs xs hs h ih =>
    intro hk
    simp only [closed,List.all_eq_true] at hk
    exact .tuple cs xs hs fun i hi=>ih i hi (closed2_closed (hk _ (getD_mem hi)))
  | slice0=>intro _; exact .slice0
  | sliceE a cap=>intro _; exact .sliceE a cap
  | slice rows b off cap sz X hr hcap hx hI hz h ih =>
    intro _
    exact .slice rows b off cap sz X hr hcap hx hI hz fun i j hi hj=>ih i j hi hj (leaf_closed (rowAt_mem hr hi hj))
  | aslice0=>intro _; exact .aslice0
  | asliceE a cap=>intro _; exact .asliceE a cap
  | aslice rows b off cap sz X hr hcap hx hI h ih =>
    intro _
    exact .aslice rows b off cap sz X hr hcap hx hI fun i j hi hj=>ih i j hi hj (leaf_closed (rowAt_mem hr hi hj))
  | islice rows b off cap sz X hr hcap hx hI hz hs hl h ih =>
    intro _
    exact .islice rows b off cap sz X hr hcap hx hI hz hs hl fun i j hi hj=>ih i j hi hj (leaf_closed (rowAt_mem hr hi hj))
  | ivptr cs b off X hl hn hx hI hz h ih =>
    intro _
    exact .ivptr cs b off X hl hn hx hI hz fun j hj=>ih j hj (leaf_closed (hl _ (getD_mem hj)))
  | own i hi=>intro hc; simp [closed,closed1,closed2] at hc; exact .own (G:=G.cut n) i hc
  | nils=>intro _; exact .nils
  | ptr i o hi=>intro hc; simp [closed,closed1,closed2] at hc; exact .ptr (G:=G.cut n) i o hc
  | eptr i k j hi=>intro hc; simp [closed,closed1,closed2] at hc; exact .eptr (G:=G.cut n) i k j hc
  | vptr cs b off X hl hx hI h ih =>
    intro _
    exact .vptr cs b off X hl hx hI fun j hj=>ih j hj (leaf_closed (hl _ (getD_mem hj)))
  | nilp=>intro _; exact .nilp
  | func fn first captured xs ys hs ht h h' ih ih' =>
    intro hc
    simp only [closed,closed2,List.all_eq_true,Bool.and_eq_true] at hc
    exact .func fn first captured xs ys hs ht (fun i hi=>ih i hi (closed1_closed (hc.1 _ (getD_mem hi)))) (fun i hi=>ih' i hi (closed1_closed (hc.2 _ (getD_mem hi))))
  | nilf=>intro _; exact .nilf
  | iface t v x hv h ih=>intro _; exact .iface t v x hv (ih (whole_closed hv))
  | nili=>intro _; exact .nili
  | map i hi=>intro hc; simp [closed,closed1,closed2] at hc; exact .map (G:=G.cut n) i hc
  | nilm=>intro _; exact .nilm
  | ifp t i o hi=>intro hc; simp [closed,closed1,closed2] at hc; exact .ifp (G:=G.cut n) t i o hc
  | ifx t v x h ih=>intro hc; exact .ifx t v x (ih (closedX_closed (by simpa [closed,closed1,closed2] using hc)))
theorem RV.cell {G : Ghost} {w : World} {v : AV} {x : Value} (h : RV G w v x) (hv : isCell v = true) : x.oneCell' = true:=by
  cases h <;> simp_all [isCell,Value.oneCell']
theorem leaf_cell {v : AV} (h : isLeaf v = true) : isCell v = true:=by
  cases v <;> simp_all [isLeaf,isCell]
def RowOk (E : AV → Bool) (G : Ghost) (w : World) (i sz : Nat) (rows : List (List AV)) (s : Nat) : Prop :=
  ∃ c e,w.heap[G.blk i]? = some (.cells c e (0,0)) ∧ True ∧
      G.len i = rows.length ∧ rows.length ≤ G.cap i ∧ G.sz i = sz ∧ G.off i + G.cap i * sz ≤ c.size ∧ s ≤ rows.length ∧
      (∀ r ∈ rows,r.length = sz ∧ ∀ v ∈ r,E v = true) ∧
      (∀ k j,k < rows.length → j < sz → RV G w (rowAt rows k j) (c.getD (G.off i + (k * sz + j)) undef)) ∧ (∀ o,G.off i + s * sz ≤ o → ¬ G.I (G.blk i) o)
def Typed (te : Option TypeId) (G : Ghost) (w : World) (i : Nat) : Prop:=∀ t,te = some t → G.off i = 0 ∧ ∃ c,w.heap[G.blk i]? = some (.cells c t (0,0))
def Born (m : Array MapEntry) (clock : Nat) : Prop:=(∀ x ∈ m.toList,x.born < clock) ∧ (m.toList.map (·.born)).Nodup
def BoxOk (G : Ghost) (w : World) (i : Nat) : Box → Prop
  | .dead=>True
  | .tc T cs=>∃ c,w.heap[G.blk i]? = some (.cells c T (0,0)) ∧ c.size = cs.length ∧ (∀ x ∈ c,x.oneCell' = true) ∧
      (∀ j,j < cs.length → RV G w (cs.getD j .bot) (c.getD j undef)) ∧ (∀ o,¬ G.I (G.blk i) o)
  | .gr te sz rows=>RowOk isElem G w i sz rows 0 ∧ Typed te G w i
  | .cells cs=>∃ c e,w.heap[G.blk i]? = some (.cells c e (0,0)) ∧ c.size = cs.length ∧ (∀ x ∈ c,x.oneCell' = true) ∧
      (∀ j,j < cs.length → RV G w (cs.getD j .bot) (c.getD j undef)) ∧ (∀ o,¬ G.I (G.blk i) o)
  | .row sz rows s=>RowOk isLeaf G w i sz rows s
  | .mapb es=>∃ m clock,(w.heap[G.blk i]? = some (.map m clock) ∧ Born m clock) ∧ m.size = es.length ∧
      (∀ j,j < es.length → RV G w (es.getD j (.bot,.bot)).1 (m.getD j default).key ∧ RV G w (es.getD j (.bot,.bot)).2 (m.getD j default).val) ∧ (∀ o,¬ G.I (G.blk i) o)
def Box.live : Box → Bool
  | .dead=>false
  | _=>true
def hdV : Option Value:=none
def GV (w : World) (base : Nat) : Prop:=∀ v,hdV = some v → 0 < base ∧ w.cell? ⟨0,0,none⟩ = some v
structure HRel (G : Ghost) (A : List Box) (w : World) (base : Nat) : Prop where
  n : G.n = A.length
  box : ∀ i,i < A.length → BoxOk G w i (A.getD i .dead)
  sep : ∀ i j,i < A.length → j < A.length → i ≠ j → (A.getD i .dead).live = true → (A.getD j .dead).live = true → G.blk i ≠ G.blk j
  bnd : ∀ i,i < A.length → (A.getD i .dead).live = true → base ≤ G.blk i ∧ G.blk i < w.heap.size
  imm : ∀ b o,G.I b o → b < w.heap.size
  low : base ≤ w.heap.size
  gv : GV w base
end Go.Abs
/- How the relation between the boxes and the memory goes on. -/
namespace Go.Abs
open Go.RowKit
theorem cell?_congr {w w' : World} {b : Nat} (h : w'.heap[b]? = w.heap[b]?) (o : Nat) : w'.cell? ⟨b,o,none⟩ = w.cell? ⟨b,o,none⟩:=by
  simp [World.cell?,h]
theorem cell?_of {w : World} {b o : Nat} {c : Array Value} {e : TypeId} {fz : Nat × Nat} (h : w.heap[b]? = some (.cells c e fz)) (ho : o < c.size) : w.cell? ⟨b,o,none⟩ = some (c.getD o undef):=by
  simp [World.cell?,h,Array.getD,ho]
theorem frozen?_of {w : World} {b o : Nat} {c : Array Value} {e : TypeId} {fz : Nat × Nat} (h : w.heap[b]? = some (.cells c e fz)) (hf : ¬ (fz.1 ≤ o ∧ o < fz.2)) : w.frozen? ⟨b,o,none⟩ = false:=by
  obtain ⟨lo,hi⟩:=fz
  simp only [World.frozen?,h]
  simpa using hf
structure Kept (X : Nat → Prop) (w w' : World) : Prop where
  os : w'.os = w.os
  tape : w'.tape = w.tape
  output : w'.output = w.output
  size : w.heap.size ≤ w'.heap.size
  block : ∀ b,b < w.heap.size → ¬ X b → w'.heap[b]? = w.heap[b]?
theorem Kept.fz {X : Nat → Prop} {w w' : World} (h : Kept X w w') {b : Nat} (hb : b < w.heap.size) (hx : ¬ X b) (f : fzOk w b) : fzOk w' b:=by
  unfold fzOk; rw [h.block b hb hx]; exact f
theorem Kept.below {X : Nat → Prop} {w w' : World} {base : Nat} (h : Kept X w w') (hX : ∀ b,X b → base ≤ b) (hb : base ≤ w.heap.size) : Below base w w' :=
  ⟨h.os,h.tape,h.output,h.size,fun k hk=>h.block k (by omega) (fun hx=>by have:=hX k hx; omega)⟩
theorem GV.block {w w' : World} {base : Nat} (h : GV w base) (hk : ∀ b,b < base → w'.heap[b]? = w.heap[b]?) : GV w' base:=fun v hv=>by
  obtain ⟨h1,h2⟩:=h v hv
  exact ⟨h1,(cell?_congr (hk 0 h1) 0).trans h2⟩
theorem GV.wide {w : World} {b b' : Nat} (h : GV w b) (hb : b ≤ b') : GV w b':=fun v hv=>by
  obtain ⟨h1,h2⟩:=h v hv
  exact ⟨Nat.lt_of_lt_of_le h1 hb,h2⟩
theorem RowOk.mono {E : AV → Bool} {G G' : Ghost} {w w' : World} {i sz s : Nat} {rows : List (List AV)} (h : RowOk E G w i sz rows s) (e : Ext G w G' w') (hi : i < G.n)
    (hk : w'.heap[G.blk i]? = w.heap[G.blk i]?) (hI : ∀ o,G'.I (G.blk i) o → G.I (G.blk i) o) : RowOk E G' w' i sz rows s:=by
  obtain ⟨a1,a2,a3,a4,a5⟩:=e.ids i hi
  obtain ⟨c,el,h1,h3,h4,h5,h6,h7,h8,h9,h10,h11⟩:=h
  refine ⟨c,el,?_,h3,by rw [a3]; exact h4,by rw [a4]; exact h5,by rw [a5]; exact h6,by rw [a2,a4]; exact h7,h8,h9,fun k j hk' hj=>?_,fun o ho hh=>?_⟩
  · rw [a1,hk]; exact h1
  · rw [a2]; exact (h10 k j hk' hj).mono e
  · rw [a2] at ho; rw [a1] at hh; exact h11 o ho (hI o hh)
theorem Typed.mono {te : Option TypeId} {G G' : Ghost} {w w' : World} {i : Nat} (h : Typed te G w i) (e : Ext G w G' w') (hi : i < G.n) (hk : w'.heap[G.blk i]? = w.heap[G.blk i]?) : Typed te G' w' i:=by
  obtain ⟨a1,a2,a3,a4,a5⟩:=e.ids i hi
  intro t ht
  obtain ⟨b1,c,b2⟩:=h t ht
  exact ⟨by rw [a2]; exact b1,c,by rw [a1,hk]; exact b2⟩
theorem BoxOk.mono {G G' : Ghost} {w w' : World} {i : Nat} {b : Box} (h : BoxOk G w i b) (e : Ext G w G' w') (hi : i < G.n)
    (hk : b.live = true → w'.heap[G.blk i]? = w.heap[G.blk i]?) (hI : b.live = true → ∀ o,G'.I (G.blk i) o → G.I (G.blk i) o) : BoxOk G' w' i b:=by
  obtain ⟨a1,a2,a3,a4,a5⟩:=e.ids i hi
  cases b with
  | dead=>trivial
  | cells cs =>
    obtain ⟨c,el,h1,h3,h4,h5,h6⟩:=h
    refine ⟨c,el,?_,h3,h4,fun j hj=>(h5 j hj).mono e,fun o ho=>h6 o (hI rfl o (by rwa [← a1]))⟩
    rw [a1,hk rfl]; exact h1
  | row sz rows s=>exact RowOk.mono h e hi (hk rfl) (hI rfl)
  | gr te sz rows=>exact ⟨RowOk.mono h.1 e hi (hk rfl) (hI rfl),h.2.mono e hi (hk rfl)⟩
  | tc T cs =>
    obtain ⟨c,h1,h3,h4,h5,h6⟩:=h
    refine ⟨c,?_,h3,h4,fun j hj=>(h5 j hj).mono e,fun o ho=>h6 o (hI rfl o (by rwa [← a1]))⟩
    rw [a1,hk rfl]; exact h1
  | mapb es =>
    obtain ⟨m,cl,h1,h3,h4,h5⟩:=h
    exact ⟨m,cl,by rw [a1,hk rfl]; exact h1,h3,fun j hj=>⟨(h4 j hj).1.mono e,(h4 j hj).2.mono e⟩,fun o ho=>h5 o (hI rfl o (by rwa [← a1]))⟩
theorem HRel.heap {G : Ghost} {A : List Box} {w w' : World} {base : Nat} (h : HRel G A w base) (hh : w'.heap = w.heap) : HRel G A w' base ∧ Ext G w G w':=by
  have e : Ext G w G w':=⟨Nat.le_refl _,fun _ _ x=>x,fun b o _=>cell?_congr (by rw [hh]) o,fun _ _=>⟨rfl,rfl,rfl,rfl,rfl⟩,fun b o _ f=>by unfold fzOk; rw [hh]; exact f⟩
  exact ⟨⟨h.n,fun i hi=>(h.box i hi).mono e (by rw [h.n]; exact hi) (fun _=>by rw [hh]) (fun _ _ x=>x),h.sep,fun i hi hl=>by rw [hh]; exact h.bnd i hi hl,fun b o x=>by rw [hh]; exact h.imm b o x,by rw [hh]; exact h.low,h.gv.block fun b _=>by rw [hh]⟩,e⟩
def Ghost.add (G : Ghost) (b off len cap sz : Nat) : Ghost :=
  { n:=G.n + 1,I:=G.I,blk:=fun i=>if i = G.n then b else G.blk i,off:=fun i=>if i = G.n then off else G.off i,
    len:=fun i=>if i = G.n then len else G.len i,cap:=fun i=>if i = G.n then cap else G.cap i,sz:=fun i=>if i = G.n then sz else G.sz i }
theorem Ghost.add_ext {G : Ghost} {w w' : World} (b off len cap sz : Nat) (hc : ∀ x o,G.I x o → w'.cell? ⟨x,o,none⟩ = w.cell? ⟨x,o,none⟩) (hf : ∀ x o,G.I x o → fzOk w x → fzOk w' x) : Ext G w (G.add b off len cap sz) w' :=
  { fz:=hf
    n:=by simp [Ghost.add]
    I:=fun _ _ x=>x
    cell:=hc
    ids:=fun i hi=>by
      have : i ≠ G.n:=Nat.ne_of_lt hi
      simp [Ghost.add,this] }
theorem getD_append_left {α : Type} {l l' : List α} {i : Nat} {d : α} (h : i < l.length) : (l ++ l').getD i d = l.getD i d:=by
  simp [List.getD,List.getElem?_append_left h]
theorem HRel.push {G : Ghost} {A : List Box} {w w' : World} {base : Nat} (h : HRel G A w base) (bx : Box) (off len cap sz : Nat)
    (hk : Kept (fun _=>False) w w') (hs : w.heap.size < w'.heap.size)
    (hb : Ext G w (G.add w.heap.size off len cap sz) w' → BoxOk (G.add w.heap.size off len cap sz) w' G.n bx) :
    HRel (G.add w.heap.size off len cap sz) (A ++ [bx]) w' base ∧ Ext G w (G.add w.heap.size off len cap sz) w':=by
  have e : Ext G w (G.add w.heap.size off len cap sz) w':=Ghost.add_ext _ _ _ _ _ (fun x o hx=>cell?_congr (hk.block x (h.imm x o hx) (fun f=>f)) o) fun x o hx f=>hk.fz (h.imm x o hx) (fun f=>f) f
  have hn:=h.n
  have hblk : ∀ i,i < A.length → (G.add w.heap.size off len cap sz).blk i = G.blk i:=fun i hi=>(e.ids i (by omega)).1
  have hnew : (G.add w.heap.size off len cap sz).blk A.length = w.heap.size:=by simp [Ghost.add,hn]
  refine ⟨⟨by simp [Ghost.add,hn],fun i hi=>?_,fun i j hi hj hne li lj=>?_,fun i hi li=>?_,fun b o x=>Nat.lt_of_lt_of_le (h.imm b o x) hk.size,Nat.le_trans h.low hk.size,h.gv.block fun b hb=>hk.block b (by have:=h.low; omega) (fun f=>f)⟩,e⟩
  · simp only [List.length_append,List.length_singleton] at hi
    by_cases hlt : i < A.length
    · rw [getD_append_left hlt]
      exact (h.box i hlt).mono e (by omega) (fun li=>hk.block _ (h.bnd i hlt li).2 (fun f=>f)) (fun _ _ x=>x)
    · obtain rfl : i = A.length:=by omega
      have : (A ++ [bx]).getD A.length Box.dead = bx:=by simp [List.getD]
      rw [this,← hn]; exact hb e
  · simp only [List.length_append,List.length_singleton] at hi hj
    by_cases hil : i < A.length
    · rw [getD_append_left hil] at li
      by_cases hjl : j < A.length
      · rw [getD_append_left hjl] at lj
        rw [hblk i hil,hblk j hjl]; exact h.sep i j hil hjl hne li lj
      · obtain rfl : j = A.length:=by omega
        rw [hblk i hil,hnew]; have:=(h.bnd i hil li).2; omega
    · obtain rfl : i = A.length:=by omega
      have hjl : j < A.length:=by omega
      rw [getD_append_left hjl] at lj
      rw [hblk j hjl,hnew]; have:=(h.bnd j hjl lj).2; omega
  · simp only [List.length_append,List.length_singleton] at hi
    by_cases hil : i < A.length
    · rw [getD_append_left hil] at li
      rw [hblk i hil]; have:=h.bnd i hil li; exact ⟨this.1,Nat.lt_of_lt_of_le this.2 hk.size⟩
    · obtain rfl : i = A.length:=by omega
      rw [hnew]; exact ⟨h.low,hs⟩
theorem getD_set_self {α : Type} {l : List α} {i : Nat} {d x : α} (h : i < l.length) : (l.set i x).getD i d = x:=by
  simp [List.getD,h]
theorem getD_set_ne' {α : Type} {l : List α} {i j : Nat} {d x : α} (h : i ≠ j) : (l.set i x).getD j d = l.getD j d:=by
  simp [List.getD,List.getElem?_set_ne h]
theorem HRel.set {G : Ghost} {A : List Box} {w w' : World} {base i : Nat} (h : HRel G A w base) (bx : Box) (hi : i < A.length) (hl : (A.getD i .dead).live = true)
    (hk : Kept (fun b=>b = G.blk i) w w') (hc : ∀ o,G.I (G.blk i) o → w'.cell? ⟨G.blk i,o,none⟩ = w.cell? ⟨G.blk i,o,none⟩) (hf : ∀ o,G.I (G.blk i) o → fzOk w (G.blk i) → fzOk w' (G.blk i))
    (hb : Ext G w G w' → BoxOk G w' i bx) : HRel G (A.set i bx) w' base ∧ Ext G w G w':=by
  have e : Ext G w G w':=⟨Nat.le_refl _,fun _ _ x=>x,fun x o hx=>by
      by_cases hxb : x = G.blk i
      · subst hxb; exact hc o hx
      · exact cell?_congr (hk.block x (h.imm x o hx) hxb) o,fun _ _=>⟨rfl,rfl,rfl,rfl,rfl⟩,fun x o hx f=>by
      by_cases hxb : x = G.blk i
      · subst hxb; exact hf o hx f
      · exact hk.fz (h.imm x o hx) hxb f⟩
  refine ⟨⟨by simp [h.n],fun j hj=>?_,fun j k hj hk' hne lj lk=>?_,fun j hj lj=>?_,fun b o x=>Nat.lt_of_lt_of_le (h.imm b o x) hk.size,Nat.le_trans h.low hk.size,h.gv.block fun b hb=>hk.block b (by have:=h.low; omega) (fun hx=>by have:=(h.bnd i hi hl).1; omega)⟩,e⟩
  · simp only [List.length_set] at hj
    by_cases hji : i = j
    · subst hji; rw [getD_set_self hi]; exact hb e
    · rw [getD_set_ne' hji]
      exact (h.box j hj).mono e (by rw [h.n]; exact hj) (fun lj=>hk.block _ (h.bnd j hj lj).2 (fun hx=>h.sep j i hj hi (Ne.symm hji) lj hl hx)) (fun _ _ x=>x)
  · simp only [List.length_set] at hj hk'
    have aux : ∀ k,k < A.length → ((A.set i bx).getD k .dead).live = true → (A.getD k .dead).live = true:=fun k hk2 lk2=>by
      by_cases hki : i = k
      · subst hki; exact hl
      · rwa [getD_set_ne' hki] at lk2
    exact h.sep j k hj hk' hne (aux j hj lj) (aux k hk' lk)
  · simp only [List.length_set] at hj
    have : base ≤ G.blk j ∧ G.blk j < w.heap.size:=by
      by_cases hji : i = j
      · subst hji; exact h.bnd i hi hl
      · rw [getD_set_ne' hji] at lj; exact h.bnd j hj lj
    exact ⟨this.1,Nat.lt_of_lt_of_le this.2 hk.size⟩
theorem HRel.kill {G : Ghost} {A : List Box} {w : World} {base i : Nat} (h : HRel G A w base) : HRel G (A.set i .dead) w base:=by
  have aux : ∀ k,((A.set i .dead).getD k .dead).live = true → (A.set i .dead).getD k .dead = A.getD k .dead:=fun k lk2=>by
    by_cases hki : i = k
    · subst hki
      by_cases hlt : i < A.length
      · rw [getD_set_self hlt] at lk2; simp [Box.live] at lk2
      · simp [List.getD,hlt] at lk2; simp [Box.live] at lk2
    · exact getD_set_ne' hki
  refine ⟨by simp [h.n],fun j hj=>?_,fun j k hj hk' hne lj lk=>?_,fun j hj lj=>?_,h.imm,h.low,h.gv⟩
  · simp only [List.length_set] at hj
    by_cases hji : i = j
    · subst hji; rw [getD_set_self hj]; trivial
    · rw [getD_set_ne' hji]; exact h.box j hj
  · simp only [List.length_set] at hj hk'
    exact h.sep j k hj hk' hne (by rw [← aux j lj]; exact lj) (by rw [← aux k lk]; exact lk)
  · simp only [List.length_set] at hj
    exact h.bnd j hj (by rw [← aux j lj]; exact lj)
theorem HRel.shutRow {G : Ghost} {A : List Box} {w : World} {base i sz s : Nat} {rows : List (List AV)} (h : HRel G A w base) (hi : i < A.length) (hb : A.getD i .dead = .row sz rows s) :
    ∃ G',HRel G' (A.set i (.row sz rows rows.length)) w base ∧ Ext G w G' w ∧ RV G' w (.slice rows) (.slice (some ⟨G.blk i,G.off i,none⟩) (G.len i) (G.cap i)):=by
  have hl : (A.getD i .dead).live = true:=by rw [hb]; rfl
  have hbox:=h.box i hi
  rw [hb] at hbox
  obtain ⟨c,el,h1,h3,h4,h5,h6,h7,h8,h9,h10,h11⟩:=hbox
  let G' : Ghost:={ G with I:=fun b o=>G.I b o ∨ (b = G.blk i ∧ G.off i ≤ o ∧ o < G.off i + rows.length * sz) }
  have e : Ext G w G' w:=⟨Nat.le_refl _,fun _ _ x=>.inl x,fun _ _ _=>rfl,fun _ _=>⟨rfl,rfl,rfl,rfl,rfl⟩,fun _ _ _ f=>f⟩
  have hcap : rows.length * sz ≤ G.cap i * sz:=Nat.mul_le_mul_right _ h5
  have inb : ∀ k j,k < rows.length → j < sz → k * sz + j < rows.length * sz:=fun k j hk hj=>by
    have:=Nat.mul_le_mul_right sz (Nat.succ_le_of_lt hk)
    rw [Nat.succ_mul] at this; omega
  refine ⟨G',⟨by simp [G',h.n],fun j hj=>?_,fun j k hj hk' hne lj lk=>?_,fun j hj lj=>?_,fun b o x=>?_,h.low,h.gv⟩,e,?_⟩
  · simp only [List.length_set] at hj
    by_cases hji : i = j
    · subst hji; rw [getD_set_self hj]
      refine ⟨c,el,h1,h3,h4,h5,h6,h7,Nat.le_refl _,h9,fun k j hk hj=>(h10 k j hk hj).mono e,fun o ho hh=>?_⟩
      rcases hh with hh | hh
      · exact h11 o (Nat.le_trans (Nat.add_le_add_left (Nat.mul_le_mul_right _ h8) _) ho) hh
      · have : G'.off i = G.off i:=rfl
        omega
    · rw [getD_set_ne' hji]
      refine (h.box j hj).mono e (by rw [h.n]; exact hj) (fun _=>rfl) (fun lj o x=>?_)
      rcases x with x | x
      · exact x
      · exact absurd x.1 (h.sep j i hj hi (Ne.symm hji) lj hl)
  · simp only [List.length_set] at hj hk'
    have aux : ∀ k,k < A.length → ((A.set i (.row sz rows rows.length)).getD k .dead).live = true → (A.getD k .dead).live = true:=fun k hk2 lk2=>by
      by_cases hki : i = k
      · subst hki; exact hl
      · rwa [getD_set_ne' hki] at lk2
    exact h.sep j k hj hk' hne (aux j hj lj) (aux k hk' lk)
  · simp only [List.length_set] at hj
    by_cases hji : i = j
    · subst hji; exact h.bnd i hi hl
    · rw [getD_set_ne' hji] at lj; exact h.bnd j hj lj
  · rcases x with x | x
    · exact h.imm b o x
    · rw [x.1]; exact (h.bnd i hi hl).2
  · rw [h4]
    refine .slice rows (G.blk i) (G.off i) (G.cap i) sz (fun k j=>c.getD (G.off i + (k * sz + j)) undef) h9 h5 (fun k j hk hj=>?_) (fun k j hk hj=>.inr ⟨rfl,by omega,?_⟩) (fun _ _=>⟨c,el,h1⟩) fun k j hk hj=>(h10 k j hk hj).mono e
    · exact cell?_of h1 (by have:=inb k j hk hj; omega)
    · have:=inb k j hk hj; omega
theorem HRel.hand {G : Ghost} {A : List Box} {w w' : World} {base i : Nat} (h : HRel G A w base) (bx : Box) (off len cap sz : Nat) (hi : i < A.length) (hl : (A.getD i .dead).live = true)
    (hk : Kept (fun b=>b = G.blk i) w w') (hc : ∀ o,G.I (G.blk i) o → w'.cell? ⟨G.blk i,o,none⟩ = w.cell? ⟨G.blk i,o,none⟩) (hf : ∀ o,G.I (G.blk i) o → fzOk w (G.blk i) → fzOk w' (G.blk i))
    (hb : Ext G w (G.add (G.blk i) off len cap sz) w' → BoxOk (G.add (G.blk i) off len cap sz) w' G.n bx) :
    HRel (G.add (G.blk i) off len cap sz) (A.set i .dead ++ [bx]) w' base ∧ Ext G w (G.add (G.blk i) off len cap sz) w':=by
  have e : Ext G w (G.add (G.blk i) off len cap sz) w':=Ghost.add_ext _ _ _ _ _ (fun x o hx=>by
      by_cases hxb : x = G.blk i
      · subst hxb; exact hc o hx
      · exact cell?_congr (hk.block x (h.imm x o hx) hxb) o) fun x o hx f=>by
      by_cases hxb : x = G.blk i
      · subst hxb; exact hf o hx f
      · exact hk.fz (h.imm x o hx) hxb f
  have hn:=h.n
  have hblk : ∀ j,j < A.length → (G.add (G.blk i) off len cap sz).blk j = G.blk j:=fun j hj=>(e.ids j (by omega)).1
  have hnew : (G.add (G.blk i) off len cap sz).blk A.length = G.blk i:=by simp [Ghost.add,hn]
  have old : ∀ j,j < A.length → ((A.set i .dead ++ [bx]).getD j .dead).live = true → j ≠ i ∧ (A.getD j .dead).live = true:=fun j hj lj=>by
    rw [getD_append_left (by simpa using hj)] at lj
    by_cases hji : i = j
    · subst hji; rw [getD_set_self hj] at lj; simp [Box.live] at lj
    · rw [getD_set_ne' hji] at lj; exact ⟨Ne.symm hji,lj⟩
  refine ⟨⟨by simp [Ghost.add,hn],fun j hj=>?_,fun j k hj hk' hne lj lk=>?_,fun j hj lj=>?_,fun b o x=>Nat.lt_of_lt_of_le (h.imm b o x) hk.size,Nat.le_trans h.low hk.size,h.gv.block fun b hb=>hk.block b (by have:=h.low; omega) (fun hx=>by have:=(h.bnd i hi hl).1; omega)⟩,e⟩
  · simp only [List.length_append,List.length_set,List.length_singleton] at hj
    by_cases hlt : j < A.length
    · rw [getD_append_left (by simpa using hlt)]
      by_cases hji : i = j
      · subst hji; rw [getD_set_self hlt]; trivial
      · rw [getD_set_ne' hji]
        exact (h.box j hlt).mono e (by omega) (fun lj=>hk.block _ (h.bnd j hlt lj).2 (fun hx=>h.sep j i hlt hi (Ne.symm hji) lj hl hx)) (fun _ _ x=>x)
    · obtain rfl : j = A.length:=by omega
      have : (A.set i .dead ++ [bx]).getD A.length Box.dead = bx:=by simp [List.getD]
      rw [this,← hn]; exact hb e
  · simp only [List.length_append,List.length_set,List.length_singleton] at hj hk'
    by_cases hjl : j < A.length
    · obtain ⟨n1,l1⟩:=old j hjl lj
      by_cases hkl : k < A.length
      · obtain ⟨n2,l2⟩:=old k hkl lk
        rw [hblk j hjl,hblk k hkl]; exact h.sep j k hjl hkl hne l1 l2
      · obtain rfl : k = A.length:=by omega
        rw [hblk j hjl,hnew]; exact h.sep j i hjl hi n1 l1 hl
    · obtain rfl : j = A.length:=by omega
      have hkl : k < A.length:=by omega
      obtain ⟨n2,l2⟩:=old k hkl lk
      rw [hblk k hkl,hnew]; exact h.sep i k hi hkl (Ne.symm n2) hl l2
  · simp only [List.length_append,List.length_set,List.length_singleton] at hj
    by_cases hjl : j < A.length
    · obtain ⟨n1,l1⟩:=old j hjl lj
      rw [hblk j hjl]; have:=h.bnd j hjl l1; exact ⟨this.1,Nat.lt_of_lt_of_le this.2 hk.size⟩
    · obtain rfl : j = A.length:=by omega
      rw [hnew]; have:=h.bnd i hi hl; exact ⟨this.1,Nat.lt_of_lt_of_le this.2 hk.size⟩
def boxClosed (n : Nat) : Box → Bool
  | .dead=>true
  | .cells cs=>cs.all (closed1 n)
  | .tc _ cs=>cs.all (closed1 n)
  | .row ..=>true
  | .gr _ _ rows=>rows.all fun r=>r.all (closed1 n)
  | .mapb es=>es.all fun e=>closed2 n e.1 && closed2 n e.2
theorem HRel.cut {G : Ghost} {A B : List Box} {w : World} {base : Nat} (h : HRel G (A ++ B) w base) (hc : ∀ i,i < A.length → boxClosed A.length (A.getD i .dead) = true) :
    HRel (G.cut A.length) A w base:=by
  have hlen : ∀ i,i < A.length → i < (A ++ B).length:=fun i hi=>by simp; omega
  refine ⟨rfl,fun i hi=>?_,fun i j hi hj hne li lj=>?_,fun i hi li=>?_,h.imm,h.low,h.gv⟩
  · have hb:=h.box i (hlen i hi)
    have hcl:=hc i hi
    rw [getD_append_left hi] at hb
    cases hbx : A.getD i .dead with
    | dead=>trivial
    | cells cs =>
      rw [hbx] at hb hcl
      obtain ⟨c,el,h1,h3,h4,h5,h6⟩:=hb
      simp only [boxClosed,List.all_eq_true] at hcl
      exact ⟨c,el,h1,h3,h4,fun j hj=>(h5 j hj).cut _ (closed1_closed (hcl _ (getD_mem hj))),h6⟩
    | row sz rows s =>
      rw [hbx] at hb
      obtain ⟨c,el,h1,h3,h4,h5,h6,h7,h8,h9,h10,h11⟩:=hb
      exact ⟨c,el,h1,h3,h4,h5,h6,h7,h8,h9,fun k j hk hj=>(h10 k j hk hj).cut _ (leaf_closed (rowAt_mem h9 hk hj)),h11⟩
    | tc T cs =>
      rw [hbx] at hb hcl
      obtain ⟨c,h1,h3,h4,h5,h6⟩:=hb
      simp only [boxClosed,List.all_eq_true] at hcl
      exact ⟨c,h1,h3,h4,fun j hj=>(h5 j hj).cut _ (closed1_closed (hcl _ (getD_mem hj))),h6⟩
    | gr te sz rows =>
      rw [hbx] at hb hcl
      obtain ⟨⟨c,el,h1,h3,h4,h5,h6,h7,h8,h9,h10,h11⟩,ht⟩:=hb
      simp only [boxClosed,List.all_eq_true] at hcl
      refine ⟨⟨c,el,h1,h3,h4,h5,h6,h7,h8,h9,fun k j hk hj=>(h10 k j hk hj).cut _ (closed1_closed ?_),h11⟩,ht⟩
      have hm:=getD_mem (d:=[]) hk
      exact hcl _ hm _ (getD_mem (by have:=(h9 _ hm).1; omega))
    | mapb es =>
      rw [hbx] at hb hcl
      obtain ⟨m,cl,h1,h3,h4,h5⟩:=hb
      simp only [boxClosed,List.all_eq_true,Bool.and_eq_true] at hcl
      exact ⟨m,cl,h1,h3,fun j hj=>⟨(h4 j hj).1.cut _ (closed2_closed (hcl _ (getD_mem hj)).1),(h4 j hj).2.cut _ (closed2_closed (hcl _ (getD_mem hj)).2)⟩,h5⟩
  · exact h.sep i j (hlen i hi) (hlen j hj) hne (by rw [getD_append_left hi]; exact li) (by rw [getD_append_left hj]; exact lj)
  · exact h.bnd i (hlen i hi) (by rw [getD_append_left hi]; exact li)
end Go.Abs
/- The operations that only read, and those that make a box. -/
namespace Go.Abs
open Go.RowKit
inductive TK where
  | int (k : IntKind) | bool | str | slice (e : TypeId) | struct (fs : List (Nat × TypeId × Nat)) | ptr (e : TypeId) | iface | map (k e : TypeId) | func | other
structure TI where
  size : Nat
  bytes : Nat
  zero : Option (List AV)
  kind : TK
def const1 : Value → AV
  | .int k n=>.int k n
  | .bool b=>.bool b
  | .string s=>.str s.data.toList
  | .pointer none=>.nilp
  | .slice none 0 0=>.nils
  | .nilFunc=>.nilf
  | .nilIface=>.nili
  | .map none=>.nilm
  | .func fn xs ys=>if xs.size = 0 ∧ ys.size = 0 then .func fn [] [] else .bot
  | _=>.bot
def constA : Value → AV
  | .agg cs=>if cs.all (·.oneCell') then .agg (cs.toList.map const1) else .bot
  | v=>const1 v
def tkOf (P : Program) : TypeDesc → TK
  | .int k=>.int k
  | .bool=>.bool
  | .string=>.str
  | .slice e=>.slice e
  | .struct fs=>.struct (fs.toList.map fun f=>(f.offset,f.type,P.cellsOf f.type))
  | .pointer e=>.ptr e
  | .interface _=>.iface
  | .map k e=>.map k e
  | .func ..=>.func
  | _=>.other
def zeroA : Option Value → Option (List AV)
  | some z=>if z.cells.all (·.oneCell') then some (z.cells.toList.map const1) else none
  | none=>none
def tinf (P : Program) (t : TypeId) : Option TI :=
  match P.info? t,P.underlying t with
  | some i,some d=>some { size:=i.size,bytes:=i.bytes,zero:=zeroA i.zero,kind:=tkOf P d }
  | _,_=>none
theorem tinf_spec {P : Program} {t : TypeId} {ti : TI} (h : tinf P t = some ti) : ∃ i d,P.info? t = some i ∧ P.underlying t = some d ∧ ti.size = i.size ∧ ti.bytes = i.bytes ∧ ti.zero = zeroA i.zero ∧ ti.kind = tkOf P d:=by
  unfold tinf at h
  split at h
  · rename_i i d h1 h2
    injection h with h; subst h
    exact ⟨i,d,h1,h2,rfl,rfl,rfl,rfl⟩
  · cases h
theorem tk_int {P : Program} {d : TypeDesc} {k : IntKind} (h : tkOf P d = .int k) : d = .int k:=by cases d <;> simp_all [tkOf]
theorem tk_bool {P : Program} {d : TypeDesc} (h : tkOf P d = .bool) : d = .bool:=by cases d <;> simp_all [tkOf]
theorem tk_str {P : Program} {d : TypeDesc} (h : tkOf P d = .str) : d = .string:=by cases d <;> simp_all [tkOf]
theorem tk_slice {P : Program} {d : TypeDesc} {e : TypeId} (h : tkOf P d = .slice e) : d = .slice e:=by cases d <;> simp_all [tkOf]
theorem tk_ptr {P : Program} {d : TypeDesc} {e : TypeId} (h : tkOf P d = .ptr e) : d = .pointer e:=by cases d <;> simp_all [tkOf]
theorem tk_struct {P : Program} {d : TypeDesc} {l : List (Nat × TypeId × Nat)} (h : tkOf P d = .struct l) : ∃ fs,d = .struct fs ∧ l = fs.toList.map fun f=>(f.offset,f.type,P.cellsOf f.type):=by
  cases d <;> simp_all [tkOf]
theorem tk_iface {P : Program} {d : TypeDesc} (h : tkOf P d = .iface) : ∃ ms,d = .interface ms:=by cases d <;> simp_all [tkOf]
theorem const1_ok (G : Ghost) (w : World) (x : Value) : RV G w (const1 x) x:=by
  unfold const1
  split
  · exact .int _ _
  · exact .bool _
  · rename_i s; exact .str s.data.toList
  · exact .nilp
  · exact .nils
  · exact .nilf
  · exact .nili
  · exact .nilm
  · rename_i fn xs ys
    split
    · rename_i h
      exact .func fn [] [] xs ys h.1 h.2 (fun i hi=>by simp at hi) (fun i hi=>by simp at hi)
    · exact .bot _
  · exact .bot _
theorem getD_map_const {xs : Array Value} {i : Nat} (h : i < xs.size) : (xs.toList.map const1).getD i .bot = const1 (xs.getD i undef):=by
  simp [List.getD,Array.getD,h]
theorem constA_ok (G : Ghost) (w : World) (x : Value) : RV G w (constA x) x:=by
  unfold constA
  split
  · rename_i cs
    split
    · rename_i h
      refine .agg _ cs (by simp) (fun x hx=>(Array.all_eq_true_iff_forall_mem.1 h) x hx) fun i hi=>?_
      simp only [List.length_map,Array.length_toList] at hi
      rw [getD_map_const hi]; exact const1_ok _ _ _
    · exact .bot _
  · exact const1_ok _ _ _
def YV (G : Ghost) (w : World) (base : Nat) (v : AV) (A' : List Box) (r : Result Value) : Prop :=
  ∃ x w' G',r = .ok x w' ∧ RV G' w' v x ∧ HRel G' A' w' base ∧ Ext G w G' w' ∧ Below base w w'
def YN (G : Ghost) (w : World) (base : Nat) (v : AV) (A' : List Box) (r : Result Next) : Prop :=
  ∃ x w' G',(r = .ok (.value x) w' ∨ (r = .ok .skip w' ∧ x = undef)) ∧ RV G' w' v x ∧ HRel G' A' w' base ∧ Ext G w G' w' ∧ Below base w w'
theorem YV.same {G : Ghost} {A : List Box} {w : World} {base : Nat} {v : AV} {x : Value} {r : Result Value} (h : HRel G A w base) (hx : RV G w v x) (hr : r = .ok x w) : YV G w base v A r :=
  ⟨x,w,G,hr,hx,h,Ext.refl _ _,Below.refl _ _⟩
theorem YV.next {P : Program} {G : Ghost} {w : World} {base : Nat} {v : AV} {A' : List Box} {s : Sem Value} (h : YV G w base v A' (s.run P w)) :
    YN G w base v A' (((do pure (.value (← s))) : Sem Next).run P w):=by
  obtain ⟨x,w',G',hr,h1,h2,h3,h4⟩:=h
  exact ⟨x,w',G',.inl (by simp [hr,Result.andThen]),h1,h2,h3,h4⟩
def CellsAt (G : Ghost) (w : World) (b off : Nat) (cs : List AV) : Prop :=
  ∀ j,j < cs.length → ∃ x,w.cell? ⟨b,off + j,none⟩ = some x ∧ RV G w (cs.getD j .bot) x ∧ x.oneCell' = true
def cellsOf (A : List Box) : AV → Option (List AV)
  | .ptr i o=>match A.getD i .dead with
    | .cells cs=>some (cs.drop o)
    | .tc _ cs=>some (cs.drop o)
    | _=>none
  | .eptr i k j=>match A.getD i .dead with
    | .row _ rows _=>some ((rows.getD k []).drop j)
    | .gr _ _ rows=>some ((rows.getD k []).drop j)
    | _=>none
  | .vptr cs=>some cs
  | .ivptr _ _ cs=>some cs
  | _=>none
theorem getD_drop {α : Type} (l : List α) (o j : Nat) (d : α) : (l.drop o).getD j d = l.getD (o + j) d:=by
  simp [List.getD]
theorem getD_take {α : Type} (l : List α) (n j : Nat) (d : α) (h : j < n) : (l.take n).getD j d = l.getD j d:=by
  simp [List.getD,h]
theorem mem_getD {c : Array Value} {o : Nat} (h : o < c.size) : c.getD o undef ∈ c:=by
  simp [Array.getD,h]
theorem row_in {rows : List (List AV)} {sz k j cap : Nat} (hk : k < rows.length) (hj : j < sz) (hc : rows.length ≤ cap) : k * sz + j < cap * sz:=by
  have h1:=Nat.mul_le_mul_right sz (Nat.succ_le_of_lt hk)
  have h2:=Nat.mul_le_mul_right sz hc
  rw [Nat.succ_mul] at h1; omega
theorem cellsOf_ok {G : Ghost} {A : List Box} {w : World} {base : Nat} {p : AV} {x : Value} {cs : List AV} (h : HRel G A w base) (hx : RV G w p x) (hc : cellsOf A p = some cs) :
    ∃ b off,x = .pointer (some ⟨b,off,none⟩) ∧ CellsAt G w b off cs:=by
  cases hx with
  | ptr i o hi =>
    simp only [cellsOf] at hc
    have hb:=h.box i (by rw [← h.n]; exact hi)
    split at hc <;> try cases hc
    · rename_i cs0 hb0
      rw [hb0] at hb
      obtain ⟨c,el,h1,h3,h4,h5,h6⟩:=hb
      refine ⟨_,_,rfl,fun j hj=>?_⟩
      simp only [List.length_drop] at hj
      refine ⟨_,cell?_of h1 (by omega),?_,h4 _ (mem_getD (by omega))⟩
      rw [getD_drop]; exact h5 _ (by omega)
    · rename_i T cs0 hb0
      rw [hb0] at hb
      obtain ⟨c,h1,h3,h4,h5,h6⟩:=hb
      refine ⟨_,_,rfl,fun j hj=>?_⟩
      simp only [List.length_drop] at hj
      refine ⟨_,cell?_of h1 (by omega),?_,h4 _ (mem_getD (by omega))⟩
      rw [getD_drop]; exact h5 _ (by omega)
  | eptr i k j hi =>
    simp only [cellsOf] at hc
    have hb:=h.box i (by rw [← h.n]; exact hi)
    have gen : ∀ (E : AV → Bool) (sz s : Nat) (rows : List (List AV)),(∀ v,E v = true → isCell v = true) → RowOk E G w i sz rows s → CellsAt G w (G.blk i) (G.off i + (k * G.sz i + j)) ((rows.getD k []).drop j):=by
      rintro E sz s rows hE ⟨c,el,h1,h3,h4,h5,h6,h7,h8,h9,h10,h11⟩ j' hj'
      simp only [List.length_drop] at hj'
      by_cases hk : k < rows.length
      · have hlen:=(h9 _ (getD_mem (d:=[]) hk)).1
        have hin:=row_in (sz:=sz) (cap:=G.cap i) (j:=j + j') hk (by omega) h5
        rw [h6]
        have this:=h10 k (j + j') hk (by omega)
        rw [show G.off i + (k * sz + (j + j')) = G.off i + (k * sz + j) + j' by omega] at this
        refine ⟨_,cell?_of h1 (o:=G.off i + (k * sz + j) + j') (by omega),?_,this.cell (hE _ ((h9 _ (getD_mem (d:=[]) hk)).2 _ (getD_mem (by omega))))⟩
        rw [getD_drop]
        exact this
      · have : rows.getD k [] = []:=by simp [List.getD,hk]
        rw [this] at hj'; simp at hj'
    split at hc <;> try cases hc
    · rename_i sz rows s hb0
      rw [hb0] at hb
      exact ⟨_,_,rfl,gen _ _ _ _ (fun _=>leaf_cell) hb⟩
    · rename_i te sz rows hb0
      rw [hb0] at hb
      exact ⟨_,_,rfl,gen _ _ _ _ (fun v hv=>by cases v <;> simp_all [isElem,isLeaf,isCell]) hb.1⟩
  | vptr cs b off X hl hx hI h' =>
    simp only [cellsOf] at hc
    injection hc with hc; subst hc
    exact ⟨b,off,rfl,fun j hj=>⟨_,hx j hj,h' j hj,(h' j hj).cell (leaf_cell (hl _ (getD_mem hj)))⟩⟩
  | ivptr cs b off X hl hn hx hI hz h' =>
    simp only [cellsOf] at hc
    injection hc with hc; subst hc
    exact ⟨b,off,rfl,fun j hj=>⟨_,hx j hj,h' j hj,(h' j hj).cell (leaf_cell (hl _ (getD_mem hj)))⟩⟩
  | _=>simp [cellsOf] at hc
def shiftP (d : Nat) : AV → Option AV
  | .ptr i o=>some (.ptr i (o + d))
  | .eptr i k j=>some (.eptr i k (j + d))
  | .vptr cs=>some (.vptr (cs.drop d))
  | _=>none
theorem shiftP_ok {G : Ghost} {w : World} {p p' : AV} {x : Value} {d : Nat} (hx : RV G w p x) (hc : shiftP d p = some p') :
    ∃ b off,x = .pointer (some ⟨b,off,none⟩) ∧ RV G w p' (.pointer (some ⟨b,off + d,none⟩)):=by
  cases hx <;> simp only [shiftP] at hc <;> try (cases hc; done)
  case ptr i o hi=>injection hc with hc; subst hc; exact ⟨_,_,rfl,.ptr i (o + d) hi⟩
  case eptr i k j hi =>
    injection hc with hc; subst hc
    refine ⟨_,_,rfl,?_⟩
    rw [show G.off i + (k * G.sz i + j) + d = G.off i + (k * G.sz i + (j + d)) by omega]
    exact .eptr i k (j + d) hi
  case vptr cs b off X hl hx hI h' =>
    injection hc with hc; subst hc
    refine ⟨_,_,rfl,.vptr (cs.drop d) b (off + d) (fun j=>X (d + j)) (fun v hv=>hl v (List.mem_of_mem_drop hv)) (fun j hj=>?_) (fun j hj=>?_) (fun j hj=>?_)⟩ <;> simp only [List.length_drop] at hj
    · rw [Nat.add_assoc]; exact hx _ (by omega)
    · rw [Nat.add_assoc]; exact hI _ (by omega)
    · rw [getD_drop]; exact h' _ (by omega)
def loadA (ti : TI) (cs : List AV) : Option (Prop × AV) :=
  match ti.kind with
  | .struct _=>some (ti.size ≤ cs.length,.agg (cs.take ti.size))
  | .other=>none
  | _=>some (0 < cs.length,cs.getD 0 .bot)
def isAggD : TypeDesc → Bool
  | .struct _ | .array _ _=>true
  | _=>false
theorem isAgg_run {P : Program} {t : TypeId} {d : TypeDesc} (h : P.underlying t = some d) (w : World) :
    (isAgg t).run P w = .ok (isAggD d) w:=by
  cases d <;> simp [isAgg,run_underlying h,Result.andThen,isAggD]
theorem sizeOf_run {P : Program} {t : TypeId} {i : TypeInfo} (h : P.info? t = some i) (w : World) : (sizeOf t).run P w = .ok i.size w:=by
  simp [sizeOf,typeInfo,h,Result.andThen]
theorem load_ok {P : Program} {G : Ghost} {A : List Box} {w : World} {base : Nat} {t : TypeId} {ti : TI} {p v : AV} {x : Value} {cs : List AV} {c : Prop}
    (ht : tinf P t = some ti) (hc : cellsOf A p = some cs) (hl : loadA ti cs = some (c,v)) (hp : c) (h : HRel G A w base) (hx : RV G w p x) :
    YV G w base v A ((Instr.loadAt t x).run P w):=by
  obtain ⟨i,d,h1,h2,h3,h4,h5,h6⟩:=tinf_spec ht
  obtain ⟨b,off,rfl,hcs⟩:=cellsOf_ok h hx hc
  unfold loadA at hl
  have one : (0 < cs.length ∧ cs.getD 0 .bot = v) → isAggD d = false → YV G w base v A ((Instr.loadAt t (.pointer (some ⟨b,off,none⟩))).run P w):=fun ⟨h7,h8⟩ hd=>by
    obtain ⟨y,hy,hv,_⟩:=hcs 0 h7
    rw [h8] at hv
    refine .same h hv ?_
    simp only [Nat.add_zero] at hy
    simp [Instr.loadAt,Instr.sureAddr,loadVar,isAgg_run h2,hd,Result.andThen,hy]
  cases hd : d <;> simp only [h6,hd,tkOf] at hl <;> try (cases hl; done)
  case struct fs =>
    injection hl with hl; injection hl with hl1 hl2; subst hl1 hl2
    refine .same h (x:=.agg ((List.range i.size).map fun j=>(w.cell? ⟨b,off + j,none⟩).getD undef).toArray) (.agg _ _ (by simp; omega) ?_ fun j hj=>?_) ?_
    · intro y hy
      simp only [List.mem_toArray,List.mem_map,List.mem_range] at hy
      obtain ⟨j,hj,rfl⟩:=hy
      obtain ⟨y,hy,_,h9⟩:=hcs j (by omega)
      simp [hy,h9]
    · simp only [List.length_take] at hj
      obtain ⟨y,hy,hv,h9⟩:=hcs j (by omega)
      rw [getD_take _ _ _ _ (by omega)]
      have : j < i.size:=by omega
      simpa [Array.getD,this,hy] using hv
    · simp only [Instr.loadAt,Instr.sureAddr,loadVar]
      have:=run_loadCells (P:=P) w ⟨b,off,none⟩ i.size (fun j=>(w.cell? ⟨b,off + j,none⟩).getD undef) (fun j hj=>by
        obtain ⟨y,hy,_,_⟩:=hcs j (by omega)
        rw [Addr.add_lit,hy]; rfl)
      simp [isAgg_run h2,hd,isAggD,Result.andThen,sizeOf_run h1,this]
  all_goals
    injection hl with hl; injection hl with hl1 hl2
    exact one ⟨hl1 ▸ hp,hl2⟩ (by rw [hd]; rfl)
theorem fieldAt_ok {P : Program} {G : Ghost} {A : List Box} {w : World} {base : Nat} {t : TypeId} {ti : TI} {p v : AV} {x : Value} {fs : List (Nat × TypeId × Nat)} {k off ty sz : Nat}
    (ht : tinf P t = some ti) (hk : ti.kind = .struct fs) (hf : fs[k]? = some (off,ty,sz)) (hs : sz ≠ 0) (hv : shiftP off p = some v) (h : HRel G A w base) (hx : RV G w p x) :
    YV G w base v A ((Instr.fieldAt t x k).run P w):=by
  obtain ⟨i,d,h1,h2,h3,h4,h5,h6⟩:=tinf_spec ht
  obtain ⟨b,o,rfl,hr⟩:=shiftP_ok hx hv
  rw [h6] at hk
  obtain ⟨fa,rfl,rfl⟩:=tk_struct hk
  simp only [List.getElem?_map,Option.map_eq_some_iff,Array.getElem?_toList] at hf
  obtain ⟨f,hf,he⟩:=hf
  injection he with e1 e2; injection e2 with e2 e3
  subst e1 e2 e3
  refine .same h hr ?_
  have hi : ∃ j,P.info? f.type = some j ∧ j.size ≠ 0:=by
    simp only [Program.cellsOf] at hs
    cases hj : P.info? f.type with
    | none=>simp [hj] at hs
    | some j=>exact ⟨j,rfl,by simpa [hj] using hs⟩
  obtain ⟨j,hj,hj0⟩:=hi
  simp [Instr.fieldAt,run_underlying h2,Result.andThen,hf,Instr.sureAddr,fieldPlace,sizeOf_run hj,hj0,Addr.add_lit]
end Go.Abs
/- More operations that only read. -/
namespace Go.Abs
open Go.RowKit
def partA (ti : TI) (cs : List AV) (off : Nat) : Option (Prop × AV) :=
  match ti.kind with
  | .struct _=>some (off + ti.size ≤ cs.length,.agg ((cs.drop off).take ti.size))
  | .other=>none
  | _=>some (off < cs.length,cs.getD off .bot)
theorem part_ok {P : Program} {G : Ghost} {w : World} {t : TypeId} {ti : TI} {cs : List AV} {xs : Array Value} {off : Nat} {c : Prop} {v : AV}
    (ht : tinf P t = some ti) (hl : partA ti cs off = some (c,v)) (hp : c) (hs : xs.size = cs.length) (hc : ∀ x ∈ xs,x.oneCell' = true)
    (h : ∀ i,i < cs.length → RV G w (cs.getD i .bot) (xs.getD i undef)) : ∃ x,(part t xs off).run P w = .ok x w ∧ RV G w v x:=by
  obtain ⟨i,d,h1,h2,h3,h4,h5,h6⟩:=tinf_spec ht
  unfold partA at hl
  have one : (off < cs.length ∧ cs.getD off .bot = v) → isAggD d = false → ∃ x,(part t xs off).run P w = .ok x w ∧ RV G w v x:=fun ⟨h7,h8⟩ hd=>by
    refine ⟨xs.getD off undef,?_,h8 ▸ h off h7⟩
    have : off < xs.size:=by omega
    simp [part,isAgg_run h2,hd,Result.andThen,this,Array.getD]
  cases hd : d <;> simp only [h6,hd,tkOf] at hl <;> try (cases hl; done)
  case struct fs =>
    injection hl with hl; injection hl with hl1 hl2; subst hl1 hl2
    refine ⟨.agg (xs.extract off (off + i.size)),by simp [part,isAgg_run h2,hd,isAggD,Result.andThen,sizeOf_run h1],.agg _ _ (by simp; omega) ?_ fun j hj=>?_⟩
    · intro y hy
      refine hc y ?_
      rw [Array.mem_iff_getElem] at hy ⊢
      obtain ⟨k,hk,rfl⟩:=hy
      simp only [Array.size_extract] at hk
      exact ⟨off + k,by omega,by simp⟩
    · simp only [List.length_take,List.length_drop] at hj
      rw [getD_take _ _ _ _ (by omega),getD_drop]
      have:=h (off + j) (by omega)
      have h9 : j < min (off + i.size) xs.size - off:=by omega
      have h8 : off + j < xs.size:=by omega
      simpa [Array.getD,h9,h8] using this
  all_goals
    injection hl with hl; injection hl with hl1 hl2
    exact one ⟨hl1 ▸ hp,hl2⟩ (by rw [hd]; rfl)
theorem field_ok {P : Program} {G : Ghost} {A : List Box} {w : World} {base : Nat} {t : TypeId} {ti tf : TI} {v : AV} {cs : List AV} {x : Value} {fs : List (Nat × TypeId × Nat)} {k off ty sz : Nat} {c : Prop}
    (ht : tinf P t = some ti) (hk : ti.kind = .struct fs) (hf : fs[k]? = some (off,ty,sz)) (htf : tinf P ty = some tf) (hv : partA tf cs off = some (c,v)) (hp : c) (h : HRel G A w base) (hx : RV G w (.agg cs) x) :
    YV G w base v A ((Instr.field t x k).run P w):=by
  obtain ⟨i,d,h1,h2,h3,h4,h5,h6⟩:=tinf_spec ht
  rw [h6] at hk
  obtain ⟨fa,rfl,rfl⟩:=tk_struct hk
  simp only [List.getElem?_map,Option.map_eq_some_iff,Array.getElem?_toList] at hf
  obtain ⟨f,hf,he⟩:=hf
  injection he with e1 e2; injection e2 with e2 e3
  subst e1 e2 e3
  cases hx with
  | agg _ xs hs hc hh =>
    obtain ⟨y,hy,hr⟩:=part_ok htf hv hp hs hc hh
    exact .same h hr (by simp [Instr.field,run_underlying h2,Result.andThen,hf,asAgg,hy])
def idxA (sz : Nat) (A : List Box) (x : AV) (n : Int) : Option (Prop × AV) :=
  match x with
  | .slice rows=>some (0 ≤ n ∧ n < rows.length ∧ (rows.getD n.toNat []).length = sz,.vptr (rows.getD n.toNat []))
  | .aslice rows=>some (0 ≤ n ∧ n < rows.length ∧ (rows.getD n.toNat []).length = sz,.vptr (rows.getD n.toNat []))
  | .islice b off rows=>some (0 ≤ n ∧ n < rows.length ∧ (rows.getD n.toNat []).length = sz,.ivptr b (off + n.toNat * sz) (rows.getD n.toNat []))
  | .own i=>match A.getD i .dead with
    | .row s rows _=>some (s = sz ∧ 0 ≤ n ∧ n < rows.length,.eptr i n.toNat 0)
    | .gr _ s rows=>some (s = sz ∧ 0 ≤ n ∧ n < rows.length,.eptr i n.toNat 0)
    | _=>none
  | _=>none
theorem indexAt_ok {P : Program} {G : Ghost} {A : List Box} {w : World} {base : Nat} {t e : TypeId} {ti te : TI} {x v : AV} {k : IntKind} {n : Int} {y : Value} {c : Prop}
    (ht : tinf P t = some ti) (hk : ti.kind = .slice e) (hte : tinf P e = some te) (hv : idxA te.size A x n = some (c,v)) (hp : c) (h : HRel G A w base) (hx : RV G w x y) :
    YV G w base v A ((Instr.indexAt t y (.int k n)).run P w):=by
  obtain ⟨i,d,h1,h2,h3,h4,h5,h6⟩:=tinf_spec ht
  obtain ⟨ie,de,g1,g2,g3,g4,g5,g6⟩:=tinf_spec hte
  rw [h6] at hk
  obtain rfl:=tk_slice hk
  have fin : ∀ (b off len cap : Nat),0 ≤ n ∧ n < (len : Int) → RV G w v (.pointer (some ⟨b,off + n.toNat * te.size,none⟩)) → YV G w base v A ((Instr.indexAt t (.slice (some ⟨b,off,none⟩) len cap) (.int k n)).run P w):=by
    intro b off len cap hn hr
    refine .same h hr ?_
    simp [Instr.indexAt,asIntOf,run_underlying h2,Result.andThen,hn,sizeOf_run g1,Addr.add_lit,g3]
  cases hx <;> simp only [idxA] at hv <;> try (cases hv; done)
  case slice0=>injection hv with hv; injection hv with hv1 hv2; subst hv1; simp at hp; omega
  case sliceE=>injection hv with hv; injection hv with hv1 hv2; subst hv1; simp at hp; omega
  case aslice0=>injection hv with hv; injection hv with hv1 hv2; subst hv1; simp at hp; omega
  case asliceE=>injection hv with hv; injection hv with hv1 hv2; subst hv1; simp at hp; omega
  case slice rows b off cap sz X hr hcap hx hI hz hh =>
    injection hv with hv; injection hv with hv1 hv2; subst hv1 hv2
    obtain ⟨p1,p2,p3⟩:=hp
    have hlt : n.toNat < rows.length:=by omega
    obtain ⟨e1,e2⟩:=hr _ (getD_mem (d:=[]) hlt)
    have hsz : sz = te.size:=by omega
    subst hsz
    refine fin b off rows.length cap ⟨p1,p2⟩ (.vptr _ b _ (X n.toNat) e2 (fun j hj=>?_) (fun j hj=>?_) fun j hj=>?_)
    · rw [Nat.add_assoc]; exact hx _ _ hlt (by omega)
    · rw [Nat.add_assoc]; exact hI _ _ hlt (by omega)
    · exact hh _ _ hlt (by omega)
  case aslice rows b off cap sz X hr hcap hx hI hh =>
    injection hv with hv; injection hv with hv1 hv2; subst hv1 hv2
    obtain ⟨p1,p2,p3⟩:=hp
    have hlt : n.toNat < rows.length:=by omega
    obtain ⟨e1,e2⟩:=hr _ (getD_mem (d:=[]) hlt)
    have hsz : sz = te.size:=by omega
    subst hsz
    refine fin b off rows.length cap ⟨p1,p2⟩ (.vptr _ b _ (X n.toNat) e2 (fun j hj=>?_) (fun j hj=>?_) fun j hj=>?_)
    · rw [Nat.add_assoc]; exact hx _ _ hlt (by omega)
    · rw [Nat.add_assoc]; exact hI _ _ hlt (by omega)
    · exact hh _ _ hlt (by omega)
  case islice rows b off cap sz X hr hcap hx hI hz hs hl hh =>
    injection hv with hv; injection hv with hv1 hv2; subst hv1 hv2
    obtain ⟨p1,p2,p3⟩:=hp
    have hlt : n.toNat < rows.length:=by omega
    obtain ⟨e1,e2⟩:=hr _ (getD_mem (d:=[]) hlt)
    have hsz : sz = te.size:=by omega
    subst hsz
    refine fin b off rows.length cap ⟨p1,p2⟩ (.ivptr _ b _ (X n.toNat) e2 (by omega) (fun j hj=>?_) (fun j hj=>?_) hz fun j hj=>?_)
    · rw [Nat.add_assoc]; exact hx _ _ hlt (by omega)
    · rw [Nat.add_assoc]; exact hI _ _ hlt (by omega)
    · exact hh _ _ hlt (by omega)
  case own i hi =>
    have hb:=h.box i (by rw [← h.n]; exact hi)
    have gen : ∀ (E : AV → Bool) (s sl : Nat) (rows : List (List AV)),RowOk E G w i s rows sl → (s = te.size ∧ 0 ≤ n ∧ n < rows.length) → v = .eptr i n.toNat 0 → YV G w base v A ((Instr.indexAt t (.slice (some ⟨G.blk i,G.off i,none⟩) (G.len i) (G.cap i)) (.int k n)).run P w):=by
      rintro E s sl rows ⟨cc,el,q1,q3,q4,q5,q6,q7,q8,q9,q10,q11⟩ ⟨p1,p2,p3⟩ rfl
      subst p1
      refine fin _ _ _ _ ⟨p2,by rw [q4]; exact p3⟩ ?_
      have:=RV.eptr (w:=w) i n.toNat 0 hi
      rw [q6,Nat.add_zero] at this; exact this
    split at hv <;> try cases hv
    · rename_i s rows sl hb0
      rw [hb0] at hb
      exact gen _ _ _ _ hb hp rfl
    · rename_i te' s rows hb0
      rw [hb0] at hb
      exact gen _ _ _ _ hb.1 hp rfl
theorem indexStr_ok {P : Program} {G : Ghost} {A : List Box} {w : World} {base : Nat} {t : TypeId} {ti : TI} {s : List UInt8} {k : IntKind} {n : Int} {y : Value}
    (ht : tinf P t = some ti) (hk : ti.kind = .str) (hp : 0 ≤ n ∧ n < s.length) (h : HRel G A w base) (hx : RV G w (.str s) y) :
    YV G w base (.int .u8 ((s.getD n.toNat 0).toNat : Nat)) A ((Instr.index t y (.int k n)).run P w):=by
  obtain ⟨i,d,h1,h2,h3,h4,h5,h6⟩:=tinf_spec ht
  rw [h6] at hk
  obtain rfl:=tk_str hk
  cases hx
  refine .same h (.int _ _) ?_
  have hlt : n.toNat < s.length:=by omega
  have e : (⟨s.toArray⟩ : ByteArray)[n.toNat]? = some (s.getD n.toNat 0):=by
    rw [getElem?_pos _ _ (by simpa [ByteArray.size] using hlt)]
    simp [ByteArray.getElem_eq_getElem_data,List.getD,hlt]
  simp [Instr.index,asIntOf,run_underlying h2,Result.andThen,hp.1,e]
def sliceA (lo : Option Int) (hi : Option Int) : AV → Option (Prop × AV)
  | .str s=>some (0 ≤ lo.getD 0 ∧ lo.getD 0 ≤ hi.getD s.length ∧ hi.getD s.length ≤ s.length,.str ((s.take (hi.getD s.length).toNat).drop (lo.getD 0).toNat))
  | .slice rows=>some (0 ≤ lo.getD 0 ∧ lo.getD 0 ≤ hi.getD rows.length ∧ hi.getD rows.length ≤ rows.length,.slice ((rows.take (hi.getD rows.length).toNat).drop (lo.getD 0).toNat))
  | .aslice rows=>some (0 ≤ lo.getD 0 ∧ lo.getD 0 ≤ hi.getD rows.length ∧ hi.getD rows.length ≤ rows.length,.aslice ((rows.take (hi.getD rows.length).toNat).drop (lo.getD 0).toNat))
  | _=>none
def optInt : Option AV → Option (Option Int)
  | none=>some none
  | some (.int _ n)=>some (some n)
  | _=>none
theorem sliceBound_run {P : Program} {w : World} {k : IntKind} {n : Int} {y : Nat} {c : BoundsCode} (h : 0 ≤ n ∧ n ≤ (y : Int)) : (Instr.sliceBound (.int k n) y c).run P w = .ok n.toNat w:=by
  simp [Instr.sliceBound,asIntOf,Result.andThen,h]
theorem sliceBounds_run {P : Program} {w : World} {b : Bool} {len cap : Nat} {lo hi : Option Value} {l h : Option Int}
    (hl : ∀ x,lo = some x → ∃ k n,x = .int k n ∧ l = some n) (hl0 : lo = none → l = none) (hh : ∀ x,hi = some x → ∃ k n,x = .int k n ∧ h = some n) (hh0 : hi = none → h = none)
    (h1 : 0 ≤ l.getD 0) (h2 : l.getD 0 ≤ h.getD len) (h3 : h.getD len ≤ len) (h4 : len ≤ cap) :
    (Instr.sliceBounds b len cap lo hi none).run P w = .ok ((l.getD 0).toNat,(h.getD len).toNat,cap) w:=by
  unfold Instr.sliceBounds
  cases hi with
  | none =>
    obtain rfl:=hh0 rfl
    cases lo with
    | none=>obtain rfl:=hl0 rfl; simp
    | some y =>
      obtain ⟨k',n',rfl,rfl⟩:=hl y rfl
      simp only [Option.getD_none,Option.getD_some] at *
      have q1:=fun c=>sliceBound_run (P:=P) (w:=w) (k:=k') (n:=n') (y:=len) (c:=c) ⟨h1,h2⟩
      simp [Result.andThen,q1]
  | some x =>
    obtain ⟨k,n,rfl,rfl⟩:=hh x rfl
    cases lo with
    | none =>
      obtain rfl:=hl0 rfl
      simp only [Option.getD_none,Option.getD_some] at *
      have q1:=fun c=>sliceBound_run (P:=P) (w:=w) (k:=k) (n:=n) (y:=cap) (c:=c) ⟨h2,by omega⟩
      simp [Result.andThen,q1]
    | some y =>
      obtain ⟨k',n',rfl,rfl⟩:=hl y rfl
      simp only [Option.getD_none,Option.getD_some] at *
      have q1:=fun c=>sliceBound_run (P:=P) (w:=w) (k:=k) (n:=n) (y:=cap) (c:=c) ⟨by omega,by omega⟩
      have q2:=fun c=>sliceBound_run (P:=P) (w:=w) (k:=k') (n:=n') (y:=n.toNat) (c:=c) ⟨h1,by omega⟩
      simp [Result.andThen,q1,q2]
theorem slice_ok {P : Program} {G : Ghost} {A : List Box} {w : World} {base : Nat} {t : TypeId} {ti : TI} {x v : AV} {y : Value} {lo hi : Option Value} {l h' : Option Int} {c : Prop}
    (ht : tinf P t = some ti) (hk : (∃ s,ti.kind = .str ∧ x = .str s) ∨ (∃ e te rows,ti.kind = .slice e ∧ x = .slice rows ∧ tinf P e = some te ∧ ∀ r ∈ rows,r.length = te.size) ∨ (∃ e te rows,ti.kind = .slice e ∧ x = .aslice rows ∧ tinf P e = some te ∧ ∀ r ∈ rows,r.length = te.size)) (hv : sliceA l h' x = some (c,v)) (hp : c)
    (hl : ∀ x,lo = some x → ∃ k n,x = .int k n ∧ l = some n) (hl0 : lo = none → l = none) (hh : ∀ x,hi = some x → ∃ k n,x = .int k n ∧ h' = some n) (hh0 : hi = none → h' = none)
    (h : HRel G A w base) (hx : RV G w x y) :
    YV G w base v A ((Instr.sliceAt t y lo hi none).run P w):=by
  obtain ⟨i,d,h1,h2,h3,h4,h5,h6⟩:=tinf_spec ht
  rcases hk with ⟨s,hk,rfl⟩ | ⟨e,te,rows,hk,rfl,hte,hrl⟩ | ⟨e,te,rows,hk,rfl,hte,hrl⟩
  · rw [h6] at hk
    obtain rfl:=tk_str hk
    simp only [sliceA] at hv
    injection hv with hv; injection hv with hv1 hv2; subst hv1 hv2
    obtain ⟨p1,p2,p3⟩:=hp
    cases hx
    have hb:=sliceBounds_run (P:=P) (w:=w) (b:=false) (len:=s.length) (cap:=s.length) hl hl0 hh hh0 p1 p2 p3 (Nat.le_refl _)
    refine .same h (x:=.string ((⟨s.toArray⟩ : ByteArray).extract (l.getD 0).toNat (h'.getD s.length).toNat)) ?_ ?_
    · have : (⟨s.toArray⟩ : ByteArray).extract (l.getD 0).toNat (h'.getD s.length).toNat = ⟨((s.take (h'.getD s.length).toNat).drop (l.getD 0).toNat).toArray⟩:=by
        apply ByteArray.ext
        apply Array.ext'
        simp [ByteArray.data_extract,List.drop_take]
      rw [this]; exact .str _
    · have hsz : (⟨s.toArray⟩ : ByteArray).size = s.length:=by simp [ByteArray.size]
      simp [Instr.sliceAt,Instr.slice,run_underlying h2,Result.andThen,hsz,hb]
  · rw [h6] at hk
    obtain rfl:=tk_slice hk
    obtain ⟨ie,de,g1,g2,g3,g4,g5,g6⟩:=tinf_spec hte
    simp only [sliceA] at hv
    injection hv with hv; injection hv with hv1 hv2; subst hv1 hv2
    obtain ⟨p1,p2,p3⟩:=hp
    cases hx with
    | slice0 =>
      simp at p2 p3
      have hb:=sliceBounds_run (P:=P) (w:=w) (b:=true) (len:=0) (cap:=0) hl hl0 hh hh0 p1 p2 p3 (Nat.le_refl _)
      have q1 : (l.getD 0).toNat = 0:=by omega
      have q2 : (h'.getD ((0 : Nat) : Int)).toNat = 0:=by simp at *; omega
      rw [q1,q2] at hb
      refine .same h (x:=.slice none 0 0) (by simp; exact .slice0) ?_
      simp [Instr.sliceAt,Instr.slice,run_underlying h2,Result.andThen,hb,sizeOf_run g1]
    | sliceE a cap =>
      simp at p2 p3
      have hb:=sliceBounds_run (P:=P) (w:=w) (b:=true) (len:=0) (cap:=cap) hl hl0 hh hh0 p1 p2 p3 (Nat.zero_le _)
      have q1 : (l.getD 0).toNat = 0:=by omega
      have q2 : (h'.getD ((0 : Nat) : Int)).toNat = 0:=by simp at *; omega
      rw [q1,q2] at hb
      refine .same h (x:=.slice (some a) 0 cap) (by simp; exact .sliceE a cap) ?_
      by_cases hz : cap = 0
      · subst hz
        simp [Instr.sliceAt,Instr.slice,run_underlying h2,Result.andThen,hb,sizeOf_run g1]
      · simp [Instr.sliceAt,Instr.slice,run_underlying h2,Result.andThen,hb,sizeOf_run g1,hz,Addr.add]
    | slice _ b off cap sz X hr hcap hx hI hzz hh' =>
      have hb:=sliceBounds_run (P:=P) (w:=w) (b:=true) (len:=rows.length) (cap:=cap) hl hl0 hh hh0 p1 p2 p3 hcap
      have hlen : ((rows.take (h'.getD rows.length).toNat).drop (l.getD 0).toNat).length = (h'.getD rows.length).toNat - (l.getD 0).toNat:=by simp; omega
      generalize hL : (l.getD 0).toNat = L at *
      generalize hH : (h'.getD rows.length).toNat = H at *
      have hHr : H ≤ rows.length:=by omega
      have hLH : L ≤ H:=by omega
      by_cases hm : cap = L
      · have hz : (rows.take H).drop L = []:=by apply List.eq_nil_of_length_eq_zero; omega
        refine .same h (x:=.slice (some ⟨b,off,none⟩) (H - L) (cap - L)) ?_ ?_
        · rw [hz]
          have : H - L = ([] : List (List AV)).length:=by simp; omega
          rw [this]
          exact .slice [] b off _ 0 (fun _ _=>undef) (by simp) (by simp) (by simp) (by simp) (by simp) (by simp)
        · rw [hm] at hb
          simp [Instr.sliceAt,Instr.slice,run_underlying h2,Result.andThen,hb,sizeOf_run g1,hm]
      · refine .same h (x:=.slice (some ⟨b,off + L * ie.size,none⟩) (H - L) (cap - L)) ?_ ?_
        · rw [← hlen]
          have hrow : ∀ i,i < H - L → ((rows.take H).drop L).getD i [] = rows.getD (L + i) []:=fun i hi=>by rw [getD_drop,getD_take _ _ _ _ (by omega)]
          have hsz : rows.length ≠ 0 → sz = ie.size:=fun hne=>by
            have hm:=getD_mem (d:=[]) (l:=rows) (i:=0) (by omega)
            rw [← (hr _ hm).1,hrl _ hm,g3]
          have hsz' : ∀ i,i < H - L → sz = ie.size:=fun i hi=>hsz (by omega)
          refine .slice _ b _ _ sz (fun i j=>X (L + i) j) (fun r hr'=>hr r (List.mem_of_mem_take (List.mem_of_mem_drop hr'))) (by rw [hlen]; omega) (fun i j hi hj=>?_) (fun i j hi hj=>?_) (fun hq hs=>hzz (by omega) hs) (fun i j hi hj=>?_)
          all_goals rw [hlen] at hi
          · rw [← hsz' i hi,show off + L * sz + (i * sz + j) = off + ((L + i) * sz + j) by rw [Nat.add_mul]; omega]; exact hx _ _ (by omega) hj
          · rw [← hsz' i hi,show off + L * sz + (i * sz + j) = off + ((L + i) * sz + j) by rw [Nat.add_mul]; omega]; exact hI _ _ (by omega) hj
          · unfold rowAt; rw [hrow i hi]; exact hh' _ _ (by omega) hj
        · simp [Instr.sliceAt,Instr.slice,run_underlying h2,Result.andThen,hb,sizeOf_run g1,hm,Addr.add_lit]
  · rw [h6] at hk
    obtain rfl:=tk_slice hk
    obtain ⟨ie,de,g1,g2,g3,g4,g5,g6⟩:=tinf_spec hte
    simp only [sliceA] at hv
    injection hv with hv; injection hv with hv1 hv2; subst hv1 hv2
    obtain ⟨p1,p2,p3⟩:=hp
    cases hx with
    | aslice0 =>
      simp at p2 p3
      have hb:=sliceBounds_run (P:=P) (w:=w) (b:=true) (len:=0) (cap:=0) hl hl0 hh hh0 p1 p2 p3 (Nat.le_refl _)
      have q1 : (l.getD 0).toNat = 0:=by omega
      have q2 : (h'.getD ((0 : Nat) : Int)).toNat = 0:=by simp at *; omega
      rw [q1,q2] at hb
      refine .same h (x:=.slice none 0 0) (by simp; exact .aslice0) ?_
      simp [Instr.sliceAt,Instr.slice,run_underlying h2,Result.andThen,hb,sizeOf_run g1]
    | asliceE a cap =>
      simp at p2 p3
      have hb:=sliceBounds_run (P:=P) (w:=w) (b:=true) (len:=0) (cap:=cap) hl hl0 hh hh0 p1 p2 p3 (Nat.zero_le _)
      have q1 : (l.getD 0).toNat = 0:=by omega
      have q2 : (h'.getD ((0 : Nat) : Int)).toNat = 0:=by simp at *; omega
      rw [q1,q2] at hb
      refine .same h (x:=.slice (some a) 0 cap) (by simp; exact .asliceE a cap) ?_
      by_cases hz : cap = 0
      · subst hz
        simp [Instr.sliceAt,Instr.slice,run_underlying h2,Result.andThen,hb,sizeOf_run g1]
      · simp [Instr.sliceAt,Instr.slice,run_underlying h2,Result.andThen,hb,sizeOf_run g1,hz,Addr.add]
    | aslice _ b off cap sz X hr hcap hx hI hh' =>
      have hb:=sliceBounds_run (P:=P) (w:=w) (b:=true) (len:=rows.length) (cap:=cap) hl hl0 hh hh0 p1 p2 p3 hcap
      have hlen : ((rows.take (h'.getD rows.length).toNat).drop (l.getD 0).toNat).length = (h'.getD rows.length).toNat - (l.getD 0).toNat:=by simp; omega
      generalize hL : (l.getD 0).toNat = L at *
      generalize hH : (h'.getD rows.length).toNat = H at *
      have hHr : H ≤ rows.length:=by omega
      have hLH : L ≤ H:=by omega
      by_cases hm : cap = L
      · have hz : (rows.take H).drop L = []:=by apply List.eq_nil_of_length_eq_zero; omega
        refine .same h (x:=.slice (some ⟨b,off,none⟩) (H - L) (cap - L)) ?_ ?_
        · rw [hz]
          have : H - L = ([] : List (List AV)).length:=by simp; omega
          rw [this]
          exact .aslice [] b off _ 0 (fun _ _=>undef) (by simp) (by simp) (by simp) (by simp) (by simp)
        · rw [hm] at hb
          simp [Instr.sliceAt,Instr.slice,run_underlying h2,Result.andThen,hb,sizeOf_run g1,hm]
      · refine .same h (x:=.slice (some ⟨b,off + L * ie.size,none⟩) (H - L) (cap - L)) ?_ ?_
        · rw [← hlen]
          have hrow : ∀ i,i < H - L → ((rows.take H).drop L).getD i [] = rows.getD (L + i) []:=fun i hi=>by rw [getD_drop,getD_take _ _ _ _ (by omega)]
          have hsz : rows.length ≠ 0 → sz = ie.size:=fun hne=>by
            have hm:=getD_mem (d:=[]) (l:=rows) (i:=0) (by omega)
            rw [← (hr _ hm).1,hrl _ hm,g3]
          have hsz' : ∀ i,i < H - L → sz = ie.size:=fun i hi=>hsz (by omega)
          refine .aslice _ b _ _ sz (fun i j=>X (L + i) j) (fun r hr'=>hr r (List.mem_of_mem_take (List.mem_of_mem_drop hr'))) (by rw [hlen]; omega) (fun i j hi hj=>?_) (fun i j hi hj=>?_) (fun i j hi hj=>?_)
          all_goals rw [hlen] at hi
          · rw [← hsz' i hi,show off + L * sz + (i * sz + j) = off + ((L + i) * sz + j) by rw [Nat.add_mul]; omega]; exact hx _ _ (by omega) hj
          · rw [← hsz' i hi,show off + L * sz + (i * sz + j) = off + ((L + i) * sz + j) by rw [Nat.add_mul]; omega]; exact hI _ _ (by omega) hj
          · unfold rowAt; rw [hrow i hi]; exact hh' _ _ (by omega) hj
        · simp [Instr.sliceAt,Instr.slice,run_underlying h2,Result.andThen,hb,sizeOf_run g1,hm,Addr.add_lit]
end Go.Abs
/- Arithmetic, comparisons, conversions. -/
namespace Go.Abs
open Go.RowKit
def intA (op : BinOp) (k : IntKind) (a b : Int) : Option (Prop × AV) :=
  match op with
  | .add=>some (True,.int k (k.wrap (a + b)))
  | .sub=>some (True,.int k (k.wrap (a - b)))
  | .mul=>some (True,.int k (k.wrap (a * b)))
  | .quo=>some (b ≠ 0,.int k (k.wrap (a.tdiv b)))
  | .rem=>some (b ≠ 0,.int k (a.tmod b))
  | .xor=>some (True,.int k (k.wrap (BitVec.ofInt k.bits a ^^^ BitVec.ofInt k.bits b).toNat))
  | .eql=>some (True,.bool (decide (a = b)))
  | .neq=>some (True,.bool (!decide (a = b)))
  | .lss=>some (True,.bool (decide (a < b)))
  | .leq=>some (True,.bool (decide (a ≤ b)))
  | .gtr=>some (True,.bool (decide (b < a)))
  | .geq=>some (True,.bool (decide (b ≤ a)))
  | _=>none
def strA (op : BinOp) (a b : List UInt8) : Option (Prop × AV) :=
  match op with
  | .add=>some (a.length + b.length ≤ 9223372036854775807,.str (a ++ b))
  | .eql=>some (True,.bool (decide (a = b)))
  | .neq=>some (True,.bool (!decide (a = b)))
  | .lss=>some (True,.bool (Op.bytesLess a b))
  | .leq=>some (True,.bool (Op.bytesLess a b || decide (a = b)))
  | .gtr=>some (True,.bool (!(Op.bytesLess a b || decide (a = b))))
  | .geq=>some (True,.bool (!Op.bytesLess a b))
  | _=>none
def nilP : AV → Option Bool
  | .nilp=>some true
  | .ptr _ _ | .eptr _ _ _ | .vptr _=>some false
  | _=>none
def nilS : AV → Option Bool
  | .nils=>some true
  | .own _=>some false
  | _=>none
def nilM : AV → Option Bool
  | .nilm=>some true
  | .map _=>some false
  | _=>none
def eqA (k : TK) (x y : AV) : Option Bool :=
  match k,x,y with
  | .bool,.bool a,.bool b=>some (a == b)
  | .ptr _,.nilp,y=>nilP y
  | .ptr _,x,.nilp=>nilP x
  | .iface,.nili,.iface _ _=>some false
  | .iface,.iface _ _,.nili=>some false
  | .slice _,.nils,y=>nilS y
  | .slice _,x,.nils=>nilS x
  | .map _ _,.nilm,y=>nilM y
  | .map _ _,x,.nilm=>nilM x
  | _,_,_=>none
def binA (op : BinOp) (k : TK) (x y : AV) : Option (Prop × AV) :=
  match x,y with
  | .int k a,.int k' b=>if k = k' then intA op k a b else none
  | .str a,.str b=>strA op a b
  | x,y =>
    match op with
    | .eql=>(eqA k x y).map fun b=>(True,.bool b)
    | .neq=>(eqA k x y).map fun b=>(True,.bool (!b))
    | _=>none
theorem bytes_toList (s : List UInt8) : (⟨s.toArray⟩ : ByteArray).toList = s:=ByteArray.toList_eq _
theorem beq_int (a b : Int) : (a == b) = decide (a = b):=by rw [Bool.eq_iff_iff]; simp
theorem beq_list (a b : List UInt8) : (a == b) = decide (a = b):=by rw [Bool.eq_iff_iff]; simp
theorem bytes_append (a b : List UInt8) : (⟨a.toArray⟩ : ByteArray) ++ ⟨b.toArray⟩ = ⟨(a ++ b).toArray⟩:=by
  apply ByteArray.ext; apply Array.ext'; simp
section
variable {e k : TypeId} {ms : Array (String × TypeId)}
theorem eqA_ptr {P : Program} {G : Ghost} {w : World} {t : TypeId} {x y : AV} {a b : Value} {r : Bool} (h2 : P.underlying t = some (.pointer e)) (h : eqA (.ptr e) x y = some r)
    (hx : RV G w x a) (hy : RV G w y b) : (Op.equalIn (9999 + 1) t a b).run P w = .ok r w ∧ ¬ (a = .nilIface ∧ b = .nilIface) ∧ ¬ (∃ c d,a = .agg c ∧ b = .agg d):=by
  unfold Op.equalIn
  simp only [eqA] at h
  cases hx <;> (try (simp [nilP,nilS,nilM] at h; done)) <;> cases hy <;> (try (simp [nilP,nilS,nilM] at h; done)) <;> simp [nilP,nilS,nilM] at h <;> subst h <;> simp [run_underlying h2,Result.andThen]
theorem eqA_iface {P : Program} {G : Ghost} {w : World} {t : TypeId} {x y : AV} {a b : Value} {r : Bool} (h2 : P.underlying t = some (.interface ms)) (h : eqA (.iface) x y = some r)
    (hx : RV G w x a) (hy : RV G w y b) : (Op.equalIn (9999 + 1) t a b).run P w = .ok r w ∧ ¬ (a = .nilIface ∧ b = .nilIface) ∧ ¬ (∃ c d,a = .agg c ∧ b = .agg d):=by
  unfold Op.equalIn
  simp only [eqA] at h
  cases hx <;> (try (simp [nilP,nilS,nilM] at h; done)) <;> cases hy <;> (try (simp [nilP,nilS,nilM] at h; done)) <;> simp [nilP,nilS,nilM] at h <;> subst h <;> simp [run_underlying h2,Result.andThen]
theorem eqA_slice {P : Program} {G : Ghost} {w : World} {t : TypeId} {x y : AV} {a b : Value} {r : Bool} (h2 : P.underlying t = some (.slice e)) (h : eqA (.slice e) x y = some r)
    (hx : RV G w x a) (hy : RV G w y b) : (Op.equalIn (9999 + 1) t a b).run P w = .ok r w ∧ ¬ (a = .nilIface ∧ b = .nilIface) ∧ ¬ (∃ c d,a = .agg c ∧ b = .agg d):=by
  unfold Op.equalIn
  simp only [eqA] at h
  cases hx <;> (try (simp [nilP,nilS,nilM] at h; done)) <;> cases hy <;> (try (simp [nilP,nilS,nilM] at h; done)) <;> simp [nilP,nilS,nilM] at h <;> subst h <;> simp [run_underlying h2,Result.andThen]
theorem eqA_map {P : Program} {G : Ghost} {w : World} {t : TypeId} {x y : AV} {a b : Value} {r : Bool} (h2 : P.underlying t = some (.map k e)) (h : eqA (.map k e) x y = some r)
    (hx : RV G w x a) (hy : RV G w y b) : (Op.equalIn (9999 + 1) t a b).run P w = .ok r w ∧ ¬ (a = .nilIface ∧ b = .nilIface) ∧ ¬ (∃ c d,a = .agg c ∧ b = .agg d):=by
  unfold Op.equalIn
  simp only [eqA] at h
  cases hx <;> (try (simp [nilP,nilS,nilM] at h; done)) <;> cases hy <;> (try (simp [nilP,nilS,nilM] at h; done)) <;> simp [nilP,nilS,nilM] at h <;> subst h <;> simp [run_underlying h2,Result.andThen]
theorem eqA_bool {P : Program} {G : Ghost} {w : World} {t : TypeId} {x y : AV} {a b : Value} {r : Bool} (h2 : P.underlying t = some (.bool)) (h : eqA (.bool) x y = some r)
    (hx : RV G w x a) (hy : RV G w y b) : (Op.equalIn (9999 + 1) t a b).run P w = .ok r w ∧ ¬ (a = .nilIface ∧ b = .nilIface) ∧ ¬ (∃ c d,a = .agg c ∧ b = .agg d):=by
  unfold Op.equalIn
  simp only [eqA] at h
  cases hx <;> (try (simp [nilP,nilS,nilM] at h; done)) <;> cases hy <;> (try (simp [nilP,nilS,nilM] at h; done)) <;> simp [nilP,nilS,nilM] at h <;> subst h <;> simp [run_underlying h2,Result.andThen]
end
theorem eqA_run {P : Program} {G : Ghost} {w : World} {t : TypeId} {ti : TI} {x y : AV} {a b : Value} {r : Bool} (ht : tinf P t = some ti) (h : eqA ti.kind x y = some r)
    (hx : RV G w x a) (hy : RV G w y b) : (Op.equal t a b).run P w = .ok r w ∧ ¬ (a = .nilIface ∧ b = .nilIface) ∧ ¬ (∃ c d,a = .agg c ∧ b = .agg d):=by
  obtain ⟨i,d,h1,h2,h3,h4,h5,h6⟩:=tinf_spec ht
  have hr : Op.equal t a b = Op.equalIn (9999 + 1) t a b:=rfl
  rw [hr]
  cases hk : ti.kind <;> rw [hk] at h h6
  case bool =>
    obtain rfl:=tk_bool h6.symm
    exact eqA_bool h2 h hx hy
  case ptr e =>
    obtain rfl:=tk_ptr h6.symm
    exact eqA_ptr h2 h hx hy
  case iface =>
    obtain ⟨ms,rfl⟩:=tk_iface h6.symm
    exact eqA_iface h2 h hx hy
  case slice e =>
    obtain rfl:=tk_slice h6.symm
    exact eqA_slice h2 h hx hy
  case map k e =>
    have : d = .map k e:=by cases d <;> simp_all [tkOf]
    subst this
    exact eqA_map h2 h hx hy
  all_goals (exfalso; revert h; simp only [eqA]; cases x <;> simp)
theorem eqGuard_run {P : Program} {w : World} {op : BinOp} {t : TypeId} {ox oy : Operand} {a b : Value} (g1 : ¬ (a = .nilIface ∧ b = .nilIface)) (g2 : ¬ (∃ c d,a = .agg c ∧ b = .agg d)) :
    (eqGuard op t ox oy a b).run P w = .ok () w:=by
  cases op
  case eql=>cases a <;> first | (simp [eqGuard]; done) | (cases b <;> first | (simp [eqGuard]; done) | exact absurd ⟨rfl,rfl⟩ g1 | exact absurd ⟨_,_,rfl,rfl⟩ g2)
  case neq=>cases a <;> first | (simp [eqGuard]; done) | (cases b <;> first | (simp [eqGuard]; done) | exact absurd ⟨rfl,rfl⟩ g1 | exact absurd ⟨_,_,rfl,rfl⟩ g2)
  all_goals simp [eqGuard]
theorem binOp_other {op : BinOp} {t : TypeId} {a b : Value} (ho : op = .eql ∨ op = .neq) (n1 : ∀ k p k' q,¬ (a = .int k p ∧ b = .int k' q)) (n2 : ∀ k p k' q,¬ (a = .float k p ∧ b = .float k' q))
    (n3 : ∀ k p p' k' q q',¬ (a = .complex k p p' ∧ b = .complex k' q q')) (n4 : ∀ p q,¬ (a = .string p ∧ b = .string q)) :
    binOp op t a b = (do let r ← Op.equal t a b; pure (.bool (if op = .eql then r else !r)) : Sem Value):=by
  rcases ho with rfl | rfl <;> cases a <;> first | rfl | (cases b <;> first | rfl | (exfalso; first | exact n1 _ _ _ _ ⟨rfl,rfl⟩ | exact n2 _ _ _ _ ⟨rfl,rfl⟩ | exact n3 _ _ _ _ _ _ ⟨rfl,rfl⟩ | exact n4 _ _ ⟨rfl,rfl⟩))
theorem RV.noFloat {G : Ghost} {w : World} {x : AV} {a : Value} (h : RV G w x a) (hb : x ≠ .bot) : (∀ k p,a ≠ .float k p) ∧ (∀ k p q,a ≠ .complex k p q):=by
  cases h <;> simp_all
theorem eqA_nobot {k : TK} {x y : AV} {r : Bool} (h : eqA k x y = some r) : x ≠ .bot ∧ y ≠ .bot:=by
  constructor
  · rintro rfl; cases k <;> cases y <;> simp [eqA,nilP,nilS,nilM] at h
  · rintro rfl; cases k <;> cases x <;> simp [eqA,nilP,nilS,nilM] at h
theorem bin_ok {P : Program} {G : Ghost} {A : List Box} {w : World} {base : Nat} {t : TypeId} {ti : TI} {op : BinOp} {ox oy : Operand} {x y v : AV} {a b : Value} {c : Prop}
    (ht : tinf P t = some ti) (hv : binA op ti.kind x y = some (c,v)) (hp : c) (h : HRel G A w base) (hx : RV G w x a) (hy : RV G w y b) :
    YV G w base v A ((do eqGuard op t ox oy a b; binOp op t a b : Sem Value).run P w):=by
  unfold binA at hv
  split at hv
  · rename_i k p k' q
    cases hx; cases hy
    split at hv
    · rename_i hkk
      obtain rfl:=hkk
      have hg:=eqGuard_run (P:=P) (w:=w) (op:=op) (t:=t) (ox:=ox) (oy:=oy) (a:=.int k p) (b:=.int k q) (by simp) (by simp)
      cases op <;> simp only [intA] at hv <;> try (cases hv; done)
      all_goals
        injection hv with hv; injection hv with hv1 hv2; subst hv1 hv2
      all_goals first
        | exact .same h (.int _ _) (by simp [hg,binOp,Op.intArith,Op.intDiv,Op.intBits,Result.andThen,hp]; done)
        | exact .same h (.bool _) (by simp [hg,binOp,Op.intCmp,Result.andThen,beq_int,bne]; done)
        | exact .same h (.int _ _) (by have:=of_eq_true (eq_true hp); simp [hg,binOp,Op.intArith,Op.intDiv,Op.intBits,Result.andThen,this]; done)
    · cases hv
  · rename_i s s'
    cases hx; cases hy
    have hg:=eqGuard_run (P:=P) (w:=w) (op:=op) (t:=t) (ox:=ox) (oy:=oy) (a:=.string ⟨s.toArray⟩) (b:=.string ⟨s'.toArray⟩) (by simp) (by simp)
    have l1 : (⟨s.toArray⟩ : ByteArray).size = s.length:=by simp [ByteArray.size]
    have l2 : (⟨s'.toArray⟩ : ByteArray).size = s'.length:=by simp [ByteArray.size]
    cases op <;> simp only [strA] at hv <;> try (cases hv; done)
    all_goals
      injection hv with hv; injection hv with hv1 hv2; subst hv1 hv2
    · refine .same h (.str _) ?_
      have : ¬ (((s.length + s'.length : Nat) : Int) > IntKind.i64.max):=by simp [IntKind.max,IntKind.signed,IntKind.bits]; omega
      simp only [binOp,Op.stringOp,l1,l2,this,bytes_append]
      simp [hg,Result.andThen]
    all_goals
      refine .same h (.bool _) ?_
      simp only [binOp,Op.stringOp,bytes_toList,beq_list]
      simp [hg,Result.andThen]
  · rename_i n1 n2
    have key : ∀ r,eqA ti.kind x y = some r → (op = .eql ∨ op = .neq) → (do eqGuard op t ox oy a b; binOp op t a b : Sem Value).run P w = .ok (.bool (if op = .eql then r else !r)) w:=fun r hr ho=>by
      obtain ⟨e1,e2,e3⟩:=eqA_run ht hr hx hy
      obtain ⟨b1,b2⟩:=eqA_nobot hr
      have f1:=hx.noFloat b1
      have hg:=eqGuard_run (P:=P) (w:=w) (op:=op) (t:=t) (ox:=ox) (oy:=oy) e2 e3
      have hb:=binOp_other (t:=t) (a:=a) (b:=b) ho (fun k p k' q=>by rintro ⟨rfl,rfl⟩; cases hx <;> cases hy <;> first | exact b1 rfl | exact b2 rfl | exact n1 _ _ _ _ rfl rfl) (fun k p k' q hh=>f1.1 _ _ hh.1) (fun k p p' k' q q' hh=>f1.2 _ _ _ hh.1)
        (fun p q=>by rintro ⟨rfl,rfl⟩; cases hx <;> cases hy <;> first | exact b1 rfl | exact b2 rfl | exact n2 _ _ rfl rfl)
      rw [hb]
      simp [hg,e1,Result.andThen]
    split at hv
    · cases hq : eqA ti.kind x y <;> simp only [hq,Option.map] at hv <;> try (cases hv; done)
      injection hv with hv; injection hv with hv1 hv2; subst hv1 hv2
      exact .same h (.bool _) (by rw [key _ hq (.inl rfl)]; simp)
    · cases hq : eqA ti.kind x y <;> simp only [hq,Option.map] at hv <;> try (cases hv; done)
      injection hv with hv; injection hv with hv1 hv2; subst hv1 hv2
      exact .same h (.bool _) (by rw [key _ hq (.inr rfl)]; simp)
    · cases hv
end Go.Abs
/- The operations that make memory, and append. -/
namespace Go.Abs
open Go.RowKit
def frz1 (v : AV) (A : List Box) : Option (AV × List Box) :=
  match v with
  | .own i=>match A.getD i .dead with
    | .row sz rows s=>some (.slice rows,A.set i (.row sz rows rows.length))
    | _=>none
  | .nils=>some (.slice [],A)
  | v=>some (v,A)
theorem frz1_ok {G : Ghost} {A A' : List Box} {w : World} {base : Nat} {v v' : AV} {x : Value} (h : HRel G A w base) (hx : RV G w v x) (hf : frz1 v A = some (v',A')) :
    ∃ G',HRel G' A' w base ∧ Ext G w G' w ∧ RV G' w v' x:=by
  cases hx with
  | own i hi =>
    simp only [frz1] at hf
    have hl : i < A.length:=by rw [← h.n]; exact hi
    split at hf <;> try cases hf
    rename_i sz rows s hb
    exact h.shutRow hl hb
  | nils=>simp only [frz1] at hf; cases hf; exact ⟨G,h,Ext.refl _ _,.slice0⟩
  | _ =>
    simp only [frz1] at hf
    cases hf
    exact ⟨G,h,Ext.refl _ _,by constructor <;> assumption⟩
def frzL : List AV → List Box → Option (List AV × List Box)
  | [],A=>some ([],A)
  | v :: l,A=>match frz1 v A with
    | some (v',A1)=>match frzL l A1 with
      | some (l',A2)=>some (v' :: l',A2)
      | none=>none
    | none=>none
def RL (G : Ghost) (w : World) (vs : List AV) (xs : List Value) : Prop:=vs.length = xs.length ∧ ∀ i,i < vs.length → RV G w (vs.getD i .bot) (xs.getD i undef)
theorem RL.nil {G : Ghost} {w : World} : RL G w [] []:=⟨rfl,fun i hi=>by simp at hi⟩
theorem RL.cons {G : Ghost} {w : World} {v : AV} {x : Value} {vs : List AV} {xs : List Value} (h : RV G w v x) (hl : RL G w vs xs) : RL G w (v :: vs) (x :: xs) :=
  ⟨by simp [hl.1],fun i hi=>by
    cases i with
    | zero=>simpa using h
    | succ i=>simpa using hl.2 i (by simpa using hi)⟩
theorem RL.head {G : Ghost} {w : World} {v : AV} {x : Value} {vs : List AV} {xs : List Value} (h : RL G w (v :: vs) (x :: xs)) : RV G w v x:=by
  simpa using h.2 0 (by simp)
theorem RL.tail {G : Ghost} {w : World} {v : AV} {x : Value} {vs : List AV} {xs : List Value} (h : RL G w (v :: vs) (x :: xs)) : RL G w vs xs :=
  ⟨by simpa using h.1,fun i hi=>by simpa using h.2 (i + 1) (by simpa using hi)⟩
theorem RL.mono {G G' : Ghost} {w w' : World} {vs : List AV} {xs : List Value} (h : RL G w vs xs) (e : Ext G w G' w') : RL G' w' vs xs:=⟨h.1,fun i hi=>(h.2 i hi).mono e⟩
theorem frzL_ok {base : Nat} {w : World} : ∀ {vs vs' : List AV} {xs : List Value} {G : Ghost} {A A' : List Box},HRel G A w base → RL G w vs xs → frzL vs A = some (vs',A') →
    ∃ G',HRel G' A' w base ∧ Ext G w G' w ∧ RL G' w vs' xs
  | [],vs',xs,G,A,A',h,hx,hf=>by
    simp only [frzL] at hf; cases hf
    exact ⟨G,h,Ext.refl _ _,hx⟩
  | v :: l,vs',[],G,A,A',h,hx,hf=>by have:=hx.1; simp at this
  | v :: l,vs',x :: xs,G,A,A',h,hx,hf=>by
    simp only [frzL] at hf
    split at hf <;> try cases hf
    rename_i v' A1 h1
    split at hf <;> try cases hf
    rename_i l' A2 h2
    obtain ⟨G1,k1,k2,k3⟩:=frz1_ok h hx.head h1
    obtain ⟨G2,m1,m2,m3⟩:=frzL_ok k1 (hx.tail.mono k2) h2
    exact ⟨G2,m1,k2.trans m2,.cons (k3.mono m2) m3⟩
theorem RL.ofArr {G : Ghost} {w : World} {cs : List AV} {xs : Array Value} (hs : xs.size = cs.length) (h : ∀ i,i < cs.length → RV G w (cs.getD i .bot) (xs.getD i undef)) : RL G w cs xs.toList :=
  ⟨by simp [hs],fun i hi=>by
    have:=h i hi
    have hi' : i < xs.size:=by omega
    simpa [List.getD,Array.getD,hi',hi] using this⟩
theorem RL.toArr {G : Ghost} {w : World} {cs : List AV} {xs : List Value} (h : RL G w cs xs) : ∀ i,i < cs.length → RV G w (cs.getD i .bot) (xs.toArray.getD i undef):=fun i hi=>by
  have:=h.2 i hi
  have hi' : i < xs.length:=by have:=h.1; omega
  simpa [List.getD,Array.getD,hi',hi] using this
def frzC (v : AV) (A : List Box) : Option (AV × List Box) :=
  match v with
  | .agg cs=>(frzL cs A).map fun x=>(.agg x.1,x.2)
  | v=>frz1 v A
theorem frzL_length : ∀ {vs vs' : List AV} {A A' : List Box},frzL vs A = some (vs',A') → vs'.length = vs.length
  | [],vs',A,A',hf=>by simp only [frzL] at hf; cases hf; rfl
  | v :: l,vs',A,A',hf=>by
    simp only [frzL] at hf
    split at hf <;> try cases hf
    split at hf <;> try cases hf
    rename_i h2
    simp [frzL_length h2]
theorem frzC_ok {G : Ghost} {A A' : List Box} {w : World} {base : Nat} {v v' : AV} {x : Value} (h : HRel G A w base) (hx : RV G w v x) (hf : frzC v A = some (v',A')) :
    ∃ G',HRel G' A' w base ∧ Ext G w G' w ∧ RV G' w v' x:=by
  unfold frzC at hf
  split at hf
  · rename_i cs
    cases hx with
    | agg _ xs hs hc hh =>
      cases hq : frzL cs A with
      | none=>rw [hq] at hf; cases hf
      | some q =>
        rw [hq] at hf; cases hf
        obtain ⟨G',k1,k2,k3⟩:=frzL_ok h (RL.ofArr hs hh) hq
        refine ⟨G',k1,k2,.agg _ xs (by rw [frzL_length hq]; exact hs) hc fun i hi=>?_⟩
        have:=k3.toArr i hi
        simpa using this
  · exact frz1_ok h hx hf
def frzs : List AV → List Box → Option (List AV × List Box)
  | [],A=>some ([],A)
  | v :: l,A=>match frzC v A with
    | some (v',A1)=>match frzs l A1 with
      | some (l',A2)=>some (v' :: l',A2)
      | none=>none
    | none=>none
theorem frzs_ok {base : Nat} {w : World} : ∀ {vs vs' : List AV} {xs : List Value} {G : Ghost} {A A' : List Box},HRel G A w base → RL G w vs xs → frzs vs A = some (vs',A') →
    ∃ G',HRel G' A' w base ∧ Ext G w G' w ∧ RL G' w vs' xs
  | [],vs',xs,G,A,A',h,hx,hf=>by
    simp only [frzs] at hf; cases hf
    exact ⟨G,h,Ext.refl _ _,hx⟩
  | v :: l,vs',[],G,A,A',h,hx,hf=>by have:=hx.1; simp at this
  | v :: l,vs',x :: xs,G,A,A',h,hx,hf=>by
    simp only [frzs] at hf
    split at hf <;> try cases hf
    rename_i v' A1 h1
    split at hf <;> try cases hf
    rename_i l' A2 h2
    obtain ⟨G1,k1,k2,k3⟩:=frzC_ok h hx.head h1
    obtain ⟨G2,m1,m2,m3⟩:=frzs_ok k1 (hx.tail.mono k2) h2
    exact ⟨G2,m1,k2.trans m2,.cons (k3.mono m2) m3⟩
def cellsA : AV → Option (List AV)
  | .agg cs=>some cs
  | .bot | .tuple _=>none
  | v=>some [v]
theorem cellsA_ok {G : Ghost} {w : World} {v : AV} {x : Value} {cs : List AV} (hx : RV G w v x) (hc : cellsA v = some cs) : RL G w cs x.cells.toList ∧ ∀ y ∈ x.cells,y.oneCell' = true:=by
  cases hx with
  | bot x=>simp [cellsA] at hc
  | tuple=>simp [cellsA] at hc
  | agg cs' xs hs hc' hh =>
    simp only [cellsA] at hc; cases hc
    exact ⟨RL.ofArr hs hh,hc'⟩
  | _ =>
    simp only [cellsA] at hc; cases hc
    refine ⟨?_,fun y hy=>by simp [Value.cells] at hy; subst hy; rfl⟩
    simp only [Value.cells]
    exact .cons (by constructor <;> assumption) .nil
theorem kept_alloc {w : World} {o : Obj} : Kept (fun _=>False) w (w.alloc o) :=
  ⟨rfl,rfl,rfl,by simp,fun b hb _=>Below.heap_alloc w o b hb⟩
theorem heap_alloc_new (w : World) (o : Obj) : (w.alloc o).heap[w.heap.size]? = some o:=by
  show (w.heap.push o)[w.heap.size]? = some o
  simp
theorem push_cells {G : Ghost} {A : List Box} {w : World} {base : Nat} {cs : List AV} {c : Array Value} {e : TypeId} (h : HRel G A w base) (hx : RL G w cs c.toList) (h1 : ∀ y ∈ c,y.oneCell' = true) :
    ∃ G',HRel G' (A ++ [.cells cs]) (w.alloc (.cells c e)) base ∧ Ext G w G' (w.alloc (.cells c e)) ∧ RV G' (w.alloc (.cells c e)) (.ptr A.length 0) (.pointer (some ⟨w.heap.size,0,none⟩)) ∧ Below base w (w.alloc (.cells c e)):=by
  have hp:=h.push (w':=w.alloc (.cells c e)) (.cells cs) 0 0 0 0 kept_alloc (by simp) fun e'=>by
    refine ⟨c,e,?_,by have:=hx.1; simp at this; omega,h1,fun j hj=>?_,fun o ho=>?_⟩
    · have : (G.add w.heap.size 0 0 0 0).blk G.n = w.heap.size:=by simp [Ghost.add]
      rw [this]; exact heap_alloc_new _ _
    · have:=(hx.mono e').toArr j hj; simpa using this
    · have hb : (G.add w.heap.size 0 0 0 0).blk G.n = w.heap.size:=by simp [Ghost.add]
      rw [hb] at ho
      exact absurd (h.imm _ _ ho) (Nat.lt_irrefl _)
  refine ⟨_,hp.1,hp.2,?_,kept_alloc.below (fun _ f=>f.elim) h.low⟩
  have:=RV.ptr (G:=G.add w.heap.size 0 0 0 0) (w:=w.alloc (.cells c e)) A.length 0 (by simp [Ghost.add,h.n])
  have hb : (G.add w.heap.size 0 0 0 0).blk A.length = w.heap.size:=by simp [Ghost.add,h.n]
  rw [hb] at this; exact this
theorem box_ok {P : Program} {G : Ghost} {A : List Box} {w : World} {base : Nat} {e : TypeId} {v : AV} {cs : List AV} {x : Value} (h : HRel G A w base) (hx : RV G w v x) (hc : cellsA v = some cs) :
    YV G w base (.ptr A.length 0) (A ++ [.cells cs]) ((Instr.box e x).run P w):=by
  obtain ⟨c1,c2⟩:=cellsA_ok hx hc
  obtain ⟨G',k1,k2,k3,k4⟩:=push_cells (e:=e) h c1 c2
  exact ⟨_,_,G',by simp [Instr.box,newVar,newRow,Result.andThen],k3,k1,k2,k4⟩
theorem zeroA_ok {G : Ghost} {w : World} {z : Option Value} {cs : List AV} (h : zeroA z = some cs) : ∃ v,z = some v ∧ RL G w cs v.cells.toList ∧ ∀ y ∈ v.cells,y.oneCell' = true:=by
  unfold zeroA at h
  split at h
  · rename_i v
    split at h
    · rename_i h1
      cases h
      refine ⟨v,rfl,⟨by simp,fun i hi=>?_⟩,fun y hy=>Array.all_eq_true_iff_forall_mem.1 h1 y hy⟩
      simp only [List.length_map,Array.length_toList] at hi
      rw [getD_map_const hi]
      have:=const1_ok G w (v.cells.getD i undef)
      simpa [List.getD,Array.getD,hi] using this
    · cases h
  · cases h
theorem zeroValue_run {P : Program} {t : TypeId} {i : TypeInfo} {z : Value} (h : P.info? t = some i) (hz : i.zero = some z) (w : World) : (zeroValue t).run P w = .ok z w:=by
  simp [zeroValue,typeInfo,h,hz,Result.andThen]
theorem alloc_ok {P : Program} {G : Ghost} {A : List Box} {w : World} {base : Nat} {e : TypeId} {ti : TI} {cs : List AV} (ht : tinf P e = some ti) (hz : ti.zero = some cs) (h : HRel G A w base) :
    YV G w base (.ptr A.length 0) (A ++ [.cells cs]) ((Instr.alloc e true (.tuple #[])).run P w):=by
  obtain ⟨i,d,h1,h2,h3,h4,h5,h6⟩:=tinf_spec ht
  rw [h5] at hz
  obtain ⟨z,hz',c1,c2⟩:=zeroA_ok (G:=G) (w:=w) hz
  obtain ⟨G',k1,k2,k3,k4⟩:=push_cells (e:=e) h c1 c2
  exact ⟨_,_,G',by simp [Instr.alloc,zeroValue_run h1 hz',newVar,newRow,Result.andThen],k3,k1,k2,k4⟩
theorem push_tc {G : Ghost} {A : List Box} {w : World} {base : Nat} {cs : List AV} {c : Array Value} {e : TypeId} (h : HRel G A w base) (hx : RL G w cs c.toList) (h1 : ∀ y ∈ c,y.oneCell' = true) :
    ∃ G',HRel G' (A ++ [.tc e cs]) (w.alloc (.cells c e)) base ∧ Ext G w G' (w.alloc (.cells c e)) ∧ RV G' (w.alloc (.cells c e)) (.ptr A.length 0) (.pointer (some ⟨w.heap.size,0,none⟩)) ∧ Below base w (w.alloc (.cells c e)):=by
  have hp:=h.push (w':=w.alloc (.cells c e)) (.tc e cs) 0 0 0 0 kept_alloc (by simp) fun e'=>by
    refine ⟨c,?_,by have:=hx.1; simp at this; omega,h1,fun j hj=>?_,fun o ho=>?_⟩
    · have : (G.add w.heap.size 0 0 0 0).blk G.n = w.heap.size:=by simp [Ghost.add]
      rw [this]; exact heap_alloc_new _ _
    · have:=(hx.mono e').toArr j hj; simpa using this
    · have hb : (G.add w.heap.size 0 0 0 0).blk G.n = w.heap.size:=by simp [Ghost.add]
      rw [hb] at ho
      exact absurd (h.imm _ _ ho) (Nat.lt_irrefl _)
  refine ⟨_,hp.1,hp.2,?_,kept_alloc.below (fun _ f=>f.elim) h.low⟩
  have:=RV.ptr (G:=G.add w.heap.size 0 0 0 0) (w:=w.alloc (.cells c e)) A.length 0 (by simp [Ghost.add,h.n])
  have hb : (G.add w.heap.size 0 0 0 0).blk A.length = w.heap.size:=by simp [Ghost.add,h.n]
  rw [hb] at this; exact this
theorem alloc_tc_ok {P : Program} {G : Ghost} {A : List Box} {w : World} {base : Nat} {e : TypeId} {ti : TI} {cs : List AV} (ht : tinf P e = some ti) (hz : ti.zero = some cs) (h : HRel G A w base) :
    YV G w base (.ptr A.length 0) (A ++ [.tc e cs]) ((Instr.alloc e true (.tuple #[])).run P w):=by
  obtain ⟨i,d,h1,h2,h3,h4,h5,h6⟩:=tinf_spec ht
  rw [h5] at hz
  obtain ⟨z,hz',c1,c2⟩:=zeroA_ok (G:=G) (w:=w) hz
  obtain ⟨G',k1,k2,k3,k4⟩:=push_tc (e:=e) h c1 c2
  exact ⟨_,_,G',by simp [Instr.alloc,zeroValue_run h1 hz',newVar,newRow,Result.andThen],k3,k1,k2,k4⟩
structure RowKind (E : AV → Bool) (tt : Option TypeId) (sz s : Nat) (mk : List (List AV) → Box) : Prop where
  ok : ∀ G w i rows,BoxOk G w i (mk rows) ↔ RowOk E G w i sz rows s ∧ Typed tt G w i
  live : ∀ rows,(mk rows).live = true
  leaf : ∀ v,isLeaf v = true → E v = true
theorem rowKind (sz s : Nat) : RowKind isLeaf none sz s (fun rows=>.row sz rows s) :=
  ⟨fun G w i rows=>⟨fun h=>⟨h,fun t ht=>by cases ht⟩,fun h=>h.1⟩,fun _=>rfl,fun _ h=>h⟩
theorem leaf_elem {v : AV} (h : isLeaf v = true) : isElem v = true:=by cases v <;> simp_all [isLeaf,isElem]
theorem grKind (te : Option TypeId) (sz : Nat) : RowKind isElem te sz 0 (fun rows=>.gr te sz rows) :=
  ⟨fun G w i rows=>Iff.rfl,fun _=>rfl,fun _=>leaf_elem⟩
theorem push_gen {E : AV → Bool} {tt : Option TypeId} {mk : List (List AV) → Box} {G : Ghost} {A : List Box} {w : World} {base : Nat} {rows : List (List AV)} {sz s cap : Nat} {c : Array Value} {e : TypeId} (hk : RowKind E tt sz s mk) (htt : ∀ t,tt = some t → t = e)
    (h : HRel G A w base) {Q : Prop} (hc : Q)
    (hr : ∀ r ∈ rows,r.length = sz ∧ ∀ v ∈ r,E v = true) (hcap : rows.length ≤ cap) (hsz : cap * sz ≤ c.size) (hs : s ≤ rows.length)
    (hx : ∀ k j,k < rows.length → j < sz → RV G w (rowAt rows k j) (c.getD (k * sz + j) undef)) :
    ∃ G',HRel G' (A ++ [mk rows]) (w.alloc (.cells c e)) base ∧ Ext G w G' (w.alloc (.cells c e)) ∧ RV G' (w.alloc (.cells c e)) (.own A.length) (.slice (some ⟨w.heap.size,0,none⟩) rows.length cap) ∧ Below base w (w.alloc (.cells c e)):=by
  have hp:=h.push (w':=w.alloc (.cells c e)) (mk rows) 0 rows.length cap sz kept_alloc (by simp) fun e'=>by
    have hb : (G.add w.heap.size 0 rows.length cap sz).blk G.n = w.heap.size:=by simp [Ghost.add]
    have ho : (G.add w.heap.size 0 rows.length cap sz).off G.n = 0:=by simp [Ghost.add]
    have hcp : (G.add w.heap.size 0 rows.length cap sz).cap G.n = cap:=by simp [Ghost.add]
    refine (hk.ok _ _ _ _).2 ⟨⟨c,e,by rw [hb]; exact heap_alloc_new _ _,trivial,by simp [Ghost.add],by rw [hcp]; exact hcap,by simp [Ghost.add],by rw [ho,hcp,Nat.zero_add]; exact hsz,hs,hr,fun k j hk hj=>?_,fun o _ hh=>?_⟩,fun t ht=>⟨ho,c,by rw [hb,htt t ht]; exact heap_alloc_new _ _⟩⟩
    · rw [ho,Nat.zero_add]; exact (hx k j hk hj).mono e'
    · rw [hb] at hh
      exact absurd (h.imm _ _ hh) (Nat.lt_irrefl _)
  refine ⟨_,hp.1,hp.2,?_,kept_alloc.below (fun _ f=>f.elim) h.low⟩
  have:=RV.own (G:=G.add w.heap.size 0 rows.length cap sz) (w:=w.alloc (.cells c e)) A.length (by simp [Ghost.add,h.n])
  simpa [Ghost.add,h.n] using this
theorem push_row {G : Ghost} {A : List Box} {w : World} {base : Nat} {rows : List (List AV)} {sz s cap : Nat} {c : Array Value} {e : TypeId} (h : HRel G A w base) (hc : ∀ y ∈ c,y.oneCell' = true)
    (hr : ∀ r ∈ rows,r.length = sz ∧ ∀ v ∈ r,isLeaf v = true) (hcap : rows.length ≤ cap) (hsz : cap * sz ≤ c.size) (hs : s ≤ rows.length)
    (hx : ∀ k j,k < rows.length → j < sz → RV G w (rowAt rows k j) (c.getD (k * sz + j) undef)) :
    ∃ G',HRel G' (A ++ [.row sz rows s]) (w.alloc (.cells c e)) base ∧ Ext G w G' (w.alloc (.cells c e)) ∧ RV G' (w.alloc (.cells c e)) (.own A.length) (.slice (some ⟨w.heap.size,0,none⟩) rows.length cap) ∧ Below base w (w.alloc (.cells c e)) :=
  push_gen (rowKind sz s) (fun t ht=>by cases ht) h trivial hr hcap hsz hs hx
def rowsOf (A : List Box) : AV → Option (List (List AV))
  | .slice rows=>some rows
  | .nils=>some []
  | .own i=>match A.getD i .dead with
    | .row _ rows _=>some rows
    | _=>none
  | .str s=>some (s.map fun b=>[.int .u8 (b.toNat : Nat)])
  | _=>none
theorem flat_getD {rows : List (List AV)} {sz : Nat} (hr : ∀ r ∈ rows,r.length = sz) : ∀ k j,k < rows.length → j < sz → rows.flatten.getD (k * sz + j) .bot = rowAt rows k j:=by
  induction rows with
  | nil=>intro k j hk; simp at hk
  | cons r rows ih =>
    intro k j hk hj
    have h0:=hr r (by simp)
    cases k with
    | zero=>simp [rowAt,List.getD,List.getElem?_append_left (by omega : j < r.length)]
    | succ k =>
      have:=ih (fun r hr'=>hr r (by simp [hr'])) k j (by simpa using hk) hj
      simp only [rowAt,List.getD_cons_succ] at this ⊢
      rw [← this]
      simp only [List.flatten_cons,List.getD,List.getElem?_append_right (by rw [h0,Nat.succ_mul]; omega : r.length ≤ (k + 1) * sz + j)]
      rw [h0,Nat.succ_mul,show k * sz + sz + j - sz = k * sz + j by omega]
theorem flat_length {rows : List (List AV)} {sz : Nat} (hr : ∀ r ∈ rows,r.length = sz) : rows.flatten.length = rows.length * sz:=by
  induction rows with
  | nil=>simp
  | cons r rows ih =>
    rw [List.flatten_cons,List.length_append,ih (fun r hr'=>hr r (by simp [hr'])),hr r (by simp),List.length_cons,Nat.succ_mul]; omega
theorem RL.ofFn {G : Ghost} {w : World} {rows : List (List AV)} {sz : Nat} (hr : ∀ r ∈ rows,r.length = sz) (X : Nat → Nat → Value) (h : ∀ i j,i < rows.length → j < sz → RV G w (rowAt rows i j) (X i j)) :
    RL G w rows.flatten ((List.range (rows.length * sz)).map fun m=>X (m / sz) (m % sz)):=by
  refine ⟨by simp [flat_length hr],fun m hm=>?_⟩
  rw [flat_length hr] at hm
  have hsz : 0 < sz := by rcases Nat.eq_zero_or_pos sz with h0 | h0; · simp [h0] at hm
                          · exact h0
  have hk : m / sz < rows.length:=Nat.div_lt_of_lt_mul (by rw [Nat.mul_comm]; exact hm)
  have hj : m % sz < sz:=Nat.mod_lt _ hsz
  have e : m / sz * sz + m % sz = m:=Nat.div_add_mod' m sz
  have:=flat_getD hr (m / sz) (m % sz) hk hj
  rw [e] at this
  rw [this]
  have:=h _ _ hk hj
  simpa [List.getD,hm] using this
theorem elem_cell {v : AV} (h : isElem v = true) : isCell v = true:=by cases v <;> simp_all [isElem,isLeaf,isCell]
theorem src_gen {P : Program} {E : AV → Bool} {G : Ghost} {w : World} {tx : TypeId} {ti : TI} {y : Value} {xs : List (List AV)} {sz : Nat} (hE : ∀ v,E v = true → isCell v = true)
    (ht : tinf P tx = some ti) (hsz : ∀ r ∈ xs,r.length = sz) : ∀ (b off len cap : Nat) (X : Nat → Nat → Value),y = .slice (some ⟨b,off,none⟩) len cap → len = xs.length → (∃ e,ti.kind = .slice e) → (∀ r ∈ xs,∀ v ∈ r,E v = true) →
      (∀ i j,i < xs.length → j < sz → w.cell? ⟨b,off + (i * sz + j),none⟩ = some (X i j) ∧ RV G w (rowAt xs i j) (X i j)) →
      ∃ news,Src P sz tx y xs.length news w ∧ RL G w xs.flatten news ∧ (∀ r ∈ xs,∀ v ∈ r,E v = true):=by
  obtain ⟨i,d,h1,h2,h3,h4,h5,h6⟩:=tinf_spec ht
  rintro b off len cap X rfl rfl ⟨e,he⟩ hl hX
  rw [h6] at he
  obtain rfl:=tk_slice he
  have hleaf : ∀ i j,i < xs.length → j < sz → E (rowAt xs i j) = true:=fun i j hi hj=>by
    have hm:=getD_mem (d:=[]) hi
    exact hl _ hm _ (getD_mem (by rw [hsz _ hm]; exact hj))
  have hsp : ∀ m,m < xs.length * sz → m / sz < xs.length ∧ m % sz < sz ∧ m / sz * sz + m % sz = m:=fun m hm=>by
    have hsz0 : 0 < sz:=by
      rcases Nat.eq_zero_or_pos sz with h0 | h0
      · simp [h0] at hm
      · exact h0
    exact ⟨Nat.div_lt_of_lt_mul (by rw [Nat.mul_comm]; exact hm),Nat.mod_lt _ hsz0,Nat.div_add_mod' m sz⟩
  refine ⟨_,Src.ofSlice w h2 ⟨b,off,none⟩ xs.length cap _ (by simp) (fun j u hj=>?_) (fun u hu=>?_),RL.ofFn hsz X fun i j hi hj=>(hX i j hi hj).2,hl⟩
  · simp only [List.getElem?_map,Option.map_eq_some_iff] at hj
    obtain ⟨m,hm,rfl⟩:=hj
    have hlt : j < xs.length * sz:=by
      have:=List.getElem?_eq_some_iff.1 hm
      simpa using this.1
    rw [List.getElem?_range hlt] at hm
    cases hm
    obtain ⟨a1,a2,a3⟩:=hsp j hlt
    rw [Addr.add_lit]
    have:=(hX _ _ a1 a2).1
    rw [a3] at this; exact this
  · obtain ⟨m,hm,rfl⟩:=List.mem_map.1 hu
    obtain ⟨a1,a2,a3⟩:=hsp m (by simpa using hm)
    exact (hX _ _ a1 a2).2.cell (hE _ (hleaf _ _ a1 a2))
theorem src_ok {P : Program} {G : Ghost} {A : List Box} {w : World} {base : Nat} {tx : TypeId} {ti : TI} {x : AV} {y : Value} {xs : List (List AV)} {sz : Nat}
    (ht : tinf P tx = some ti) (hk : (∃ e,ti.kind = .slice e) ∨ (ti.kind = .str ∧ sz = 1)) (h : HRel G A w base) (hx : RV G w x y) (hxs : rowsOf A x = some xs) (hsz : ∀ r ∈ xs,r.length = sz)
    (hs : (∃ e,ti.kind = .slice e) → ∀ s,x ≠ .str s) (hs' : ti.kind = .str → ∃ s,x = .str s) :
    ∃ news,Src P sz tx y xs.length news w ∧ RL G w xs.flatten news ∧ (∀ r ∈ xs,∀ v ∈ r,isLeaf v = true):=by
  obtain ⟨i,d,h1,h2,h3,h4,h5,h6⟩:=tinf_spec ht
  have gen:=src_gen (P:=P) (E:=isLeaf) (G:=G) (w:=w) (y:=y) (fun _=>leaf_cell) ht hsz
  cases hx with
  | str s =>
    rcases hk with he | ⟨hk,rfl⟩
    · exact absurd rfl (hs he s)
    · rw [h6] at hk
      obtain rfl:=tk_str hk
      simp only [rowsOf] at hxs; cases hxs
      have hb : (⟨s.toArray⟩ : ByteArray).size = s.length:=by simp [ByteArray.size]
      have:=Src.ofString (P:=P) w h2 ⟨s.toArray⟩
      rw [hb] at this
      have hfl : (s.map fun b=>[AV.int .u8 (b.toNat : Nat)]).flatten = s.map fun b=>AV.int .u8 (b.toNat : Nat):=by
        clear hsz hs hs' this hb gen
        induction s with
        | nil=>rfl
        | cons b s ih=>simp [ih]
      refine ⟨_,by simpa using this,?_,by simp [isLeaf]⟩
      rw [hfl]
      refine ⟨by simp [byteCells],fun i hi=>?_⟩
      have hi' : i < s.length:=by simpa using hi
      have e1 : (s.map fun b=>AV.int .u8 (b.toNat : Nat)).getD i .bot = .int .u8 ((s[i]).toNat : Nat):=by simp [List.getD,hi']
      have e2 : (byteCells ⟨s.toArray⟩).getD i undef = .int .u8 ((s[i]).toNat : Nat):=by simp [byteCells,List.getD,hi']
      rw [e1,e2]; exact .int _ _
  | slice0 =>
    simp only [rowsOf] at hxs; cases hxs
    rcases hk with ⟨e,he⟩ | ⟨hk,_⟩
    · rw [h6] at he
      obtain rfl:=tk_slice he
      exact ⟨[],Src.ofNil w h2 0,.nil,by simp⟩
    · obtain ⟨s,hs⟩:=hs' hk; cases hs
  | nils =>
    simp only [rowsOf] at hxs; cases hxs
    rcases hk with ⟨e,he⟩ | ⟨hk,_⟩
    · rw [h6] at he
      obtain rfl:=tk_slice he
      exact ⟨[],Src.ofNil w h2 0,.nil,by simp⟩
    · obtain ⟨s,hs⟩:=hs' hk; cases hs
  | sliceE a cap =>
    simp only [rowsOf] at hxs; cases hxs
    rcases hk with ⟨e,he⟩ | ⟨hk,_⟩
    · rw [h6] at he
      obtain rfl:=tk_slice he
      exact ⟨[],Src.ofSlice w h2 a 0 cap [] (by simp) (by simp) (by simp),.nil,by simp⟩
    · obtain ⟨s,hs⟩:=hs' hk; cases hs
  | slice rows b off cap sz' X hr hcap hx hI hzz hh =>
    simp only [rowsOf] at hxs; cases hxs
    have he : ∃ e,ti.kind = .slice e:=by
      rcases hk with he | ⟨hk,_⟩
      · exact he
      · obtain ⟨s,hs⟩:=hs' hk; cases hs
    refine gen b off _ cap X rfl rfl he (fun r hr'=>(hr r hr').2) fun i j hi hj=>?_
    have hm:=getD_mem (d:=[]) hi
    have : sz' = sz:=by rw [← (hr _ hm).1,hsz _ hm]
    subst this
    exact ⟨hx i j hi hj,hh i j hi hj⟩
  | own i hi =>
    simp only [rowsOf] at hxs
    have hb:=h.box i (by rw [← h.n]; exact hi)
    split at hxs <;> try cases hxs
    rename_i sz' s hb0
    rw [hb0] at hb
    obtain ⟨c,el,q1,q3,q4,q5,q6,q7,q8,q9,q10,q11⟩:=hb
    have he : ∃ e,ti.kind = .slice e:=by
      rcases hk with he | ⟨hk,_⟩
      · exact he
      · obtain ⟨s,hs⟩:=hs' hk; cases hs
    refine gen _ _ _ _ (fun k j=>c.getD (G.off i + (k * sz + j)) undef) rfl q4 he (fun r hr'=>(q9 r hr').2) fun k j hk1 hj1=>?_
    have hm:=getD_mem (d:=[]) hk1
    have : sz' = sz:=by rw [← (q9 _ hm).1,hsz _ hm]
    subst this
    exact ⟨cell?_of q1 (by have:=row_in hk1 hj1 q5; omega),q10 k j hk1 hj1⟩
  | _=>simp [rowsOf] at hxs
end Go.Abs
/- append. -/
namespace Go.Abs
open Go.RowKit
theorem append_room {P : Program} {w : World} {t tx ty e el : TypeId} {i : TypeInfo} (ht : P.underlying t = some (.slice e)) (hi : P.info? e = some i) {g o sLen sCap n : Nat} {cur : Array Value} {x : Value} {news : List Value}
    (hg : w.heap[g]? = some (.cells cur el (0,0))) (hs : Src P i.size tx x n news w) (hroom : sLen + n ≤ sCap) (hfit : o + sLen * i.size + news.length ≤ cur.size) :
    (Builtin.append_ #[t,tx] ty #[.slice (some ⟨g,o,none⟩) sLen sCap,x]).run P w =
      .ok (.slice (some ⟨g,o,none⟩) (sLen + n) sCap) (w.setRow g (cur.toList.take (o + sLen * i.size) ++ news ++ cur.toList.drop (o + sLen * i.size + news.length)).toArray):=by
  have hst:=run_storeCells_at P g (o + sLen * i.size) el news 0 cur w hg (by simpa using hfit) hs.one
  simp only [Nat.add_zero] at hst
  rcases hs.kind with ⟨e',hk⟩ | hk <;> simp [Builtin.append_,run_underlying ht,run_underlying hk,sizeOf,typeInfo,hi,hs.len,hroom,hs.cells,Addr.add_lit,hst]
theorem kept_setRow {w : World} {g : Nat} {c : Array Value} : Kept (fun b=>b = g) w (w.setRow g c) :=
  ⟨rfl,rfl,rfl,by simp,fun b hb hne=>setRow_other w g b c hne⟩
theorem rowAt_append_left {a b : List (List AV)} {k j : Nat} (h : k < a.length) : rowAt (a ++ b) k j = rowAt a k j:=by
  unfold rowAt; rw [getD_append_left h]
theorem rowAt_append_right {a b : List (List AV)} {k j : Nat} (h : a.length ≤ k) : rowAt (a ++ b) k j = rowAt b (k - a.length) j:=by
  unfold rowAt; simp [List.getD,List.getElem?_append_right h]
theorem getD_arr {l : List Value} {k : Nat} : l.toArray.getD k undef = l.getD k undef:=by
  simp [Array.getD,List.getD]
  by_cases h : k < l.length <;> simp [h]
theorem append_gen {P : Program} {E : AV → Bool} {tt : Option TypeId} {mk : List (List AV) → Box} {G : Ghost} {A : List Box} {w : World} {base : Nat} {t tx ty e : TypeId} {ti te : TI} {i sz s : Nat} {rows xs : List (List AV)} {y z : Value}
    (hK : RowKind E tt sz s mk) (htt : ∀ t,tt = some t → t = e) (ht : tinf P t = some ti) (hk : ti.kind = .slice e) (hte : tinf P e = some te) (hsz : te.size = sz) {zc : List AV} (hz : te.zero = some zc) (hzl : zc.length = sz) (hby : 0 < te.bytes ∧ te.bytes ≤ 65536)
    (hsrc0 : ∃ news,Src P sz tx y xs.length news w ∧ RL G w xs.flatten news ∧ (∀ r ∈ xs,∀ v ∈ r,E v = true))
    (hb : A.getD i .dead = mk rows) (hxl : ∀ r ∈ xs,r.length = sz) (hlen : rows.length + xs.length ≤ 1073741824)
    (h : HRel G A w base) (hz' : RV G w (.own i) z) :
    YV G w base (.own A.length) (A.set i .dead ++ [mk (rows ++ xs)]) ((Builtin.append_ #[t,tx] ty #[z,y]).run P w):=by
  obtain ⟨it,d,h1,h2,h3,h4,h5,h6⟩:=tinf_spec ht
  obtain ⟨ie,de,g1,g2,g3,g4,g5,g6⟩:=tinf_spec hte
  rw [h6] at hk
  obtain rfl:=tk_slice hk
  obtain ⟨news,hsrc,hnews,hleaf⟩:=hsrc0
  have hsz' : sz = ie.size:=by omega
  have hil : i < A.length:=by
    rcases Nat.lt_or_ge i A.length with hh | hh
    · exact hh
    · have:=hK.live rows; rw [← hb] at this; simp [List.getD,Nat.not_lt.2 hh,Box.live] at this
  have hlive : (A.getD i .dead).live = true:=by rw [hb]; exact hK.live _
  have hbox:=h.box i hil
  rw [hb] at hbox
  obtain ⟨⟨c,el,q1,q3,q4,q5,q6,q7,q8,q9,q10,q11⟩,qt⟩:=(hK.ok _ _ _ _).1 hbox
  have hnl : news.length = xs.length * sz:=by rw [← hnews.1,flat_length hxl]
  have hrall : ∀ r ∈ rows ++ xs,r.length = sz ∧ ∀ v ∈ r,E v = true:=fun r hr=>by
    rcases List.mem_append.1 hr with hr | hr
    · exact q9 r hr
    · exact ⟨hxl r hr,hleaf r hr⟩
  have hnew : ∀ k j,k < xs.length → j < sz → RV G w (rowAt xs k j) (news.getD (k * sz + j) undef):=fun k j hk' hj=>by
    have:=hnews.2 (k * sz + j) (by rw [flat_length hxl]; exact row_in hk' hj (Nat.le_refl _))
    rwa [flat_getD hxl k j hk' hj] at this
  have hlr : G.len i * sz = rows.length * sz:=by rw [q4]
  cases hz' with
  | own _ hi =>
    have hcm : G.len i * sz ≤ G.cap i * sz:=Nat.mul_le_mul_right _ (by omega)
    by_cases hroom : G.len i + xs.length ≤ G.cap i
    · have hfit : G.off i + G.len i * sz + news.length ≤ c.size:=by
        have:=Nat.mul_le_mul_right sz hroom
        rw [Nat.add_mul] at this; omega
      rw [hsz'] at hsrc
      have hrun:=append_room (P:=P) (ty:=ty) (el:=el) h2 g1 (o:=G.off i) (sLen:=G.len i) (sCap:=G.cap i) q1 hsrc hroom (by rw [← hsz']; exact hfit)
      rw [← hsz'] at hrun
      generalize hC : (c.toList.take (G.off i + G.len i * sz) ++ news ++ c.toList.drop (G.off i + G.len i * sz + news.length)).toArray = C at hrun
      have hCsz : C.size = c.size:=by
        rw [← hC]; simp; omega
      have hCold : ∀ m,m < G.off i + G.len i * sz → C.getD m undef = c.getD m undef:=fun m hm=>by
        rw [← hC,getD_arr,List.append_assoc,getD_append_left (by simp; omega),getD_take _ _ _ _ hm]
        simp [Array.getD,List.getD]
        by_cases hh : m < c.size <;> simp [hh]
      have hCnew : ∀ m,m < news.length → C.getD (G.off i + G.len i * sz + m) undef = news.getD m undef:=fun m hm=>by
        have hl : (c.toList.take (G.off i + G.len i * sz)).length = G.off i + G.len i * sz:=by simp; omega
        rw [← hC,getD_arr,List.append_assoc]
        simp only [List.getD]
        rw [List.getElem?_append_right (by rw [hl]; omega),hl,List.getElem?_append_left (by omega),show G.off i + G.len i * sz + m - (G.off i + G.len i * sz) = m by omega]
      have hheap : (w.setRow (G.blk i) C).heap[G.blk i]? = some (.cells C el (0,0)):=setRow_heap w _ c C el _ q1
      have hh:=h.hand (w':=w.setRow (G.blk i) C) (mk (rows ++ xs)) (G.off i) (rows.length + xs.length) (G.cap i) sz hil hlive kept_setRow (fun o ho=>by
          have hlt : o < G.off i + G.len i * sz:=by
            rcases Nat.lt_or_ge o (G.off i + s * sz) with hh | hh
            · have:=Nat.mul_le_mul_right sz q8; omega
            · exact absurd ho (q11 o hh)
          rw [cell?_of hheap (by omega),cell?_of q1 (by omega),hCold o hlt])
        (fun _ _ _=>⟨_,_,hheap⟩) fun e'=>by
          have hb : (G.add (G.blk i) (G.off i) (rows.length + xs.length) (G.cap i) sz).blk G.n = G.blk i:=by simp [Ghost.add]
          have ho : (G.add (G.blk i) (G.off i) (rows.length + xs.length) (G.cap i) sz).off G.n = G.off i:=by simp [Ghost.add]
          have hcp : (G.add (G.blk i) (G.off i) (rows.length + xs.length) (G.cap i) sz).cap G.n = G.cap i:=by simp [Ghost.add]
          refine (hK.ok _ _ _ _).2 ⟨⟨C,el,by rw [hb]; exact hheap,trivial,by simp [Ghost.add],by rw [hcp]; simp; omega,by simp [Ghost.add],by rw [ho,hcp,hCsz]; exact q7,by simp; omega,hrall,fun k j hk' hj=>?_,fun o ho' hh=>?_⟩,fun t ht=>?_⟩
          · rw [ho]
            simp only [List.length_append] at hk'
            by_cases hkl : k < rows.length
            · rw [rowAt_append_left hkl,hCold _ (by have:=row_in hkl hj (Nat.le_of_eq q4.symm); omega)]
              exact (q10 k j hkl hj).mono e'
            · rw [rowAt_append_right (by omega)]
              have hkk : k - rows.length < xs.length:=by omega
              have:=hnew _ j hkk hj
              have e2 : G.off i + (k * sz + j) = G.off i + G.len i * sz + ((k - rows.length) * sz + j):=by
                rw [q4]
                have : k = rows.length + (k - rows.length):=by omega
                conv=>lhs; rw [this,Nat.add_mul]
                omega
              rw [e2,hCnew _ (by rw [hnl]; exact row_in hkk hj (Nat.le_refl _))]
              exact this.mono e'
          · rw [hb] at hh; rw [ho] at ho'
            exact q11 o ho' hh
          · obtain ⟨t1,c',t2⟩:=qt t ht
            rw [q1] at t2; cases t2
            exact ⟨by rw [ho]; exact t1,C,by rw [hb]; exact hheap⟩
      refine ⟨_,_,_,hrun,?_,hh.1,hh.2,kept_setRow.below (fun b hb=>by rw [hb]; exact (h.bnd i hil hlive).1) h.low⟩
      have:=RV.own (G:=G.add (G.blk i) (G.off i) (rows.length + xs.length) (G.cap i) sz) (w:=w.setRow (G.blk i) C) A.length (by simp [Ghost.add,h.n])
      simpa [Ghost.add,h.n,q4] using this
    · rw [g5] at hz
      obtain ⟨zz,hzz,hzrl,hzc⟩:=zeroA_ok (G:=G) (w:=w) hz
      have hzs : zz.cells.size = sz:=by have:=hzrl.1; simp at this; omega
      let olds : List Value:=(List.range (G.len i * sz)).map fun m=>c.getD (G.off i + m) undef
      have holds : (Builtin.firstCells ie.size (G.len i) (.slice (some ⟨G.blk i,G.off i,none⟩) (G.len i) (G.cap i))).run P w.drew = .ok olds.toArray w.drew:=by
        refine run_firstCells_some w.drew _ _ _ _ _ olds (by simp [olds,hsz']) fun j v hj=>?_
        simp only [olds,List.getElem?_map,Option.map_eq_some_iff] at hj
        obtain ⟨m,hm,rfl⟩:=hj
        have hlt : j < G.len i * sz:=by
          have:=List.getElem?_eq_some_iff.1 hm
          simpa using this.1
        rw [List.getElem?_range hlt] at hm
        cases hm
        rw [Addr.add_lit]
        have:=cell?_of q1 (o:=G.off i + j) (by omega)
        simpa using this
      have hneed : (G.len i + xs.length) * ie.bytes ≤ 1073741824 * 65536:=Nat.mul_le_mul (by omega) (by omega)
      rw [hsz'] at hsrc
      have hrun:=run_append_grow_src w t tx ty e ie zz h2 g1 hzz (some ⟨G.blk i,G.off i,none⟩) (G.len i) (G.cap i) olds holds y xs.length news hsrc (by omega) (by omega) (growslice_fits (by omega) (by omega))
      rw [← hsz'] at hsrc
      generalize hcp : grownCap w (G.len i + xs.length) (G.cap i) e = cap at hrun
      have hcap : G.len i + xs.length ≤ cap:=by
        rw [← hcp]; simp [grownCap,Question.cut]
      generalize hC : (olds ++ news).toArray ++ Builtin.zeroCells zz.cells (cap - (G.len i + xs.length)) = C at hrun
      obtain ⟨hd,he⟩:=h.heap (w':=w.drew) rfl
      have hol : olds.length = G.len i * sz:=by simp [olds]
      have hCget : ∀ m,m < (olds ++ news).length → C.getD m undef = (olds ++ news).getD m undef:=fun m hm=>by
        rw [← hC,Array.getD_eq_getD_getElem?,Array.getElem?_append_left (by simpa using hm)]
        simp [List.getD]
      have hk2:=(hd.kill (i:=i))
      have hp:=push_gen (G:=G) (A:=A.set i .dead) (w:=w.drew) (base:=base) (rows:=rows ++ xs) (sz:=sz) (s:=s) (cap:=cap) (c:=C) (e:=e) hK htt hk2 trivial hrall (by simp; omega) ?_ (by simp; omega) fun k j hk' hj=>?_
      · obtain ⟨G',p1,p2,p3,p4⟩:=hp
        refine ⟨_,_,G',hrun,?_,p1,he.trans p2,(Below.refl _ _).drew.trans p4⟩
        rw [q4]
        have : (A.set i Box.dead).length = A.length:=by simp
        rw [this] at p3
        simpa using p3
      · rw [← hC]
        simp only [Array.size_append,size_zeroCells,hzs,List.size_toArray,List.length_append,hol,hnl]
        rw [← Nat.add_mul,← Nat.add_mul,Nat.add_sub_cancel' hcap]
        exact Nat.le_refl _
      · have hlt : k * sz + j < (olds ++ news).length:=by
          have:=row_in hk' hj (Nat.le_refl _)
          simp only [List.length_append] at this ⊢
          rw [hol,hnl,← Nat.add_mul,q4]; exact this
        rw [hCget _ hlt]
        simp only [List.length_append] at hk'
        by_cases hkl : k < rows.length
        · have hin : k * sz + j < G.len i * sz:=row_in hkl hj (by omega)
          rw [rowAt_append_left hkl,getD_append_left (by omega)]
          have:=(q10 k j hkl hj).mono he
          simpa [olds,List.getD,hin] using this
        · rw [rowAt_append_right (by omega)]
          have hkk : k - rows.length < xs.length:=by omega
          have e2 : k * sz + j = G.len i * sz + ((k - rows.length) * sz + j):=by
            rw [q4]
            have : k = rows.length + (k - rows.length):=by omega
            conv=>lhs; rw [this,Nat.add_mul]
            omega
          have e3 : (olds ++ news).getD (k * sz + j) undef = news.getD ((k - rows.length) * sz + j) undef:=by
            rw [e2]; simp only [List.getD]; rw [List.getElem?_append_right (by omega),hol,show G.len i * sz + ((k - rows.length) * sz + j) - G.len i * sz = (k - rows.length) * sz + j by omega]
          rw [e3]; exact (hnew _ j hkk hj).mono he
theorem append_ok {P : Program} {G : Ghost} {A : List Box} {w : World} {base : Nat} {t tx ty e : TypeId} {ti te tix : TI} {i sz s : Nat} {rows xs : List (List AV)} {x : AV} {y z : Value}
    (ht : tinf P t = some ti) (hk : ti.kind = .slice e) (hte : tinf P e = some te) (hsz : te.size = sz) {zc : List AV} (hz : te.zero = some zc) (hzl : zc.length = sz) (hby : 0 < te.bytes ∧ te.bytes ≤ 65536) (htx : tinf P tx = some tix)
    (hkx : (∃ e,tix.kind = .slice e) ∨ (tix.kind = .str ∧ sz = 1)) (hs : (∃ e,tix.kind = .slice e) → ∀ s,x ≠ .str s) (hs' : tix.kind = .str → ∃ s,x = .str s)
    (hb : A.getD i .dead = .row sz rows s) (hxs : rowsOf A x = some xs) (hxl : ∀ r ∈ xs,r.length = sz) (hlen : rows.length + xs.length ≤ 1073741824)
    (h : HRel G A w base) (hx : RV G w x y) (hz' : RV G w (.own i) z) :
    YV G w base (.own A.length) (A.set i .dead ++ [.row sz (rows ++ xs) s]) ((Builtin.append_ #[t,tx] ty #[z,y]).run P w) :=
  append_gen (rowKind sz s) (fun t ht=>by cases ht) ht hk hte hsz hz hzl hby (src_ok htx hkx h hx hxs hxl hs hs') hb hxl hlen h hz'
end Go.Abs
/- store, append to nil, make, literals. -/
namespace Go.Abs
open Go.RowKit
theorem splice_getD {α : Type} {c vs : List α} {o m : Nat} {d : α} (ho : o + vs.length ≤ c.length) :
    (c.take o ++ vs ++ c.drop (o + vs.length)).getD m d = if o ≤ m ∧ m < o + vs.length then vs.getD (m - o) d else c.getD m d:=by
  have hl : (c.take o).length = o:=by simp; omega
  simp only [List.getD]
  by_cases h1 : m < o
  · rw [if_neg (by omega),List.append_assoc,List.getElem?_append_left (by omega),List.getElem?_take_of_lt h1]
  · by_cases h2 : m < o + vs.length
    · rw [if_pos ⟨by omega,h2⟩,List.append_assoc,List.getElem?_append_right (by omega),hl,List.getElem?_append_left (by omega)]
    · rw [if_neg (by omega),List.getElem?_append_right (by simp; omega)]
      simp only [List.getElem?_drop,List.length_append,hl]
      congr 2; omega
theorem splice_length {α : Type} {c vs : List α} {o : Nat} (ho : o + vs.length ≤ c.length) : (c.take o ++ vs ++ c.drop (o + vs.length)).length = c.length:=by
  simp; omega
def storeA (A : List Box) (p : AV) (vs : List AV) : Option (Prop × List Box) :=
  match p with
  | .ptr i o=>match A.getD i .dead with
    | .cells cs=>some (o + vs.length ≤ cs.length,A.set i (.cells (cs.take o ++ vs ++ cs.drop (o + vs.length))))
    | .tc T cs=>some (o + vs.length ≤ cs.length,A.set i (.tc T (cs.take o ++ vs ++ cs.drop (o + vs.length))))
    | _=>none
  | .eptr i k j=>match A.getD i .dead with
    | .row sz rows s=>some (s ≤ k ∧ k < rows.length ∧ j + vs.length ≤ sz ∧ (∀ v ∈ vs,isLeaf v = true),A.set i (.row sz (rows.set k ((rows.getD k []).take j ++ vs ++ (rows.getD k []).drop (j + vs.length))) s))
    | .gr te sz rows=>some (k < rows.length ∧ j + vs.length ≤ sz ∧ (∀ v ∈ vs,isElem v = true),A.set i (.gr te sz (rows.set k ((rows.getD k []).take j ++ vs ++ (rows.getD k []).drop (j + vs.length)))))
    | _=>none
  | _=>none
def storeN (A : List Box) (p : AV) (vs : List AV) : Option (Prop × List Box) :=
  match p with
  | .eptr i k j=>match A.getD i .dead with
    | .row sz rows 0=>some (k < rows.length ∧ j + vs.length ≤ sz ∧ (∀ v ∈ vs,isElem v = true),A.set i (.gr none sz (rows.set k ((rows.getD k []).take j ++ vs ++ (rows.getD k []).drop (j + vs.length)))))
    | .gr te sz rows=>some (k < rows.length ∧ j + vs.length ≤ sz ∧ (∀ v ∈ vs,isElem v = true),A.set i (.gr te sz (rows.set k ((rows.getD k []).take j ++ vs ++ (rows.getD k []).drop (j + vs.length)))))
    | _=>none
  | _=>none
theorem store_gen {P : Program} {E : AV → Bool} {tt : Option TypeId} {mk : List (List AV) → Box} {G : Ghost} {A : List Box} {w : World} {base : Nat} {t : TypeId} {ti : TI} {v : AV} {y : Value} {vs : List AV} {i k j sz s : Nat} {rows : List (List AV)}
    (ht : tinf P t = some ti) (hc : cellsA v = some vs) (hl : vs.length = ti.size) (hK : RowKind E tt sz s mk) (hlive : (A.getD i .dead).live = true) (hil : i < A.length) (hb : RowOk E G w i sz rows s ∧ Typed tt G w i)
    (hp : s ≤ k ∧ k < rows.length ∧ j + vs.length ≤ sz ∧ (∀ v ∈ vs,E v = true)) (h : HRel G A w base) (hy : RV G w v y) :
    ∃ w' G',(Instr.storeAt t (.pointer (some ⟨G.blk i,G.off i + (k * G.sz i + j),none⟩)) y).run P w = .ok () w' ∧ HRel G' (A.set i (mk (rows.set k ((rows.getD k []).take j ++ vs ++ (rows.getD k []).drop (j + vs.length))))) w' base ∧ Ext G w G' w' ∧ Below base w w':=by
  obtain ⟨i0,d,h1,h2,h3,h4,h5,h6⟩:=tinf_spec ht
  obtain ⟨c1,c2⟩:=cellsA_ok hy hc
  have hvl : y.cells.size = i0.size:=by have:=c1.1; simp at this; omega
  have run : ∀ b o (cur : Array Value) el,w.heap[b]? = some (.cells cur el (0,0)) → o + vs.length ≤ cur.size →
      (Instr.storeAt t (.pointer (some ⟨b,o,none⟩)) y).run P w = .ok () (w.setRow b (cur.toList.take o ++ y.cells.toList ++ cur.toList.drop (o + y.cells.toList.length)).toArray):=fun b o cur el hb ho=>by
    have:=run_storeCells_at P b o el y.cells.toList 0 cur w hb (by simp; have:=c1.1; simp at this; omega) (fun v hv=>c2 v (by simpa using hv))
    simp only [Nat.add_zero] at this
    simp [Instr.storeAt,Instr.sureAddr,storeVar,sizeOf_run h1,hvl,Result.andThen,this]
  have hvl' : vs.length = y.cells.toList.length:=c1.1
  obtain ⟨⟨cur,el,q1,q3,q4,q5,q6,q7,q8,q9,q10,q11⟩,qt⟩:=hb
  obtain ⟨p1,p2,p3,p4⟩:=hp
  have hcm:=Nat.mul_le_mul_right sz q5
  have hrk:=(q9 _ (getD_mem (d:=[]) p2))
  have hks : k * sz + sz ≤ rows.length * sz:=by
    have:=Nat.mul_le_mul_right sz (Nat.succ_le_of_lt p2); rwa [Nat.succ_mul] at this
  have hfit : G.off i + (k * sz + j) + vs.length ≤ cur.toList.length:=by simp; omega
  have hrow' : ((rows.getD k []).take j ++ vs ++ (rows.getD k []).drop (j + vs.length)).length = sz:=by rw [splice_length (by omega)]; exact hrk.1
  rw [q6]
  have hh:=h.set (w':=w.setRow (G.blk i) (cur.toList.take (G.off i + (k * sz + j)) ++ y.cells.toList ++ cur.toList.drop (G.off i + (k * sz + j) + y.cells.toList.length)).toArray)
    (mk (rows.set k ((rows.getD k []).take j ++ vs ++ (rows.getD k []).drop (j + vs.length)))) hil hlive kept_setRow (fun o' ho'=>by
      have hlt : o' < G.off i + s * sz:=by
        rcases Nat.lt_or_ge o' (G.off i + s * sz) with hh | hh
        · exact hh
        · exact absurd ho' (q11 o' hh)
      have hsk:=Nat.mul_le_mul_right sz p1
      have hoc : o' < cur.size:=by omega
      rw [cell?_of (setRow_heap w _ cur _ el _ q1) (by rw [List.size_toArray,splice_length (by rw [← hvl']; exact hfit)]; simpa using hoc),cell?_of q1 hoc,getD_arr,splice_getD (by rw [← hvl']; exact hfit),if_neg (by omega)]
      simp [Array.getD,List.getD,hoc]) (fun _ _ _=>⟨_,_,setRow_heap w _ cur _ el _ q1⟩) fun e'=>by
    refine (hK.ok _ _ _ _).2 ⟨⟨_,el,setRow_heap w _ cur _ el _ q1,trivial,by simp [q4],by simpa using q5,q6,?_,by simpa using q8,fun r hr=>?_,fun k' j' hk' hj'=>?_,q11⟩,fun t ht=>?_⟩
    · rw [List.size_toArray,splice_length (by rw [← hvl']; exact hfit)]; simpa using q7
    · rcases List.mem_or_eq_of_mem_set hr with hr | hr
      · exact q9 r hr
      · subst hr
        refine ⟨hrow',fun v hv=>?_⟩
        simp only [List.mem_append] at hv
        rcases hv with (hv | hv) | hv
        · exact hrk.2 v (List.mem_of_mem_take hv)
        · exact p4 v hv
        · exact hrk.2 v (List.mem_of_mem_drop hv)
    · simp only [List.length_set] at hk'
      rw [getD_arr,splice_getD (by rw [← hvl']; exact hfit)]
      unfold rowAt
      have hks' : k' * sz + sz ≤ rows.length * sz:=by
        have:=Nat.mul_le_mul_right sz (Nat.succ_le_of_lt hk'); rwa [Nat.succ_mul] at this
      by_cases hkk : k = k'
      · subst hkk
        rw [getD_set_self p2,splice_getD (by omega)]
        by_cases hin : j ≤ j' ∧ j' < j + vs.length
        · rw [if_pos hin,if_pos (by omega),show G.off i + (k * sz + j') - (G.off i + (k * sz + j)) = j' - j by omega]
          exact (c1.2 (j' - j) (by omega)).mono e'
        · rw [if_neg hin,if_neg (by omega)]
          have:=(q10 k j' p2 hj').mono e'
          have hjc : G.off i + (k * sz + j') < cur.size:=by omega
          simpa [Array.getD,List.getD,hjc,rowAt] using this
      · rw [getD_set_ne' hkk,if_neg (by
          have hne : k * sz + sz ≤ k' * sz ∨ k' * sz + sz ≤ k * sz:=by
            rcases Nat.lt_or_gt_of_ne hkk with hlt | hlt
            · have:=Nat.mul_le_mul_right sz (Nat.succ_le_of_lt hlt); rw [Nat.succ_mul] at this; exact .inl this
            · have:=Nat.mul_le_mul_right sz (Nat.succ_le_of_lt hlt); rw [Nat.succ_mul] at this; exact .inr this
          omega)]
        have:=(q10 k' j' hk' hj').mono e'
        have hjc : G.off i + (k' * sz + j') < cur.size:=by omega
        simpa [Array.getD,List.getD,hjc,rowAt] using this
    · obtain ⟨t1,c',t2⟩:=qt t ht
      rw [q1] at t2; cases t2
      exact ⟨t1,_,setRow_heap w _ cur _ el _ q1⟩
  exact ⟨_,G,run _ _ cur el q1 (by simp at hfit; omega),hh.1,hh.2,kept_setRow.below (fun b hb=>by rw [hb]; exact (h.bnd i hil hlive).1) h.low⟩
theorem store_ok {P : Program} {G : Ghost} {A A' : List Box} {w : World} {base : Nat} {t : TypeId} {ti : TI} {p v : AV} {x y : Value} {vs : List AV} {c : Prop}
    (ht : tinf P t = some ti) (hc : cellsA v = some vs) (hl : vs.length = ti.size) (hs : storeA A p vs = some (c,A')) (hp : c) (h : HRel G A w base) (hx : RV G w p x) (hy : RV G w v y) :
    ∃ w' G',(Instr.storeAt t x y).run P w = .ok () w' ∧ HRel G' A' w' base ∧ Ext G w G' w' ∧ Below base w w':=by
  obtain ⟨i0,d,h1,h2,h3,h4,h5,h6⟩:=tinf_spec ht
  obtain ⟨c1,c2⟩:=cellsA_ok hy hc
  have hvl : y.cells.size = i0.size:=by have:=c1.1; simp at this; omega
  have run : ∀ b o (cur : Array Value) el,w.heap[b]? = some (.cells cur el (0,0)) → o + vs.length ≤ cur.size →
      (Instr.storeAt t (.pointer (some ⟨b,o,none⟩)) y).run P w = .ok () (w.setRow b (cur.toList.take o ++ y.cells.toList ++ cur.toList.drop (o + y.cells.toList.length)).toArray):=fun b o cur el hb ho=>by
    have:=run_storeCells_at P b o el y.cells.toList 0 cur w hb (by simp; have:=c1.1; simp at this; omega) (fun v hv=>c2 v (by simpa using hv))
    simp only [Nat.add_zero] at this
    simp [Instr.storeAt,Instr.sureAddr,storeVar,sizeOf_run h1,hvl,Result.andThen,this]
  have hvl' : vs.length = y.cells.toList.length:=c1.1
  cases hx with
  | ptr i o hi =>
    simp only [storeA] at hs
    have hil : i < A.length:=by rw [← h.n]; exact hi
    have hb:=h.box i hil
    split at hs <;> try cases hs
    · rename_i cs hb0
      have hlive : (A.getD i .dead).live = true:=by rw [hb0]; rfl
      rw [hb0] at hb
      obtain ⟨cur,el,q1,q3,q4,q5,q6⟩:=hb
      have hcl : cur.toList.length = cs.length:=by simp [q3]
      have hh:=h.set (w':=w.setRow (G.blk i) (cur.toList.take o ++ y.cells.toList ++ cur.toList.drop (o + y.cells.toList.length)).toArray) (.cells (cs.take o ++ vs ++ cs.drop (o + vs.length))) hil hlive kept_setRow (fun o' ho'=>absurd ho' (q6 o')) (fun _ _ _=>⟨_,_,setRow_heap w _ cur _ el _ q1⟩) fun e'=>by
        refine ⟨_,el,setRow_heap w _ cur _ el _ q1,?_,fun z hz=>?_,fun j hj=>?_,q6⟩
        · rw [List.size_toArray,splice_length (by rw [← hvl',hcl]; exact hp),splice_length hp,hcl]
        · simp only [List.mem_toArray,List.mem_append] at hz
          rcases hz with (hz | hz) | hz
          · exact q4 z (by simpa using List.mem_of_mem_take hz)
          · exact c2 z (by simpa using hz)
          · exact q4 z (by simpa using List.mem_of_mem_drop hz)
        · rw [splice_length hp] at hj
          rw [getD_arr,splice_getD hp,splice_getD (by rw [← hvl',hcl]; exact hp)]
          by_cases hin : o ≤ j ∧ j < o + vs.length
          · rw [if_pos hin,if_pos (by omega)]; exact (c1.2 (j - o) (by omega)).mono e'
          · rw [if_neg hin,if_neg (by omega)]
            have:=(q5 j hj).mono e'
            have hjc : j < cur.size:=by omega
            simpa [Array.getD,List.getD,hjc] using this
      exact ⟨_,G,run _ _ cur el q1 (by omega),hh.1,hh.2,kept_setRow.below (fun b hb=>by rw [hb]; exact (h.bnd i hil hlive).1) h.low⟩
    · rename_i el cs hb0
      have hlive : (A.getD i .dead).live = true:=by rw [hb0]; rfl
      rw [hb0] at hb
      obtain ⟨cur,q1,q3,q4,q5,q6⟩:=hb
      have hcl : cur.toList.length = cs.length:=by simp [q3]
      have hh:=h.set (w':=w.setRow (G.blk i) (cur.toList.take o ++ y.cells.toList ++ cur.toList.drop (o + y.cells.toList.length)).toArray) (.tc el (cs.take o ++ vs ++ cs.drop (o + vs.length))) hil hlive kept_setRow (fun o' ho'=>absurd ho' (q6 o')) (fun _ _ _=>⟨_,_,setRow_heap w _ cur _ el _ q1⟩) fun e'=>by
        refine ⟨_,setRow_heap w _ cur _ el _ q1,?_,fun z hz=>?_,fun j hj=>?_,q6⟩
        · rw [List.size_toArray,splice_length (by rw [← hvl',hcl]; exact hp),splice_length hp,hcl]
        · simp only [List.mem_toArray,List.mem_append] at hz
          rcases hz with (hz | hz) | hz
          · exact q4 z (by simpa using List.mem_of_mem_take hz)
          · exact c2 z (by simpa using hz)
          · exact q4 z (by simpa using List.mem_of_mem_drop hz)
        · rw [splice_length hp] at hj
          rw [getD_arr,splice_getD hp,splice_getD (by rw [← hvl',hcl]; exact hp)]
          by_cases hin : o ≤ j ∧ j < o + vs.length
          · rw [if_pos hin,if_pos (by omega)]; exact (c1.2 (j - o) (by omega)).mono e'
          · rw [if_neg hin,if_neg (by omega)]
            have:=(q5 j hj).mono e'
            have hjc : j < cur.size:=by omega
            simpa [Array.getD,List.getD,hjc] using this
      exact ⟨_,G,run _ _ cur el q1 (by omega),hh.1,hh.2,kept_setRow.below (fun b hb=>by rw [hb]; exact (h.bnd i hil hlive).1) h.low⟩
  | eptr i k j hi =>
    simp only [storeA] at hs
    have hil : i < A.length:=by rw [← h.n]; exact hi
    have hb:=h.box i hil
    split at hs <;> try cases hs
    · rename_i sz rows s hb0
      have hlive : (A.getD i .dead).live = true:=by rw [hb0]; rfl
      rw [hb0] at hb
      exact store_gen ht hc hl (rowKind sz s) hlive hil ((rowKind sz s).ok _ _ _ _ |>.1 hb) hp h hy
    · rename_i te sz rows hb0
      have hlive : (A.getD i .dead).live = true:=by rw [hb0]; rfl
      rw [hb0] at hb
      exact store_gen ht hc hl (grKind te sz) hlive hil hb ⟨Nat.zero_le _,hp⟩ h hy
  | _=>simp [storeA] at hs
theorem RowOk.elem {G : Ghost} {w : World} {i sz s : Nat} {rows : List (List AV)} (h : RowOk isLeaf G w i sz rows s) : RowOk isElem G w i sz rows s:=by
  obtain ⟨c,el,h1,h3,h4,h5,h6,h7,h8,h9,h10,h11⟩:=h
  exact ⟨c,el,h1,h3,h4,h5,h6,h7,h8,fun r hr=>⟨(h9 r hr).1,fun v hv=>leaf_elem ((h9 r hr).2 v hv)⟩,h10,h11⟩
theorem storeN_ok {P : Program} {G : Ghost} {A A' : List Box} {w : World} {base : Nat} {t : TypeId} {ti : TI} {p v : AV} {x y : Value} {vs : List AV} {c : Prop}
    (ht : tinf P t = some ti) (hc : cellsA v = some vs) (hl : vs.length = ti.size) (hs : storeN A p vs = some (c,A')) (hp : c) (h : HRel G A w base) (hx : RV G w p x) (hy : RV G w v y) :
    ∃ w' G',(Instr.storeAt t x y).run P w = .ok () w' ∧ HRel G' A' w' base ∧ Ext G w G' w' ∧ Below base w w':=by
  cases hx with
  | eptr i k j hi =>
    simp only [storeN] at hs
    have hil : i < A.length:=by rw [← h.n]; exact hi
    have hb:=h.box i hil
    split at hs <;> try cases hs
    · rename_i sz rows hb0
      have hlive : (A.getD i .dead).live = true:=by rw [hb0]; rfl
      rw [hb0] at hb
      exact store_gen ht hc hl (grKind none sz) hlive hil ⟨RowOk.elem hb,fun t ht=>by cases ht⟩ ⟨Nat.zero_le _,hp⟩ h hy
    · rename_i te sz rows hb0
      have hlive : (A.getD i .dead).live = true:=by rw [hb0]; rfl
      rw [hb0] at hb
      exact store_gen ht hc hl (grKind te sz) hlive hil hb ⟨Nat.zero_le _,hp⟩ h hy
  | _=>simp [storeN] at hs
theorem append_nil_gen {P : Program} {E : AV → Bool} {tt : Option TypeId} {mk : List (List AV) → Box} {G : Ghost} {A : List Box} {w : World} {base : Nat} {t tx ty e : TypeId} {ti te : TI} {sz : Nat} {xs : List (List AV)} {y z : Value}
    (hK : RowKind E tt sz 0 mk) (htt : ∀ t,tt = some t → t = e) (ht : tinf P t = some ti) (hk : ti.kind = .slice e) (hte : tinf P e = some te) (hsz : te.size = sz) {zc : List AV} (hz : te.zero = some zc) (hzl : zc.length = sz) (hby : 0 < te.bytes ∧ te.bytes ≤ 65536)
    (hsrc0 : ∃ news,Src P sz tx y xs.length news w ∧ RL G w xs.flatten news ∧ (∀ r ∈ xs,∀ v ∈ r,E v = true)) (hxl : ∀ r ∈ xs,r.length = sz) (hlen : 0 < xs.length ∧ xs.length ≤ 1073741824)
    (h : HRel G A w base) (hz' : RV G w .nils z) :
    YV G w base (.own A.length) (A ++ [mk xs]) ((Builtin.append_ #[t,tx] ty #[z,y]).run P w):=by
  obtain ⟨it,d,h1,h2,h3,h4,h5,h6⟩:=tinf_spec ht
  obtain ⟨ie,de,g1,g2,g3,g4,g5,g6⟩:=tinf_spec hte
  rw [h6] at hk
  obtain rfl:=tk_slice hk
  obtain ⟨news,hsrc,hnews,hleaf⟩:=hsrc0
  have hsz' : sz = ie.size:=by omega
  have hnl : news.length = xs.length * sz:=by rw [← hnews.1,flat_length hxl]
  have hnew : ∀ k j,k < xs.length → j < sz → RV G w (rowAt xs k j) (news.getD (k * sz + j) undef):=fun k j hk' hj=>by
    have:=hnews.2 (k * sz + j) (by rw [flat_length hxl]; exact row_in hk' hj (Nat.le_refl _))
    rwa [flat_getD hxl k j hk' hj] at this
  cases hz'
  rw [g5] at hz
  obtain ⟨zz,hzz,hzrl,hzc⟩:=zeroA_ok (G:=G) (w:=w) hz
  have hzs : zz.cells.size = sz:=by have:=hzrl.1; simp at this; omega
  have hneed : (0 + xs.length) * ie.bytes ≤ 1073741824 * 65536:=Nat.mul_le_mul (by omega) (by omega)
  rw [hsz'] at hsrc
  have hrun:=run_append_grow_src w t tx ty e ie zz h2 g1 hzz none 0 0 [] (by simp [Builtin.firstCells]) y xs.length news hsrc (by omega) (by omega) (growslice_fits (by omega) (by omega))
  rw [← hsz'] at hsrc
  generalize hcp : grownCap w (0 + xs.length) 0 e = cap at hrun
  have hcap : xs.length ≤ cap:=by
    rw [← hcp]; simp [grownCap,Question.cut]
  simp only [List.nil_append,Nat.zero_add] at hrun
  generalize hC : news.toArray ++ Builtin.zeroCells zz.cells (cap - xs.length) = C at hrun
  obtain ⟨hd,he⟩:=h.heap (w':=w.drew) rfl
  have hCget : ∀ m,m < news.length → C.getD m undef = news.getD m undef:=fun m hm=>by
    rw [← hC,Array.getD_eq_getD_getElem?,Array.getElem?_append_left (by simpa using hm)]
    simp [List.getD]
  have hp:=push_gen (G:=G) (A:=A) (w:=w.drew) (base:=base) (rows:=xs) (sz:=sz) (s:=0) (cap:=cap) (c:=C) (e:=e) hK htt hd trivial (fun r hr=>⟨hxl r hr,hleaf r hr⟩) hcap ?_ (by omega) fun k j hk' hj=>?_
  · obtain ⟨G',p1,p2,p3,p4⟩:=hp
    exact ⟨_,_,G',hrun,p3,p1,he.trans p2,(Below.refl _ _).drew.trans p4⟩
  · rw [← hC]
    simp only [Array.size_append,size_zeroCells,hzs,List.size_toArray,hnl]
    rw [← Nat.add_mul,Nat.add_sub_cancel' hcap]
    exact Nat.le_refl _
  · rw [hCget _ (by rw [hnl]; exact row_in hk' hj (Nat.le_refl _))]
    exact (hnew k j hk' hj).mono he
theorem append_nil_ok {P : Program} {G : Ghost} {A : List Box} {w : World} {base : Nat} {t tx ty e : TypeId} {ti te tix : TI} {sz : Nat} {xs : List (List AV)} {x : AV} {y z : Value}
    (ht : tinf P t = some ti) (hk : ti.kind = .slice e) (hte : tinf P e = some te) (hsz : te.size = sz) {zc : List AV} (hz : te.zero = some zc) (hzl : zc.length = sz) (hby : 0 < te.bytes ∧ te.bytes ≤ 65536) (htx : tinf P tx = some tix)
    (hkx : (∃ e,tix.kind = .slice e) ∨ (tix.kind = .str ∧ sz = 1)) (hs : (∃ e,tix.kind = .slice e) → ∀ s,x ≠ .str s) (hs' : tix.kind = .str → ∃ s,x = .str s)
    (hxs : rowsOf A x = some xs) (hxl : ∀ r ∈ xs,r.length = sz) (hlen : 0 < xs.length ∧ xs.length ≤ 1073741824)
    (h : HRel G A w base) (hx : RV G w x y) (hz' : RV G w .nils z) :
    YV G w base (.own A.length) (A ++ [.row sz xs 0]) ((Builtin.append_ #[t,tx] ty #[z,y]).run P w) :=
  append_nil_gen (rowKind sz 0) (fun t ht=>by cases ht) ht hk hte hsz hz hzl hby (src_ok htx hkx h hx hxs hxl hs hs') hxl hlen h hz'
theorem append_none_ok {P : Program} {G : Ghost} {A : List Box} {w : World} {base : Nat} {t tx ty e : TypeId} {ti te : TI} {xs : List (List AV)} {news : List Value} {y z : Value}
    (ht : tinf P t = some ti) (hk : ti.kind = .slice e) (hte : tinf P e = some te) (hx0 : xs.length = 0) (hsrc : Src P te.size tx y xs.length news w)
    (h : HRel G A w base) (hz' : RV G w .nils z) : YV G w base .nils A ((Builtin.append_ #[t,tx] ty #[z,y]).run P w):=by
  obtain ⟨it,d,h1,h2,h3,h4,h5,h6⟩:=tinf_spec ht
  obtain ⟨ie,de,g1,g2,g3,g4,g5,g6⟩:=tinf_spec hte
  rw [h6] at hk
  obtain rfl:=tk_slice hk
  cases hz'
  refine .same h .nils ?_
  have hl:=hsrc.len w
  have hc:=hsrc.cells
  rw [hx0] at hl hc
  rw [g3] at hc
  rcases hsrc.kind with ⟨e',hk⟩ | hk <;>
    simp [Builtin.append_,run_underlying h2,run_underlying hk,Result.andThen,sizeOf_run g1,hl,hc]
def unA (op : UnOp) : AV → Option AV
  | .bool b=>match op with
    | .not=>some (.bool (!b))
    | _=>none
  | .int k n=>match op with
    | .neg=>some (.int k (k.wrap (0 - n)))
    | _=>none
  | _=>none
theorem un_ok {P : Program} {G : Ghost} {A : List Box} {w : World} {base : Nat} {op : UnOp} {x v : AV} {y : Value} (hv : unA op x = some v) (h : HRel G A w base) (hx : RV G w x y) :
    YV G w base v A ((Op.unary op y).run P w):=by
  cases hx <;> simp only [unA] at hv <;> try (cases hv; done)
  · cases op <;> simp at hv; subst hv
    exact .same h (.int _ _) (by simp [Op.unary,Op.intArith])
  · cases op <;> simp at hv; subst hv
    exact .same h (.bool _) (by simp [Op.unary])
def byteOf : List AV → UInt8
  | [.int _ n]=>UInt8.ofNat n.toNat
  | _=>0
def isByte : List AV → Bool
  | [.int .u8 _]=>true
  | _=>false
def convA (P : Program) (A : List Box) (ks kd : TK) (x : AV) : Option (Prop × AV) :=
  match kd,x with
  | .int k,.int _ n=>some (True,.int k (k.wrap n))
  | .str,.str s=>some (True,.str s)
  | .str,x=>match ks with
    | .slice e=>match tinf P e with
      | some te=>match te.kind with
        | .int .u8=>match x with
          | .str _=>none
          | x=>(rowsOf A x).map fun rows=>(∀ r ∈ rows,isByte r = true,.str (rows.map byteOf))
        | _=>none
      | none=>none
    | _=>none
  | _,_=>none
theorem extract_ok {P : Program} {G : Ghost} {A : List Box} {w : World} {base k : Nat} {cs : List AV} {y : Value} (hk : k < cs.length) (h : HRel G A w base) (hx : RV G w (.tuple cs) y) :
    YV G w base (cs.getD k .bot) A ((Instr.extract y k).run P w):=by
  cases hx with
  | tuple _ xs hs hh =>
    have : k < xs.size:=by omega
    refine .same h (hh k hk) (by simp [Instr.extract,this,Array.getD])
def lenA (A : List Box) : AV → Option Nat
  | .str s=>some s.length
  | .slice rows=>some rows.length
  | .aslice rows=>some rows.length
  | .islice _ _ rows=>some rows.length
  | .nils=>some 0
  | .own i=>match A.getD i .dead with
    | .row _ rows _=>some rows.length
    | .gr _ _ rows=>some rows.length
    | _=>none
  | _=>none
theorem len_ok {P : Program} {G : Ghost} {A : List Box} {w : World} {base n : Nat} {t ty : TypeId} {ti : TI} {x : AV} {y : Value} (ht : tinf P t = some ti) (hk : (ti.kind = .str ∧ ∃ s,x = .str s) ∨ ((∃ e,ti.kind = .slice e) ∧ ∀ s,x ≠ .str s)) (hn : lenA A x = some n)
    (h : HRel G A w base) (hx : RV G w x y) : YV G w base (.int .i64 n) A ((Builtin.len_ #[t] ty #[y]).run P w):=by
  obtain ⟨i,d,h1,h2,h3,h4,h5,h6⟩:=tinf_spec ht
  rcases hk with ⟨hk,s,rfl⟩ | ⟨⟨e,hk⟩,hns⟩
  · rw [h6] at hk
    obtain rfl:=tk_str hk
    cases hx
    simp only [lenA] at hn; cases hn
    refine .same h (.int _ _) ?_
    have : (⟨s.toArray⟩ : ByteArray).size = s.length:=by simp [ByteArray.size]
    simp [Builtin.len_,run_underlying h2,Result.andThen,goInt,this]
  · rw [h6] at hk
    obtain rfl:=tk_slice hk
    have fin : ∀ a len cap,y = .slice a len cap → len = n → YV G w base (.int .i64 n) A ((Builtin.len_ #[t] ty #[y]).run P w):=by
      rintro a len cap rfl rfl
      exact .same h (.int _ _) (by simp [Builtin.len_,run_underlying h2,Result.andThen,goInt])
    cases hx <;> simp only [lenA] at hn <;> try (cases hn; done)
    case str=>exact absurd rfl (hns _)
    case slice0=>cases hn; exact fin _ _ _ rfl rfl
    case sliceE=>cases hn; exact fin _ _ _ rfl rfl
    case slice=>cases hn; exact fin _ _ _ rfl rfl
    case aslice0=>cases hn; exact fin _ _ _ rfl rfl
    case asliceE=>cases hn; exact fin _ _ _ rfl rfl
    case aslice=>cases hn; exact fin _ _ _ rfl rfl
    case islice=>cases hn; exact fin _ _ _ rfl rfl
    case nils=>cases hn; exact fin _ _ _ rfl rfl
    case own i hi =>
      have hb:=h.box i (by rw [← h.n]; exact hi)
      split at hn <;> try cases hn
      · rename_i sz rows s hb0
        rw [hb0] at hb
        obtain ⟨cur,el,q1,q3,q4,q5,q6,q7,q8,q9,q10,q11⟩:=hb
        exact fin _ _ _ rfl q4
      · rename_i te sz rows hb0
        rw [hb0] at hb
        obtain ⟨⟨cur,el,q1,q3,q4,q5,q6,q7,q8,q9,q10,q11⟩,_⟩:=hb
        exact fin _ _ _ rfl q4
end Go.Abs
/- Conversions, literals, make. -/
namespace Go.Abs
open Go.RowKit
theorem rows_cells {G : Ghost} {A : List Box} {w : World} {base : Nat} {x : AV} {y : Value} {xs : List (List AV)} (h : HRel G A w base) (hx : RV G w x y) (hxs : rowsOf A x = some xs) (hns : ∀ s,x ≠ .str s) :
    (xs = [] ∧ ∃ a cap,y = .slice a 0 cap) ∨ ∃ (b off cap sz : Nat) (X : Nat → Nat → Value),y = .slice (some ⟨b,off,none⟩) xs.length cap ∧ (∀ r ∈ xs,r.length = sz ∧ ∀ v ∈ r,isLeaf v = true) ∧
      ∀ i j,i < xs.length → j < sz → w.cell? ⟨b,off + (i * sz + j),none⟩ = some (X i j) ∧ RV G w (rowAt xs i j) (X i j):=by
  cases hx with
  | slice0=>simp only [rowsOf] at hxs; cases hxs; exact .inl ⟨rfl,none,0,rfl⟩
  | sliceE a cap=>simp only [rowsOf] at hxs; cases hxs; exact .inl ⟨rfl,some a,cap,rfl⟩
  | nils=>simp only [rowsOf] at hxs; cases hxs; exact .inl ⟨rfl,none,0,rfl⟩
  | str s=>exact absurd rfl (hns s)
  | slice rows b off cap sz X hr hcap hx hI hzz hh =>
    simp only [rowsOf] at hxs; cases hxs
    exact .inr ⟨b,off,cap,sz,X,rfl,hr,fun i j hi hj=>⟨hx i j hi hj,hh i j hi hj⟩⟩
  | own i hi =>
    simp only [rowsOf] at hxs
    have hb:=h.box i (by rw [← h.n]; exact hi)
    split at hxs <;> try cases hxs
    rename_i sz' s hb0
    rw [hb0] at hb
    obtain ⟨c,el,q1,q3,q4,q5,q6,q7,q8,q9,q10,q11⟩:=hb
    exact .inr ⟨_,_,_,sz',fun k j=>c.getD (G.off i + (k * sz' + j)) undef,by rw [q4],q9,fun k j hk hj=>⟨cell?_of q1 (by have:=row_in hk hj q5; omega),q10 k j hk hj⟩⟩
  | _=>simp [rowsOf] at hxs
theorem isByte_spec {r : List AV} (h : isByte r = true) : ∃ n,r = [.int .u8 n]:=by
  unfold isByte at h
  split at h
  · exact ⟨_,rfl⟩
  · cases h
theorem conv_ok {P : Program} {G : Ghost} {A : List Box} {w : World} {base : Nat} {src dst : TypeId} {si di : TI} {x v : AV} {y : Value} {c : Prop}
    (hs : tinf P src = some si) (hd : tinf P dst = some di) (hv : convA P A si.kind di.kind x = some (c,v)) (hp : c) (h : HRel G A w base) (hx : RV G w x y) :
    YV G w base v A ((convert src dst y).run P w):=by
  obtain ⟨i,d,h1,h2,h3,h4,h5,h6⟩:=tinf_spec hs
  obtain ⟨i',d',k1,k2,k3,k4,k5,k6⟩:=tinf_spec hd
  unfold convA at hv
  split at hv
  · rename_i kd k k' n hkd
    rw [k6] at hkd
    obtain rfl:=tk_int hkd
    cases hx
    injection hv with hv; injection hv with hv1 hv2; subst hv1 hv2
    refine .same h (.int _ _) ?_
    cases d <;> simp [convert,run_underlying h2,run_underlying k2,Result.andThen,Conv.intToInt]
  · rename_i kd s hkd
    rw [k6] at hkd
    obtain rfl:=tk_str hkd
    cases hx
    injection hv with hv; injection hv with hv1 hv2; subst hv1 hv2
    refine .same h (.str _) ?_
    cases d <;> simp [convert,run_underlying h2,run_underlying k2,Result.andThen]
  · rename_i x kd0 x0 hkd hns
    rw [k6] at hkd
    obtain rfl:=tk_str hkd
    split at hv <;> try cases hv
    rename_i e hks
    split at hv <;> try cases hv
    rename_i te hte
    split at hv <;> try cases hv
    rename_i hk8
    obtain ⟨ie,de,g1,g2,g3,g4,g5,g6⟩:=tinf_spec hte
    rw [g6] at hk8
    obtain rfl:=tk_int hk8
    rw [h6] at hks
    obtain rfl:=tk_slice hks
    split at hv
    · cases hv
    rename_i hns'
    cases hq : rowsOf A x with
    | none=>rw [hq] at hv; cases hv
    | some rows =>
      rw [hq] at hv; cases hv
      rcases rows_cells h hx hq (fun s=>hns s) with ⟨rfl,a0,cap,rfl⟩ | ⟨b,off,cap,sz,X,rfl,hr,hX⟩
      · refine .same h (.str []) ?_
        rw [run_convert_bytes_string w src dst e a0 0 cap h2 g2 k2]
        cases a0 <;> simp [Conv.bytesToString,loadCells,loadCellsFrom,Result.andThen] <;> rfl
      · have hrow : ∀ i,i < rows.length → ∃ n,rows.getD i [] = [.int .u8 n]:=fun i hi=>isByte_spec (hp _ (getD_mem hi))
        have hsz : ∀ i,i < rows.length → sz = 1:=fun i hi=>by
          obtain ⟨n,hn⟩:=hrow i hi
          rw [← (hr _ (getD_mem (d:=[]) hi)).1,hn]; rfl
        let num : List AV → Int:=fun | [.int _ n]=>n | _=>0
        have hcell : ∀ i,i < rows.length → w.cell? ⟨b,off + i,none⟩ = some (.int .u8 (num (rows.getD i []))):=fun i hi=>by
          obtain ⟨n,hn⟩:=hrow i hi
          have h1:=hsz i hi
          subst h1
          obtain ⟨a1,a2⟩:=hX i 0 hi (by omega)
          simp only [rowAt,hn] at a2
          rw [Nat.mul_one,Nat.add_zero] at a1
          rw [a1,hn]
          generalize X i 0 = q at a2
          simp at a2
          cases a2; rfl
        have hl : (loadCells ⟨b,off,none⟩ rows.length).run P w = .ok ((rows.map num).map (Value.int .u8)).toArray w:=by
          rw [run_loadCells (P:=P) w ⟨b,off,none⟩ rows.length (fun j=>.int .u8 (num (rows.getD j []))) (fun j hj=>by rw [Addr.add_lit]; exact hcell j hj)]
          congr 2
          apply List.ext_getElem?
          intro i
          by_cases hi : i < rows.length
          · simp [hi,List.getD]
          · simp [hi]
        refine .same h (.str _) ?_
        rw [run_convert_bytes_string w src dst e (some ⟨b,off,none⟩) rows.length cap h2 g2 k2,run_bytesToString w ⟨b,off,none⟩ rows.length cap _ hl]
        have key : ∀ (l : List (List AV)) (s : ByteArray),(∀ r ∈ l,isByte r = true) → (l.map num).foldl (fun r n=>r.push (UInt8.ofNat n.toNat)) s = ⟨s.data ++ (l.map byteOf).toArray⟩:=by
          intro l
          induction l with
          | nil=>intro s _; simp
          | cons r l ih =>
            intro s hl
            obtain ⟨n,rfl⟩:=isByte_spec (hl r (by simp))
            simp only [List.map_cons,List.foldl_cons]
            rw [ih _ fun r hr=>hl r (by simp [hr])]
            simp [num,byteOf,ByteArray.push]
        rw [key rows _ hp]
        have he0 : ByteArray.empty.data = #[]:=rfl
        rw [he0]
        simp
  · cases hv
theorem foldl_splice (off : Nat) : ∀ (l : List Value) (k : Nat) (cs : Array Value),off + k + l.length ≤ cs.size →
    ((l.zipIdx k).foldl (fun cs (x : Value × Nat)=>cs.setIfInBounds (off + x.2) x.1) cs).toList = cs.toList.take (off + k) ++ l ++ cs.toList.drop (off + k + l.length)
  | [],k,cs,h=>by simp
  | v :: l,k,cs,h=>by
    simp only [List.length_cons] at h
    simp only [List.zipIdx_cons,List.foldl_cons]
    rw [foldl_splice off l (k + 1) _ (by simp; omega)]
    simp only [Array.toList_setIfInBounds]
    have h1 : (cs.toList.set (off + k) v).take (off + (k + 1)) = cs.toList.take (off + k) ++ [v]:=by
      rw [← Nat.add_assoc,List.take_add_one]
      rw [List.take_set_of_le (Nat.le_refl _)]
      simp [show off + k < cs.size by omega]
    have h2 : (cs.toList.set (off + k) v).drop (off + (k + 1) + l.length) = cs.toList.drop (off + k + (l.length + 1)):=by
      rw [List.drop_set_of_lt (by omega)]
      congr 1; omega
    rw [h1,h2]
    simp
theorem fill_one {v : Value} {cells : Array Value} {off : Nat} (h : off + v.cells.size ≤ cells.size) :
    (v.cells.zipIdx.foldl (fun cs (c,j)=>cs.setIfInBounds (off + j) c) cells).toList = cells.toList.take off ++ v.cells.toList ++ cells.toList.drop (off + v.cells.toList.length):=by
  have:=foldl_splice off v.cells.toList 0 cells (by simpa using h)
  simp only [Nat.add_zero] at this
  rw [← this,← Array.foldl_toList]
  simp
def fillA (place : Nat → Option (Nat × Nat)) : List AV → List (Nat × AV) → Option (Prop × List AV)
  | cs,[]=>some (True,cs)
  | cs,(i,v) :: rest =>
    match place i,cellsA v with
    | some (off,sz),some vs=>match fillA place (cs.take off ++ vs ++ cs.drop (off + vs.length)) rest with
      | some (c,r)=>some (vs.length = sz ∧ off + sz ≤ cs.length ∧ c,r)
      | none=>none
    | _,_=>none
theorem RL.splice {G : Ghost} {w : World} {cs vs : List AV} {xs ys : List Value} {off : Nat} (h : RL G w cs xs) (hv : RL G w vs ys) (ho : off + vs.length ≤ cs.length) :
    RL G w (cs.take off ++ vs ++ cs.drop (off + vs.length)) (xs.take off ++ ys ++ xs.drop (off + ys.length)):=by
  have e1:=h.1
  have e2:=hv.1
  refine ⟨by rw [splice_length ho,splice_length (by omega)]; exact e1,fun i hi=>?_⟩
  rw [splice_length ho] at hi
  rw [splice_getD ho,splice_getD (by omega)]
  by_cases hin : off ≤ i ∧ i < off + vs.length
  · rw [if_pos hin,if_pos (by omega)]; exact hv.2 _ (by omega)
  · rw [if_neg hin,if_neg (by omega)]; exact h.2 i hi
def RP (G : Ghost) (w : World) (ps : List (Nat × AV)) (qs : List (Nat × Value)) : Prop:=ps.map (·.1) = qs.map (·.1) ∧ RL G w (ps.map (·.2)) (qs.map (·.2))
theorem fillA_ok {G : Ghost} {w : World} {place place' : Nat → Option (Nat × Nat)} : ∀ {ps : List (Nat × AV)} {qs : List (Nat × Value)} {cs r : List AV} {cells : Array Value} {c : Prop},RP G w ps qs → (∀ i q,place i = some q → place' i = some q) →
    fillA place cs ps = some (c,r) → c → RL G w cs cells.toList → (∀ x ∈ cells,x.oneCell' = true) → ∃ out,Instr.fill place' cells qs = some out ∧ RL G w r out.toList ∧ (∀ x ∈ out,x.oneCell' = true)
  | [],[],cs,r,cells,c,_,_,hf,_,hcs,h1=>by
    simp only [fillA] at hf; cases hf
    exact ⟨cells,rfl,hcs,h1⟩
  | [],_ :: _,cs,r,cells,c,hp,_,hf,_,hcs,h1=>by have:=hp.1; simp at this
  | _ :: _,[],cs,r,cells,c,hp,_,hf,_,hcs,h1=>by have:=hp.1; simp at this
  | (i,v) :: ps,(i',x) :: qs,cs,r,cells,c,hp,hpl,hf,hc,hcs,h1=>by
    have e:=hp.1
    simp only [List.map_cons,List.cons.injEq] at e
    obtain ⟨rfl,e⟩:=e
    simp only [fillA] at hf
    split at hf <;> try cases hf
    rename_i off sz vs hpi hcv
    split at hf <;> try cases hf
    rename_i c' r' hrest
    obtain ⟨a1,a2,a3⟩:=hc
    have hr:=hp.2
    simp only [List.map_cons] at hr
    obtain ⟨b1,b2⟩:=cellsA_ok hr.head hcv
    have hl:=b1.1
    have hcl:=hcs.1
    simp at hl hcl
    have hone:=fill_one (v:=x) (cells:=cells) (off:=off) (by omega)
    obtain ⟨out,o1,o2,o3⟩:=fillA_ok (place:=place) (place':=place') (qs:=qs) (cells:=x.cells.zipIdx.foldl (fun cs (c,j)=>cs.setIfInBounds (off + j) c) cells) ⟨e,hr.tail⟩ hpl hrest a3 (by rw [hone]; exact hcs.splice b1 (by omega)) (fun y hy=>by
      have hy' : y ∈ (x.cells.zipIdx.foldl (fun cs (c,j)=>cs.setIfInBounds (off + j) c) cells).toList:=by simpa using hy
      rw [hone] at hy'
      simp only [List.mem_append] at hy'
      rcases hy' with (hy' | hy') | hy'
      · exact h1 y (by simpa using List.mem_of_mem_take hy')
      · exact b2 y (by simpa using hy')
      · exact h1 y (by simpa using List.mem_of_mem_drop hy'))
    refine ⟨out,?_,o2,o3⟩
    simp only [Instr.fill,hpl _ _ hpi]
    rw [if_neg (by simp; omega)]
    exact o1
theorem places_ok {P : Program} : ∀ (fs : List Field),(∀ f ∈ fs,P.cellsOf f.type ≠ 0) → fs.mapM (fun f=>(P.info? f.type).map fun i=>(f.offset,i.size)) = some (fs.map fun f=>(f.offset,P.cellsOf f.type))
  | [],_=>by simp
  | f :: fs,h=>by
    have h0:=h f (by simp)
    have ih:=places_ok fs fun f hf=>h f (by simp [hf])
    simp only [Program.cellsOf] at h0
    cases hi : P.info? f.type with
    | none=>simp [hi] at h0
    | some i =>
      simp only [List.mapM_cons,hi,ih]
      simp [Program.cellsOf,hi]
theorem build_ok {P : Program} {G : Ghost} {A : List Box} {w : World} {base : Nat} {t : TypeId} {ti : TI} {fs : List (Nat × TypeId × Nat)} {zc r : List AV} {ps : List (Nat × AV)} {qs : Array (Nat × Value)} {c : Prop}
    (ht : tinf P t = some ti) (hk : ti.kind = .struct fs) (hz : ti.zero = some zc) (hnz : fs.all (fun f=>f.2.2 != 0) = true) (hf : fillA (fun i=>(fs[i]?).map fun f=>(f.1,f.2.2)) zc ps = some (c,r)) (hp : c)
    (h : HRel G A w base) (hx : RP G w ps qs.toList) : YV G w base (.agg r) A ((Instr.build t qs).run P w):=by
  obtain ⟨i,d,h1,h2,h3,h4,h5,h6⟩:=tinf_spec ht
  rw [h6] at hk
  obtain ⟨fa,rfl,rfl⟩:=tk_struct hk
  rw [h5] at hz
  obtain ⟨z,hz',c1,c2⟩:=zeroA_ok (G:=G) (w:=w) hz
  have hpl:=places_ok (P:=P) fa.toList (fun f hf=>by
    rw [List.all_eq_true] at hnz
    simpa using hnz (f.offset,f.type,P.cellsOf f.type) (List.mem_map.2 ⟨f,hf,rfl⟩))
  obtain ⟨out,o1,o2,o3⟩:=fillA_ok (place':=fun i=>((fa.toList.map fun f=>(f.offset,P.cellsOf f.type)).toArray)[i]?) (cells:=z.cells) hx (fun i q hq=>by
    simp only [List.getElem?_map,Option.map_map,Option.map_eq_some_iff] at hq
    obtain ⟨f,hf,rfl⟩:=hq
    simp only [Array.getElem?_toList] at hf
    simp [hf]) hf hp c1 c2
  have hb : P.built t qs.toList = some out:=by
    unfold Program.built
    simp only [h1,h2,hz',hpl]
    exact o1
  refine .same h (.agg r out (by have:=o2.1; simp at this; omega) o3 fun i hi=>?_) (run_build w t qs out hb)
  have:=o2.toArr i hi
  simpa using this
end Go.Abs
/- Slices that are written out, and make. -/
namespace Go.Abs
open Go.RowKit
def lfz : AV → AV
  | .nils=>.slice []
  | v=>v
theorem lfz_ok {G : Ghost} {w : World} {v : AV} {x : Value} (h : RV G w v x) : RV G w (lfz v) x:=by
  cases h with
  | nils=>exact .slice0
  | _=>simp only [lfz]; constructor <;> assumption
theorem RL.lfz {G : Ghost} {w : World} {vs : List AV} {xs : List Value} (h : RL G w vs xs) : RL G w (vs.map Abs.lfz) xs :=
  ⟨by simp [h.1],fun i hi=>by
    simp only [List.length_map] at hi
    have:=lfz_ok (h.2 i hi)
    simpa [List.getD,hi] using this⟩
theorem flatten_set {rows : List (List AV)} {sz i : Nat} {r : List AV} (hr : ∀ r ∈ rows,r.length = sz) (hi : i < rows.length) (h : r.length = sz) :
    (rows.set i r).flatten = rows.flatten.take (i * sz) ++ r ++ rows.flatten.drop (i * sz + r.length):=by
  induction rows generalizing i with
  | nil=>simp at hi
  | cons r0 rows ih =>
    have h0:=hr r0 (by simp)
    cases i with
    | zero =>
      simp only [List.set_cons_zero,List.flatten_cons,Nat.zero_mul,List.take_zero,List.nil_append,Nat.zero_add]
      rw [show r.length = r0.length by omega,List.drop_left]
    | succ i =>
      have:=ih (fun r hr'=>hr r (by simp [hr'])) (by simpa using hi)
      simp only [List.set_cons_succ,List.flatten_cons,this]
      have e1 : (i + 1) * sz = r0.length + i * sz:=by rw [h0,Nat.succ_mul]; omega
      rw [e1,List.take_length_add_append,show r0.length + i * sz + r.length = r0.length + (i * sz + r.length) by omega,List.drop_length_add_append]
      simp
def litRows (sz : Nat) : List (List AV) → List (Nat × AV) → Option (Prop × List (List AV))
  | rows,[]=>some (True,rows)
  | rows,(i,v) :: rest =>
    match cellsA v with
    | some vs=>match litRows sz (rows.set i vs) rest with
      | some (c,r)=>some (vs.length = sz ∧ i < rows.length ∧ (∀ v ∈ vs,isLeaf v = true) ∧ c,r)
      | none=>none
    | none=>none
theorem litRows_ok {G : Ghost} {w : World} {sz : Nat} : ∀ {ps : List (Nat × AV)} {qs : List (Nat × Value)} {rows r : List (List AV)} {cells : Array Value} {c : Prop},RP G w ps qs →
    litRows sz rows ps = some (c,r) → c → (∀ r ∈ rows,r.length = sz ∧ ∀ v ∈ r,isLeaf v = true) → RL G w rows.flatten cells.toList → (∀ x ∈ cells,x.oneCell' = true) →
    ∃ out,Instr.fill (fun i=>some (i * sz,sz)) cells qs = some out ∧ RL G w r.flatten out.toList ∧ (∀ x ∈ out,x.oneCell' = true) ∧ (∀ r' ∈ r,r'.length = sz ∧ ∀ v ∈ r',isLeaf v = true) ∧ r.length = rows.length
  | [],[],rows,r,cells,c,_,hf,_,hr,hcs,h1=>by
    simp only [litRows] at hf; cases hf
    exact ⟨cells,rfl,hcs,h1,hr,rfl⟩
  | [],_ :: _,rows,r,cells,c,hp,hf,_,hr,hcs,h1=>by have:=hp.1; simp at this
  | _ :: _,[],rows,r,cells,c,hp,hf,_,hr,hcs,h1=>by have:=hp.1; simp at this
  | (i,v) :: ps,(i',x) :: qs,rows,r,cells,c,hp,hf,hc,hr,hcs,h1=>by
    have e:=hp.1
    simp only [List.map_cons,List.cons.injEq] at e
    obtain ⟨rfl,e⟩:=e
    simp only [litRows] at hf
    split at hf <;> try cases hf
    rename_i vs hcv
    split at hf <;> try cases hf
    rename_i c' r' hrest
    obtain ⟨a1,a2,a3,a4⟩:=hc
    have hr':=hp.2
    simp only [List.map_cons] at hr'
    obtain ⟨b1,b2⟩:=cellsA_ok hr'.head hcv
    have hl:=b1.1
    have hcl:=hcs.1
    have hfl:=flat_length (fun r hr'=>(hr r hr').1)
    simp at hl hcl
    have hks : i * sz + sz ≤ rows.length * sz:=by
      have:=Nat.mul_le_mul_right sz (Nat.succ_le_of_lt a2); rwa [Nat.succ_mul] at this
    have hflen : rows.flatten.length = cells.size:=by rw [hcs.1]; simp
    have hone:=fill_one (v:=x) (cells:=cells) (off:=i * sz) (by omega)
    have hset:=flatten_set (fun r hr'=>(hr r hr').1) a2 a1
    obtain ⟨out,o1,o2,o3,o4,o5⟩:=litRows_ok (sz:=sz) (qs:=qs) (cells:=x.cells.zipIdx.foldl (fun cs (c,j)=>cs.setIfInBounds (i * sz + j) c) cells) ⟨e,hr'.tail⟩ hrest a4 (fun r2 h2=>by
        rcases List.mem_or_eq_of_mem_set h2 with h2 | h2
        · exact hr r2 h2
        · subst h2; exact ⟨a1,a3⟩) (by rw [hone,hset]; exact hcs.splice b1 (by omega)) (fun y hy=>by
      have hy' : y ∈ (x.cells.zipIdx.foldl (fun cs (c,j)=>cs.setIfInBounds (i * sz + j) c) cells).toList:=by simpa using hy
      rw [hone] at hy'
      simp only [List.mem_append] at hy'
      rcases hy' with (hy' | hy') | hy'
      · exact h1 y (by simpa using List.mem_of_mem_take hy')
      · exact b2 y (by simpa using hy')
      · exact h1 y (by simpa using List.mem_of_mem_drop hy'))
    refine ⟨out,?_,o2,o3,o4,by simpa using o5⟩
    simp only [Instr.fill]
    rw [if_neg (by simp; omega)]
    exact o1
theorem zeros_getD {z : Array Value} {sz n m : Nat} (hz : z.size = sz) (hm : m < n * sz) : ((Array.range (n * sz)).map (z[· % z.size]!)).getD m undef = z.getD (m % sz) undef:=by
  have hsz : 0 < sz:=by
    rcases Nat.eq_zero_or_pos sz with h0 | h0
    · simp [h0] at hm
    · exact h0
  have : m % z.size < z.size:=by rw [hz]; exact Nat.mod_lt _ hsz
  rw [Array.getD_eq_getD_getElem?]
  simp only [Array.getElem?_map,Array.getElem?_range,hm,if_true,Option.map_some,Option.getD_some]
  rw [getElem!_pos z (m % z.size) this,← hz]
  simp [Array.getD,this]
theorem zeros_ok {G : Ghost} {w : World} {z : Value} {zr : List AV} {sz n : Nat} (hz : RL G w zr z.cells.toList) (h1 : ∀ y ∈ z.cells,y.oneCell' = true) (hl : zr.length = sz) :
    (∀ k j,k < n → j < sz → RV G w (rowAt (List.replicate n zr) k j) (((Array.range (n * sz)).map (z.cells[· % z.cells.size]!)).getD (k * sz + j) undef)) ∧ ∀ y ∈ (Array.range (n * sz)).map (z.cells[· % z.cells.size]!),y.oneCell' = true:=by
  have hzs : z.cells.size = sz:=by have:=hz.1; simp at this; omega
  refine ⟨fun k j hk hj=>?_,fun y hy=>?_⟩
  · rw [zeros_getD hzs (row_in (rows:=List.replicate n zr) (by simpa using hk) hj (by simp))]
    have : (k * sz + j) % sz = j:=by rw [Nat.mul_comm,Nat.mul_add_mod]; exact Nat.mod_eq_of_lt hj
    rw [this]
    have h2:=hz.2 j (by omega)
    have hjz : j < z.cells.size:=by omega
    simpa [rowAt,List.getD,hk,Array.getD,hjz] using h2
  · simp only [Array.mem_map,Array.mem_range] at hy
    obtain ⟨m,hm,rfl⟩:=hy
    have hsz : 0 < sz:=by
      rcases Nat.eq_zero_or_pos sz with h0 | h0
      · simp [h0] at hm
      · exact h0
    have : m % z.cells.size < z.cells.size:=by rw [hzs]; exact Nat.mod_lt _ hsz
    rw [getElem!_pos z.cells (m % z.cells.size) this]
    exact h1 _ (Array.getElem_mem _)
theorem RL.ofRows {G : Ghost} {w : World} {rows : List (List AV)} {sz : Nat} {c : Array Value} (hr : ∀ r ∈ rows,r.length = sz) (hc : c.size = rows.length * sz)
    (h : ∀ k j,k < rows.length → j < sz → RV G w (rowAt rows k j) (c.getD (k * sz + j) undef)) : RL G w rows.flatten c.toList:=by
  refine ⟨by rw [flat_length hr]; simp [hc],fun m hm=>?_⟩
  rw [flat_length hr] at hm
  have hsz : 0 < sz:=by
    rcases Nat.eq_zero_or_pos sz with h0 | h0
    · simp [h0] at hm
    · exact h0
  have hk : m / sz < rows.length:=Nat.div_lt_of_lt_mul (by rw [Nat.mul_comm]; exact hm)
  have hj : m % sz < sz:=Nat.mod_lt _ hsz
  have e : m / sz * sz + m % sz = m:=Nat.div_add_mod' m sz
  have:=flat_getD hr (m / sz) (m % sz) hk hj
  rw [e] at this
  rw [this]
  have:=h _ _ hk hj
  rw [e] at this
  have hmc : m < c.size:=by omega
  simpa [Array.getD,List.getD,hmc] using this
theorem RL.rows {G : Ghost} {w : World} {rows : List (List AV)} {sz : Nat} {c : Array Value} (hr : ∀ r ∈ rows,r.length = sz) (h : RL G w rows.flatten c.toList) :
    ∀ k j,k < rows.length → j < sz → RV G w (rowAt rows k j) (c.getD (k * sz + j) undef):=fun k j hk hj=>by
  have hm:=row_in hk hj (Nat.le_refl _)
  have hl:=flat_length hr
  have:=h.2 (k * sz + j) (by omega)
  rw [flat_getD hr k j hk hj] at this
  have hmc : k * sz + j < c.size:=by have:=h.1; simp at this; simp at hl; omega
  simpa [Array.getD,List.getD,hmc] using this
theorem buildSlice_ok {P : Program} {G : Ghost} {A : List Box} {w : World} {base : Nat} {t e : TypeId} {ti te : TI} {zc : List AV} {r : List (List AV)} {len : Nat} {ps : List (Nat × AV)} {qs : Array (Nat × Value)} {c : Prop}
    (ht : tinf P t = some ti) (hk : ti.kind = .slice e) (hte : tinf P e = some te) (hz : te.zero = some zc) (hzl : zc.length = te.size) (hzf : (zc.map lfz).all isLeaf = true) (hlen : len * te.size ≤ 16777216)
    (hf : litRows te.size (List.replicate len (zc.map lfz)) ps = some (c,r)) (hp : c)
    (h : HRel G A w base) (hx : RP G w ps qs.toList) : YV G w base (.own A.length) (A ++ [.row te.size r 0]) ((Instr.buildSlice t len qs).run P w):=by
  obtain ⟨i,d,h1,h2,h3,h4,h5,h6⟩:=tinf_spec ht
  obtain ⟨ie,de,g1,g2,g3,g4,g5,g6⟩:=tinf_spec hte
  rw [h6] at hk
  obtain rfl:=tk_slice hk
  rw [g5] at hz
  obtain ⟨z,hz',c1,c2⟩:=zeroA_ok (G:=G) (w:=w) hz
  have hrep : ∀ r ∈ List.replicate len (zc.map lfz),r.length = te.size ∧ ∀ v ∈ r,isLeaf v = true:=fun r hr=>by
    obtain rfl:=(List.mem_replicate.1 hr).2
    exact ⟨by simpa using hzl,fun v hv=>List.all_eq_true.1 hzf v hv⟩
  obtain ⟨z1,z2⟩:=zeros_ok (n:=len) (sz:=te.size) c1.lfz c2 (by simpa using hzl)
  have hcells : RL G w (List.replicate len (zc.map lfz)).flatten ((Array.range (len * te.size)).map (z.cells[· % z.cells.size]!)).toList :=
    RL.ofRows (fun r hr=>(hrep r hr).1) (by simp) (by simpa using z1)
  obtain ⟨out,o1,o2,o3,o4,o5⟩:=litRows_ok hx hf hp hrep hcells z2
  have hol : out.size = len * te.size:=by
    have:=o2.1
    rw [flat_length (fun r hr=>(o4 r hr).1),o5] at this
    simpa using this.symm
  have hrl : r.length = len:=by simpa using o5
  obtain ⟨G',p1,p2,p3,p4⟩:=push_row (s:=0) (cap:=len) (c:=out) (e:=e) h o3 o4 (by omega) (by omega) (by omega) (RL.rows (fun r hr=>(o4 r hr).1) o2)
  refine ⟨_,_,G',?_,p3,p1,p2,p4⟩
  rw [hrl]
  rw [g3] at o1 hlen
  by_cases hn : len * ie.size = 0
  · rw [hn,Array.range_zero',Array.map_empty] at o1
    simp [Instr.buildSlice,run_underlying h2,Result.andThen,sizeOf_run g1,hn,Array.range_zero',o1,newRow,Nat.not_lt.2 hlen]
  · simp [Instr.buildSlice,run_underlying h2,Result.andThen,sizeOf_run g1,zeroValue_run g1 hz',hn,o1,newRow,Nat.not_lt.2 hlen]
theorem makeSlice_ok {P : Program} {G : Ghost} {A : List Box} {w : World} {base : Nat} {t e : TypeId} {ti te : TI} {zc : List AV} {kl kc : IntKind} {l c : Int}
    (ht : tinf P t = some ti) (hk : ti.kind = .slice e) (hte : tinf P e = some te) (hz : te.zero = some zc) (hzl : zc.length = te.size) (hzf : (zc.map lfz).all isLeaf = true) (hb : te.bytes ≤ 65536)
    (h0 : 0 ≤ l) (hlc : l ≤ c) (hc : c ≤ 1073741824)
    (h : HRel G A w base) : YV G w base (.own A.length) (A ++ [.row te.size (List.replicate l.toNat (zc.map lfz)) 0]) ((Instr.makeSlice t (.int kl l) (.int kc c)).run P w):=by
  obtain ⟨i,d,h1,h2,h3,h4,h5,h6⟩:=tinf_spec ht
  obtain ⟨ie,de,g1,g2,g3,g4,g5,g6⟩:=tinf_spec hte
  rw [h6] at hk
  obtain rfl:=tk_slice hk
  rw [g5] at hz
  obtain ⟨z,hz',c1,c2⟩:=zeroA_ok (G:=G) (w:=w) hz
  obtain ⟨z1,z2⟩:=zeros_ok (n:=c.toNat) (sz:=te.size) c1.lfz c2 (by simpa using hzl)
  have hmul : (ie.bytes : Int) * c ≤ 281474976710656:=by
    have : ie.bytes * c.toNat ≤ 65536 * 1073741824:=Nat.mul_le_mul (by omega) (by omega)
    have h2 : ((ie.bytes * c.toNat : Nat) : Int) = (ie.bytes : Int) * c:=by rw [Int.natCast_mul]; congr 1; omega
    omega
  have hrun:=run_make w t e ie z h2 g1 hz' kl kc l c h0 hlc hmul (by omega)
  have hln : l.toNat ≤ c.toNat:=by omega
  obtain ⟨G',p1,p2,p3,p4⟩:=push_row (rows:=List.replicate l.toNat (zc.map lfz)) (sz:=te.size) (s:=0) (cap:=c.toNat) (c:=madeCells z.cells (c.toNat * ie.size)) (e:=e) h (fun y hy=>by rw [← g3] at hy; exact z2 y hy) (fun r hr=>by
      obtain rfl:=(List.mem_replicate.1 hr).2
      exact ⟨by simpa using hzl,fun v hv=>List.all_eq_true.1 hzf v hv⟩) (by simpa using hln) (by rw [size_madeCells,g3]; exact Nat.le_refl _) (by omega) (fun k j hk hj=>by
    simp only [List.length_replicate] at hk
    have:=z1 k j (by omega) hj
    have e1 : rowAt (List.replicate l.toNat (zc.map lfz)) k j = rowAt (List.replicate c.toNat (zc.map lfz)) k j:=by
      simp [rowAt,List.getD,hk,show k < c.toNat by omega]
    rw [e1,← g3]; exact this)
  refine ⟨_,_,G',hrun,?_,p1,p2,p4⟩
  simpa using p3
theorem appendCount_ok {P : Program} {G : Ghost} {A : List Box} {w : World} {base : Nat} {t tx ty e : TypeId} {ti te tix : TI} {zc : List AV} {kl kt : IntKind} {l : Int} {z : Value}
    (ht : tinf P t = some ti) (hk : ti.kind = .slice e) (hte : tinf P e = some te) (htx : tinf P tx = some tix) (hkx : tix.kind = .int kt) (hz : te.zero = some zc) (hzl : zc.length = te.size) (hzf : (zc.map lfz).all isLeaf = true) (hb : te.bytes ≤ 65536) (hs : 0 < te.size)
    (h0 : 0 < l) (hc : l ≤ 1073741824)
    (h : HRel G A w base) (hz' : RV G w .nils z) : YV G w base (.own A.length) (A ++ [.row te.size (List.replicate l.toNat (zc.map lfz)) 0]) ((Builtin.append_ #[t,tx] ty #[z,.int kl l]).run P w):=by
  obtain ⟨i,d,h1,h2,h3,h4,h5,h6⟩:=tinf_spec ht
  obtain ⟨ie,de,g1,g2,g3,g4,g5,g6⟩:=tinf_spec hte
  obtain ⟨ix,dx,x1,x2,x3,x4,x5,x6⟩:=tinf_spec htx
  rw [h6] at hk
  obtain rfl:=tk_slice hk
  rw [x6] at hkx
  obtain rfl:=tk_int hkx
  rw [g5] at hz
  cases hz'
  obtain ⟨hd,he⟩:=h.heap (w':=w.drew) rfl
  obtain ⟨z,hzz,c1,c2⟩:=zeroA_ok (G:=G) (w:=w.drew) hz
  obtain ⟨z1,z2⟩:=zeros_ok (n:=l.toNat) (sz:=te.size) c1.lfz c2 (by simpa using hzl)
  obtain ⟨m,rfl⟩ : ∃ m : Nat,l = m:=⟨l.toNat,by omega⟩
  simp only [Int.toNat_natCast] at z1 z2 ⊢
  have hzs : z.cells.size = te.size:=by have:=c1.1; simp at this; omega
  have hmul : m * ie.bytes ≤ 281474976710656:=by
    have : m * ie.bytes ≤ 1073741824 * 65536:=Nat.mul_le_mul (by omega) (by omega)
    omega
  have hrun:=Lib.run_append_nil_zeros w t tx ty e ie z kl _ h2 x2 g1 hzz m (by omega) (by omega) (by omega) hmul
  generalize hcp : grownCap w m 0 e = cap at hrun
  have hcap : m ≤ cap:=by
    rw [← hcp]; simp [grownCap,Question.cut]
  have hm1 : ∀ q,Builtin.zeroCells z.cells q = (Array.range (q * te.size)).map (z.cells[· % z.cells.size]!):=fun q=>by
    rw [← hzs]; rfl
  generalize hC : Builtin.zeroCells z.cells m ++ Builtin.zeroCells z.cells (cap - m) = C at hrun
  have hone : ∀ q,∀ y ∈ Builtin.zeroCells z.cells q,y.oneCell' = true:=fun q y hy=>by
    rw [hm1] at hy
    exact (zeros_ok (n:=q) (sz:=te.size) c1.lfz c2 (by simpa using hzl)).2 y hy
  obtain ⟨G',p1,p2,p3,p4⟩:=push_row (rows:=List.replicate m (zc.map lfz)) (sz:=te.size) (s:=0) (cap:=cap) (c:=C) (e:=e) hd (fun y hy=>by
      rw [← hC] at hy
      rcases Array.mem_append.1 hy with hy | hy
      · exact hone _ y hy
      · exact hone _ y hy) (fun r hr=>by
      obtain rfl:=(List.mem_replicate.1 hr).2
      exact ⟨by simpa using hzl,fun v hv=>List.all_eq_true.1 hzf v hv⟩) (by simpa using hcap) (by
      rw [← hC]
      simp only [Array.size_append,hm1,Array.size_map,Array.size_range]
      rw [← Nat.add_mul,Nat.add_sub_cancel' hcap]
      exact Nat.le_refl _) (by omega) (fun k j hk hj=>by
    simp only [List.length_replicate] at hk
    have hin : k * te.size + j < m * te.size:=by
      have : (k + 1) * te.size ≤ m * te.size:=Nat.mul_le_mul_right _ (by omega)
      rw [Nat.add_mul,Nat.one_mul] at this
      omega
    have:=z1 k j hk hj
    have e1 : C.getD (k * te.size + j) undef = ((Array.range (m * te.size)).map (z.cells[· % z.cells.size]!)).getD (k * te.size + j) undef:=by
      rw [← hC,hm1 m,Array.getD_eq_getD_getElem?,Array.getElem?_append_left (by simpa using hin),← Array.getD_eq_getD_getElem?]
    rw [e1]; exact this)
  refine ⟨_,_,G',hrun,?_,p1,he.trans p2,(Below.refl _ _).drew.trans p4⟩
  simpa using p3
end Go.Abs
/- Keys: when two values of a key's type are equal. -/
namespace Go.Abs
open Go.RowKit
def c1A : TK → AV → AV → Option Bool
  | .int q,.int k a,.int k' b=>if k = k' then some (decide (a = b)) else none
  | .str,.str a,.str b=>some (decide (a = b))
  | .bool,.bool a,.bool b=>some (a == b)
  | .ptr _,.ivptr b o _,.ivptr b' o' _=>some (decide (b = b' ∧ o = o'))
  | _,_,_=>none
def keyKind (P : Program) : TK → Bool
  | .int _ | .bool | .str=>true
  | .ptr e=>match P.info? e with
    | some i=>i.size != 0
    | none=>false
  | _=>false
section
variable {P : Program} {G : Ghost} {w : World}
theorem sameAddr_run {b o b' o' : Nat} (h : fzOk w b) (h' : fzOk w b') : (sameAddr ⟨b,o,none⟩ ⟨b',o',none⟩).run P w = .ok (decide (b = b' ∧ o = o')) w:=by
  by_cases he : b = b' ∧ o = o'
  · obtain ⟨rfl,rfl⟩:=he
    rw [run_sameAddr_same]; simp
  · obtain ⟨c,e,h⟩:=h
    obtain ⟨c',e',h'⟩:=h'
    rw [run_sameAddr_other w (a:=⟨b,o,none⟩) (b:=⟨b',o',none⟩) (fun hh=>he (by injection hh with h1 h2; exact ⟨h1,h2⟩)) h h',decide_eq_false he]
theorem c1_run {t : TypeId} {ti : TI} {d : Nat} {x y : AV} {a b : Value} {r : Bool} (ht : tinf P t = some ti) (hk : keyKind P ti.kind = true) (h : c1A ti.kind x y = some r) (hx : RV G w x a) (hy : RV G w y b) :
    (Op.equalIn (d + 1) t a b).run P w = .ok r w:=by
  obtain ⟨i,dd,h1,h2,h3,h4,h5,h6⟩:=tinf_spec ht
  cases hkd : ti.kind <;> rw [hkd] at h hk h6 <;> simp only [keyKind] at hk <;> try (cases hk; done)
  case int q =>
    obtain rfl:=tk_int h6.symm
    cases x <;> simp only [c1A] at h <;> try (cases h; done)
    cases y <;> simp only [c1A] at h <;> try (cases h; done)
    split at h <;> cases h
    rename_i hkk
    subst hkk
    cases hx; cases hy
    rw [run_equalIn_int w d t _ _ _ _ h2,beq_int]
  case bool =>
    obtain rfl:=tk_bool h6.symm
    cases x <;> simp only [c1A] at h <;> try (cases h; done)
    cases y <;> simp only [c1A] at h <;> cases h
    cases hx; cases hy
    exact run_equalIn_bool' w d t _ _ h2
  case str =>
    obtain rfl:=tk_str h6.symm
    cases x <;> simp only [c1A] at h <;> try (cases h; done)
    cases y <;> simp only [c1A] at h <;> cases h
    cases hx; cases hy
    rw [run_equalIn_string w d t _ _ h2,bytes_toList,bytes_toList,beq_list]
  case ptr e =>
    obtain rfl:=tk_ptr h6.symm
    cases x <;> simp only [c1A] at h <;> try (cases h; done)
    cases y <;> simp only [c1A] at h <;> cases h
    cases hx with
    | ivptr cs bb oo X hl hn hx hI hz hh =>
      cases hy with
      | ivptr cs' bb' oo' X' hl' hn' hx' hI' hz' hh' =>
        split at hk
        · rename_i ie hie
          have hsz : ¬ ie.size = 0:=by simpa using hk
          unfold Op.equalIn
          simp [run_underlying h2,Result.andThen,sizeOf_run hie,hsz,sameAddr_run hz hz']
        · cases hk
def keyS (P : Program) (t : TypeId) : Option (List (Nat × TK)) :=
  match P.underlying t,P.info? t with
  | some (.struct fs),some i=>if (fs.all (fun f=>f.name != "_" && decide (f.offset < i.size)) && !P.stoodInHeld t && !P.eqGuardType P.depth t && fs.toList.map (·.offset) == List.range i.size) = true then
      fs.toList.mapM fun f=>match tinf P f.type with
        | some ti=>if keyKind P ti.kind = true then some (f.offset,ti.kind) else none
        | none=>none
    else none
  | _,_=>none
def eqK : List (Nat × TK) → List AV → List AV → Option Bool
  | [],_,_=>some true
  | (o,k) :: l,xs,ys=>match c1A k (xs.getD o .bot) (ys.getD o .bot) with
    | some r=>match eqK l xs ys with
      | some q=>some (r && q)
      | none=>none
    | none=>none
theorem keyKind_part {k : TK} (hk : keyKind P k = true) {ti : TI} (hkd : ti.kind = k) (cs : List AV) (off : Nat) : partA ti cs off = some (off < cs.length,cs.getD off .bot):=by
  unfold partA
  rw [hkd]
  cases k <;> simp_all [keyKind]
theorem eqFields_run {d : Nat} {cs ds : List AV} {xs ys : Array Value} (hs : xs.size = cs.length) (hc : ∀ x ∈ xs,x.oneCell' = true) (h : ∀ i,i < cs.length → RV G w (cs.getD i .bot) (xs.getD i undef))
    (hs' : ys.size = ds.length) (hc' : ∀ x ∈ ys,x.oneCell' = true) (h' : ∀ i,i < ds.length → RV G w (ds.getD i .bot) (ys.getD i undef)) : ∀ (fs : List Field) {l : List (Nat × TK)} {r : Bool},(∀ f ∈ fs,f.name ≠ "_" ∧ f.offset < cs.length ∧ f.offset < ds.length) →
    (fs.mapM fun f=>match tinf P f.type with
        | some ti=>if keyKind P ti.kind = true then some (f.offset,ti.kind) else none
        | none=>none) = some l → eqK l cs ds = some r → (Op.eqFields (d + 1) xs ys fs).run P w = .ok r w
  | [],l,r,_,hl,hr=>by
    simp at hl; subst hl
    simp only [eqK] at hr; cases hr
    simp [Op.eqFields]
  | f :: fs,l,r,hf,hl,hr=>by
    rw [List.mapM_cons] at hl
    simp only [bind,Option.bind_eq_some_iff,pure,Option.some.injEq] at hl
    obtain ⟨p,hp,l',hl',rfl⟩:=hl
    cases htf : tinf P f.type with
    | none=>rw [htf] at hp; cases hp
    | some ti =>
      rw [htf] at hp
      simp only at hp
      split at hp <;> cases hp
      rename_i hkk
      simp only [eqK] at hr
      obtain ⟨hn,ho,ho'⟩:=hf f (by simp)
      obtain ⟨a,p1,r1⟩:=part_ok htf (keyKind_part hkk rfl cs f.offset) ho hs hc h
      obtain ⟨b,p2,r2⟩:=part_ok htf (keyKind_part hkk rfl ds f.offset) ho' hs' hc' h'
      cases hq : c1A ti.kind (cs.getD f.offset .bot) (ds.getD f.offset .bot) with
      | none=>rw [hq] at hr; cases hr
      | some q =>
        rw [hq] at hr
        simp only at hr
        cases hq2 : eqK l' cs ds with
        | none=>rw [hq2] at hr; cases hr
        | some q2 =>
          rw [hq2] at hr
          cases hr
          have ih:=eqFields_run (d:=d) hs hc h hs' hc' h' fs (fun g hg=>hf g (by simp [hg])) hl' hq2
          have he:=c1_run (d:=d) htf hkk hq r1 r2
          simp only [Op.eqFields,hn,ne_eq,not_false_eq_true,if_true,Sem.run_bind,p1,p2,he,Result.andThen_ok]
          cases q
          · simp
          · simpa using ih
theorem keyS_spec {t : TypeId} {l : List (Nat × TK)} (h : keyS P t = some l) : ∃ fs i,P.underlying t = some (.struct fs) ∧ P.info? t = some i ∧ (∀ f ∈ fs.toList,f.name ≠ "_" ∧ f.offset < i.size) ∧ P.stoodInHeld t = false ∧ P.eqGuardType P.depth t = false ∧
    fs.toList.map (·.offset) = List.range i.size ∧ (fs.toList.mapM fun f=>match tinf P f.type with
        | some ti=>if keyKind P ti.kind = true then some (f.offset,ti.kind) else none
        | none=>none) = some l:=by
  unfold keyS at h
  split at h
  · rename_i fs i hu hi
    split at h
    · rename_i hc
      simp only [Bool.and_eq_true,Bool.not_eq_true',beq_iff_eq] at hc
      obtain ⟨⟨⟨h1,h2⟩,h3⟩,h4⟩:=hc
      refine ⟨fs,i,hu,hi,fun f hf=>?_,h2,h3,h4,h⟩
      have:=Array.all_eq_true_iff_forall_mem.1 h1 f (Array.mem_toList_iff.1 hf)
      simpa using this
    · cases h
  · cases h
theorem eqAgg_run {t : TypeId} {l : List (Nat × TK)} {d n : Nat} {cs ds : List AV} {a b : Value} {r : Bool} {i : TypeInfo} (hk : keyS P t = some l) (hi : P.info? t = some i) (hl : cs.length = i.size) (hl' : ds.length = i.size) (h : eqK l cs ds = some r)
    (hx : RV G w (.agg cs) a) (hy : RV G w (.agg ds) b) : (Op.equalIn (d + 2) t a b).run P w = .ok r w:=by
  obtain ⟨fs,i',h1,h2,h3,h4,h5,h6,h7⟩:=keyS_spec hk
  rw [hi] at h2; cases h2
  cases hx with
  | agg _ xs hs hc hh =>
    cases hy with
    | agg _ ys hs' hc' hh' =>
      have hf : P.fieldsOf t = fs:=by simp [Program.fieldsOf,h1]
      rw [run_equalIn_struct w (d + 1) t xs ys (by rw [hf]; exact h1) h4,hf]
      exact eqFields_run hs hc hh hs' hc' hh' fs.toList (fun f hff=>⟨(h3 f hff).1,by rw [hl]; exact (h3 f hff).2,by rw [hl']; exact (h3 f hff).2⟩) h7 h
def findA (l : List (Nat × TK)) (ks : List AV) : List (AV × AV) → Nat → Option (Option (Nat × AV))
  | [],_=>some none
  | (.agg ds,v) :: es,i=>if ds.length = ks.length then match eqK l ks ds with
    | some true=>some (some (i,v))
    | some false=>findA l ks es (i + 1)
    | none=>none
    else none
  | _ :: _,_=>none
def EntOk (G : Ghost) (w : World) (es : List (AV × AV)) (ms : List MapEntry) : Prop :=
  ms.length = es.length ∧ ∀ j,j < es.length → RV G w (es.getD j (.bot,.bot)).1 (ms.getD j default).key ∧ RV G w (es.getD j (.bot,.bot)).2 (ms.getD j default).val
theorem findAsking_run {t : TypeId} {l : List (Nat × TK)} {ks : List AV} {a : Value} {i : TypeInfo} (hk : keyS P t = some l) (hi : P.info? t = some i) (hl : ks.length = i.size) (hx : RV G w (.agg ks) a) :
    ∀ (es : List (AV × AV)) (ms : List MapEntry) (n : Nat) {r : Option (Nat × AV)},EntOk G w es ms → findA l ks es n = some r →
      (r = none ∧ (Instr.findAsking t a ms n).run P w = .ok none w) ∨ ∃ j v x,r = some (n + j,v) ∧ j < es.length ∧ (es.getD j (.bot,.bot)).2 = v ∧ RV G w v x ∧ (Instr.findAsking t a ms n).run P w = .ok (some (n + j,x)) w ∧ (∃ ds,(es.getD j (.bot,.bot)).1 = .agg ds ∧ ds.length = ks.length ∧ eqK l ks ds = some true)
  | [],[],n,r,_,hf=>by
    simp only [findA] at hf; cases hf
    exact .inl ⟨rfl,by simp [Instr.findAsking]⟩
  | [],_ :: _,n,r,he,hf=>by have:=he.1; simp at this
  | _ :: _,[],n,r,he,hf=>by have:=he.1; simp at this
  | (k,v) :: es,m :: ms,n,r,he,hf=>by
    have h0:=he.2 0 (by simp)
    simp only [List.getD_cons_zero] at h0
    have het : EntOk G w es ms:=⟨by have:=he.1; simpa using this,fun j hj=>by have:=he.2 (j + 1) (by simpa using hj); simpa using this⟩
    cases k <;> simp only [findA] at hf <;> try (cases hf; done)
    rename_i ds
    split at hf
    · rename_i hdl
      cases hq : eqK l ks ds with
      | none=>rw [hq] at hf; cases hf
      | some q =>
        rw [hq] at hf
        have heq : (Op.equal t a m.key).run P w = .ok q w:=eqAgg_run (d:=9998) (n:=0) hk hi hl (by rw [hdl,hl]) hq hx h0.1
        cases q with
        | true =>
          simp only at hf; cases hf
          refine .inr ⟨0,v,m.val,rfl,by simp,rfl,h0.2,?_,ds,rfl,hdl,hq⟩
          simp [Instr.findAsking,heq,Result.andThen]
        | false =>
          simp only at hf
          rcases findAsking_run hk hi hl hx es ms (n + 1) het hf with ⟨h1,h2⟩ | ⟨j,v',x,h1,h2,h3,h4,h5,h6⟩
          · exact .inl ⟨h1,by simp [Instr.findAsking,heq,Result.andThen,h2]⟩
          · refine .inr ⟨j + 1,v',x,by rw [h1]; congr 2; omega,by simpa using h2,by simpa using h3,h4,?_,by simpa using h6⟩
            rw [show n + (j + 1) = n + 1 + j by omega]
            simp [Instr.findAsking,heq,Result.andThen,h5]
    · cases hf
theorem checkKind_run {t : TypeId} {ti : TI} {x : AV} {a : Value} (em : Bool) (d : Nat) (ht : tinf P t = some ti) (hk : keyKind P ti.kind = true) (hc : ∀ cs,x ≠ .agg cs) (hx : RV G w x a) : (Instr.checkKey em (d + 1) t a).run P w = .ok () w:=by
  obtain ⟨i,dd,h1,h2,h3,h4,h5,h6⟩:=tinf_spec ht
  unfold Instr.checkKey
  cases hkd : ti.kind <;> rw [hkd] at hk h6 <;> simp only [keyKind] at hk <;> try (cases hk; done)
  case int q =>
    obtain rfl:=tk_int h6.symm
    simp [run_underlying h2,Result.andThen]
  case bool =>
    obtain rfl:=tk_bool h6.symm
    simp [run_underlying h2,Result.andThen]
  case str =>
    obtain rfl:=tk_str h6.symm
    simp [run_underlying h2,Result.andThen]
  case ptr e =>
    obtain rfl:=tk_ptr h6.symm
    simp [run_underlying h2,Result.andThen]
theorem checkKey_run {t : TypeId} {l : List (Nat × TK)} {ks : List AV} {a : Value} {i : TypeInfo} (em : Bool) (d : Nat) (hk : keyS P t = some l) (hi : P.info? t = some i) (hl : ks.length = i.size) (hlf : ks.all isCell = true) (hx : RV G w (.agg ks) a) :
    (Instr.checkKey em (d + 2) t a).run P w = .ok () w:=by
  obtain ⟨fs,i',h1,h2,h3,h4,h5,h6,h7⟩:=keyS_spec hk
  rw [hi] at h2; cases h2
  cases hx with
  | agg _ xs hs hc hh =>
    rw [show d + 2 = (d + 1) + 1 from rfl,Instr.checkKey]
    simp only [Sem.run_bind,run_underlying h1,Result.andThen_ok]
    rw [← Array.forIn_toList]
    clear hk h1 h6
    generalize fs.toList = L at h3 h7
    induction L generalizing l with
    | nil=>simp
    | cons f L ih =>
      rw [List.mapM_cons] at h7
      simp only [bind,Option.bind_eq_some_iff,pure,Option.some.injEq] at h7
      obtain ⟨p,hp,l',hl',rfl⟩:=h7
      cases htf : tinf P f.type with
      | none=>rw [htf] at hp; cases hp
      | some ti =>
        rw [htf] at hp
        simp only at hp
        split at hp <;> cases hp
        rename_i hkk
        obtain ⟨hn,ho⟩:=h3 f (by simp)
        have hoc : f.offset < ks.length:=by rw [hl]; exact ho
        obtain ⟨v,p1,r1⟩:=part_ok htf (keyKind_part hkk rfl ks f.offset) hoc hs hc hh
        have hcell:=List.all_eq_true.1 hlf _ (getD_mem (d:=.bot) hoc)
        have p2:=checkKind_run em d htf hkk (fun cs e=>by rw [e] at hcell; simp [isCell] at hcell) r1
        simp only [List.forIn_cons,Sem.run_bind,hn,ne_eq,not_false_eq_true,if_true,Result.andThen_ok,p1,p2,Sem.run_pure]
        exact ih (fun g hg=>h3 g (by simp [hg])) hl'
def zeroV (P : Program) (t : TypeId) : Option AV :=
  match P.info? t with
  | some i=>match i.zero with
    | some (.agg cs)=>if cs.all (·.oneCell') = true then some (.agg (cs.toList.map const1)) else none
    | some v=>if v.oneCell' = true then some (const1 v) else none
    | none=>none
  | none=>none
def mapInf (P : Program) (t : TypeId) : Option (TypeId × List (Nat × TK) × Nat × AV) :=
  match P.underlying t with
  | some (.map kt et)=>match keyS P kt,P.info? kt,zeroV P et with
    | some l,some i,some z=>some (kt,l,i.size,z)
    | _,_,_=>none
  | _=>none
theorem mapInf_spec {t kt : TypeId} {l : List (Nat × TK)} {n : Nat} {z : AV} (h : mapInf P t = some (kt,l,n,z)) : ∃ et i,P.underlying t = some (.map kt et) ∧ keyS P kt = some l ∧ P.info? kt = some i ∧ i.size = n ∧ zeroV P et = some z:=by
  unfold mapInf at h
  split at h
  · rename_i kt' et hu
    split at h
    · rename_i l' i z' h1 h2 h3
      cases h
      exact ⟨et,i,hu,h1,h2,rfl,h3⟩
    · cases h
  · cases h
theorem zeroV_run {t : TypeId} {z : AV} (h : zeroV P t = some z) : ∃ v,(zeroValue t).run P w = .ok v w ∧ RV G w z v:=by
  unfold zeroV at h
  split at h
  · rename_i i hi
    split at h
    · rename_i cs hz
      split at h <;> cases h
      rename_i hc
      have hz' : i.zero = some (.agg cs):=hz
      refine ⟨_,zeroValue_run hi hz' w,?_⟩
      have:=constA_ok G w (.agg cs)
      simp only [constA,hc,if_true] at this
      exact this
    · rename_i v hv hz
      split at h <;> cases h
      rename_i hc
      refine ⟨_,zeroValue_run hi hz w,?_⟩
      exact const1_ok G w v
    · cases h
  · cases h
theorem makeMap_ok {A : List Box} {base : Nat} {t : TypeId} (h : HRel G A w base) : YV G w base (.map A.length) (A ++ [.mapb []]) ((Instr.makeMap t none).run P w):=by
  have hp:=h.push (w':=w.alloc (.map #[] 0)) (.mapb []) 0 0 0 0 kept_alloc (by simp) fun e'=>by
    refine ⟨#[],0,⟨?_,by simp [Born]⟩,rfl,fun j hj=>by simp at hj,fun o ho=>?_⟩
    · have hb : (G.add w.heap.size 0 0 0 0).blk G.n = w.heap.size:=by simp [Ghost.add]
      rw [hb]; exact heap_alloc_new w _
    · have hb : (G.add w.heap.size 0 0 0 0).blk G.n = w.heap.size:=by simp [Ghost.add]
      rw [hb] at ho
      have:=h.imm _ _ ho
      omega
  refine ⟨_,_,_,run_makeMap t w,?_,hp.1,hp.2,kept_alloc.below (fun b hb=>hb.elim) h.low⟩
  have hb : (G.add w.heap.size 0 0 0 0).blk A.length = w.heap.size:=by simp [Ghost.add,h.n]
  have:=RV.map (G:=G.add w.heap.size 0 0 0 0) (w:=w.alloc (.map #[] 0)) A.length (by simp [Ghost.add,h.n])
  rw [hb] at this
  exact this
theorem mapAt {A : List Box} {base i : Nat} {es : List (AV × AV)} (h : HRel G A w base) (hi : i < G.n) (hb : A.getD i .dead = .mapb es) :
    ∃ m clock,w.heap[G.blk i]? = some (.map m clock) ∧ EntOk G w es m.toList ∧ (∀ o,¬ G.I (G.blk i) o) ∧ Born m clock:=by
  have:=h.box i (by rw [← h.n]; exact hi)
  rw [hb] at this
  obtain ⟨m,cl,⟨h1,h6⟩,h3,h4,h5⟩:=this
  refine ⟨m,cl,h1,⟨by simpa using h3,fun j hj=>?_⟩,h5,h6⟩
  have:=h4 j hj
  have hjm : j < m.size:=by omega
  simpa [List.getD,Array.getD,hjm] using this
def lkV (r : Option (Nat × AV)) (z : AV) : AV :=
  match r with
  | some p=>p.2
  | none=>z
def updA (r : Option (Nat × AV)) (ks : List AV) (v : AV) (es : List (AV × AV)) : List (AV × AV) :=
  match r with
  | some p=>es.set p.1 (.agg ks,v)
  | none=>es ++ [(.agg ks,v)]
theorem lookup_ok {A : List Box} {base i n : Nat} {t kt : TypeId} {l : List (Nat × TK)} {z : AV} {es : List (AV × AV)} {ks : List AV} {x y : Value} {r : Option (Nat × AV)} (ht : mapInf P t = some (kt,l,n,z)) (hb : A.getD i .dead = .mapb es)
    (hf : findA l ks es 0 = some r) (hl : ks.length = n) (hlf : ks.all isCell = true) (h : HRel G A w base) (hm : RV G w (.map i) x) (hk : RV G w (.agg ks) y) :
    YV G w base (.tuple [lkV r z,.bool r.isSome]) A ((Instr.lookup t x y true).run P w):=by
  obtain ⟨et,info,h1,h2,h3,h4,h5⟩:=mapInf_spec ht
  cases hm with
  | map i hi =>
    obtain ⟨m,cl,g1,g2,g3,g4⟩:=mapAt h hi hb
    have hkt : (match P.underlying kt with | some (.array _ _) | some (.struct _)=>true | _=>false) = true:=by
      obtain ⟨fs,_,q1,_⟩:=keyS_spec h2
      rw [q1]
    have hck:=checkKey_run m.isEmpty 9998 h2 h3 (by rw [hl,h4]) hlf hk
    have hfk:=run_findKey_eq (w:=w) hkt y m.toList
    have hg : (getObj (G.blk i)).run P w = .ok (.map m cl) w:=by simp [getObj,Sem.run,g1]
    have tup : ∀ (v : AV) (a : Value) (b : Bool),RV G w v a → RV G w (.tuple [v,.bool b]) (.tuple #[a,.bool b]):=fun v a b hv=>by
      refine .tuple _ _ rfl fun j hj=>?_
      simp only [List.length_cons,List.length_nil] at hj
      match j,hj with
      | 0,_=>simpa using hv
      | 1,_=>simpa using RV.bool b
    rcases findAsking_run h2 h3 (by rw [hl,h4]) hk es m.toList 0 g2 hf with ⟨e1,e2⟩ | ⟨j,v,a,e1,e2,e3,e4,e5,e6⟩
    · obtain ⟨zv,z1,z2⟩:=zeroV_run (w:=w) (G:=G) h5
      subst e1
      refine .same h (tup z zv false z2) ?_
      simp [Instr.lookup,run_underlying h1,Result.andThen,hg,hck,hfk,e2,z1]
    · subst e1
      refine .same h (tup v a true e4) ?_
      simp [Instr.lookup,run_underlying h1,Result.andThen,hg,hck,hfk,e5]
theorem lookup1_ok {A : List Box} {base i n : Nat} {t kt : TypeId} {l : List (Nat × TK)} {z : AV} {es : List (AV × AV)} {ks : List AV} {x y : Value} {r : Option (Nat × AV)} (ht : mapInf P t = some (kt,l,n,z)) (hb : A.getD i .dead = .mapb es)
    (hf : findA l ks es 0 = some r) (hl : ks.length = n) (hlf : ks.all isCell = true) (h : HRel G A w base) (hm : RV G w (.map i) x) (hk : RV G w (.agg ks) y) :
    YV G w base (lkV r z) A ((Instr.lookup t x y false).run P w):=by
  obtain ⟨et,info,h1,h2,h3,h4,h5⟩:=mapInf_spec ht
  cases hm with
  | map i hi =>
    obtain ⟨m,cl,g1,g2,g3,g4⟩:=mapAt h hi hb
    have hkt : (match P.underlying kt with | some (.array _ _) | some (.struct _)=>true | _=>false) = true:=by
      obtain ⟨fs,_,q1,_⟩:=keyS_spec h2
      rw [q1]
    have hck:=checkKey_run m.isEmpty 9998 h2 h3 (by rw [hl,h4]) hlf hk
    have hfk:=run_findKey_eq (w:=w) hkt y m.toList
    have hg : (getObj (G.blk i)).run P w = .ok (.map m cl) w:=by simp [getObj,Sem.run,g1]
    rcases findAsking_run h2 h3 (by rw [hl,h4]) hk es m.toList 0 g2 hf with ⟨e1,e2⟩ | ⟨j,v,a,e1,e2,e3,e4,e5,e6⟩
    · obtain ⟨zv,z1,z2⟩:=zeroV_run (w:=w) (G:=G) h5
      subst e1
      refine .same h z2 ?_
      simp [Instr.lookup,run_underlying h1,Result.andThen,hg,hck,hfk,e2,z1]
    · subst e1
      refine .same h e4 ?_
      simp [Instr.lookup,run_underlying h1,Result.andThen,hg,hck,hfk,e5]
theorem eqK_all {l : List (Nat × TK)} {xs ys : List AV} (h : eqK l xs ys = some true) : ∀ p ∈ l,c1A p.2 (xs.getD p.1 .bot) (ys.getD p.1 .bot) = some true:=by
  induction l with
  | nil=>simp
  | cons p l ih =>
    obtain ⟨o,k⟩:=p
    simp only [eqK] at h
    split at h
    · rename_i r hr
      split at h
      · rename_i q hq
        injection h with h
        simp only [Bool.and_eq_true] at h
        obtain ⟨rfl,rfl⟩:=h
        intro p hp
        rcases List.mem_cons.1 hp with rfl | hp
        · exact hr
        · exact ih hq p hp
      · cases h
    · cases h
theorem offs_of {l : List (Nat × TK)} : ∀ (fs : List Field), (fs.mapM fun f => match tinf P f.type with
        | some ti=>if keyKind P ti.kind = true then some (f.offset,ti.kind) else none
        | none=>none) = some l → l.map (·.1) = fs.map (·.offset):=by
  intro fs
  induction fs generalizing l with
  | nil=>intro h; simp at h; subst h; rfl
  | cons f fs ih =>
    intro h
    rw [List.mapM_cons] at h
    simp only [bind,Option.bind_eq_some_iff,pure,Option.some.injEq] at h
    obtain ⟨p,hp,l',hl',rfl⟩:=h
    split at hp
    · split at hp <;> cases hp
      simp [ih hl']
    · cases hp
theorem c1_same {k : TK} {x y : AV} {a b : Value} {n : Nat} (h : c1A k x y = some true) (hx : RV G w x a) (hy : RV G w y b) : Instr.sameBits n b a = true:=by
  unfold c1A at h
  split at h
  · split at h
    · rename_i hk
      subst hk
      injection h with h
      obtain rfl:=of_decide_eq_true h
      cases hx; cases hy
      simp [Instr.sameBits]
    · cases h
  · injection h with h
    obtain rfl:=of_decide_eq_true h
    cases hx; cases hy
    simp only [Instr.sameBits]
    rw [beq_toListBytes]; simp
  · cases hx; cases hy
    simp at h
    subst h
    simp [Instr.sameBits]
  · injection h with h
    obtain ⟨rfl,rfl⟩:=of_decide_eq_true h
    cases hx; cases hy
    simp [Instr.sameBits]
  · cases h
theorem same_key {t : TypeId} {l : List (Nat × TK)} {ks ds : List AV} {a b : Value} {i : TypeInfo} (hk : keyS P t = some l) (hi : P.info? t = some i) (hl : ks.length = i.size) (hl' : ds.length = ks.length) (h : eqK l ks ds = some true)
    (hx : RV G w (.agg ks) a) (hy : RV G w (.agg ds) b) : Instr.sameBits 10000 b a = true:=by
  obtain ⟨fs,i',h1,h2,h3,h4,h5,h6,h7⟩:=keyS_spec hk
  rw [hi] at h2; cases h2
  have ho:=offs_of fs.toList h7
  have hall:=eqK_all h
  cases hx with
  | agg _ xs hs hc hh =>
    cases hy with
    | agg _ ys hs' hc' hh' =>
      have hsz : ys.size = xs.size:=by omega
      simp only [Instr.sameBits,hsz,beq_self_eq_true,Bool.true_and,List.all_eq_true]
      intro p hp
      obtain ⟨j,hj,rfl⟩:=List.mem_iff_getElem.1 hp
      simp only [List.length_zip,Array.length_toList] at hj
      have hjk : j < ks.length:=by omega
      have hjr : j ∈ l.map (·.1):=by rw [ho,h6]; exact List.mem_range.2 (by omega)
      obtain ⟨q,hq,rfl⟩:=List.mem_map.1 hjr
      have h8:=hall q hq
      have r1:=hh q.1 hjk
      have r2:=hh' q.1 (by omega)
      have e1 : xs.getD q.1 undef = xs[q.1]:=by simp [Array.getD,show q.1 < xs.size by omega]
      have e2 : ys.getD q.1 undef = ys[q.1]:=by simp [Array.getD,show q.1 < ys.size by omega]
      rw [e1] at r1
      rw [e2] at r2
      simpa using c1_same (n:=9999) h8 r1 r2
theorem born_push {m : Array MapEntry} {cl : Nat} (h : Born m cl) {key val : Value} : Born (m.push { key,val,born:=cl }) (cl + 1):=by
  obtain ⟨h1,h2⟩:=h
  refine ⟨fun x hx=>?_,?_⟩
  · simp only [Array.toList_push,List.mem_append,List.mem_singleton] at hx
    rcases hx with hx | rfl
    · exact Nat.lt_succ_of_lt (h1 x hx)
    · exact Nat.lt_succ_self _
  · simp only [Array.toList_push,List.map_append,List.map_cons,List.map_nil]
    refine List.nodup_append.2 ⟨h2,by simp,?_⟩
    intro a ha b hb
    simp only [List.mem_singleton] at hb
    subst hb
    obtain ⟨x,hx,rfl⟩:=List.mem_map.1 ha
    exact Nat.ne_of_lt (h1 x hx)
theorem born_modify {m : Array MapEntry} {cl j : Nat} {y u : Value} (h : Born m cl) : Born (m.modify j fun e=>{ e with key:=y,val:=u }) cl:=by
  have hborn : (m.modify j fun e=>{ e with key:=y,val:=u }).toList.map (·.born) = m.toList.map (·.born):=by
    apply List.ext_getElem?
    intro k
    simp only [List.getElem?_map,Array.getElem?_toList,Array.getElem?_modify]
    by_cases hij : j = k
    · subst hij
      cases he : m[j]? <;> simp
    · simp [hij]
  obtain ⟨h1,h2⟩:=h
  refine ⟨fun x hx=>?_,hborn ▸ h2⟩
  have : x.born ∈ (m.modify j fun e=>{ e with key:=y,val:=u }).toList.map (·.born):=List.mem_map.2 ⟨x,hx,rfl⟩
  rw [hborn] at this
  obtain ⟨y,hy,e⟩:=List.mem_map.1 this
  rw [← e]; exact h1 y hy
theorem mapUpdate_ok {A : List Box} {base i n : Nat} {t kt : TypeId} {l : List (Nat × TK)} {z v : AV} {es : List (AV × AV)} {ks : List AV} {x y u : Value} {r : Option (Nat × AV)} (ht : mapInf P t = some (kt,l,n,z)) (hb : A.getD i .dead = .mapb es)
    (hf : findA l ks es 0 = some r) (hl : ks.length = n) (hlf : ks.all isCell = true) (h : HRel G A w base) (hm : RV G w (.map i) x) (hk : RV G w (.agg ks) y) (hv : RV G w v u) :
    ∃ w' G',(Instr.mapUpdate t x y u).run P w = .ok () w' ∧ HRel G' (A.set i (.mapb (updA r ks v es))) w' base ∧ Ext G w G' w' ∧ Below base w w':=by
  obtain ⟨et,info,h1,h2,h3,h4,h5⟩:=mapInf_spec ht
  cases hm with
  | map i hi =>
    obtain ⟨m,cl,g1,g2,g3,g4⟩:=mapAt h hi hb
    have hil : i < A.length:=by rw [← h.n]; exact hi
    have hlive : (A.getD i .dead).live = true:=by rw [hb]; rfl
    have hkt : (match P.underlying kt with | some (.array _ _) | some (.struct _)=>true | _=>false) = true:=by
      obtain ⟨fs,_,q1,_⟩:=keyS_spec h2
      rw [q1]
    have hck:=checkKey_run false 9998 h2 h3 (by rw [hl,h4]) hlf hk
    have hfk:=run_findKey_eq (w:=w) hkt y m.toList
    have hg : (getObj (G.blk i)).run P w = .ok (.map m cl) w:=by simp [getObj,Sem.run,g1]
    have hbs : G.blk i < w.heap.size:=(Array.getElem?_eq_some_iff.1 g1).1
    have hms : m.size = es.length:=by have:=g2.1; simpa using this
    have hset : ∀ o,(setObj (G.blk i) o).run P w = .ok () { w with heap:=w.heap.setIfInBounds (G.blk i) o }:=fun o=>by simp [setObj,Sem.run,g1]
    have kept : ∀ o,Kept (fun b=>b = G.blk i) w { w with heap:=w.heap.setIfInBounds (G.blk i) o }:=fun o=>⟨rfl,rfl,rfl,by simp,fun b hb hne=>by simp [Ne.symm hne]⟩
    have entry : ∀ (es' : List (AV × AV)) (m' : Array MapEntry) (cl' : Nat),Born m' cl' → m'.size = es'.length → (∀ j,j < es'.length → RV G w (es'.getD j (.bot,.bot)).1 (m'.getD j default).key ∧ RV G w (es'.getD j (.bot,.bot)).2 (m'.getD j default).val) →
        HRel G (A.set i (.mapb es')) { w with heap:=w.heap.setIfInBounds (G.blk i) (.map m' cl') } base ∧ Ext G w G { w with heap:=w.heap.setIfInBounds (G.blk i) (.map m' cl') }:=fun es' m' cl' hbn hs he =>
      h.set (.mapb es') hil hlive (kept _) (fun o ho=>absurd ho (g3 o)) (fun o ho=>absurd ho (g3 o)) fun e'=>⟨m',cl',⟨by simp [hbs],hbn⟩,hs,fun j hj=>⟨(he j hj).1.mono e',(he j hj).2.mono e'⟩,g3⟩
    have old : ∀ j,j < es.length → RV G w (es.getD j (.bot,.bot)).1 (m.getD j default).key ∧ RV G w (es.getD j (.bot,.bot)).2 (m.getD j default).val:=fun j hj=>by
      have:=g2.2 j hj
      have hjm : j < m.size:=by omega
      simpa [List.getD,Array.getD,hjm] using this
    rcases findAsking_run h2 h3 (by rw [hl,h4]) hk es m.toList 0 g2 hf with ⟨e1,e2⟩ | ⟨j,v0,a,e1,e2,e3,e4,e5,ds,e6,e7,e8⟩
    · subst e1
      obtain ⟨p1,p2⟩:=entry (es ++ [(.agg ks,v)]) (m.push { key:=y,val:=u,born:=cl }) (cl + 1) (born_push g4) (by simp [hms]) (fun j hj=>by
        simp only [List.length_append,List.length_singleton] at hj
        by_cases hjl : j < es.length
        · have:=old j hjl
          have hjm : j < m.size:=by omega
          rw [getD_append_left hjl]
          have e : (m.push { key:=y,val:=u,born:=cl }).getD j default = m.getD j default:=by
            simp [Array.getD,hjm,Array.getElem_push,Nat.lt_succ_of_lt hjm]
          rw [e]; exact this
        · obtain rfl : j = es.length:=by omega
          have e : (m.push { key:=y,val:=u,born:=cl }).getD es.length default = { key:=y,val:=u,born:=cl }:=by
            simp [Array.getD,← hms]
          rw [e]
          have e' : (es ++ [(AV.agg ks,v)]).getD es.length (.bot,.bot) = (.agg ks,v):=by simp [List.getD]
          rw [e']; exact ⟨hk,hv⟩)
      refine ⟨_,G,?_,p1,p2,(kept _).below (fun b hb=>by rw [hb]; exact (h.bnd i hil hlive).1) h.low⟩
      simp [Instr.mapUpdate,run_underlying h1,Result.andThen,hg,hck,hfk,e2,hset]
    · subst e1
      have hjm : j < m.size:=by omega
      have hkey:=(old j e2).1
      rw [e6] at hkey
      have hmj : m.getD j default = m[j]:=by simp [Array.getD,hjm]
      rw [hmj] at hkey
      have hsb:=same_key h2 h3 (by rw [hl,h4]) e7 e8 hk hkey
      obtain ⟨p1,p2⟩:=entry (es.set j (.agg ks,v)) (m.modify j fun e=>{ e with key:=y,val:=u }) cl (born_modify g4) (by simp [hms]) (fun k hkl=>by
        simp only [List.length_set] at hkl
        have hkm : k < m.size:=by omega
        by_cases hkj : j = k
        · subst hkj
          rw [getD_set_self hkl]
          have e : (m.modify j fun e=>{ e with key:=y,val:=u }).getD j default = { m[j] with key:=y,val:=u }:=by simp [Array.getD,hjm,Array.getElem_modify]
          rw [e]; exact ⟨hk,hv⟩
        · rw [getD_set_ne' hkj]
          have e : (m.modify j fun e=>{ e with key:=y,val:=u }).getD k default = m.getD k default:=by simp [Array.getD,hkm,Array.getElem_modify,hkj]
          rw [e]; exact old k hkl)
      refine ⟨_,G,?_,by simpa [updA] using p1,p2,(kept _).below (fun b hb=>by rw [hb]; exact (h.bnd i hil hlive).1) h.low⟩
      simp [Instr.mapUpdate,run_underlying h1,Result.andThen,hg,hck,hfk,e5,hset,hjm,Instr.keyThatStays,hsb]
def mapStr (P : Program) (t : TypeId) : Option (TypeId × AV) :=
  match P.underlying t with
  | some (.map kt et)=>match P.underlying kt,zeroV P et with
    | some .string,some z=>some (kt,z)
    | _,_=>none
  | _=>none
theorem mapStr_spec {t kt : TypeId} {z : AV} (h : mapStr P t = some (kt,z)) : ∃ et,P.underlying t = some (.map kt et) ∧ P.underlying kt = some .string ∧ zeroV P et = some z:=by
  unfold mapStr at h
  split at h
  · rename_i kt' et hu
    split at h
    · rename_i z' h1 h2
      cases h
      exact ⟨et,hu,h1,h2⟩
    · cases h
  · cases h
def findS (q : List UInt8) : List (AV × AV) → Nat → Option (Option (Nat × AV))
  | [],_=>some none
  | (.str p,v) :: es,i=>if q = p then some (some (i,v)) else findS q es (i + 1)
  | _ :: _,_=>none
def updS (r : Option (Nat × AV)) (q : List UInt8) (v : AV) (es : List (AV × AV)) : List (AV × AV) :=
  match r with
  | some p=>es.set p.1 (.str q,v)
  | none=>es ++ [(.str q,v)]
theorem findS_run {q : List UInt8} {a : Value} (hx : RV G w (.str q) a) :
    ∀ (es : List (AV × AV)) (ms : List MapEntry) (n : Nat) {r : Option (Nat × AV)},EntOk G w es ms → findS q es n = some r →
      (r = none ∧ Instr.findNow .string a ms n = some none) ∨ ∃ j v x,r = some (n + j,v) ∧ j < es.length ∧ (es.getD j (.bot,.bot)).2 = v ∧ RV G w v x ∧ Instr.findNow .string a ms n = some (some (n + j,x)) ∧ (es.getD j (.bot,.bot)).1 = .str q
  | [],[],n,r,_,hf=>by
    simp only [findS] at hf; cases hf
    exact .inl ⟨rfl,by simp [Instr.findNow]⟩
  | [],_ :: _,n,r,he,hf=>by have:=he.1; simp at this
  | _ :: _,[],n,r,he,hf=>by have:=he.1; simp at this
  | (k,v) :: es,m :: ms,n,r,he,hf=>by
    have h0:=he.2 0 (by simp)
    simp only [List.getD_cons_zero] at h0
    have het : EntOk G w es ms:=⟨by have:=he.1; simpa using this,fun j hj=>by have:=he.2 (j + 1) (by simpa using hj); simpa using this⟩
    cases k <;> simp only [findS] at hf <;> try (cases hf; done)
    rename_i p
    obtain ⟨hk,hv⟩:=h0
    have hse : Instr.sameNow .string a m.key = some (decide (q = p)):=by
      cases hx
      generalize m.key = mk at hk
      cases hk
      simp only [Instr.sameNow]
      rw [beq_toListBytes]
      congr 1
      rw [Bool.eq_iff_iff]; simp
    split at hf
    · rename_i hqp
      cases hf
      refine .inr ⟨0,v,m.val,rfl,by simp,rfl,hv,?_,by rw [hqp]; rfl⟩
      simp [Instr.findNow,hse,hqp]
    · rename_i hqp
      rcases findS_run hx es ms (n + 1) het hf with ⟨h1,h2⟩ | ⟨j,v',x,h1,h2,h3,h4,h5,h6⟩
      · exact .inl ⟨h1,by simp [Instr.findNow,hse,hqp,h2]⟩
      · refine .inr ⟨j + 1,v',x,by rw [h1]; congr 2; omega,by simpa using h2,by simpa using h3,h4,?_,by simpa using h6⟩
        rw [show n + (j + 1) = n + 1 + j by omega]
        simp [Instr.findNow,hse,hqp,h5]
theorem checkS_run {kt : TypeId} {q : List UInt8} {a : Value} (em : Bool) (d : Nat) (h2 : P.underlying kt = some .string) (hx : RV G w (.str q) a) : (Instr.checkKey em (d + 1) kt a).run P w = .ok () w:=by
  unfold Instr.checkKey
  simp [run_underlying h2,Result.andThen]
theorem findKeyS_run {kt : TypeId} {a : Value} {ms : List MapEntry} {r : Option (Nat × Value)} (h2 : P.underlying kt = some .string) (h : Instr.findNow .string a ms 0 = some r) : (Instr.findKey kt a ms).run P w = .ok r w:=by
  unfold Instr.findKey
  simp [run_underlying h2,Result.andThen,h]
theorem lookupS_ok {A : List Box} {base i : Nat} {t kt : TypeId} {z : AV} {es : List (AV × AV)} {q : List UInt8} {x y : Value} {r : Option (Nat × AV)} (ht : mapStr P t = some (kt,z)) (hb : A.getD i .dead = .mapb es)
    (hf : findS q es 0 = some r) (h : HRel G A w base) (hm : RV G w (.map i) x) (hk : RV G w (.str q) y) :
    YV G w base (.tuple [lkV r z,.bool r.isSome]) A ((Instr.lookup t x y true).run P w):=by
  obtain ⟨et,h1,h2,h5⟩:=mapStr_spec ht
  cases hm with
  | map i hi =>
    obtain ⟨m,cl,g1,g2,g3,g4⟩:=mapAt h hi hb
    have hck:=checkS_run (P:=P) m.isEmpty 9999 h2 hk
    have hg : (getObj (G.blk i)).run P w = .ok (.map m cl) w:=by simp [getObj,Sem.run,g1]
    have tup : ∀ (v : AV) (a : Value) (b : Bool),RV G w v a → RV G w (.tuple [v,.bool b]) (.tuple #[a,.bool b]):=fun v a b hv=>by
      refine .tuple _ _ rfl fun j hj=>?_
      simp only [List.length_cons,List.length_nil] at hj
      match j,hj with
      | 0,_=>simpa using hv
      | 1,_=>simpa using RV.bool b
    rcases findS_run hk es m.toList 0 g2 hf with ⟨e1,e2⟩ | ⟨j,v,a,e1,e2,e3,e4,e5,e6⟩
    · obtain ⟨zv,z1,z2⟩:=zeroV_run (w:=w) (G:=G) h5
      have hfk:=findKeyS_run (w:=w) h2 e2
      subst e1
      refine .same h (tup z zv false z2) ?_
      simp [Instr.lookup,run_underlying h1,Result.andThen,hg,hck,hfk,z1]
    · have hfk:=findKeyS_run (w:=w) h2 e5
      subst e1
      refine .same h (tup v a true e4) ?_
      simp [Instr.lookup,run_underlying h1,Result.andThen,hg,hck,hfk]
theorem lookupS1_ok {A : List Box} {base i : Nat} {t kt : TypeId} {z : AV} {es : List (AV × AV)} {q : List UInt8} {x y : Value} {r : Option (Nat × AV)} (ht : mapStr P t = some (kt,z)) (hb : A.getD i .dead = .mapb es)
    (hf : findS q es 0 = some r) (h : HRel G A w base) (hm : RV G w (.map i) x) (hk : RV G w (.str q) y) :
    YV G w base (lkV r z) A ((Instr.lookup t x y false).run P w):=by
  obtain ⟨et,h1,h2,h5⟩:=mapStr_spec ht
  cases hm with
  | map i hi =>
    obtain ⟨m,cl,g1,g2,g3,g4⟩:=mapAt h hi hb
    have hck:=checkS_run (P:=P) m.isEmpty 9999 h2 hk
    have hg : (getObj (G.blk i)).run P w = .ok (.map m cl) w:=by simp [getObj,Sem.run,g1]
    rcases findS_run hk es m.toList 0 g2 hf with ⟨e1,e2⟩ | ⟨j,v,a,e1,e2,e3,e4,e5,e6⟩
    · obtain ⟨zv,z1,z2⟩:=zeroV_run (w:=w) (G:=G) h5
      have hfk:=findKeyS_run (w:=w) h2 e2
      subst e1
      refine .same h z2 ?_
      simp [Instr.lookup,run_underlying h1,Result.andThen,hg,hck,hfk,z1]
    · have hfk:=findKeyS_run (w:=w) h2 e5
      subst e1
      refine .same h e4 ?_
      simp [Instr.lookup,run_underlying h1,Result.andThen,hg,hck,hfk]
theorem mapUpdateS_ok {A : List Box} {base i : Nat} {t kt : TypeId} {z v : AV} {es : List (AV × AV)} {q : List UInt8} {x y u : Value} {r : Option (Nat × AV)} (ht : mapStr P t = some (kt,z)) (hb : A.getD i .dead = .mapb es)
    (hf : findS q es 0 = some r) (h : HRel G A w base) (hm : RV G w (.map i) x) (hk : RV G w (.str q) y) (hv : RV G w v u) :
    ∃ w' G',(Instr.mapUpdate t x y u).run P w = .ok () w' ∧ HRel G' (A.set i (.mapb (updS r q v es))) w' base ∧ Ext G w G' w' ∧ Below base w w':=by
  obtain ⟨et,h1,h2,h5⟩:=mapStr_spec ht
  cases hm with
  | map i hi =>
    obtain ⟨m,cl,g1,g2,g3,g4⟩:=mapAt h hi hb
    have hil : i < A.length:=by rw [← h.n]; exact hi
    have hlive : (A.getD i .dead).live = true:=by rw [hb]; rfl
    have hck:=checkS_run (P:=P) false 9999 h2 hk
    have hg : (getObj (G.blk i)).run P w = .ok (.map m cl) w:=by simp [getObj,Sem.run,g1]
    have hbs : G.blk i < w.heap.size:=(Array.getElem?_eq_some_iff.1 g1).1
    have hms : m.size = es.length:=by have:=g2.1; simpa using this
    have hset : ∀ o,(setObj (G.blk i) o).run P w = .ok () { w with heap:=w.heap.setIfInBounds (G.blk i) o }:=fun o=>by simp [setObj,Sem.run,g1]
    have kept : ∀ o,Kept (fun b=>b = G.blk i) w { w with heap:=w.heap.setIfInBounds (G.blk i) o }:=fun o=>⟨rfl,rfl,rfl,by simp,fun b hb hne=>by simp [Ne.symm hne]⟩
    have entry : ∀ (es' : List (AV × AV)) (m' : Array MapEntry) (cl' : Nat),Born m' cl' → m'.size = es'.length → (∀ j,j < es'.length → RV G w (es'.getD j (.bot,.bot)).1 (m'.getD j default).key ∧ RV G w (es'.getD j (.bot,.bot)).2 (m'.getD j default).val) →
        HRel G (A.set i (.mapb es')) { w with heap:=w.heap.setIfInBounds (G.blk i) (.map m' cl') } base ∧ Ext G w G { w with heap:=w.heap.setIfInBounds (G.blk i) (.map m' cl') }:=fun es' m' cl' hbn hs he =>
      h.set (.mapb es') hil hlive (kept _) (fun o ho=>absurd ho (g3 o)) (fun o ho=>absurd ho (g3 o)) fun e'=>⟨m',cl',⟨by simp [hbs],hbn⟩,hs,fun j hj=>⟨(he j hj).1.mono e',(he j hj).2.mono e'⟩,g3⟩
    have old : ∀ j,j < es.length → RV G w (es.getD j (.bot,.bot)).1 (m.getD j default).key ∧ RV G w (es.getD j (.bot,.bot)).2 (m.getD j default).val:=fun j hj=>by
      have:=g2.2 j hj
      have hjm : j < m.size:=by omega
      simpa [List.getD,Array.getD,hjm] using this
    rcases findS_run hk es m.toList 0 g2 hf with ⟨e1,e2⟩ | ⟨j,v0,a,e1,e2,e3,e4,e5,e6⟩
    · have hfk:=findKeyS_run (w:=w) h2 e2
      subst e1
      obtain ⟨p1,p2⟩:=entry (es ++ [(.str q,v)]) (m.push { key:=y,val:=u,born:=cl }) (cl + 1) (born_push g4) (by simp [hms]) (fun j hj=>by
        simp only [List.length_append,List.length_singleton] at hj
        by_cases hjl : j < es.length
        · have:=old j hjl
          have hjm : j < m.size:=by omega
          rw [getD_append_left hjl]
          have e : (m.push { key:=y,val:=u,born:=cl }).getD j default = m.getD j default:=by
            simp [Array.getD,hjm,Array.getElem_push,Nat.lt_succ_of_lt hjm]
          rw [e]; exact this
        · obtain rfl : j = es.length:=by omega
          have e : (m.push { key:=y,val:=u,born:=cl }).getD es.length default = { key:=y,val:=u,born:=cl }:=by
            simp [Array.getD,← hms]
          rw [e]
          have e' : (es ++ [(AV.str q,v)]).getD es.length (.bot,.bot) = (.str q,v):=by simp [List.getD]
          rw [e']; exact ⟨hk,hv⟩)
      refine ⟨_,G,?_,p1,p2,(kept _).below (fun b hb=>by rw [hb]; exact (h.bnd i hil hlive).1) h.low⟩
      simp [Instr.mapUpdate,run_underlying h1,Result.andThen,hg,hck,hfk,hset]
    · have hfk:=findKeyS_run (w:=w) h2 e5
      subst e1
      have hjm : j < m.size:=by omega
      have hkey:=(old j e2).1
      rw [e6] at hkey
      have hmj : m.getD j default = m[j]:=by simp [Array.getD,hjm]
      rw [hmj] at hkey
      have hsb : Instr.sameBits 10000 m[j].key y = true:=c1_same (k:=.str) (n:=10000) (x:=.str q) (y:=.str q) (by simp [c1A]) hk hkey
      obtain ⟨p1,p2⟩:=entry (es.set j (.str q,v)) (m.modify j fun e=>{ e with key:=y,val:=u }) cl (born_modify g4) (by simp [hms]) (fun k hkl=>by
        simp only [List.length_set] at hkl
        have hkm : k < m.size:=by omega
        by_cases hkj : j = k
        · subst hkj
          rw [getD_set_self hkl]
          have e : (m.modify j fun e=>{ e with key:=y,val:=u }).getD j default = { m[j] with key:=y,val:=u }:=by simp [Array.getD,hjm,Array.getElem_modify]
          rw [e]; exact ⟨hk,hv⟩
        · rw [getD_set_ne' hkj]
          have e : (m.modify j fun e=>{ e with key:=y,val:=u }).getD k default = m.getD k default:=by simp [Array.getD,hkm,Array.getElem_modify,hkj]
          rw [e]; exact old k hkl)
      refine ⟨_,G,?_,by simpa [updS] using p1,p2,(kept _).below (fun b hb=>by rw [hb]; exact (h.bnd i hil hlive).1) h.low⟩
      simp [Instr.mapUpdate,run_underlying h1,Result.andThen,hg,hck,hfk,hset,hjm,Instr.keyThatStays,hsb]
def aggEq (P : Program) (t : TypeId) (n : Nat) (op : BinOp) : AV → AV → Option (Prop × AV)
  | .agg xs,.agg ys=>match keyS P t with
    | some l=>match eqK l xs ys with
      | some r=>match op with
        | .eql=>some (xs.length = n ∧ ys.length = n,.bool r)
        | .neq=>some (xs.length = n ∧ ys.length = n,.bool (!r))
        | _=>none
      | none=>none
    | none=>none
  | _,_=>none
theorem aggEq_ok {A : List Box} {base : Nat} {t : TypeId} {ti : TI} {op : BinOp} {ox oy : Operand} {x y v : AV} {a b : Value} {c : Prop}
    (ht : tinf P t = some ti) (hv : aggEq P t ti.size op x y = some (c,v)) (hp : c) (h : HRel G A w base) (hx : RV G w x a) (hy : RV G w y b) :
    YV G w base v A ((do eqGuard op t ox oy a b; binOp op t a b : Sem Value).run P w):=by
  obtain ⟨i,d,h1,h2,h3,h4,h5,h6⟩:=tinf_spec ht
  cases x <;> simp only [aggEq] at hv <;> try (cases hv; done)
  cases y <;> simp only [aggEq] at hv <;> try (cases hv; done)
  rename_i cs ds
  split at hv <;> try cases hv
  rename_i l hl
  split at hv <;> try cases hv
  rename_i r hr
  obtain ⟨fs,i',g1,g2,g3,g4,g5,g6,g7⟩:=keyS_spec hl
  have key : cs.length = ti.size → ds.length = ti.size → (Op.equalIn 10000 t a b).run P w = .ok r w:=fun e1 e2=>eqAgg_run (d:=9998) (n:=0) hl h1 (by rw [e1,h3]) (by rw [e2,h3]) hr hx hy
  have sh : ∃ xs ys,a = .agg xs ∧ b = .agg ys:=by cases hx; cases hy; exact ⟨_,_,rfl,rfl⟩
  obtain ⟨xs,ys,rfl,rfl⟩:=sh
  have hg:=run_eqGuard_agg w op t ox oy xs ys g5
  split at hv <;> cases hv
  · refine .same h (.bool _) ?_
    simp only [Sem.run_bind,hg,Result.andThen_ok,run_eql_struct,key hp.1 hp.2]
  · refine .same h (.bool _) ?_
    simp only [Sem.run_bind,hg,Result.andThen_ok,run_neq_struct,key hp.1 hp.2]
def cutOwn (A : List Box) (te : Option TI) (x : AV) (h : Int) : Option (Prop × AV × List Box) :=
  match x,te with
  | .own i,some te=>match A.getD i .dead with
    | .row sz rows s=>some (te.size = sz ∧ (s : Int) ≤ h ∧ h ≤ rows.length,.own A.length,A.set i .dead ++ [.row sz (rows.take h.toNat) s])
    | _=>none
  | .nils,some te=>some (h = 0,.nils,A)
  | _,_=>none
theorem cutOwn_ok {A A' : List Box} {base : Nat} {t e : TypeId} {ti te : TI} {x v : AV} {y : Value} {k : IntKind} {n : Int} {c : Prop}
    (ht : tinf P t = some ti) (hk : ti.kind = .slice e) (hte : tinf P e = some te) (hv : cutOwn A (some te) x n = some (c,v,A')) (hp : c) (h : HRel G A w base) (hx : RV G w x y) :
    YV G w base v A' ((Instr.sliceAt t y none (some (.int k n)) none).run P w):=by
  obtain ⟨i0,d,h1,h2,h3,h4,h5,h6⟩:=tinf_spec ht
  obtain ⟨ie,de,g1,g2,g3,g4,g5,g6⟩:=tinf_spec hte
  rw [h6] at hk
  obtain rfl:=tk_slice hk
  unfold cutOwn at hv
  split at hv
  rotate_left
  · cases hv
    obtain rfl : n = 0:=hp
    cases hx
    refine .same h .nils ?_
    have hbd:=sliceBounds_run (P:=P) (w:=w) (b:=true) (lo:=none) (hi:=some (.int k 0)) (l:=none) (h:=some 0) (len:=0) (cap:=0) (by simp) (by simp) (fun x hx=>by cases hx; exact ⟨k,0,rfl,rfl⟩) (by simp) (by simp) (by simp) (by simp) (by simp)
    simp [Instr.sliceAt,Instr.slice,run_underlying h2,Result.andThen,hbd,sizeOf_run g1]
  · cases hv
  rename_i i te' hteq
  split at hv <;> try cases hv
  rename_i sz rows s hb
  injection hteq with hteq
  subst hteq
  obtain ⟨p1,p2,p3⟩:=hp
  cases hx with
  | own i hi =>
    have hil : i < A.length:=by rw [← h.n]; exact hi
    have hlive : (A.getD i .dead).live = true:=by rw [hb]; rfl
    have hbox:=h.box i hil
    rw [hb] at hbox
    obtain ⟨cc,el,q1,q3,q4,q5,q6,q7,q8,q9,q10,q11⟩:=hbox
    have hbd:=sliceBounds_run (P:=P) (w:=w) (b:=true) (lo:=none) (hi:=some (.int k n)) (l:=none) (h:=some n) (len:=rows.length) (cap:=G.cap i) (by simp) (by simp) (fun x hx=>by cases hx; exact ⟨k,n,rfl,rfl⟩) (by simp) (by simp) (by simp; omega) (by simp; omega) q5
    simp only [Option.getD_none,Option.getD_some] at hbd
    have hmin : min n.toNat rows.length = n.toNat:=by omega
    have hh:=h.hand (w':=w) (.row sz (rows.take n.toNat) s) (G.off i) n.toNat (G.cap i) sz hil hlive ⟨rfl,rfl,rfl,Nat.le_refl _,fun _ _ _=>rfl⟩ (fun _ _=>rfl) (fun _ _ f=>f) fun e'=>by
      have hbb : (G.add (G.blk i) (G.off i) n.toNat (G.cap i) sz).blk G.n = G.blk i:=by simp [Ghost.add]
      have ho : (G.add (G.blk i) (G.off i) n.toNat (G.cap i) sz).off G.n = G.off i:=by simp [Ghost.add]
      have hcp : (G.add (G.blk i) (G.off i) n.toNat (G.cap i) sz).cap G.n = G.cap i:=by simp [Ghost.add]
      refine ⟨cc,el,by rw [hbb]; exact q1,q3,by simp [Ghost.add]; omega,by rw [hcp,List.length_take]; omega,by simp [Ghost.add],by rw [ho,hcp]; exact q7,by rw [List.length_take]; omega,fun r hr=>q9 r (List.mem_of_mem_take hr),fun a b ha hb'=>?_,fun o ho' hI=>?_⟩
      · rw [ho]
        rw [List.length_take] at ha
        have e1 : rowAt (rows.take n.toNat) a b = rowAt rows a b:=by
          unfold rowAt
          rw [getD_take _ _ _ _ (by omega)]
        rw [e1]
        exact (q10 a b (by omega) hb').mono e'
      · rw [ho] at ho'
        rw [hbb] at hI
        exact q11 o ho' hI
    have hnew : (G.add (G.blk i) (G.off i) n.toNat (G.cap i) sz).n = A.length + 1:=by simp [Ghost.add,h.n]
    have hrv:=RV.own (G:=G.add (G.blk i) (G.off i) n.toNat (G.cap i) sz) (w:=w) A.length (by rw [hnew]; omega)
    have e2 : (G.add (G.blk i) (G.off i) n.toNat (G.cap i) sz).blk A.length = G.blk i:=by simp [Ghost.add,h.n]
    have e3 : (G.add (G.blk i) (G.off i) n.toNat (G.cap i) sz).off A.length = G.off i:=by simp [Ghost.add,h.n]
    have e4 : (G.add (G.blk i) (G.off i) n.toNat (G.cap i) sz).len A.length = n.toNat:=by simp [Ghost.add,h.n]
    have e5 : (G.add (G.blk i) (G.off i) n.toNat (G.cap i) sz).cap A.length = G.cap i:=by simp [Ghost.add,h.n]
    rw [e2,e3,e4,e5] at hrv
    refine ⟨_,w,_,?_,hrv,hh.1,hh.2,Below.refl _ _⟩
    rw [q4]
    by_cases hz : G.cap i = 0
    · rw [hz] at hbd
      simp [Instr.sliceAt,Instr.slice,run_underlying h2,Result.andThen,hbd,sizeOf_run g1,hz]
    · simp [Instr.sliceAt,Instr.slice,run_underlying h2,Result.andThen,hbd,sizeOf_run g1,hz,Addr.add]
end
end Go.Abs
/- Rows that own others, rows of bytes, strings of them. -/
namespace Go.Abs
open Go.RowKit
def litRowsN (sz : Nat) : List (List AV) → List (Nat × AV) → Option (Prop × List (List AV))
  | rows,[]=>some (True,rows)
  | rows,(i,v) :: rest =>
    match cellsA v with
    | some vs=>match litRowsN sz (rows.set i vs) rest with
      | some (c,r)=>some (vs.length = sz ∧ i < rows.length ∧ (∀ v ∈ vs,isElem v = true) ∧ c,r)
      | none=>none
    | none=>none
theorem litRowsN_ok {G : Ghost} {w : World} {sz : Nat} : ∀ {ps : List (Nat × AV)} {qs : List (Nat × Value)} {rows r : List (List AV)} {cells : Array Value} {c : Prop},RP G w ps qs →
    litRowsN sz rows ps = some (c,r) → c → (∀ r ∈ rows,r.length = sz ∧ ∀ v ∈ r,isElem v = true) → RL G w rows.flatten cells.toList → (∀ x ∈ cells,x.oneCell' = true) →
    ∃ out,Instr.fill (fun i=>some (i * sz,sz)) cells qs = some out ∧ RL G w r.flatten out.toList ∧ (∀ x ∈ out,x.oneCell' = true) ∧ (∀ r' ∈ r,r'.length = sz ∧ ∀ v ∈ r',isElem v = true) ∧ r.length = rows.length
  | [],[],rows,r,cells,c,_,hf,_,hr,hcs,h1=>by
    simp only [litRowsN] at hf; cases hf
    exact ⟨cells,rfl,hcs,h1,hr,rfl⟩
  | [],_ :: _,rows,r,cells,c,hp,hf,_,hr,hcs,h1=>by have:=hp.1; simp at this
  | _ :: _,[],rows,r,cells,c,hp,hf,_,hr,hcs,h1=>by have:=hp.1; simp at this
  | (i,v) :: ps,(i',x) :: qs,rows,r,cells,c,hp,hf,hc,hr,hcs,h1=>by
    have e:=hp.1
    simp only [List.map_cons,List.cons.injEq] at e
    obtain ⟨rfl,e⟩:=e
    simp only [litRowsN] at hf
    split at hf <;> try cases hf
    rename_i vs hcv
    split at hf <;> try cases hf
    rename_i c' r' hrest
    obtain ⟨a1,a2,a3,a4⟩:=hc
    have hr':=hp.2
    simp only [List.map_cons] at hr'
    obtain ⟨b1,b2⟩:=cellsA_ok hr'.head hcv
    have hl:=b1.1
    have hcl:=hcs.1
    have hfl:=flat_length (fun r hr'=>(hr r hr').1)
    simp at hl hcl
    have hks : i * sz + sz ≤ rows.length * sz:=by
      have:=Nat.mul_le_mul_right sz (Nat.succ_le_of_lt a2); rwa [Nat.succ_mul] at this
    have hflen : rows.flatten.length = cells.size:=by rw [hcs.1]; simp
    have hone:=fill_one (v:=x) (cells:=cells) (off:=i * sz) (by omega)
    have hset:=flatten_set (fun r hr'=>(hr r hr').1) a2 a1
    obtain ⟨out,o1,o2,o3,o4,o5⟩:=litRowsN_ok (sz:=sz) (qs:=qs) (cells:=x.cells.zipIdx.foldl (fun cs (c,j)=>cs.setIfInBounds (i * sz + j) c) cells) ⟨e,hr'.tail⟩ hrest a4 (fun r2 h2=>by
        rcases List.mem_or_eq_of_mem_set h2 with h2 | h2
        · exact hr r2 h2
        · subst h2; exact ⟨a1,a3⟩) (by rw [hone,hset]; exact hcs.splice b1 (by omega)) (fun y hy=>by
      have hy' : y ∈ (x.cells.zipIdx.foldl (fun cs (c,j)=>cs.setIfInBounds (i * sz + j) c) cells).toList:=by simpa using hy
      rw [hone] at hy'
      simp only [List.mem_append] at hy'
      rcases hy' with (hy' | hy') | hy'
      · exact h1 y (by simpa using List.mem_of_mem_take hy')
      · exact b2 y (by simpa using hy')
      · exact h1 y (by simpa using List.mem_of_mem_drop hy'))
    refine ⟨out,?_,o2,o3,o4,by simpa using o5⟩
    simp only [Instr.fill]
    rw [if_neg (by simp; omega)]
    exact o1
theorem buildSliceN_ok {P : Program} {G : Ghost} {A : List Box} {w : World} {base : Nat} {t e : TypeId} {ti te : TI} {zc : List AV} {r : List (List AV)} {len : Nat} {ps : List (Nat × AV)} {qs : Array (Nat × Value)} {c : Prop}
    (ht : tinf P t = some ti) (hk : ti.kind = .slice e) (hte : tinf P e = some te) (hz : te.zero = some zc) (hzl : zc.length = te.size) (hzf : (zc.map lfz).all isLeaf = true) (hlen : len * te.size ≤ 16777216)
    (hf : litRowsN te.size (List.replicate len (zc.map lfz)) ps = some (c,r)) (hp : c)
    (h : HRel G A w base) (hx : RP G w ps qs.toList) : YV G w base (.own A.length) (A ++ [.gr none te.size r]) ((Instr.buildSlice t len qs).run P w):=by
  obtain ⟨i,d,h1,h2,h3,h4,h5,h6⟩:=tinf_spec ht
  obtain ⟨ie,de,g1,g2,g3,g4,g5,g6⟩:=tinf_spec hte
  rw [h6] at hk
  obtain rfl:=tk_slice hk
  rw [g5] at hz
  obtain ⟨z,hz',c1,c2⟩:=zeroA_ok (G:=G) (w:=w) hz
  have hrep : ∀ r ∈ List.replicate len (zc.map lfz),r.length = te.size ∧ ∀ v ∈ r,isElem v = true:=fun r hr=>by
    obtain rfl:=(List.mem_replicate.1 hr).2
    exact ⟨by simpa using hzl,fun v hv=>leaf_elem (List.all_eq_true.1 hzf v hv)⟩
  obtain ⟨z1,z2⟩:=zeros_ok (n:=len) (sz:=te.size) c1.lfz c2 (by simpa using hzl)
  have hcells : RL G w (List.replicate len (zc.map lfz)).flatten ((Array.range (len * te.size)).map (z.cells[· % z.cells.size]!)).toList :=
    RL.ofRows (fun r hr=>(hrep r hr).1) (by simp) (by simpa using z1)
  obtain ⟨out,o1,o2,o3,o4,o5⟩:=litRowsN_ok hx hf hp hrep hcells z2
  have hol : out.size = len * te.size:=by
    have:=o2.1
    rw [flat_length (fun r hr=>(o4 r hr).1),o5] at this
    simpa using this.symm
  have hrl : r.length = len:=by simpa using o5
  obtain ⟨G',p1,p2,p3,p4⟩:=push_gen (s:=0) (cap:=len) (c:=out) (e:=e) (grKind none te.size) (fun t ht=>by cases ht) h o3 o4 (by omega) (by omega) (by omega) (RL.rows (fun r hr=>(o4 r hr).1) o2)
  refine ⟨_,_,G',?_,p3,p1,p2,p4⟩
  rw [hrl]
  rw [g3] at o1 hlen
  by_cases hn : len * ie.size = 0
  · rw [hn,Array.range_zero',Array.map_empty] at o1
    simp [Instr.buildSlice,run_underlying h2,Result.andThen,sizeOf_run g1,hn,Array.range_zero',o1,newRow,Nat.not_lt.2 hlen]
  · simp [Instr.buildSlice,run_underlying h2,Result.andThen,sizeOf_run g1,zeroValue_run g1 hz',hn,o1,newRow,Nat.not_lt.2 hlen]
theorem srcN_ok {P : Program} {G : Ghost} {A : List Box} {w : World} {base : Nat} {tx : TypeId} {ti : TI} {i sz : Nat} {te : Option TypeId} {y : Value} {xs : List (List AV)}
    (ht : tinf P tx = some ti) (hk : ∃ e,ti.kind = .slice e) (h : HRel G A w base) (hx : RV G w (.own i) y) (hb : A.getD i .dead = .gr te sz xs) :
    ∃ news,Src P sz tx y xs.length news w ∧ RL G w xs.flatten news ∧ (∀ r ∈ xs,∀ v ∈ r,isElem v = true):=by
  cases hx with
  | own _ hi =>
    have hbx:=h.box i (by rw [← h.n]; exact hi)
    rw [hb] at hbx
    obtain ⟨⟨c,el,q1,q3,q4,q5,q6,q7,q8,q9,q10,q11⟩,_⟩:=hbx
    refine src_gen (P:=P) (E:=isElem) (fun _=>elem_cell) ht (fun r hr=>(q9 r hr).1) (G.blk i) (G.off i) (G.len i) (G.cap i) (fun k j=>c.getD (G.off i + (k * sz + j)) undef) rfl q4 hk (fun r hr=>(q9 r hr).2) fun k j hk' hj=>⟨cell?_of q1 ?_,q10 k j hk' hj⟩
    have:=row_in hk' hj q5
    omega
theorem kept_freeze {w : World} {p : Addr} {n : Nat} : Kept (fun b=>b = p.block) w (w.freeze p n):=by
  unfold World.freeze
  split
  · exact ⟨rfl,rfl,rfl,Nat.le_refl _,fun _ _ _=>rfl⟩
  · exact ⟨rfl,rfl,rfl,by simp,fun k hk hne=>by
      simp only [Array.getElem?_modify]
      rw [if_neg (fun e=>hne e.symm)]⟩
def isOctet : List AV → Bool
  | [.int .u8 n]=>decide (0 ≤ n ∧ n < 256)
  | _=>false
theorem isOctet_spec {r : List AV} (h : isOctet r = true) : ∃ b : UInt8,byteOf r = b ∧ r = [.int .u8 (b.toNat : Nat)]:=by
  unfold isOctet at h
  split at h
  · rename_i n
    simp only [decide_eq_true_eq] at h
    refine ⟨_,rfl,?_⟩
    have : ((UInt8.ofNat n.toNat).toNat : Int) = n:=by
      have h1 : n.toNat < 256:=by omega
      simp [UInt8.toNat_ofNat,Nat.mod_eq_of_lt h1]
      omega
    simp only [byteOf,this]
  · cases h
def sdataA (A : List Box) : AV → Option (Prop × AV × List Box)
  | .nils=>some (True,.nilp,A)
  | .own i=>match A.getD i .dead with
    | .gr (some _) 1 rows=>some (0 < rows.length,.eptr i 0 0,A)
    | _=>none
  | _=>none
def ustrA (P : Program) (A : List Box) (pt : TK) : AV → Int → Option (Prop × AV × List Box)
  | .nilp,n=>some (n = 0,.str [],A)
  | .eptr i 0 0,n=>match A.getD i .dead with
    | .gr (some e) 1 rows=>match pt with
      | .ptr e'=>match tinf P e with
        | some te=>some (e' = e ∧ te.size = 1 ∧ n = rows.length ∧ 0 < rows.length ∧ (∀ r ∈ rows,isOctet r = true) ∧ rows.length ≤ 9223372036854775807,.str (rows.map byteOf),A.set i .dead)
        | none=>none
      | _=>none
    | _=>none
  | _,_=>none
theorem sdata_ok {P : Program} {G : Ghost} {A A' : List Box} {w : World} {base : Nat} {ts : Array TypeId} {ty : TypeId} {x v : AV} {y : Value} {c : Prop} (hv : sdataA A x = some (c,v,A')) (hp : c) (h : HRel G A w base) (hx : RV G w x y) :
    YV G w base v A' ((Builtin.unsafeSliceData_ ts ty #[y]).run P w):=by
  cases hx with
  | nils=>simp only [sdataA] at hv; cases hv; exact .same h .nilp (Lib.run_unsafeSliceData_nil w ts ty 0 0)
  | own i hi =>
    simp only [sdataA] at hv
    have hb:=h.box i (by rw [← h.n]; exact hi)
    split at hv <;> try cases hv
    rename_i e rows hb0
    rw [hb0] at hb
    obtain ⟨⟨c,el,q1,q3,q4,q5,q6,q7,q8,q9,q10,q11⟩,_⟩:=hb
    refine .same h ?_ (Lib.run_unsafeSliceData_row w ts ty _ _ _ (by omega))
    have:=RV.eptr (w:=w) i 0 0 hi
    simpa using this
  | _=>simp [sdataA] at hv
theorem ustr_ok {P : Program} {G : Ghost} {A A' : List Box} {w : World} {base : Nat} {pt it ty : TypeId} {tp : TI} {x v : AV} {y : Value} {n : Int} {c : Prop} (ht : tinf P pt = some tp) (hv : ustrA P A tp.kind x n = some (c,v,A')) (hp : c) (h : HRel G A w base) (hx : RV G w x y) :
    YV G w base v A' ((Builtin.unsafeString_ #[pt,it] ty #[y,.int .i64 n]).run P w):=by
  obtain ⟨i0,d,h1,h2,h3,h4,h5,h6⟩:=tinf_spec ht
  cases hx with
  | nilp =>
    simp only [ustrA] at hv; cases hv
    subst hp
    exact .same h (.str []) (Lib.run_unsafeString_none w pt it ty none)
  | eptr i k j hi =>
    unfold ustrA at hv
    split at hv
    · cases ‹AV.eptr i k j = AV.nilp›
    · rename_i i' he
      cases he
      have hil : i < A.length:=by rw [← h.n]; exact hi
      have hb:=h.box i hil
      split at hv <;> try cases hv
      rename_i e rows hb0
      split at hv <;> try cases hv
      rename_i e' hke
      split at hv <;> try cases hv
      rename_i te hte
      obtain ⟨rfl,p2,rfl,p4,p5,p6⟩:=hp
      rw [h6] at hke
      obtain rfl:=tk_ptr hke
      obtain ⟨ie,de,g1,g2,g3,g4,g5,g6⟩:=tinf_spec hte
      have hlive : (A.getD i .dead).live = true:=by rw [hb0]; rfl
      rw [hb0] at hb
      obtain ⟨⟨cur,el,q1,q3,q4,q5,q6,q7,q8,q9,q10,q11⟩,qt⟩:=hb
      obtain ⟨t1,c',t2⟩:=qt _ rfl
      rw [q1] at t2; cases t2
      have hcell : ∀ j x,(rows.map byteOf)[j]? = some x → w.cell? ((⟨G.blk i,0,none⟩ : Addr).add j) = some (.int .u8 x.toNat):=fun j x hj=>by
        simp only [List.getElem?_map,Option.map_eq_some_iff] at hj
        obtain ⟨r,hr,rfl⟩:=hj
        obtain ⟨hjl,hr⟩:=List.getElem?_eq_some_iff.1 hr
        have hm:=getD_mem (d:=[]) hjl
        have hrd : rows.getD j [] = r:=by simp [List.getD,hjl,hr]
        rw [hrd] at hm
        obtain ⟨b,hb1,hb2⟩:=isOctet_spec (p5 r hm)
        have hx:=q10 j 0 hjl (by omega)
        rw [t1] at hx
        simp only [rowAt,hrd,hb2] at hx
        rw [Addr.add_lit,cell?_of q1 (by rw [t1] at q7; omega)]
        simp only [Nat.mul_one,Nat.add_zero,Nat.zero_add] at hx ⊢
        generalize cur.getD j undef = q at hx
        simp at hx
        cases hx
        rw [hb1]
      have hsh : w.shape? (G.blk i) = some (e',cur.size):=by simp [World.shape?,q1]
      have hrun:=Lib.run_unsafeString_row (P:=P) w pt it ty e' h2 (by rw [Program.cellsOf]; simp [g1]; omega) (G.blk i) cur.size hsh (rows.map byteOf) (by intro e0; have:=congrArg List.length e0; simp at this; rw [this] at p4; simp at p4) (by simp; rw [t1] at q7; omega) (by simpa using p6) hcell
      have hs:=h.set (w':=w.freeze ⟨G.blk i,0,none⟩ (rows.map byteOf).length) .dead hil hlive (kept_freeze (p:=⟨G.blk i,0,none⟩)) (fun o ho=>absurd ho (q11 o (by rw [t1]; omega))) (fun o ho=>absurd ho (q11 o (by rw [t1]; omega))) fun _=>trivial
      refine ⟨_,_,G,?_,.str _,hs.1,hs.2,(kept_freeze (p:=⟨G.blk i,0,none⟩)).below (fun b hb=>by rw [hb]; exact (h.bnd i hil hlive).1) h.low⟩
      simpa [t1] using hrun
    · cases hv
  | _=>simp [ustrA] at hv
end Go.Abs
