/- One operation. -/
import Derived.Test.YtfefnoaebafkiaaAbsY
set_option linter.unusedVariables false
set_option linter.unusedSimpArgs false
namespace Go.Abs
open Go.RowKit

def pickA : AV → AV → AV → Option AV
  | .bool c, .bool x, .bool y => some (.bool (bif c then x else y))
  | .bool c, a, b => some (if c = true then a else b)
  | _, _, _ => none

def isPtr : AV → Bool
  | .ptr .. | .eptr .. | .vptr _ | .iface .. => true
  | _ => false

def pairs (is : List Nat) (vs : List AV) : List (Nat × AV) := is.zip vs

def sliceOp (A : List Box) (x : AV) (lo hi : Option Int) (te : Option TI) : Option (Prop × AV × List Box) :=
  match frz1 x A with
  | some (x', A') => match sliceA lo hi x' with
    | some (c, v) => match x' with
      | .slice rows => match te with
        | some te => some ((∀ r ∈ rows, r.length = te.size) ∧ c, v, A')
        | none => none
      | .aslice rows => match te with
        | some te => some ((∀ r ∈ rows, r.length = te.size) ∧ c, v, A')
        | none => none
      | .str _ => some (c, v, A')
      | _ => none
    | none => none
  | none => none

def elemOf? (P : Program) (k : TK) : Option TI :=
  match k with
  | .slice e => tinf P e
  | _ => none

def isStr : AV → Bool
  | .str _ => true
  | _ => false
def tkStr : TK → Bool
  | .str => true
  | _ => false
def tkSlice : TK → Bool
  | .slice _ => true
  | _ => false

def tkIface : TK → Bool
  | .iface => true
  | _ => false

def isU8 : TK → Bool
  | .int .u8 => true
  | _ => false
def elemId : TK → TypeId
  | .slice e => e
  | _ => 0

/-- append of what owns others -/
def appendN (te : TI) (A : List Box) (s x : AV) (zc : List AV) : Option (Prop × AV × List Box) :=
  match x with
  | .own j => match A.getD j .dead with
    | .gr _ sx xs => match s with
      | .own i => match A.getD i .dead with
        | .gr none sz rows => some (te.size = sz ∧ zc.length = sz ∧ (0 < te.bytes ∧ te.bytes ≤ 65536) ∧ sx = sz ∧ rows.length + xs.length ≤ 1073741824, .own A.length, A.set i .dead ++ [.gr none sz (rows ++ xs)])
        | _ => none
      | .nils => some (zc.length = te.size ∧ (0 < te.bytes ∧ te.bytes ≤ 65536) ∧ sx = te.size ∧ 0 < xs.length ∧ xs.length ≤ 1073741824, .own A.length, A ++ [.gr none te.size xs])
      | _ => none
    | _ => none
  | _ => none

def appendA (e : TypeId) (te : TI) (A : List Box) (s x : AV) : Option (Prop × AV × List Box) :=
  match te.zero with
  | some zc => match rowsOf A x with
    | some xs => match s with
      | .own i => match A.getD i .dead with
        | .row sz rows sl => some (te.size = sz ∧ zc.length = sz ∧ (0 < te.bytes ∧ te.bytes ≤ 65536) ∧ (∀ r ∈ xs, r.length = sz) ∧ rows.length + xs.length ≤ 1073741824, .own A.length, A.set i .dead ++ [.row sz (rows ++ xs) sl])
        | .gr tt sz rows => some ((∀ t, tt = some t → t = e) ∧ te.size = sz ∧ zc.length = sz ∧ (0 < te.bytes ∧ te.bytes ≤ 65536) ∧ (∀ r ∈ xs, r.length = sz) ∧ rows.length + xs.length ≤ 1073741824, .own A.length, A.set i .dead ++ [.gr tt sz (rows ++ xs)])
        | _ => none
      | .nils => match isU8 te.kind with
        | false => some (zc.length = te.size ∧ (0 < te.bytes ∧ te.bytes ≤ 65536) ∧ (∀ r ∈ xs, r.length = te.size) ∧ 0 < xs.length ∧ xs.length ≤ 1073741824, .own A.length, A ++ [.row te.size xs 0])
        | true => some (zc.length = te.size ∧ (0 < te.bytes ∧ te.bytes ≤ 65536) ∧ (∀ r ∈ xs, r.length = te.size) ∧ 0 < xs.length ∧ xs.length ≤ 1073741824, .own A.length, A ++ [.gr (some e) te.size xs])
      | _ => none
    | none => appendN te A s x zc
  | none => none

def builtinA (P : Program) (b : Builtin) (ts : Array TypeId) (vs : List AV) (A : List Box) : Option (Prop × AV × List Box) :=
  match b, vs, ts.toList with
  | .len, [x], [t] => match tinf P t with
    | some ti => match lenA A x with
      | some n => if (tkStr ti.kind && isStr x) || (tkSlice ti.kind && !isStr x) then some (True, .int .i64 (n : Nat), A) else none
      | none => none
    | none => none
  | .append, [s, x], [t, tx] => match tinf P t, tinf P tx with
    | some ti, some tix => match elemOf? P ti.kind with
      | some te => if (tkStr tix.kind && isStr x && te.size == 1) || (tkSlice tix.kind && !isStr x) then appendA (elemId ti.kind) te A s x else none
      | none => none
    | _, _ => none
  | .max, [.int k x, .int k' y], [_, _] => some (k' = k, .int k (if y > x then y else x), A)
  | .min, [.int k x, .int k' y], [_, _] => some (k' = k, .int k (if y < x then y else x), A)
  | .unsafeSliceData, [x], [_] => sdataA A x
  | .unsafeString, [x, .int .i64 n], [pt, _] => match tinf P pt with
    | some tp => ustrA P A tp.kind x n
    | none => none
  | _, _, _ => none

/-- a method that is found at once -/
def methA (P : Program) (t : TypeId) (name : String) : Option FuncId :=
  match P.info? t, P.underlying t with
  | some i, some d => match i.methods.find? (·.name == name) with
    | some m => match m.func, m.path.toList, d with
      | some (f, true), [], .pointer _ => some f
      | some (f, true), [], _ => none
      | some (f, false), [], .pointer _ => none
      | some (f, false), [], _ => some f
      | _, _, _ => none
    | none => none
  | _, _ => none

/-- the method is there -/
def methP (P : Program) (t : TypeId) (name : String) : Prop := (methA P t name).isSome = true
/-- a function value that is not nil -/
def notNil (P : Program) : AV → Option Prop
  | .func (.func _) _ _ => some True
  | .func (.method name) [.iface t _] [] => some (methP P t name)
  | _ => none

/-- what a Builder is at first -/
def bldZ : List AV → Bool
  | [.nilp, .nils] => true
  | _ => false

/-- the zero value of a struct -/
def zagg (P : Program) (t : TypeId) : Option (List AV) :=
  match P.info? t, P.underlying t with
  | some i, some (.struct _) => match i.zero with
    | some (.agg xs) => zeroA (some (.agg xs))
    | _ => none
  | _, _ => none
/-- whether an interface value holds a struct -/
def assertA (u : TypeId) (zc : List AV) (x : AV) (A : List Box) : Option (Prop × AV × List Box) :=
  match x with
  | .iface t v => some (True, .tuple (if t = u then [v, .bool true] else [.agg zc, .bool false]), A)
  | .nili => some (True, .tuple [.agg zc, .bool false], A)
  | _ => none

def astep (P : Program) (op : Op) (vs : List AV) (A : List Box) : Option (Prop × AV × List Box) :=
  match op, vs with
  | .move _, [x] => some (True, x, A)
  | .assign _, [x] => some (True, x, A)
  | .pick _ _ _, [c, a, b] => match pickA c a b with
    | some v => some (True, v, A)
    | none => none
  | .alloc e, [] => match tinf P e with
    | some ti => match ti.zero with
      | some cs => match bldZ cs with
        | false => some (True, .ptr A.length 0, A ++ [.cells cs])
        | true => some (True, .ptr A.length 0, A ++ [.tc e cs])
      | none => none
    | none => none
  | .box _ _, [x] => match cellsA x with
    | some cs => some (True, .ptr A.length 0, A ++ [.cells cs])
    | none => none
  | .build t parts, vs => match tinf P t with
    | some ti => match ti.kind, ti.zero with
      | .struct fs, some zc => if fs.all (fun f => f.2.2 != 0) = true then match fillA (fun i => (fs[i]?).map fun f => (f.1, f.2.2)) zc (pairs (parts.toList.map (·.1)) vs) with
          | some (c, r) => some (c, .agg r, A)
          | none => none
        else none
      | _, _ => none
    | none => none
  | .buildSlice t len parts, vs => match tinf P t with
    | some ti => match elemOf? P ti.kind with
      | some te => match te.zero, frzs vs A with
        | some zc, some (vs', A') => if zc.length = te.size ∧ (zc.map lfz).all isLeaf = true ∧ len * te.size ≤ 16777216 then match litRows te.size (List.replicate len (zc.map lfz)) (pairs (parts.toList.map (·.1)) vs') with
            | some (c, r) => some (c, .own A'.length, A' ++ [.row te.size r 0])
            | none => none
          else none
        | some zc, none => if zc.length = te.size ∧ (zc.map lfz).all isLeaf = true ∧ len * te.size ≤ 16777216 then match litRowsN te.size (List.replicate len (zc.map lfz)) (pairs (parts.toList.map (·.1)) vs) with
            | some (c, r) => some (c, .own A.length, A ++ [.gr none te.size r])
            | none => none
          else none
        | _, _ => none
      | none => none
    | none => none
  | .load t _, [p] => match tinf P t, cellsOf A p with
    | some ti, some cs => match loadA ti cs with
      | some (c, v) => some (c, v, A)
      | none => none
    | _, _ => none
  | .store t _ _, [p, v] => match tinf P t with
    | some ti => match (match p with | .eptr .. => frzC v A | _ => some (v, A)) with
      | some (v', A1) => match cellsA v' with
        | some vs => match storeA A1 p vs with
          | some (c, A') => some (vs.length = ti.size ∧ c, .bot, A')
          | none => none
        | none => none
      | none => match cellsA v with
        | some vs => match storeN A p vs with
          | some (c, A') => some (vs.length = ti.size ∧ c, .bot, A')
          | none => none
        | none => none
    | none => none
  | .nilCheck _, [p] => if isPtr p = true then some (True, p, A) else match notNil P p with
    | some c => some (c, p, A)
    | none => none
  | .binOp op t _ _ _, [x, y] => match tinf P t with
    | some ti => match binA op ti.kind x y with
      | some (c, v) => some (c, v, A)
      | none => match aggEq P t ti.size op x y with
        | some (c, v) => some (c, v, A)
        | none => none
    | none => none
  | .makeFunc fn first _, vs => some (True, .func fn (vs.take first.size) (vs.drop first.size), A)
  | .makeMap _ none, [] => some (True, .map A.length, A ++ [.mapb []])
  | .lookup t _ _ true, [.map i, .agg ks] => match mapInf P t with
    | some (_, l, n, z) => match A.getD i .dead with
      | .mapb es => match findA l ks es 0 with
        | some r => some (ks.length = n ∧ ks.all isCell = true, .tuple [lkV r z, .bool r.isSome], A)
        | none => none
      | _ => none
    | none => none
  | .lookup t _ _ false, [.map i, .agg ks] => match mapInf P t with
    | some (_, l, n, z) => match A.getD i .dead with
      | .mapb es => match findA l ks es 0 with
        | some r => some (ks.length = n ∧ ks.all isCell = true, lkV r z, A)
        | none => none
      | _ => none
    | none => none
  | .mapUpdate t _ _ _, [.map i, .agg ks, v] => match mapInf P t with
    | some (_, l, n, z) => match A.getD i .dead with
      | .mapb es => match findA l ks es 0 with
        | some r => some (ks.length = n ∧ ks.all isCell = true, .bot, A.set i (.mapb (updA r ks v es)))
        | none => none
      | _ => none
    | none => none
  | .unOp op _ _, [x] => match unA op x with
    | some v => some (True, v, A)
    | none => none
  | .convert s d _, [x] => match tinf P s, tinf P d with
    | some si, some di => match convA P A si.kind di.kind x with
      | some (c, v) => some (c, v, A)
      | none => none
    | _, _ => none
  | .makeSlice t _ _, [.int _ l, .int _ c] => match tinf P t with
    | some ti => match elemOf? P ti.kind with
      | some te => match te.zero with
        | some zc => if zc.length = te.size ∧ (zc.map lfz).all isLeaf = true ∧ te.bytes ≤ 65536 then some (0 ≤ l ∧ l ≤ c ∧ c ≤ 1073741824, .own A.length, A ++ [.row te.size (List.replicate l.toNat (zc.map lfz)) 0]) else none
        | none => none
      | none => none
    | none => none
  | .slice t _ none none none, [x] => match tinf P t with
    | some ti => if tkStr ti.kind = isStr x then sliceOp A x none none (elemOf? P ti.kind) else none
    | none => none
  | .slice t _ (some _) none none, [x, .int _ l] => match tinf P t with
    | some ti => if tkStr ti.kind = isStr x then sliceOp A x (some l) none (elemOf? P ti.kind) else none
    | none => none
  | .slice t _ none (some _) none, [x, .int _ h] => match tinf P t with
    | some ti => match cutOwn A (elemOf? P ti.kind) x h with
      | some r => some r
      | none => if tkStr ti.kind = isStr x then sliceOp A x none (some h) (elemOf? P ti.kind) else none
    | none => none
  | .slice t _ (some _) (some _) none, [x, .int _ l, .int _ h] => match tinf P t with
    | some ti => if tkStr ti.kind = isStr x then sliceOp A x (some l) (some h) (elemOf? P ti.kind) else none
    | none => none
  | .fieldAddr t _ k, [p] => match tinf P t with
    | some ti => match ti.kind with
      | .struct fs => match fs[k]? with
        | some (off, _, sz) => if sz = 0 then none else match shiftP off p with
          | some v => some (True, v, A)
          | none => none
        | none => none
      | _ => none
    | none => none
  | .field t _ k, [.agg cs] => match tinf P t with
    | some ti => match ti.kind with
      | .struct fs => match fs[k]? with
        | some (off, ty, _) => match tinf P ty with
          | some tf => match partA tf cs off with
            | some (c, v) => some (c, v, A)
            | none => none
          | none => none
        | none => none
      | _ => none
    | none => none
  | .indexAddr t _ _, [x, .int _ n] => match tinf P t with
    | some ti => match elemOf? P ti.kind with
      | some te => match idxA te.size A x n with
        | some (c, v) => some (c, v, A)
        | none => none
      | none => none
    | none => none
  | .index t _ _, [.str s, .int _ n] => match tinf P t with
    | some ti => if tkStr ti.kind = true then some (0 ≤ n ∧ n < s.length, .int .u8 ((s.getD n.toNat 0).toNat : Nat), A) else none
    | none => none
  | .typeAssert _ _ u true, [x] => match zagg P u with
    | some zc => assertA u zc x A
    | none => none
  | .extract _ k, [.tuple cs] => some (k < cs.length, cs.getD k .bot, A)
  | .makeInterface t _, [x] => match tinf P t with
    | some ti => match tkIface ti.kind with
      | true => none
      | false => match frzC x A with
        | some (x', A') => some (isWhole x' = true, .iface t x', A')
        | none => none
    | none => none
  | .call ⟨.builtin b, _, ts⟩, vs => builtinA P b ts vs A
  | _, _ => none

theorem RV.pair {G : Ghost} {w : World} {u v : AV} {x y : Value} (h : RV G w u x) (k : RV G w v y) : RV G w (.tuple [u, v]) (.tuple #[x, y]) :=
  .tuple _ _ rfl fun i hi => match i, hi with
    | 0, _ => h
    | 1, _ => k
theorem assert_ok {P : Program} {G : Ghost} {A A' : List Box} {w : World} {base : Nat} {t u : TypeId} {zc : List AV} {a v : AV} {y : Value} {c : Prop} (hz : zagg P u = some zc) (hs : assertA u zc a A = some (c, v, A')) (h : HRel G A w base) (hx : RV G w a y) :
    YV G w base v A' ((Instr.typeAssert y t u true).run P w) := by
  unfold zagg at hz
  split at hz <;> try cases hz
  rename_i i fs hi hu
  split at hz <;> try cases hz
  rename_i xs hq
  obtain ⟨z, e, c1, c2⟩ := zeroA_ok (G := G) (w := w) hz
  cases e
  have c1' : RL G w zc xs.toList := c1
  have c2' : ∀ y ∈ xs, y.oneCell' = true := c2
  have hzv : RV G w (.agg zc) (.agg xs) := .agg zc xs (by have := c1'.1; simp at this; omega) c2' fun j hj => by
    have hjx : j < xs.size := by have := c1'.1; simp at this; omega
    have := c1'.2 j hj
    simpa [List.getD, Array.getD, hjx] using this
  have hzr := zeroValue_run (P := P) hi hq w
  cases hx <;> simp only [assertA] at hs <;> try cases hs
  · rename_i t' v' x' hv hr
    by_cases ht : t' = u
    · rw [if_pos ht]
      exact .same h (.pair hr (.bool true)) (by simp [Instr.typeAssert, run_underlying hu, Result.andThen, ht])
    · rw [if_neg ht]
      exact .same h (.pair hzv (.bool false)) (by simp [Instr.typeAssert, run_underlying hu, Result.andThen, ht, hzr])
  · exact .same h (.pair hzv (.bool false)) (by simp [Instr.typeAssert, run_underlying hu, Result.andThen, hzr])

theorem pick_ok {G : Ghost} {w : World} {c a b v : AV} {x y z : Value} (h : pickA c a b = some v) (hc : RV G w c x) (ha : RV G w a y) (hb : RV G w b z) :
    ∃ t, x = .bool t ∧ RV G w v (if t then y else z) := by
  unfold pickA at h
  split at h
  · cases hc; cases ha; cases hb; cases h
    rename_i c x y
    cases c
    · exact ⟨false, rfl, by simpa using .bool y⟩
    · exact ⟨true, rfl, by simpa using .bool x⟩
  · cases hc; cases h
    rename_i c _
    cases c
    · exact ⟨false, rfl, by simpa using hb⟩
    · exact ⟨true, rfl, by simpa using ha⟩
  · cases h

theorem RL.one {G : Ghost} {w : World} {v : AV} {xs : List Value} (h : RL G w [v] xs) : ∃ x, xs = [x] ∧ RV G w v x := by
  match xs, h with
  | [x], h => exact ⟨x, rfl, h.head⟩
  | [], h => have := h.1; simp at this
  | _ :: _ :: _, h => have := h.1; simp at this

theorem RP.ofZip {G : Ghost} {w : World} : ∀ {is : List Nat} {vs : List AV} {qs : List (Nat × Value)}, qs.map (·.1) = is → RL G w vs (qs.map (·.2)) → RP G w (pairs is vs) qs := fun {is vs qs} h1 h2 => by
  subst h1
  have hl := h2.1
  simp only [List.length_map] at hl
  refine ⟨?_, ?_⟩
  · unfold pairs; rw [List.map_fst_zip (by simp [hl])]
  · unfold pairs; rw [List.map_snd_zip (by simp [hl])]; exact h2

theorem tkStr_spec {k : TK} (h : tkStr k = true) : k = .str := by cases k <;> simp_all [tkStr]
theorem tkSlice_spec {k : TK} (h : tkSlice k = true) : ∃ e, k = .slice e := by cases k <;> simp_all [tkSlice]
theorem elemOf_spec {P : Program} {k : TK} {te : TI} (h : elemOf? P k = some te) : ∃ e, k = .slice e ∧ tinf P e = some te := by
  cases k <;> simp_all [elemOf?]
theorem isStr_spec {x : AV} (h : isStr x = true) : ∃ s, x = .str s := by cases x <;> simp_all [isStr]
theorem isStr_no {x : AV} (h : isStr x = false) : ∀ s, x ≠ .str s := by cases x <;> simp_all [isStr]

theorem YV.ext {G G1 : Ghost} {w : World} {base : Nat} {v : AV} {A' : List Box} {r : Result Value} (e : Ext G w G1 w) (h : YV G1 w base v A' r) : YV G w base v A' r := by
  obtain ⟨x, w', G', h1, h2, h3, h4, h5⟩ := h
  exact ⟨x, w', G', h1, h2, h3, e.trans h4, h5⟩

theorem sliceOp_ok {P : Program} {G : Ghost} {A A' : List Box} {w : World} {base : Nat} {t : TypeId} {ti : TI} {x v : AV} {y : Value} {lo hi : Option Value} {l h' : Option Int} {c : Prop}
    (ht : tinf P t = some ti) (hk : tkStr ti.kind = isStr x) (hv : sliceOp A x l h' (elemOf? P ti.kind) = some (c, v, A')) (hp : c)
    (hl : ∀ x, lo = some x → ∃ k n, x = .int k n ∧ l = some n) (hl0 : lo = none → l = none) (hh : ∀ x, hi = some x → ∃ k n, x = .int k n ∧ h' = some n) (hh0 : hi = none → h' = none)
    (h : HRel G A w base) (hx : RV G w x y) : YV G w base v A' ((Instr.sliceAt t y lo hi none).run P w) := by
  unfold sliceOp at hv
  split at hv <;> try cases hv
  rename_i x' A1 hf
  split at hv <;> try cases hv
  rename_i c' v' hs
  obtain ⟨G1, k1, k2, k3⟩ := frz1_ok h hx hf
  split at hv
  · rename_i rows
    split at hv <;> try cases hv
    rename_i te hte
    obtain ⟨e, he1, he2⟩ := elemOf_spec hte
    exact (slice_ok ht (.inr (.inl ⟨e, te, rows, he1, rfl, he2, hp.1⟩)) hs hp.2 hl hl0 hh hh0 k1 k3).ext k2
  · rename_i rows
    split at hv <;> try cases hv
    rename_i te hte
    obtain ⟨e, he1, he2⟩ := elemOf_spec hte
    exact (slice_ok ht (.inr (.inr ⟨e, te, rows, he1, rfl, he2, hp.1⟩)) hs hp.2 hl hl0 hh hh0 k1 k3).ext k2
  · rename_i s
    cases hv
    have hxs : isStr x = true := by cases x <;> simp_all [frz1, isStr] <;> (split at hf <;> cases hf)
    exact (slice_ok ht (.inl ⟨s, tkStr_spec (by rw [hk, hxs]), rfl⟩) hs hp hl hl0 hh hh0 k1 k3).ext k2
  · cases hv

end Go.Abs
