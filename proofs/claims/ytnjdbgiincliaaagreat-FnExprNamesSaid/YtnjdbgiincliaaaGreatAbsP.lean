/- Abstract runs of code. -/
import Derived.Test.YtnjdbgiincliaaaGreatAbsA
/- One operation. -/
set_option linter.unusedVariables false
set_option linter.unusedSimpArgs false
namespace Go.Abs
open Go.RowKit
def pickA : AV → AV → AV → Option AV
  | .bool c,.bool x,.bool y=>some (.bool (bif c then x else y))
  | .bool c,a,b=>some (if c = true then a else b)
  | _,_,_=>none
def isPtr : AV → Bool
  | .ptr .. | .eptr .. | .vptr _ | .iface ..=>true
  | _=>false
def pairs (is : List Nat) (vs : List AV) : List (Nat × AV):=is.zip vs
def sliceOp (A : List Box) (x : AV) (lo hi : Option Int) (te : Option TI) : Option (Prop × AV × List Box) :=
  match frz1 x A with
  | some (x',A')=>match sliceA lo hi x' with
    | some (c,v)=>match x' with
      | .slice rows=>match te with
        | some te=>some ((∀ r ∈ rows,r.length = te.size) ∧ c,v,A')
        | none=>none
      | .aslice rows=>match te with
        | some te=>some ((∀ r ∈ rows,r.length = te.size) ∧ c,v,A')
        | none=>none
      | .str _=>some (c,v,A')
      | _=>none
    | none=>none
  | none=>none
def elemOf? (P : Program) (k : TK) : Option TI :=
  match k with
  | .slice e=>tinf P e
  | _=>none
def isStr : AV → Bool
  | .str _=>true
  | _=>false
def tkStr : TK → Bool
  | .str=>true
  | _=>false
def tkSlice : TK → Bool
  | .slice _=>true
  | _=>false
def tkIface : TK → Bool
  | .iface=>true
  | _=>false
def isU8 : TK → Bool
  | .int .u8=>true
  | _=>false
def elemId : TK → TypeId
  | .slice e=>e
  | _=>0
def appendN (te : TI) (A : List Box) (s x : AV) (zc : List AV) : Option (Prop × AV × List Box) :=
  match x with
  | .own j=>match A.getD j .dead with
    | .gr _ sx xs=>match s with
      | .own i=>match A.getD i .dead with
        | .gr none sz rows=>some (te.size = sz ∧ zc.length = sz ∧ (0 < te.bytes ∧ te.bytes ≤ 65536) ∧ sx = sz ∧ rows.length + xs.length ≤ 1073741824,.own A.length,A.set i .dead ++ [.gr none sz (rows ++ xs)])
        | .row sz rows 0=>some (te.size = sz ∧ zc.length = sz ∧ (0 < te.bytes ∧ te.bytes ≤ 65536) ∧ sx = sz ∧ rows.length + xs.length ≤ 1073741824,.own A.length,A.set i .dead ++ [.gr none sz (rows ++ xs)])
        | _=>none
      | .nils=>some (zc.length = te.size ∧ (0 < te.bytes ∧ te.bytes ≤ 65536) ∧ sx = te.size ∧ 0 < xs.length ∧ xs.length ≤ 1073741824,.own A.length,A ++ [.gr none te.size xs])
      | _=>none
    | _=>none
  | _=>none
def appendA (e : TypeId) (te : TI) (A : List Box) (s x : AV) : Option (Prop × AV × List Box) :=
  match te.zero with
  | some zc=>match rowsOf A x with
    | some xs=>match s with
      | .own i=>match A.getD i .dead with
        | .row sz rows sl=>some (te.size = sz ∧ zc.length = sz ∧ (0 < te.bytes ∧ te.bytes ≤ 65536) ∧ (∀ r ∈ xs,r.length = sz) ∧ rows.length + xs.length ≤ 1073741824,.own A.length,A.set i .dead ++ [.row sz (rows ++ xs) sl])
        | .gr tt sz rows=>some ((∀ t,tt = some t → t = e) ∧ te.size = sz ∧ zc.length = sz ∧ (0 < te.bytes ∧ te.bytes ≤ 65536) ∧ (∀ r ∈ xs,r.length = sz) ∧ rows.length + xs.length ≤ 1073741824,.own A.length,A.set i .dead ++ [.gr tt sz (rows ++ xs)])
        | _=>none
      | .nils=>if xs.length = 0 then some (True,.nils,A) else match isU8 te.kind with
        | false=>some (zc.length = te.size ∧ (0 < te.bytes ∧ te.bytes ≤ 65536) ∧ (∀ r ∈ xs,r.length = te.size) ∧ 0 < xs.length ∧ xs.length ≤ 1073741824,.own A.length,A ++ [.row te.size xs 0])
        | true=>some (zc.length = te.size ∧ (0 < te.bytes ∧ te.bytes ≤ 65536) ∧ (∀ r ∈ xs,r.length = te.size) ∧ 0 < xs.length ∧ xs.length ≤ 1073741824,.own A.length,A ++ [.gr (some e) te.size xs])
      | _=>none
    | none=>appendN te A s x zc
  | none=>none
def countA (k : TK) (te : TI) (A : List Box) (s x : AV) : Option (Prop × AV × List Box) :=
  match s,x,k,te.zero with
  | .nils,.int _ n,.int _,some zc=>if zc.length = te.size ∧ (zc.map lfz).all isLeaf = true ∧ te.bytes ≤ 65536 ∧ 0 < te.size then some (0 < n ∧ n ≤ 1073741824,.own A.length,A ++ [.row te.size (List.replicate n.toNat (zc.map lfz)) 0]) else none
  | _,_,_,_=>none
def builtinA (P : Program) (b : Builtin) (ts : Array TypeId) (vs : List AV) (A : List Box) : Option (Prop × AV × List Box) :=
  match b,vs,ts.toList with
  | .len,[x],[t]=>match tinf P t with
    | some ti=>match lenA A x with
      | some n=>if (tkStr ti.kind && isStr x) || (tkSlice ti.kind && !isStr x) then some (True,.int .i64 (n : Nat),A) else none
      | none=>none
    | none=>none
  | .append,[s,x],[t,tx]=>match tinf P t,tinf P tx with
    | some ti,some tix=>match elemOf? P ti.kind with
      | some te=>if (tkStr tix.kind && isStr x && te.size == 1) || (tkSlice tix.kind && !isStr x) then appendA (elemId ti.kind) te A s x else countA tix.kind te A s x
      | none=>none
    | _,_=>none
  | .max,[.int k x,.int k' y],[_,_]=>some (k' = k,.int k (if y > x then y else x),A)
  | .min,[.int k x,.int k' y],[_,_]=>some (k' = k,.int k (if y < x then y else x),A)
  | .unsafeSliceData,[x],[_]=>sdataA A x
  | .unsafeString,[x,.int .i64 n],[pt,_]=>match tinf P pt with
    | some tp=>ustrA P A tp.kind x n
    | none=>none
  | .cap,[.nils],[t]=>match tinf P t with
    | some ti=>if tkSlice ti.kind then some (True,.int .i64 0,A) else none
    | none=>none
  | _,_,_=>none
def methA (P : Program) (t : TypeId) (name : String) : Option FuncId :=
  match P.info? t,P.underlying t with
  | some i,some d=>match i.methods.find? (·.name == name) with
    | some m=>match m.func,m.path.toList,d with
      | some (f,true),[],.pointer _=>some f
      | some (f,true),[],_=>none
      | some (f,false),[],.pointer _=>none
      | some (f,false),[],_=>some f
      | _,_,_=>none
    | none=>none
  | _,_=>none
def methP (P : Program) (t : TypeId) (name : String) : Prop:=(methA P t name).isSome = true
def notNil (P : Program) : AV → Option Prop
  | .func (.func _) _ _=>some True
  | .func (.method name) [.iface t _] []=>some (methP P t name)
  | _=>none
def bldZ : List AV → Bool
  | [.nilp,.nils]=>true
  | _=>false
def zagg (P : Program) (t : TypeId) : Option (List AV) :=
  match P.info? t,P.underlying t with
  | some i,some (.struct _)=>match i.zero with
    | some (.agg xs)=>zeroA (some (.agg xs))
    | _=>none
  | _,_=>none
def assertA (u : TypeId) (zc : List AV) (x : AV) (A : List Box) : Option (Prop × AV × List Box) :=
  match x with
  | .iface t v=>some (True,.tuple (if t = u then [v,.bool true] else [.agg zc,.bool false]),A)
  | .nili=>some (True,.tuple [.agg zc,.bool false],A)
  | _=>none
def astep (P : Program) (op : Op) (vs : List AV) (A : List Box) : Option (Prop × AV × List Box) :=
  match op,vs with
  | .move _,[x]=>some (True,x,A)
  | .assign _,[x]=>some (True,x,A)
  | .pick _ _ _,[c,a,b]=>match pickA c a b with
    | some v=>some (True,v,A)
    | none=>none
  | .alloc e,[]=>match tinf P e with
    | some ti=>match ti.zero with
      | some cs=>match bldZ cs with
        | false=>some (True,.ptr A.length 0,A ++ [.cells cs])
        | true=>some (True,.ptr A.length 0,A ++ [.tc e cs])
      | none=>none
    | none=>none
  | .box _ _,[x]=>match cellsA x with
    | some cs=>some (True,.ptr A.length 0,A ++ [.cells cs])
    | none=>none
  | .build t parts,vs=>match tinf P t with
    | some ti=>match ti.kind,ti.zero with
      | .struct fs,some zc=>if fs.all (fun f=>f.2.2 != 0) = true then match fillA (fun i=>(fs[i]?).map fun f=>(f.1,f.2.2)) zc (pairs (parts.toList.map (·.1)) vs) with
          | some (c,r)=>some (c,.agg r,A)
          | none=>none
        else none
      | _,_=>none
    | none=>none
  | .buildSlice t len parts,vs=>match tinf P t with
    | some ti=>match elemOf? P ti.kind with
      | some te=>match te.zero,frzs vs A with
        | some zc,some (vs',A')=>if zc.length = te.size ∧ (zc.map lfz).all isLeaf = true ∧ len * te.size ≤ 16777216 then match litRows te.size (List.replicate len (zc.map lfz)) (pairs (parts.toList.map (·.1)) vs') with
            | some (c,r)=>some (c,.own A'.length,A' ++ [.row te.size r 0])
            | none=>none
          else none
        | some zc,none=>if zc.length = te.size ∧ (zc.map lfz).all isLeaf = true ∧ len * te.size ≤ 16777216 then match litRowsN te.size (List.replicate len (zc.map lfz)) (pairs (parts.toList.map (·.1)) vs) with
            | some (c,r)=>some (c,.own A.length,A ++ [.gr none te.size r])
            | none=>none
          else none
        | _,_=>none
      | none=>none
    | none=>none
  | .load t _,[p]=>match tinf P t,cellsOf A p with
    | some ti,some cs=>match loadA ti cs with
      | some (c,v)=>some (c,v,A)
      | none=>none
    | _,_=>none
  | .store t _ _,[p,v]=>match tinf P t with
    | some ti=>match (match p with | .eptr ..=>frzC v A | _=>some (v,A)) with
      | some (v',A1)=>match cellsA v' with
        | some vs=>match storeA A1 p vs with
          | some (c,A')=>some (vs.length = ti.size ∧ c,.bot,A')
          | none=>none
        | none=>none
      | none=>match cellsA v with
        | some vs=>match storeN A p vs with
          | some (c,A')=>some (vs.length = ti.size ∧ c,.bot,A')
          | none=>none
        | none=>none
    | none=>none
  | .nilCheck _,[p]=>if isPtr p = true then some (True,p,A) else match notNil P p with
    | some c=>some (c,p,A)
    | none=>none
  | .binOp op t _ _ _,[x,y]=>match tinf P t with
    | some ti=>match binA op ti.kind x y with
      | some (c,v)=>some (c,v,A)
      | none=>match aggEq P t ti.size op x y with
        | some (c,v)=>some (c,v,A)
        | none=>none
    | none=>none
  | .makeFunc fn first _,vs=>some (True,.func fn (vs.take first.size) (vs.drop first.size),A)
  | .makeMap _ none,[]=>some (True,.map A.length,A ++ [.mapb []])
  | .lookup t _ _ true,[.map i,.agg ks]=>match mapInf P t with
    | some (_,l,n,z)=>match A.getD i .dead with
      | .mapb es=>match findA l ks es 0 with
        | some r=>some (ks.length = n ∧ ks.all isCell = true,.tuple [lkV r z,.bool r.isSome],A)
        | none=>none
      | _=>none
    | none=>none
  | .lookup t _ _ false,[.map i,.agg ks]=>match mapInf P t with
    | some (_,l,n,z)=>match A.getD i .dead with
      | .mapb es=>match findA l ks es 0 with
        | some r=>some (ks.length = n ∧ ks.all isCell = true,lkV r z,A)
        | none=>none
      | _=>none
    | none=>none
  | .mapUpdate t _ _ _,[.map i,.agg ks,v]=>match mapInf P t with
    | some (_,l,n,z)=>match A.getD i .dead with
      | .mapb es=>match findA l ks es 0 with
        | some r=>some (ks.length = n ∧ ks.all isCell = true,.bot,A.set i (.mapb (updA r ks v es)))
        | none=>none
      | _=>none
    | none=>none
  | .lookup t _ _ true,[.map i,.str q]=>match mapStr P t with
    | some (_,z)=>match A.getD i .dead with
      | .mapb es=>match findS q es 0 with
        | some r=>some (True,.tuple [lkV r z,.bool r.isSome],A)
        | none=>none
      | _=>none
    | none=>none
  | .lookup t _ _ false,[.map i,.str q]=>match mapStr P t with
    | some (_,z)=>match A.getD i .dead with
      | .mapb es=>match findS q es 0 with
        | some r=>some (True,lkV r z,A)
        | none=>none
      | _=>none
    | none=>none
  | .mapUpdate t _ _ _,[.map i,.str q,v]=>match mapStr P t with
    | some (_,z)=>match A.getD i .dead with
      | .mapb es=>match findS q es 0 with
        | some r=>some (True,.bot,A.set i (.mapb (updS r q v es)))
        | none=>none
      | _=>none
    | none=>none
  | .insert t _ _ _,[.map i,.str q,v]=>match mapStr P t with
    | some (_,z)=>match A.getD i .dead with
      | .mapb es=>match findS q es 0 with
        | some r=>some (True,.bot,A.set i (.mapb (updS r q v es)))
        | none=>none
      | _=>none
    | none=>none
  | .unOp op _ _,[x]=>match unA op x with
    | some v=>some (True,v,A)
    | none=>none
  | .convert s d _,[x]=>match tinf P s,tinf P d with
    | some si,some di=>match convA P A si.kind di.kind x with
      | some (c,v)=>some (c,v,A)
      | none=>none
    | _,_=>none
  | .makeSlice t _ _,[.int _ l,.int _ c]=>match tinf P t with
    | some ti=>match elemOf? P ti.kind with
      | some te=>match te.zero with
        | some zc=>if zc.length = te.size ∧ (zc.map lfz).all isLeaf = true ∧ te.bytes ≤ 65536 then some (0 ≤ l ∧ l ≤ c ∧ c ≤ 1073741824,.own A.length,A ++ [.row te.size (List.replicate l.toNat (zc.map lfz)) 0]) else none
        | none=>none
      | none=>none
    | none=>none
  | .slice t _ none none none,[x]=>match tinf P t with
    | some ti=>if tkStr ti.kind = isStr x then sliceOp A x none none (elemOf? P ti.kind) else none
    | none=>none
  | .slice t _ (some _) none none,[x,.int _ l]=>match tinf P t with
    | some ti=>if tkStr ti.kind = isStr x then sliceOp A x (some l) none (elemOf? P ti.kind) else none
    | none=>none
  | .slice t _ none (some _) none,[x,.int _ h]=>match tinf P t with
    | some ti=>match cutOwn A (elemOf? P ti.kind) x h with
      | some r=>some r
      | none=>if tkStr ti.kind = isStr x then sliceOp A x none (some h) (elemOf? P ti.kind) else none
    | none=>none
  | .slice t _ (some _) (some _) none,[x,.int _ l,.int _ h]=>match tinf P t with
    | some ti=>if tkStr ti.kind = isStr x then sliceOp A x (some l) (some h) (elemOf? P ti.kind) else none
    | none=>none
  | .fieldAddr t _ k,[p]=>match tinf P t with
    | some ti=>match ti.kind with
      | .struct fs=>match fs[k]? with
        | some (off,_,sz)=>if sz = 0 then none else match shiftP off p with
          | some v=>some (True,v,A)
          | none=>none
        | none=>none
      | _=>none
    | none=>none
  | .field t _ k,[.agg cs]=>match tinf P t with
    | some ti=>match ti.kind with
      | .struct fs=>match fs[k]? with
        | some (off,ty,_)=>match tinf P ty with
          | some tf=>match partA tf cs off with
            | some (c,v)=>some (c,v,A)
            | none=>none
          | none=>none
        | none=>none
      | _=>none
    | none=>none
  | .indexAddr t _ _,[x,.int _ n]=>match tinf P t with
    | some ti=>match elemOf? P ti.kind with
      | some te=>match idxA te.size A x n with
        | some (c,v)=>some (c,v,A)
        | none=>none
      | none=>none
    | none=>none
  | .index t _ _,[.str s,.int _ n]=>match tinf P t with
    | some ti=>if tkStr ti.kind = true then some (0 ≤ n ∧ n < s.length,.int .u8 ((s.getD n.toNat 0).toNat : Nat),A) else none
    | none=>none
  | .typeAssert _ _ u true,[x]=>match zagg P u with
    | some zc=>assertA u zc x A
    | none=>none
  | .extract _ k,[.tuple cs]=>some (k < cs.length,cs.getD k .bot,A)
  | .makeInterface t _,[x]=>match tinf P t with
    | some ti=>match tkIface ti.kind with
      | true=>none
      | false=>match frzC x A with
        | some (x',A')=>match x' with
          | .ptr i o=>some (True,.ifp t i o,A')
          | .map i=>some (True,.ifx t (.map i),A')
          | x'=>some (isWhole x' = true,.iface t x',A')
        | none=>none
    | none=>none
  | .call ⟨.builtin b,_,ts⟩,vs=>builtinA P b ts vs A
  | _,_=>none
theorem RV.pair {G : Ghost} {w : World} {u v : AV} {x y : Value} (h : RV G w u x) (k : RV G w v y) : RV G w (.tuple [u,v]) (.tuple #[x,y]) :=
  .tuple _ _ rfl fun i hi=>match i,hi with
    | 0,_=>h
    | 1,_=>k
theorem assert_ok {P : Program} {G : Ghost} {A A' : List Box} {w : World} {base : Nat} {t u : TypeId} {zc : List AV} {a v : AV} {y : Value} {c : Prop} (hz : zagg P u = some zc) (hs : assertA u zc a A = some (c,v,A')) (h : HRel G A w base) (hx : RV G w a y) :
    YV G w base v A' ((Instr.typeAssert y t u true).run P w):=by
  unfold zagg at hz
  split at hz <;> try cases hz
  rename_i i fs hi hu
  split at hz <;> try cases hz
  rename_i xs hq
  obtain ⟨z,e,c1,c2⟩:=zeroA_ok (G:=G) (w:=w) hz
  cases e
  have c1' : RL G w zc xs.toList:=c1
  have c2' : ∀ y ∈ xs,y.oneCell' = true:=c2
  have hzv : RV G w (.agg zc) (.agg xs):=.agg zc xs (by have:=c1'.1; simp at this; omega) c2' fun j hj=>by
    have hjx : j < xs.size:=by have:=c1'.1; simp at this; omega
    have:=c1'.2 j hj
    simpa [List.getD,Array.getD,hjx] using this
  have hzr:=zeroValue_run (P:=P) hi hq w
  cases hx <;> simp only [assertA] at hs <;> try cases hs
  · rename_i t' v' x' hv hr
    by_cases ht : t' = u
    · rw [if_pos ht]
      exact .same h (.pair hr (.bool true)) (by simp [Instr.typeAssert,run_underlying hu,Result.andThen,ht])
    · rw [if_neg ht]
      exact .same h (.pair hzv (.bool false)) (by simp [Instr.typeAssert,run_underlying hu,Result.andThen,ht,hzr])
  · exact .same h (.pair hzv (.bool false)) (by simp [Instr.typeAssert,run_underlying hu,Result.andThen,hzr])
theorem pick_ok {G : Ghost} {w : World} {c a b v : AV} {x y z : Value} (h : pickA c a b = some v) (hc : RV G w c x) (ha : RV G w a y) (hb : RV G w b z) :
    ∃ t,x = .bool t ∧ RV G w v (if t then y else z):=by
  unfold pickA at h
  split at h
  · cases hc; cases ha; cases hb; cases h
    rename_i c x y
    cases c
    · exact ⟨false,rfl,by simpa using .bool y⟩
    · exact ⟨true,rfl,by simpa using .bool x⟩
  · cases hc; cases h
    rename_i c _
    cases c
    · exact ⟨false,rfl,by simpa using hb⟩
    · exact ⟨true,rfl,by simpa using ha⟩
  · cases h
theorem RL.one {G : Ghost} {w : World} {v : AV} {xs : List Value} (h : RL G w [v] xs) : ∃ x,xs = [x] ∧ RV G w v x:=by
  match xs,h with
  | [x],h=>exact ⟨x,rfl,h.head⟩
  | [],h=>have:=h.1; simp at this
  | _ :: _ :: _,h=>have:=h.1; simp at this
theorem RP.ofZip {G : Ghost} {w : World} : ∀ {is : List Nat} {vs : List AV} {qs : List (Nat × Value)},qs.map (·.1) = is → RL G w vs (qs.map (·.2)) → RP G w (pairs is vs) qs:=fun {is vs qs} h1 h2=>by
  subst h1
  have hl:=h2.1
  simp only [List.length_map] at hl
  refine ⟨?_,?_⟩
  · unfold pairs; rw [List.map_fst_zip (by simp [hl])]
  · unfold pairs; rw [List.map_snd_zip (by simp [hl])]; exact h2
theorem tkStr_spec {k : TK} (h : tkStr k = true) : k = .str:=by cases k <;> simp_all [tkStr]
theorem tkSlice_spec {k : TK} (h : tkSlice k = true) : ∃ e,k = .slice e:=by cases k <;> simp_all [tkSlice]
theorem elemOf_spec {P : Program} {k : TK} {te : TI} (h : elemOf? P k = some te) : ∃ e,k = .slice e ∧ tinf P e = some te:=by
  cases k <;> simp_all [elemOf?]
theorem isStr_spec {x : AV} (h : isStr x = true) : ∃ s,x = .str s:=by cases x <;> simp_all [isStr]
theorem isStr_no {x : AV} (h : isStr x = false) : ∀ s,x ≠ .str s:=by cases x <;> simp_all [isStr]
theorem YV.ext {G G1 : Ghost} {w : World} {base : Nat} {v : AV} {A' : List Box} {r : Result Value} (e : Ext G w G1 w) (h : YV G1 w base v A' r) : YV G w base v A' r:=by
  obtain ⟨x,w',G',h1,h2,h3,h4,h5⟩:=h
  exact ⟨x,w',G',h1,h2,h3,e.trans h4,h5⟩
theorem sliceOp_ok {P : Program} {G : Ghost} {A A' : List Box} {w : World} {base : Nat} {t : TypeId} {ti : TI} {x v : AV} {y : Value} {lo hi : Option Value} {l h' : Option Int} {c : Prop}
    (ht : tinf P t = some ti) (hk : tkStr ti.kind = isStr x) (hv : sliceOp A x l h' (elemOf? P ti.kind) = some (c,v,A')) (hp : c)
    (hl : ∀ x,lo = some x → ∃ k n,x = .int k n ∧ l = some n) (hl0 : lo = none → l = none) (hh : ∀ x,hi = some x → ∃ k n,x = .int k n ∧ h' = some n) (hh0 : hi = none → h' = none)
    (h : HRel G A w base) (hx : RV G w x y) : YV G w base v A' ((Instr.sliceAt t y lo hi none).run P w):=by
  unfold sliceOp at hv
  split at hv <;> try cases hv
  rename_i x' A1 hf
  split at hv <;> try cases hv
  rename_i c' v' hs
  obtain ⟨G1,k1,k2,k3⟩:=frz1_ok h hx hf
  split at hv
  · rename_i rows
    split at hv <;> try cases hv
    rename_i te hte
    obtain ⟨e,he1,he2⟩:=elemOf_spec hte
    exact (slice_ok ht (.inr (.inl ⟨e,te,rows,he1,rfl,he2,hp.1⟩)) hs hp.2 hl hl0 hh hh0 k1 k3).ext k2
  · rename_i rows
    split at hv <;> try cases hv
    rename_i te hte
    obtain ⟨e,he1,he2⟩:=elemOf_spec hte
    exact (slice_ok ht (.inr (.inr ⟨e,te,rows,he1,rfl,he2,hp.1⟩)) hs hp.2 hl hl0 hh hh0 k1 k3).ext k2
  · rename_i s
    cases hv
    have hxs : isStr x = true:=by cases x <;> simp_all [frz1,isStr] <;> (split at hf <;> cases hf)
    exact (slice_ok ht (.inl ⟨s,tkStr_spec (by rw [hk,hxs]),rfl⟩) hs hp hl hl0 hh hh0 k1 k3).ext k2
  · cases hv
end Go.Abs
/- One operation is what it is taken for. -/
namespace Go.Abs
open Go.RowKit
theorem HRel.grow {G : Ghost} {A : List Box} {w : World} {base i sz : Nat} {rows : List (List AV)} (h : HRel G A w base) (hb : A.getD i .dead = .row sz rows 0) : HRel G (A.set i (.gr none sz rows)) w base:=by
  have hil : i < A.length:=by
    rcases Nat.lt_or_ge i A.length with hh | hh
    · exact hh
    · simp [List.getD,Nat.not_lt.2 hh] at hb
  have aux : ∀ k,((A.set i (.gr none sz rows)).getD k .dead).live = true → (A.getD k .dead).live = true:=fun k lk=>by
    by_cases hki : i = k
    · subst hki; rw [hb]; rfl
    · rwa [getD_set_ne' hki] at lk
  refine ⟨by simp [h.n],fun j hj=>?_,fun j k hj hk hne lj lk=>?_,fun j hj lj=>?_,h.imm,h.low,h.gv⟩
  · simp only [List.length_set] at hj
    by_cases hji : i = j
    · subst hji
      rw [getD_set_self hj]
      have:=h.box i hj
      rw [hb] at this
      exact ⟨RowOk.elem this,fun t ht=>by cases ht⟩
    · rw [getD_set_ne' hji]; exact h.box j hj
  · simp only [List.length_set] at hj hk
    exact h.sep j k hj hk hne (aux j lj) (aux k lk)
  · simp only [List.length_set] at hj
    exact h.bnd j hj (aux j lj)
theorem RL.two {G : Ghost} {w : World} {v u : AV} {xs : List Value} (h : RL G w [v,u] xs) : ∃ x y,xs = [x,y] ∧ RV G w v x ∧ RV G w u y:=by
  match xs,h with
  | [x,y],h=>exact ⟨x,y,rfl,h.head,h.tail.head⟩
  | [],h=>have:=h.1; simp at this
  | [_],h=>have:=h.1; simp at this
  | _ :: _ :: _ :: _,h=>have:=h.1; simp at this
theorem RL.three {G : Ghost} {w : World} {v u s : AV} {xs : List Value} (h : RL G w [v,u,s] xs) : ∃ x y z,xs = [x,y,z] ∧ RV G w v x ∧ RV G w u y ∧ RV G w s z:=by
  match xs,h with
  | [x,y,z],h=>exact ⟨x,y,z,rfl,h.head,h.tail.head,h.tail.tail.head⟩
  | [],h=>have:=h.1; simp at this
  | [_],h=>have:=h.1; simp at this
  | [_,_],h=>have:=h.1; simp at this
  | _ :: _ :: _ :: _ :: _,h=>have:=h.1; simp at this
theorem YN.pure {P : Program} {G : Ghost} {A : List Box} {w : World} {base : Nat} {v : AV} {x : Value} {s : Sem Next} (h : HRel G A w base) (hx : RV G w v x) (hr : s.run P w = .ok (.value x) w) : YN G w base v A (s.run P w) :=
  ⟨x,w,G,.inl hr,hx,h,Ext.refl _ _,Below.refl _ _⟩
theorem nilAhead_run {P : Program} {t : TypeId} {name : String} {g : FuncId} {v : Value} {w : World} {n : Nat} (h : methA P t name = some g) : (nilAhead (n + 1) t v name).run P w = .ok (some false) w:=by
  unfold methA at h
  split at h <;> try cases h
  rename_i i d h1 h2
  split at h <;> try cases h
  rename_i m hm
  have hti : (typeInfo t).run P w = .ok i w:=by simp [typeInfo,h1]
  split at h <;> try cases h
  · rename_i e hf hp
    simp [nilAhead,hti,Result.andThen,hm,hp,followBlind,hf]
  · rename_i d1 x2 x1 d0 hp0 hnp hf0
    cases d1 <;> first | (exact absurd rfl (hnp _)) | simp [nilAhead,hti,Result.andThen,hm,hp0,followBlind,hf0,run_underlying h2]
theorem builtin_ok {P : Program} {G : Ghost} {A A' : List Box} {w : World} {base : Nat} {b : Builtin} {ts : Array TypeId} {ty : TypeId} {cs : Array Bool} {vs : List AV} {xs : Array Value} {v : AV} {c : Prop}
    (hv : RL G w vs xs.toList) (hs : builtinA P b ts vs A = some (c,v,A')) (hp : c) (h : HRel G A w base) : YN G w base v A' ((builtin b ts ty cs xs).run P w):=by
  unfold builtinA at hs
  split at hs
  · rename_i x t hts
    have hts' : ts = #[t]:=by apply Array.ext'; simpa using hts
    subst hts'
    obtain ⟨y,hy,hx⟩:=hv.one
    have hxs : xs = #[y]:=by apply Array.ext'; simpa using hy
    subst hxs
    split at hs <;> try cases hs
    rename_i ti ht
    split at hs <;> try cases hs
    rename_i n hn
    split at hs <;> try cases hs
    rename_i hc
    have hk : (ti.kind = .str ∧ ∃ s,x = .str s) ∨ ((∃ e,ti.kind = .slice e) ∧ ∀ s,x ≠ .str s):=by
      simp only [Bool.or_eq_true] at hc
      rcases hc with hc | hc
      · rw [Bool.and_eq_true] at hc; exact .inl ⟨tkStr_spec hc.1,isStr_spec hc.2⟩
      · rw [Bool.and_eq_true] at hc; exact .inr ⟨tkSlice_spec hc.1,isStr_no (by simpa using hc.2)⟩
    exact (len_ok (ty:=ty) ht hk hn h hx).next
  · rename_i s x t tx hts
    have hts' : ts = #[t,tx]:=by apply Array.ext'; simpa using hts
    subst hts'
    obtain ⟨z,y,hy,hz,hx⟩:=hv.two
    have hxs : xs = #[z,y]:=by apply Array.ext'; simpa using hy
    subst hxs
    split at hs <;> try cases hs
    rename_i ti tix ht htx
    split at hs <;> try cases hs
    rename_i te hte
    obtain ⟨e,he1,he2⟩:=elemOf_spec hte
    split at hs
    rotate_left
    · unfold countA at hs
      split at hs <;> try cases hs
      split at hs <;> try cases hs
      rename_i hcd
      obtain ⟨q1,q2,q3,q4⟩:=hcd
      cases hx
      exact (appendCount_ok (ty:=ty) ht he1 he2 htx (by assumption) (by assumption) q1 q2 q3 q4 hp.1 hp.2 h hz).next
    rename_i hc
    have hkx : ((∃ e,tix.kind = .slice e) ∨ (tix.kind = .str ∧ te.size = 1)) ∧ ((∃ e,tix.kind = .slice e) → ∀ s,x ≠ .str s) ∧ (tix.kind = .str → ∃ s,x = .str s):=by
      rw [Bool.or_eq_true] at hc
      rcases hc with hc | hc
      · simp only [Bool.and_eq_true,beq_iff_eq] at hc
        have hk:=tkStr_spec hc.1.1
        exact ⟨.inr ⟨hk,hc.2⟩,(fun ⟨e,he⟩=>by rw [hk] at he; cases he),fun _=>isStr_spec hc.1.2⟩
      · simp only [Bool.and_eq_true] at hc
        obtain ⟨e',hk⟩:=tkSlice_spec hc.1
        exact ⟨.inl ⟨e',hk⟩,fun _=>isStr_no (by simpa using hc.2),fun hk'=>by rw [hk] at hk'; cases hk'⟩
    unfold appendA at hs
    split at hs <;> try cases hs
    rename_i zc hzc
    have hid : elemId ti.kind = e:=by rw [he1]; rfl
    rw [hid] at hs
    split at hs
    · rename_i rows hrows
      split at hs
      · rename_i i
        split at hs <;> try cases hs
        · rename_i sz rws sl hb
          obtain ⟨p1,p2,p3,p4,p5⟩:=hp
          refine (append_ok (ty:=ty) ht he1 he2 p1 hzc p2 p3 htx ?_ hkx.2.1 hkx.2.2 hb hrows p4 p5 h hx hz).next
          rcases hkx.1 with h1 | ⟨h1,h2⟩
          · exact .inl h1
          · exact .inr ⟨h1,by omega⟩
        · rename_i tt sz rws hb
          obtain ⟨p0,p1,p2,p3,p4,p5⟩:=hp
          obtain ⟨news,n1,n2,n3⟩:=src_ok (P:=P) (tx:=tx) (sz:=sz) htx (by
            rcases hkx.1 with h1 | ⟨h1,h2⟩
            · exact .inl h1
            · exact .inr ⟨h1,by omega⟩) h hx hrows p4 hkx.2.1 hkx.2.2
          exact (append_gen (ty:=ty) (grKind tt sz) p0 ht he1 he2 p1 hzc p2 p3 ⟨news,n1,n2,fun r hr v hv=>leaf_elem (n3 r hr v hv)⟩ hb p4 p5 h hz).next
      · split at hs
        · rename_i hx0
          cases hs
          obtain ⟨news,n1,n2,n3⟩:=src_ok (P:=P) (tx:=tx) (sz:=te.size) htx hkx.1 h hx hrows (fun r hr=>by rw [List.length_eq_zero_iff.1 hx0] at hr; cases hr) hkx.2.1 hkx.2.2
          exact (append_none_ok (ty:=ty) ht he1 he2 hx0 n1 h hz).next
        split at hs
        · cases hs
          obtain ⟨p1,p2,p3,p4⟩:=hp
          exact (append_nil_ok (ty:=ty) ht he1 he2 rfl hzc p1 p2 htx hkx.1 hkx.2.1 hkx.2.2 hrows p3 p4 h hx hz).next
        · cases hs
          obtain ⟨p1,p2,p3,p4⟩:=hp
          obtain ⟨news,n1,n2,n3⟩:=src_ok (P:=P) (tx:=tx) (sz:=te.size) htx hkx.1 h hx hrows p3 hkx.2.1 hkx.2.2
          exact (append_nil_gen (ty:=ty) (grKind (some e) te.size) (fun t ht=>(Option.some.inj ht).symm) ht he1 he2 rfl hzc p1 p2 ⟨news,n1,n2,fun r hr v hv=>leaf_elem (n3 r hr v hv)⟩ p3 p4 h hz).next
      · cases hs
    · rename_i hrn
      clear hrn
      unfold appendN at hs
      split at hs <;> try cases hs
      rename_i j
      split at hs <;> try cases hs
      rename_i tj sx xs hbj
      have hsl : ∃ e,tix.kind = .slice e:=by
        rcases hkx.1 with h1 | ⟨h1,h2⟩
        · exact h1
        · obtain ⟨s,hs⟩:=hkx.2.2 h1; cases hs
      have hxl : ∀ r ∈ xs,r.length = sx:=by
        cases hx with
        | own _ hi =>
          have hbx:=h.box j (by rw [← h.n]; exact hi)
          rw [hbj] at hbx
          obtain ⟨⟨c,el,q1,q3,q4,q5,q6,q7,q8,q9,q10,q11⟩,_⟩:=hbx
          exact fun r hr=>(q9 r hr).1
      split at hs
      · rename_i i
        split at hs
        · cases hs
          rename_i sz rws hb
          obtain ⟨p1,p2,p3,rfl,p5⟩:=hp
          exact (append_gen (ty:=ty) (grKind none sx) (fun t ht=>by cases ht) ht he1 he2 p1 hzc p2 p3 (srcN_ok htx hsl h hx hbj) hb hxl p5 h hz).next
        · cases hs
          rename_i sz rws hb
          obtain ⟨p1,p2,p3,rfl,p5⟩:=hp
          have hil : i < A.length:=by
            rcases Nat.lt_or_ge i A.length with hh | hh
            · exact hh
            · simp [List.getD,Nat.not_lt.2 hh] at hb
          have hij : i ≠ j:=fun e=>by rw [e,hbj] at hb; cases hb
          have hg:=h.grow hb
          have hbj' : (A.set i (.gr none sx rws)).getD j .dead = .gr tj sx xs:=by rw [getD_set_ne' hij]; exact hbj
          have hb' : (A.set i (.gr none sx rws)).getD i .dead = .gr none sx rws:=getD_set_self hil
          have:=(append_gen (ty:=ty) (grKind none sx) (fun t ht=>by cases ht) ht he1 he2 p1 hzc p2 p3 (srcN_ok htx hsl hg hx hbj') hb' hxl p5 hg hz).next
          rwa [List.set_set,List.length_set] at this
        · cases hs
      · cases hs
        obtain ⟨p1,p2,p3,p4⟩:=hp
        subst p3
        exact (append_nil_gen (ty:=ty) (grKind none te.size) (fun t ht=>by cases ht) ht he1 he2 rfl hzc p1 p2 (srcN_ok htx hsl h hx hbj) hxl p4 h hz).next
      · cases hs
  · rename_i k x k' y t1 t2 hts
    cases hs
    obtain ⟨z,u,hy,hz,hx⟩:=hv.two
    have hxs : xs = #[z,u]:=by apply Array.ext'; simpa using hy
    subst hxs
    cases hz; cases hx
    refine YV.next (s:=Builtin.max_ ts ty #[.int k x,.int k' y]) (.same h (.int _ _) ?_)
    simp [Builtin.max_,Builtin.max2]
  · rename_i k x k' y t1 t2 hts
    cases hs
    obtain ⟨z,u,hy,hz,hx⟩:=hv.two
    have hxs : xs = #[z,u]:=by apply Array.ext'; simpa using hy
    subst hxs
    cases hz; cases hx
    refine YV.next (s:=Builtin.min_ ts ty #[.int k x,.int k' y]) (.same h (.int _ _) ?_)
    simp [Builtin.min_,Builtin.min2]
  · rename_i x t hts
    have hts' : ts = #[t]:=by apply Array.ext'; simpa using hts
    subst hts'
    obtain ⟨y,hy,hx⟩:=hv.one
    have hxs : xs = #[y]:=by apply Array.ext'; simpa using hy
    subst hxs
    exact (sdata_ok (P:=P) (ts:=#[t]) (ty:=ty) hs hp h hx).next
  · rename_i x n pt it hts
    have hts' : ts = #[pt,it]:=by apply Array.ext'; simpa using hts
    subst hts'
    obtain ⟨y,u,hy,hx,hu⟩:=hv.two
    have hxs : xs = #[y,u]:=by apply Array.ext'; simpa using hy
    subst hxs
    split at hs <;> try cases hs
    rename_i tp ht
    cases hu
    exact (ustr_ok (P:=P) (it:=it) (ty:=ty) ht hs hp h hx).next
  · rename_i t hts
    have hts' : ts = #[t]:=by apply Array.ext'; simpa using hts
    subst hts'
    obtain ⟨y,hy,hx⟩:=hv.one
    have hxs : xs = #[y]:=by apply Array.ext'; simpa using hy
    subst hxs
    split at hs <;> try cases hs
    rename_i ti ht
    split at hs <;> try cases hs
    rename_i hc
    obtain ⟨e,hk⟩:=tkSlice_spec hc
    obtain ⟨i,d,h1,h2,h3,h4,h5,h6⟩:=tinf_spec ht
    rw [h6] at hk
    obtain rfl:=tk_slice hk
    cases hx
    refine YV.next (s:=Builtin.cap_ #[t] ty #[.slice none 0 0]) (.same h (.int _ _) ?_)
    simp [Builtin.cap_,run_underlying h2,Result.andThen,goInt]
  · cases hs
theorem map_zip {parts : Array (Nat × Operand)} {ρ : Operand → Value} : (parts.map fun (i,x)=>(i,ρ x)).toList.map (·.1) = parts.toList.map (·.1) ∧
    (parts.map fun (i,x)=>(i,ρ x)).toList.map (·.2) = (parts.toList.map (·.2)).map ρ:=by
  simp [Function.comp_def]
set_option maxHeartbeats 1000000 in
theorem astep_ok {P : Program} {G : Ghost} {A A' : List Box} {w : World} {base : Nat} {o : Oper} {ρ : Operand → Value} {vs : List AV} {v : AV} {c : Prop}
    (hv : RL G w vs (o.op.operands.toList.map ρ)) (hs : astep P o.op vs A = some (c,v,A')) (hp : c) (h : HRel G A w base) : YN G w base v A' ((execOp ρ o).run P w):=by
  unfold execOp
  cases hop : o.op <;> rw [hop] at hv hs <;> simp only [Op.operands] at hv
  case move x =>
    simp only [List.map_cons,List.map_nil] at hv
    match vs,hv,hs with
    | [a],hv,hs=>simp only [astep] at hs; cases hs; exact .pure h hv.head (by simp)
    | [],hv,hs=>have:=hv.1; simp at this
    | _ :: _ :: _,hv,hs=>have:=hv.1; simp at this
  case assign x =>
    simp only [List.map_cons,List.map_nil] at hv
    match vs,hv,hs with
    | [a],hv,hs=>simp only [astep] at hs; cases hs; exact .pure h hv.head (by simp)
    | [],hv,hs=>have:=hv.1; simp at this
    | _ :: _ :: _,hv,hs=>have:=hv.1; simp at this
  case pick x y z =>
    simp only [List.map_cons,List.map_nil] at hv
    match vs,hv,hs with
    | [a,b,d],hv,hs =>
      simp only [astep] at hs
      split at hs <;> try cases hs
      rename_i hpk
      obtain ⟨t,ht,hr⟩:=pick_ok hpk hv.head hv.tail.head hv.tail.tail.head
      refine .pure h hr ?_
      dsimp only
      rw [ht]
      cases t <;> simp [asBool,Result.andThen]
    | [],hv,hs=>have:=hv.1; simp at this
    | [_],hv,hs=>have:=hv.1; simp at this
    | [_,_],hv,hs=>have:=hv.1; simp at this
    | _ :: _ :: _ :: _ :: _,hv,hs=>have:=hv.1; simp at this
  case alloc e =>
    match vs,hv,hs with
    | [],hv,hs =>
      simp only [astep] at hs
      split at hs <;> try cases hs
      rename_i ti ht
      split at hs <;> try cases hs
      rename_i cs hz
      split at hs <;> cases hs
      · exact (alloc_ok ht hz h).next
      · exact (alloc_tc_ok ht hz h).next
    | _ :: _,hv,hs=>have:=hv.1; simp at this
  case box e x =>
    simp only [List.map_cons,List.map_nil] at hv
    match vs,hv,hs with
    | [a],hv,hs =>
      simp only [astep] at hs
      split at hs <;> try cases hs
      rename_i hc
      exact (box_ok h hv.head hc).next
    | [],hv,hs=>have:=hv.1; simp at this
    | _ :: _ :: _,hv,hs=>have:=hv.1; simp at this
  case build t parts =>
    simp only [astep] at hs
    split at hs <;> try cases hs
    rename_i ti ht
    split at hs <;> try cases hs
    rename_i fs zc hk hz
    split at hs <;> try cases hs
    rename_i hnz
    split at hs <;> try cases hs
    rename_i r hf
    have hz2:=map_zip (parts:=parts) (ρ:=ρ)
    exact (build_ok ht hk hz hnz hf hp h (RP.ofZip hz2.1 (by rw [hz2.2]; simpa using hv))).next
  case buildSlice t len parts =>
    simp only [astep] at hs
    split at hs <;> try cases hs
    rename_i ti ht
    split at hs <;> try cases hs
    rename_i te hte
    obtain ⟨e,he1,he2⟩:=elemOf_spec hte
    have hz2:=map_zip (parts:=parts) (ρ:=ρ)
    split at hs <;> try cases hs
    · rename_i zc vs' A1 hz hfr
      split at hs <;> try cases hs
      rename_i hcond
      split at hs <;> try cases hs
      rename_i r hf
      obtain ⟨G1,k1,k2,k3⟩:=frzs_ok h (by simpa using hv) hfr
      exact ((buildSlice_ok ht he1 he2 hz hcond.1 hcond.2.1 hcond.2.2 hf hp k1 (RP.ofZip hz2.1 (by rw [hz2.2]; simpa using k3))).ext k2).next
    · rename_i zc hz hfr
      split at hs <;> try cases hs
      rename_i hcond
      split at hs <;> try cases hs
      rename_i r hf
      exact (buildSliceN_ok ht he1 he2 hz hcond.1 hcond.2.1 hcond.2.2 hf hp h (RP.ofZip hz2.1 (by rw [hz2.2]; simpa using hv))).next
  case load t a =>
    simp only [List.map_cons,List.map_nil] at hv
    match vs,hv,hs with
    | [a],hv,hs =>
      simp only [astep] at hs
      split at hs <;> try cases hs
      rename_i ti cs ht hc
      split at hs <;> try cases hs
      rename_i hl
      exact (load_ok ht hc hl hp h hv.head).next
    | [],hv,hs=>have:=hv.1; simp at this
    | _ :: _ :: _,hv,hs=>have:=hv.1; simp at this
  case store t a x =>
    simp only [List.map_cons,List.map_nil] at hv
    match vs,hv,hs with
    | [p,u],hv,hs =>
      simp only [astep] at hs
      split at hs <;> try cases hs
      rename_i ti ht
      split at hs <;> try cases hs
      · rename_i v' A1 hfr
        split at hs <;> try cases hs
        rename_i vs hcv
        split at hs <;> try cases hs
        rename_i hst
        have hfr' : ∃ G1,HRel G1 A1 w base ∧ Ext G w G1 w ∧ RV G1 w v' (ρ x):=by
          split at hfr
          · exact frzC_ok h hv.tail.head hfr
          · cases hfr; exact ⟨G,h,Ext.refl _ _,hv.tail.head⟩
        obtain ⟨G1,k1,k2,k3⟩:=hfr'
        obtain ⟨w',G',r1,r2,r3,r4⟩:=store_ok ht hcv hp.1 hst hp.2 k1 (hv.head.mono k2) k3
        exact ⟨undef,w',G',.inr ⟨by simp [r1,Result.andThen],rfl⟩,.bot _,r2,k2.trans r3,r4⟩
      · split at hs <;> try cases hs
        rename_i vs hcv
        split at hs <;> try cases hs
        rename_i hst
        obtain ⟨w',G',r1,r2,r3,r4⟩:=storeN_ok ht hcv hp.1 hst hp.2 h hv.head hv.tail.head
        exact ⟨undef,w',G',.inr ⟨by simp [r1,Result.andThen],rfl⟩,.bot _,r2,r3,r4⟩
    | [],hv,hs=>have:=hv.1; simp at this
    | [_],hv,hs=>have:=hv.1; simp at this
    | _ :: _ :: _ :: _,hv,hs=>have:=hv.1; simp at this
  case nilCheck x =>
    simp only [List.map_cons,List.map_nil] at hv
    match vs,hv,hs with
    | [a],hv,hs =>
      simp only [astep] at hs
      split at hs
      case isFalse =>
        split at hs <;> try cases hs
        rename_i hnn
        have hx:=hv.head
        generalize hq : ρ x = y at hx ⊢
        cases hx <;> simp [notNil] at hnn
        case func =>
          rename_i fn first captured xs ys k1 k2 k3 k4 hip
          cases fn with
          | func g=>exact .pure h (.func (.func g) first captured xs ys k1 k2 k3 k4) (by simp [hq])
          | method name =>
            match first,captured,k1,k2,k3,k4,hnn with
            | [.iface t v],[],k1,k2,k3,k4,hnn =>
              cases hnn
              have h1:=k3 0 (by simp)
              have hx0 : ∃ z,xs = #[z]:=by
                match xs,k1 with
                | ⟨[z]⟩,_=>exact ⟨z,rfl⟩
                | ⟨[]⟩,h=>simp at h
                | ⟨_ :: _ :: _⟩,h=>simp at h
              obtain ⟨z,rfl⟩:=hx0
              have h1' : RV G w (.iface t v) z:=by simpa using h1
              generalize hz : z = zz at h1'
              cases h1' with
              | iface _ _ u hw hu =>
                subst hz
                obtain ⟨g,hg⟩:=Option.isSome_iff_exists.1 (show (methA P t name).isSome = true from hp)
                have hr:=nilAhead_run (P:=P) (w:=w) (v:=u) (n:=P.types.size + Made.depth - 1) hg
                have hd : P.types.size + Made.depth - 1 + 1 = P.types.size + Made.depth:=by
                  have : 0 < Made.depth:=by decide
                  omega
                rw [hd] at hr
                exact .pure h (.func (.method name) [.iface t v] [] _ _ k1 k2 k3 k4) (by simp [hq,Result.andThen,hr])
          | _=>simp at hnn
      rename_i hpt
      cases hs
      have hx:=hv.head
      generalize hq : ρ x = y at hx ⊢
      cases hx <;> simp [isPtr] at hpt
      case ptr i o hi=>exact .pure h (.ptr i o hi) (by simp [hq])
      case eptr i k j hi=>exact .pure h (.eptr i k j hi) (by simp [hq])
      case vptr cs b off X hl hx hI hh=>exact .pure h (.vptr cs b off X hl hx hI hh) (by simp [hq])
      case iface t v x hv' hh=>exact .pure h (.iface t v x hv' hh) (by simp [hq])
    | [],hv,hs=>have:=hv.1; simp at this
    | _ :: _ :: _,hv,hs=>have:=hv.1; simp at this
  case binOp op t x y yt =>
    simp only [List.map_cons,List.map_nil] at hv
    match vs,hv,hs with
    | [a,b],hv,hs =>
      simp only [astep] at hs
      split at hs <;> try cases hs
      rename_i ti ht
      split at hs
      · rename_i hb
        cases hs
        exact (bin_ok ht hb hp h hv.head hv.tail.head).next
      · split at hs <;> try cases hs
        rename_i hb
        exact (aggEq_ok ht hb hp h hv.head hv.tail.head).next
    | [],hv,hs=>have:=hv.1; simp at this
    | [_],hv,hs=>have:=hv.1; simp at this
    | _ :: _ :: _ :: _,hv,hs=>have:=hv.1; simp at this
  case unOp op t x =>
    simp only [List.map_cons,List.map_nil] at hv
    match vs,hv,hs with
    | [a],hv,hs =>
      simp only [astep] at hs
      split at hs <;> try cases hs
      rename_i hu
      exact (un_ok hu h hv.head).next
    | [],hv,hs=>have:=hv.1; simp at this
    | _ :: _ :: _,hv,hs=>have:=hv.1; simp at this
  case convert s d x =>
    simp only [List.map_cons,List.map_nil] at hv
    match vs,hv,hs with
    | [a],hv,hs =>
      simp only [astep] at hs
      split at hs <;> try cases hs
      rename_i si di h1 h2
      split at hs <;> try cases hs
      rename_i hc
      exact (conv_ok h1 h2 hc hp h hv.head).next
    | [],hv,hs=>have:=hv.1; simp at this
    | _ :: _ :: _,hv,hs=>have:=hv.1; simp at this
  case makeSlice t l c =>
    simp only [List.map_cons,List.map_nil] at hv
    match vs,hv,hs with
    | [a,b],hv,hs =>
      have hx:=hv.head
      have hy:=hv.tail.head
      cases a <;> try (simp only [astep] at hs; cases hs; done)
      cases b <;> try (simp only [astep] at hs; cases hs; done)
      simp only [astep] at hs
      split at hs <;> try cases hs
      rename_i ti ht
      split at hs <;> try cases hs
      rename_i te hte
      obtain ⟨e,he1,he2⟩:=elemOf_spec hte
      split at hs <;> try cases hs
      rename_i zc hz
      split at hs <;> try cases hs
      rename_i hcond
      dsimp only
      generalize ρ l = y1 at hx ⊢
      generalize ρ c = y2 at hy ⊢
      cases hx; cases hy
      exact (makeSlice_ok ht he1 he2 hz hcond.1 hcond.2.1 hcond.2.2 hp.1 hp.2.1 hp.2.2 h).next
    | [],hv,hs=>have:=hv.1; simp at this
    | [_],hv,hs=>have:=hv.1; simp at this
    | _ :: _ :: _ :: _,hv,hs=>have:=hv.1; simp at this
  case slice t x lo hi mx =>
    cases mx with
    | some m=>exfalso; revert hs; unfold astep; split <;> simp_all
    | none =>
    cases lo with
    | none =>
      cases hi with
      | none =>
        simp only [Option.toArray] at hv
        simp at hv
        match vs,hv,hs with
        | [a],hv,hs =>
          simp only [astep] at hs
          split at hs <;> try cases hs
          rename_i ti ht
          split at hs <;> try cases hs
          rename_i hk
          exact (sliceOp_ok ht hk hs hp (by simp) (by simp) (by simp) (by simp) h hv.head).next
        | [],hv,hs=>have:=hv.1; simp at this
        | _ :: _ :: _,hv,hs=>have:=hv.1; simp at this
      | some hh =>
        simp at hv
        match vs,hv,hs with
        | [a,b],hv,hs =>
          have hy:=hv.tail.head
          cases b <;> try (simp only [astep] at hs; cases hs; done)
          rename_i k1 n1
          simp only [astep] at hs
          split at hs <;> try cases hs
          rename_i ti ht
          have hq : ρ hh = .int k1 n1:=by
            generalize ρ hh = q at hy ⊢
            cases hy; rfl
          split at hs
          · rename_i r hcut
            cases hs
            cases hte : elemOf? P ti.kind with
            | none=>rw [hte] at hcut; unfold cutOwn at hcut; split at hcut <;> simp_all
            | some te =>
              obtain ⟨e,he1,he2⟩:=elemOf_spec hte
              rw [hte] at hcut
              have:=cutOwn_ok (k:=k1) ht he1 he2 hcut hp h hv.head
              rw [← hq] at this
              exact this.next
          split at hs <;> try cases hs
          rename_i hk
          refine (sliceOp_ok (lo:=none) (hi:=some (ρ hh)) ht hk hs hp (by simp) (by simp) (fun z hz=>?_) (by simp) h hv.head).next
          cases hz; exact ⟨k1,_,hq,rfl⟩
        | [],hv,hs=>have:=hv.1; simp at this
        | [_],hv,hs=>have:=hv.1; simp at this
        | _ :: _ :: _ :: _,hv,hs=>have:=hv.1; simp at this
    | some ll =>
      cases hi with
      | none =>
        simp at hv
        match vs,hv,hs with
        | [a,b],hv,hs =>
          have hy:=hv.tail.head
          cases b <;> try (simp only [astep] at hs; cases hs; done)
          rename_i k1 n1
          simp only [astep] at hs
          split at hs <;> try cases hs
          rename_i ti ht
          split at hs <;> try cases hs
          rename_i hk
          have hq : ρ ll = .int k1 n1:=by
            generalize ρ ll = q at hy ⊢
            cases hy; rfl
          refine (sliceOp_ok (lo:=some (ρ ll)) (hi:=none) ht hk hs hp (fun z hz=>?_) (by simp) (by simp) (by simp) h hv.head).next
          cases hz; exact ⟨k1,_,hq,rfl⟩
        | [],hv,hs=>have:=hv.1; simp at this
        | [_],hv,hs=>have:=hv.1; simp at this
        | _ :: _ :: _ :: _,hv,hs=>have:=hv.1; simp at this
      | some hh =>
        simp at hv
        match vs,hv,hs with
        | [a,b,d],hv,hs =>
          have hy:=hv.tail.head
          have hz:=hv.tail.tail.head
          cases b <;> try (simp only [astep] at hs; cases hs; done)
          cases d <;> try (simp only [astep] at hs; cases hs; done)
          rename_i k1 n1 k2 n2
          simp only [astep] at hs
          split at hs <;> try cases hs
          rename_i ti ht
          split at hs <;> try cases hs
          rename_i hk
          have hq : ρ ll = .int k1 n1:=by
            generalize ρ ll = q at hy ⊢
            cases hy; rfl
          have hq2 : ρ hh = .int k2 n2:=by
            generalize ρ hh = q at hz ⊢
            cases hz; rfl
          refine (sliceOp_ok (lo:=some (ρ ll)) (hi:=some (ρ hh)) ht hk hs hp (fun z hz=>?_) (by simp) (fun z hz=>?_) (by simp) h hv.head).next
          · cases hz; exact ⟨k1,_,hq,rfl⟩
          · cases hz; exact ⟨k2,_,hq2,rfl⟩
        | [],hv,hs=>have:=hv.1; simp at this
        | [_],hv,hs=>have:=hv.1; simp at this
        | [_,_],hv,hs=>have:=hv.1; simp at this
        | _ :: _ :: _ :: _ :: _,hv,hs=>have:=hv.1; simp at this
  case makeInterface t x =>
    simp only [List.map_cons,List.map_nil] at hv
    match vs,hv,hs with
    | [a],hv,hs =>
      simp only [astep] at hs
      split at hs <;> try cases hs
      rename_i ti ht
      split at hs <;> try cases hs
      rename_i hki
      split at hs <;> try cases hs
      rename_i x' hfr
      obtain ⟨G1,k1,k2,k3⟩:=frzC_ok h hv.head hfr
      obtain ⟨i,d,h1,h2,h3,h4,h5,h6⟩:=tinf_spec ht
      have hd : ∀ ms,d ≠ .interface ms:=fun ms e=>by
        rw [h6,e] at hki; simp [tkOf,tkIface] at hki
      have hrun : (Instr.makeInterface t (ρ x)).run P w = .ok (.iface t (ρ x)) w:=by
        cases d <;> first | exact absurd rfl (hd _) | simp [Instr.makeInterface,run_underlying h2,Result.andThen]
      split at hs
      · cases hs
        have k4 : ∀ {q : Value} {i o : Nat},RV G1 w (.ptr i o) q → RV G1 w (.ifp t i o) (.iface t q):=fun h=>by cases h; exact .ifp t _ _ (by assumption)
        exact YV.next ⟨_,w,G1,hrun,k4 k3,k1,k2,Below.refl _ _⟩
      · cases hs
        exact YV.next ⟨_,w,G1,hrun,.ifx t _ _ k3,k1,k2,Below.refl _ _⟩
      · cases hs
        exact YV.next ⟨_,w,G1,hrun,.iface t _ _ hp k3,k1,k2,Below.refl _ _⟩
    | [],hv,hs=>have:=hv.1; simp at this
    | _ :: _ :: _,hv,hs=>have:=hv.1; simp at this
  case fieldAddr t x k =>
    simp only [List.map_cons,List.map_nil] at hv
    match vs,hv,hs with
    | [a],hv,hs =>
      simp only [astep] at hs
      split at hs <;> try cases hs
      rename_i ti ht
      split at hs <;> try cases hs
      rename_i fs hk
      split at hs <;> try cases hs
      rename_i off ty sz hf
      split at hs <;> try cases hs
      rename_i hsz
      split at hs <;> try cases hs
      rename_i hsh
      exact (fieldAt_ok ht hk hf hsz hsh h hv.head).next
    | [],hv,hs=>have:=hv.1; simp at this
    | _ :: _ :: _,hv,hs=>have:=hv.1; simp at this
  case field t x k =>
    simp only [List.map_cons,List.map_nil] at hv
    match vs,hv,hs with
    | [a],hv,hs =>
      cases a <;> try (simp only [astep] at hs; cases hs; done)
      simp only [astep] at hs
      split at hs <;> try cases hs
      rename_i ti ht
      split at hs <;> try cases hs
      rename_i fs hk
      split at hs <;> try cases hs
      rename_i off ty sz hf
      split at hs <;> try cases hs
      rename_i tf htf
      split at hs <;> try cases hs
      rename_i hpt
      exact (field_ok ht hk hf htf hpt hp h hv.head).next
    | [],hv,hs=>have:=hv.1; simp at this
    | _ :: _ :: _,hv,hs=>have:=hv.1; simp at this
  case indexAddr t x i =>
    simp only [List.map_cons,List.map_nil] at hv
    match vs,hv,hs with
    | [a,b],hv,hs =>
      have hy:=hv.tail.head
      cases b <;> try (simp only [astep] at hs; cases hs; done)
      simp only [astep] at hs
      split at hs <;> try cases hs
      rename_i ti ht
      split at hs <;> try cases hs
      rename_i te hte
      obtain ⟨e,he1,he2⟩:=elemOf_spec hte
      split at hs <;> try cases hs
      rename_i hix
      dsimp only
      generalize ρ i = q at hy ⊢
      cases hy
      exact (indexAt_ok ht he1 he2 hix hp h hv.head).next
    | [],hv,hs=>have:=hv.1; simp at this
    | [_],hv,hs=>have:=hv.1; simp at this
    | _ :: _ :: _ :: _,hv,hs=>have:=hv.1; simp at this
  case index t x i =>
    simp only [List.map_cons,List.map_nil] at hv
    match vs,hv,hs with
    | [a,b],hv,hs =>
      have hy:=hv.tail.head
      cases a <;> try (simp only [astep] at hs; cases hs; done)
      cases b <;> try (simp only [astep] at hs; cases hs; done)
      simp only [astep] at hs
      split at hs <;> try cases hs
      rename_i ti ht
      split at hs <;> try cases hs
      rename_i hk
      dsimp only
      generalize ρ i = q at hy ⊢
      cases hy
      exact (indexStr_ok ht (tkStr_spec hk) hp h hv.head).next
    | [],hv,hs=>have:=hv.1; simp at this
    | [_],hv,hs=>have:=hv.1; simp at this
    | _ :: _ :: _ :: _,hv,hs=>have:=hv.1; simp at this
  case typeAssert x t u ok =>
    cases ok with
    | false=>exfalso; revert hs; unfold astep; split <;> simp_all
    | true =>
      simp only [List.map_cons,List.map_nil] at hv
      match vs,hv,hs with
      | [a],hv,hs =>
        simp only [astep] at hs
        split at hs <;> try cases hs
        rename_i zc hz
        exact (assert_ok hz hs h hv.head).next
      | [],hv,hs=>have:=hv.1; simp at this
      | _ :: _ :: _,hv,hs=>have:=hv.1; simp at this
  case extract x k =>
    simp only [List.map_cons,List.map_nil] at hv
    match vs,hv,hs with
    | [a],hv,hs =>
      cases a <;> try (simp only [astep] at hs; cases hs; done)
      simp only [astep] at hs
      cases hs
      exact (extract_ok hp h hv.head).next
    | [],hv,hs=>have:=hv.1; simp at this
    | _ :: _ :: _,hv,hs=>have:=hv.1; simp at this
  case call cl =>
    obtain ⟨callee,args,ts⟩:=cl
    cases callee with
    | builtin b =>
      simp only [astep] at hs
      simp [Call.operands] at hv
      have:=builtin_ok (ty:=o.type) (cs:=args.map fun | .const _=>true | _=>false) (xs:=args.map ρ) (by simpa using hv) hs hp h
      simp [resolve,invoke,Result.andThen]
      exact this
    | value f=>exfalso; revert hs; unfold astep; split <;> simp_all
    | invoke r m=>exfalso; revert hs; unfold astep; split <;> simp_all
  case makeFunc fn first captured =>
    simp only [astep] at hs
    cases hs
    simp only [Array.toList_append,List.map_append] at hv
    have hl : vs.length = first.size + captured.size:=by have:=hv.1; simpa using this
    refine .pure h (x:=.func fn (first.map ρ) (captured.map ρ)) (.func fn _ _ _ _ (by simp; omega) (by simp; omega) (fun i hi=>?_) (fun i hi=>?_)) (by simp [Instr.makeFunc])
    · simp only [List.length_take] at hi
      have:=hv.2 i (by omega)
      have e1 : ((first.toList.map ρ) ++ (captured.toList.map ρ)).getD i undef = (first.map ρ).getD i undef:=by
        have : i < first.size:=by omega
        rw [List.getD,List.getElem?_append_left (by simpa using this)]
        simp [Array.getD,this]
      rw [e1] at this
      rw [getD_take _ _ _ _ (by omega)]; exact this
    · simp only [List.length_drop] at hi
      have:=hv.2 (first.size + i) (by omega)
      have e1 : ((first.toList.map ρ) ++ (captured.toList.map ρ)).getD (first.size + i) undef = (captured.map ρ).getD i undef:=by
        have h2 : i < captured.size:=by omega
        simp [List.getD,Array.getD,h2]
      rw [e1] at this
      rw [getD_drop]; exact this
  case makeMap t r =>
    cases r with
    | none =>
      obtain rfl : vs = []:=by have:=hv.1; simpa using this
      simp only [astep] at hs
      cases hs
      exact (makeMap_ok h).next
    | some r=>exfalso; revert hs; unfold astep; split <;> simp_all
  case lookup t x ix ok =>
    simp only [List.map_cons,List.map_nil] at hv
    match vs,hv,hs with
    | [a,b],hv,hs =>
      cases ok with
      | false =>
        cases a <;> try (simp only [astep] at hs; cases hs; done)
        cases b <;> try (simp only [astep] at hs; cases hs; done)
        case str =>
          simp only [astep] at hs
          split at hs <;> try cases hs
          rename_i kt z hm
          split at hs <;> try cases hs
          rename_i es hb
          split at hs <;> try cases hs
          rename_i r hf
          exact (lookupS1_ok hm hb hf h hv.head hv.tail.head).next
        case agg =>
          simp only [astep] at hs
          split at hs <;> try cases hs
          rename_i kt l n z hm
          split at hs <;> try cases hs
          rename_i es hb
          split at hs <;> try cases hs
          rename_i r hf
          exact (lookup1_ok hm hb hf hp.1 hp.2 h hv.head hv.tail.head).next
      | true =>
        cases a <;> try (simp only [astep] at hs; cases hs; done)
        cases b <;> try (simp only [astep] at hs; cases hs; done)
        case str =>
          simp only [astep] at hs
          split at hs <;> try cases hs
          rename_i kt z hm
          split at hs <;> try cases hs
          rename_i es hb
          split at hs <;> try cases hs
          rename_i r hf
          exact (lookupS_ok hm hb hf h hv.head hv.tail.head).next
        case agg =>
          simp only [astep] at hs
          split at hs <;> try cases hs
          rename_i kt l n z hm
          split at hs <;> try cases hs
          rename_i es hb
          split at hs <;> try cases hs
          rename_i r hf
          exact (lookup_ok hm hb hf hp.1 hp.2 h hv.head hv.tail.head).next
    | [],hv,hs=>have:=hv.1; simp at this
    | [_],hv,hs=>have:=hv.1; simp at this
    | _ :: _ :: _ :: _,hv,hs=>have:=hv.1; simp at this
  case mapUpdate t m k x =>
    simp only [List.map_cons,List.map_nil] at hv
    match vs,hv,hs with
    | [a,b,u],hv,hs =>
      cases a <;> try (simp only [astep] at hs; cases hs; done)
      cases b <;> try (simp only [astep] at hs; cases hs; done)
      case str =>
        simp only [astep] at hs
        split at hs <;> try cases hs
        rename_i kt z hm
        split at hs <;> try cases hs
        rename_i es hb
        split at hs <;> try cases hs
        rename_i r hf
        obtain ⟨w',G',r1,r2,r3,r4⟩:=mapUpdateS_ok hm hb hf h hv.head hv.tail.head hv.tail.tail.head
        exact ⟨undef,w',G',.inr ⟨by simp [r1,Result.andThen],rfl⟩,.bot _,r2,r3,r4⟩
      case agg =>
        simp only [astep] at hs
        split at hs <;> try cases hs
        rename_i kt l n z hm
        split at hs <;> try cases hs
        rename_i es hb
        split at hs <;> try cases hs
        rename_i r hf
        obtain ⟨w',G',r1,r2,r3,r4⟩:=mapUpdate_ok hm hb hf hp.1 hp.2 h hv.head hv.tail.head hv.tail.tail.head
        exact ⟨undef,w',G',.inr ⟨by simp [r1,Result.andThen],rfl⟩,.bot _,r2,r3,r4⟩
    | [],hv,hs=>have:=hv.1; simp at this
    | [_],hv,hs=>have:=hv.1; simp at this
    | [_,_],hv,hs=>have:=hv.1; simp at this
    | _ :: _ :: _ :: _ :: _,hv,hs=>have:=hv.1; simp at this
  case insert t m k x =>
    simp only [List.map_cons,List.map_nil] at hv
    match vs,hv,hs with
    | [a,b,u],hv,hs =>
      cases a <;> try (simp only [astep] at hs; cases hs; done)
      cases b <;> try (simp only [astep] at hs; cases hs; done)
      simp only [astep] at hs
      split at hs <;> try cases hs
      rename_i kt z hm
      split at hs <;> try cases hs
      rename_i es hb
      split at hs <;> try cases hs
      rename_i r hf
      obtain ⟨w',G',r1,r2,r3,r4⟩:=mapUpdateS_ok hm hb hf h hv.head hv.tail.head hv.tail.tail.head
      exact ⟨undef,w',G',.inr ⟨by simp [r1,Result.andThen],rfl⟩,.bot _,r2,r3,r4⟩
    | [],hv,hs=>have:=hv.1; simp at this
    | [_],hv,hs=>have:=hv.1; simp at this
    | [_,_],hv,hs=>have:=hv.1; simp at this
    | _ :: _ :: _ :: _ :: _,hv,hs=>have:=hv.1; simp at this
  all_goals (exfalso; revert hs; unfold astep; split <;> simp_all)
end Go.Abs
/- Calls, regions, code. -/
namespace Go.Abs
open Go.RowKit
def ACalls (P : Program) (f : FuncId) (args : List AV) (A : List Box) (R : AV → List Box → Prop) : Prop :=
  ∀ (G : Ghost) (w : World) (base : Nat) (xs : Array Value),HRel G A w base → RL G w args xs.toList →
    Calls P f xs w fun e w'=>∃ x v A' G',e = .returned x ∧ R v A' ∧ RV G' w' v x ∧ HRel G' A' w' base ∧ Ext G w G' w' ∧ Below base w w'
theorem ACalls.mono {P : Program} {f : FuncId} {args : List AV} {A : List Box} {R R' : AV → List Box → Prop} (h : ACalls P f args A R) (hr : ∀ v A',R v A' → R' v A') : ACalls P f args A R' :=
  fun G w base xs h1 h2=>(h G w base xs h1 h2).mono fun e w' ⟨x,v,A',G',a1,a2,a3⟩=>⟨x,v,A',G',a1,hr v A' a2,a3⟩
def callable (P : Program) (g : FuncId) : Bool :=
  match P.funcs[g]? with
  | some fn=>fn.name != "runtime.NumGoroutine" && fn.body.isSome
  | none=>false
theorem callFunc_run {P : Program} {g : FuncId} {xs : Array Value} {w : World} (h : callable P g = true) : (callFunc g xs).run P w = .ok (.enter g xs) w:=by
  unfold callable at h
  split at h
  · rename_i fn hf
    simp only [Bool.and_eq_true,bne_iff_ne,ne_eq] at h
    cases hb : fn.body with
    | none=>rw [hb] at h; simp at h
    | some cd=>simp [callFunc,hf,h.1,hb,Result.andThen]
  · cases h
def callTarget (P : Program) (op : Op) (vs : List AV) : Option (FuncId × List AV) :=
  match op,vs with
  | .call ⟨.value _,_,_⟩,.func (.func g) first captured :: args=>if callable P g = true then some (g,first ++ args ++ captured) else none
  | .call ⟨.invoke _ name,_,_⟩,.iface t v :: args=>match methA P t name with
    | some g=>if callable P g = true then some (g,v :: args) else none
    | none=>none
  | .call ⟨.invoke _ name,_,_⟩,.ifx t v :: args=>match methA P t name with
    | some g=>if callable P g = true then some (g,v :: args) else none
    | none=>none
  | _,_=>none
def CallK (P : Program) (own : FuncId → Bool) (g : FuncId) (args : List AV) (A : List Box) (K : AV → List Box → Prop) : Prop :=
  if own g = true then ACalls P g args A K else (∃ args' A1,frzs args A = some (args',A1) ∧ ACalls P g args' A1 K) ∨ ACalls P g args A K
def OpK (P : Program) (own : FuncId → Bool) (o : Oper) (vs : List AV) (A : List Box) (K : AV → List Box → Prop) : Prop :=
  match callTarget P o.op vs with
  | some (g,args)=>CallK P own g args A K
  | none=>match astep P o.op vs A with
    | some (c,v,A')=>c ∧ K v A'
    | none=>False
theorem RL.append {G : Ghost} {w : World} {vs us : List AV} {xs ys : List Value} (h : RL G w vs xs) (k : RL G w us ys) : RL G w (vs ++ us) (xs ++ ys):=by
  induction vs generalizing xs with
  | nil=>cases xs with
    | nil=>simpa using k
    | cons x xs=>have:=h.1; simp at this
  | cons v vs ih=>cases xs with
    | nil=>have:=h.1; simp at this
    | cons x xs=>simpa using .cons h.head (ih h.tail)
theorem methA_run {P : Program} {t : TypeId} {name : String} {g : FuncId} {v : Value} {w : World} {n : Nat} (h : methA P t name = some g) : (method (n + 1) t v name).run P w = .ok (g,v) w:=by
  unfold methA at h
  split at h <;> try cases h
  rename_i i d h1 h2
  split at h <;> try cases h
  rename_i m hm
  have hti : (typeInfo t).run P w = .ok i w:=by simp [typeInfo,h1]
  split at h <;> try cases h
  · rename_i e hf hp
    simp [method,hti,Result.andThen,hm,hp,follow,hf,receiverAt,run_underlying h2,Place.get]
  · rename_i d1 x2 x1 d0 hp0 hnp hf0
    have : ∀ x wr,(receiverAt t (.val x) false wr).run P w = .ok x w:=fun x wr=>by
      cases d1 <;> first | (exact absurd rfl (hnp _)) | simp [receiverAt,run_underlying h2,Result.andThen,Place.get]
    simp [method,hti,Result.andThen,hm,hp0,follow,hf0,this]
theorem OpK_ok {P : Program} {own : FuncId → Bool} {o : Oper} {vs : List AV} {A : List Box} {K : AV → List Box → Prop} {a : Act} {w : World} {G : Ghost} {base : Nat} {next : Act → World → Prop} {Q : Exit → Act → World → Prop}
    (hk : OpK P own o vs A K) (hv : RL G w vs (o.op.operands.toList.map a.eval)) (h : HRel G A w base)
    (hn : ∀ v A' x w' G',K v A' → RV G' w' v x → HRel G' A' w' base → Ext G w G' w' → Below base w w' → next (a.put o.dst x) w') : o.wp P a w next Q:=by
  have go : ∀ g args (xs : Array Value),CallK P own g args A K → RL G w args xs.toList → (execOp a.eval o).run P w = .ok (.enter g xs) w → o.wp P a w next Q:=fun g args xs hc hx hr=>by
    unfold Oper.wp
    rw [hr,Oper.upon_enter]
    unfold CallK at hc
    split at hc
    · exact (hc G w base xs h hx).mono fun e w' ⟨x,v,A',G',e1,e2,e3,e4,e5,e6⟩=>by subst e1; exact hn v A' x w' G' e2 e3 e4 e5 e6
    · rcases hc with ⟨args',A1,hf,hc⟩ | hc
      · obtain ⟨G1,k1,k2,k3⟩:=frzs_ok h hx hf
        exact (hc G1 w base xs k1 k3).mono fun e w' ⟨x,v,A',G',e1,e2,e3,e4,e5,e6⟩=>by subst e1; exact hn v A' x w' G' e2 e3 e4 (k2.trans e5) e6
      · exact (hc G w base xs h hx).mono fun e w' ⟨x,v,A',G',e1,e2,e3,e4,e5,e6⟩=>by subst e1; exact hn v A' x w' G' e2 e3 e4 e5 e6
  unfold OpK at hk
  split at hk
  · rename_i g args hct
    unfold callTarget at hct
    split at hct <;> try cases hct
    · rename_i f as ts g' first captured args0 hop
      split at hct <;> try cases hct
      rename_i hca
      rw [hop] at hv
      simp [Op.operands,Call.operands] at hv
      have hf:=hv.head
      generalize hq : a.eval f = fv at hf
      cases hf with
      | func _ _ _ ys zs hs ht hh hh' =>
        refine go g _ (ys ++ as.map a.eval ++ zs) hk ?_ ?_
        · have h1:=RL.ofArr hs hh
          have h2:=RL.ofArr ht hh'
          have:=(h1.append hv.tail).append h2
          simpa using this
        · unfold execOp
          simp only [hop]
          simp [resolve,Deferred.ofValue,hq,invoke,Result.andThen]
          exact callFunc_run hca
    · rename_i r name as ts t v args0 hop
      split at hct <;> try cases hct
      rename_i g' hm
      split at hct <;> try cases hct
      rename_i hca
      rw [hop] at hv
      simp [Op.operands,Call.operands] at hv
      have hf:=hv.head
      generalize hq : a.eval r = fv at hf
      cases hf with
      | iface _ _ x hw hx =>
        refine go g _ (#[x] ++ as.map a.eval) hk ?_ ?_
        · have:=RL.cons hx hv.tail
          simpa using this
        · unfold execOp
          simp only [hop]
          have hmr:=methA_run (P:=P) (w:=w) (v:=x) (n:=P.types.size + Made.depth - 1) hm
          have hd : P.types.size + Made.depth - 1 + 1 = P.types.size + Made.depth:=by
            have : 0 < Made.depth:=by decide
            omega
          rw [hd] at hmr
          have h0 : (#[Value.iface t x] ++ as.map a.eval)[0]? = some (.iface t x):=by
            rw [Array.getElem?_append_left (by simp)]; rfl
          have h1 : (as.map a.eval).extract 0 as.size = as.map a.eval:=by
            have:=Array.extract_size (xs:=as.map a.eval)
            rwa [Array.size_map] at this
          simp [resolve,hq,invoke,callMethod,Result.andThen,hmr,h0,h1]
          exact callFunc_run hca
    · rename_i r name as ts t v args0 hop
      split at hct <;> try cases hct
      rename_i g' hm
      split at hct <;> try cases hct
      rename_i hca
      rw [hop] at hv
      simp [Op.operands,Call.operands] at hv
      have hf:=hv.head
      generalize hq : a.eval r = fv at hf
      cases hf with
      | ifx _ _ x hx =>
        refine go g _ (#[x] ++ as.map a.eval) hk ?_ ?_
        · have:=RL.cons hx hv.tail
          simpa using this
        · unfold execOp
          simp only [hop]
          have hmr:=methA_run (P:=P) (w:=w) (v:=x) (n:=P.types.size + Made.depth - 1) hm
          have hd : P.types.size + Made.depth - 1 + 1 = P.types.size + Made.depth:=by
            have : 0 < Made.depth:=by decide
            omega
          rw [hd] at hmr
          have h0 : (#[Value.iface t x] ++ as.map a.eval)[0]? = some (.iface t x):=by
            rw [Array.getElem?_append_left (by simp)]; rfl
          have h1 : (as.map a.eval).extract 0 as.size = as.map a.eval:=by
            have:=Array.extract_size (xs:=as.map a.eval)
            rwa [Array.size_map] at this
          simp [resolve,hq,invoke,callMethod,Result.andThen,hmr,h0,h1]
          exact callFunc_run hca
  · split at hk
    · rename_i c v A' hs
      obtain ⟨x,w',G',hr,e1,e2,e3,e4⟩:=astep_ok hv hs hk.1 h
      unfold Oper.wp
      rcases hr with hr | ⟨hr,rfl⟩
      · rw [hr,Oper.upon_value]; exact hn v A' x w' G' hk.2 e1 e2 e3 e4
      · rw [hr,Oper.upon_skip]; exact hn v A' undef w' G' hk.2 e1 e2 e3 e4
    · exact hk.elim
end Go.Abs
/- A call that reads what is owned, and gives it back. -/
namespace Go.Abs
open Go.RowKit
inductive View (A : List Box) : AV → AV → Prop
  | leaf (v : AV) (h : isLeaf v = true) : View A v v
  | nils : View A .nils (.slice [])
  | row (i sz s : Nat) (rows rows' : List (List AV)) (h : A.getD i .dead = .row sz rows s) (hl : rows'.length = rows.length) (hr : ∀ r ∈ rows',r.length = sz ∧ ∀ v ∈ r,isLeaf v = true)
      (hv : ∀ k j,k < rows.length → j < sz → View A (rowAt rows k j) (rowAt rows' k j)) : View A (.own i) (.slice rows')
  | gr (i sz : Nat) (te : Option TypeId) (rows rows' : List (List AV)) (h : A.getD i .dead = .gr te sz rows) (hl : rows'.length = rows.length) (hr : ∀ r ∈ rows',r.length = sz ∧ ∀ v ∈ r,isLeaf v = true)
      (hv : ∀ k j,k < rows.length → j < sz → View A (rowAt rows k j) (rowAt rows' k j)) : View A (.own i) (.slice rows')
  | agg (cs cs' : List AV) (hl : cs'.length = cs.length) (hv : ∀ i,i < cs.length → View A (cs.getD i .bot) (cs'.getD i .bot)) : View A (.agg cs) (.agg cs')
def cov (G : Ghost) (w : World) : Ghost:={ G with I:=fun b _=>b < w.heap.size }
theorem cov_ext {G : Ghost} {A : List Box} {w : World} {base : Nat} (h : HRel G A w base) : Ext G w (cov G w) w :=
  ⟨Nat.le_refl _,fun b o x=>h.imm b o x,fun _ _ _=>rfl,fun _ _=>⟨rfl,rfl,rfl,rfl,rfl⟩,fun _ _ _ f=>f⟩
theorem RowOk.view {E : AV → Bool} {G : Ghost} {w : World} {i sz s : Nat} {rows rows' : List (List AV)} (hb : RowOk E G w i sz rows s) (hlt : G.blk i < w.heap.size) (hl : rows'.length = rows.length) (hr : ∀ r ∈ rows',r.length = sz ∧ ∀ v ∈ r,isLeaf v = true)
    (hv : ∀ k j x,k < rows.length → j < sz → RV G w (rowAt rows k j) x → RV (cov G w) w (rowAt rows' k j) x) : RV (cov G w) w (.slice rows') (.slice (some ⟨G.blk i,G.off i,none⟩) (G.len i) (G.cap i)):=by
  obtain ⟨c,el,q1,q3,q4,q5,q6,q7,q8,q9,q10,q11⟩:=hb
  rw [q4,← hl]
  refine .slice rows' (G.blk i) (G.off i) (G.cap i) sz (fun k j=>c.getD (G.off i + (k * sz + j)) undef) hr (by omega) (fun k j hk hj=>?_) (fun _ _ _ _=>hlt) (fun _ _=>⟨c,el,q1⟩) fun k j hk hj=>hv k j _ (by omega) hj (q10 k j (by omega) hj)
  exact cell?_of q1 (by have:=row_in (rows:=rows) (by omega : k < rows.length) hj q5; omega)
theorem RV.view {G : Ghost} {A : List Box} {w : World} {base : Nat} (h : HRel G A w base) {v v' : AV} (hv : View A v v') : ∀ {x : Value},RV G w v x → RV (cov G w) w v' x:=by
  induction hv with
  | leaf v hl=>intro x hx; exact hx.mono (cov_ext h)
  | nils=>intro x hx; cases hx; exact .slice0
  | row i sz s rows rows' hb hl hr hv ih =>
    intro x hx
    cases hx with
    | own _ hi =>
      have hil : i < A.length:=by rw [← h.n]; exact hi
      have hbx:=h.box i hil
      have hbd:=h.bnd i hil (by rw [hb]; rfl)
      rw [hb] at hbx
      exact RowOk.view hbx hbd.2 hl hr fun k j x hk hj hx=>ih k j hk hj hx
  | gr i sz te rows rows' hb hl hr hv ih =>
    intro x hx
    cases hx with
    | own _ hi =>
      have hil : i < A.length:=by rw [← h.n]; exact hi
      have hbx:=h.box i hil
      have hbd:=h.bnd i hil (by rw [hb]; rfl)
      rw [hb] at hbx
      exact RowOk.view hbx.1 hbd.2 hl hr fun k j x hk hj hx=>ih k j hk hj hx
  | agg cs cs' hl hv ih =>
    intro x hx
    cases hx with
    | agg _ xs hs hc hh=>exact .agg cs' xs (by omega) hc fun i hi=>ih i (by omega) (hh i (by omega))
mutual
def ifree : AV → Bool
  | .slice []=>true
  | .slice _ | .aslice _ | .islice .. | .ivptr .. | .vptr _=>false
  | .agg cs=>ifrees cs
  | .tuple cs=>ifrees cs
  | .iface _ v=>ifree v
  | .ifx _ v=>ifree v
  | .func _ first captured=>ifrees first && ifrees captured
  | .bot | .int .. | .bool _ | .str _ | .own _ | .nils | .ptr .. | .eptr .. | .nilp | .nilf | .nili | .map _ | .nilm | .ifp ..=>true
def ifrees : List AV → Bool
  | []=>true
  | v :: l=>ifree v && ifrees l
end
theorem ifrees_getD : ∀ {l : List AV} {i : Nat},ifrees l = true → i < l.length → ifree (l.getD i .bot) = true
  | v :: l,0,h,_=>by simp only [ifrees,Bool.and_eq_true] at h; exact h.1
  | v :: l,i + 1,h,hi=>by
    simp only [ifrees,Bool.and_eq_true] at h
    have:=ifrees_getD (i:=i) h.2 (by simpa using hi)
    simpa using this
theorem RV.ifree {G : Ghost} {w : World} (I : Nat → Nat → Prop) {v : AV} {x : Value} (h : RV G w v x) : Abs.ifree v = true → RV { G with I:=I } w v x:=by
  induction h with
  | bot x=>intro _; exact .bot x
  | int k n=>intro _; exact .int k n
  | bool b=>intro _; exact .bool b
  | str s=>intro _; exact .str s
  | agg cs xs hs hc h ih=>intro hf; exact .agg cs xs hs hc fun i hi=>ih i hi (ifrees_getD (by simpa [Abs.ifree] using hf) hi)
  | tuple cs xs hs h ih=>intro hf; exact .tuple cs xs hs fun i hi=>ih i hi (ifrees_getD (by simpa [Abs.ifree] using hf) hi)
  | slice0=>intro _; exact .slice0
  | sliceE a cap=>intro _; exact .sliceE a cap
  | slice rows b off cap sz X hr hcap hx hI hz h ih =>
    intro hf
    cases rows with
    | nil=>exact .sliceE _ _
    | cons r rows=>simp [Abs.ifree] at hf
  | aslice0=>intro hf; simp [Abs.ifree] at hf
  | asliceE a cap=>intro hf; simp [Abs.ifree] at hf
  | aslice=>intro hf; simp [Abs.ifree] at hf
  | islice=>intro hf; simp [Abs.ifree] at hf
  | ivptr=>intro hf; simp [Abs.ifree] at hf
  | own i hi=>intro _; exact .own (G:={ G with I:=I }) i hi
  | nils=>intro _; exact .nils
  | ptr i o hi=>intro _; exact .ptr (G:={ G with I:=I }) i o hi
  | eptr i k j hi=>intro _; exact .eptr (G:={ G with I:=I }) i k j hi
  | vptr=>intro hf; simp [Abs.ifree] at hf
  | nilp=>intro _; exact .nilp
  | func fn first captured xs ys hs ht h h' ih ih' =>
    intro hf
    simp only [Abs.ifree,Bool.and_eq_true] at hf
    exact .func fn first captured xs ys hs ht (fun i hi=>ih i hi (ifrees_getD hf.1 hi)) (fun i hi=>ih' i hi (ifrees_getD hf.2 hi))
  | nilf=>intro _; exact .nilf
  | iface t v x hv h ih=>intro hf; exact .iface t v x hv (ih (by simpa [Abs.ifree] using hf))
  | nili=>intro _; exact .nili
  | map i hi=>intro _; exact .map (G:={ G with I:=I }) i hi
  | nilm=>intro _; exact .nilm
  | ifp t i o hi=>intro _; exact .ifp (G:={ G with I:=I }) t i o hi
  | ifx t v x h ih=>intro hf; exact .ifx t v x (ih (by simpa [Abs.ifree] using hf))
def ifreeB : Box → Bool
  | .dead=>true
  | .cells cs=>ifrees cs
  | .tc _ cs=>ifrees cs
  | .row _ rows s=>s == 0 && rows.all ifrees
  | .gr _ _ rows=>rows.all ifrees
  | .mapb es=>es.all fun e=>ifree e.1 && ifree e.2
theorem RowOk.ifree {E : AV → Bool} {G : Ghost} {w : World} {i sz : Nat} {rows : List (List AV)} {I : Nat → Nat → Prop} (h : RowOk E G w i sz rows 0) (hf : rows.all ifrees = true) (hI : ∀ o,I (G.blk i) o → G.I (G.blk i) o) : RowOk E { G with I:=I } w i sz rows 0:=by
  obtain ⟨c,el,q1,q3,q4,q5,q6,q7,q8,q9,q10,q11⟩:=h
  refine ⟨c,el,q1,q3,q4,q5,q6,q7,q8,q9,fun k j hk hj=>(q10 k j hk hj).ifree I ?_,fun o ho hh=>q11 o ho (hI o hh)⟩
  have hm:=getD_mem (d:=[]) hk
  exact ifrees_getD (List.all_eq_true.1 hf _ hm) (by rw [(q9 _ hm).1]; exact hj)
theorem BoxOk.ifree {G : Ghost} {w : World} {i : Nat} {b : Box} {I : Nat → Nat → Prop} (h : BoxOk G w i b) (hf : ifreeB b = true) (hI : b.live = true → ∀ o,I (G.blk i) o → G.I (G.blk i) o) : BoxOk { G with I:=I } w i b:=by
  cases b with
  | dead=>trivial
  | cells cs =>
    obtain ⟨c,e,q1,q3,q4,q5,q6⟩:=h
    exact ⟨c,e,q1,q3,q4,fun j hj=>(q5 j hj).ifree I (ifrees_getD hf hj),fun o ho=>q6 o (hI rfl o ho)⟩
  | tc T cs =>
    obtain ⟨c,q1,q3,q4,q5,q6⟩:=h
    exact ⟨c,q1,q3,q4,fun j hj=>(q5 j hj).ifree I (ifrees_getD hf hj),fun o ho=>q6 o (hI rfl o ho)⟩
  | row sz rows s =>
    simp only [ifreeB,Bool.and_eq_true,beq_iff_eq] at hf
    obtain ⟨rfl,hf⟩:=hf
    exact RowOk.ifree h hf (hI rfl)
  | gr te sz rows=>exact ⟨RowOk.ifree h.1 hf (hI rfl),h.2⟩
  | mapb es =>
    obtain ⟨m,cl,q1,q3,q4,q5⟩:=h
    simp only [ifreeB,List.all_eq_true,Bool.and_eq_true] at hf
    exact ⟨m,cl,q1,q3,fun j hj=>⟨(q4 j hj).1.ifree I (hf _ (getD_mem hj)).1,(q4 j hj).2.ifree I (hf _ (getD_mem hj)).2⟩,fun o ho=>q5 o (hI rfl o ho)⟩
def deads (A : List Box) : List Box:=A.map fun _=>.dead
theorem deads_length (A : List Box) : (deads A).length = A.length:=by simp [deads]
theorem deads_getD (A : List Box) (i : Nat) : (deads A).getD i .dead = .dead:=by
  simp only [deads,List.getD,List.getElem?_map]
  cases A[i]? <;> rfl
theorem getD_append_right {α : Type} {l l' : List α} {i : Nat} {d : α} (h : l.length ≤ i) : (l ++ l').getD i d = l'.getD (i - l.length) d:=by
  simp [List.getD,List.getElem?_append_right h]
theorem cov_rel {G : Ghost} {A : List Box} {w : World} {base : Nat} (h : HRel G A w base) : HRel (cov G w) (deads A) w w.heap.size where
  n:=by rw [deads_length]; exact h.n
  box:=fun i hi=>by rw [deads_getD]; trivial
  sep:=fun i j hi hj hne li lj=>by rw [deads_getD] at li; cases li
  bnd:=fun i hi li=>by rw [deads_getD] at li; cases li
  imm:=fun b o x=>x
  low:=Nat.le_refl _
  gv:=h.gv.wide h.low
def Views (A : List Box) (vs vs' : List AV) : Prop:=vs'.length = vs.length ∧ ∀ i,i < vs.length → View A (vs.getD i .bot) (vs'.getD i .bot)
theorem Views.nil {A : List Box} : Views A [] []:=⟨rfl,fun i hi=>by simp at hi⟩
theorem Views.cons {A : List Box} {v v' : AV} {vs vs' : List AV} (h : View A v v') (k : Views A vs vs') : Views A (v :: vs) (v' :: vs'):=by
  refine ⟨by simp [k.1],fun i hi=>?_⟩
  cases i with
  | zero=>exact h
  | succ i=>simpa using k.2 i (by simpa using hi)
theorem ACalls.borrow {P : Program} {f : FuncId} {args args' : List AV} {A : List Box} {K : AV → List Box → Prop} (hv : Views A args args')
    (hc : ACalls P f args' (deads A) (fun v A'=>∃ B,A' = deads A ++ B ∧ ifree v = true ∧ (∀ b ∈ B,ifreeB b = true) ∧ K v (A ++ B))) : ACalls P f args A K:=by
  intro G w base xs h hx
  have hx' : RL (cov G w) w args' xs.toList:=⟨by rw [hv.1]; exact hx.1,fun i hi=>(hx.2 i (by rw [← hv.1]; exact hi)).view h (hv.2 i (by rw [← hv.1]; exact hi)) |> fun r=>r⟩
  refine (hc (cov G w) w w.heap.size xs (cov_rel h) hx').mono fun e w' ⟨x,v,A',G',e1,⟨B,e2,e3,e4,e5⟩,e6,e7,e8,e9⟩=>?_
  subst e2
  have hbel : ∀ b,b < w.heap.size → w'.heap[b]? = w.heap[b]?:=fun b hb=>e9.block b hb
  have hids : ∀ i,i < G.n → G'.blk i = G.blk i ∧ G'.off i = G.off i ∧ G'.len i = G.len i ∧ G'.cap i = G.cap i ∧ G'.sz i = G.sz i:=fun i hi=>e8.ids i hi
  let I2 : Nat → Nat → Prop:=fun b o=>G.I b o ∨ (w.heap.size ≤ b ∧ G'.I b o)
  have hsize : w.heap.size ≤ w'.heap.size:=e9.size
  have eE : Ext G w { G' with I:=I2 } w':=⟨e8.n,fun b o x=>.inl x,fun b o x=>cell?_congr (hbel b (h.imm b o x)) o,hids,fun b o x f=>by unfold fzOk; rw [hbel b (h.imm b o x)]; exact f⟩
  have hn:=h.n
  have hAB : (A ++ B).length = (deads A ++ B).length:=by simp [deads_length]
  have hgl : ∀ i,i < A.length → (A ++ B).getD i .dead = A.getD i .dead:=fun i hi=>getD_append_left hi
  have hgr : ∀ i,A.length ≤ i → (A ++ B).getD i .dead = (deads A ++ B).getD i .dead:=fun i hi=>by
    rw [getD_append_right hi,getD_append_right (by rw [deads_length]; exact hi),deads_length]
  have hbB : ∀ i,A.length ≤ i → i < (A ++ B).length → ((A ++ B).getD i .dead).live = true → w.heap.size ≤ G'.blk i ∧ G'.blk i < w'.heap.size:=fun i hi hl li=>by
    rw [hgr i hi] at li
    exact e7.bnd i (by rw [← hAB]; exact hl) li
  have hbA : ∀ i,i < A.length → ((A ++ B).getD i .dead).live = true → base ≤ G'.blk i ∧ G'.blk i < w.heap.size:=fun i hi li=>by
    rw [hgl i hi] at li
    have:=h.bnd i hi li
    rw [(hids i (by omega)).1]; exact this
  refine ⟨x,v,A ++ B,{ G' with I:=I2 },e1,e5,e6.ifree I2 e3,⟨by rw [hAB]; exact e7.n,fun i hi=>?_,fun i j hi hj hne li lj=>?_,fun i hi li=>?_,fun b o hh=>?_,Nat.le_trans h.low hsize,h.gv.block fun b hb=>hbel b (by have:=h.low; omega)⟩,eE,?_⟩
  · by_cases hlt : i < A.length
    · rw [hgl i hlt]
      exact (h.box i hlt).mono eE (by omega) (fun li=>hbel _ (h.bnd i hlt li).2) fun li o hh=>by
        rcases hh with hh | ⟨hh,_⟩
        · exact hh
        · have:=(h.bnd i hlt li).2; omega
    · have hge : A.length ≤ i:=by omega
      have hb:=e7.box i (by rw [← hAB]; exact hi)
      rw [hgr i hge]
      have hmem : ∀ bx,(deads A ++ B).getD i .dead = bx → ifreeB bx = true:=fun bx hbx=>by
        rw [getD_append_right (by rw [deads_length]; exact hge)] at hbx
        subst hbx
        exact e4 _ (getD_mem (by rw [deads_length]; simp at hi; omega))
      refine hb.ifree (hmem _ rfl) fun li o hh=>?_
      rcases hh with hh | ⟨_,hh⟩
      · have h1:=h.imm _ _ hh
        have h2:=e7.bnd i (by rw [← hAB]; exact hi) li
        omega
      · exact hh
  · by_cases hil : i < A.length
    · by_cases hjl : j < A.length
      · have hi':=hids i (by omega)
        have hj':=hids j (by omega)
        show G'.blk i ≠ G'.blk j
        rw [hi'.1,hj'.1]
        rw [hgl i hil] at li; rw [hgl j hjl] at lj
        exact h.sep i j hil hjl hne li lj
      · have h1:=hbA i hil li
        have h2:=hbB j (by omega) hj lj
        show G'.blk i ≠ G'.blk j
        omega
    · by_cases hjl : j < A.length
      · have h1:=hbA j hjl lj
        have h2:=hbB i (by omega) hi li
        show G'.blk i ≠ G'.blk j
        omega
      · rw [hgr i (by omega)] at li; rw [hgr j (by omega)] at lj
        exact e7.sep i j (by rw [← hAB]; exact hi) (by rw [← hAB]; exact hj) hne li lj
  · by_cases hil : i < A.length
    · have:=hbA i hil li
      exact ⟨this.1,Nat.lt_of_lt_of_le this.2 hsize⟩
    · have:=hbB i (by omega) hi li
      exact ⟨Nat.le_trans h.low this.1,this.2⟩
  · rcases hh with hh | ⟨_,hh⟩
    · exact Nat.lt_of_lt_of_le (h.imm b o hh) hsize
    · exact e7.imm b o hh
  · exact ⟨e9.os,e9.tape,e9.output,e9.size,fun k hk=>e9.block k (Nat.lt_of_lt_of_le hk h.low)⟩
theorem ACalls.grow {P : Program} {f : FuncId} {args : List AV} {A : List Box} {R : AV → List Box → Prop}
    (h : ACalls P f args A (fun v A'=>R v A' ∨ ∃ i sz rows,A'.getD i .dead = .row sz rows 0 ∧ R v (A'.set i (.gr none sz rows)))) : ACalls P f args A R:=by
  intro G w base xs h1 h2
  refine (h G w base xs h1 h2).mono fun e w' ⟨x,v,A',G',a1,a2,a3,a4,a5⟩=>?_
  rcases a2 with a2 | ⟨i,sz,rows,b1,b2⟩
  · exact ⟨x,v,A',G',a1,a2,a3,a4,a5⟩
  · exact ⟨x,v,_,G',a1,b2,a3,a4.grow b1,a5⟩
def only (keep : Nat → Bool) (A : List Box) : List Box:=(List.range A.length).map fun i=>if keep i = true then A.getD i .dead else .dead
theorem only_length (keep : Nat → Bool) (A : List Box) : (only keep A).length = A.length:=by simp [only]
theorem only_getD (keep : Nat → Bool) (A : List Box) (i : Nat) : (only keep A).getD i .dead = if keep i = true then A.getD i .dead else .dead:=by
  rcases Nat.lt_or_ge i A.length with h | h
  · simp [only,List.getD,h]
  · have : A.getD i .dead = .dead:=by simp [List.getD,Nat.not_lt.2 h]
    rw [this]
    have h2 : (only keep A).getD i .dead = .dead:=by simp [only,List.getD,Nat.not_lt.2 h]
    rw [h2]; split <;> rfl
theorem HRel.only {G : Ghost} {A : List Box} {w : World} {base : Nat} (h : HRel G A w base) (keep : Nat → Bool) : HRel G (only keep A) w base:=by
  have aux : ∀ k,((Abs.only keep A).getD k .dead).live = true → keep k = true ∧ (A.getD k .dead).live = true:=fun k lk=>by
    rw [only_getD] at lk
    split at lk
    · rename_i hk; exact ⟨hk,lk⟩
    · cases lk
  refine ⟨by rw [only_length]; exact h.n,fun j hj=>?_,fun j k hj hk hne lj lk=>?_,fun j hj lj=>?_,h.imm,h.low,h.gv⟩
  · rw [only_length] at hj
    rw [only_getD]
    split
    · exact h.box j hj
    · trivial
  · rw [only_length] at hj hk
    exact h.sep j k hj hk hne (aux j lj).2 (aux k lk).2
  · rw [only_length] at hj
    exact h.bnd j hj (aux j lj).2
theorem ACalls.only {P : Program} {f : FuncId} {args : List AV} {A : List Box} {R : AV → List Box → Prop}
    (h : ACalls P f args A (fun v A'=>∃ keep,R v (Abs.only keep A'))) : ACalls P f args A R:=by
  intro G w base xs h1 h2
  refine (h G w base xs h1 h2).mono fun e w' ⟨x,v,A',G',a1,a2,a3,a4,a5⟩=>?_
  obtain ⟨keep,a2⟩:=a2
  exact ⟨x,v,_,G',a1,a2,a3,a4.only keep,a5⟩
theorem split_front {A A' : List Box} (hl : A.length ≤ A'.length) (hf : ∀ k,k < A.length → A'.getD k .dead = A.getD k .dead) : A' = A ++ A'.drop A.length:=by
  have e : A'.take A.length = A:=by
    apply List.ext_getElem (by simp; omega)
    intro i h1 h2
    have h3:=hf i h2
    have e1 : i < A'.length:=by omega
    simp [List.getD,e1,h2] at h3
    simp [h3]
  conv=>lhs; rw [← List.take_append_drop A.length A',e]
end Go.Abs
/- Regions, code, functions. -/
namespace Go.Abs
open Go.RowKit
abbrev Env:=List (Nat × AV)
def look (t : Nat) : Env → AV
  | []=>.bot
  | (k,v) :: e=>if k = t then v else look t e
def del (t : Nat) : Env → Env
  | []=>[]
  | (k,v) :: e=>if k = t then del t e else (k,v) :: del t e
def putA (N : Nat) (d : Option Nat) (v : AV) (e : Env) : Env :=
  match d with
  | none=>e
  | some d=>if d < N then (d,v) :: del d e else []
def keep (vs : List Nat) (e : Env) : Env:=vs.map fun t=>(t,look t e)
def evA (e : Env) : Operand → AV
  | .tmp t=>look t e
  | .const v=>constA v
  | .func f=>.func (.func f) [] []
  | .global _=>.bot
def wantA (ops : Array Oper) (o : Oper) (e : Env) : Option Bool :=
  match o.guard with
  | none=>some true
  | some (j,want)=>match (ops[j]?).bind (·.dst) with
    | some t=>match look t e with
      | .bool b=>some (b == want)
      | .tuple _=>some false
      | _=>none
    | none=>none
def EnvOk (G : Ghost) (w : World) (e : Env) (tmps : Array Value) : Prop:=∀ t,RV G w (look t e) (tmps.getD t undef)
theorem look_del_ne {t k : Nat} (h : t ≠ k) : ∀ e : Env,look t (del k e) = look t e
  | []=>rfl
  | (j,v) :: e=>by
    simp only [del]
    split
    · rename_i hj; subst hj
      rw [look_del_ne h e]; simp [look,Ne.symm h]
    · simp only [look,look_del_ne h e]
theorem EnvOk.mono {G G' : Ghost} {w w' : World} {e : Env} {tmps : Array Value} (h : EnvOk G w e tmps) (x : Ext G w G' w') : EnvOk G' w' e tmps:=fun t=>(h t).mono x
theorem EnvOk.put {G : Ghost} {w : World} {e : Env} {a : Act} {N : Nat} {d : Option Nat} {v : AV} {x : Value} (h : EnvOk G w e a.tmps) (hN : a.tmps.size = N) (hx : RV G w v x) : EnvOk G w (putA N d v e) (a.put d x).tmps:=by
  cases d with
  | none=>exact h
  | some d =>
    intro t
    simp only [putA,Act.put]
    split
    · rename_i hd
      by_cases ht : d = t
      · subst ht
        have : d < a.tmps.size:=by omega
        simp only [look,if_true]
        have e2 : (a.tmps.setIfInBounds d x).getD d undef = x:=by simp [Array.getD,this]
        rw [e2]; exact hx
      · have e1 : look t ((d,v) :: del d e) = look t e:=by simp only [look,if_neg ht]; exact look_del_ne (Ne.symm ht) e
        have e2 : (a.tmps.setIfInBounds d x).getD t undef = a.tmps.getD t undef:=by
          rw [Array.getD_eq_getD_getElem?,Array.getD_eq_getD_getElem?,Array.getElem?_setIfInBounds_ne ht]
        rw [e1,e2]; exact h t
    · exact .bot _
theorem EnvOk.keep {G : Ghost} {w : World} {e : Env} {tmps : Array Value} {vs : List Nat} (h : EnvOk G w e tmps) : EnvOk G w (keep vs e) tmps:=by
  intro t
  have : look t (Abs.keep vs e) = look t e ∨ look t (Abs.keep vs e) = .bot:=by
    unfold Abs.keep
    induction vs with
    | nil=>exact .inr rfl
    | cons k vs ih =>
      simp only [List.map_cons,look]
      by_cases hk : k = t
      · rw [if_pos hk,hk]; exact .inl rfl
      · rw [if_neg hk]; exact ih
  rcases this with h1 | h1
  · rw [h1]; exact h t
  · rw [h1]; exact .bot _
theorem evA_ok {G : Ghost} {w : World} {e : Env} {a : Act} (h : EnvOk G w e a.tmps) (x : Operand) : RV G w (evA e x) (a.eval x):=by
  cases x with
  | tmp t=>exact h t
  | const v=>exact constA_ok _ _ _
  | func f=>exact .func _ [] [] #[] #[] rfl rfl (fun i hi=>by simp at hi) (fun i hi=>by simp at hi)
  | global g=>exact .bot _
theorem evA_list {G : Ghost} {w : World} {e : Env} {a : Act} (h : EnvOk G w e a.tmps) (l : List Operand) : RL G w (l.map (evA e)) (l.map a.eval):=by
  induction l with
  | nil=>exact .nil
  | cons x l ih=>exact .cons (evA_ok h x) ih
theorem rv_skip {G : Ghost} {w : World} : RV G w (.tuple []) undef:=.tuple [] #[] rfl (fun i hi=>by simp at hi)
theorem wantA_ok {G : Ghost} {w : World} {e : Env} {a : Act} {ops : Array Oper} {o : Oper} {b : Bool} (h : EnvOk G w e a.tmps) (hb : wantA ops o e = some b) : Region.wanted o (yielded ops a.tmps) = b:=by
  unfold wantA at hb
  unfold Region.wanted
  cases hg : o.guard with
  | none=>rw [hg] at hb; cases hb; rfl
  | some jw =>
    obtain ⟨j,want⟩:=jw
    rw [hg] at hb
    simp only at hb ⊢
    split at hb <;> try cases hb
    rename_i t ht
    split at hb <;> first
      | (injection hb with hb; rename_i us hc
         have hu:=h t
         rw [hc] at hu
         have hy : yielded ops a.tmps j = none:=by
           unfold yielded
           rw [ht]
           rcases Nat.lt_or_ge t a.tmps.size with hl | hl
           · have hv : a.tmps.getD t undef = a.tmps[t]:=by simp [Array.getD,hl]
             rw [hv] at hu
             simp only [Option.bind_some,Array.getElem?_eq_getElem hl]
             generalize a.tmps[t] = q at hu
             cases hu; rfl
           · simp [Array.getElem?_eq_none hl]
         rw [hy,← hb]; rfl; done)
      | skip
    all_goals try cases hb
    rename_i c hc
    have:=h t
    rw [hc] at this
    have hy : yielded ops a.tmps j = some c:=by
      unfold yielded
      rw [ht]
      have hv : a.tmps.getD t undef = .bool c:=by
        generalize a.tmps.getD t undef = q at this
        cases this; rfl
      have hlt : t < a.tmps.size:=by
        rcases Nat.lt_or_ge t a.tmps.size with hl | hl
        · exact hl
        · simp [Array.getD,Nat.not_lt.2 hl,undef] at hv
      simp only [Option.bind_some,Array.getElem?_eq_getElem hlt]
      simp [Array.getD,hlt] at hv
      rw [hv]
    rw [hy]; cases c <;> cases want <;> rfl
def wpO (P : Program) (own : FuncId → Bool) (N : Nat) (ops : Array Oper) (Q : Env → List Box → Prop) : List Oper → Env → List Box → Prop
  | [],e,A=>Q e A
  | o :: rest,e,A=>match wantA ops o e with
    | none=>False
    | some b=>(b = true → OpK P own o (o.op.operands.toList.map (evA e)) A (fun v A'=>wpO P own N ops Q rest (putA N o.dst v e) A')) ∧ (b = false → wpO P own N ops Q rest (putA N o.dst (.tuple []) e) A)
structure ARel (N base : Nat) (G : Ghost) (e : Env) (A : List Box) (a : Act) (w : World) : Prop where
  defers : a.defers = []
  size : a.tmps.size = N
  env : EnvOk G w e a.tmps
  heap : HRel G A w base
theorem ARel.put {N base : Nat} {G G' : Ghost} {e : Env} {A A' : List Box} {a : Act} {w w' : World} {d : Option Nat} {v : AV} {x : Value} (h : ARel N base G e A a w) (he : Ext G w G' w') (hx : RV G' w' v x) (hh : HRel G' A' w' base) :
    ARel N base G' (putA N d v e) A' (a.put d x) w':=by
  refine ⟨?_,?_,(h.env.mono he).put h.size hx,hh⟩
  · cases d <;> exact h.defers
  · cases d with
    | none=>exact h.size
    | some d=>simp only [Act.put,Array.size_setIfInBounds]; exact h.size
def APost (N base : Nat) (G0 : Ghost) (w0 : World) (Q : Exit → Env → List Box → Prop) : Exit → Act → World → Prop:=fun x a w =>
  ∃ e A G,Q x e A ∧ ARel N base G e A a w ∧ Ext G0 w0 G w ∧ Below base w0 w
theorem wpO_ok {P : Program} {own : FuncId → Bool} {N base : Nat} {ops : Array Oper} {Q : Env → List Box → Prop} {Q' : Exit → Act → World → Prop} {G0 : Ghost} {w0 : World} (hQ : ∀ e A a w G,Q e A → ARel N base G e A a w → Ext G0 w0 G w → Below base w0 w → Q' .normal a w) :
    ∀ (l : List Oper) (k : Nat) {e : Env} {A : List Box} {a : Act} {w : World} {G : Ghost},(∀ j,l[j]? = ops[k + j]?) → wpO P own N ops Q l e A → ARel N base G e A a w → Ext G0 w0 G w → Below base w0 w →
      wpOps P ops Q' (List.range' k l.length) a w
  | [],k,e,A,a,w,G,hl,h,hr,he,hb=>hQ e A a w G h hr he hb
  | o :: rest,k,e,A,a,w,G,hl,h,hr,he,hb=>by
    have h0 : ops[k]? = some o:=by simpa using (hl 0).symm
    have hl' : ∀ j,rest[j]? = ops[k + 1 + j]?:=fun j=>by have:=hl (j + 1); simpa [Nat.add_assoc,Nat.add_comm 1 j] using this
    simp only [List.length_cons,List.range'_succ]
    simp only [wpOps,h0]
    simp only [wpO] at h
    split at h
    · exact h.elim
    · rename_i b hwant
      rw [wantA_ok hr.env hwant]
      cases b with
      | true =>
        rw [if_pos rfl]
        refine .inl (OpK_ok (h.1 rfl) (evA_list hr.env _) hr.heap fun v A' x w' G' hk hx hh hext hbel=>?_)
        exact wpO_ok hQ rest (k + 1) hl' hk (hr.put hext hx hh) (he.trans hext) (hb.trans hbel)
      | false =>
        rw [if_neg (by simp)]
        exact wpO_ok hQ rest (k + 1) hl' (h.2 rfl) (hr.put (Ext.refl _ _) rv_skip hr.heap) he hb
end Go.Abs
/- A region whose order is open: one walk in the order of the text serves every order, where no operation changes a box. -/
namespace Go.Abs
open Go.RowKit
def putF (d : Option Nat) (v : AV) (E : Nat → AV) : Nat → AV :=
  match d with
  | none=>E
  | some d=>fun t=>if t = d then v else E t
def evF (E : Nat → AV) : Operand → AV
  | .tmp t=>E t
  | .const v=>constA v
  | .func f=>.func (.func f) [] []
  | .global _=>.bot
def wantF (ops : Array Oper) (o : Oper) (E : Nat → AV) : Option Bool :=
  match o.guard with
  | none=>some true
  | some (j,want)=>match (ops[j]?).bind (·.dst) with
    | some t=>match E t with
      | .bool b=>some (b == want)
      | .tuple _=>some false
      | _=>none
    | none=>none
section
variable {P : Program} {own : FuncId → Bool} {ops : Array Oper} {A : List Box}
def OpY (P : Program) (own : FuncId → Bool) (A : List Box) (o : Oper) (E : Nat → AV) (v : AV) : Prop :=
  OpK P own o (o.op.operands.toList.map (evF E)) A (fun v' A'=>v' = v ∧ A' = A)
def qOpA (P : Program) (own : FuncId → Bool) (ops : Array Oper) (A : List Box) (i : Nat) (K : (Nat → AV) → Prop) (E : Nat → AV) : Prop :=
  match ops[i]? with
  | none=>K E
  | some o=>match wantF ops o E with
    | none=>False
    | some true=>∃ v,OpY P own A o E v ∧ K (putF o.dst v E)
    | some false=>K (putF o.dst (.tuple []) E)
def wpAnyA (P : Program) (own : FuncId → Bool) (ops : Array Oper) (A : List Box) (Q : (Nat → AV) → Prop) : Nat → Array Bool → (Nat → AV) → Prop
  | 0,listed,E=>Region.ready .any ops listed = [] ∧ Q E
  | fuel + 1,listed,E=>(Region.ready .any ops listed = [] → Q E) ∧ ∀ i ∈ Region.ready .any ops listed,qOpA P own ops A i (wpAnyA P own ops A Q fuel (listed.setIfInBounds i true)) E
def YieldsF (P : Program) (own : FuncId → Bool) (ops : Array Oper) (A : List Box) (o : Oper) (v : AV) (E : Nat → AV) : Prop :=
  (wantF ops o E = some true ∧ OpY P own A o E v) ∨ (wantF ops o E = some false ∧ v = .tuple [])
theorem qOpA_mono {i : Nat} {E : Nat → AV} {K K' : (Nat → AV) → Prop} (h : ∀ E,K E → K' E) (hh : qOpA P own ops A i K E) : qOpA P own ops A i K' E:=by
  unfold qOpA at *
  split
  · rename_i ho; simp only [ho] at hh; exact h _ hh
  · rename_i o ho
    simp only [ho] at hh
    cases hw : wantF ops o E with
    | none=>simp only [hw] at hh
    | some b =>
      simp only [hw] at hh
      cases b with
      | true=>obtain ⟨v,h1,h2⟩:=hh; exact ⟨v,h1,h _ h2⟩
      | false=>exact h _ hh
theorem evF_put {E : Nat → AV} {d : Option Nat} {v : AV} {x : Operand} (h : ∀ t,d = some t → x ≠ .tmp t) : evF (putF d v E) x = evF E x:=by
  cases d with
  | none=>rfl
  | some d =>
    cases x with
    | tmp t =>
      have : t ≠ d:=fun e=>h d rfl (e ▸ rfl)
      simp [evF,putF,this]
    | _=>rfl
theorem vals_put {o : Oper} {E : Nat → AV} {d : Option Nat} {v : AV} (h : ∀ t,d = some t → t ∉ o.looksAt ops) : o.op.operands.toList.map (evF (putF d v E)) = o.op.operands.toList.map (evF E) :=
  List.map_congr_left fun x hx=>evF_put fun t ht hxt=>h t ht (by
    subst hxt
    exact List.mem_append_left _ (List.mem_filterMap.2 ⟨.tmp t,hx,rfl⟩))
theorem wantF_put {o : Oper} {E : Nat → AV} {d : Option Nat} {v : AV} (h : ∀ t,d = some t → t ∉ o.looksAt ops) : wantF ops o (putF d v E) = wantF ops o E:=by
  unfold wantF
  cases hg : o.guard with
  | none=>rfl
  | some gw =>
    obtain ⟨g,want⟩:=gw
    simp only
    cases ht : (ops[g]?).bind (·.dst) with
    | none=>rfl
    | some t =>
      cases d with
      | none=>rfl
      | some d =>
        have : t ≠ d:=fun e=>h d rfl (by subst e; simp [Oper.looksAt,hg,ht])
        simp [putF,this]
theorem putF_comm (E : Nat → AV) {x y : Option Nat} (v u : AV) (h : ∀ d,x = some d → y ≠ some d) : putF y u (putF x v E) = putF x v (putF y u E):=by
  cases x with
  | none=>rfl
  | some d =>
    cases y with
    | none=>rfl
    | some d' =>
      have hne : d' ≠ d:=fun e=>h d rfl (by rw [e])
      funext t
      simp only [putF]
      by_cases h1 : t = d' <;> by_cases h2 : t = d <;> simp_all
theorem YieldsF.qOp {i : Nat} {o : Oper} {v : AV} {E : Nat → AV} (hi : ops[i]? = some o) (hy : YieldsF P own ops A o v E) {K : (Nat → AV) → Prop} (h : K (putF o.dst v E)) : qOpA P own ops A i K E:=by
  unfold qOpA
  simp only [hi]
  rcases hy with ⟨hw,hv⟩ | ⟨hw,rfl⟩
  · simp only [hw]; exact ⟨v,hv,h⟩
  · simp only [hw]; exact h
theorem yieldsF_of_qOp {i : Nat} {o : Oper} {E : Nat → AV} {K : (Nat → AV) → Prop} (hi : ops[i]? = some o) (h : qOpA P own ops A i K E) : ∃ v,YieldsF P own ops A o v E ∧ K (putF o.dst v E):=by
  unfold qOpA at h
  simp only [hi] at h
  cases hw : wantF ops o E with
  | none=>simp only [hw] at h
  | some b =>
    simp only [hw] at h
    cases b with
    | true=>obtain ⟨v,h1,h2⟩:=h; exact ⟨v,.inl ⟨hw,h1⟩,h2⟩
    | false=>exact ⟨.tuple [],.inr ⟨hw,rfl⟩,h⟩
theorem qOpA_put {j : Nat} {oi oj : Oper} {v : AV} (hj : ops[j]? = some oj) (hap : oi.apart ops oj = true) {K : (Nat → AV) → Prop} {E : Nat → AV}
    (hy : YieldsF P own ops A oi v E) (h : qOpA P own ops A j K (putF oi.dst v E)) :
    qOpA P own ops A j (fun E'=>YieldsF P own ops A oi v E' ∧ K (putF oi.dst v E')) E:=by
  obtain ⟨h1,h2,h3⟩:=Oper.apart_spec hap
  have keep : ∀ u,YieldsF P own ops A oi v (putF oj.dst u E):=fun u=>by
    unfold YieldsF OpY at *
    rw [wantF_put h3,vals_put h3]; exact hy
  unfold qOpA at *
  simp only [hj] at *
  rw [wantF_put h1] at h
  cases hw : wantF ops oj E with
  | none=>simp only [hw] at h
  | some b =>
    simp only [hw] at h ⊢
    cases b with
    | true =>
      obtain ⟨u,hu,hn⟩:=h
      refine ⟨u,?_,keep u,by rw [putF_comm E u v (fun d hd hx=>h2 d hx hd)]; exact hn⟩
      unfold OpY at *
      rwa [vals_put h1] at hu
    | false=>exact ⟨keep _,by rw [putF_comm E _ v (fun d hd hx=>h2 d hx hd)]; exact h⟩
theorem wpAnyA_first {Q : (Nat → AV) → Prop} {i : Nat} {oi : Oper} {v : AV} (hi : ops[i]? = some oi) :
    ∀ (fuel : Nat) (listed : Array Bool) (E : Nat → AV),
      (∀ j oj,ops[j]? = some oj → j ≠ i → listed.getD j true = false → (∀ e ∈ oj.after,Region.binds .any e = true → e.on ≠ i) → oi.apart ops oj = true) →
      i ∈ Region.ready .any ops listed → YieldsF P own ops A oi v E →
      wpAnyA P own ops A Q fuel (listed.setIfInBounds i true) (putF oi.dst v E) → wpAnyA P own ops A Q (fuel + 1) listed E:=by
  intro fuel
  induction fuel with
  | zero =>
    intro listed E _ hr hy H
    refine ⟨fun h=>(by rw [h] at hr; cases hr),fun j hj=>?_⟩
    by_cases hji : j = i
    · subst hji; exact hy.qOp hi H
    · have:=ready_mono hj hji
      rw [H.1] at this
      cases this
  | succ fuel ih =>
    intro listed E hfree hr hy H
    refine ⟨fun h=>(by rw [h] at hr; cases hr),fun j hj=>?_⟩
    by_cases hji : j = i
    · subst hji; exact hy.qOp hi H
    · have h1:=H.2 j (ready_mono hj hji)
      obtain ⟨hjun,oj,hoj,hall⟩:=mem_ready.1 hj
      have hnot : ∀ e ∈ oj.after,Region.binds .any e = true → e.on ≠ i:=fun e he hb heq=>by
        have h1:=hall e he hb
        have h0:=(mem_ready.1 hr).1
        rw [heq] at h1
        rcases Nat.lt_or_ge i listed.size with h' | h'
        · simp [h'] at h0 h1; rw [h0] at h1; cases h1
        · simp [Array.getElem?_eq_none h'] at h1
      have h2:=qOpA_put hoj (hfree j oj hoj hji hjun hnot) hy h1
      have hfree' : ∀ k ok,ops[k]? = some ok → k ≠ i → (listed.setIfInBounds j true).getD k true = false →
          (∀ e ∈ ok.after,Region.binds .any e = true → e.on ≠ i) → oi.apart ops ok = true:=fun k ok hk hki hun hno=>by
        refine hfree k ok hk hki ?_ hno
        by_cases hjk : j = k
        · subst hjk; exact hjun
        · rw [getD_set_ne true hjk] at hun; exact hun
      refine qOpA_mono (fun E' h3=>ih (listed.setIfInBounds j true) E' hfree' (ready_mono hr (Ne.symm hji)) h3.1 ?_) h2
      rw [Array.setIfInBounds_comm _ _ hji]
      exact h3.2
def wpDF (P : Program) (own : FuncId → Bool) (ops : Array Oper) (A : List Box) (Q : (Nat → AV) → Prop) : List Oper → (Nat → AV) → Prop
  | [],E=>Q E
  | o :: rest,E=>match wantF ops o E with
    | none=>False
    | some true=>∃ v,OpY P own A o E v ∧ wpDF P own ops A Q rest (putF o.dst v E)
    | some false=>wpDF P own ops A Q rest (putF o.dst (.tuple []) E)
theorem wpAnyA_lex {Q : (Nat → AV) → Prop} : ∀ (l : List Oper) (k : Nat) (listed : Array Bool) (E : Nat → AV),(∀ j,l[j]? = ops[k + j]?) →
    Region.lexFrom .any ops l.length k listed = true → wpDF P own ops A Q l E → wpAnyA P own ops A Q l.length listed E
  | [],_,_,_,_,hB,h=>⟨by simpa [Region.lexFrom] using hB,h⟩
  | o :: l,k,listed,E,hl,hB,h=>by
    have h0 : ops[k]? = some o:=by simpa using (hl 0).symm
    simp only [List.length_cons,Region.lexFrom,Bool.and_eq_true] at hB
    obtain ⟨⟨hr,hf⟩,hB'⟩:=hB
    have hst : qOpA P own ops A k (wpDF P own ops A Q l) E:=by unfold qOpA; simp only [h0]; exact h
    obtain ⟨v,hy,hK⟩:=yieldsF_of_qOp h0 hst
    exact wpAnyA_first h0 l.length listed E (Region.free_spec h0 hf) (by simpa using hr) hy
      (wpAnyA_lex l (k + 1) _ _ (fun j=>by have:=hl (j + 1); simpa [Nat.add_assoc,Nat.add_comm 1 j] using this) hB' hK)
structure FRel (N base : Nat) (G : Ghost) (E : Nat → AV) (A : List Box) (a : Act) (w : World) : Prop where
  defers : a.defers = []
  size : a.tmps.size = N
  env : ∀ t,RV G w (E t) (a.tmps.getD t undef)
  heap : HRel G A w base
theorem FRel.put {N base : Nat} {G G' : Ghost} {E : Nat → AV} {a : Act} {w w' : World} {d : Option Nat} {v : AV} {x : Value} (h : FRel N base G E A a w) (hd : ∀ t,d = some t → t < N) (he : Ext G w G' w') (hx : RV G' w' v x) (hh : HRel G' A w' base) :
    FRel N base G' (putF d v E) A (a.put d x) w':=by
  cases d with
  | none=>exact ⟨h.defers,h.size,fun t=>(h.env t).mono he,hh⟩
  | some d =>
    refine ⟨h.defers,by simp only [Act.put,Array.size_setIfInBounds]; exact h.size,fun t=>?_,hh⟩
    simp only [putF,Act.put]
    by_cases ht : t = d
    · subst ht
      have : t < a.tmps.size:=by rw [h.size]; exact hd t rfl
      have e2 : (a.tmps.setIfInBounds t x).getD t undef = x:=by simp [Array.getD,this]
      rw [if_pos rfl,e2]; exact hx
    · have e2 : (a.tmps.setIfInBounds d x).getD t undef = a.tmps.getD t undef:=by
        rw [Array.getD_eq_getD_getElem?,Array.getD_eq_getD_getElem?,Array.getElem?_setIfInBounds_ne (Ne.symm ht)]
      rw [if_neg ht,e2]; exact (h.env t).mono he
theorem evF_ok {G : Ghost} {w : World} {E : Nat → AV} {a : Act} (h : ∀ t,RV G w (E t) (a.tmps.getD t undef)) (x : Operand) : RV G w (evF E x) (a.eval x):=by
  cases x with
  | tmp t=>exact h t
  | const v=>exact constA_ok _ _ _
  | func f=>exact .func _ [] [] #[] #[] rfl rfl (fun i hi=>by simp at hi) (fun i hi=>by simp at hi)
  | global g=>exact .bot _
theorem evF_list {G : Ghost} {w : World} {E : Nat → AV} {a : Act} (h : ∀ t,RV G w (E t) (a.tmps.getD t undef)) (l : List Operand) : RL G w (l.map (evF E)) (l.map a.eval):=by
  induction l with
  | nil=>exact .nil
  | cons x l ih=>exact .cons (evF_ok h x) ih
theorem wantF_ok {G : Ghost} {w : World} {E : Nat → AV} {a : Act} {o : Oper} {b : Bool} (h : ∀ t,RV G w (E t) (a.tmps.getD t undef)) (hb : wantF ops o E = some b) : Region.wanted o (yielded ops a.tmps) = b:=by
  unfold wantF at hb
  unfold Region.wanted
  cases hg : o.guard with
  | none=>rw [hg] at hb; cases hb; rfl
  | some jw =>
    obtain ⟨j,want⟩:=jw
    rw [hg] at hb
    simp only at hb ⊢
    split at hb <;> try cases hb
    rename_i t ht
    split at hb <;> first
      | (injection hb with hb; rename_i us hc
         have hu:=h t
         rw [hc] at hu
         have hy : yielded ops a.tmps j = none:=by
           unfold yielded
           rw [ht]
           rcases Nat.lt_or_ge t a.tmps.size with hl | hl
           · have hv : a.tmps.getD t undef = a.tmps[t]:=by simp [Array.getD,hl]
             rw [hv] at hu
             simp only [Option.bind_some,Array.getElem?_eq_getElem hl]
             generalize a.tmps[t] = q at hu
             cases hu; rfl
           · simp [Array.getElem?_eq_none hl]
         rw [hy,← hb]; rfl; done)
      | skip
    all_goals try cases hb
    rename_i c hc
    have:=h t
    rw [hc] at this
    have hy : yielded ops a.tmps j = some c:=by
      unfold yielded
      rw [ht]
      have hv : a.tmps.getD t undef = .bool c:=by
        generalize a.tmps.getD t undef = q at this
        cases this; rfl
      have hlt : t < a.tmps.size:=by
        rcases Nat.lt_or_ge t a.tmps.size with hl | hl
        · exact hl
        · simp [Array.getD,Nat.not_lt.2 hl,undef] at hv
      simp only [Option.bind_some,Array.getElem?_eq_getElem hlt]
      simp [Array.getD,hlt] at hv
      rw [hv]
    rw [hy]; cases c <;> cases want <;> rfl
def dstOk (N : Nat) (ops : Array Oper) : Bool:=ops.all fun o=>match o.dst with | some d=>decide (d < N) | none=>true
theorem dstOk_spec {N i : Nat} {o : Oper} (h : dstOk N ops = true) (hi : ops[i]? = some o) : ∀ t,o.dst = some t → t < N:=fun t ht=>by
  obtain ⟨hlt,rfl⟩:=Array.getElem?_eq_some_iff.1 hi
  have:=(Array.all_eq_true.1 h) i hlt
  rw [ht] at this
  simpa using this
theorem wpAny_of_A {N base : Nat} {Q : (Nat → AV) → Prop} {Q' : Exit → Act → World → Prop} {G0 : Ghost} {w0 : World} (hN : dstOk N ops = true)
    (hQ : ∀ E a w G,Q E → FRel N base G E A a w → Ext G0 w0 G w → Below base w0 w → Q' .normal a w) :
    ∀ (fuel : Nat) (listed : Array Bool) {E : Nat → AV} {a : Act} {w : World} {G : Ghost},FRel N base G E A a w → Ext G0 w0 G w → Below base w0 w →
      wpAnyA P own ops A Q fuel listed E → wpAny P .any ops Q' fuel listed a w
  | 0,_,E,a,w,G,hr,he,hb,h=>⟨h.1,hQ E a w G h.2 hr he hb⟩
  | fuel + 1,listed,E,a,w,G,hr,he,hb,h=>⟨fun h0=>hQ E a w G (h.1 h0) hr he hb,fun i hi=>by
      have hq:=h.2 i hi
      unfold qOpA at hq
      unfold wpOp
      cases ho : ops[i]? with
      | none=>simp only [ho] at hq ⊢; exact wpAny_of_A hN hQ fuel _ hr he hb hq
      | some o =>
        simp only [ho] at hq ⊢
        cases hw : wantF ops o E with
        | none=>simp only [hw] at hq
        | some b =>
          simp only [hw] at hq
          rw [wantF_ok hr.env hw]
          cases b with
          | true =>
            obtain ⟨v,hv,hK⟩:=hq
            rw [if_pos rfl]
            refine .inl (OpK_ok hv (evF_list hr.env _) hr.heap fun v' A' x w' G' hk hx hh hext hbel=>?_)
            obtain ⟨e1,e2⟩:=hk
            rw [e1] at hx
            rw [e2] at hh
            exact wpAny_of_A hN hQ fuel _ (hr.put (dstOk_spec hN ho) hext hx hh) (he.trans hext) (hb.trans hbel) hK
          | false =>
            rw [if_neg (by simp)]
            exact wpAny_of_A hN hQ fuel _ (hr.put (dstOk_spec hN ho) (Ext.refl _ _) rv_skip hr.heap) he hb hq⟩
def wpD (P : Program) (own : FuncId → Bool) (N : Nat) (ops : Array Oper) (A : List Box) (Q : Env → Prop) : List Oper → Env → Prop
  | [],e=>Q e
  | o :: rest,e=>match wantA ops o e with
    | none=>False
    | some b=>(b = true → ∃ v,OpK P own o (o.op.operands.toList.map (evA e)) A (fun v' A'=>v' = v ∧ A' = A) ∧ wpD P own N ops A Q rest (putA N o.dst v e)) ∧ (b = false → wpD P own N ops A Q rest (putA N o.dst (.tuple []) e))
theorem look_putA {N t : Nat} {d : Option Nat} {v : AV} {e : Env} (hd : ∀ t,d = some t → t < N) : look t (putA N d v e) = putF d v (fun t=>look t e) t:=by
  cases d with
  | none=>rfl
  | some d =>
    simp only [putA,if_pos (hd d rfl),putF]
    by_cases ht : t = d
    · subst ht; simp [look]
    · simp only [look,if_neg (Ne.symm ht),if_neg ht]; exact look_del_ne ht e
theorem wpD_F {N : Nat} {Q : Env → Prop} (hN : dstOk N ops = true) : ∀ (l : List Oper) (k : Nat) (e : Env),(∀ j,l[j]? = ops[k + j]?) → wpD P own N ops A Q l e → wpDF P own ops A (fun E=>∃ e,Q e ∧ E = fun t=>look t e) l (fun t=>look t e)
  | [],k,e,hl,h=>⟨e,h,rfl⟩
  | o :: rest,k,e,hl,h=>by
    have h0 : ops[k]? = some o:=by simpa using (hl 0).symm
    have hl' : ∀ j,rest[j]? = ops[k + 1 + j]?:=fun j=>by have:=hl (j + 1); simpa [Nat.add_assoc,Nat.add_comm 1 j] using this
    have hev : evF (fun t=>look t e) = evA e:=by funext x; cases x <;> rfl
    have hwt : wantF ops o (fun t=>look t e) = wantA ops o e:=rfl
    simp only [wpD] at h
    simp only [wpDF,hwt]
    have hput : ∀ v,putF o.dst v (fun t=>look t e) = fun t=>look t (putA N o.dst v e):=fun v=>by
      funext t; exact (look_putA (dstOk_spec hN h0)).symm
    split at h
    · exact h.elim
    · rename_i b hb
      rw [hb]
      cases b with
      | true =>
        obtain ⟨v,h1,h2⟩:=h.1 rfl
        refine ⟨v,?_,?_⟩
        · unfold OpY; rw [hev]; exact h1
        · rw [hput]; exact wpD_F hN rest (k + 1) _ hl' h2
      | false =>
        show wpDF P own ops A _ rest (putF o.dst (.tuple []) _)
        rw [hput]; exact wpD_F hN rest (k + 1) _ hl' (h.2 rfl)
theorem wpD_ok {N base id : Nat} {Q : Env → Prop} {Q' : Exit → Act → World → Prop} {G0 : Ghost} {w0 : World} {e : Env} {a : Act} {w : World} {G : Ghost} (hm : P.follows .mixedOrders = true) (hN : dstOk N ops = true) (hB : Region.lexB .any ops = true)
    (hQ : ∀ e a w G,Q e → ARel N base G e A a w → Ext G0 w0 G w → Below base w0 w → Q' .normal a w) (h : wpD P own N ops A Q ops.toList e) (hr : ARel N base G e A a w) (he : Ext G0 w0 G w) (hb : Below base w0 w) :
    (Code.region id ops true).wp P Q' a w:=by
  simp only [Region.lexB,Bool.and_eq_true] at hB
  have h1:=wpD_F hN ops.toList 0 e (by simp) h
  have h2:=wpAnyA_lex ops.toList 0 (Array.replicate ops.size false) (fun t=>look t e) (by simp) (by simpa using hB.2) h1
  obtain ⟨k1,k2⟩:=hr.heap.heap (w':={ w with drawn:=w.drawn + 1 }) rfl
  have hbd : Below base w { w with drawn:=w.drawn + 1 }:=(Below.refl base w).drew
  refine wp_region_any hm ?_
  have h3:=wpAny_of_A (N:=N) (base:=base) (Q':=Q') (G0:=G0) (w0:=w0) hN (fun E a w G hq hr he hb=>?_) ops.toList.length (Array.replicate ops.size false) (a:=a) (w:={ w with drawn:=w.drawn + 1 }) (G:=G)
    ⟨hr.defers,hr.size,fun t=>(hr.env t).mono k2,k1⟩ (he.trans k2) (hb.trans hbd) h2
  · simpa using h3
  · obtain ⟨e',hq,rfl⟩:=hq
    exact hQ e' a w G hq ⟨hr.defers,hr.size,hr.env,hr.heap⟩ he hb
end
end Go.Abs
/- A region whose order is open and that changes boxes: what changes a box does so in one order, all else answers the same before and after. -/
namespace Go.Abs
open Go.RowKit
abbrev Ranks:=List (Bool × Nat × Nat)
def Ranks.eff (T : Ranks) (k : Nat) : Bool:=(T.getD k (false,0,0)).1
def Ranks.lo (T : Ranks) (k : Nat) : Nat:=(T.getD k (false,0,0)).2.1
def Ranks.hi (T : Ranks) (k : Nat) : Nat:=(T.getD k (false,0,0)).2.2
def Ranks.next (T : Ranks) (k c : Nat) : Nat:=if T.eff k = true then c + 1 else c
def reachB (ops : Array Oper) : Nat → Nat → Nat → Bool
  | 0,_,_=>false
  | f + 1,i,j=>match ops[j]? with
    | some o=>o.after.any fun e=>Region.binds .any e && (e.on == i || reachB ops f i e.on)
    | none=>false
def rankB (ops : Array Oper) (T : Ranks) (m : Nat) : Bool :=
  (List.range ops.size).all fun k =>
    if T.eff k = true then
      T.lo k == T.hi k && decide (T.lo k < m) && (T.lo k == 0 || (List.range ops.size).any fun e=>T.eff e && T.lo e + 1 == T.lo k && reachB ops ops.size e k) &&
        (List.range ops.size).all fun e=>e == k || !T.eff e || T.lo e != T.lo k
    else (T.lo k == 0 || (List.range ops.size).any fun e=>T.eff e && T.lo e + 1 == T.lo k && reachB ops ops.size e k) &&
      (decide (m ≤ T.hi k) || (List.range ops.size).any fun e=>T.eff e && T.lo e == T.hi k && reachB ops ops.size k e)
def DC (ops : Array Oper) (listed : Array Bool) : Prop:=∀ k o,ops[k]? = some o → listed.getD k false = true → ∀ e ∈ o.after,Region.binds .any e = true → listed.getD e.on false = true
def RInv (ops : Array Oper) (T : Ranks) (m : Nat) (listed : Array Bool) (c : Nat) : Prop:=c ≤ m ∧ ∀ e,e < ops.size → T.eff e = true → (listed.getD e false = true ↔ T.lo e < c)
section
variable {P : Program} {own : FuncId → Bool} {ops : Array Oper} {T : Ranks} {As : Nat → List Box} {m : Nat}
theorem reach_listed {listed : Array Bool} (hd : DC ops listed) : ∀ (f i j : Nat),reachB ops f i j = true → (∀ o,ops[j]? = some o → ∀ e ∈ o.after,Region.binds .any e = true → listed.getD e.on false = true) → listed.getD i false = true
  | 0,i,j,h,_=>by simp [reachB] at h
  | f + 1,i,j,h,hj=>by
    simp only [reachB] at h
    split at h
    · rename_i o ho
      obtain ⟨e,he,hb⟩:=Array.any_eq_true'.1 h
      simp only [Bool.and_eq_true,Bool.or_eq_true,beq_iff_eq] at hb
      have hl:=hj o ho e he hb.1
      rcases hb.2 with h1 | h1
      · rw [← h1]; exact hl
      · exact reach_listed hd f i e.on h1 fun o' ho'=>hd e.on o' ho' hl
    · cases h
theorem dc_set {k : Nat} {listed : Array Bool} (hd : DC ops listed) (hk : k ∈ Region.ready .any ops listed) : DC ops (listed.setIfInBounds k true):=by
  intro j o ho hl e he hb
  obtain ⟨hun,ok,hok,hall⟩:=mem_ready.1 hk
  refine getD_set_true ?_
  by_cases hjk : k = j
  · subst hjk
    rw [hok] at ho; cases ho
    exact hall e he hb
  · rw [getD_set_ne false hjk] at hl
    exact hd j o ho hl e he hb
theorem rank_range {k c : Nat} {listed : Array Bool} (hB : rankB ops T m = true) (hd : DC ops listed) (hi : RInv ops T m listed c) (hs : listed.size = ops.size) (hk : k ∈ Region.ready .any ops listed) :
    T.lo k ≤ c ∧ c ≤ T.hi k ∧ RInv ops T m (listed.setIfInBounds k true) (T.next k c):=by
  obtain ⟨hun,ok,hok,hall⟩:=mem_ready.1 hk
  have hkl : k < ops.size:=(Array.getElem?_eq_some_iff.1 hok).1
  have hunf : listed.getD k false = false:=by
    have : k < listed.size:=by omega
    simpa [this] using hun
  have hrk:=List.all_eq_true.1 hB k (List.mem_range.2 hkl)
  have up : ∀ e,reachB ops ops.size e k = true → listed.getD e false = true:=fun e he=>reach_listed hd _ _ _ he fun o ho=>by rw [hok] at ho; cases ho; exact hall
  have down : ∀ e,e < ops.size → reachB ops ops.size k e = true → listed.getD e false = false:=fun e hel he=>by
    cases hq : listed.getD e false with
    | false=>rfl
    | true =>
      have:=reach_listed hd _ _ _ he fun o ho=>hd e o ho hq
      rw [hunf] at this; cases this
  have low : (T.lo k = 0 ∨ ∃ e,e < ops.size ∧ T.eff e = true ∧ T.lo e + 1 = T.lo k ∧ reachB ops ops.size e k = true) → T.lo k ≤ c:=by
    rintro (h0 | ⟨e,h1,h2,h3,h4⟩)
    · omega
    · have:=(hi.2 e h1 h2).1 (up e h4); omega
  cases hf : T.eff k with
  | true =>
    simp only [hf,if_true,Bool.and_eq_true,Bool.or_eq_true,beq_iff_eq,decide_eq_true_eq,List.any_eq_true,List.mem_range,List.all_eq_true,bne_iff_ne,Bool.not_eq_true',ne_eq] at hrk
    obtain ⟨⟨⟨h1,h2⟩,h3⟩,h4⟩:=hrk
    have hlo:=low (h3.imp id fun ⟨e,a,b,d⟩=>⟨e,a,b.1,b.2,d⟩)
    have hup : ¬ T.lo k < c:=fun hc=>by
      have:=(hi.2 k hkl hf).2 hc
      rw [hunf] at this; cases this
    have hc : c = T.lo k:=by omega
    refine ⟨by omega,by omega,?_⟩
    have hnx : T.next k c = T.lo k + 1:=by simp [Ranks.next,hf,hc]
    rw [hnx]
    refine ⟨by omega,fun e hel hee=>?_⟩
    by_cases hek : k = e
    · subst hek
      have : k < listed.size:=by omega
      simp [this]
    · rw [getD_set_ne false hek,hi.2 e hel hee,hc]
      have hne : T.lo e ≠ T.lo k:=by
        rcases h4 e hel with (h | h) | h
        · exact absurd h.symm hek
        · rw [hee] at h; cases h
        · exact h
      omega
  | false =>
    simp only [hf,Bool.false_eq_true,if_false,Bool.and_eq_true,Bool.or_eq_true,beq_iff_eq,decide_eq_true_eq,List.any_eq_true,List.mem_range] at hrk
    obtain ⟨h1,h2⟩:=hrk
    have hlo:=low (h1.imp id fun ⟨e,a,b,d⟩=>⟨e,a,b.1,b.2,d⟩)
    have hup : c ≤ T.hi k:=by
      rcases h2 with h2 | ⟨e,a,b,d⟩
      · have:=hi.1; omega
      · have h5:=down e a d
        rcases Nat.lt_or_ge (T.lo e) c with h6 | h6
        · rw [(hi.2 e a b.1).2 h6] at h5; cases h5
        · omega
    refine ⟨hlo,hup,?_⟩
    have hnx : T.next k c = c:=by simp [Ranks.next,hf]
    rw [hnx]
    refine ⟨hi.1,fun e hel hee=>?_⟩
    have hek : k ≠ e:=fun h=>by subst h; rw [hf] at hee; cases hee
    rw [getD_set_ne false hek]
    exact hi.2 e hel hee
def OpZ (P : Program) (own : FuncId → Bool) (T : Ranks) (As : Nat → List Box) (k : Nat) (o : Oper) (vs : List AV) (v : AV) : Prop :=
  ∀ c,T.lo k ≤ c → c ≤ T.hi k → OpK P own o vs (As c) (fun v' A'=>v' = v ∧ A' = As (T.next k c))
def SkZ (T : Ranks) (As : Nat → List Box) (k : Nat) : Prop:=∀ c,T.lo k ≤ c → c ≤ T.hi k → As (T.next k c) = As c
def qOpZ (P : Program) (own : FuncId → Bool) (ops : Array Oper) (T : Ranks) (As : Nat → List Box) (i : Nat) (K : (Nat → AV) → Prop) (E : Nat → AV) : Prop :=
  match ops[i]? with
  | none=>K E
  | some o=>match wantF ops o E with
    | none=>False
    | some true=>∃ v,OpZ P own T As i o (o.op.operands.toList.map (evF E)) v ∧ K (putF o.dst v E)
    | some false=>SkZ T As i ∧ K (putF o.dst (.tuple []) E)
def wpAnyZ (P : Program) (own : FuncId → Bool) (ops : Array Oper) (T : Ranks) (As : Nat → List Box) (Q : (Nat → AV) → Prop) : Nat → Array Bool → (Nat → AV) → Prop
  | 0,listed,E=>Region.ready .any ops listed = [] ∧ Q E
  | fuel + 1,listed,E=>(Region.ready .any ops listed = [] → Q E) ∧ ∀ i ∈ Region.ready .any ops listed,qOpZ P own ops T As i (wpAnyZ P own ops T As Q fuel (listed.setIfInBounds i true)) E
def YieldsZ (P : Program) (own : FuncId → Bool) (ops : Array Oper) (T : Ranks) (As : Nat → List Box) (i : Nat) (o : Oper) (v : AV) (E : Nat → AV) : Prop :=
  (wantF ops o E = some true ∧ OpZ P own T As i o (o.op.operands.toList.map (evF E)) v) ∨ (wantF ops o E = some false ∧ SkZ T As i ∧ v = .tuple [])
theorem qOpZ_mono {i : Nat} {E : Nat → AV} {K K' : (Nat → AV) → Prop} (h : ∀ E,K E → K' E) (hh : qOpZ P own ops T As i K E) : qOpZ P own ops T As i K' E:=by
  unfold qOpZ at *
  split
  · rename_i ho; simp only [ho] at hh; exact h _ hh
  · rename_i o ho
    simp only [ho] at hh
    cases hw : wantF ops o E with
    | none=>simp only [hw] at hh
    | some b =>
      simp only [hw] at hh
      cases b with
      | true=>obtain ⟨v,h1,h2⟩:=hh; exact ⟨v,h1,h _ h2⟩
      | false=>exact ⟨hh.1,h _ hh.2⟩
theorem YieldsZ.qOp {i : Nat} {o : Oper} {v : AV} {E : Nat → AV} (hi : ops[i]? = some o) (hy : YieldsZ P own ops T As i o v E) {K : (Nat → AV) → Prop} (h : K (putF o.dst v E)) : qOpZ P own ops T As i K E:=by
  unfold qOpZ
  simp only [hi]
  rcases hy with ⟨hw,hv⟩ | ⟨hw,hs,rfl⟩
  · simp only [hw]; exact ⟨v,hv,h⟩
  · simp only [hw]; exact ⟨hs,h⟩
theorem yieldsZ_of_qOp {i : Nat} {o : Oper} {E : Nat → AV} {K : (Nat → AV) → Prop} (hi : ops[i]? = some o) (h : qOpZ P own ops T As i K E) : ∃ v,YieldsZ P own ops T As i o v E ∧ K (putF o.dst v E):=by
  unfold qOpZ at h
  simp only [hi] at h
  cases hw : wantF ops o E with
  | none=>simp only [hw] at h
  | some b =>
    simp only [hw] at h
    cases b with
    | true=>obtain ⟨v,h1,h2⟩:=h; exact ⟨v,.inl ⟨hw,h1⟩,h2⟩
    | false=>exact ⟨.tuple [],.inr ⟨hw,h.1,rfl⟩,h.2⟩
theorem qOpZ_put {i j : Nat} {oi oj : Oper} {v : AV} (hj : ops[j]? = some oj) (hap : oi.apart ops oj = true) {K : (Nat → AV) → Prop} {E : Nat → AV}
    (hy : YieldsZ P own ops T As i oi v E) (h : qOpZ P own ops T As j K (putF oi.dst v E)) :
    qOpZ P own ops T As j (fun E'=>YieldsZ P own ops T As i oi v E' ∧ K (putF oi.dst v E')) E:=by
  obtain ⟨h1,h2,h3⟩:=Oper.apart_spec hap
  have keep : ∀ u,YieldsZ P own ops T As i oi v (putF oj.dst u E):=fun u=>by
    unfold YieldsZ at *
    rw [wantF_put h3,vals_put h3]; exact hy
  unfold qOpZ at *
  simp only [hj] at *
  rw [wantF_put h1] at h
  cases hw : wantF ops oj E with
  | none=>simp only [hw] at h
  | some b =>
    simp only [hw] at h ⊢
    cases b with
    | true =>
      obtain ⟨u,hu,hn⟩:=h
      refine ⟨u,?_,keep u,by rw [putF_comm E u v (fun d hd hx=>h2 d hx hd)]; exact hn⟩
      rwa [vals_put h1] at hu
    | false=>exact ⟨h.1,keep _,by rw [putF_comm E _ v (fun d hd hx=>h2 d hx hd)]; exact h.2⟩
theorem wpAnyZ_first {Q : (Nat → AV) → Prop} {i : Nat} {oi : Oper} {v : AV} (hi : ops[i]? = some oi) :
    ∀ (fuel : Nat) (listed : Array Bool) (E : Nat → AV),
      (∀ j oj,ops[j]? = some oj → j ≠ i → listed.getD j true = false → (∀ e ∈ oj.after,Region.binds .any e = true → e.on ≠ i) → oi.apart ops oj = true) →
      i ∈ Region.ready .any ops listed → YieldsZ P own ops T As i oi v E →
      wpAnyZ P own ops T As Q fuel (listed.setIfInBounds i true) (putF oi.dst v E) → wpAnyZ P own ops T As Q (fuel + 1) listed E:=by
  intro fuel
  induction fuel with
  | zero =>
    intro listed E _ hr hy H
    refine ⟨fun h=>(by rw [h] at hr; cases hr),fun j hj=>?_⟩
    by_cases hji : j = i
    · subst hji; exact hy.qOp hi H
    · have:=ready_mono hj hji
      rw [H.1] at this
      cases this
  | succ fuel ih =>
    intro listed E hfree hr hy H
    refine ⟨fun h=>(by rw [h] at hr; cases hr),fun j hj=>?_⟩
    by_cases hji : j = i
    · subst hji; exact hy.qOp hi H
    · have h1:=H.2 j (ready_mono hj hji)
      obtain ⟨hjun,oj,hoj,hall⟩:=mem_ready.1 hj
      have hnot : ∀ e ∈ oj.after,Region.binds .any e = true → e.on ≠ i:=fun e he hb heq=>by
        have h1:=hall e he hb
        have h0:=(mem_ready.1 hr).1
        rw [heq] at h1
        rcases Nat.lt_or_ge i listed.size with h' | h'
        · simp [h'] at h0 h1; rw [h0] at h1; cases h1
        · simp [Array.getElem?_eq_none h'] at h1
      have h2:=qOpZ_put hoj (hfree j oj hoj hji hjun hnot) hy h1
      have hfree' : ∀ k ok,ops[k]? = some ok → k ≠ i → (listed.setIfInBounds j true).getD k true = false →
          (∀ e ∈ ok.after,Region.binds .any e = true → e.on ≠ i) → oi.apart ops ok = true:=fun k ok hk hki hun hno=>by
        refine hfree k ok hk hki ?_ hno
        by_cases hjk : j = k
        · subst hjk; exact hjun
        · rw [getD_set_ne true hjk] at hun; exact hun
      refine qOpZ_mono (fun E' h3=>ih (listed.setIfInBounds j true) E' hfree' (ready_mono hr (Ne.symm hji)) h3.1 ?_) h2
      rw [Array.setIfInBounds_comm _ _ hji]
      exact h3.2
def wpZF (P : Program) (own : FuncId → Bool) (ops : Array Oper) (T : Ranks) (As : Nat → List Box) (Q : (Nat → AV) → Prop) : Nat → List Oper → (Nat → AV) → Prop
  | _,[],E=>Q E
  | k,o :: rest,E=>match wantF ops o E with
    | none=>False
    | some true=>∃ v,OpZ P own T As k o (o.op.operands.toList.map (evF E)) v ∧ wpZF P own ops T As Q (k + 1) rest (putF o.dst v E)
    | some false=>SkZ T As k ∧ wpZF P own ops T As Q (k + 1) rest (putF o.dst (.tuple []) E)
theorem wpAnyZ_lex {Q : (Nat → AV) → Prop} : ∀ (l : List Oper) (k : Nat) (listed : Array Bool) (E : Nat → AV),(∀ j,l[j]? = ops[k + j]?) →
    Region.lexFrom .any ops l.length k listed = true → wpZF P own ops T As Q k l E → wpAnyZ P own ops T As Q l.length listed E
  | [],_,_,_,_,hB,h=>⟨by simpa [Region.lexFrom] using hB,h⟩
  | o :: l,k,listed,E,hl,hB,h=>by
    have h0 : ops[k]? = some o:=by simpa using (hl 0).symm
    simp only [List.length_cons,Region.lexFrom,Bool.and_eq_true] at hB
    obtain ⟨⟨hr,hf⟩,hB'⟩:=hB
    have hst : qOpZ P own ops T As k (wpZF P own ops T As Q (k + 1) l) E:=by unfold qOpZ; simp only [h0]; exact h
    obtain ⟨v,hy,hK⟩:=yieldsZ_of_qOp h0 hst
    exact wpAnyZ_first h0 l.length listed E (Region.free_spec h0 hf) (by simpa using hr) hy
      (wpAnyZ_lex l (k + 1) _ _ (fun j=>by have:=hl (j + 1); simpa [Nat.add_assoc,Nat.add_comm 1 j] using this) hB' hK)
theorem wpAny_of_Z {N base : Nat} {Q : (Nat → AV) → Prop} {Q' : Exit → Act → World → Prop} {G0 : Ghost} {w0 : World} (hN : dstOk N ops = true) (hB : rankB ops T m = true)
    (hQ : ∀ E a w G c,RInv ops T m (Array.replicate ops.size true) c → Q E → FRel N base G E (As c) a w → Ext G0 w0 G w → Below base w0 w → Q' .normal a w) (hlex : ∀ listed,DC ops listed → listed.size = ops.size → Region.ready .any ops listed = [] → listed = Array.replicate ops.size true) :
    ∀ (fuel : Nat) (listed : Array Bool) {E : Nat → AV} {a : Act} {w : World} {G : Ghost} {c : Nat},DC ops listed → RInv ops T m listed c → listed.size = ops.size → FRel N base G E (As c) a w → Ext G0 w0 G w → Below base w0 w →
      wpAnyZ P own ops T As Q fuel listed E → wpAny P .any ops Q' fuel listed a w
  | 0,listed,E,a,w,G,c,hd,hi,hs,hr,he,hb,h=>⟨h.1,hQ E a w G c (by have:=hlex listed hd hs h.1; rw [this] at hi; exact hi) h.2 hr he hb⟩
  | fuel + 1,listed,E,a,w,G,c,hd,hi,hs,hr,he,hb,h=>⟨fun h0=>hQ E a w G c (by have:=hlex listed hd hs h0; rw [this] at hi; exact hi) (h.1 h0) hr he hb,fun i hir=>by
      have hq:=h.2 i hir
      obtain ⟨g1,g2,g3⟩:=rank_range hB hd hi hs hir
      have hd':=dc_set hd hir
      have hs' : (listed.setIfInBounds i true).size = ops.size:=by simpa using hs
      unfold qOpZ at hq
      unfold wpOp
      cases ho : ops[i]? with
      | none=>obtain ⟨_,o,ho',_⟩:=mem_ready.1 hir; rw [ho] at ho'; cases ho'
      | some o =>
        simp only [ho] at hq ⊢
        cases hw : wantF ops o E with
        | none=>simp only [hw] at hq
        | some b =>
          simp only [hw] at hq
          rw [wantF_ok hr.env hw]
          cases b with
          | true =>
            obtain ⟨v,hv,hK⟩:=hq
            rw [if_pos rfl]
            refine .inl (OpK_ok (hv c g1 g2) (evF_list hr.env _) hr.heap fun v' A' x w' G' hk hx hh hext hbel=>?_)
            obtain ⟨e1,e2⟩:=hk
            rw [e1] at hx
            rw [e2] at hh
            have hp:=hr.put (A:=As c) (G':=G') (w':=w') (d:=o.dst) (v:=v) (x:=x) (dstOk_spec hN ho) hext hx
            have hr' : FRel N base G' (putF o.dst v E) (As (T.next i c)) (a.put o.dst x) w':=by
              cases hdst : o.dst with
              | none=>exact ⟨hr.defers,hr.size,fun t=>(hr.env t).mono hext,hh⟩
              | some d =>
                refine ⟨hr.defers,by simp only [Act.put,Array.size_setIfInBounds]; exact hr.size,fun t=>?_,hh⟩
                simp only [putF,Act.put]
                by_cases ht : t = d
                · subst ht
                  have : t < a.tmps.size:=by rw [hr.size]; exact dstOk_spec hN ho t hdst
                  have e2 : (a.tmps.setIfInBounds t x).getD t undef = x:=by simp [Array.getD,this]
                  rw [if_pos rfl,e2]; exact hx
                · have e2 : (a.tmps.setIfInBounds d x).getD t undef = a.tmps.getD t undef:=by
                    rw [Array.getD_eq_getD_getElem?,Array.getD_eq_getD_getElem?,Array.getElem?_setIfInBounds_ne (Ne.symm ht)]
                  rw [if_neg ht,e2]; exact (hr.env t).mono hext
            exact wpAny_of_Z hN hB hQ hlex fuel _ hd' g3 hs' hr' (he.trans hext) (hb.trans hbel) hK
          | false =>
            rw [if_neg (by simp)]
            have hr':=hr.put (d:=o.dst) (dstOk_spec hN ho) (Ext.refl _ _) rv_skip hr.heap
            rw [← hq.1 c g1 g2] at hr'
            exact wpAny_of_Z hN hB hQ hlex fuel _ hd' g3 hs' hr' he hb hq.2⟩
def backB (ops : Array Oper) : Bool:=(List.range ops.size).all fun k=>match ops[k]? with
  | some o=>o.after.all fun e=>!Region.binds .any e || decide (e.on < k)
  | none=>true
def endB (ops : Array Oper) (T : Ranks) (m : Nat) : Bool:=m == 0 || (List.range ops.size).any fun e=>T.eff e && T.lo e + 1 == m
theorem all_listed (hb : backB ops = true) {listed : Array Bool} (hs : listed.size = ops.size) (hr : Region.ready .any ops listed = []) : ∀ k,k < ops.size → listed.getD k false = true:=by
  intro k
  induction k using Nat.strongRecOn with
  | _ k ih =>
    intro hk
    cases hq : listed.getD k false with
    | true=>rfl
    | false =>
      have hmem : k ∈ Region.ready .any ops listed:=by
        refine mem_ready.2 ⟨by simpa [show k < listed.size by omega] using hq,ops[k],by simp [hk],fun e he hbd=>?_⟩
        have hb1:=List.all_eq_true.1 hb k (List.mem_range.2 hk)
        simp only [Array.getElem?_eq_getElem hk] at hb1
        have:=Array.all_eq_true_iff_forall_mem.1 hb1 e he
        have hlt : e.on < k:=by simpa [hbd] using this
        exact ih e.on hlt (by omega)
      rw [hr] at hmem; cases hmem
theorem end_rank {c : Nat} {listed : Array Bool} (he : endB ops T m = true) (hi : RInv ops T m listed c) (ha : ∀ k,k < ops.size → listed.getD k false = true) : c = m:=by
  have:=hi.1
  simp only [endB,Bool.or_eq_true,beq_iff_eq,List.any_eq_true,List.mem_range,Bool.and_eq_true] at he
  rcases he with h0 | ⟨e,h1,h2,h3⟩
  · omega
  · have:=(hi.2 e h1 h2).1 (ha e h1)
    omega
def wpE (P : Program) (own : FuncId → Bool) (N : Nat) (ops : Array Oper) (T : Ranks) (As : Nat → List Box) (Q : Env → Prop) : Nat → List Oper → Env → Prop
  | _,[],e=>Q e
  | k,o :: rest,e=>match wantA ops o e with
    | none=>False
    | some b=>(b = true → ∃ v,OpZ P own T As k o (o.op.operands.toList.map (evA e)) v ∧ wpE P own N ops T As Q (k + 1) rest (putA N o.dst v e)) ∧ (b = false → SkZ T As k ∧ wpE P own N ops T As Q (k + 1) rest (putA N o.dst (.tuple []) e))
theorem wpE_F {N : Nat} {Q : Env → Prop} (hN : dstOk N ops = true) : ∀ (l : List Oper) (k : Nat) (e : Env),(∀ j,l[j]? = ops[k + j]?) → wpE P own N ops T As Q k l e → wpZF P own ops T As (fun E=>∃ e,Q e ∧ E = fun t=>look t e) k l (fun t=>look t e)
  | [],k,e,hl,h=>⟨e,h,rfl⟩
  | o :: rest,k,e,hl,h=>by
    have h0 : ops[k]? = some o:=by simpa using (hl 0).symm
    have hl' : ∀ j,rest[j]? = ops[k + 1 + j]?:=fun j=>by have:=hl (j + 1); simpa [Nat.add_assoc,Nat.add_comm 1 j] using this
    have hev : evF (fun t=>look t e) = evA e:=by funext x; cases x <;> rfl
    have hwt : wantF ops o (fun t=>look t e) = wantA ops o e:=rfl
    simp only [wpE] at h
    simp only [wpZF,hwt]
    have hput : ∀ v,putF o.dst v (fun t=>look t e) = fun t=>look t (putA N o.dst v e):=fun v=>by
      funext t; exact (look_putA (dstOk_spec hN h0)).symm
    split at h
    · exact h.elim
    · rename_i b hb
      rw [hb]
      cases b with
      | true =>
        obtain ⟨v,h1,h2⟩:=h.1 rfl
        refine ⟨v,?_,?_⟩
        · rw [hev]; exact h1
        · rw [hput]; exact wpE_F hN rest (k + 1) _ hl' h2
      | false =>
        refine ⟨(h.2 rfl).1,?_⟩
        show wpZF P own ops T As _ (k + 1) rest (putF o.dst (.tuple []) _)
        rw [hput]; exact wpE_F hN rest (k + 1) _ hl' (h.2 rfl).2
theorem wpE_ok {N base id : Nat} {Q : Env → Prop} {Q' : Exit → Act → World → Prop} {G0 : Ghost} {w0 : World} {e : Env} {a : Act} {w : World} {G : Ghost} (hm : P.follows .mixedOrders = true) (hN : dstOk N ops = true) (hB : Region.lexB .any ops = true)
    (hR : rankB ops T m = true) (hb : backB ops = true) (hE : endB ops T m = true)
    (hQ : ∀ e a w G,Q e → ARel N base G e (As m) a w → Ext G0 w0 G w → Below base w0 w → Q' .normal a w) (h : wpE P own N ops T As Q 0 ops.toList e) (hr : ARel N base G e (As 0) a w) (he : Ext G0 w0 G w) (hbel : Below base w0 w) :
    (Code.region id ops true).wp P Q' a w:=by
  simp only [Region.lexB,Bool.and_eq_true] at hB
  have h1:=wpE_F hN ops.toList 0 e (by simp) h
  have h2:=wpAnyZ_lex ops.toList 0 (Array.replicate ops.size false) (fun t=>look t e) (by simp) (by simpa using hB.2) h1
  obtain ⟨k1,k2⟩:=hr.heap.heap (w':={ w with drawn:=w.drawn + 1 }) rfl
  have hbd : Below base w { w with drawn:=w.drawn + 1 }:=(Below.refl base w).drew
  have hget : ∀ k,(Array.replicate ops.size false).getD k false = false:=fun k=>by
    rcases Nat.lt_or_ge k ops.size with hk | hk <;> simp [Array.getD,hk]
  have hd0 : DC ops (Array.replicate ops.size false):=fun k o _ hl=>by rw [hget] at hl; cases hl
  have hi0 : RInv ops T m (Array.replicate ops.size false) 0:=⟨Nat.zero_le _,fun e _ _=>by rw [hget]; simp⟩
  have hone : ∀ k,k < ops.size → (Array.replicate ops.size true).getD k false = true:=fun k hk=>by simp [Array.getD,hk]
  refine wp_region_any hm ?_
  have h3:=wpAny_of_Z (N:=N) (base:=base) (Q':=Q') (G0:=G0) (w0:=w0) (m:=m) hN hR (fun E a w G c hi hq hr he hbl=>?_) (fun listed _ hs hrd=>?_) ops.toList.length (Array.replicate ops.size false) (a:=a) (w:={ w with drawn:=w.drawn + 1 }) (G:=G) (c:=0) hd0 hi0 (by simp)
    ⟨hr.defers,hr.size,fun t=>(hr.env t).mono k2,k1⟩ (he.trans k2) (hbel.trans hbd) h2
  · simpa using h3
  · obtain ⟨e',hq,rfl⟩:=hq
    have hc:=end_rank hE hi hone
    subst hc
    exact hQ e' a w G hq ⟨hr.defers,hr.size,hr.env,hr.heap⟩ he hbl
  · have:=all_listed hb hs hrd
    refine Array.ext (by simp [hs]) fun k h1 h2=>?_
    have h3:=this k (by omega)
    simpa [Array.getD,h1] using h3
end
end Go.Abs
/- A region whose order is open, where each operation that changes boxes has all others before it or behind it. -/
namespace Go.Abs
open Go.RowKit
def sepB (ops : Array Oper) (es : List Nat) : Bool :=
  (List.range ops.size).all fun s=>!es.contains s || (List.range ops.size).all fun k=>k == s || (if k < s then reachB ops ops.size k s else reachB ops ops.size s k)
theorem OpK_mono {P : Program} {own : FuncId → Bool} {o : Oper} {vs : List AV} {A : List Box} {K K' : AV → List Box → Prop} (h : OpK P own o vs A K) (hk : ∀ v A',K v A' → K' v A') : OpK P own o vs A K':=by
  unfold OpK at *
  split
  · rename_i g args hc
    simp only [hc] at h
    unfold CallK at *
    split
    · rename_i ho; rw [if_pos ho] at h; exact h.mono hk
    · rename_i ho
      rw [if_neg ho] at h
      rcases h with ⟨a,A1,h1,h2⟩ | h
      · exact .inl ⟨a,A1,h1,h2.mono hk⟩
      · exact .inr (h.mono hk)
  · rename_i hc
    simp only [hc] at h
    cases hq : astep P o.op vs A with
    | none=>rw [hq] at h; exact h
    | some x =>
      obtain ⟨c,v,A'⟩:=x
      rw [hq] at h
      exact ⟨h.1,hk _ _ h.2⟩
section
variable {P : Program} {own : FuncId → Bool} {ops : Array Oper} {es : List Nat}
def qOpR (P : Program) (own : FuncId → Bool) (ops : Array Oper) (es : List Nat) (i : Nat) (K : (Nat → AV) → List Box → Prop) (E : Nat → AV) (A : List Box) : Prop :=
  if es.contains i = true then
    match ops[i]? with
    | none=>False
    | some o=>match wantF ops o E with
      | none=>False
      | some true=>OpK P own o (o.op.operands.toList.map (evF E)) A (fun v A'=>K (putF o.dst v E) A')
      | some false=>K (putF o.dst (.tuple []) E) A
  else qOpA P own ops A i (fun E=>K E A) E
def wpAnyR (P : Program) (own : FuncId → Bool) (ops : Array Oper) (es : List Nat) (Q : (Nat → AV) → List Box → Prop) : Nat → Array Bool → (Nat → AV) → List Box → Prop
  | 0,listed,E,A=>Region.ready .any ops listed = [] ∧ Q E A
  | fuel + 1,listed,E,A=>(Region.ready .any ops listed = [] → Q E A) ∧ ∀ i ∈ Region.ready .any ops listed,qOpR P own ops es i (wpAnyR P own ops es Q fuel (listed.setIfInBounds i true)) E A
theorem sep_two {i j : Nat} {listed : Array Bool} (hs : sepB ops es = true) (hd : DC ops listed) (hi : i ∈ Region.ready .any ops listed) (hj : j ∈ Region.ready .any ops listed) (he : es.contains j = true) : i = j:=by
  obtain ⟨hiu,oi,hoi,hia⟩:=mem_ready.1 hi
  obtain ⟨hju,oj,hoj,hja⟩:=mem_ready.1 hj
  have hil : i < ops.size:=(Array.getElem?_eq_some_iff.1 hoi).1
  have hjl : j < ops.size:=(Array.getElem?_eq_some_iff.1 hoj).1
  have un : ∀ k,listed.getD k true = false → listed.getD k false = false:=fun k hk=>by
    rcases Nat.lt_or_ge k listed.size with hl | hl
    · simpa [hl] using hk
    · simp [Array.getD,Nat.not_lt.2 hl] at hk
  have h1:=List.all_eq_true.1 hs j (List.mem_range.2 hjl)
  rw [he] at h1
  simp only [Bool.not_true,Bool.false_or] at h1
  have h2:=List.all_eq_true.1 h1 i (List.mem_range.2 hil)
  simp only [Bool.or_eq_true,beq_iff_eq] at h2
  rcases h2 with h2 | h2
  · exact h2
  · exfalso
    split at h2
    · have:=reach_listed hd _ _ _ h2 fun o ho=>by rw [hoj] at ho; cases ho; exact hja
      rw [un i hiu] at this; cases this
    · have:=reach_listed hd _ _ _ h2 fun o ho=>by rw [hoi] at ho; cases ho; exact hia
      rw [un j hju] at this; cases this
theorem wpAnyR_first (hs : sepB ops es = true) {Q : (Nat → AV) → List Box → Prop} {i : Nat} {oi : Oper} {v : AV} {A : List Box} (hi : ops[i]? = some oi) (hie : es.contains i = false) :
    ∀ (fuel : Nat) (listed : Array Bool) (E : Nat → AV),DC ops listed →
      (∀ j oj,ops[j]? = some oj → j ≠ i → listed.getD j true = false → (∀ e ∈ oj.after,Region.binds .any e = true → e.on ≠ i) → oi.apart ops oj = true) →
      i ∈ Region.ready .any ops listed → YieldsF P own ops A oi v E →
      wpAnyR P own ops es Q fuel (listed.setIfInBounds i true) (putF oi.dst v E) A → wpAnyR P own ops es Q (fuel + 1) listed E A:=by
  intro fuel
  have no : ∀ {listed : Array Bool} {j : Nat},DC ops listed → i ∈ Region.ready .any ops listed → j ∈ Region.ready .any ops listed → es.contains j = false:=fun {listed j} hd hr hj=>by
    cases hq : es.contains j with
    | false=>rfl
    | true =>
      have:=sep_two hs hd hr hj hq
      subst this
      rw [hie] at hq; cases hq
  induction fuel with
  | zero =>
    intro listed E hd _ hr hy H
    refine ⟨fun h=>(by rw [h] at hr; cases hr),fun j hj=>?_⟩
    by_cases hji : j = i
    · subst hji
      unfold qOpR
      rw [if_neg (by rw [hie]; simp)]
      exact hy.qOp hi H
    · have:=ready_mono hj hji
      rw [H.1] at this
      cases this
  | succ fuel ih =>
    intro listed E hd hfree hr hy H
    refine ⟨fun h=>(by rw [h] at hr; cases hr),fun j hj=>?_⟩
    by_cases hji : j = i
    · subst hji
      unfold qOpR
      rw [if_neg (by rw [hie]; simp)]
      exact hy.qOp hi H
    · have hje:=no hd hr hj
      have h1:=H.2 j (ready_mono hj hji)
      unfold qOpR at h1 ⊢
      rw [if_neg (by rw [hje]; simp)] at h1 ⊢
      obtain ⟨hjun,oj,hoj,hall⟩:=mem_ready.1 hj
      have hnot : ∀ e ∈ oj.after,Region.binds .any e = true → e.on ≠ i:=fun e he hb heq=>by
        have h1:=hall e he hb
        have h0:=(mem_ready.1 hr).1
        rw [heq] at h1
        rcases Nat.lt_or_ge i listed.size with h' | h'
        · simp [h'] at h0 h1; rw [h0] at h1; cases h1
        · simp [Array.getElem?_eq_none h'] at h1
      have h2:=qOpA_put hoj (hfree j oj hoj hji hjun hnot) hy h1
      have hfree' : ∀ k ok,ops[k]? = some ok → k ≠ i → (listed.setIfInBounds j true).getD k true = false →
          (∀ e ∈ ok.after,Region.binds .any e = true → e.on ≠ i) → oi.apart ops ok = true:=fun k ok hk hki hun hno=>by
        refine hfree k ok hk hki ?_ hno
        by_cases hjk : j = k
        · subst hjk; exact hjun
        · rw [getD_set_ne true hjk] at hun; exact hun
      refine qOpA_mono (fun E' h3=>ih (listed.setIfInBounds j true) E' (dc_set hd hj) hfree' (ready_mono hr (Ne.symm hji)) h3.1 ?_) h2
      rw [Array.setIfInBounds_comm _ _ hji]
      exact h3.2
def wpRF (P : Program) (own : FuncId → Bool) (ops : Array Oper) (es : List Nat) (Q : (Nat → AV) → List Box → Prop) : Nat → List Oper → (Nat → AV) → List Box → Prop
  | _,[],E,A=>Q E A
  | k,o :: rest,E,A=>match wantF ops o E with
    | none=>False
    | some true=>(es.contains k = true → OpK P own o (o.op.operands.toList.map (evF E)) A (fun v A'=>wpRF P own ops es Q (k + 1) rest (putF o.dst v E) A')) ∧ (es.contains k = false → ∃ v,OpY P own A o E v ∧ wpRF P own ops es Q (k + 1) rest (putF o.dst v E) A)
    | some false=>wpRF P own ops es Q (k + 1) rest (putF o.dst (.tuple []) E) A
theorem wpAnyR_lex (hs : sepB ops es = true) {Q : (Nat → AV) → List Box → Prop} : ∀ (l : List Oper) (k : Nat) (listed : Array Bool) (E : Nat → AV) (A : List Box),(∀ j,l[j]? = ops[k + j]?) → DC ops listed →
    Region.lexFrom .any ops l.length k listed = true → wpRF P own ops es Q k l E A → wpAnyR P own ops es Q l.length listed E A
  | [],_,_,_,_,_,_,hB,h=>⟨by simpa [Region.lexFrom] using hB,h⟩
  | o :: l,k,listed,E,A,hl,hd,hB,h=>by
    have h0 : ops[k]? = some o:=by simpa using (hl 0).symm
    have hl' : ∀ j,l[j]? = ops[k + 1 + j]?:=fun j=>by have:=hl (j + 1); simpa [Nat.add_assoc,Nat.add_comm 1 j] using this
    simp only [List.length_cons,Region.lexFrom,Bool.and_eq_true] at hB
    obtain ⟨⟨hr,hf⟩,hB'⟩:=hB
    have hrm : k ∈ Region.ready .any ops listed:=by simpa using hr
    have hd':=dc_set hd hrm
    cases hk : es.contains k with
    | true =>
      refine ⟨fun hh=>(by rw [hh] at hrm; cases hrm),fun j hj=>?_⟩
      have hjk:=sep_two hs hd hj hrm hk
      subst hjk
      unfold qOpR
      rw [if_pos hk]
      simp only [h0]
      simp only [wpRF] at h
      cases hw : wantF ops o E with
      | none=>simp only [hw] at h
      | some b =>
        simp only [hw] at h
        cases b with
        | true=>exact OpK_mono (h.1 hk) fun v A' h'=>wpAnyR_lex hs l (j + 1) _ _ _ hl' hd' hB' h'
        | false=>exact wpAnyR_lex hs l (j + 1) _ _ _ hl' hd' hB' h
    | false =>
      have hst : qOpA P own ops A k (fun E=>wpRF P own ops es Q (k + 1) l E A) E:=by
        unfold qOpA
        simp only [h0]
        simp only [wpRF] at h
        cases hw : wantF ops o E with
        | none=>simp only [hw] at h
        | some b =>
          simp only [hw] at h ⊢
          cases b with
          | true=>exact h.2 hk
          | false=>exact h
      obtain ⟨v,hy,hK⟩:=yieldsF_of_qOp h0 hst
      exact wpAnyR_first hs h0 hk l.length listed E hd (Region.free_spec h0 hf) hrm hy (wpAnyR_lex hs l (k + 1) _ _ _ hl' hd' hB' hK)
theorem FRel.put2 {N base : Nat} {G G' : Ghost} {E : Nat → AV} {A A' : List Box} {a : Act} {w w' : World} {d : Option Nat} {v : AV} {x : Value} (h : FRel N base G E A a w) (hd : ∀ t,d = some t → t < N) (he : Ext G w G' w') (hx : RV G' w' v x) (hh : HRel G' A' w' base) :
    FRel N base G' (putF d v E) A' (a.put d x) w':=by
  cases d with
  | none=>exact ⟨h.defers,h.size,fun t=>(h.env t).mono he,hh⟩
  | some d =>
    refine ⟨h.defers,by simp only [Act.put,Array.size_setIfInBounds]; exact h.size,fun t=>?_,hh⟩
    simp only [putF,Act.put]
    by_cases ht : t = d
    · subst ht
      have : t < a.tmps.size:=by rw [h.size]; exact hd t rfl
      have e2 : (a.tmps.setIfInBounds t x).getD t undef = x:=by simp [Array.getD,this]
      rw [if_pos rfl,e2]; exact hx
    · have e2 : (a.tmps.setIfInBounds d x).getD t undef = a.tmps.getD t undef:=by
        rw [Array.getD_eq_getD_getElem?,Array.getD_eq_getD_getElem?,Array.getElem?_setIfInBounds_ne (Ne.symm ht)]
      rw [if_neg ht,e2]; exact (h.env t).mono he
theorem wpAny_of_R {N base : Nat} {Q : (Nat → AV) → List Box → Prop} {Q' : Exit → Act → World → Prop} {G0 : Ghost} {w0 : World} (hN : dstOk N ops = true)
    (hQ : ∀ E A a w G,Q E A → FRel N base G E A a w → Ext G0 w0 G w → Below base w0 w → Q' .normal a w) :
    ∀ (fuel : Nat) (listed : Array Bool) {E : Nat → AV} {A : List Box} {a : Act} {w : World} {G : Ghost},FRel N base G E A a w → Ext G0 w0 G w → Below base w0 w →
      wpAnyR P own ops es Q fuel listed E A → wpAny P .any ops Q' fuel listed a w
  | 0,_,E,A,a,w,G,hr,he,hb,h=>⟨h.1,hQ E A a w G h.2 hr he hb⟩
  | fuel + 1,listed,E,A,a,w,G,hr,he,hb,h=>⟨fun h0=>hQ E A a w G (h.1 h0) hr he hb,fun i hi=>by
      have hq:=h.2 i hi
      unfold qOpR at hq
      unfold wpOp
      cases hes : es.contains i with
      | true =>
        rw [if_pos hes] at hq
        cases ho : ops[i]? with
        | none=>simp only [ho] at hq
        | some o =>
          simp only [ho] at hq ⊢
          cases hw : wantF ops o E with
          | none=>simp only [hw] at hq
          | some b =>
            simp only [hw] at hq
            rw [wantF_ok hr.env hw]
            cases b with
            | true =>
              rw [if_pos rfl]
              refine .inl (OpK_ok hq (evF_list hr.env _) hr.heap fun v' A' x w' G' hk hx hh hext hbel=>?_)
              exact wpAny_of_R hN hQ fuel _ (hr.put2 (dstOk_spec hN ho) hext hx hh) (he.trans hext) (hb.trans hbel) hk
            | false =>
              rw [if_neg (by simp)]
              exact wpAny_of_R hN hQ fuel _ (hr.put (dstOk_spec hN ho) (Ext.refl _ _) rv_skip hr.heap) he hb hq
      | false =>
        rw [if_neg (by rw [hes]; simp)] at hq
        unfold qOpA at hq
        cases ho : ops[i]? with
        | none=>simp only [ho] at hq ⊢; exact wpAny_of_R hN hQ fuel _ hr he hb hq
        | some o =>
          simp only [ho] at hq ⊢
          cases hw : wantF ops o E with
          | none=>simp only [hw] at hq
          | some b =>
            simp only [hw] at hq
            rw [wantF_ok hr.env hw]
            cases b with
            | true =>
              obtain ⟨v,hv,hK⟩:=hq
              rw [if_pos rfl]
              refine .inl (OpK_ok hv (evF_list hr.env _) hr.heap fun v' A' x w' G' hk hx hh hext hbel=>?_)
              obtain ⟨e1,e2⟩:=hk
              rw [e1] at hx
              rw [e2] at hh
              exact wpAny_of_R hN hQ fuel _ (hr.put (dstOk_spec hN ho) hext hx hh) (he.trans hext) (hb.trans hbel) hK
            | false =>
              rw [if_neg (by simp)]
              exact wpAny_of_R hN hQ fuel _ (hr.put (dstOk_spec hN ho) (Ext.refl _ _) rv_skip hr.heap) he hb hq⟩
def wpS (P : Program) (own : FuncId → Bool) (N : Nat) (ops : Array Oper) (Q : Env → List Box → Prop) : List Nat → List Oper → Env → List Box → Prop
  | [],l,e,A=>wpD P own N ops A (fun e=>Q e A) l e
  | n :: ns,l,e,A=>wpD P own N ops A (fun e=>wpO P own N ops (fun e A=>wpS P own N ops Q ns (l.drop (n + 1)) e A) ((l.drop n).take 1) e A) (l.take n) e
def segIdx : Nat → List Nat → List Nat
  | _,[]=>[]
  | k,n :: ns=>(k + n) :: segIdx (k + n + 1) ns
theorem segIdx_ge : ∀ (ns : List Nat) (k j : Nat),j ∈ segIdx k ns → k ≤ j
  | [],k,j,h=>by simp [segIdx] at h
  | n :: ns,k,j,h=>by
    simp only [segIdx,List.mem_cons] at h
    rcases h with rfl | h
    · omega
    · have:=segIdx_ge ns _ j h; omega
theorem wpRF_pure {Q : (Nat → AV) → List Box → Prop} {A : List Box} {rest : List Oper} : ∀ (l : List Oper) (k : Nat) (E : Nat → AV) (Q' : (Nat → AV) → Prop),(∀ j,k ≤ j → j < k + l.length → es.contains j = false) → wpDF P own ops A Q' l E →
    (∀ E,Q' E → wpRF P own ops es Q (k + l.length) rest E A) → wpRF P own ops es Q k (l ++ rest) E A
  | [],k,E,Q',_,h,hq=>by simpa using hq E h
  | o :: l,k,E,Q',hn,h,hq=>by
    simp only [wpDF] at h
    simp only [List.cons_append,wpRF]
    have hk:=hn k (Nat.le_refl _) (by simp)
    have rec':=fun E h=>wpRF_pure l (k + 1) E Q' (fun j h1 h2=>hn j (by omega) (by simp at h2 ⊢; omega)) h (fun E hE=>by
      have:=hq E hE
      rwa [List.length_cons,show k + (l.length + 1) = k + 1 + l.length by omega] at this)
    cases hw : wantF ops o E with
    | none=>simp only [hw] at h
    | some b =>
      simp only [hw] at h ⊢
      cases b with
      | true =>
        obtain ⟨v,h1,h2⟩:=h
        exact ⟨fun hh=>(by rw [hk] at hh; cases hh),fun _=>⟨v,h1,rec' _ h2⟩⟩
      | false=>exact rec' _ h
theorem wpD_F2 {N : Nat} {A : List Box} {Q : Env → Prop} (hN : dstOk N ops = true) : ∀ (l : List Oper) (k : Nat) (e : Env),(∀ j o,l[j]? = some o → ops[k + j]? = some o) → wpD P own N ops A Q l e → wpDF P own ops A (fun E=>∃ e,Q e ∧ E = fun t=>look t e) l (fun t=>look t e)
  | [],k,e,hl,h=>⟨e,h,rfl⟩
  | o :: rest,k,e,hl,h=>by
    have h0 : ops[k]? = some o:=by simpa using hl 0 o rfl
    have hl' : ∀ j o,rest[j]? = some o → ops[k + 1 + j]? = some o:=fun j o ho=>by have:=hl (j + 1) o (by simpa using ho); simpa [Nat.add_assoc,Nat.add_comm 1 j] using this
    have hev : evF (fun t=>look t e) = evA e:=by funext x; cases x <;> rfl
    have hwt : wantF ops o (fun t=>look t e) = wantA ops o e:=rfl
    simp only [wpD] at h
    simp only [wpDF,hwt]
    have hput : ∀ v,putF o.dst v (fun t=>look t e) = fun t=>look t (putA N o.dst v e):=fun v=>by
      funext t; exact (look_putA (dstOk_spec hN h0)).symm
    split at h
    · exact h.elim
    · rename_i b hb
      rw [hb]
      cases b with
      | true =>
        obtain ⟨v,h1,h2⟩:=h.1 rfl
        refine ⟨v,?_,?_⟩
        · unfold OpY; rw [hev]; exact h1
        · rw [hput]; exact wpD_F2 hN rest (k + 1) _ hl' h2
      | false =>
        show wpDF P own ops A _ rest (putF o.dst (.tuple []) _)
        rw [hput]; exact wpD_F2 hN rest (k + 1) _ hl' (h.2 rfl)
theorem wpS_F {N : Nat} {Q : Env → List Box → Prop} (hN : dstOk N ops = true) : ∀ (ns : List Nat) (l : List Oper) (k : Nat) (e : Env) (A : List Box),(∀ j o,l[j]? = some o → ops[k + j]? = some o) → (∀ j,k ≤ j → (es.contains j = true ↔ j ∈ segIdx k ns)) → (∀ j ∈ segIdx k ns,j < k + l.length) →
    wpS P own N ops Q ns l e A → wpRF P own ops es (fun E A=>∃ e,Q e A ∧ E = fun t=>look t e) k l (fun t=>look t e) A
  | [],l,k,e,A,hl,hes,_,h=>by
    have h1:=wpD_F2 hN l k e hl h
    have:=wpRF_pure (es:=es) (Q:=fun E A=>∃ e,Q e A ∧ E = fun t=>look t e) (rest:=[]) l k _ _ (fun j h1 h2=>by
      cases hq : es.contains j with
      | false=>rfl
      | true=>have:=(hes j h1).1 hq; simp [segIdx] at this) h1 (fun E hE=>hE)
    simpa using this
  | n :: ns,l,k,e,A,hl,hes,hlt,h=>by
    have hn : n < l.length:=by have:=hlt (k + n) (by simp [segIdx]); omega
    have hsplit : l = l.take n ++ (l[n] :: l.drop (n + 1)):=by rw [List.getElem_cons_drop,List.take_append_drop]
    have htk : (l.take n).length = n:=by simp; omega
    have hone : (l.drop n).take 1 = [l[n]]:=by rw [List.drop_eq_getElem_cons hn]; rfl
    have h1 : wpD P own N ops A (fun e=>wpO P own N ops (fun e A=>wpS P own N ops Q ns (l.drop (n + 1)) e A) ((l.drop n).take 1) e A) (l.take n) e:=h
    rw [hone] at h1
    have h2:=wpD_F2 hN (l.take n) k e (fun j o ho=>by
      rw [List.getElem?_take] at ho
      split at ho
      · exact hl j o ho
      · cases ho) h1
    rw [hsplit]
    refine wpRF_pure (l.take n) k _ _ (fun j h3 h4=>?_) h2 ?_
    · rw [htk] at h4
      cases hq : es.contains j with
      | false=>rfl
      | true =>
        have:=(hes j h3).1 hq
        simp only [segIdx,List.mem_cons] at this
        rcases this with rfl | h5
        · omega
        · have:=segIdx_ge _ _ _ h5; omega
    · rintro E ⟨e',h3,rfl⟩
      rw [htk]
      have hkn : es.contains (k + n) = true:=(hes (k + n) (by omega)).2 (by simp [segIdx])
      have h0 : ops[k + n]? = some l[n]:=hl n _ (by simp [hn])
      have hev : evF (fun t=>look t e') = evA e':=by funext x; cases x <;> rfl
      have hwt : wantF ops l[n] (fun t=>look t e') = wantA ops l[n] e':=rfl
      have hput : ∀ v,putF l[n].dst v (fun t=>look t e') = fun t=>look t (putA N l[n].dst v e'):=fun v=>by
        funext t; exact (look_putA (dstOk_spec hN h0)).symm
      have rec':=fun e A h=>wpS_F (Q:=Q) hN ns (l.drop (n + 1)) (k + n + 1) e A (fun j o ho=>by
          rw [List.getElem?_drop] at ho
          have:=hl _ o ho
          rwa [show k + n + 1 + j = k + (n + 1 + j) by omega]) (fun j hj=>by
          rw [hes j (by omega)]
          simp only [segIdx,List.mem_cons]
          constructor
          · rintro (rfl | h)
            · omega
            · exact h
          · exact .inr) (fun j hj=>by
          have:=hlt j (by simp only [segIdx,List.mem_cons]; exact .inr hj)
          simp; omega) h
      simp only [wpO] at h3
      simp only [wpRF,hwt]
      split at h3
      · exact h3.elim
      · rename_i b hb
        rw [hb]
        cases b with
        | true =>
          refine ⟨fun _=>?_,fun hh=>(by rw [hkn] at hh; cases hh)⟩
          rw [hev]
          refine OpK_mono (h3.1 rfl) fun v A' h4=>?_
          rw [hput]
          exact rec' _ _ h4
        | false =>
          show wpRF P own ops es _ (k + n + 1) _ (putF l[n].dst (.tuple []) _) A
          rw [hput]
          exact rec' _ _ (h3.2 rfl)
theorem wpS_ok {N base id : Nat} {Q : Env → List Box → Prop} {Q' : Exit → Act → World → Prop} {G0 : Ghost} {w0 : World} {e : Env} {A : List Box} {a : Act} {w : World} {G : Ghost} (ns : List Nat) (hm : P.follows .mixedOrders = true) (hN : dstOk N ops = true) (hB : Region.lexB .any ops = true)
    (hS : sepB ops (segIdx 0 ns) = true) (hlt : ∀ j ∈ segIdx 0 ns,j < ops.size)
    (hQ : ∀ e A a w G,Q e A → ARel N base G e A a w → Ext G0 w0 G w → Below base w0 w → Q' .normal a w) (h : wpS P own N ops Q ns ops.toList e A) (hr : ARel N base G e A a w) (he : Ext G0 w0 G w) (hb : Below base w0 w) :
    (Code.region id ops true).wp P Q' a w:=by
  simp only [Region.lexB,Bool.and_eq_true] at hB
  have h1:=wpS_F (es:=segIdx 0 ns) hN ns ops.toList 0 e A (fun j o ho=>by simpa using ho) (fun j _=>by simp) (fun j hj=>by have:=hlt j hj; simpa using this) h
  have hget : ∀ k,(Array.replicate ops.size false).getD k false = false:=fun k=>by
    rcases Nat.lt_or_ge k ops.size with hk | hk <;> simp [Array.getD,hk]
  have hd0 : DC ops (Array.replicate ops.size false):=fun k o _ hl=>by rw [hget] at hl; cases hl
  have h2:=wpAnyR_lex hS ops.toList 0 (Array.replicate ops.size false) (fun t=>look t e) A (by simp) hd0 (by simpa using hB.2) h1
  obtain ⟨k1,k2⟩:=hr.heap.heap (w':={ w with drawn:=w.drawn + 1 }) rfl
  have hbd : Below base w { w with drawn:=w.drawn + 1 }:=(Below.refl base w).drew
  refine wp_region_any hm ?_
  have h3:=wpAny_of_R (N:=N) (base:=base) (Q':=Q') (G0:=G0) (w0:=w0) hN (fun E A a w G hq hr he hb=>?_) ops.toList.length (Array.replicate ops.size false) (a:=a) (w:={ w with drawn:=w.drawn + 1 }) (G:=G)
    ⟨hr.defers,hr.size,fun t=>(hr.env t).mono k2,k1⟩ (he.trans k2) (hb.trans hbd) h2
  · simpa using h3
  · obtain ⟨e',hq,rfl⟩:=hq
    exact hQ e' A a w G hq ⟨hr.defers,hr.size,hr.env,hr.heap⟩ he hb
end
end Go.Abs
/- A region whose order is open: a chain of operations that change boxes, some of which have all others before or behind them and any answer; behind it, operations that are run in every order. -/
namespace Go.Abs
open Go.RowKit
section
variable {P : Program} {own : FuncId → Bool} {ops : Array Oper} {es : List Nat} {T : Ranks} {m n : Nat}
def qOpM (P : Program) (own : FuncId → Bool) (ops : Array Oper) (es : List Nat) (T : Ranks) (i : Nat) (K : (Nat → AV) → (Nat → List Box) → Prop) (E : Nat → AV) (As : Nat → List Box) : Prop :=
  if es.contains i = true then
    match ops[i]? with
    | none=>False
    | some o=>match wantF ops o E with
      | none=>False
      | some true=>OpK P own o (o.op.operands.toList.map (evF E)) (As (T.lo i)) (fun v A'=>∃ As',As' (T.lo i + 1) = A' ∧ K (putF o.dst v E) As')
      | some false=>∃ As',As' (T.lo i + 1) = As (T.lo i) ∧ K (putF o.dst (.tuple []) E) As'
  else qOpZ P own ops T As i (fun E=>K E As) E
def wpAnyX (P : Program) (own : FuncId → Bool) (ops : Array Oper) (Q : (Nat → AV) → List Box → Prop) : Nat → Array Bool → (Nat → AV) → List Box → Prop
  | 0,listed,E,A=>Region.ready .any ops listed = [] ∧ Q E A
  | fuel + 1,listed,E,A=>(Region.ready .any ops listed = [] → Q E A) ∧ ∀ i ∈ Region.ready .any ops listed,match ops[i]? with
    | none=>False
    | some o=>match wantF ops o E with
      | none=>False
      | some true=>OpK P own o (o.op.operands.toList.map (evF E)) A (fun v A'=>wpAnyX P own ops Q fuel (listed.setIfInBounds i true) (putF o.dst v E) A')
      | some false=>wpAnyX P own ops Q fuel (listed.setIfInBounds i true) (putF o.dst (.tuple []) E) A
theorem wpAny_of_X {N base : Nat} {Q : (Nat → AV) → List Box → Prop} {Q' : Exit → Act → World → Prop} {G0 : Ghost} {w0 : World} (hN : dstOk N ops = true)
    (hQ : ∀ E A a w G,Q E A → FRel N base G E A a w → Ext G0 w0 G w → Below base w0 w → Q' .normal a w) :
    ∀ (fuel : Nat) (listed : Array Bool) {E : Nat → AV} {A : List Box} {a : Act} {w : World} {G : Ghost},FRel N base G E A a w → Ext G0 w0 G w → Below base w0 w →
      wpAnyX P own ops Q fuel listed E A → wpAny P .any ops Q' fuel listed a w
  | 0,_,E,A,a,w,G,hr,he,hb,h=>⟨h.1,hQ E A a w G h.2 hr he hb⟩
  | fuel + 1,listed,E,A,a,w,G,hr,he,hb,h=>⟨fun h0=>hQ E A a w G (h.1 h0) hr he hb,fun i hi=>by
      have hq:=h.2 i hi
      unfold wpOp
      cases ho : ops[i]? with
      | none=>simp only [ho] at hq
      | some o =>
        simp only [ho] at hq ⊢
        cases hw : wantF ops o E with
        | none=>simp only [hw] at hq
        | some b =>
          simp only [hw] at hq
          rw [wantF_ok hr.env hw]
          cases b with
          | true =>
            rw [if_pos rfl]
            refine .inl (OpK_ok hq (evF_list hr.env _) hr.heap fun v' A' x w' G' hk hx hh hext hbel=>?_)
            exact wpAny_of_X hN hQ fuel _ (hr.put2 (dstOk_spec hN ho) hext hx hh) (he.trans hext) (hb.trans hbel) hk
          | false =>
            rw [if_neg (by simp)]
            exact wpAny_of_X hN hQ fuel _ (hr.put (dstOk_spec hN ho) (Ext.refl _ _) rv_skip hr.heap) he hb hq⟩
def preB (ops : Array Oper) (n : Nat) : Bool:=(List.range ops.size).all fun j=>decide (j < n) || (List.range n).all fun i=>reachB ops ops.size i j
def preAll (n : Nat) (listed : Array Bool) : Prop:=∀ i,i < n → listed.getD i false = true
open Classical in
noncomputable def wpAnyM (P : Program) (own : FuncId → Bool) (ops : Array Oper) (es : List Nat) (T : Ranks) (m n : Nat) (Q : (Nat → AV) → List Box → Prop) : Nat → Array Bool → (Nat → AV) → (Nat → List Box) → Prop
  | 0,listed,E,As=>preAll n listed ∧ wpAnyX P own ops Q 0 listed E (As m)
  | fuel + 1,listed,E,As=>if preAll n listed then wpAnyX P own ops Q (fuel + 1) listed E (As m) else ∀ i ∈ Region.ready .any ops listed,qOpM P own ops es T i (wpAnyM P own ops es T m n Q fuel (listed.setIfInBounds i true)) E As
theorem ready_low (hp : preB ops n = true) {listed : Array Bool} {j : Nat} (hd : DC ops listed) (hj : j ∈ Region.ready .any ops listed) (hn : ¬ preAll n listed) : j < n:=by
  rcases Nat.lt_or_ge j n with h | h
  · exact h
  · exfalso
    apply hn
    intro i hi
    obtain ⟨hju,oj,hoj,hja⟩:=mem_ready.1 hj
    have hjl : j < ops.size:=(Array.getElem?_eq_some_iff.1 hoj).1
    have h1:=List.all_eq_true.1 hp j (List.mem_range.2 hjl)
    simp only [Bool.or_eq_true,decide_eq_true_eq] at h1
    rcases h1 with h1 | h1
    · omega
    · have h2:=List.all_eq_true.1 h1 i (List.mem_range.2 hi)
      exact reach_listed hd _ _ _ h2 fun o ho=>by rw [hoj] at ho; cases ho; exact hja
theorem not_pre {listed : Array Bool} {i : Nat} (hi : i < n) (hr : i ∈ Region.ready .any ops listed) : ¬ preAll n listed:=fun h=>by
  obtain ⟨hiu,oi,hoi,_⟩:=mem_ready.1 hr
  have h1:=h i hi
  rcases Nat.lt_or_ge i listed.size with h' | h'
  · simp [h'] at h1 hiu; rw [hiu] at h1; cases h1
  · simp [Array.getD,Nat.not_lt.2 h'] at h1
theorem wpAnyM_first (hs : sepB ops es = true) (hp : preB ops n = true) {Q : (Nat → AV) → List Box → Prop} {i : Nat} {oi : Oper} {v : AV} {As : Nat → List Box} (hin : i < n) (hi : ops[i]? = some oi) (hie : es.contains i = false) :
    ∀ (fuel : Nat) (listed : Array Bool) (E : Nat → AV),DC ops listed →
      (∀ j oj,ops[j]? = some oj → j ≠ i → listed.getD j true = false → (∀ e ∈ oj.after,Region.binds .any e = true → e.on ≠ i) → oi.apart ops oj = true) →
      i ∈ Region.ready .any ops listed → YieldsZ P own ops T As i oi v E →
      wpAnyM P own ops es T m n Q fuel (listed.setIfInBounds i true) (putF oi.dst v E) As → wpAnyM P own ops es T m n Q (fuel + 1) listed E As:=by
  intro fuel
  have no : ∀ {listed : Array Bool} {j : Nat},DC ops listed → i ∈ Region.ready .any ops listed → j ∈ Region.ready .any ops listed → es.contains j = false:=fun {listed j} hd hr hj=>by
    cases hq : es.contains j with
    | false=>rfl
    | true =>
      have:=sep_two hs hd hr hj hq
      subst this
      rw [hie] at hq; cases hq
  induction fuel with
  | zero =>
    intro listed E hd _ hr hy H
    have hnp:=not_pre hin hr
    unfold wpAnyM
    rw [if_neg hnp]
    intro j hj
    have hjn:=ready_low hp hd hj hnp
    by_cases hji : j = i
    · subst hji
      unfold qOpM
      rw [if_neg (by rw [hie]; simp)]
      exact hy.qOp hi H
    · exact absurd H.1 (not_pre hjn (ready_mono hj hji))
  | succ fuel ih =>
    intro listed E hd hfree hr hy H
    have hnp:=not_pre hin hr
    unfold wpAnyM
    rw [if_neg hnp]
    intro j hj
    have hjn:=ready_low hp hd hj hnp
    by_cases hji : j = i
    · subst hji
      unfold qOpM
      rw [if_neg (by rw [hie]; simp)]
      exact hy.qOp hi H
    · have hje:=no hd hr hj
      unfold wpAnyM at H
      rw [if_neg (not_pre hjn (ready_mono hj hji))] at H
      have h1:=H j (ready_mono hj hji)
      unfold qOpM at h1 ⊢
      rw [if_neg (by rw [hje]; simp)] at h1 ⊢
      obtain ⟨hjun,oj,hoj,hall⟩:=mem_ready.1 hj
      have hnot : ∀ e ∈ oj.after,Region.binds .any e = true → e.on ≠ i:=fun e he hb heq=>by
        have h1:=hall e he hb
        have h0:=(mem_ready.1 hr).1
        rw [heq] at h1
        rcases Nat.lt_or_ge i listed.size with h' | h'
        · simp [h'] at h0 h1; rw [h0] at h1; cases h1
        · simp [Array.getElem?_eq_none h'] at h1
      have h2:=qOpZ_put hoj (hfree j oj hoj hji hjun hnot) hy h1
      have hfree' : ∀ k ok,ops[k]? = some ok → k ≠ i → (listed.setIfInBounds j true).getD k true = false →
          (∀ e ∈ ok.after,Region.binds .any e = true → e.on ≠ i) → oi.apart ops ok = true:=fun k ok hk hki hun hno=>by
        refine hfree k ok hk hki ?_ hno
        by_cases hjk : j = k
        · subst hjk; exact hjun
        · rw [getD_set_ne true hjk] at hun; exact hun
      refine qOpZ_mono (fun E' h3=>ih (listed.setIfInBounds j true) E' (dc_set hd hj) hfree' (ready_mono hr (Ne.symm hji)) h3.1 ?_) h2
      rw [Array.setIfInBounds_comm _ _ hji]
      exact h3.2
def wpMF (P : Program) (own : FuncId → Bool) (ops : Array Oper) (es : List Nat) (T : Ranks) (Q : (Nat → AV) → (Nat → List Box) → Prop) : Nat → List Oper → (Nat → AV) → (Nat → List Box) → Prop
  | _,[],E,As=>Q E As
  | k,o :: rest,E,As=>match wantF ops o E with
    | none=>False
    | some true=>(es.contains k = true → OpK P own o (o.op.operands.toList.map (evF E)) (As (T.lo k)) (fun v A'=>∃ As',As' (T.lo k + 1) = A' ∧ wpMF P own ops es T Q (k + 1) rest (putF o.dst v E) As')) ∧
        (es.contains k = false → ∃ v,OpZ P own T As k o (o.op.operands.toList.map (evF E)) v ∧ wpMF P own ops es T Q (k + 1) rest (putF o.dst v E) As)
    | some false=>(es.contains k = true → ∃ As',As' (T.lo k + 1) = As (T.lo k) ∧ wpMF P own ops es T Q (k + 1) rest (putF o.dst (.tuple []) E) As') ∧
        (es.contains k = false → SkZ T As k ∧ wpMF P own ops es T Q (k + 1) rest (putF o.dst (.tuple []) E) As)
def lexN (ops : Array Oper) : Nat → Nat → Array Bool → Bool
  | 0,_,_=>true
  | l + 1,k,listed=>(Region.ready .any ops listed).contains k && Region.free .any ops listed k && lexN ops l (k + 1) (listed.setIfInBounds k true)
def setN : Nat → Nat → Array Bool → Array Bool
  | 0,_,listed=>listed
  | l + 1,k,listed=>setN l (k + 1) (listed.setIfInBounds k true)
theorem wpAnyM_lex (hs : sepB ops es = true) (hp : preB ops n = true) {Q : (Nat → AV) → List Box → Prop} (f : Nat) : ∀ (l : List Oper) (k : Nat) (listed : Array Bool) (E : Nat → AV) (As : Nat → List Box),(∀ j o,l[j]? = some o → ops[k + j]? = some o) → k + l.length = n → DC ops listed →
    lexN ops l.length k listed = true → wpMF P own ops es T (fun E As=>wpAnyM P own ops es T m n Q f (setN l.length k listed) E As) k l E As → wpAnyM P own ops es T m n Q (l.length + f) listed E As
  | [],k,_,_,_,_,_,_,hB,h=>by simpa [setN,wpMF] using h
  | o :: l,k,listed,E,As,hl,hkn,hd,hB,h=>by
    have h0 : ops[k]? = some o:=by simpa using hl 0 o rfl
    have hl' : ∀ j o,l[j]? = some o → ops[k + 1 + j]? = some o:=fun j o ho=>by have:=hl (j + 1) o (by simpa using ho); simpa [Nat.add_assoc,Nat.add_comm 1 j] using this
    have hkn' : k + 1 + l.length = n:=by simp at hkn; omega
    have hk0 : k < n:=by simp at hkn; omega
    simp only [List.length_cons,lexN,Bool.and_eq_true] at hB
    obtain ⟨⟨hr,hf⟩,hB'⟩:=hB
    have hrm : k ∈ Region.ready .any ops listed:=by simpa using hr
    have hd':=dc_set hd hrm
    have hnp:=not_pre hk0 hrm
    have rec':=fun E As h=>wpAnyM_lex hs hp (Q:=Q) f l (k + 1) (listed.setIfInBounds k true) E As hl' hkn' hd' hB' h
    rw [List.length_cons,show l.length + 1 + f = (l.length + f) + 1 by omega]
    simp only [List.length_cons,setN] at h
    cases hk : es.contains k with
    | true =>
      unfold wpAnyM
      rw [if_neg hnp]
      intro j hj
      have hjk:=sep_two hs hd hj hrm hk
      subst hjk
      unfold qOpM
      rw [if_pos hk]
      simp only [h0]
      simp only [wpMF] at h
      cases hw : wantF ops o E with
      | none=>simp only [hw] at h
      | some b =>
        simp only [hw] at h
        cases b with
        | true=>exact OpK_mono (h.1 hk) fun v A' ⟨As',h1,h'⟩=>⟨As',h1,rec' _ _ h'⟩
        | false =>
          obtain ⟨As',h1,h'⟩:=h.1 hk
          exact ⟨As',h1,rec' _ _ h'⟩
    | false =>
      have hst : qOpZ P own ops T As k (fun E=>wpMF P own ops es T (fun E As=>wpAnyM P own ops es T m n Q f (setN l.length (k + 1) (listed.setIfInBounds k true)) E As) (k + 1) l E As) E:=by
        unfold qOpZ
        simp only [h0]
        simp only [wpMF] at h
        cases hw : wantF ops o E with
        | none=>simp only [hw] at h
        | some b =>
          simp only [hw] at h ⊢
          cases b with
          | true=>exact h.2 hk
          | false=>exact h.2 hk
      obtain ⟨v,hy,hK⟩:=yieldsZ_of_qOp h0 hst
      exact wpAnyM_first hs hp hk0 h0 hk (l.length + f) listed E hd (Region.free_spec h0 hf) hrm hy (rec' _ _ hK)
def effB (T : Ranks) (es : List Nat) : Bool:=es.all fun i=>T.eff i
theorem eff_lo {k : Nat} (hB : rankB ops T m = true) (hk : k < ops.size) (he : T.eff k = true) : T.lo k = T.hi k:=by
  have:=List.all_eq_true.1 hB k (List.mem_range.2 hk)
  simp only [he,if_true,Bool.and_eq_true,beq_iff_eq] at this
  exact this.1.1.1
def endN (ops : Array Oper) (T : Ranks) (m n : Nat) : Bool:=decide (n ≤ ops.size) && (m == 0 || (List.range n).any fun e=>T.eff e && T.lo e + 1 == m)
theorem end_rankN {c : Nat} {listed : Array Bool} (he : endN ops T m n = true) (hi : RInv ops T m listed c) (ha : preAll n listed) : c = m:=by
  have:=hi.1
  simp only [endN,Bool.and_eq_true,decide_eq_true_eq,Bool.or_eq_true,beq_iff_eq,List.any_eq_true,List.mem_range] at he
  obtain ⟨hn,he⟩:=he
  rcases he with h0 | ⟨e,h1,h2,h3⟩
  · omega
  · have:=(hi.2 e (by omega) h2).1 (ha e h1)
    omega
theorem wpAny_of_M {N base : Nat} {Q : (Nat → AV) → List Box → Prop} {Q' : Exit → Act → World → Prop} {G0 : Ghost} {w0 : World} (hN : dstOk N ops = true) (hB : rankB ops T m = true) (hbk : backB ops = true) (hEn : endN ops T m n = true) (hE : effB T es = true)
    (hQ : ∀ E A a w G,Q E A → FRel N base G E A a w → Ext G0 w0 G w → Below base w0 w → Q' .normal a w) :
    ∀ (fuel : Nat) (listed : Array Bool) {E : Nat → AV} {As : Nat → List Box} {a : Act} {w : World} {G : Ghost} {c : Nat},DC ops listed → RInv ops T m listed c → listed.size = ops.size → FRel N base G E (As c) a w → Ext G0 w0 G w → Below base w0 w →
      wpAnyM P own ops es T m n Q fuel listed E As → wpAny P .any ops Q' fuel listed a w
  | 0,listed,E,As,a,w,G,c,hd,hi,hs,hr,he,hb,h=>by
    have hc:=end_rankN hEn hi h.1
    subst hc
    exact wpAny_of_X hN hQ 0 listed hr he hb h.2
  | fuel + 1,listed,E,As,a,w,G,c,hd,hi,hs,hr,he,hb,h=>by
    unfold wpAnyM at h
    by_cases hpa : preAll n listed
    · rw [if_pos hpa] at h
      have hc:=end_rankN hEn hi hpa
      subst hc
      exact wpAny_of_X hN hQ (fuel + 1) listed hr he hb h
    rw [if_neg hpa] at h
    have hns : n ≤ ops.size:=by simp only [endN,Bool.and_eq_true,decide_eq_true_eq] at hEn; exact hEn.1
    refine ⟨fun h0=>absurd (fun i hin=>all_listed hbk hs h0 i (by omega)) hpa,fun i hir=>?_⟩
    have hq:=h i hir
    obtain ⟨g1,g2,g3⟩:=rank_range hB hd hi hs hir
    have hd':=dc_set hd hir
    have hs' : (listed.setIfInBounds i true).size = ops.size:=by simpa using hs
    unfold qOpM at hq
    unfold wpOp
    cases ho : ops[i]? with
    | none=>obtain ⟨_,o,ho',_⟩:=mem_ready.1 hir; rw [ho] at ho'; cases ho'
    | some o =>
      have hil : i < ops.size:=(Array.getElem?_eq_some_iff.1 ho).1
      cases hes : es.contains i with
      | true =>
        rw [if_pos hes] at hq
        simp only [ho] at hq ⊢
        have heff : T.eff i = true:=List.all_eq_true.1 hE i (by simpa using hes)
        have hlh:=eff_lo hB hil heff
        have hc : T.lo i = c:=by omega
        have hnx : T.next i c = c + 1:=by simp [Ranks.next,heff]
        rw [hnx] at g3
        rw [hc] at hq
        cases hw : wantF ops o E with
        | none=>simp only [hw] at hq
        | some b =>
          simp only [hw] at hq
          rw [wantF_ok hr.env hw]
          cases b with
          | true =>
            rw [if_pos rfl]
            refine .inl (OpK_ok hq (evF_list hr.env _) hr.heap fun v' A' x w' G' hk hx hh hext hbel=>?_)
            obtain ⟨As',e1,hk⟩:=hk
            rw [← e1] at hh
            exact wpAny_of_M hN hB hbk hEn hE hQ fuel _ hd' g3 hs' (hr.put2 (dstOk_spec hN ho) hext hx hh) (he.trans hext) (hb.trans hbel) hk
          | false =>
            rw [if_neg (by simp)]
            obtain ⟨As',e1,hk⟩:=hq
            have hr':=hr.put (d:=o.dst) (dstOk_spec hN ho) (Ext.refl _ _) rv_skip hr.heap
            rw [← e1] at hr'
            exact wpAny_of_M hN hB hbk hEn hE hQ fuel _ hd' g3 hs' hr' he hb hk
      | false =>
        rw [if_neg (by rw [hes]; simp)] at hq
        unfold qOpZ at hq
        simp only [ho] at hq ⊢
        cases hw : wantF ops o E with
        | none=>simp only [hw] at hq
        | some b =>
          simp only [hw] at hq
          rw [wantF_ok hr.env hw]
          cases b with
          | true =>
            obtain ⟨v,hv,hK⟩:=hq
            rw [if_pos rfl]
            refine .inl (OpK_ok (hv c g1 g2) (evF_list hr.env _) hr.heap fun v' A' x w' G' hk hx hh hext hbel=>?_)
            obtain ⟨e1,e2⟩:=hk
            rw [e1] at hx
            rw [e2] at hh
            exact wpAny_of_M hN hB hbk hEn hE hQ fuel _ hd' g3 hs' (hr.put2 (dstOk_spec hN ho) hext hx hh) (he.trans hext) (hb.trans hbel) hK
          | false =>
            rw [if_neg (by simp)]
            have hr':=hr.put (d:=o.dst) (dstOk_spec hN ho) (Ext.refl _ _) rv_skip hr.heap
            rw [← hq.1 c g1 g2] at hr'
            exact wpAny_of_M hN hB hbk hEn hE hQ fuel _ hd' g3 hs' hr' he hb hq.2
def wpM (P : Program) (own : FuncId → Bool) (N : Nat) (ops : Array Oper) (T : Ranks) (m : Nat) (Q : Env → List Box → Prop) : List Nat → Nat → List Oper → Env → (Nat → List Box) → Prop
  | [],k,l,e,As=>wpE P own N ops T As (fun e=>Q e (As m)) k l e
  | n :: ns,k,l,e,As=>wpE P own N ops T As (fun e=>wpO P own N ops (fun e A=>∃ As',As' (T.lo (k + n) + 1) = A ∧ wpM P own N ops T m Q ns (k + n + 1) (l.drop (n + 1)) e As') ((l.drop n).take 1) e (As (T.lo (k + n)))) k (l.take n) e
inductive Sch where
  | done
  | one (i : Nat) (s : Sch)
  | or (a b : Sch)
def Sch.firsts : Sch → List Nat
  | .done=>[]
  | .one i _=>[i]
  | .or a b=>a.firsts ++ b.firsts
def Sch.dep : Sch → Nat
  | .done=>0
  | .one _ s=>s.dep + 1
  | .or a b=>max a.dep b.dep
def okS (ops : Array Oper) : Sch → Array Bool → Bool
  | .done,_=>true
  | .one i s,listed=>(Region.ready .any ops (listed.setIfInBounds i true) == s.firsts) && okS ops s (listed.setIfInBounds i true)
  | .or a b,listed=>okS ops a listed && okS ops b listed
def wpY (P : Program) (own : FuncId → Bool) (N : Nat) (ops : Array Oper) (Q : Env → List Box → Prop) : Sch → Env → List Box → Prop
  | .done,e,A=>Q e A
  | .one i s,e,A=>wpO P own N ops (fun e A=>wpY P own N ops Q s e A) ((ops.toList.drop i).take 1) e A
  | .or a b,e,A=>wpY P own N ops Q a e A ∧ wpY P own N ops Q b e A
theorem wpY_first {N : Nat} {Q : Env → List Box → Prop} {e : Env} {A : List Box} {listed : Array Bool} : ∀ (s : Sch) (i : Nat),i ∈ s.firsts → okS ops s listed = true → wpY P own N ops Q s e A →
    ∃ s',wpO P own N ops (fun e A=>wpY P own N ops Q s' e A) ((ops.toList.drop i).take 1) e A ∧ Region.ready .any ops (listed.setIfInBounds i true) = s'.firsts ∧ okS ops s' (listed.setIfInBounds i true) = true ∧ s'.dep + 1 ≤ s.dep
  | .done,i,hi,_,_=>by simp [Sch.firsts] at hi
  | .one j s,i,hi,ho,h=>by
    simp only [Sch.firsts,List.mem_singleton] at hi
    subst hi
    simp only [okS,Bool.and_eq_true,beq_iff_eq] at ho
    exact ⟨s,h,ho.1,ho.2,Nat.le_refl _⟩
  | .or a b,i,hi,ho,h=>by
    simp only [okS,Bool.and_eq_true] at ho
    rcases List.mem_append.1 hi with hi | hi
    · obtain ⟨s',h1,h2,h3,h4⟩:=wpY_first a i hi ho.1 h.1
      exact ⟨s',h1,h2,h3,by simp only [Sch.dep]; omega⟩
    · obtain ⟨s',h1,h2,h3,h4⟩:=wpY_first b i hi ho.2 h.2
      exact ⟨s',h1,h2,h3,by simp only [Sch.dep]; omega⟩
theorem wpY_done {N : Nat} {Q : Env → List Box → Prop} {e : Env} {A : List Box} : ∀ (s : Sch),s.firsts = [] → wpY P own N ops Q s e A → Q e A
  | .done,_,h=>h
  | .one i s,hf,_=>by simp [Sch.firsts] at hf
  | .or a b,hf,h=>wpY_done a (by simp [Sch.firsts] at hf; exact hf.1) h.1
theorem wpY_X {N : Nat} {Q : Env → List Box → Prop} (hN : dstOk N ops = true) : ∀ (fuel : Nat) (s : Sch) (listed : Array Bool) (e : Env) (A : List Box),s.dep ≤ fuel → Region.ready .any ops listed = s.firsts → okS ops s listed = true → wpY P own N ops Q s e A →
    wpAnyX P own ops (fun E A=>∃ e,Q e A ∧ E = fun t=>look t e) fuel listed (fun t=>look t e) A
  | 0,s,listed,e,A,hd,hf,ho,h=>by
    have hs0 : s.firsts = []:=by
      cases hq : s.firsts with
      | nil=>rfl
      | cons i l =>
        obtain ⟨s',_,_,_,h4⟩:=wpY_first (P:=P) (own:=own) s i (by rw [hq]; simp) ho h
        omega
    exact ⟨by rw [hf,hs0],e,wpY_done s hs0 h,rfl⟩
  | fuel + 1,s,listed,e,A,hd,hf,ho,h=>by
    refine ⟨fun h0=>⟨e,wpY_done s (by rw [← hf,h0]) h,rfl⟩,fun i hi=>?_⟩
    obtain ⟨s',h1,h2,h3,h4⟩:=wpY_first s i (by rw [← hf]; exact hi) ho h
    obtain ⟨_,o,hoi,_⟩:=mem_ready.1 hi
    have hil : i < ops.size:=(Array.getElem?_eq_some_iff.1 hoi).1
    have hoe : ops.toList[i]? = some o:=by simpa using hoi
    have hone : (ops.toList.drop i).take 1 = [o]:=by
      have hl : i < ops.toList.length:=by simpa using hil
      rw [List.drop_eq_getElem_cons hl]
      have : ops.toList[i] = o:=by rw [List.getElem?_eq_getElem hl] at hoe; exact Option.some.inj hoe
      rw [this]; rfl
    rw [hone] at h1
    have hev : evF (fun t=>look t e) = evA e:=by funext x; cases x <;> rfl
    have hwt : wantF ops o (fun t=>look t e) = wantA ops o e:=rfl
    have hput : ∀ v,putF o.dst v (fun t=>look t e) = fun t=>look t (putA N o.dst v e):=fun v=>by
      funext t; exact (look_putA (dstOk_spec hN hoi)).symm
    simp only [hoi,hwt]
    simp only [wpO] at h1
    split at h1
    · exact h1.elim
    · rename_i b hb
      rw [hb]
      cases b with
      | true =>
        simp only []
        rw [hev]
        refine OpK_mono (h1.1 rfl) fun v A' h5=>?_
        rw [hput]
        exact wpY_X hN fuel s' _ _ _ (by omega) h2 h3 h5
      | false =>
        show wpAnyX P own ops _ fuel _ (putF o.dst (.tuple []) _) A
        rw [hput]
        exact wpY_X hN fuel s' _ _ _ (by omega) h2 h3 (h1.2 rfl)
theorem wpMF_pure {Q : (Nat → AV) → (Nat → List Box) → Prop} {As : Nat → List Box} {rest : List Oper} : ∀ (l : List Oper) (k : Nat) (E : Nat → AV) (Q' : (Nat → AV) → Prop),(∀ j,k ≤ j → j < k + l.length → es.contains j = false) → wpZF P own ops T As Q' k l E →
    (∀ E,Q' E → wpMF P own ops es T Q (k + l.length) rest E As) → wpMF P own ops es T Q k (l ++ rest) E As
  | [],k,E,Q',_,h,hq=>by simpa using hq E h
  | o :: l,k,E,Q',hn,h,hq=>by
    simp only [wpZF] at h
    simp only [List.cons_append,wpMF]
    have hk:=hn k (Nat.le_refl _) (by simp)
    have rec':=fun E h=>wpMF_pure l (k + 1) E Q' (fun j h1 h2=>hn j (by omega) (by simp at h2 ⊢; omega)) h (fun E hE=>by
      have:=hq E hE
      rwa [List.length_cons,show k + (l.length + 1) = k + 1 + l.length by omega] at this)
    cases hw : wantF ops o E with
    | none=>simp only [hw] at h
    | some b =>
      simp only [hw] at h ⊢
      cases b with
      | true =>
        obtain ⟨v,h1,h2⟩:=h
        exact ⟨fun hh=>(by rw [hk] at hh; cases hh),fun _=>⟨v,h1,rec' _ h2⟩⟩
      | false=>exact ⟨fun hh=>(by rw [hk] at hh; cases hh),fun _=>⟨h.1,rec' _ h.2⟩⟩
theorem wpMF_mono {Q Q' : (Nat → AV) → (Nat → List Box) → Prop} (hq : ∀ E As,Q E As → Q' E As) : ∀ (l : List Oper) (k : Nat) (E : Nat → AV) (As : Nat → List Box),wpMF P own ops es T Q k l E As → wpMF P own ops es T Q' k l E As
  | [],k,E,As,h=>hq E As h
  | o :: l,k,E,As,h=>by
    simp only [wpMF] at h ⊢
    cases hw : wantF ops o E with
    | none=>simp only [hw] at h
    | some b =>
      simp only [hw] at h ⊢
      cases b with
      | true =>
        refine ⟨fun hh=>OpK_mono (h.1 hh) fun v A' ⟨As',h1,h2⟩=>⟨As',h1,wpMF_mono hq l _ _ _ h2⟩,fun hh=>?_⟩
        obtain ⟨v,h1,h2⟩:=h.2 hh
        exact ⟨v,h1,wpMF_mono hq l _ _ _ h2⟩
      | false =>
        refine ⟨fun hh=>?_,fun hh=>⟨(h.2 hh).1,wpMF_mono hq l _ _ _ (h.2 hh).2⟩⟩
        obtain ⟨As',h1,h2⟩:=h.1 hh
        exact ⟨As',h1,wpMF_mono hq l _ _ _ h2⟩
theorem wpE_F2 {N : Nat} {As : Nat → List Box} {Q : Env → Prop} (hN : dstOk N ops = true) : ∀ (l : List Oper) (k : Nat) (e : Env),(∀ j o,l[j]? = some o → ops[k + j]? = some o) → wpE P own N ops T As Q k l e → wpZF P own ops T As (fun E=>∃ e,Q e ∧ E = fun t=>look t e) k l (fun t=>look t e)
  | [],k,e,hl,h=>⟨e,h,rfl⟩
  | o :: rest,k,e,hl,h=>by
    have h0 : ops[k]? = some o:=by simpa using hl 0 o rfl
    have hl' : ∀ j o,rest[j]? = some o → ops[k + 1 + j]? = some o:=fun j o ho=>by have:=hl (j + 1) o (by simpa using ho); simpa [Nat.add_assoc,Nat.add_comm 1 j] using this
    have hev : evF (fun t=>look t e) = evA e:=by funext x; cases x <;> rfl
    have hwt : wantF ops o (fun t=>look t e) = wantA ops o e:=rfl
    simp only [wpE] at h
    simp only [wpZF,hwt]
    have hput : ∀ v,putF o.dst v (fun t=>look t e) = fun t=>look t (putA N o.dst v e):=fun v=>by
      funext t; exact (look_putA (dstOk_spec hN h0)).symm
    split at h
    · exact h.elim
    · rename_i b hb
      rw [hb]
      cases b with
      | true =>
        obtain ⟨v,h1,h2⟩:=h.1 rfl
        refine ⟨v,?_,?_⟩
        · rw [hev]; exact h1
        · rw [hput]; exact wpE_F2 hN rest (k + 1) _ hl' h2
      | false =>
        refine ⟨(h.2 rfl).1,?_⟩
        show wpZF P own ops T As _ (k + 1) rest (putF o.dst (.tuple []) _)
        rw [hput]; exact wpE_F2 hN rest (k + 1) _ hl' (h.2 rfl).2
theorem wpM_F {N : Nat} {Q : Env → List Box → Prop} (hN : dstOk N ops = true) : ∀ (ns : List Nat) (l : List Oper) (k : Nat) (e : Env) (As : Nat → List Box),(∀ j o,l[j]? = some o → ops[k + j]? = some o) → (∀ j,k ≤ j → (es.contains j = true ↔ j ∈ segIdx k ns)) → (∀ j ∈ segIdx k ns,j < k + l.length) →
    wpM P own N ops T m Q ns k l e As → wpMF P own ops es T (fun E As=>∃ e,Q e (As m) ∧ E = fun t=>look t e) k l (fun t=>look t e) As
  | [],l,k,e,As,hl,hes,_,h=>by
    have h1:=wpE_F2 hN l k e hl h
    have:=wpMF_pure (es:=es) (Q:=fun E As=>∃ e,Q e (As m) ∧ E = fun t=>look t e) (rest:=[]) l k _ _ (fun j h1 h2=>by
      cases hq : es.contains j with
      | false=>rfl
      | true=>have:=(hes j h1).1 hq; simp [segIdx] at this) h1 (fun E hE=>hE)
    simpa using this
  | n :: ns,l,k,e,As,hl,hes,hlt,h=>by
    have hn : n < l.length:=by have:=hlt (k + n) (by simp [segIdx]); omega
    have hsplit : l = l.take n ++ (l[n] :: l.drop (n + 1)):=by rw [List.getElem_cons_drop,List.take_append_drop]
    have htk : (l.take n).length = n:=by simp; omega
    have hone : (l.drop n).take 1 = [l[n]]:=by rw [List.drop_eq_getElem_cons hn]; rfl
    have h1 : wpE P own N ops T As (fun e=>wpO P own N ops (fun e A=>∃ As',As' (T.lo (k + n) + 1) = A ∧ wpM P own N ops T m Q ns (k + n + 1) (l.drop (n + 1)) e As') ((l.drop n).take 1) e (As (T.lo (k + n)))) k (l.take n) e:=h
    rw [hone] at h1
    have h2:=wpE_F2 hN (l.take n) k e (fun j o ho=>by
      rw [List.getElem?_take] at ho
      split at ho
      · exact hl j o ho
      · cases ho) h1
    rw [hsplit]
    refine wpMF_pure (l.take n) k _ _ (fun j h3 h4=>?_) h2 ?_
    · rw [htk] at h4
      cases hq : es.contains j with
      | false=>rfl
      | true =>
        have:=(hes j h3).1 hq
        simp only [segIdx,List.mem_cons] at this
        rcases this with rfl | h5
        · omega
        · have:=segIdx_ge _ _ _ h5; omega
    · rintro E ⟨e',h3,rfl⟩
      rw [htk]
      have hkn : es.contains (k + n) = true:=(hes (k + n) (by omega)).2 (by simp [segIdx])
      have h0 : ops[k + n]? = some l[n]:=hl n _ (by simp [hn])
      have hev : evF (fun t=>look t e') = evA e':=by funext x; cases x <;> rfl
      have hwt : wantF ops l[n] (fun t=>look t e') = wantA ops l[n] e':=rfl
      have hput : ∀ v,putF l[n].dst v (fun t=>look t e') = fun t=>look t (putA N l[n].dst v e'):=fun v=>by
        funext t; exact (look_putA (dstOk_spec hN h0)).symm
      have rec':=fun e As h=>wpM_F (Q:=Q) hN ns (l.drop (n + 1)) (k + n + 1) e As (fun j o ho=>by
          rw [List.getElem?_drop] at ho
          have:=hl _ o ho
          rwa [show k + n + 1 + j = k + (n + 1 + j) by omega]) (fun j hj=>by
          rw [hes j (by omega)]
          simp only [segIdx,List.mem_cons]
          constructor
          · rintro (rfl | h)
            · omega
            · exact h
          · exact .inr) (fun j hj=>by
          have:=hlt j (by simp only [segIdx,List.mem_cons]; exact .inr hj)
          simp; omega) h
      simp only [wpO] at h3
      simp only [wpMF,hwt]
      split at h3
      · exact h3.elim
      · rename_i b hb
        rw [hb]
        cases b with
        | true =>
          refine ⟨fun _=>?_,fun hh=>(by rw [hkn] at hh; cases hh)⟩
          rw [hev]
          refine OpK_mono (h3.1 rfl) fun v A' ⟨As',h4,h5⟩=>?_
          rw [hput]
          exact ⟨As',h4,rec' _ _ h5⟩
        | false =>
          refine ⟨fun _=>?_,fun hh=>(by rw [hkn] at hh; cases hh)⟩
          obtain ⟨As',h4,h5⟩:=h3.2 rfl
          refine ⟨As',h4,?_⟩
          show wpMF P own ops es T _ (k + n + 1) _ (putF l[n].dst (.tuple []) _) As'
          rw [hput]
          exact rec' _ _ h5
theorem wpM_ok {N base id : Nat} {As : Nat → List Box} {Q : Env → List Box → Prop} {Q' : Exit → Act → World → Prop} {G0 : Ghost} {w0 : World} {e : Env} {a : Act} {w : World} {G : Ghost} (ns : List Nat) (s : Sch) (hm : P.follows .mixedOrders = true) (hN : dstOk N ops = true)
    (hB : (lexN ops n 0 (Array.replicate ops.size false)) = true)
    (hR : rankB ops T m = true) (hb : backB ops = true) (hE : endN ops T m n = true) (hS : sepB ops (segIdx 0 ns) = true) (hF : effB T (segIdx 0 ns) = true) (hlt : ∀ j ∈ segIdx 0 ns,j < n) (hp : preB ops n = true)
    (hs1 : (Region.ready .any ops (setN n 0 (Array.replicate ops.size false)) == s.firsts) = true) (hs2 : okS ops s (setN n 0 (Array.replicate ops.size false)) = true) (hs3 : n + s.dep ≤ ops.size)
    (hQ : ∀ e A a w G,Q e A → ARel N base G e A a w → Ext G0 w0 G w → Below base w0 w → Q' .normal a w) (h : wpM P own N ops T m (fun e A=>wpY P own N ops Q s e A) ns 0 (ops.toList.take n) e As) (hr : ARel N base G e (As 0) a w) (he : Ext G0 w0 G w) (hbel : Below base w0 w) :
    (Code.region id ops true).wp P Q' a w:=by
  have htl : (ops.toList.take n).length = n:=by simp; omega
  have h1:=wpM_F (es:=segIdx 0 ns) hN ns (ops.toList.take n) 0 e As (fun j o ho=>by
    rw [List.getElem?_take] at ho
    split at ho
    · simpa using ho
    · cases ho) (fun j _=>by simp) (fun j hj=>by have:=hlt j hj; rw [htl]; omega) h
  have hget : ∀ k,(Array.replicate ops.size false).getD k false = false:=fun k=>by
    rcases Nat.lt_or_ge k ops.size with hk | hk <;> simp [Array.getD,hk]
  have hd0 : DC ops (Array.replicate ops.size false):=fun k o _ hl=>by rw [hget] at hl; cases hl
  have hsetall : ∀ (l k : Nat) (listed : Array Bool),k + l ≤ listed.size → ∀ i,(i < k → listed.getD i false = true) → i < k + l → (setN l k listed).getD i false = true:=by
    intro l
    induction l with
    | zero=>intro k listed hk i hi hik; exact hi (by omega)
    | succ l ih =>
      intro k listed hk i hi hik
      simp only [setN]
      refine ih (k + 1) _ (by simp; omega) i (fun hh=>?_) (by omega)
      rcases Nat.lt_or_ge i k with h' | h'
      · exact getD_set_true (hi h')
      · obtain rfl : i = k:=by omega
        have : i < listed.size:=by omega
        simp [Array.getD,this]
  have hpre : preAll n (setN n 0 (Array.replicate ops.size false)):=fun i hi=>hsetall n 0 _ (by simp; omega) i (fun h=>by omega) (by omega)
  have h2:=wpAnyM_lex (P:=P) (own:=own) (m:=m) (Q:=fun E A=>∃ e,Q e A ∧ E = fun t=>look t e) hS hp (ops.size - n) (ops.toList.take n) 0 (Array.replicate ops.size false) (fun t=>look t e) As (fun j o ho=>by
    rw [List.getElem?_take] at ho
    split at ho
    · simpa using ho
    · cases ho) (by rw [htl]; omega) hd0 (by rw [htl]; exact hB) (by
      rw [htl]
      refine wpMF_mono (fun E As' ⟨e',h3,h4⟩=>?_) _ _ _ _ h1
      subst h4
      have h5:=wpY_X hN (ops.size - n) s (setN n 0 (Array.replicate ops.size false)) e' (As' m) (by omega) (by simpa using hs1) hs2 h3
      cases hf : ops.size - n with
      | zero=>rw [hf] at h5; exact ⟨hpre,h5⟩
      | succ f=>rw [hf] at h5; unfold wpAnyM; rw [if_pos hpre]; exact h5)
  obtain ⟨k1,k2⟩:=hr.heap.heap (w':={ w with drawn:=w.drawn + 1 }) rfl
  have hbd : Below base w { w with drawn:=w.drawn + 1 }:=(Below.refl base w).drew
  have hi0 : RInv ops T m (Array.replicate ops.size false) 0:=⟨Nat.zero_le _,fun e _ _=>by rw [hget]; simp⟩
  refine wp_region_any hm ?_
  have h3:=wpAny_of_M (N:=N) (base:=base) (Q':=Q') (G0:=G0) (w0:=w0) (m:=m) (n:=n) hN hR hb hE hF (fun E A a w G hq hr he hbl=>?_) ((ops.toList.take n).length + (ops.size - n)) (Array.replicate ops.size false) (a:=a) (w:={ w with drawn:=w.drawn + 1 }) (G:=G) (c:=0) hd0 hi0 (by simp)
    ⟨hr.defers,hr.size,fun t=>(hr.env t).mono k2,k1⟩ (he.trans k2) (hbel.trans hbd) h2
  · rw [htl,show n + (ops.size - n) = ops.size by omega] at h3
    simpa using h3
  · obtain ⟨e',hq,rfl⟩:=hq
    exact hQ e' _ a w G hq ⟨hr.defers,hr.size,hr.env,hr.heap⟩ he hbl
end
end Go.Abs
/- A region whose order is open: every order of the operations that change boxes or read what changes; the others are run as soon as they can be. -/
namespace Go.Abs
open Go.RowKit
section
variable {P : Program} {own : FuncId → Bool} {ops : Array Oper} {I : List Box → Prop}
def stepI (P : Program) (own : FuncId → Bool) (ops : Array Oper) (I : List Box → Prop) (i : Nat) (K : (Nat → AV) → List Box → Prop) (E : Nat → AV) (A : List Box) : Prop :=
  match ops[i]? with
  | none=>False
  | some o=>match wantF ops o E with
    | none=>False
    | some true=>OpK P own o (o.op.operands.toList.map (evF E)) A (fun v A'=>I A' ∧ K (putF o.dst v E) A')
    | some false=>K (putF o.dst (.tuple []) E) A
def wpAnyI (P : Program) (own : FuncId → Bool) (ops : Array Oper) (I : List Box → Prop) (Q : (Nat → AV) → List Box → Prop) : Nat → Array Bool → (Nat → AV) → List Box → Prop
  | 0,listed,E,A=>Region.ready .any ops listed = [] ∧ Q E A
  | fuel + 1,listed,E,A=>(Region.ready .any ops listed = [] → Q E A) ∧ ∀ i ∈ Region.ready .any ops listed,stepI P own ops I i (wpAnyI P own ops I Q fuel (listed.setIfInBounds i true)) E A
theorem wpAnyI_X {Q : (Nat → AV) → List Box → Prop} : ∀ (fuel : Nat) (listed : Array Bool) (E : Nat → AV) (A : List Box),wpAnyI P own ops I Q fuel listed E A → wpAnyX P own ops Q fuel listed E A
  | 0,_,_,_,h=>h
  | fuel + 1,listed,E,A,h=>⟨h.1,fun i hi=>by
      have hq:=h.2 i hi
      unfold stepI at hq
      cases ho : ops[i]? with
      | none=>simp only [ho] at hq
      | some o =>
        simp only [ho] at hq ⊢
        cases hw : wantF ops o E with
        | none=>simp only [hw] at hq
        | some b =>
          simp only [hw] at hq ⊢
          cases b with
          | true=>exact OpK_mono hq fun v A' h'=>wpAnyI_X fuel _ _ _ h'.2
          | false=>exact wpAnyI_X fuel _ _ _ hq⟩
theorem stepI_mono {i : Nat} {K K' : (Nat → AV) → List Box → Prop} {E : Nat → AV} {A : List Box} (hI : I A) (hk : ∀ E A,I A → K E A → K' E A) (h : stepI P own ops I i K E A) : stepI P own ops I i K' E A:=by
  unfold stepI at *
  cases ho : ops[i]? with
  | none=>simp only [ho] at h
  | some o =>
    simp only [ho] at h ⊢
    cases hw : wantF ops o E with
    | none=>simp only [hw] at h
    | some b =>
      simp only [hw] at h ⊢
      cases b with
      | true=>exact OpK_mono h fun v A' h'=>⟨h'.1,hk _ _ h'.1 h'.2⟩
      | false=>exact hk _ _ hI h
def YieldsI (P : Program) (own : FuncId → Bool) (ops : Array Oper) (I : List Box → Prop) (o : Oper) (v : AV) (E : Nat → AV) : Prop :=
  (wantF ops o E = some true ∧ ∀ A,I A → OpK P own o (o.op.operands.toList.map (evF E)) A (fun v' A'=>v' = v ∧ A' = A)) ∨ (wantF ops o E = some false ∧ v = .tuple [])
theorem YieldsI.step {i : Nat} {o : Oper} {v : AV} {E : Nat → AV} {A : List Box} (hi : ops[i]? = some o) (hy : YieldsI P own ops I o v E) (hI : I A) {K : (Nat → AV) → List Box → Prop} (h : K (putF o.dst v E) A) : stepI P own ops I i K E A:=by
  unfold stepI
  simp only [hi]
  rcases hy with ⟨hw,hv⟩ | ⟨hw,rfl⟩
  · simp only [hw]; exact OpK_mono (hv A hI) fun v' A' h'=>by rw [h'.1,h'.2]; exact ⟨hI,h⟩
  · simp only [hw]; exact h
theorem stepI_put {j : Nat} {oi oj : Oper} {v : AV} (hj : ops[j]? = some oj) (hap : oi.apart ops oj = true) {K : (Nat → AV) → List Box → Prop} {E : Nat → AV} {A : List Box}
    (hy : YieldsI P own ops I oi v E) (h : stepI P own ops I j K (putF oi.dst v E) A) :
    stepI P own ops I j (fun E' A'=>YieldsI P own ops I oi v E' ∧ K (putF oi.dst v E') A') E A:=by
  obtain ⟨h1,h2,h3⟩:=Oper.apart_spec hap
  have keep : ∀ u,YieldsI P own ops I oi v (putF oj.dst u E):=fun u=>by
    unfold YieldsI at *
    rw [wantF_put h3,vals_put h3]; exact hy
  unfold stepI at *
  simp only [hj] at *
  rw [wantF_put h1] at h
  cases hw : wantF ops oj E with
  | none=>simp only [hw] at h
  | some b =>
    simp only [hw] at h ⊢
    cases b with
    | true =>
      rw [vals_put h1] at h
      exact OpK_mono h fun u A' h'=>⟨h'.1,keep u,by rw [putF_comm E u v (fun d hd hx=>h2 d hx hd)]; exact h'.2⟩
    | false=>exact ⟨keep _,by rw [putF_comm E _ v (fun d hd hx=>h2 d hx hd)]; exact h⟩
theorem wpAnyI_first {Q : (Nat → AV) → List Box → Prop} {i : Nat} {oi : Oper} {v : AV} (hi : ops[i]? = some oi) :
    ∀ (fuel : Nat) (listed : Array Bool) (E : Nat → AV) (A : List Box),I A →
      (∀ j oj,ops[j]? = some oj → j ≠ i → listed.getD j true = false → (∀ e ∈ oj.after,Region.binds .any e = true → e.on ≠ i) → oi.apart ops oj = true) →
      i ∈ Region.ready .any ops listed → YieldsI P own ops I oi v E →
      wpAnyI P own ops I Q fuel (listed.setIfInBounds i true) (putF oi.dst v E) A → wpAnyI P own ops I Q (fuel + 1) listed E A:=by
  intro fuel
  induction fuel with
  | zero =>
    intro listed E A hI _ hr hy H
    refine ⟨fun h=>(by rw [h] at hr; cases hr),fun j hj=>?_⟩
    by_cases hji : j = i
    · subst hji; exact hy.step hi hI H
    · have:=ready_mono hj hji
      rw [H.1] at this
      cases this
  | succ fuel ih =>
    intro listed E A hI hfree hr hy H
    refine ⟨fun h=>(by rw [h] at hr; cases hr),fun j hj=>?_⟩
    by_cases hji : j = i
    · subst hji; exact hy.step hi hI H
    · have h1:=H.2 j (ready_mono hj hji)
      obtain ⟨hjun,oj,hoj,hall⟩:=mem_ready.1 hj
      have hnot : ∀ e ∈ oj.after,Region.binds .any e = true → e.on ≠ i:=fun e he hb heq=>by
        have h1:=hall e he hb
        have h0:=(mem_ready.1 hr).1
        rw [heq] at h1
        rcases Nat.lt_or_ge i listed.size with h' | h'
        · simp [h'] at h0 h1; rw [h0] at h1; cases h1
        · simp [Array.getElem?_eq_none h'] at h1
      have h2:=stepI_put hoj (hfree j oj hoj hji hjun hnot) hy h1
      have hfree' : ∀ k ok,ops[k]? = some ok → k ≠ i → (listed.setIfInBounds j true).getD k true = false →
          (∀ e ∈ ok.after,Region.binds .any e = true → e.on ≠ i) → oi.apart ops ok = true:=fun k ok hk hki hun hno=>by
        refine hfree k ok hk hki ?_ hno
        by_cases hjk : j = k
        · subst hjk; exact hjun
        · rw [getD_set_ne true hjk] at hun; exact hun
      refine stepI_mono hI (fun E' A' hI' h3=>ih (listed.setIfInBounds j true) E' A' hI' hfree' (ready_mono hr (Ne.symm hji)) h3.1 ?_) h2
      rw [Array.setIfInBounds_comm _ _ hji]
      exact h3.2
inductive SchI where
  | done
  | stop
  | or (i : Nat) (s t : SchI)
  | pur (i : Nat) (s : SchI)
def SchI.dep : SchI → Nat
  | .done=>0
  | .stop=>0
  | .or _ s t=>max (s.dep + 1) t.dep
  | .pur _ s=>s.dep + 1
def okI (ops : Array Oper) : SchI → List Nat → Array Bool → Bool
  | .done,ex,listed=>(Region.ready .any ops listed).isEmpty && ex.isEmpty
  | .stop,ex,listed=>(Region.ready .any ops listed).all (fun i=>ex.contains i) && !ex.isEmpty
  | .or i s t,ex,listed=>(Region.ready .any ops listed).contains i && okI ops s [] (listed.setIfInBounds i true) && okI ops t (i :: ex) listed
  | .pur i s,ex,listed=>ex.isEmpty && (Region.ready .any ops listed).contains i && Region.free .any ops listed i && okI ops s [] (listed.setIfInBounds i true)
def wpPur (P : Program) (own : FuncId → Bool) (N : Nat) (ops : Array Oper) (I : List Box → Prop) (i : Nat) (e e' : Env) : Prop :=
  ∀ A,I A → wpO P own N ops (fun e'' A'=>e'' = e' ∧ A' = A) ((ops.toList.drop i).take 1) e A
def wpI (P : Program) (own : FuncId → Bool) (N : Nat) (ops : Array Oper) (I : List Box → Prop) (Q : Env → List Box → Prop) : SchI → Env → List Box → Prop
  | .done,e,A=>Q e A
  | .stop,_,_=>True
  | .or i s t,e,A=>wpO P own N ops (fun e A=>I A ∧ wpI P own N ops I Q s e A) ((ops.toList.drop i).take 1) e A ∧ wpI P own N ops I Q t e A
  | .pur i s,e,A=>∃ o v,((ops.toList.drop i).take 1) = [o] ∧ (wantA ops o e = some true ∧ ∀ A,I A → OpK P own o (o.op.operands.toList.map (evA e)) A (fun v' A'=>v' = v ∧ A' = A)) ∧ wpI P own N ops I Q s (putA N o.dst v e) A
theorem one_op {i : Nat} {o : Oper} (hoi : ops[i]? = some o) : (ops.toList.drop i).take 1 = [o]:=by
  have hil : i < ops.size:=(Array.getElem?_eq_some_iff.1 hoi).1
  have hoe : ops.toList[i]? = some o:=by simpa using hoi
  have hl : i < ops.toList.length:=by simpa using hil
  rw [List.drop_eq_getElem_cons hl]
  have : ops.toList[i] = o:=by rw [List.getElem?_eq_getElem hl] at hoe; exact Option.some.inj hoe
  rw [this]; rfl
theorem wpI_any {N : Nat} {Q : Env → List Box → Prop} (hN : dstOk N ops = true) : ∀ (s : SchI),
    (∀ (fuel : Nat) (listed : Array Bool) (e : Env) (A : List Box),I A → s.dep ≤ fuel → okI ops s [] listed = true → wpI P own N ops I Q s e A →
      wpAnyI P own ops I (fun E A=>∃ e,Q e A ∧ E = fun t=>look t e) fuel listed (fun t=>look t e) A) ∧
    (∀ (fuel : Nat) (ex : List Nat) (listed : Array Bool) (e : Env) (A : List Box),I A → ex ≠ [] → s.dep ≤ fuel + 1 → okI ops s ex listed = true → wpI P own N ops I Q s e A →
      ∀ j ∈ Region.ready .any ops listed,j ∉ ex → stepI P own ops I j (wpAnyI P own ops I (fun E A=>∃ e,Q e A ∧ E = fun t=>look t e) fuel (listed.setIfInBounds j true)) (fun t=>look t e) A):=by
  intro s
  induction s with
  | done =>
    refine ⟨fun fuel listed e A hI hd ho h=>?_,fun fuel ex listed e A hI hx hd ho h=>?_⟩
    · simp only [okI,Bool.and_eq_true,List.isEmpty_iff] at ho
      cases fuel with
      | zero=>exact ⟨ho.1,e,h,rfl⟩
      | succ f=>exact ⟨fun _=>⟨e,h,rfl⟩,fun i hi=>by rw [ho.1] at hi; cases hi⟩
    · simp only [okI,Bool.and_eq_true,List.isEmpty_iff] at ho
      exact absurd ho.2 hx
  | stop =>
    refine ⟨fun fuel listed e A hI hd ho h=>?_,fun fuel ex listed e A hI hx hd ho h j hj hjx=>?_⟩
    · simp [okI] at ho
    · simp only [okI,Bool.and_eq_true,List.all_eq_true] at ho
      exact absurd (by simpa using ho.1 j hj) hjx
  | pur i s ih =>
    refine ⟨fun fuel listed e A hI hd ho h=>?_,fun fuel ex listed e A hI hx hd ho h=>?_⟩
    · simp only [okI,Bool.and_eq_true] at ho
      obtain ⟨⟨⟨_,hr⟩,hf⟩,hok⟩:=ho
      have hrm : i ∈ Region.ready .any ops listed:=by simpa using hr
      obtain ⟨_,o,hoi,_⟩:=mem_ready.1 hrm
      obtain ⟨o',v,h1,⟨h2,h3⟩,h4⟩:=h
      rw [one_op hoi] at h1
      obtain rfl : o = o':=by simpa using h1
      cases fuel with
      | zero=>simp [SchI.dep] at hd
      | succ f =>
        have hput : putF o.dst v (fun t=>look t e) = fun t=>look t (putA N o.dst v e):=by
          funext t; exact (look_putA (dstOk_spec hN hoi)).symm
        have hev : evF (fun t=>look t e) = evA e:=by funext x; cases x <;> rfl
        refine wpAnyI_first hoi f listed _ A hI (Region.free_spec hoi hf) hrm (v:=v) (.inl ⟨h2,fun A hI=>by rw [hev]; exact h3 A hI⟩) ?_
        rw [hput]
        exact ih.1 f _ _ A hI (by simp only [SchI.dep] at hd; omega) hok h4
    · simp only [okI,Bool.and_eq_true,List.isEmpty_iff] at ho
      exact absurd ho.1.1.1 hx
  | or i s t ihs iht =>
    have B : ∀ (fuel : Nat) (ex : List Nat) (listed : Array Bool) (e : Env) (A : List Box),I A → (SchI.or i s t).dep ≤ fuel + 1 → okI ops (.or i s t) ex listed = true → wpI P own N ops I Q (.or i s t) e A →
      ∀ j ∈ Region.ready .any ops listed,j ∉ ex → stepI P own ops I j (wpAnyI P own ops I (fun E A=>∃ e,Q e A ∧ E = fun t=>look t e) fuel (listed.setIfInBounds j true)) (fun t=>look t e) A:=by
      intro fuel ex listed e A hI hd ho h j hj hjx
      simp only [okI,Bool.and_eq_true] at ho
      obtain ⟨⟨hr,hs⟩,ht⟩:=ho
      simp only [SchI.dep] at hd
      by_cases hji : j = i
      · subst hji
        obtain ⟨_,o,hoi,_⟩:=mem_ready.1 hj
        have h1:=h.1
        rw [one_op hoi] at h1
        have hev : evF (fun t=>look t e) = evA e:=by funext x; cases x <;> rfl
        have hwt : wantF ops o (fun t=>look t e) = wantA ops o e:=rfl
        have hput : ∀ v,putF o.dst v (fun t=>look t e) = fun t=>look t (putA N o.dst v e):=fun v=>by
          funext t; exact (look_putA (dstOk_spec hN hoi)).symm
        unfold stepI
        simp only [hoi,hwt]
        simp only [wpO] at h1
        split at h1
        · exact h1.elim
        · rename_i b hb
          rw [hb]
          cases b with
          | true =>
            simp only []
            rw [hev]
            refine OpK_mono (h1.1 rfl) fun v A' h5=>⟨h5.1,?_⟩
            rw [hput]
            exact ihs.1 fuel _ _ _ h5.1 (by omega) hs h5.2
          | false =>
            show wpAnyI P own ops I _ fuel _ (putF o.dst (.tuple []) _) A
            rw [hput]
            exact ihs.1 fuel _ _ _ hI (by omega) hs (h1.2 rfl).2
      · exact iht.2 fuel (i :: ex) listed e A hI (by simp) (by omega) ht h.2 j hj (by simp [hji,hjx])
    refine ⟨fun fuel listed e A hI hd ho h=>?_,fun fuel ex listed e A hI hx hd ho h=>B fuel ex listed e A hI hd ho h⟩
    cases fuel with
    | zero=>simp only [SchI.dep] at hd; omega
    | succ f =>
      refine ⟨fun h0=>?_,fun j hj=>B f [] listed e A hI hd ho h j hj (by simp)⟩
      simp only [okI,Bool.and_eq_true] at ho
      have : i ∈ Region.ready .any ops listed:=by simpa using ho.1.1
      rw [h0] at this; cases this
theorem wpI_ok {N base id : Nat} {Q : Env → List Box → Prop} {Q' : Exit → Act → World → Prop} {G0 : Ghost} {w0 : World} {e : Env} {A : List Box} {a : Act} {w : World} {G : Ghost} (s : SchI) (hm : P.follows .mixedOrders = true) (hN : dstOk N ops = true)
    (hs : okI ops s [] (Array.replicate ops.size false) = true) (hd : s.dep ≤ ops.size) (hI : I A)
    (hQ : ∀ e A a w G,Q e A → ARel N base G e A a w → Ext G0 w0 G w → Below base w0 w → Q' .normal a w) (h : wpI P own N ops I Q s e A) (hr : ARel N base G e A a w) (he : Ext G0 w0 G w) (hbel : Below base w0 w) :
    (Code.region id ops true).wp P Q' a w:=by
  obtain ⟨k1,k2⟩:=hr.heap.heap (w':={ w with drawn:=w.drawn + 1 }) rfl
  have hbd : Below base w { w with drawn:=w.drawn + 1 }:=(Below.refl base w).drew
  refine wp_region_any hm ?_
  have h1:=wpAnyI_X _ _ _ _ ((wpI_any hN s).1 ops.size (Array.replicate ops.size false) e A hI hd hs h)
  exact wpAny_of_X hN (fun E A a w G hq hr he hbl=>by
    obtain ⟨e',hq,rfl⟩:=hq
    exact hQ e' A a w G hq ⟨hr.defers,hr.size,hr.env,hr.heap⟩ he hbl) ops.size (Array.replicate ops.size false) (a:=a) (w:={ w with drawn:=w.drawn + 1 }) (G:=G)
    ⟨hr.defers,hr.size,fun t=>(hr.env t).mono k2,k1⟩ (he.trans k2) (hbel.trans hbd) h1
end
end Go.Abs
/- Code, loops, functions. -/
namespace Go.Abs
open Go.RowKit
def AThen (next : Env → List Box → Prop) (Q : Exit → Env → List Box → Prop) : Exit → Env → List Box → Prop
  | .normal,e,A=>next e A
  | x,e,A=>Q x e A
def ABlk (id : Nat) (Q : Exit → Env → List Box → Prop) : Exit → Env → List Box → Prop
  | .exit j,e,A=>if j = id then Q .normal e A else Q (.exit j) e A
  | x,e,A=>Q x e A
def ALoop (body : (Exit → Env → List Box → Prop) → Env → List Box → Prop) (Q : Exit → Env → List Box → Prop) (e : Env) (A : List Box) : Prop :=
  ∃ (vs : List Nat) (I : Env → List Box → Prop) (μ : Env → List Box → Nat),I (keep vs e) A ∧
    ∀ e A,I e A → body (AThen (fun e' A'=>I (keep vs e') A' ∧ μ (keep vs e') A' < μ e A) Q) e A
structure Cfg where
  own : FuncId → Bool
  N : Nat
  vs : List Nat
def DrawS (P : Program) (c : Cfg) (ops : Array Oper) (Q : Exit → Env → List Box → Prop) (e : Env) (A : List Box) : Prop :=
  ∃ ns : List Nat,dstOk c.N ops = true ∧ Region.lexB .any ops = true ∧ sepB ops (segIdx 0 ns) = true ∧ (∀ j ∈ segIdx 0 ns,j < ops.size) ∧ wpS P c.own c.N ops (fun e A=>Q .normal (keep c.vs e) A) ns ops.toList e A
def chkM (N : Nat) (ops : Array Oper) (T : Ranks) (m n : Nat) (ns : List Nat) (s : Sch) : Bool :=
  (dstOk N ops && lexN ops n 0 (Array.replicate ops.size false) && rankB ops T m && backB ops && endN ops T m n) && (sepB ops (segIdx 0 ns) && effB T (segIdx 0 ns) && ((segIdx 0 ns).all fun j=>decide (j < n)) && preB ops n) &&
    ((Region.ready .any ops (setN n 0 (Array.replicate ops.size false)) == s.firsts) && okS ops s (setN n 0 (Array.replicate ops.size false)) && decide (n + s.dep ≤ ops.size))
def chkI (N : Nat) (ops : Array Oper) (s : SchI) : Bool:=dstOk N ops && okI ops s [] (Array.replicate ops.size false) && decide (s.dep ≤ ops.size)
def DrawM (P : Program) (c : Cfg) (ops : Array Oper) (Q : Exit → Env → List Box → Prop) (e : Env) (A : List Box) : Prop :=
  (∃ (ns : List Nat) (s : Sch) (T : Ranks) (As : Nat → List Box) (m n : Nat),chkM c.N ops T m n ns s = true ∧ As 0 = A ∧
    wpM P c.own c.N ops T m (fun e A=>wpY P c.own c.N ops (fun e A=>Q .normal (keep c.vs e) A) s e A) ns 0 (ops.toList.take n) e As) ∨
  ∃ (s : SchI) (I : List Box → Prop),chkI c.N ops s = true ∧ I A ∧ wpI P c.own c.N ops I (fun e A=>Q .normal (keep c.vs e) A) s e A
def DrawE (P : Program) (c : Cfg) (ops : Array Oper) (Q : Exit → Env → List Box → Prop) (e : Env) (A : List Box) : Prop :=
  DrawS P c ops Q e A ∨ DrawM P c ops Q e A ∨ ∃ (T : Ranks) (As : Nat → List Box) (m : Nat),dstOk c.N ops = true ∧ Region.lexB .any ops = true ∧ rankB ops T m = true ∧ backB ops = true ∧ endB ops T m = true ∧ As 0 = A ∧
    wpE P c.own c.N ops T As (fun e=>Q .normal (keep c.vs e) (As m)) 0 ops.toList e
def wpc (P : Program) (c : Cfg) : Code → (Exit → Env → List Box → Prop) → Env → List Box → Prop
  | .skip,Q,e,A=>Q .normal e A
  | .label _,Q,e,A=>Q .normal e A
  | .region _ ops false,Q,e,A=>wpO P c.own c.N ops (fun e A=>Q .normal (keep c.vs e) A) ops.toList e A
  | .region _ ops true,Q,e,A=>(dstOk c.N ops = true ∧ Region.lexB .any ops = true ∧ wpD P c.own c.N ops A (fun e=>Q .normal (keep c.vs e) A) ops.toList e) ∨ DrawE P c ops Q e A
  | .seq x y,Q,e,A=>wpc P c x (AThen (wpc P c y Q) Q) e A
  | .cond b x y,Q,e,A=>match evA e b with
    | .bool t=>(t = true → wpc P c x Q e A) ∧ (t = false → wpc P c y Q e A)
    | _=>False
  | .block id x,Q,e,A=>wpc P c x (ABlk id Q) e A
  | .loop x,Q,e,A=>ALoop (fun Q e A=>wpc P c x Q e A) Q e A
  | .exit id,Q,e,A=>Q (.exit id) e A
  | .ret,Q,e,A=>Q .ret e A
  | _,_,_,_=>False
theorem wp_loop_along {γ : Type} {P : Program} {Q : Exit → Act → World → Prop} {c : Code} (I : γ → Act → World → Prop) (μ : γ → Nat)
    (round : ∀ g a w,I g a w → c.wp P (Exit.then (fun a' w'=>∃ g',I g' a' w' ∧ μ g' < μ g) Q) a w) {g : γ} {a : Act} {w : World} (h₀ : I g a w) : (Code.loop c).wp P Q a w:=by
  intro b k cs
  have key : ∀ n g a w,μ g = n → I g a w →
      ∃ e a' w',Q e a' w' ∧ Arrives P (lone (b.at a (.code c :: .inLoop c :: k)) cs w) b k cs e a' w':=by
    intro n
    induction n using Nat.strongRecOn with
    | _ n ih =>
      intro g a w hn hI
      obtain ⟨e,a₁,w₁,hq,harr⟩:=round g a w hI b (.inLoop c :: k) cs
      cases e with
      | normal =>
        obtain ⟨g₁,hI₁,hlt⟩:=hq
        obtain ⟨e₂,a₂,w₂,hq₂,harr₂⟩:=ih (μ g₁) (hn ▸ hlt) g₁ a₁ w₁ rfl hI₁
        exact ⟨e₂,a₂,w₂,hq₂,.of_steps (Steps.trans harr (.one step_inLoop)) harr₂⟩
      | exit id=>exact ⟨_,a₁,w₁,hq,.pass (x:=.inLoop c) rfl (fun _ _=>.inl (by simp)) harr⟩
      | goto l=>exact ⟨_,a₁,w₁,hq,.pass (x:=.inLoop c) rfl (fun _ _=>.inl (by simp)) harr⟩
      | ret=>exact ⟨_,a₁,w₁,hq,.pass (x:=.inLoop c) rfl (fun _ _=>.inl (by simp)) harr⟩
      | panic ch=>exact ⟨_,a₁,w₁,hq,.pass (x:=.inLoop c) rfl (fun _ _=>.inl (by simp)) harr⟩
      | outgrown=>exact ⟨_,a₁,w₁,hq,.pass (x:=.inLoop c) rfl (fun _ _=>.inl (by simp)) harr⟩
  obtain ⟨e,a',w',hq,harr⟩:=key _ g a w rfl h₀
  exact ⟨e,a',w',hq,.of_steps (.one step_loop) harr⟩
theorem ARel.keep {N base : Nat} {G : Ghost} {e : Env} {A : List Box} {a : Act} {w : World} {vs : List Nat} (h : ARel N base G e A a w) : ARel N base G (keep vs e) A a w:=⟨h.defers,h.size,h.env.keep,h.heap⟩
theorem wpc_ok {P : Program} {cf : Cfg} {base : Nat} (hm : P.follows .mixedOrders = true) : ∀ (c : Code) {Q : Exit → Env → List Box → Prop} {e : Env} {A : List Box} {a : Act} {w : World} {G G0 : Ghost} {w0 : World},
    wpc P cf c Q e A → ARel cf.N base G e A a w → Ext G0 w0 G w → Below base w0 w → c.wp P (APost cf.N base G0 w0 Q) a w:=by
  intro c
  induction c with
  | skip=>exact fun h hr he hb=>wp_skip ⟨_,_,_,h,hr,he,hb⟩
  | label l=>exact fun h hr he hb=>wp_label ⟨_,_,_,h,hr,he,hb⟩
  | region id ops draw =>
    intro Q e A a w G G0 w0 h hr he hb
    cases draw with
    | false =>
      refine wp_region ?_
      have:=wpO_ok (Q':=APost cf.N base G0 w0 Q) (fun e A a w G hq hr he hb=>⟨_,_,_,hq,hr.keep,he,hb⟩) ops.toList 0 (by simp) h hr he hb
      have hl : List.range' 0 ops.toList.length = List.range ops.size:=by simp [List.range_eq_range']
      rwa [hl] at this
    | true =>
      rcases h with ⟨h1,h2,h3⟩ | ⟨ns,h1,h2,h3,h4,h5⟩ | (⟨ns,s,T,As,m,n,hc,rfl,h9⟩ | ⟨s,I,hc,hI,h9⟩) | ⟨T,As,m,h1,h2,h3,h4,h5,rfl,h6⟩
      · exact wpD_ok hm h1 h2 (fun e a w G hq hr he hb=>⟨_,_,_,hq,hr.keep,he,hb⟩) h3 hr he hb
      · exact wpS_ok ns hm h1 h2 h3 h4 (fun e A a w G hq hr he hb=>⟨_,_,_,hq,hr.keep,he,hb⟩) h5 hr he hb
      · simp only [chkM,Bool.and_eq_true,decide_eq_true_eq] at hc
        obtain ⟨⟨⟨⟨⟨⟨h1,h2⟩,h3⟩,h4⟩,h5⟩,⟨⟨h6,h7⟩,h8⟩,h10⟩,⟨h11,h12⟩,h13⟩:=hc
        exact wpM_ok ns s hm h1 h2 h3 h4 h5 h6 h7 (fun j hj=>by simpa using List.all_eq_true.1 h8 j hj) h10 h11 h12 h13 (fun e A a w G hq hr he hb=>⟨_,_,_,hq,hr.keep,he,hb⟩) h9 hr he hb
      · simp only [chkI,Bool.and_eq_true,decide_eq_true_eq] at hc
        exact wpI_ok s hm hc.1.1 hc.1.2 hc.2 hI (fun e A a w G hq hr he hb=>⟨_,_,_,hq,hr.keep,he,hb⟩) h9 hr he hb
      · exact wpE_ok hm h1 h2 h3 h4 h5 (fun e a w G hq hr he hb=>⟨_,_,_,hq,hr.keep,he,hb⟩) h6 hr he hb
  | seq x y ihx ihy =>
    intro Q e A a w G G0 w0 h hr he hb
    refine wp_seq (wp_mono (ihx h hr he hb) fun x a w hp=>?_)
    obtain ⟨e',A',G',hq,hr',he',hb'⟩:=hp
    cases x with
    | normal=>exact ihy hq hr' he' hb'
    | _=>exact ⟨e',A',G',hq,hr',he',hb'⟩
  | cond b x y ihx ihy =>
    intro Q e A a w G G0 w0 h hr he hb
    simp only [wpc] at h
    split at h
    · rename_i t ht
      have hv:=evA_ok hr.env b
      rw [ht] at hv
      have hb' : a.eval b = .bool t:=by
        generalize a.eval b = q at hv
        cases hv; rfl
      refine wp_cond hb' ?_
      cases t with
      | true=>exact ihx (h.1 rfl) hr he hb
      | false=>exact ihy (h.2 rfl) hr he hb
    · exact h.elim
  | block id x ih =>
    intro Q e A a w G G0 w0 h hr he hb
    refine wp_block (wp_mono (ih h hr he hb) fun x a w hp=>?_)
    obtain ⟨e',A',G',hq,hr',he',hb'⟩:=hp
    cases x with
    | exit j =>
      simp only [ABlk] at hq
      simp only [Exit.inBlock]
      split <;> rename_i hj
      · rw [if_pos hj] at hq; exact ⟨e',A',G',hq,hr',he',hb'⟩
      · rw [if_neg hj] at hq; exact ⟨e',A',G',hq,hr',he',hb'⟩
    | _=>exact ⟨e',A',G',hq,hr',he',hb'⟩
  | loop x ih =>
    intro Q e A a w G G0 w0 h hr he hb
    obtain ⟨vs,I,μ,h0,hround⟩:=h
    refine wp_loop_along (γ:=Env × List Box) (fun g a w=>I g.1 g.2 ∧ ∃ G,ARel cf.N base G g.1 g.2 a w ∧ Ext G0 w0 G w ∧ Below base w0 w) (fun g=>μ g.1 g.2) (fun g a w hI=>?_) (g:=(keep vs e,A)) ⟨h0,G,hr.keep,he,hb⟩
    obtain ⟨hI,G1,hr1,he1,hb1⟩:=hI
    refine wp_mono (ih (hround g.1 g.2 hI) hr1 he1 hb1) fun x a w hp=>?_
    obtain ⟨e',A',G',hq,hr',he',hb'⟩:=hp
    cases x with
    | normal=>exact ⟨(keep vs e',A'),⟨hq.1,G',hr'.keep,he',hb'⟩,hq.2⟩
    | _=>exact ⟨e',A',G',hq,hr',he',hb'⟩
  | exit id=>exact fun h hr he hb=>wp_exit ⟨_,_,_,h,hr,he,hb⟩
  | ret=>exact fun h hr he hb=>wp_ret ⟨_,_,_,h,hr,he,hb⟩
  | _=>exact fun h=>(by simp [wpc] at h)
inductive Low (n : Nat) : AV → Prop
  | bot : Low n .bot
  | int (k : IntKind) (i : Int) : Low n (.int k i)
  | bool (b : Bool) : Low n (.bool b)
  | str (s : List UInt8) : Low n (.str s)
  | agg (cs : List AV) (h : ∀ c ∈ cs,Low n c) : Low n (.agg cs)
  | tuple (cs : List AV) (h : ∀ c ∈ cs,Low n c) : Low n (.tuple cs)
  | slice (r : List (List AV)) : Low n (.slice r)
  | own (i : Nat) (h : i < n) : Low n (.own i)
  | nils : Low n .nils
  | ptr (i o : Nat) (h : i < n) : Low n (.ptr i o)
  | eptr (i k j : Nat) (h : i < n) : Low n (.eptr i k j)
  | vptr (cs : List AV) : Low n (.vptr cs)
  | nilp : Low n .nilp
  | func (fn : Fn) (f c : List AV) (h : ∀ x ∈ f,Low n x) (h' : ∀ x ∈ c,Low n x) : Low n (.func fn f c)
  | nilf : Low n .nilf
  | iface (t : TypeId) (v : AV) : Low n (.iface t v)
  | nili : Low n .nili
  | map (i : Nat) (h : i < n) : Low n (.map i)
  | nilm : Low n .nilm
  | ifp (t : TypeId) (i o : Nat) (h : i < n) : Low n (.ifp t i o)
  | ifx (t : TypeId) (v : AV) (h : Low n v) : Low n (.ifx t v)
  | aslice (r : List (List AV)) : Low n (.aslice r)
  | islice (b o : Nat) (r : List (List AV)) : Low n (.islice b o r)
  | ivptr (b o : Nat) (cs : List AV) : Low n (.ivptr b o cs)
theorem getD_of_mem {α : Type} {l : List α} {x d : α} (h : x ∈ l) : ∃ i,i < l.length ∧ l.getD i d = x:=by
  obtain ⟨i,hi,rfl⟩:=List.getElem_of_mem h
  exact ⟨i,hi,by simp [List.getD,hi]⟩
theorem RV.low {G : Ghost} {w : World} {v : AV} {x : Value} (h : RV G w v x) : Low G.n v:=by
  induction h with
  | agg cs xs hs hc h ih=>exact .agg cs fun c hc=>by obtain ⟨i,hi,rfl⟩:=getD_of_mem (d:=.bot) hc; exact ih i hi
  | tuple cs xs hs h ih=>exact .tuple cs fun c hc=>by obtain ⟨i,hi,rfl⟩:=getD_of_mem (d:=.bot) hc; exact ih i hi
  | slice0=>exact .slice []
  | sliceE a cap=>exact .slice []
  | slice rows=>exact .slice rows
  | aslice0=>exact .aslice []
  | asliceE a cap=>exact .aslice []
  | aslice rows=>exact .aslice rows
  | islice rows b off=>exact .islice b off rows
  | ivptr cs b off=>exact .ivptr b off cs
  | own i hi=>exact .own i hi
  | ptr i o hi=>exact .ptr i o hi
  | eptr i k j hi=>exact .eptr i k j hi
  | ifp t i o hi=>exact .ifp t i o hi
  | ifx t v x h ih=>exact .ifx t v ih
  | vptr cs=>exact .vptr cs
  | func fn first captured xs ys hs ht h h' ih ih' =>
    exact .func fn first captured (fun c hc=>by obtain ⟨i,hi,rfl⟩:=getD_of_mem (d:=.bot) hc; exact ih i hi) (fun c hc=>by obtain ⟨i,hi,rfl⟩:=getD_of_mem (d:=.bot) hc; exact ih' i hi)
  | iface t v=>exact .iface t v
  | map i hi=>exact .map i hi
  | _=>constructor
theorem leaf_low {n : Nat} {v : AV} (h : isLeaf v = true) : Low n v:=by
  cases v <;> simp [isLeaf] at h <;> try (constructor; done)
  case func fn f c =>
    cases f <;> cases c <;> simp [isLeaf] at h
    exact .func fn [] [] (by simp) (by simp)
theorem whole_low {n : Nat} {v : AV} (h : isWhole v = true) : Low n v:=by
  cases v with
  | agg cs=>exact .agg cs fun c hc=>leaf_low (by simp only [isWhole,List.all_eq_true] at h; exact h c hc)
  | _=>exact leaf_low (by simpa [isWhole] using h)
theorem closedY_low {n : Nat} {v : AV} (h : closedY n v = true) : Low n v:=by
  cases v <;> simp [closedY] at h <;> try (constructor; done)
  case map i=>exact .map i h
  case ptr i o=>exact .ptr i o h
theorem closedX_low {n : Nat} {v : AV} (h : closedX n v = true) : Low n v:=by
  cases v with
  | agg cs=>exact .agg cs fun c hc=>closedY_low (by simp only [closedX,List.all_eq_true] at h; exact h c hc)
  | _=>exact closedY_low (by simpa [closedX] using h)
theorem closed1_low {n : Nat} {v : AV} (h : closed1 n v = true) : Low n v:=by
  cases v <;> simp [closed1] at h <;> try (constructor; done)
  case own i=>exact .own i h
  case ptr i o=>exact .ptr i o h
  case eptr i k j=>exact .eptr i k j h
  case map i=>exact .map i h
  case ifp t i o=>exact .ifp t i o h
  case ifx t v=>exact .ifx t v (closedX_low h)
  case func fn f c =>
    cases f <;> cases c <;> simp [closed1] at h
    exact .func fn [] [] (by simp) (by simp)
theorem closed2_low {n : Nat} {v : AV} (h : closed2 n v = true) : Low n v:=by
  cases v with
  | agg cs=>exact .agg cs fun c hc=>closed1_low (by simp only [closed2,List.all_eq_true] at h; exact h c hc)
  | func fn f c =>
    simp only [closed2,Bool.and_eq_true,List.all_eq_true] at h
    exact .func fn f c (fun x hx=>closed1_low (h.1 x hx)) (fun x hx=>closed1_low (h.2 x hx))
  | _=>exact closed1_low (by simpa [closed2] using h)
theorem closed_low {n : Nat} {v : AV} (h : closed n v = true) : Low n v:=by
  cases v with
  | tuple cs=>exact .tuple cs fun c hc=>closed2_low (by simp only [closed,List.all_eq_true] at h; exact h c hc)
  | _=>exact closed2_low (by simpa [closed] using h)
theorem RV.cutL {G : Ghost} {w : World} (n : Nat) {v : AV} {x : Value} (h : RV G w v x) : Low n v → RV (G.cut n) w v x:=by
  induction h with
  | bot x=>intro _; exact .bot x
  | int k n=>intro _; exact .int k n
  | bool b=>intro _; exact .bool b
  | str s=>intro _; exact .str s
  | agg cs xs hs hc h ih=>intro hk; cases hk with | agg _ hk=>exact .agg cs xs hs hc fun i hi=>ih i hi (hk _ (getD_mem hi))
  | tuple cs xs hs h ih=>intro hk; cases hk with | tuple _ hk=>exact .tuple cs xs hs fun i hi=>ih i hi (hk _ (getD_mem hi))
  | slice0=>intro _; exact .slice0
  | sliceE a cap=>intro _; exact .sliceE a cap
  | slice rows b off cap sz X hr hcap hx hI hz h ih=>intro _; exact .slice rows b off cap sz X hr hcap hx hI hz fun i j hi hj=>ih i j hi hj (leaf_low (rowAt_mem hr hi hj))
  | aslice0=>intro _; exact .aslice0
  | asliceE a cap=>intro _; exact .asliceE a cap
  | aslice rows b off cap sz X hr hcap hx hI h ih=>intro _; exact .aslice rows b off cap sz X hr hcap hx hI fun i j hi hj=>ih i j hi hj (leaf_low (rowAt_mem hr hi hj))
  | islice rows b off cap sz X hr hcap hx hI hz hs hl h ih=>intro _; exact .islice rows b off cap sz X hr hcap hx hI hz hs hl fun i j hi hj=>ih i j hi hj (leaf_low (rowAt_mem hr hi hj))
  | ivptr cs b off X hl hn hx hI hz h ih=>intro _; exact .ivptr cs b off X hl hn hx hI hz fun j hj=>ih j hj (leaf_low (hl _ (getD_mem hj)))
  | own i hi=>intro hk; cases hk with | own _ hk=>exact .own (G:=G.cut n) i hk
  | nils=>intro _; exact .nils
  | ptr i o hi=>intro hk; cases hk with | ptr _ _ hk=>exact .ptr (G:=G.cut n) i o hk
  | eptr i k j hi=>intro hk; cases hk with | eptr _ _ _ hk=>exact .eptr (G:=G.cut n) i k j hk
  | vptr cs b off X hl hx hI h ih=>intro _; exact .vptr cs b off X hl hx hI fun j hj=>ih j hj (leaf_low (hl _ (getD_mem hj)))
  | nilp=>intro _; exact .nilp
  | func fn first captured xs ys hs ht h h' ih ih' =>
    intro hk; cases hk with | func _ _ _ k1 k2=>exact .func fn first captured xs ys hs ht (fun i hi=>ih i hi (k1 _ (getD_mem hi))) (fun i hi=>ih' i hi (k2 _ (getD_mem hi)))
  | nilf=>intro _; exact .nilf
  | iface t v x hv h ih=>intro _; exact .iface t v x hv (ih (whole_low hv))
  | nili=>intro _; exact .nili
  | map i hi=>intro hk; cases hk with | map _ hk=>exact .map (G:=G.cut n) i hk
  | nilm=>intro _; exact .nilm
  | ifp t i o hi=>intro hk; cases hk with | ifp _ _ _ hk=>exact .ifp (G:=G.cut n) t i o hk
  | ifx t v x h ih=>intro hk; cases hk with | ifx _ _ hk=>exact .ifx t v x (ih hk)
def BoxLow (n : Nat) : Box → Prop
  | .cells cs=>∀ c ∈ cs,Low n c
  | .tc _ cs=>∀ c ∈ cs,Low n c
  | .gr _ _ rows=>∀ r ∈ rows,∀ c ∈ r,Low n c
  | .mapb es=>∀ e ∈ es,Low n e.1 ∧ Low n e.2
  | _=>True
theorem boxClosed_low {n : Nat} {b : Box} (h : boxClosed n b = true) : BoxLow n b:=by
  cases b with
  | cells cs=>exact fun c hc=>closed1_low (by simp only [boxClosed,List.all_eq_true] at h; exact h c hc)
  | tc T cs=>exact fun c hc=>closed1_low (by simp only [boxClosed,List.all_eq_true] at h; exact h c hc)
  | gr te sz rows=>exact fun r hr c hc=>closed1_low (by simp only [boxClosed,List.all_eq_true] at h; exact h r hr c hc)
  | mapb es =>
    intro e he
    simp only [boxClosed,List.all_eq_true,Bool.and_eq_true] at h
    exact ⟨closed2_low (h e he).1,closed2_low (h e he).2⟩
  | _=>trivial
theorem HRel.low' {G : Ghost} {A : List Box} {w : World} {base : Nat} (h : HRel G A w base) (i : Nat) (hi : i < A.length) : BoxLow A.length (A.getD i .dead):=by
  have hb:=h.box i hi
  cases hq : A.getD i .dead with
  | cells cs =>
    rw [hq] at hb
    obtain ⟨c,el,h1,h3,h4,h5,h6⟩:=hb
    intro x hx
    obtain ⟨j,hj,rfl⟩:=getD_of_mem (d:=.bot) hx
    rw [← h.n]; exact (h5 j hj).low
  | tc T cs =>
    rw [hq] at hb
    obtain ⟨c,h1,h3,h4,h5,h6⟩:=hb
    intro x hx
    obtain ⟨j,hj,rfl⟩:=getD_of_mem (d:=.bot) hx
    rw [← h.n]; exact (h5 j hj).low
  | gr te sz rows =>
    rw [hq] at hb
    obtain ⟨⟨c,el,h1,h3,h4,h5,h6,h7,h8,h9,h10,h11⟩,ht⟩:=hb
    intro r hr x hx
    obtain ⟨k,hk,rfl⟩:=getD_of_mem (d:=[]) hr
    obtain ⟨j,hj,rfl⟩:=getD_of_mem (d:=.bot) hx
    rw [← h.n]; exact (h10 k j hk (by rw [← (h9 _ hr).1]; exact hj)).low
  | mapb es =>
    rw [hq] at hb
    obtain ⟨m,cl,h1,h3,h4,h5⟩:=hb
    intro x hx
    obtain ⟨j,hj,rfl⟩:=getD_of_mem (d:=(.bot,.bot)) hx
    rw [← h.n]; exact ⟨(h4 j hj).1.low,(h4 j hj).2.low⟩
  | _=>trivial
theorem HRel.cutL {G : Ghost} {A B : List Box} {w : World} {base : Nat} (h : HRel G (A ++ B) w base) (hc : ∀ i,i < A.length → BoxLow A.length (A.getD i .dead)) :
    HRel (G.cut A.length) A w base:=by
  have hlen : ∀ i,i < A.length → i < (A ++ B).length:=fun i hi=>by simp; omega
  refine ⟨rfl,fun i hi=>?_,fun i j hi hj hne li lj=>?_,fun i hi li=>?_,h.imm,h.low,h.gv⟩
  · have hb:=h.box i (hlen i hi)
    have hcl:=hc i hi
    rw [getD_append_left hi] at hb
    cases hbx : A.getD i .dead with
    | dead=>trivial
    | cells cs =>
      rw [hbx] at hb hcl
      obtain ⟨c,el,h1,h3,h4,h5,h6⟩:=hb
      exact ⟨c,el,h1,h3,h4,fun j hj=>(h5 j hj).cutL _ (hcl _ (getD_mem hj)),h6⟩
    | row sz rows s =>
      rw [hbx] at hb
      obtain ⟨c,el,h1,h3,h4,h5,h6,h7,h8,h9,h10,h11⟩:=hb
      exact ⟨c,el,h1,h3,h4,h5,h6,h7,h8,h9,fun k j hk hj=>(h10 k j hk hj).cutL _ (leaf_low (rowAt_mem h9 hk hj)),h11⟩
    | tc T cs =>
      rw [hbx] at hb hcl
      obtain ⟨c,h1,h3,h4,h5,h6⟩:=hb
      exact ⟨c,h1,h3,h4,fun j hj=>(h5 j hj).cutL _ (hcl _ (getD_mem hj)),h6⟩
    | gr te sz rows =>
      rw [hbx] at hb hcl
      obtain ⟨⟨c,el,h1,h3,h4,h5,h6,h7,h8,h9,h10,h11⟩,ht⟩:=hb
      refine ⟨⟨c,el,h1,h3,h4,h5,h6,h7,h8,h9,fun k j hk hj=>(h10 k j hk hj).cutL _ ?_,h11⟩,ht⟩
      have hm:=getD_mem (d:=[]) hk
      exact hcl _ hm _ (getD_mem (by have:=(h9 _ hm).1; omega))
    | mapb es =>
      rw [hbx] at hb hcl
      obtain ⟨m,cl,h1,h3,h4,h5⟩:=hb
      exact ⟨m,cl,h1,h3,fun j hj=>⟨(h4 j hj).1.cutL _ (hcl _ (getD_mem hj)).1,(h4 j hj).2.cutL _ (hcl _ (getD_mem hj)).2⟩,h5⟩
  · exact h.sep i j (hlen i hi) (hlen j hj) hne (by rw [getD_append_left hi]; exact li) (by rw [getD_append_left hj]; exact lj)
  · exact h.bnd i (hlen i hi) (by rw [getD_append_left hi]; exact li)
def entry (args : List AV) : Env:=args.zipIdx.map fun (v,i)=>(i,v)
def resCell (ti : TI) (cs : List AV) : Option AV :=
  match ti.kind with
  | .struct _=>if ti.size ≤ cs.length then some (.agg (cs.take ti.size)) else none
  | .other=>none
  | _=>if 0 < cs.length then some (cs.getD 0 .bot) else none
theorem resCell_load {ti : TI} {cs : List AV} {v : AV} (h : resCell ti cs = some v) : ∃ c,loadA ti cs = some (c,v) ∧ c:=by
  unfold resCell at h
  unfold loadA
  cases hk : ti.kind <;> simp only [hk] at h ⊢ <;> first
    | (split at h
       · injection h with h; subst h; exact ⟨_,rfl,‹_›⟩
       · cases h)
    | cases h
theorem loadVar_same {P : Program} {G : Ghost} {A : List Box} {w : World} {base : Nat} {t : TypeId} {ti : TI} {p v : AV} {x : Value} {cs : List AV} {c : Prop}
    (ht : tinf P t = some ti) (hc : cellsOf A p = some cs) (hl : loadA ti cs = some (c,v)) (hp : c) (h : HRel G A w base) (hx : RV G w p x) :
    ∃ a y,x = .pointer (some a) ∧ (loadVar t a).run P w = .ok y w ∧ RV G w v y:=by
  obtain ⟨i,d,h1,h2,h3,h4,h5,h6⟩:=tinf_spec ht
  obtain ⟨b,off,rfl,hcs⟩:=cellsOf_ok h hx hc
  refine ⟨⟨b,off,none⟩,?_⟩
  unfold loadA at hl
  have one : (0 < cs.length ∧ cs.getD 0 .bot = v) → isAggD d = false → ∃ y,Value.pointer (some ⟨b,off,none⟩) = .pointer (some ⟨b,off,none⟩) ∧ (loadVar t ⟨b,off,none⟩).run P w = .ok y w ∧ RV G w v y:=fun ⟨h7,h8⟩ hd=>by
    obtain ⟨y,hy,hv,_⟩:=hcs 0 h7
    rw [h8] at hv
    refine ⟨y,rfl,?_,hv⟩
    simp only [Nat.add_zero] at hy
    simp [loadVar,isAgg_run h2,hd,Result.andThen,hy]
  cases hd : d <;> simp only [h6,hd,tkOf] at hl <;> try (cases hl; done)
  case struct fs =>
    injection hl with hl; injection hl with hl1 hl2; subst hl1 hl2
    refine ⟨.agg ((List.range i.size).map fun j=>(w.cell? ⟨b,off + j,none⟩).getD undef).toArray,rfl,?_,.agg _ _ (by simp; omega) ?_ fun j hj=>?_⟩
    · simp only [loadVar]
      have:=run_loadCells (P:=P) w ⟨b,off,none⟩ i.size (fun j=>(w.cell? ⟨b,off + j,none⟩).getD undef) (fun j hj=>by
        obtain ⟨y,hy,_,_⟩:=hcs j (by omega)
        rw [Addr.add_lit,hy]; rfl)
      simp [isAgg_run h2,hd,isAggD,Result.andThen,sizeOf_run h1,this]
    · intro y hy
      simp only [List.mem_toArray,List.mem_map,List.mem_range] at hy
      obtain ⟨j,hj,rfl⟩:=hy
      obtain ⟨y,hy,_,h9⟩:=hcs j (by omega)
      simp [hy,h9]
    · simp only [List.length_take] at hj
      obtain ⟨y,hy,hv,h9⟩:=hcs j (by omega)
      rw [getD_take _ _ _ _ (by omega)]
      have : j < i.size:=by omega
      simpa [Array.getD,this,hy] using hv
  all_goals
    injection hl with hl; injection hl with hl1 hl2
    exact one ⟨hl1 ▸ hp,hl2⟩ (by rw [hd]; rfl)
def rvs (P : Program) (A : List Box) (e : Env) : List ResultVar → Option (List AV)
  | []=>some []
  | .tmp t :: l=>(rvs P A e l).map fun vs=>look t e :: vs
  | .cell a t :: l=>match tinf P t,cellsOf A (look a e) with
    | some ti,some cs=>match resCell ti cs with
      | some v=>(rvs P A e l).map fun vs=>v :: vs
      | none=>none
    | _,_=>none
def retVal (P : Program) (A : List Box) (rs : List ResultVar) (e : Env) : Option AV :=
  match rvs P A e rs with
  | some [v]=>some v
  | some vs=>some (.tuple vs)
  | none=>none
def frzT (v : AV) (A : List Box) : Option (AV × List Box) :=
  match v with
  | .tuple vs=>(frzs vs A).map fun x=>(.tuple x.1,x.2)
  | v=>frzC v A
def Outer (A0 A : List Box) : Prop:=A0.length ≤ A.length ∧ ∀ i,i < A0.length → A.getD i .dead = A0.getD i .dead ∨ boxClosed A0.length (A.getD i .dead) = true
def ARet (P : Program) (rs : List ResultVar) (A0 : List Box) (R : AV → List Box → Prop) : Exit → Env → List Box → Prop
  | .normal,e,A | .ret,e,A=>match retVal P A rs e with
    | some v=>match frzT v A with
      | some (v',A')=>closed A0.length v' = true ∧ Outer A0 A' ∧ R v' (A'.take A0.length)
      | none=>False
    | none=>False
  | _,_,_=>False
theorem look_zip (t : Nat) : ∀ (args : List AV) (k : Nat),look t ((args.zipIdx k).map fun (v,i)=>(i,v)) = if k ≤ t then args.getD (t - k) .bot else .bot
  | [],k=>by simp [look]
  | v :: args,k=>by
    simp only [List.zipIdx_cons,List.map_cons,look]
    have ih:=look_zip t args (k + 1)
    by_cases h : k = t
    · subst h; simp
    · rw [if_neg h,ih]
      by_cases h1 : k + 1 ≤ t
      · rw [if_pos h1,if_pos (by omega),show t - k = (t - (k + 1)) + 1 by omega]; simp
      · rw [if_neg h1]
        by_cases h2 : k ≤ t
        · omega
        · rw [if_neg h2]
theorem look_entry (t : Nat) (args : List AV) : look t (entry args) = args.getD t .bot:=by
  have:=look_zip t args 0
  simpa [entry] using this
theorem frzT_ok {G : Ghost} {A A' : List Box} {w : World} {base : Nat} {v v' : AV} {x : Value} (h : HRel G A w base) (hx : RV G w v x) (hf : frzT v A = some (v',A')) :
    ∃ G',HRel G' A' w base ∧ Ext G w G' w ∧ RV G' w v' x:=by
  unfold frzT at hf
  split at hf
  · rename_i cs
    cases hx with
    | tuple _ xs hs hh =>
      cases hq : frzs cs A with
      | none=>rw [hq] at hf; cases hf
      | some q =>
        rw [hq] at hf; cases hf
        obtain ⟨G',k1,k2,k3⟩:=frzs_ok h (RL.ofArr hs hh) hq
        refine ⟨G',k1,k2,.tuple _ xs (by have:=k3.1; simp at this; omega) fun i hi=>?_⟩
        have:=k3.toArr i hi
        simpa using this
  · exact frzC_ok h hx hf
def resOne (tmps : Array Value) (r : ResultVar) : Sem Value :=
  match r with
  | .tmp t=>pure (tmps.getD t undef)
  | .cell a t=>do loadVar t (← asAddr (tmps.getD a undef))
theorem results_eq (fn : Func) (tmps : Array Value) : results fn tmps = (do let vs ← fn.results.mapM (resOne tmps); pure (if h : vs.size = 1 then vs[0] else .tuple vs) : Sem Value):=rfl
theorem rvs_ok {P : Program} {G : Ghost} {A : List Box} {base : Nat} {w : World} {e : Env} {tmps : Array Value} (hh : HRel G A w base) (h : EnvOk G w e tmps) : ∀ {rs : List ResultVar} {vs : List AV},rvs P A e rs = some vs →
    ∃ xs,(rs.mapM (resOne tmps)).run P w = .ok xs w ∧ RL G w vs xs
  | [],vs,hv=>by simp only [rvs] at hv; cases hv; exact ⟨[],by simp,.nil⟩
  | .tmp t :: l,vs,hv=>by
    simp only [rvs] at hv
    cases hq : rvs P A e l with
    | none=>rw [hq] at hv; cases hv
    | some us =>
      rw [hq] at hv; cases hv
      obtain ⟨xs,h1,h2⟩:=rvs_ok (P:=P) hh h hq
      exact ⟨_ :: xs,by simp [List.mapM_cons,Result.andThen,resOne,h1],.cons (h t) h2⟩
  | .cell a t :: l,vs,hv=>by
    simp only [rvs] at hv
    split at hv
    · rename_i ti cs hti hcs
      split at hv
      · rename_i v hrc
        cases hq : rvs P A e l with
        | none=>rw [hq] at hv; cases hv
        | some us =>
          rw [hq] at hv; cases hv
          obtain ⟨xs,h1,h2⟩:=rvs_ok (P:=P) hh h hq
          obtain ⟨c,hl,hc⟩:=resCell_load hrc
          obtain ⟨ad,y,k1,k2,k3⟩:=loadVar_same (P:=P) hti hcs hl hc hh (h a)
          exact ⟨y :: xs,by simp [List.mapM_cons,Result.andThen,resOne,h1,k1,asAddr,k2],.cons k3 h2⟩
      · cases hv
    · cases hv
theorem retVal_ok {P : Program} {G : Ghost} {A : List Box} {base : Nat} {w : World} {e : Env} {tmps : Array Value} {fn : Func} {v : AV} (hh : HRel G A w base) (h : EnvOk G w e tmps) (hv : retVal P A fn.results.toList e = some v) : ∃ x,(results fn tmps).run P w = .ok x w ∧ RV G w v x:=by
  unfold retVal at hv
  cases hq : rvs P A e fn.results.toList with
  | none=>rw [hq] at hv; cases hv
  | some vs =>
    rw [hq] at hv
    obtain ⟨xs,h1,h2⟩:=rvs_ok (P:=P) hh h hq
    have hrun : (results fn tmps).run P w = .ok (if h : xs.toArray.size = 1 then xs.toArray[0] else .tuple xs.toArray) w:=by
      rw [results_eq,Array.mapM_eq_mapM_toList]
      simp [Result.andThen,h1]
    rw [hrun]
    split at hv
    · rename_i v0 hvs
      cases hvs
      cases hv
      obtain ⟨x,rfl,hx⟩:=h2.one
      exact ⟨x,by simp,hx⟩
    · rename_i vs' hne hvs
      cases hvs
      cases hv
      have hl:=h2.1
      have hn1 : xs.toArray.size ≠ 1:=fun h1=>by
        have h3 : vs.length = 1:=by simp at h1; omega
        match vs,h3,hne with
        | [a],_,hne=>exact hne a rfl
      rw [dif_neg hn1]
      exact ⟨_,rfl,.tuple vs _ (by simp [hl]) h2.toArr⟩
    · rename_i hvs; cases hvs
theorem acalls_intro {P : Program} {cf : Cfg} {f : FuncId} {fn : Func} {c : Code} {args : List AV} {A : List Box} {R : AV → List Box → Prop} (hm : P.follows .mixedOrders = true) (hf : P.funcs[f]? = some fn) (hb : fn.body = some c)
    (hN : fn.ntmps = cf.N) (hl : args.length ≤ cf.N) (h : wpc P cf c (ARet P fn.results.toList A R) (entry args) A) : ACalls P f args A R:=by
  intro G w base xs hH hx
  have hxl : args.length = xs.size:=by have:=hx.1; simpa using this
  refine calls_of_wp hf hb (wp_mono (wpc_ok (base:=base) (G:=G) (G0:=G) (w0:=w) hm c h ⟨rfl,by simp [hN]; omega,fun t=>?_,hH⟩ (Ext.refl _ _) (Below.refl _ _)) fun x a w' hp=>?_)
  · rw [look_entry]
    by_cases ht : t < args.length
    · have h1:=hx.toArr t ht
      have h2 : (xs ++ Array.replicate (fn.ntmps - xs.size) undef).getD t undef = xs.getD t undef:=by
        rw [Array.getD_eq_getD_getElem?,Array.getD_eq_getD_getElem?,Array.getElem?_append_left (by omega)]
      rw [h2]
      simpa using h1
    · have : args.getD t .bot = .bot:=by simp [List.getD,Nat.not_lt.1 ht]
      rw [this]; exact .bot _
  · obtain ⟨e',A',G',hq,hr,he,hbel⟩:=hp
    have fin : ARet P fn.results.toList A R .ret e' A' → a.defers = [] ∧ ∃ v,(results fn a.tmps).run P w' = .ok v w' ∧ ∃ x v' A' G',Ending.returned v = .returned x ∧ R v' A' ∧ RV G' w' v' x ∧ HRel G' A' w' base ∧ Ext G w G' w' ∧ Below base w w':=fun hq=>by
      refine ⟨hr.defers,?_⟩
      simp only [ARet] at hq
      split at hq
      · rename_i v hv
        obtain ⟨x,hx1,hx2⟩:=retVal_ok (P:=P) hr.heap hr.env hv
        split at hq
        · rename_i v' A1 hfr
          obtain ⟨q1,q2,q3⟩:=hq
          obtain ⟨G1,k1,k2,k3⟩:=frzT_ok hr.heap hx2 hfr
          have htl : (A1.take A.length).length = A.length:=by rw [List.length_take]; exact Nat.min_eq_left q2.1
          have hlow : ∀ i,i < (A1.take A.length).length → BoxLow (A1.take A.length).length ((A1.take A.length).getD i .dead):=fun i hi=>by
            rw [htl] at hi ⊢
            rw [getD_take _ _ _ _ hi]
            rcases q2.2 i hi with hh | hh
            · rw [hh]; exact hH.low' i hi
            · exact boxClosed_low hh
          have k1' : HRel G1 (A1.take A.length ++ A1.drop A.length) w' base:=by rw [List.take_append_drop]; exact k1
          have hcut:=k1'.cutL hlow
          rw [htl] at hcut
          have e1:=he.trans k2
          refine ⟨x,hx1,x,v',A1.take A.length,G1.cut A.length,rfl,q3,k3.cutL _ (closed_low q1),hcut,⟨by rw [hH.n]; exact Nat.le_refl _,e1.I,e1.cell,fun i hi=>e1.ids i hi,e1.fz⟩,hbel⟩
        · exact hq.elim
      · exact hq.elim
    cases x with
    | normal=>exact fin hq
    | ret=>exact fin hq
    | exit id=>exact hq.elim
    | goto l=>exact hq.elim
    | panic ch=>exact hq.elim
    | outgrown=>exact hq.elim
end Go.Abs
